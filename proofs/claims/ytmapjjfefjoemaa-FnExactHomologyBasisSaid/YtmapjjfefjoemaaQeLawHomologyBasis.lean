/- Texts put together: ToPl, EqPl, ToDs, NamOf, Blk, SBlk, CellR, Cnt, SCyc, Which, Prj, Same, SameD, Ren, QuoM, RegD, RegT, RegS, Vlk -/
import Derived.Test.YtmapjjfefjoemaaQdLawHomologyBasis
import Derived.Test.YtmapjjfefjoemaaChecked
import Derived.WalkKit
import Derived.WalkSpells
import Derived.WalkLawsBesides
import Derived.Deep.LoopGhost
import Derived.Deep.OwnRows
import Derived.Laws.Rows
import Derived.Laws.Tables
import Derived.Laws.CopyOwn
import Derived.ProofKit
import Derived.OpenShut
import Derived.ShutString
import Derived.ChangeOld
import Derived.Below
import Derived.Laws.OwnMore
import Derived.BigQuiet
import Derived.Deep.QuietTactic
import Derived.OwnWalk
import Derived.ChangeSlices
import Derived.RegionTactic
import Derived.Deep.Quiet
import Derived.StillTail
import Derived.Deep.Slices
import Derived.WideShapes
import Derived.Laws.CopyRow
import Derived.Deep.MidRow
import Derived.Deep.RegionWith
import Derived.ChangeKeysEq
import Derived.StillTailTactics
import Derived.Deep.RegionHeld3
import Derived.Laws.Cover3
import Derived.IntWalk
import Derived.Laws.StructEq
namespace Go.Proofs.Ytmapjjfefjoemaa
open Go.RowKit

set_option maxHeartbeats 400000 in
theorem toPlaces_any (f : Nat → Nat) (w : World) : Calls Try.prog 50 #[.agg (av f)] w fun e w' => e = .returned (.agg (av f)) ∧ Below w.heap.size w w' := by
  go_enter Try.func50, Try.ntmps50
  go_wp2
  rw [← av_zero]
  go_loopw [4] (fun i wr => ∃ k : Nat, k ≤ 16 ∧ i = .int .i64 k ∧ wr = ((w.alloc (.cells (av f) 22)).alloc (.cells (av fun _ => 0) 29)).alloc (.cells (av (upto f k)) 29)) (fun i _ => 16 - (intOf i).toNat)
  case atStart => exact ⟨0, by omega, rfl, by rw [upto_zero]⟩
  case round =>
    obtain ⟨k, hk, rfl, rfl⟩ := hrel
    by_cases hlt : k < 16
    · have h1 := av_get f hlt
      have h2 := av_get (upto f k) hlt
      have h3 := av_set (upto f k) k (f k)
      rw [upto_step] at h3
      go_wp2
      go_roundw
      case rel => exact ⟨k + 1, by omega, by go_num, rfl⟩
      case measure => simp [intOf]; omega
    · obtain rfl : k = 16 := by omega
      clear hlt hk
      rw [av_congr (f := upto f 16) (g := f) (fun i h => by simp [upto, h])]
      go_wp2_with (first
        | (refine ld0 aggP (av_size _) rfl _ rfl _ rfl (by simp) ?_)
        | (refine st1 aggP (av_size f) (av_size _) (av_cells f) rfl _ _ rfl (w.heap.size + 1) rfl rfl (by simp) ?_))
      exact res_agg (p := 2) (g := w.heap.size + 1) aggP (av_size f) rfl rfl rfl (heap1 (by simp)) ⟨rfl, below3 _ _ _ _⟩

end Go.Proofs.Ytmapjjfefjoemaa

namespace Go.Proofs.Ytmapjjfefjoemaa
open Go.RowKit
set_option maxHeartbeats 400000 in
theorem eqPlaces_same (f : Nat → Nat) (w : World) : Calls Try.prog 59 #[.agg (av f), .agg (av f)] w fun e w' => e = .returned (.bool true) ∧ Below w.heap.size w w' := by
  go_enter Try.func59, Try.ntmps59
  go_wp2
  go_loopw [5] (fun i wr => ∃ k : Nat, k ≤ 16 ∧ i = .int .i64 k ∧ Below w.heap.size w wr ∧ cellsOf wr w.heap.size = av f ∧ cellsOf wr (w.heap.size + 1) = av f) (fun i _ => 16 - (intOf i).toNat)
  case atStart => exact ⟨0, by omega, rfl, below2 _ _ _, cellsOf_heap (heap1 rfl), cellsOf_heap (heap_at _ _ _ (by simp))⟩
  case round =>
    obtain ⟨k, hk, rfl, hb, h0, h1⟩ := hrel
    by_cases hlt : k < 16
    · have c0 : wr.cell? ⟨w.heap.size, k, none⟩ = some (.int .u8 (f k)) := by rw [cell_of_cells, h0, av_get f hlt]
      have c1 : wr.cell? ⟨w.heap.size + 1, k, none⟩ = some (.int .u8 (f k)) := by rw [cell_of_cells, h1, av_get f hlt]
      have H0 := hide h0; clear h0
      have H1 := hide h1; clear h1
      go_wp2
      go_region
      all_goals go_wp2
      all_goals go_roundw
      case rel => exact ⟨k + 1, by omega, by go_num, hb.drew, H0.out, H1.out⟩
      case measure => simp [intOf]; omega
    · obtain rfl : k = 16 := by omega
      clear hlt hk h0 h1
      go_wp2
      go_ret
      exact ⟨rfl, hb⟩
end Go.Proofs.Ytmapjjfefjoemaa

namespace Go.Proofs.Ytmapjjfefjoemaa
open Go.RowKit Go.ChangeShapes Go.WideShapes

set_option maxRecDepth 100000 in
set_option maxHeartbeats 400000 in
theorem toDessin_any (n : Int) (f g : Nat → Nat) (w : World) : Calls Try.prog 16 #[.agg (dv n f g)] w fun e w' => e = .returned (.agg (dv n f g)) ∧ Below w.heap.size w w' := by
  have hn := dv_n n f g
  go_enter Try.func16, Try.ntmps16
  go_wp2_with fail
  rw [← dv_lit n, ← dv_lit 0]
  refine (toPlaces_any f _).mono ?_
  rintro e w1 ⟨rfl, h1⟩
  have c0 : cellsOf w1 w.heap.size = dv n f g := (below_cells h1 (by simp <;> omega)).trans (cellsOf_heap (heap2 rfl))
  have r1 : rowOk w1 (w.heap.size + 1) 33 := (below_row h1 (by simp <;> omega)).2 ⟨_, _, heap1 (by simp), dv_size _ _ _⟩
  have c2 : cellsOf w1 (w.heap.size + 1 + 1) = dv n (fun _ => 0) (fun _ => 0) := (below_cells h1 (by simp)).trans (cellsOf_heap (heap_at _ _ _ (by simp)))
  have r2 : rowOk w1 (w.heap.size + 1 + 1) 33 := (below_row h1 (by simp)).2 ⟨_, _, heap_at _ _ _ (by simp), dv_size _ _ _⟩
  have b1 := (below3 w (.cells (dv n f g) 24) (.cells (dv 0 (fun _ => 0) (fun _ => 0)) 31) (.cells (dv n (fun _ => 0) (fun _ => 0)) 31)).trans (h1.mono (by simp <;> omega))
  clear h1
  go_wp2_with fail
  refine (toPlaces_any g _).mono ?_
  rintro e w2 ⟨rfl, h2⟩
  have l1 := r1.lt
  have l2 := r2.lt
  have s1 : rowOk (w1.setRow (w.heap.size + 1 + 1) (dv n f fun _ => 0)) (w.heap.size + 1) 33 := (rowOk_setRow_ne (by omega)).2 r1
  have s2 : rowOk (w1.setRow (w.heap.size + 1 + 1) (dv n f fun _ => 0)) (w.heap.size + 1 + 1) 33 := rowOk_setRow r2 (dv_size _ _ _)
  have q1 : rowOk w2 (w.heap.size + 1) 33 := (below_row h2 (by simp; omega)).2 s1
  have q2 : rowOk w2 (w.heap.size + 1 + 1) 33 := (below_row h2 (by simp; omega)).2 s2
  have k2 : cellsOf w2 (w.heap.size + 1 + 1) = dv n f (fun _ => 0) := (below_cells h2 (by simp; omega)).trans (cellsOf_setRow r2)
  have b2 := (below_setRow b1 (show w.heap.size ≤ w.heap.size + 1 + 1 by omega) (dv n f fun _ => 0)).trans (h2.mono (by simp; omega))
  clear h2 b1 r1 r2 c0 c2 s1 s2 l1 l2
  go_wp2
  obtain ⟨t, ht, _⟩ := ((rowOk_setRow_ne (c' := dv n f g) (show w.heap.size + 1 ≠ w.heap.size + 1 + 1 by omega)).2 q1).heap
  exact res_agg (p := 2) (g := w.heap.size + 1) aggD (dv_size n f g) rfl rfl rfl (setRow_heap _ _ _ _ t (0, 0) ht) ⟨rfl, below_setRow (below_setRow b2 (by omega) _) (by omega) _⟩

section
variable {H : Type} {enc : TypeId × Value → H} {w : World} {base : Nat} {spare : Nat → Bool} {held : Bool}
set_option maxRecDepth 100000 in
/-- a dessin that came in -/
theorem open_dessin {r : Reach} {b0 : Nat} {v : Value} {d : DataW H} {ps : List MemPlace}
    (hval : Value.okWide Try.prog w r b0 24 v) (hd : DataW.Trod enc Try.prog w base spare held 24 v d ps) :
    ∃ (n : Int) (f g : Nat → Nat), (-9223372036854775808 ≤ n ∧ n ≤ 9223372036854775807) ∧ (∀ i, f i < 256) ∧ (∀ i, g i < 256) ∧ v = .agg (dv n f g) := by
  obtain ⟨cs, rfl, hs⟩ := okWide_struct Try.underlying24 hval
  have h33 : cs.size = 33 := hs.trans (by kernel_rfl)
  obtain ⟨fuel, hf⟩ := hd
  obtain ⟨xs, m, _, hx, _, hlen, hfl⟩ := DataW.trod_struct Try.underlying24 hf
  have hx3 : xs.length = 3 := hlen
  have h0 : DataW.trod enc Try.prog w base spare held m 2 (List.take (Try.prog.cellsOf 2) (List.drop 0 cs.toList)) = xs[0]? := hfl 0 _ rfl
  have h1 : DataW.trod enc Try.prog w base spare held m 22 (List.take (Try.prog.cellsOf 22) (List.drop 1 cs.toList)) = xs[1]? := hfl 1 _ rfl
  have h2 : DataW.trod enc Try.prog w base spare held m 22 (List.take (Try.prog.cellsOf 22) (List.drop 17 cs.toList)) = xs[2]? := hfl 2 _ rfl
  rw [List.getElem?_eq_getElem (by omega)] at h0 h1 h2
  have e2 : Try.prog.cellsOf 2 = 1 := by kernel_rfl
  have e16 : Try.prog.cellsOf 22 = 16 := by kernel_rfl
  have e1 : Try.prog.cellsOf 5 = 1 := by kernel_rfl
  rw [e2] at h0
  rw [e16] at h1 h2
  obtain ⟨n, hn, _, hw⟩ := DataW.trod_int Try.underlying2 h0
  have part : ∀ (o : Nat), o + 16 ≤ 33 → ∀ y, DataW.trod enc Try.prog w base spare held m 22 (List.take 16 (List.drop o cs.toList)) = some y → ∃ f : Nat → Nat, (∀ i, f i < 256) ∧ ∀ i, i < 16 → cs[o + i]? = some (.int .u8 (f i)) := by
    intro o ho y hy
    obtain ⟨ys, m', _, _, _, hl, hi⟩ := DataW.trod_array Try.underlying22 hy
    obtain ⟨f, hf, e⟩ := bytes_of (l := List.take 16 (List.drop o cs.toList)) Try.underlying5 (by simp; omega) hl (fun i h => by have := hi i h; rw [e1, Nat.mul_one] at this; exact this)
    refine ⟨f, hf, fun i h => ?_⟩
    have := congrArg (·[i]?) e
    simp only [List.getElem?_toArray, List.getElem?_take_of_lt h, List.getElem?_drop, Array.getElem?_toList, av_get f h] at this
    exact this
  obtain ⟨f, hf, hfc⟩ := part 1 (by omega) _ h1
  obtain ⟨g, hg, hgc⟩ := part 17 (by omega) _ h2
  refine ⟨n, f, g, bounds_i64 hw, hf, hg, ?_⟩
  congr 1
  apply Array.ext_getElem?
  intro i
  rw [get_cases]
  by_cases hi : i < 33
  · rw [if_pos hi]
    by_cases h0 : i = 0
    · subst h0
      rw [if_pos rfl]
      have := congrArg (·[0]?) hn
      simpa [List.getElem?_take] using this
    · rw [if_neg h0]
      by_cases h17 : i < 17
      · have := hfc (i - 1) (by omega)
        rw [show 1 + (i - 1) = i from by omega] at this
        rw [if_pos h17, this]
      · have := hgc (i - 17) (by omega)
        rw [show 17 + (i - 17) = i from by omega] at this
        rw [if_neg h17, this]
  · rw [if_neg hi, Array.getElem?_eq_none]; omega
end

end Go.Proofs.Ytmapjjfefjoemaa

namespace Go.Proofs.Ytmapjjfefjoemaa
open Go.RowKit

set_option maxRecDepth 100000 in
set_option maxHeartbeats 1000000 in
theorem isDart_any (n : Int) (f g : Nat → Nat) (x : Int) (w : World) :
    Calls Try.prog 63 #[.agg (dv n f g), .int .i64 x] w fun e w' => e = .returned (.bool (decide (0 ≤ x ∧ x < n))) ∧ Below w.heap.size w w' := by
  have hn := dv_n n f g
  by_cases h0 : 0 ≤ x
  · have hd : decide (0 ≤ x ∧ x < n) = decide (x < n) := by simp [h0]
    rw [hd]
    have hd0 : decide (0 ≤ x) = true := by simp [h0]
    clear hd
    go_enter Try.func63, Try.ntmps63
    go_wp2
    go_ret
    exact ⟨rfl, below1 _ _⟩
  · have hd : decide (0 ≤ x ∧ x < n) = false := by simp [h0]
    rw [hd]
    have hd0 : decide (0 ≤ x) = false := by simp [h0]
    clear hd
    go_enter Try.func63, Try.ntmps63
    go_wp2
    go_ret
    exact ⟨rfl, below1 _ _⟩
open Classical in
noncomputable def namR (n : Int) (f g : Nat → Nat) (x : Int) : Value :=
  if desB n f g = true then (if 0 ≤ x ∧ x < n then .tuple #[.agg (av (namF f g n.toNat x.toNat)), .int .i64 0] else .tuple #[.agg (av fun _ => 0), .int .i64 2]) else .tuple #[.agg (av fun _ => 0), .int .i64 1]
theorem namR_eq (n : Int) (f g : Nat → Nat) (x : Int) : ∃ (r : Nat → Nat) (c : Int), namR n f g x = .tuple #[.agg (av r), .int .i64 c] := by
  unfold namR; split
  · split
    · exact ⟨_, _, rfl⟩
    · exact ⟨_, _, rfl⟩
  · exact ⟨_, _, rfl⟩

-- left out here: loop.example/g01200/impl.NamingFrom
-- left out here: loop.example/g01200/spec.NamingFrom
-- left out here: loop.example/g01200/laws.FnExactNamingFrom
end Go.Proofs.Ytmapjjfefjoemaa

namespace Go.Proofs.Ytmapjjfefjoemaa
open Go.RowKit

/-- the darts with the number of x -/
def classL (m : Nat) (c : Nat → Nat) (x : Nat) : List Nat := (List.range m).filter fun i => c i == c x
def classP (k : Nat) (c : Nat → Nat) (x : Nat) : List Nat := (List.range k).filter fun i => c i == c x
theorem classP_yes {k x : Nat} {c : Nat → Nat} (h : c k = c x) : classP k c x ++ [k] = classP (k + 1) c x := by unfold classP; rw [List.range_succ, List.filter_append]; simp [h]
theorem classP_no {k x : Nat} {c : Nat → Nat} (h : ¬ c k = c x) : classP k c x = classP (k + 1) c x := by unfold classP; rw [List.range_succ, List.filter_append]; simp [h]
theorem classP_len (k : Nat) (c : Nat → Nat) (x : Nat) : (classP k c x).length ≤ k := by unfold classP; have := List.length_filter_le (fun i => c i == c x) (List.range k); simpa using this

-- left out here: loop.example/g01200/impl.leastBlock
open Classical in
noncomputable def blkR (n : Int) (f g : Nat → Nat) (x y : Int) : List Nat := if desB n f g = true ∧ (0 ≤ x ∧ x < n) ∧ 0 ≤ y ∧ y < n then classL n.toNat (joinR f g n.toNat [x.toNat, y.toNat] x.toNat) x.toNat else []
open Classical in
noncomputable def blkC (n : Int) (f g : Nat → Nat) (x y : Int) : Int := if desB n f g = true then (if (0 ≤ x ∧ x < n) ∧ 0 ≤ y ∧ y < n then 0 else 2) else 1
theorem blkR_bound (n : Int) (f g : Nat → Nat) (x y : Int) : (blkR n f g x y).length ≤ 16 := by
  unfold blkR
  split
  · rename_i h
    obtain ⟨m, rfl, hd⟩ := desB_true h.1
    have := classP_len m (joinR f g m [x.toNat, y.toNat] x.toNat) x.toNat
    have := hd.le
    rw [Int.toNat_natCast]
    show (classP m _ _).length ≤ 16
    omega
  · simp
theorem rd_two {w : World} {g x y : Nat} {t : TypeId} {fr : Nat × Nat} (h : w.heap[g]? = some (.cells #[.int .i64 x, .int .i64 y] t fr)) : RdZ w (.slice (some ⟨g, 0, none⟩) 2 2) (ints [x, y]) := by
  refine ⟨some ⟨g, 0, none⟩, 2, rfl, by simp [ints], fun i z hi => ⟨⟨g, 0, none⟩, rfl, lt_of_some h, ?_⟩⟩
  rcases i with _ | _ | i
  · simp [ints] at hi
    subst hi
    show w.cell? ⟨g, 0, none⟩ = _
    unfold World.cell?
    simp [h]
  · simp [ints] at hi
    subst hi
    show w.cell? ⟨g, 1, none⟩ = _
    unfold World.cell?
    simp [h]
  · simp [ints] at hi

-- left out here: loop.example/g01200/impl.BlockOf
end Go.Proofs.Ytmapjjfefjoemaa

namespace Go.Proofs.Ytmapjjfefjoemaa
open Go.RowKit

/-- sixteen numbers -/
@[irreducible] def zv (f : Nat → Nat) : Array Value := row 16 fun i => .int .i64 (f i)
theorem zv_size (f : Nat → Nat) : (zv f).size = 16 := by unfold zv; exact row_size _ _
theorem zv_get (f : Nat → Nat) {i : Nat} (h : i < 16) : (zv f)[i]? = some (.int .i64 (f i)) := by unfold zv; exact row_get _ _ h
theorem zv_set (f : Nat → Nat) (i v : Nat) : (zv f).setIfInBounds i (.int .i64 v) = zv (fset f i v) := by
  unfold zv
  rw [row_set]
  apply row_congr
  intro j _
  unfold fset
  by_cases c : j = i
  · rw [if_pos c, if_pos c]
  · rw [if_neg c, if_neg c]
theorem zv_zero : zv (fun _ => 0) = #[.int .i64 0, .int .i64 0, .int .i64 0, .int .i64 0, .int .i64 0, .int .i64 0, .int .i64 0, .int .i64 0, .int .i64 0, .int .i64 0, .int .i64 0, .int .i64 0, .int .i64 0, .int .i64 0, .int .i64 0, .int .i64 0] := by
  unfold zv row; rfl
/-- rows of pairs of numbers -/
def pairZ (l : List (Nat × Nat)) : List Value := l.flatMap fun p => [Value.int .i64 (p.1 : Int), Value.int .i64 (p.2 : Int)]
theorem pairZ_length (l : List (Nat × Nat)) : (pairZ l).length = l.length * 2 := by unfold pairZ; induction l <;> simp_all <;> omega
theorem pairZ_append (l l' : List (Nat × Nat)) : pairZ (l ++ l') = pairZ l ++ pairZ l' := by unfold pairZ; simp
theorem pairZ_at {l : List (Nat × Nat)} {k : Nat} (hk : k < l.length) : (pairZ l)[k * 2]? = some (.int .i64 (l[k].1 : Int)) ∧ (pairZ l)[k * 2 + 1]? = some (.int .i64 (l[k].2 : Int)) := by
  induction l generalizing k with
  | nil => simp at hk
  | cons p l ih =>
    rcases k with _ | k
    · exact ⟨rfl, rfl⟩
    · have := ih (k := k) (by simpa using hk)
      have e : pairZ (p :: l) = [Value.int .i64 (p.1 : Int), Value.int .i64 (p.2 : Int)] ++ pairZ l := rfl
      rw [e, List.getElem?_append_right (by simp; omega), List.getElem?_append_right (by simp; omega)]
      simp only [List.length_cons, List.length_nil, List.getElem_cons_succ]
      rw [show (k + 1) * 2 - (0 + 1 + 1) = k * 2 by omega, show (k + 1) * 2 + 1 - (0 + 1 + 1) = k * 2 + 1 by omega]
      exact this
theorem pairZ_one {l : List (Nat × Nat)} : ∀ u ∈ pairZ l, u.oneCell' = true := by
  intro u hu
  unfold pairZ at hu
  obtain ⟨p, _, hp⟩ := List.mem_flatMap.1 hu
  simp at hp
  rcases hp with rfl | rfl <;> rfl
theorem infoPz : (Try.prog.info? 116).map (fun i => (i.zero, i.size, i.bytes)) = some (some (.agg #[.int .i64 0, .int .i64 0]), 2, 16) := by kernel_rfl
def pPairsZ (v : Value) (l : List (Nat × Nat)) : Part := pRow v 116 2 l.length (pairZ l)
theorem Holds.pairsZ {w0 w : World} {L : List Part} (h : Holds w0 w L) (i : Nat) {v : Value} {l : List (Nat × Nat)} (hi : L[i]? = some (pPairsZ v l)) {k : Nat} (hk : k < l.length) :
    ∃ g c, v = .slice (some ⟨g, 0, none⟩) l.length c ∧ g < w.heap.size ∧ w.cell? ⟨g, k * 2, none⟩ = some (.int .i64 (l[k].1 : Int)) ∧ w.cell? ⟨g, k * 2 + 1, none⟩ = some (.int .i64 (l[k].2 : Int)) := by
  obtain ⟨g, c, h1, h2, h3, h4, h5, h6, h7⟩ := row_at (h.row i hi) (by omega : 0 < l.length)
  exact ⟨g, c, h1, h3, h6 _ _ (pairZ_at hk).1, h6 _ _ (pairZ_at hk).2⟩
theorem Holds.pairsZForm {w0 w : World} {L : List Part} (h : Holds w0 w L) (i : Nat) {v : Value} {l : List (Nat × Nat)} (hi : L[i]? = some (pPairsZ v l)) : ∃ A c, v = .slice A l.length c := own_slice (h.row i hi)
-- left out here: None
-- left out here: None
/-- the first k numbers themselves -/
theorem same_step {k m : Nat} (h : k < m) : fset (sameN k) k k = sameN (k + 1) := by
  funext i
  unfold fset sameN
  by_cases e : i = k
  · subst e; simp
  · have : i < k + 1 ↔ i < k := by omega
    simp [e, this]
/-- the merging, j darts on -/
def mgT (j : Nat) (c : Nat → Nat) (a b : Nat) : Nat → Nat := fun i => if i < j ∧ c i = c b then c a else c i
theorem mgT_all (m : Nat) (c : Nat → Nat) (a b : Nat) : mgT m c a b = mgS m c a b := rfl
theorem mgT_zero (c : Nat → Nat) (a b : Nat) : mgT 0 c a b = c := by funext i; simp [mgT]
theorem mgT_at (j : Nat) (c : Nat → Nat) (a b : Nat) : mgT j c a b j = c j := by simp [mgT]
theorem mgT_yes {j : Nat} {c : Nat → Nat} {a b : Nat} (h : c j = c b) : fset (mgT j c a b) j (c a) = mgT (j + 1) c a b := by
  funext i
  unfold fset mgT
  by_cases e : i = j
  · subst e; simp [h]
  · have : i < j + 1 ↔ i < j := by omega
    simp [e, this]
theorem mgT_no {j : Nat} {c : Nat → Nat} {a b : Nat} (h : ¬ c j = c b) : mgT j c a b = mgT (j + 1) c a b := by
  funext i
  unfold mgT
  by_cases e : i = j
  · subst e; simp [h]
  · have : i < j + 1 ↔ i < j := by omega
    simp [this]
@[irreducible] def joinS (f g : Nat → Nat) (m x y : Nat) : Nat → Nat := (jrun (mgS m) f g ([(x, y)], sameN m) 64).2
theorem joinS_fact (f g : Nat → Nat) (m : Nat) (hf : ∀ i, i < m → f i < m) (hg : ∀ i, i < m → g i < m) (x y : Nat) (hx : x < m) (hy : y < m) (hm : m ≤ 16 := by omega) :
    ∃ F : Nat → JS, (∀ k, JInv m 33 (F k)) ∧ F 0 = ([(x, y)], sameN m) ∧ (∀ k, F (k + 1) = jst (mgS m) f g (F k) k) ∧ (∀ k, k ≤ 64 → (F k).1.length ≤ k → joinS f g m x y = (F k).2) := by
  refine ⟨jrun (mgS m) f g ([(x, y)], sameN m), fun k => ?_, rfl, fun k => rfl, fun k h1 h2 => ?_⟩
  · have := jrun_inv (mgS_ok m) hf hg (JInv.start [(x, y)] (by simpa using ⟨hx, hy⟩)) k
    refine ⟨this.lt, this.num, this.far, Nat.le_trans this.len ?_⟩
    simp only [List.length_cons, List.length_nil]; omega
  · unfold joinS
    generalize 64 = K at *
    rw [jrun_stop h2 h1]
theorem class_gen (K : Nat) (f g : Nat → Nat) (m : Nat) (hf : ∀ i, i < m → f i < m) (hg : ∀ i, i < m → g i < m) (x y : Nat) (hx : x < m) (hy : y < m) (hK : 2 * m + 1 ≤ K) :
    classL m (jrun (mgS m) f g ([(x, y)], sameN m) (K + 1)).2 x = classL m (jrun (mgI m) f g ([(x, x), (x, y)], sameN m) (K + 1)).2 x := by
  have I := jrun_inv (mgS_ok m) hf hg (JInv.start [(x, y)] (by simpa using ⟨hx, hy⟩)) K
  have hl := I.len
  simp only [List.length_cons, List.length_nil] at hl
  rw [jrun_stop (i := K) (j := K + 1) (by omega) (by omega)]
  have h2 := (jrun_two (mgI_ok m) (mgS_ok m) hf hg hx hy K).2
  unfold classL
  apply List.filter_congr
  intro i hi
  have := h2 i x (List.mem_range.1 hi) hx
  rw [Bool.eq_iff_iff]
  simp only [beq_iff_eq]
  exact this.symm
/-- both tell the same block -/
theorem class_both (f g : Nat → Nat) (m : Nat) (hf : ∀ i, i < m → f i < m) (hg : ∀ i, i < m → g i < m) (x y : Nat) (hx : x < m) (hy : y < m) (hm : m ≤ 16) : classL m (joinS f g m x y) x = classL m (joinR f g m [x, y] x) x := by
  unfold joinS joinR
  exact class_gen 63 f g m hf hg x y hx hy (by omega)

-- left out here: loop.example/g01200/spec.l03Block
end Go.Proofs.Ytmapjjfefjoemaa

namespace Go.Proofs.Ytmapjjfefjoemaa
open Go.RowKit

theorem Holds.cellR {w0 w : World} {L : List Part} (h : Holds w0 w L) (i : Nat) {g n c : Nat} {e : TypeId} {s : Nat} {xs : List Value} (hi : L[i]? = some (pRow (.slice (some ⟨g, 0, none⟩) n c) e s n xs)) {j : Nat} {u : Value} (hj : xs[j]? = some u) : w.cell? ⟨g, j, none⟩ = some u := by
  have hn : 0 < n := by
    have h1 := (h.row i hi).1
    have h2 := (List.getElem?_eq_some_iff.1 hj).1
    rcases Nat.eq_zero_or_pos n with rfl | c
    · simp at h1; subst h1; simp at h2
    · exact c
  obtain ⟨g', c', e1, _, _, _, _, h6, _⟩ := row_at (h.row i hi) hn
  injection e1 with e1
  injection e1 with e1
  injection e1 with e1
  subst e1
  exact h6 j u hj
theorem Holds.frozenR {w0 w : World} {L : List Part} (h : Holds w0 w L) (i : Nat) {g n c : Nat} {e : TypeId} {s : Nat} {xs : List Value} (hi : L[i]? = some (pRow (.slice (some ⟨g, 0, none⟩) n c) e s n xs)) (hn : 0 < n) (j : Nat) : w.frozen? ⟨g, j, none⟩ = false := by
  obtain ⟨g', c', e1, _, _, _, _, _, h7⟩ := row_at (h.row i hi) hn
  injection e1 with e1
  injection e1 with e1
  injection e1 with e1
  subst e1
  exact h7 j
theorem Holds.cellV {w0 w : World} {L : List Part} (h : Holds w0 w L) (i : Nat) {g n c : Nat} {vs : List Value} (hi : L[i]? = some (pVals (.slice (some ⟨g, 0, none⟩) n c) vs)) (hl : vs.length = n) {j : Nat} {u : Value} (hj : vs[j]? = some u) : w.cell? ⟨g, j, none⟩ = some u := by
  subst hl
  exact h.cellR i hi hj
end Go.Proofs.Ytmapjjfefjoemaa

namespace Go.Proofs.Ytmapjjfefjoemaa
open Go.RowKit

theorem tuple2 {a b c d : Value} (h1 : a = c) (h2 : b = d) : Ending.returned (.tuple #[a, b]) = .returned (.tuple #[c, d]) := by rw [h1, h2]
theorem cycs_le {p : Nat → Nat} {m : Nat} (hp : PermN p m) : (cycs p m).length ≤ m := by
  rw [cycs_length hp.2.2.1 hp.2.1]; exact orb_le p m

-- left out here: loop.example/g01200/impl.countCycles
end Go.Proofs.Ytmapjjfefjoemaa

namespace Go.Proofs.Ytmapjjfefjoemaa
open Go.RowKit

set_option maxRecDepth 100000 in
set_option maxHeartbeats 1000000 in
theorem sCycles_any (p : Nat → Nat) (m : Nat) (hp : PermN p m) (w : World) :
    Calls Try.prog 67 #[.agg (av p), .int .i64 m] w fun e w' => ∃ v, e = .returned v ∧ Below w.heap.size w w' ∧ Own2 w.heap.size w' v (cycs p m) := by
  obtain ⟨hm1, hm2, hbij, _⟩ := hp
  have HB := hide hbij; clear hbij
  obtain ⟨i0, hi, hz0, hz1, hz2⟩ := info_parts info64
  obtain ⟨j0, hj, hy0, hy1, hy2⟩ := info_parts infoSl
  have I0 := hide (And.intro hi (And.intro hz0 (And.intro hz1 hz2))); clear hi hz0 hz1 hz2
  have J0 := hide (And.intro hj (And.intro hy0 (And.intro hy1 hy2))); clear hj hy0 hy1 hy2
  go_enter Try.func67, Try.ntmps67
  go_wp2
  rw [← bv_false]
  go_loopw [5, 7] (fun out i wr => ∃ k : Nat, k ≤ m ∧ i = .int .i64 k ∧ Below w.heap.size w wr ∧ cellsOf wr w.heap.size = av p ∧ wr.heap[w.heap.size + 1 + 1]? = some (.cells (bv (cycs.met p k)) 85 (0, 0)) ∧ Own2 (w.heap.size + 1) wr out (cycs p k))
    (fun _ i _ => m - (intOf i).toNat)
  case atStart =>
    refine ⟨0, by omega, rfl, below3 _ _ _ _, cellsOf_heap (heap2 rfl), heap_at _ _ _ (by simp), [], rfl, ?_, fun i u l h => by simp at h, fun i j u u' _ h => by simp at h⟩
    have h := (own_empty (w.alloc (.cells (av p) 29)) 25 1 (w.heap.size + 1) (by simp)).alloc (.cells (bv fun _ => false) 85)
    simp only [World.size_alloc] at h
    exact h
  case round =>
    obtain ⟨k, hk, rfl, hb, hcp, hhm, hown⟩ := hrel
    by_cases hlt : k < m
    · have hlt16 : k < 16 := by omega
      have l1 : w.heap.size + 1 + 1 < wr.heap.size := by
        rcases Nat.lt_or_ge (w.heap.size + 1 + 1) wr.heap.size with c | c
        · exact c
        · rw [Array.getElem?_eq_none c] at hhm; cases hhm
      obtain ⟨J, hJ16, hJf, hJt, hJc, hJm⟩ := cyc_J HB.out hm2 hlt
      have HC := hide hcp; clear hcp
      have HM := hide hhm; clear hhm
      have HJf := hide hJf; clear hJf
      have HJt := hide hJt; clear hJt
      have HJc := hide hJc; clear hJc
      have HJm := hide hJm; clear hJm
      go_wp2
      obtain ⟨wo, rfl⟩ : ∃ wo : World, wo = wr := ⟨_, rfl⟩
      go_loopg [8, 9] J (fun gd own x wr => ∃ j : Nat, j ≤ J ∧ gd = J - j ∧ x = .int .i64 (it p j k) ∧ it p j k < m ∧ Own1 wo.heap.size wr own (orbTo p k j) ∧
          cellsOf wr w.heap.size = av p ∧ wr.heap[w.heap.size + 1 + 1]? = some (.cells (bv (Mj p (cycs.met p k) k j)) 85 (0, 0)) ∧ wo.grownBy wr (some (w.heap.size + 1 + 1)))
      case atStart => exact ⟨0, by omega, by omega, rfl, hlt, own_empty wo 2 1 _ (Nat.le_refl _), by rw [cellsOf_past (by omega)]; exact HC.out, by rw [heap_past _ _ _ l1, Mj_zero]; exact HM.out, grown_alloc (grown_refl _ _) _⟩
      case round =>
        obtain ⟨j, hj, rfl, rfl, hx, hown1, hcp1, hhm1, hg1⟩ := hrel
        have HCP := hide hcp1; clear hcp1
        have hszs : wo.heap.size ≤ wr.heap.size := hg1.size
        have hcm1 : cellsOf wr (w.heap.size + 1 + 1) = bv (Mj p (cycs.met p k) k j) := cellsOf_heap hhm1
        have HCM := hide hcm1; clear hcm1
        have HH := hide hhm1; clear hhm1
        by_cases hjp : j < J
        · have c0 : wr.cell? ⟨w.heap.size + 1 + 1, it p j k, none⟩ = some (.bool false) := by rw [cell_of_cells, HCM.out, bv_get _ (by omega), HJf.out j hjp]
          have f0 : wr.frozen? ⟨w.heap.size + 1 + 1, it p j k, none⟩ = false := by have := HH.out; simp [World.frozen?, this]
          generalize hX : it p j k = X at *
          have HX := hide hX; clear hX
          have hownA : (wr.setCell ⟨w.heap.size + 1 + 1, X, none⟩ (.bool true)).ownsRow wo.heap.size 2 1 u8 (orbTo p k j).length (nums (orbTo p k j)) := ownsRow_setCell_below hown1 (by show w.heap.size + 1 + 1 < wo.heap.size; omega) _
          have hlen : (orbTo p k j).length = j := orbTo_length p k j
          have HL := hide hlen; clear hlen
          have hX16 : X < 16 := by omega
          go_wp2_with (at_builtin; refine wpList_append_own _ rfl _ _ 25 rfl wo.heap.size 2 i0 (.int .i64 0) 1 8 Try.underlying25 I0.out.1 I0.out.2.1 I0.out.2.2.1 I0.out.2.2.2 rfl (by decide) _ _ _ rfl (hownA.alloc _) ⟨wr.heap.size, 0, none⟩ 1 1 [.int .i64 X] rfl rfl ?c1 ?c2 ?c3 ?c4 ?c5 ?_)
          case c1 => exact one_new _ _ _ _ (by simp)
          case c2 => intro u hu; simp at hu; subst hu; rfl
          case c3 => rw [HL.out]; unfold maxLen; omega
          case c4 => rw [HL.out]; omega
          case c5 => simp; omega
          intro v' w1 hown' hg' _
          have hrow : ∀ g, u8.ownBlock = some g → wo.heap.size ≤ g := fun g hg => (hownA.lt g hg).1
          have G0 := grown_alloc (grown_setCell (i := X) (v := .bool true) hg1) (.cells #[.int .i64 X] 2)
          have G1 := grown_step G0 hg' (fun g hg => .inl (hrow g hg))
          have hpc : cellsOf w1 w.heap.size = av p := by
            rw [grown_cells hg' (by simp; omega) (fun e => by have := hrow _ e.symm; omega), cellsOf_past (by simp; omega), cellsOf_setCell_ne (by omega)]; exact HCP.out
          have hmc : w1.heap[w.heap.size + 1 + 1]? = some (.cells (bv (Mj p (cycs.met p k) k (j + 1))) 85 (0, 0)) := by
            rw [hg'.block _ (by simp; omega) (fun e => by have := hrow _ e.symm; omega), heap_past _ _ _ (by simp; omega), heap_setCell_same _ _ _ _ _ _ HH.out, bv_set, ← HX.out, Mj_step]
          have hpx : p X < m := HB.out.1 X hx
          have c2 : w1.cell? ⟨w.heap.size, X, none⟩ = some (.int .u8 (p X)) := by rw [cell_of_cells, hpc, av_get p hX16]
          have hO : Own1 wo.heap.size w1 v' (orbTo p k (j + 1)) := by
            rw [orbTo_step, HX.out]
            unfold Own1 nums at *
            simpa using hown'
          have hit : it p (j + 1) k = p X := by rw [← HX.out]; rfl
          have H1 := hide hpc; clear hpc
          have H2 := hide hmc; clear hmc
          have HIT := hide hit; clear hit
          clear hown' hg' G0 hownA hrow c0 f0
          go_wp2
          go_roundg (J - (j + 1))
          case measure => omega
          case rel => exact ⟨j + 1, by omega, rfl, by rw [HIT.out], by rw [HIT.out]; exact hpx, hO, H1.out, H2.out, G1⟩
        · obtain rfl : j = J := by omega
          have hX16 : it p j k < 16 := by omega
          have c0 : wr.cell? ⟨w.heap.size + 1 + 1, it p j k, none⟩ = some (.bool true) := by rw [cell_of_cells, HCM.out, bv_get _ hX16, HJt.out]
          obtain ⟨A, cc, rfl⟩ := own_slice hown1
          have hll : (orbTo p k j).length = j := orbTo_length p k j
          rw [hll]
          have HL := hide hll; clear hll
          have hbr : Below w.heap.size w wr := hb.grown hg1 hb.size (fun g hg => by simp at hg; omega)
          obtain ⟨vs, hvl, ho0, hi0, hd0⟩ := hown
          have hC : ∀ (i : Nat) (x : Value), vs[i]? = some x → ∀ g, x.ownBlock = some g → g < wo.heap.size := by
            intro i x hx1 g hg
            have : i < (cycs p k).length := by rw [← hvl]; exact (List.getElem?_eq_some_iff.1 hx1).1
            exact (World.ownsRow.lt (hi0 i x _ hx1 (List.getElem?_eq_getElem this)) g hg).2
          have hk2 : Own2 (w.heap.size + 1) wr u5 (cycs p k) := Own2.keptBlk ⟨vs, hvl, ho0, hi0, hd0⟩ hg1 HM.out (by decide) (by decide)
          have ho1 := ho0.kept hg1 (own_ne_blk ho0 HM.out (by decide))
          have hi1 : ∀ (i : Nat) (u : Value) (l : List Nat), vs[i]? = some u → (cycs p k)[i]? = some l → Own1 (w.heap.size + 1) wr u l := fun i u l h1 h2 => (hi0 i u l h1 h2).kept hg1 (own_ne_blk (hi0 i u l h1 h2) HM.out (by decide))
          have hvs16 : vs.length ≤ 16 := by rw [hvl]; exact cycs_len_le HB.out hm2 (by omega)
          have HVL := hide hvl; clear hvl
          have HI := hide hi1; clear hi1 hi0
          have HD := hide hd0; clear hd0
          have HCC := hide hC; clear hC
          have HO := hide hk2; clear hk2
          clear ho0
          by_cases hj0 : j = 0
          · have H00 := hide hj0
            have hd : decide (0 < j) = false := by simp; omega
            clear hj0
            go_wp2
            go_roundw
            case rel => exact ⟨k + 1, by omega, by go_num, hbr, HCP.out, by rw [HJm.out]; exact HH.out, by rw [HJc.out, if_pos H00.out]; exact HO.out⟩
            case measure => simp [intOf]; omega
          · have hd : decide (0 < j) = true := by simp; omega
            have hjp0 : 0 < j := by omega
            go_wp2_with (at_builtin; refine wpList_append_own _ rfl _ _ 26 rfl (w.heap.size + 1) 25 j0 (.slice none 0 0) 1 24 Try.underlying26 J0.out.1 J0.out.2.1 J0.out.2.2.1 J0.out.2.2.2 rfl (by decide) _ _ _ rfl (ho1.alloc _) ⟨wr.heap.size, 0, none⟩ 1 1 [.slice A j cc] rfl rfl ?d1 ?d2 ?d3 ?d4 ?d5 ?_)
            case d1 => exact one_new _ _ _ _ (by simp)
            case d2 => intro u hu; simp at hu; subst hu; rfl
            case d3 => unfold maxLen; omega
            case d4 => omega
            case d5 => simp; omega
            intro v' w1 hown' hg' _
            have hrow : ∀ g, u5.ownBlock = some g → w.heap.size + 1 ≤ g := fun g hg => (ho1.lt g hg).1
            have hnm := own_ne_blk ho1 HH.out (by decide)
            have hpc : cellsOf w1 w.heap.size = av p := by
              rw [grown_cells hg' (by simp; omega) (fun e => by have := hrow _ e.symm; omega), cellsOf_past (by omega)]; exact HCP.out
            have hmc : w1.heap[w.heap.size + 1 + 1]? = some (.cells (bv (cycs.met p (k + 1))) 85 (0, 0)) := by
              rw [hg'.block _ (by simp; omega) (fun e => by rcases hnm with c | c; rw [c] at e; cases e; exact c e.symm), heap_past _ _ _ (by omega), HJm.out]; exact HH.out
            have hbw : Below w.heap.size w w1 := (hbr.alloc hbr.size _).grown hg' (by have := hbr.size; simp; omega) (fun g hg => by have := hrow g hg; omega)
            have hOO : Own2 (w.heap.size + 1) w1 v' (cycs p (k + 1)) := by
              rw [HJc.out, if_neg hj0]
              have hown1' : Own1 wo.heap.size wr (.slice A j cc) (orbTo p k j) := by have := hown1; rwa [HL.out] at this
              exact Own2.add HVL.out (ho1.alloc _) (fun i u l h1 h2 => World.ownsRow.alloc (HI.out i u l h1 h2) _) HD.out (World.ownsRow.alloc hown1' _) (by omega) HCC.out hown' hg'
            have H1 := hide hpc; clear hpc
            have H2 := hide hmc; clear hmc
            have H3 := hide hOO; clear hOO
            clear hown' hg' ho1 hrow c0 hnm
            go_wp2
            go_roundw
            case rel => exact ⟨k + 1, by omega, by go_num, hbw, H1.out, H2.out, H3.out⟩
            case measure => simp [intOf]; omega
    · obtain rfl : k = m := by omega
      clear hlt hk hcp hhm
      go_wp2
      go_ret
      exact ⟨_, rfl, hb, hown.mono (by omega)⟩
end Go.Proofs.Ytmapjjfefjoemaa

namespace Go.Proofs.Ytmapjjfefjoemaa
open Go.RowKit

theorem aggZ : AggT 112 16 := ⟨⟨_, Try.underlying112, rfl⟩, by kernel_rfl⟩
theorem zv_cells (f : Nat → Nat) : (zv f).all (·.oneCell') = true := by unfold zv row; simp [Value.oneCell']
@[go_sem] theorem is16_zv (f : Nat → Nat) : Is16 (zv f) ↔ True := ⟨fun _ => trivial, fun _ => zv_size f⟩
@[go_sem] theorem ones_zv (f : Nat → Nat) : Ones (zv f) ↔ True := ⟨fun _ => trivial, fun _ => zv_cells f⟩
section
variable (ρ : Operand → Value) (dst : Option Tmp) (x y : Operand) (ty : TypeId) (pos : String) (after : Array Edge) (guard : Option (Nat × Bool)) {w : World} {g : Nat} {cs : Array Value}
@[go_sem ↓] theorem exec_loadZ : execOp ρ { dst, op := .load 112 x, type := ty, pos, after, guard } = loadT 112 (ρ x) := rfl
@[go_sem ↓] theorem exec_storeZ : execOp ρ { dst, op := .store 112 x y, type := ty, pos, after, guard } = storeT 112 (ρ x) (ρ y) := rfl
@[go_sem] theorem run_loadZ (h : Is16 (cellsOf w g)) : (loadT 112 (.pointer (some ⟨g, 0, none⟩))).run Try.prog w = .ok (.value (.agg (cellsOf w g))) w := run_loadT aggZ h (by decide)
@[go_sem] theorem run_storeZ (h : rowOk w g 16) (hs : Is16 cs) (hc : Ones cs) : (storeT 112 (.pointer (some ⟨g, 0, none⟩)) (.agg cs)).run Try.prog w = .ok .skip (w.setRow g cs) := run_storeT aggZ h hs hc
end
/-- numbers laid down along one cycle, along all of them -/
def numA (c : List Nat) (i : Nat) : Nat → (Nat → Nat) → Nat → Nat
  | 0, h => h
  | j + 1, h => fset (numA c i j h) (c.getD j 0) i
def numT (cs : List (List Nat)) : Nat → Nat → Nat
  | 0 => fun _ => 0
  | i + 1 => numA (cs.getD i []) i (cs.getD i []).length (numT cs i)
def whichF (p : Nat → Nat) (m : Nat) : Nat → Nat := numT (cycs p m) (cycs p m).length
theorem cyc_lt {p : Nat → Nat} {m x : Nat} {c : List Nat} (hp : PermN p m) (h1 : c ∈ cycs p m) (h2 : x ∈ c) : x < m :=
  List.mem_range.1 ((cycs_flat hp.2.2.1 hp.2.1).subset (List.mem_flatten.2 ⟨c, h1, h2⟩))

set_option maxRecDepth 100000 in
set_option maxHeartbeats 1000000 in
theorem cycleNumbers_any (p : Nat → Nat) (m : Nat) (hp : PermN p m) (w : World) :
    Calls Try.prog 115 #[.agg (av p), .int .i64 m] w fun e w' => e = .returned (.agg (zv (whichF p m))) ∧ Below w.heap.size w w' := by
  have C1 := hide fun w => cycleList_any p m hp w
  have hbd := hide fun (x : Nat) (c : List Nat) (h1 : c ∈ cycs p m) (h2 : x ∈ c) => cyc_lt hp h1 h2
  have hcl := hide fun (c : List Nat) (h1 : c ∈ cycs p m) => (lens_pos hp.2.2.1 hp.2.1 (List.mem_map.2 ⟨c, h1, rfl⟩)).2
  have hle := cycs_le hp
  have hm := hp.2.1
  have hw : whichF p m = numT (cycs p m) (cycs p m).length := rfl
  rw [hw]
  clear hp hw
  generalize cycs p m = cs at *
  have HH0 := (((Holds.start w).blk (av p) 29 w.heap.size rfl).blk (zv fun _ => 0) 112 (w.heap.size + 1) (by simp)).blk (zv fun _ => 0) 112 (w.heap.size + 1 + 1) (by simp)
  go_enter Try.func115, Try.ntmps115
  go_wp2_with fail
  try rw [← zv_zero]
  refine (C1.out _).mono ?_
  rintro e w1 ⟨v, rfl, hb, ho⟩
  obtain ⟨A, c, vs, rfl, hv⟩ := own2_form ho
  have HLV := hide hv.len
  have HH1 := HH0.joinL (Holds.ofOwn2 hb hv)
  clear hb ho hv HH0
  go_wp2
  go_loopw [14] (fun t wr => ∃ i : Nat, i ≤ cs.length ∧ t = .int .i64 i ∧ Holds w wr (pBlk (w.heap.size + 1 + 1) (zv (numT cs i)) 112 :: pBlk (w.heap.size + 1) (zv fun _ => 0) 112 :: pBlk w.heap.size (av p) 29 :: pVals (.slice A cs.length c) vs :: rowsP vs cs)) (fun t _ => cs.length - (intOf t).toNat)
  case atStart => exact ⟨0, by omega, rfl, HH1⟩
  case round =>
    clear HH1
    obtain ⟨i, hi, rfl, hH⟩ := hrel
    by_cases hil : i < cs.length
    · have hil' : (i : Int) < cs.length := by omega
      obtain ⟨g0, c0, A', c', e0, hvi, x1, hpart⟩ := hH.rowAt HLV.out 3 rfl (fun _ => rfl) hil
      injection e0 with e0 e0a e0b
      subst e0
      clear e0a e0b
      have HX := hide hvi; clear hvi
      have hs : numT cs (i + 1) = numA cs[i] i cs[i].length (numT cs i) := by
        show numA (cs.getD i []) i (cs.getD i []).length (numT cs i) = _
        rw [List.getD_eq_getElem?_getD, List.getElem?_eq_getElem hil]; rfl
      have hmem := List.getElem_mem hil
      have hbi := fun x hx => hbd.out x _ hmem hx
      have hcil := hcl.out _ hmem
      generalize numT cs i = h0 at *
      generalize cs[i] = ci at *
      have HS := hide hs; clear hs
      have HBI := hide hbi; clear hbi hmem
      have hpt : ∀ h : Nat → Nat, (pBlk (w.heap.size + 1 + 1) (zv h) 112 :: pBlk (w.heap.size + 1) (zv fun _ => 0) 112 :: pBlk w.heap.size (av p) 29 :: pVals (.slice (some ⟨g0, 0, none⟩) cs.length c) vs :: rowsP vs cs)[i + (3 + 1)]? = some (pInts (.slice A' ci.length c') ci) := fun h => hpart
      have HPT := hide hpt; clear hpt hpart
      go_wp2
      clear x1
      go_loopw [21] (fun t wr => ∃ j : Nat, j ≤ ci.length ∧ t = .int .i64 j ∧ Holds w wr (pBlk (w.heap.size + 1 + 1) (zv (numA ci i j h0)) 112 :: pBlk (w.heap.size + 1) (zv fun _ => 0) 112 :: pBlk w.heap.size (av p) 29 :: pVals (.slice (some ⟨g0, 0, none⟩) cs.length c) vs :: rowsP vs cs)) (fun t _ => ci.length - (intOf t).toNat)
      case atStart => exact ⟨0, by omega, rfl, hH⟩
      case round =>
        clear hH
        obtain ⟨j, hj, rfl, hH⟩ := hrel
        have hpart := HPT.out (numA ci i j h0)
        by_cases hjl : j < ci.length
        · obtain ⟨g2, c2, e2, _, y1, _⟩ := hH.ints (i + 4) hpart hjl
          injection e2 with e2 e2a e2b
          subst e2
          clear e2a e2b
          have hst : numA ci i (j + 1) h0 = fset (numA ci i j h0) (ci.getD j 0) i := rfl
          have hgd : ci.getD j 0 = ci[j] := by rw [List.getD_eq_getElem?_getD, List.getElem?_eq_getElem hjl]; rfl
          rw [hgd] at hst
          have hx := HBI.out _ (List.getElem_mem hjl)
          generalize ci[j] = x at *
          have hx16 : (x : Int) < 16 := by omega
          have HST := hide hst; clear hst hgd
          have z0 := hH.cell 0 rfl (zv_get (numA ci i j h0) (i := x) (by omega))
          have z1 := hH.frozen 0 rfl x
          have hP := hH.set 0 rfl x (.int .i64 (i : Nat))
          rw [zv_set, ← HST.out] at hP
          go_wp2
          go_roundw
          case rel => exact ⟨j + 1, by omega, by go_num, hP⟩
          case measure => simp [intOf]; omega
        · obtain rfl : j = ci.length := by omega

          clear hj hjl hpart
          go_wp2
          go_roundw
          case rel => exact ⟨i + 1, by omega, by go_num, by rw [HS.out]; exact hH⟩
          case measure => simp [intOf]; omega
    · obtain rfl : i = cs.length := by omega
      have cc := hH.cells 0 rfl
      have rr := hH.rowOk 1 rfl (zv_size _)
      clear hi hil
      go_wp2
      have H2 := hH.setRow 1 rfl (zv (numT cs cs.length))
      exact res_agg (p := 4) (g := (w.heap.size + 1)) aggZ (zv_size _) rfl rfl rfl (H2.at 1 rfl) ⟨rfl, H2.low⟩


set_option maxRecDepth 100000 in
set_option maxHeartbeats 1000000 in
theorem sWhich_any (p : Nat → Nat) (m : Nat) (hp : PermN p m) (w : World) :
    Calls Try.prog 104 #[.agg (av p), .int .i64 m] w fun e w' => e = .returned (.agg (zv (whichF p m))) ∧ Below w.heap.size w w' := by
  have C1 := hide fun w => sCycles_any p m hp w
  have hbd := hide fun (x : Nat) (c : List Nat) (h1 : c ∈ cycs p m) (h2 : x ∈ c) => cyc_lt hp h1 h2
  have hcl := hide fun (c : List Nat) (h1 : c ∈ cycs p m) => (lens_pos hp.2.2.1 hp.2.1 (List.mem_map.2 ⟨c, h1, rfl⟩)).2
  have hle := cycs_le hp
  have hm := hp.2.1
  have hw : whichF p m = numT (cycs p m) (cycs p m).length := rfl
  rw [hw]
  clear hp hw
  generalize cycs p m = cs at *
  have HH0 := ((Holds.start w).blk (av p) 29 w.heap.size rfl).blk (zv fun _ => 0) 112 (w.heap.size + 1) (by simp)
  go_enter Try.func104, Try.ntmps104
  go_wp2_with fail
  try rw [← zv_zero]
  refine (C1.out _).mono ?_
  rintro e w1 ⟨v, rfl, hb, ho⟩
  obtain ⟨A, c, vs, rfl, hv⟩ := own2_form ho
  have HLV := hide hv.len
  have HH1 := (HH0.joinL (Holds.ofOwn2 hb hv)).blk (zv fun _ => 0) 112 w1.heap.size rfl
  clear hb ho hv HH0
  go_wp2
  try rw [← zv_zero]
  generalize w1.alloc (.cells (zv fun _ => 0) 112) = w2 at *
  generalize w1.heap.size = G5 at *
  go_loopw [7] (fun t wr => ∃ i : Nat, i ≤ cs.length ∧ t = .int .i64 i ∧ Holds w wr (pBlk G5 (zv (numT cs i)) 112 :: pBlk (w.heap.size + 1) (zv fun _ => 0) 112 :: pBlk w.heap.size (av p) 29 :: pVals (.slice A cs.length c) vs :: rowsP vs cs)) (fun t _ => cs.length - (intOf t).toNat)
  case atStart => exact ⟨0, by omega, rfl, HH1⟩
  case round =>
    clear HH1
    obtain ⟨i, hi, rfl, hH⟩ := hrel
    by_cases hil : i < cs.length
    · have hil' : (i : Int) < cs.length := by omega
      obtain ⟨g0, c0, A', c', e0, hvi, x1, hpart⟩ := hH.rowAt HLV.out 3 rfl (fun _ => rfl) hil
      injection e0 with e0 e0a e0b
      subst e0
      clear e0a e0b
      have HX := hide hvi; clear hvi
      have hs : numT cs (i + 1) = numA cs[i] i cs[i].length (numT cs i) := by
        show numA (cs.getD i []) i (cs.getD i []).length (numT cs i) = _
        rw [List.getD_eq_getElem?_getD, List.getElem?_eq_getElem hil]; rfl
      have hmem := List.getElem_mem hil
      have hbi := fun x hx => hbd.out x _ hmem hx
      have hcil := hcl.out _ hmem
      generalize numT cs i = h0 at *
      generalize cs[i] = ci at *
      have HS := hide hs; clear hs
      have HBI := hide hbi; clear hbi hmem
      have hpt : ∀ h : Nat → Nat, (pBlk G5 (zv h) 112 :: pBlk (w.heap.size + 1) (zv fun _ => 0) 112 :: pBlk w.heap.size (av p) 29 :: pVals (.slice (some ⟨g0, 0, none⟩) cs.length c) vs :: rowsP vs cs)[i + (3 + 1)]? = some (pInts (.slice A' ci.length c') ci) := fun h => hpart
      have HPT := hide hpt; clear hpt hpart
      go_wp2
      clear x1
      go_loopw [8] (fun t wr => ∃ j : Nat, j ≤ ci.length ∧ t = .int .i64 j ∧ Holds w wr (pBlk G5 (zv (numA ci i j h0)) 112 :: pBlk (w.heap.size + 1) (zv fun _ => 0) 112 :: pBlk w.heap.size (av p) 29 :: pVals (.slice (some ⟨g0, 0, none⟩) cs.length c) vs :: rowsP vs cs)) (fun t _ => ci.length - (intOf t).toNat)
      case atStart => exact ⟨0, by omega, rfl, hH⟩
      case round =>
        clear hH
        obtain ⟨j, hj, rfl, hH⟩ := hrel
        have hpart := HPT.out (numA ci i j h0)
        by_cases hjl : j < ci.length
        · obtain ⟨g2, c2, e2, _, y1, _⟩ := hH.ints (i + 4) hpart hjl
          injection e2 with e2 e2a e2b
          subst e2
          clear e2a e2b
          have x1 := hH.cellV 3 rfl HLV.out HX.out
          have hst : numA ci i (j + 1) h0 = fset (numA ci i j h0) (ci.getD j 0) i := rfl
          have hgd : ci.getD j 0 = ci[j] := by rw [List.getD_eq_getElem?_getD, List.getElem?_eq_getElem hjl]; rfl
          rw [hgd] at hst
          have hx := HBI.out _ (List.getElem_mem hjl)
          generalize ci[j] = x at *
          have hx16 : (x : Int) < 16 := by omega
          have HST := hide hst; clear hst hgd
          have z0 := hH.cell 0 rfl (zv_get (numA ci i j h0) (i := x) (by omega))
          have z1 := hH.frozen 0 rfl x
          have hP := hH.set 0 rfl x (.int .i64 (i : Nat))
          rw [zv_set, ← HST.out] at hP
          go_wp2
          go_roundw
          case rel => exact ⟨j + 1, by omega, by go_num, hP⟩
          case measure => simp [intOf]; omega
        · obtain rfl : j = ci.length := by omega
          have x1 := hH.cellV 3 rfl HLV.out HX.out
          clear hj hjl hpart
          go_wp2
          go_roundw
          case rel => exact ⟨i + 1, by omega, by go_num, by rw [HS.out]; exact hH⟩
          case measure => simp [intOf]; omega
    · obtain rfl : i = cs.length := by omega
      have cc := hH.cells 0 rfl
      have rr := hH.rowOk 1 rfl (zv_size _)
      clear hi hil
      go_wp2
      have H2 := hH.setRow 1 rfl (zv (numT cs cs.length))
      exact res_agg (p := 4) (g := (w.heap.size + 1)) aggZ (zv_size _) rfl rfl rfl (H2.at 1 rfl) ⟨rfl, H2.low⟩

end Go.Proofs.Ytmapjjfefjoemaa

namespace Go.Proofs.Ytmapjjfefjoemaa
open Go.RowKit

/-- a list of numbers wherever it lies -/
def RdI (w : World) (v : Value) (l : List Nat) : Prop := w.ownsRow 0 2 1 v l.length (nums l)
theorem RdI.below {C : Nat} {w w' : World} {v : Value} {l : List Nat} (h : RdI w v l) (hb : Below C w w') (hC : w.heap.size ≤ C) : RdI w' v l := World.ownsRow.kept h (grown_of_below (hb.mono hC) none) (Classical.em _)
theorem RdI.form {w : World} {v : Value} {l : List Nat} (h : RdI w v l) : ∃ A c, v = .slice A l.length c := own_slice h
theorem RdI.at {w : World} {A : Option Addr} {n c k : Nat} {l : List Nat} (h : RdI w (.slice A n c) l) (hk : k < l.length) :
    ∃ g, A = some ⟨g, 0, none⟩ ∧ g < w.heap.size ∧ w.cell? ⟨g, k, none⟩ = some (.int .i64 ((l.getD k 0 : Nat) : Int)) := by
  obtain ⟨g, c, h1, h2, h3, h4, h5, h6, h7⟩ := row_at h (by omega : 0 < l.length)
  injection h1 with e1 e2 e3
  have a1 := h6 _ _ (nums_at hk)
  have hg : l.getD k 0 = l[k] := by rw [List.getD_eq_getElem?_getD, List.getElem?_eq_getElem hk]; rfl
  rw [hg]
  exact ⟨g, e1, h3, a1⟩
theorem Holds.rdI {w0 w : World} {L : List Part} (h : Holds w0 w L) (i : Nat) {v : Value} {l : List Nat} (hi : L[i]? = some (pInts v l)) : RdI w v l := row_low (h.row i hi) (Nat.zero_le _)
/-- the greatest of the first k + 1 numbers -/
def maxU (l : List Nat) : Nat → Nat
  | 0 => l.getD 0 0
  | k + 1 => max (maxU l k) (l.getD (k + 1) 0)
theorem maxU_step (l : List Nat) {j : Nat} (h : 1 ≤ j) : max (maxU l (j - 1)) (l.getD j 0) = maxU l j := by
  obtain ⟨k, rfl⟩ : ∃ k, j = k + 1 := ⟨j - 1, by omega⟩
  rfl
theorem maxU_ge (l : List Nat) : ∀ k i, i ≤ k → l.getD i 0 ≤ maxU l k := by
  intro k
  induction k with
  | zero => intro i hi; obtain rfl : i = 0 := by omega
            exact Nat.le_refl _
  | succ k ih =>
    intro i hi
    rw [maxU]
    rcases Nat.lt_or_ge k i with c | c
    · obtain rfl : i = k + 1 := by omega
      omega
    · have := ih i c; omega
theorem maxU_at (l : List Nat) : ∀ k, ∃ i, i ≤ k ∧ maxU l k = l.getD i 0 := by
  intro k
  induction k with
  | zero => exact ⟨0, Nat.le_refl _, rfl⟩
  | succ k ih =>
    obtain ⟨i, hi, e⟩ := ih
    rw [maxU]
    rcases Nat.lt_or_ge (maxU l k) (l.getD (k + 1) 0) with c | c
    · exact ⟨k + 1, Nat.le_refl _, by omega⟩
    · exact ⟨i, by omega, by omega⟩

-- left out here: slices.Max[[]int64,int64]
/-- a quotient's places: what so many darts tell -/
def prjT (ns : List Nat) (f : Nat → Nat) : Nat → Nat → Nat
  | 0 => fun _ => 0
  | k + 1 => fset (prjT ns f k) (ns.getD k 0) (ns.getD (f k) 0)

-- left out here: loop.example/g01200/impl.project
end Go.Proofs.Ytmapjjfefjoemaa

namespace Go.Proofs.Ytmapjjfefjoemaa
open Go.RowKit

theorem info8 : (Try.prog.info? 5).map (fun i => (i.zero, i.size, i.bytes)) = some (some (.int .u8 0), 1, 1) := by kernel_rfl
theorem plain8 : Try.prog.plainKey 5 = true := by kernel_rfl
theorem cells8 : Try.prog.cellsOf 5 = 1 := by kernel_rfl
@[go_sem] theorem guardP : Try.prog.eqGuardType Try.prog.depth 29 = false := by kernel_rfl
@[irreducible] def sameB (f g : Nat → Nat) : Bool := (List.range 16).all fun i => ((f i : Nat) : Int) == ((g i : Nat) : Int)
theorem sameB_iff (f g : Nat → Nat) : sameB f g = true ↔ ∀ i, i < 16 → f i = g i := by unfold sameB; simp [Int.ofNat_inj]
theorem run_items (f g : Nat → Nat) (w : World) : ∀ is : List Nat, (∀ i ∈ is, i < 16) →
    (Op.eqItems 9999 5 1 (av f) (av g) is).run Try.prog w = .ok (is.all fun i => ((f i : Nat) : Int) == ((g i : Nat) : Int)) w
  | [], _ => by simp [Op.eqItems]
  | i :: is, h => by
    have hi := h i (by simp)
    have ih := run_items f g w is fun j hj => h j (by simp [hj])
    have h1 := run_part_plain w plain8 (av_get f hi)
    have h2 := run_part_plain w plain8 (av_get g hi)
    have h3 := run_equalIn_int w 9998 5 .u8 .u8 (f i) (g i) Try.underlying5
    simp only [Op.eqItems, Nat.mul_one, Sem.run_bind, h1, h2, h3, Result.andThen_ok, List.all_cons]
    rcases hb : (((f i : Nat) : Int) == ((g i : Nat) : Int)) with _ | _
    · simp
    · simp [ih]
@[go_sem] theorem run_sameP (f g : Nat → Nat) (w : World) : (Op.equalIn 10000 29 (.agg (av f)) (.agg (av g))).run Try.prog w = .ok (sameB f g) w := by
  obtain ⟨i0, hi, _⟩ := info_parts info8
  have h := run_equalIn_array w 9999 (av f) (av g) Try.underlying29 hi
  rw [cells8] at h
  rw [h, run_items f g w _ (by simp)]
  unfold sameB; rfl

end Go.Proofs.Ytmapjjfefjoemaa

namespace Go.Proofs.Ytmapjjfefjoemaa
open Go.RowKit

theorem run_items2 (d : Nat) (f g : Nat → Nat) (w : World) : ∀ is : List Nat, (∀ i ∈ is, i < 16) →
    (Op.eqItems (d + 1) 5 1 (av f) (av g) is).run Try.prog w = .ok (is.all fun i => ((f i : Nat) : Int) == ((g i : Nat) : Int)) w
  | [], _ => by simp [Op.eqItems]
  | i :: is, h => by
    have hi := h i (by simp)
    have ih := run_items2 d f g w is fun j hj => h j (by simp [hj])
    have h1 := run_part_plain w plain8 (av_get f hi)
    have h2 := run_part_plain w plain8 (av_get g hi)
    have h3 := run_equalIn_int w d 5 .u8 .u8 (f i) (g i) Try.underlying5
    simp only [Op.eqItems, Nat.mul_one, Sem.run_bind, h1, h2, h3, Result.andThen_ok, List.all_cons]
    rcases hb : (((f i : Nat) : Int) == ((g i : Nat) : Int)) with _ | _
    · simp
    · simp [ih]
theorem run_sameP2 (d : Nat) (f g : Nat → Nat) (w : World) : (Op.equalIn (d + 2) 29 (.agg (av f)) (.agg (av g))).run Try.prog w = .ok (sameB f g) w := by
  obtain ⟨i0, hi, _⟩ := info_parts info8
  have h := run_equalIn_array w (d + 1) (av f) (av g) Try.underlying29 hi
  rw [cells8] at h
  rw [h, run_items2 d f g w _ (by simp)]
  unfold sameB; rfl
theorem info64D : (Try.prog.info? 2).map (·.size) = some 1 := by kernel_rfl
theorem infoPD : (Try.prog.info? 29).map (·.size) = some 16 := by kernel_rfl
theorem part_n (n : Int) (F G : Nat → Nat) (w : World) : (part 2 (dv n F G) 0).run Try.prog w = .ok (.int .i64 n) w :=
  run_part_plain w (by kernel_rfl) (dv_n n F G)
theorem part_b (n : Int) (F G : Nat → Nat) (w : World) : (part 29 (dv n F G) 1).run Try.prog w = .ok (.agg (av F)) w := by
  rcases hi : Try.prog.info? 29 with _ | i
  · have := infoPD; rw [hi] at this; cases this
  · have hsz : i.size = 16 := by have := infoPD; rw [hi] at this; simpa using this
    have hag : (isAgg 29).run Try.prog w = .ok true w := by simp [isAgg, run_underlying Try.underlying29]
    have e := blackOf_dv n F G
    unfold blackOf at e
    simp [part, hag, sizeOf, typeInfo, hi, hsz, e]
theorem part_w (n : Int) (F G : Nat → Nat) (w : World) : (part 29 (dv n F G) 17).run Try.prog w = .ok (.agg (av G)) w := by
  rcases hi : Try.prog.info? 29 with _ | i
  · have := infoPD; rw [hi] at this; cases this
  · have hsz : i.size = 16 := by have := infoPD; rw [hi] at this; simpa using this
    have hag : (isAgg 29).run Try.prog w = .ok true w := by simp [isAgg, run_underlying Try.underlying29]
    have e := whiteOf_dv n F G
    unfold whiteOf at e
    simp [part, hag, sizeOf, typeInfo, hi, hsz, e]
@[irreducible] def eqDB (n : Int) (F G : Nat → Nat) (n' : Int) (F' G' : Nat → Nat) : Bool := (n == n') && (sameB F F' && sameB G G')
theorem eqDB_iff (n : Int) (F G : Nat → Nat) (n' : Int) (F' G' : Nat → Nat) : eqDB n F G n' F' G' = true ↔ dv n F G = dv n' F' G' := by
  unfold eqDB
  rw [Bool.and_eq_true, Bool.and_eq_true, beq_iff_eq, sameB_iff, sameB_iff]
  constructor
  · rintro ⟨rfl, h1, h2⟩
    unfold dv
    apply row_congr
    intro i hi
    by_cases c : i = 0
    · rw [if_pos c, if_pos c]
    · rw [if_neg c, if_neg c]
      by_cases d : i < 17
      · rw [if_pos d, if_pos d, h1 (i - 1) (by omega)]
      · rw [if_neg d, if_neg d, h2 (i - 17) (by omega)]
  · intro h
    have hn : (dv n F G)[0]? = (dv n' F' G')[0]? := by rw [h]
    rw [dv_n, dv_n] at hn
    refine ⟨by simpa using hn, fun i hi => ?_, fun i hi => ?_⟩
    · have hb : (dv n F G)[1 + i]? = (dv n' F' G')[1 + i]? := by rw [h]
      rw [dv_b _ _ _ hi, dv_b _ _ _ hi] at hb
      simp at hb; omega
    · have hb : (dv n F G)[17 + i]? = (dv n' F' G')[17 + i]? := by rw [h]
      rw [dv_w _ _ _ hi, dv_w _ _ _ hi] at hb
      simp at hb; omega
theorem run_sameD (n : Int) (F G : Nat → Nat) (n' : Int) (F' G' : Nat → Nat) (w : World) : (Op.equalIn 10000 31 (.agg (dv n F G)) (.agg (dv n' F' G'))).run Try.prog w = .ok (eqDB n F G n' F' G') w := by
  have ht : Try.prog.underlying 31 = some (.struct (Try.prog.fieldsOf 31)) := by kernel_rfl
  have hp : Try.prog.stoodInHeld 31 = false := by kernel_rfl
  rw [run_equalIn_struct w 9999 31 _ _ ht hp]
  have hi : (Op.equalIn 9999 2 (.int .i64 n) (.int .i64 n')).run Try.prog w = .ok (n == n') w := run_equalIn_int w 9998 2 .i64 .i64 n n' Try.underlying2
  have hb : (Op.equalIn 9999 29 (.agg (av F)) (.agg (av F'))).run Try.prog w = .ok (sameB F F') w := run_sameP2 9997 F F' w
  have hw : (Op.equalIn 9999 29 (.agg (av G)) (.agg (av G'))).run Try.prog w = .ok (sameB G G') w := run_sameP2 9997 G G' w
  unfold eqDB
  rcases h1 : n == n' with _ | _
  · rw [h1] at hi
    simp [Program.fieldsOf, Try.underlying31, Op.eqFields, part_n, hi]
  · rw [h1] at hi
    rcases h2 : sameB F F' with _ | _
    · rw [h2] at hb
      simp [Program.fieldsOf, Try.underlying31, Op.eqFields, part_n, part_b, hi, hb]
    · rw [h2] at hb
      rcases h3 : sameB G G' with _ | _
      · rw [h3] at hw
        simp [Program.fieldsOf, Try.underlying31, Op.eqFields, part_n, part_b, part_w, hi, hb, hw]
      · rw [h3] at hw
        simp [Program.fieldsOf, Try.underlying31, Op.eqFields, part_n, part_b, part_w, hi, hb, hw]
@[go_sem] theorem guardD : Try.prog.eqGuardType Try.prog.depth 31 = false := by kernel_rfl
@[go_sem ↓] theorem run_eqlD (n : Int) (F G : Nat → Nat) (n' : Int) (F' G' : Nat → Nat) (w : World) : (binOp .eql 31 (.agg (dv n F G)) (.agg (dv n' F' G'))).run Try.prog w = .ok (.bool (eqDB n F G n' F' G')) w := by
  rw [run_eql_struct, run_sameD]; rfl
@[go_sem ↓] theorem run_neqD (n : Int) (F G : Nat → Nat) (n' : Int) (F' G' : Nat → Nat) (w : World) : (binOp .neq 31 (.agg (dv n F G)) (.agg (dv n' F' G'))).run Try.prog w = .ok (.bool (!eqDB n F G n' F' G')) w := by
  rw [run_neq_struct, run_sameD]; rfl
end Go.Proofs.Ytmapjjfefjoemaa

namespace Go.Proofs.Ytmapjjfefjoemaa
open Go.RowKit

def renF (p f : Nat → Nat) (m : Nat) : Nat → Nat := thenF (thenF (backF p m) f m) p m
def renTo (p f : Nat → Nat) : Nat → Nat → Nat
  | 0 => fun _ => 0
  | k + 1 => fset (renTo p f k) (p k) (p (f k))
theorem renTo_at {p f : Nat → Nat} {n : Nat} (h : Bij p n) : ∀ k, k ≤ n → ∀ x, x < k → renTo p f k (p x) = p (f x) := by
  intro k
  induction k with
  | zero => intro _ x hx; omega
  | succ k ih =>
    intro hk x hx
    show fset (renTo p f k) (p k) (p (f k)) (p x) = p (f x)
    unfold fset
    by_cases c : p x = p k
    · rw [if_pos c, h.2 x k (by omega) (by omega) c]
    · rw [if_neg c]
      by_cases d : x = k
      · subst d; exact absurd rfl c
      · exact ih (by omega) x (by omega)
theorem renTo_none {p f : Nat → Nat} {y : Nat} : ∀ k, (∀ x, x < k → p x ≠ y) → renTo p f k y = 0 := by
  intro k
  induction k with
  | zero => intro _; rfl
  | succ k ih =>
    intro h
    show fset (renTo p f k) (p k) (p (f k)) y = 0
    unfold fset
    rw [if_neg (fun e => h k (by omega) e.symm)]
    exact ih fun x hx => h x (by omega)
theorem renF_at {p f : Nat → Nat} {m x : Nat} (h : Bij p m) (hx : x < m) : renF p f m (p x) = p (f x) := by
  unfold renF
  rw [thenF_at (h.1 x hx), thenF_at (h.1 x hx), backF_at h hx]
theorem renTo_eq {p f : Nat → Nat} {m : Nat} (h : Bij p m) : renTo p f m = renF p f m := by
  funext y
  rcases Nat.lt_or_ge y m with c | c
  · obtain ⟨x, hx, rfl⟩ := h.onto c
    rw [renTo_at h m (Nat.le_refl m) x hx, renF_at h hx]
  · rw [renTo_none m fun x hx e => by have := h.1 x hx; omega]
    unfold renF
    rw [thenF_out c]
theorem renF_perm {p f : Nat → Nat} {m : Nat} (hp : PermN p m) (hf : PermN f m) : PermN (renF p f m) m := thenF_perm (thenF_perm (backF_perm hp) hf) hp

-- left out here: loop.example/g01200/impl.rename
-- left out here: loop.example/g01200/spec.l02Rename
noncomputable def renB (n : Int) (f g p : Nat → Nat) : Bool := desB n f g && permB p n
noncomputable def renR (n : Int) (f g p : Nat → Nat) : Value := if renB n f g p = true then .tuple #[.agg (dv n (renF p f n.toNat) (renF p g n.toNat)), .int .i64 0] else .tuple #[.agg (dv 0 (fun _ => 0) (fun _ => 0)), .int .i64 1]
theorem renR_eq (n : Int) (f g p : Nat → Nat) : ∃ (a : Int) (r s : Nat → Nat) (c : Int), renR n f g p = .tuple #[.agg (dv a r s), .int .i64 c] := by
  unfold renR; split
  · exact ⟨_, _, _, _, rfl⟩
  · exact ⟨_, _, _, _, rfl⟩

-- left out here: loop.example/g01200/impl.RenameDessin
-- left out here: loop.example/g01200/spec.RenameDessin
end Go.Proofs.Ytmapjjfefjoemaa

namespace Go.Proofs.Ytmapjjfefjoemaa
open Go.RowKit

theorem numA_at (c : List Nat) (i : Nat) (h : Nat → Nat) (x : Nat) : ∀ j, j ≤ c.length → numA c i j h x = if x ∈ c.take j then i else h x := by
  intro j
  induction j with
  | zero => intro _; simp [numA]
  | succ j ih =>
    intro hj
    have hg : c.getD j 0 = c[j] := by rw [List.getD_eq_getElem?_getD, List.getElem?_eq_getElem (by omega)]; rfl
    have hm : x ∈ c.take (j + 1) ↔ x ∈ c.take j ∨ x = c[j] := by rw [List.take_succ_eq_append_getElem (by omega), List.mem_append, List.mem_singleton]
    rw [numA, hg]
    unfold fset
    by_cases e : x = c[j]
    · rw [if_pos e, if_pos (hm.2 (.inr e))]
    · rw [if_neg e, ih (by omega)]
      by_cases d : x ∈ c.take j
      · rw [if_pos d, if_pos (hm.2 (.inl d))]
      · rw [if_neg d, if_neg fun h => (hm.1 h).elim d e]
theorem numT_at {cs : List (List Nat)} (hn : cs.flatten.Nodup) : ∀ K, K ≤ cs.length → ∀ i (hi : i < K) (hic : i < cs.length) x, x ∈ cs[i] → numT cs K x = i := by
  intro K
  induction K with
  | zero => intro _ i hi; omega
  | succ K ih =>
    intro hK i hi hic x hx
    have hg : cs.getD K [] = cs[K] := by rw [List.getD_eq_getElem?_getD, List.getElem?_eq_getElem (by omega)]; rfl
    rw [numT, hg, numA_at _ _ _ _ _ (Nat.le_refl _), List.take_length]
    rcases Nat.lt_or_ge i K with c | c
    · rw [if_neg, ih (by omega) i c hic x hx]
      intro hx2
      have h1 := (List.pairwise_flatten.1 hn).2
      have := List.pairwise_iff_getElem.1 h1 i K hic (by omega) c
      exact this x hx x hx2 rfl
    · obtain rfl : i = K := by omega
      rw [if_pos hx]
section
variable {p : Nat → Nat} {m : Nat}
theorem cycs_nodup (hp : PermN p m) : (cycs p m).flatten.Nodup := (cycs_flat hp.2.2.1 hp.2.1).symm.nodup (List.nodup_range)
theorem which_at (hp : PermN p m) {i : Nat} (hi : i < (cycs p m).length) {x : Nat} (hx : x ∈ (cycs p m)[i]) : whichF p m x = i :=
  numT_at (cycs_nodup hp) _ (Nat.le_refl _) i hi hi x hx
theorem which_mem (hp : PermN p m) {x : Nat} (hx : x < m) : ∃ (i : Nat) (hi : i < (cycs p m).length), x ∈ (cycs p m)[i] ∧ whichF p m x = i := by
  have h1 : x ∈ (cycs p m).flatten := (cycs_flat hp.2.2.1 hp.2.1).symm.subset (List.mem_range.2 hx)
  obtain ⟨c, hc, hxc⟩ := List.mem_flatten.1 h1
  obtain ⟨i, hi, rfl⟩ := List.getElem_of_mem hc
  exact ⟨i, hi, hxc, which_at hp hi hxc⟩
theorem which_lt (hp : PermN p m) {x : Nat} (hx : x < m) : whichF p m x < (cycs p m).length := by
  obtain ⟨i, hi, _, e⟩ := which_mem hp hx
  omega
theorem it_comm {f : Nat → Nat} (hb : Bij p m) (hc : ∀ x, x < m → f (p x) = p (f x)) (k : Nat) {x : Nat} (hx : x < m) : f (it p k x) = it p k (f x) := by
  induction k with
  | zero => rfl
  | succ k ih =>
    show f (p (it p k x)) = p (it p k (f x))
    rw [hc _ (hb.it_lt k hx), ih]
theorem which_same (hp : PermN p m) {f : Nat → Nat} (hf : ∀ x, x < m → f x < m) (hc : ∀ x, x < m → f (p x) = p (f x)) {x y : Nat} (hx : x < m) (hy : y < m) (e : whichF p m x = whichF p m y) : whichF p m (f x) = whichF p m (f y) := by
  have hb := hp.2.2.1
  obtain ⟨i, hi, hxi, e1⟩ := which_mem hp hx
  obtain ⟨j, hj, hyj, e2⟩ := which_mem hp hy
  obtain rfl : i = j := by omega
  obtain ⟨z, hz, hcz⟩ := cycs_mem hb hp.2.1 (List.getElem_mem hi)
  rw [hcz] at hxi hyj
  have r1 := (mem_orbit hb hz).1 hxi
  have r2 := (mem_orbit hb hz).1 hyj
  obtain ⟨k, hk⟩ := (R.symm hb hz r1).trans r2
  obtain ⟨i', hi', hm, e3⟩ := which_mem hp (hf x hx)
  obtain ⟨z', hz', hcz'⟩ := cycs_mem hb hp.2.1 (List.getElem_mem hi')
  have hm2 := hm
  rw [hcz'] at hm2
  have r3 := (mem_orbit hb hz').1 hm2
  have r4 : R p z' (f y) := r3.trans ⟨k, by rw [← it_comm hb hc k hx, hk]⟩
  have hm3 := (mem_orbit hb hz').2 r4
  rw [← hcz'] at hm3
  rw [e3, which_at hp hi' hm3]
/-- what renames a dessin to itself -/
theorem ren_comm {f : Nat → Nat} (hp : PermN p m) (h : ∀ i, i < 16 → renF p f m i = f i) : ∀ x, x < m → f (p x) = p (f x) := fun x hx => by
  have h1 := h (p x) (hp.lt x (by have := hp.2.1; omega))
  rw [renF_at hp.2.2.1 hx] at h1
  exact h1.symm
theorem eqDB_parts {n n' : Int} {F G F' G' : Nat → Nat} (h : eqDB n F G n' F' G' = true) : (∀ i, i < 16 → F i = F' i) ∧ ∀ i, i < 16 → G i = G' i := by
  have e := (eqDB_iff n F G n' F' G').1 h
  refine ⟨fun i hi => ?_, fun i hi => ?_⟩
  · have h1 : (dv n F G)[1 + i]? = (dv n' F' G')[1 + i]? := by rw [e]
    rw [dv_b _ _ _ hi, dv_b _ _ _ hi] at h1
    simp at h1; omega
  · have h1 : (dv n F G)[17 + i]? = (dv n' F' G')[17 + i]? := by rw [e]
    rw [dv_w _ _ _ hi, dv_w _ _ _ hi] at h1
    simp at h1; omega
/-- the numbers of the cycles, as a list -/
def whL (p : Nat → Nat) (m : Nat) : List Nat := (List.range m).map (whichF p m)
theorem whL_length (p : Nat → Nat) (m : Nat) : (whL p m).length = m := by unfold whL; simp
theorem whL_at {k : Nat} (hk : k < m) : (whL p m).getD k 0 = whichF p m k := by unfold whL; simp [List.getD_eq_getElem?_getD, hk]
theorem whL_out {k : Nat} (hk : m ≤ k) : (whL p m).getD k 0 = 0 := by unfold whL; simp [List.getD_eq_getElem?_getD, hk]
theorem whL_lt (hp : PermN p m) (k : Nat) : (whL p m).getD k 0 < 16 := by
  rcases Nat.lt_or_ge k m with c | c
  · rw [whL_at c]
    have := which_lt hp c
    have := cycs_le hp
    have := hp.2.1
    omega
  · rw [whL_out c]; omega
theorem prj_at {ns : List Nat} {f : Nat → Nat} {m : Nat} (hc : ∀ i j, i < m → j < m → ns.getD i 0 = ns.getD j 0 → ns.getD (f i) 0 = ns.getD (f j) 0) : ∀ k, k ≤ m → ∀ j, j < k → prjT ns f k (ns.getD j 0) = ns.getD (f j) 0 := by
  intro k
  induction k with
  | zero => intro _ j hj; omega
  | succ k ih =>
    intro hk j hj
    rw [prjT]
    unfold fset
    by_cases e : ns.getD j 0 = ns.getD k 0
    · rw [if_pos e]; exact (hc j k (by omega) (by omega) e).symm
    · rw [if_neg e]
      rcases Nat.lt_or_ge j k with d | d
      · exact ih (by omega) j d
      · obtain rfl : j = k := by omega
        exact absurd rfl e
theorem prj_none {ns : List Nat} {f : Nat → Nat} {y : Nat} : ∀ k, (∀ j, j < k → ns.getD j 0 ≠ y) → prjT ns f k y = 0 := by
  intro k
  induction k with
  | zero => intro _; rfl
  | succ k ih =>
    intro h
    rw [prjT]
    unfold fset
    rw [if_neg (fun e => h k (by omega) e.symm), ih fun j hj => h j (by omega)]
/-- the quotient's places -/
def quoF (p : Nat → Nat) (m : Nat) (f : Nat → Nat) : Nat → Nat := upto (fun k => whichF p m (f (((cycs p m).getD k []).getD 0 0))) (cycs p m).length
theorem cyc_head (hp : PermN p m) {k : Nat} (hk : k < (cycs p m).length) : ((cycs p m).getD k []).getD 0 0 < m ∧ whichF p m (((cycs p m).getD k []).getD 0 0) = k ∧ 0 < ((cycs p m)[k]).length ∧ ((cycs p m).getD k []).getD 0 0 ∈ (cycs p m)[k] := by
  have hg : (cycs p m).getD k [] = (cycs p m)[k] := by rw [List.getD_eq_getElem?_getD, List.getElem?_eq_getElem hk]; rfl
  have hl := (lens_pos hp.2.2.1 hp.2.1 (List.mem_map.2 ⟨_, List.getElem_mem hk, rfl⟩)).1
  have hm : ((cycs p m)[k]).getD 0 0 ∈ (cycs p m)[k] := by
    rw [List.getD_eq_getElem?_getD, List.getElem?_eq_getElem (by omega)]; exact List.getElem_mem _
  rw [hg]
  exact ⟨cyc_lt hp (List.getElem_mem hk) hm, which_at hp hk hm, hl, hm⟩
theorem prj_quo (hp : PermN p m) {f : Nat → Nat} (hf : ∀ x, x < m → f x < m) (hc : ∀ x, x < m → f (p x) = p (f x)) : prjT (whL p m) f m = quoF p m f := by
  have hcc : ∀ i j, i < m → j < m → (whL p m).getD i 0 = (whL p m).getD j 0 → (whL p m).getD (f i) 0 = (whL p m).getD (f j) 0 := fun i j hi hj e => by
    rw [whL_at hi, whL_at hj] at e
    rw [whL_at (hf i hi), whL_at (hf j hj)]
    exact which_same hp hf hc hi hj e
  funext y
  unfold quoF upto
  by_cases hy : y < (cycs p m).length
  · rw [if_pos hy]
    show _ = whichF p m (f (((cycs p m).getD y []).getD 0 0))
    obtain ⟨h1, h2, _, _⟩ := cyc_head hp hy
    generalize ((cycs p m).getD y []).getD 0 0 = z at *
    have h3 := prj_at hcc m (Nat.le_refl _) z h1
    rw [whL_at h1, h2, whL_at (hf z h1)] at h3
    exact h3
  · rw [if_neg hy]
    refine prj_none m fun j hj => ?_
    rw [whL_at hj]
    have := which_lt hp hj
    omega
theorem max_quo (hp : PermN p m) : maxU (whL p m) (m - 1) + 1 = (cycs p m).length := by
  have h1 := hp.1
  obtain ⟨i, hi, e⟩ := maxU_at (whL p m) (m - 1)
  have h2 := which_lt hp (x := i) (by omega)
  rw [whL_at (by omega)] at e
  have h0 : 0 < (cycs p m).length := by omega
  obtain ⟨h3, h4, _, _⟩ := cyc_head hp (k := (cycs p m).length - 1) (by omega)
  generalize ((cycs p m).getD ((cycs p m).length - 1) []).getD 0 0 = z at *
  have h5 := maxU_ge (whL p m) (m - 1) z (by omega)
  rw [whL_at h3, h4] at h5
  omega
end
/-- the answer -/
noncomputable def quoOk (n : Int) (f g p : Nat → Nat) : Nat := if desB n f g = true ∧ permB p n = true then if eqDB n (renF p f n.toNat) (renF p g n.toNat) n f g = true then 0 else 5 else 1
noncomputable def quoA (n : Int) (f g p : Nat → Nat) : Array Value := if quoOk n f g p = 0 then dv (cycs p n.toNat).length (quoF p n.toNat f) (quoF p n.toNat g) else dv 0 (fun _ => 0) (fun _ => 0)
noncomputable def quoL (n : Int) (f g p : Nat → Nat) : List Nat := if quoOk n f g p = 0 then whL p n.toNat else []
end Go.Proofs.Ytmapjjfefjoemaa

namespace Go.Proofs.Ytmapjjfefjoemaa.Rd
open Go.RowKit

section
variable (P : Program) (md : Region.Mode) (ops : Array Oper) (C : World → Prop) (E : Nat → Bool) (K : Act → World → Prop)

def uponE (R : Value → World → Prop) (w : World) : Result Next → Prop
  | .ok (.value u) w' => C w' ∧ R u w'
  | .ok .skip w' => C w' ∧ R undef w'
  | .ok (.enter f args) w' => w' = w ∧ Calls P f args w (fun e w'' => ∃ v, e = .returned v ∧ C w'' ∧ R v w'')
  | _ => False

/-- one operation, and what follows -/
def opV (i : Nat) (N : Act → (World → Prop) → Prop) (a : Act) (D : World → Prop) : Prop :=
  match ops[i]? with
  | none => N a D
  | some o =>
    if Region.wanted o (yielded ops a.tmps) then
      if E i = true then ∃ R : Value → World → Prop, (∀ v, Stable (R v)) ∧ (∀ w, C w → D w → uponE P C R w ((execOp a.eval o).run P w)) ∧ ∀ v, (∃ w, C w ∧ R v w) → N (a.put o.dst v) (R v)
      else ∃ v, (∀ w, C w → atG P o a w v) ∧ N (a.put o.dst v) D
    else N (a.put o.dst undef) D

theorem opV_mono {i : Nat} {N N' : Act → (World → Prop) → Prop} {a : Act} {D : World → Prop} (h : ∀ a D, N a D → N' a D) (hh : opV P ops C E i N a D) : opV P ops C E i N' a D := by
  unfold opV at *
  split
  · rename_i ho; simp only [ho] at hh; exact h _ _ hh
  · rename_i o ho
    simp only [ho] at hh
    split
    · rename_i hw
      rw [if_pos hw] at hh
      split
      · rename_i hR; rw [if_pos hR] at hh; obtain ⟨R, h0, h1, h2⟩ := hh; exact ⟨R, h0, h1, fun v hv => h _ _ (h2 v hv)⟩
      · rename_i hR
        rw [if_neg hR] at hh
        obtain ⟨v, h1, h2⟩ := hh; exact ⟨v, h1, h _ _ h2⟩
    · rename_i hw; rw [if_neg hw] at hh; exact h _ _ hh

/-- whatever order is picked -/
def anyV : Nat → Array Bool → Act → (World → Prop) → Prop
  | 0, done, a, D => Region.ready md ops done = [] ∧ ∀ w, C w → D w → K a w
  | f + 1, done, a, D => (Region.ready md ops done = [] → ∀ w, C w → D w → K a w) ∧ ∀ i ∈ Region.ready md ops done, opV P ops C E i (anyV f (done.setIfInBounds i true)) a D

theorem op_sound (hC : ∀ w w', C w → Below w.heap.size w w' → C w') {i : Nat} {N : Act → (World → Prop) → Prop} {K' : Act → World → Prop} {Q : Exit → Act → World → Prop} {a : Act} {D : World → Prop} {w : World} (hD : Stable D) (hw : C w) (hDw : D w)
    (hN : ∀ a D w, Stable D → C w → D w → N a D → K' a w) (h : opV P ops C E i N a D) : wpOp P ops Q i K' a w := by
  unfold opV at h
  unfold wpOp
  split
  · rename_i ho; simp only [ho] at h; exact hN _ _ _ hD hw hDw h
  · rename_i o ho
    simp only [ho] at h
    split
    · rename_i hwa
      rw [if_pos hwa] at h
      refine .inl ?_
      unfold Oper.wp
      rcases hEi : E i with _ | _
      · rw [if_neg (by simp [hEi])] at h
        obtain ⟨v, h1, h2⟩ := h
        have h3 := h1 w hw
        unfold atG at h3
        generalize (execOp a.eval o).run P w = r at *
        cases r with
        | ok n w' =>
          cases n <;> simp only [uponG] at h3 <;> simp only [Oper.upon]
          case value u => obtain ⟨e1, e2⟩ := h3; rw [e1, e2]; exact hN _ _ _ hD hw hDw h2
          case skip => obtain ⟨e1, e2⟩ := h3; rw [e1, ← e2]; exact hN _ _ _ hD hw hDw h2
          case enter f args => obtain ⟨e1, hc⟩ := h3; rw [e1]; exact hc.mono fun e w'' ⟨he, hb⟩ => by subst he; exact hN _ _ _ hD (hC _ _ hw hb) (hD _ _ hDw hb) h2
        | halt x w' => simp only [uponG] at h3
      · rw [if_pos hEi] at h
        obtain ⟨R, hE, h⟩ := h
        have h3 := h.1 w hw hDw
        generalize (execOp a.eval o).run P w = r at *
        cases r with
        | ok n w' =>
          cases n <;> simp only [uponE] at h3 <;> simp only [Oper.upon]
          case value u => exact hN _ _ _ (hE u) h3.1 h3.2 (h.2 u ⟨_, h3⟩)
          case skip => exact hN _ _ _ (hE undef) h3.1 h3.2 (h.2 undef ⟨_, h3⟩)
          case enter f args =>
            obtain ⟨e1, hc⟩ := h3
            rw [e1]
            refine hc.mono ?_
            rintro e w'' ⟨v, he, hb, hr⟩
            subst he
            exact hN _ _ _ (hE v) hb hr (h.2 v ⟨_, hb, hr⟩)
        | halt x w' => simp only [uponE] at h3
    · rename_i hwa; rw [if_neg hwa] at h; exact hN _ _ _ hD hw hDw h

theorem anyV_any (hC : ∀ w w', C w → Below w.heap.size w w' → C w') {Q : Exit → Act → World → Prop} (hQ : ∀ a w, K a w → Q .normal a w) (f : Nat) : ∀ (done : Array Bool) (a : Act) (D : World → Prop) (w : World), Stable D → C w → D w →
    anyV P md ops C E K f done a D → wpAny P md ops Q f done a w := by
  induction f with
  | zero => intro done a D w _ hw hDw h; exact ⟨h.1, hQ _ _ (h.2 w hw hDw)⟩
  | succ f ih =>
    intro done a D w hD hw hDw h
    exact ⟨fun e => hQ _ _ (h.1 e w hw hDw), fun i hi => op_sound P ops C E hC hD hw hDw (fun a' D' w' h1 h2 h3 h4 => ih _ a' D' w' h1 h2 h3 h4) (h.2 i hi)⟩

def YieldsG (o : Oper) (v : Value) (a : Act) : Prop :=
  (Region.wanted o (yielded ops a.tmps) = true ∧ ∀ w, C w → atG P o a w v) ∨ (Region.wanted o (yielded ops a.tmps) = false ∧ v = undef)

theorem YieldsG.op {i : Nat} {o : Oper} {v : Value} {a : Act} {D : World → Prop} (hi : ops[i]? = some o) (hE : E i = false) (hy : YieldsG P ops C o v a) {N : Act → (World → Prop) → Prop} (h : N (a.put o.dst v) D) : opV P ops C E i N a D := by
  unfold opV
  simp only [hi, hE, Bool.false_eq_true, if_false]
  rcases hy with ⟨hw, hv⟩ | ⟨hw, rfl⟩
  · rw [if_pos hw]; exact ⟨v, hv, h⟩
  · rw [if_neg (by simp [hw])]; exact h

theorem yieldsG_of {i : Nat} {o : Oper} {a : Act} {D : World → Prop} {N : Act → (World → Prop) → Prop} (hi : ops[i]? = some o) (hE : E i = false) (h : opV P ops C E i N a D) : ∃ v, YieldsG P ops C o v a ∧ N (a.put o.dst v) D := by
  unfold opV at h
  simp only [hi, hE, Bool.false_eq_true, if_false] at h
  by_cases hw : Region.wanted o (yielded ops a.tmps) = true
  · rw [if_pos hw] at h
    obtain ⟨v, h1, h2⟩ := h
    exact ⟨v, .inl ⟨hw, h1⟩, h2⟩
  · rw [if_neg hw] at h
    exact ⟨undef, .inr ⟨by simpa using hw, rfl⟩, h⟩

theorem opV_put {j : Nat} {oi oj : Oper} {v : Value} (hj : ops[j]? = some oj) (hap : oi.apart ops oj = true) (hsi : ∀ cs b, oi.op ≠ .select cs b) (hsj : ∀ cs b, oj.op ≠ .select cs b)
    {N : Act → (World → Prop) → Prop} {a : Act} {D : World → Prop} (hy : YieldsG P ops C oi v a) (h : opV P ops C E j N (a.put oi.dst v) D) :
    opV P ops C E j (fun a' D' => YieldsG P ops C oi v a' ∧ N (a'.put oi.dst v) D') a D := by
  obtain ⟨h1, h2, h3⟩ := Oper.apart_spec hap
  have keep : ∀ u, YieldsG P ops C oi v (a.put oj.dst u) := fun u => by
    have e1 := execOp_put oi hsi a oj.dst u h3
    have e2 := wanted_put oi a oj.dst u h3
    unfold YieldsG atG at *
    rw [e1, e2]; exact hy
  unfold opV at *
  simp only [hj] at *
  rw [wanted_put oj a oi.dst v h1, execOp_put oj hsj a oi.dst v h1] at h
  have ep : ∀ u, (a.put oj.dst u).put oi.dst v = (a.put oi.dst v).put oj.dst u := fun u => (Act.put_comm a v u h2).symm
  by_cases hw : Region.wanted oj (yielded ops a.tmps) = true
  · rw [if_pos hw] at h ⊢
    rcases hE : E j with _ | _
    · simp only [hE, Bool.false_eq_true, if_false] at h ⊢
      obtain ⟨u, k1, k2⟩ := h
      refine ⟨u, fun w hg => ?_, keep _, by rw [ep]; exact k2⟩
      have := k1 w hg
      unfold atG at *
      rwa [execOp_put oj hsj a oi.dst v h1] at this
    · simp only [hE, if_true] at h ⊢
      obtain ⟨R, h0, h⟩ := h
      exact ⟨R, h0, h.1, fun u hu => ⟨keep _, by rw [ep]; exact h.2 u hu⟩⟩
  · rw [if_neg hw] at h ⊢
    exact ⟨keep _, by rw [ep]; exact h⟩

theorem anyV_first {i : Nat} {o : Oper} {v : Value} (hi : ops[i]? = some o) (hE : E i = false) (hsel : ∀ (j : Nat) (o : Oper) cs b, ops[j]? = some o → o.op ≠ .select cs b) (f : Nat) :
    ∀ (done : Array Bool) (a : Act) (D : World → Prop),
      (∀ j oj, ops[j]? = some oj → j ≠ i → done.getD j true = false → (∀ e ∈ oj.after, Region.binds md e = true → e.on ≠ i) → o.apart ops oj = true) →
      i ∈ Region.ready md ops done → YieldsG P ops C o v a →
      anyV P md ops C E K f (done.setIfInBounds i true) (a.put o.dst v) D → anyV P md ops C E K (f + 1) done a D := by
  induction f with
  | zero =>
    intro done a D _ hr hy H
    refine ⟨fun e => (by rw [e] at hr; cases hr), fun j hj => ?_⟩
    by_cases e : j = i
    · subst e; exact hy.op P ops C E hi hE H
    · have := ready_mono hj e
      rw [H.1] at this; cases this
  | succ f ih =>
    intro done a D hfree hr hy H
    refine ⟨fun e => (by rw [e] at hr; cases hr), fun j hj => ?_⟩
    by_cases e : j = i
    · subst e; exact hy.op P ops C E hi hE H
    · obtain ⟨hjun, oj, hoj, hall⟩ := mem_ready.1 hj
      have hun := (mem_ready.1 hr).1
      have hno : ∀ e ∈ oj.after, Region.binds md e = true → e.on ≠ i := fun e he hb h => by
        have := hall e he hb
        rw [h, getD_both hun] at this
        cases this
      refine opV_mono P ops C E (fun a' D' h3 => ih (done.setIfInBounds j true) a' D' (fun k' ok hk hki hk' hnk => hfree k' ok hk hki ?_ hnk) (ready_mono hr (Ne.symm e)) h3.1 ?_)
        (opV_put P ops C E hoj (hfree j oj hoj e hjun hno) (fun cs b => hsel i o cs b hi) (fun cs b => hsel j oj cs b hoj) hy (H.2 j (ready_mono hj e)))
      · by_cases e' : j = k'
        · subst e'; exact hjun
        · rw [getD_set_ne true e'] at hk'; exact hk'
      · rw [Array.setIfInBounds_comm _ _ e]; exact h3.2

def walkV : Plan → Act → (World → Prop) → Prop
  | .fin, a, D => ∀ w, C w → D w → K a w
  | .q k p, a, D => opV P ops C E k (walkV p) a D
  | .s1 k p, a, D => opV P ops C E k (walkV p) a D
  | .s2 k1 p1 k2 p2, a, D => opV P ops C E k1 (walkV p1) a D ∧ opV P ops C E k2 (walkV p2) a D
  | .s3 k1 p1 k2 p2 k3 p3, a, D => opV P ops C E k1 (walkV p1) a D ∧ opV P ops C E k2 (walkV p2) a D ∧ opV P ops C E k3 (walkV p3) a D

theorem anyV_walk (hsel : Region.noSelect ops = true) (sp : List Nat) (hsp : ∀ k, sp.contains k = false → E k = false) (p : Plan) :
    ∀ (f : Nat) (done : Array Bool) (a : Act) (D : World → Prop), planB md ops sp f p done = true → walkV P ops C E K p a D → anyV P md ops C E K f done a D := by
  induction p with
  | fin =>
    intro f done a D hB h
    cases f with
    | zero => exact ⟨by simpa [planB] using hB, h⟩
    | succ f =>
      have e : Region.ready md ops done = [] := by simpa [planB] using hB
      exact ⟨fun _ => h, fun i hi => by rw [e] at hi; cases hi⟩
  | q k p ih =>
    intro f done a D hB h
    cases f with
    | zero => simp [planB] at hB
    | succ f =>
      simp only [planB, Bool.and_eq_true, decide_eq_true_eq, Bool.not_eq_true'] at hB
      obtain ⟨hc, ⟨hr, hfree⟩, hk, hB'⟩ := hB
      have hE := hsp k hc
      have hi : ops[k]? = some ops[k] := Array.getElem?_eq_getElem hk
      obtain ⟨v, hy, hK⟩ := yieldsG_of P ops C E hi hE h
      exact anyV_first P md ops C E K hi hE (Region.noSelect_spec hsel) f done a D (Region.free_spec hi hfree) (by simpa using hr) hy (ih _ _ _ _ hB' hK)
  | s1 k p ih =>
    intro f done a D hB h
    cases f with
    | zero => simp [planB] at hB
    | succ f =>
      simp only [planB, Bool.and_eq_true, decide_eq_true_eq] at hB
      obtain ⟨hr, hB'⟩ := hB
      refine ⟨fun e => (by rw [hr] at e; cases e), fun i hi => ?_⟩
      rw [hr] at hi
      obtain rfl : i = k := by simpa using hi
      exact opV_mono P ops C E (fun a' D' h' => ih _ _ _ _ hB' h') h
  | s2 k1 p1 k2 p2 ih1 ih2 =>
    intro f done a D hB h
    cases f with
    | zero => simp [planB] at hB
    | succ f =>
      simp only [planB, Bool.and_eq_true, decide_eq_true_eq] at hB
      obtain ⟨hr, hB1, hB2⟩ := hB
      refine ⟨fun e => (by rw [hr] at e; cases e), fun i hi => ?_⟩
      rw [hr] at hi
      simp only [List.mem_cons, List.not_mem_nil, or_false] at hi
      rcases hi with rfl | rfl
      · exact opV_mono P ops C E (fun a' D' h' => ih1 _ _ _ _ hB1 h') h.1
      · exact opV_mono P ops C E (fun a' D' h' => ih2 _ _ _ _ hB2 h') h.2
  | s3 k1 p1 k2 p2 k3 p3 ih1 ih2 ih3 =>
    intro f done a D hB h
    cases f with
    | zero => simp [planB] at hB
    | succ f =>
      simp only [planB, Bool.and_eq_true, decide_eq_true_eq] at hB
      obtain ⟨hr, hB1, hB2, hB3⟩ := hB
      refine ⟨fun e => (by rw [hr] at e; cases e), fun i hi => ?_⟩
      rw [hr] at hi
      simp only [List.mem_cons, List.not_mem_nil, or_false] at hi
      rcases hi with rfl | rfl | rfl
      · exact opV_mono P ops C E (fun a' D' h' => ih1 _ _ _ _ hB1 h') h.1
      · exact opV_mono P ops C E (fun a' D' h' => ih2 _ _ _ _ hB2 h') h.2.1
      · exact opV_mono P ops C E (fun a' D' h' => ih3 _ _ _ _ hB3 h') h.2.2
end

/-- a region by parts of memory: w0, L what the class holds; L1 what stands at the start beside it -/
theorem region_P {P : Program} {id : Nat} {Q : Exit → Act → World → Prop} {a : Act} {w w0 : World} {l : List Oper} (L : List Part) (L1 : List Part) (sp : List Nat) (p : Plan) (H : Holds w0 w L1) (hL : L.Sublist L1)
    (hm : P.follows .mixedOrders = true)
    (hsel : Region.noSelect l.toArray = true) (hB : planB .any l.toArray sp l.toArray.size p (Array.replicate l.toArray.size false) = true) 
    (h : walkV P l.toArray (fun wx => Holds w0 wx L) (fun k => sp.contains k) (fun a' w' => Q .normal a' w') p a (fun wx => Holds w0 wx L1)) : (Code.region id l.toArray true).wp P Q a w := by
  refine wp_region_any hm ?_
  exact anyV_any (Q := Q) P .any l.toArray (fun wx => Holds w0 wx L) (fun k => sp.contains k) (fun a' w' => Q .normal a' w') (fun _ _ h hb => h.call hb) (fun _ _ h => h) _ _ _ _ w.drew (fun _ _ h hb => h.call hb) (H.drew.sub hL) H.drew
    (anyV_walk P .any l.toArray (fun wx => Holds w0 wx L) (fun k => sp.contains k) (fun a' w' => Q .normal a' w') hsel sp (fun _ h => h) p _ _ a _ hB h)

section
variable {P : Program} {ops : Array Oper} {C : World → Prop} {E : Nat → Bool} {k : Nat} {a : Act} {D : World → Prop} {N : Act → (World → Prop) → Prop}
theorem v_q {o : Oper} (ho : ops[k]? = some o) (hE : E k = false) (hw : Region.wanted o (yielded ops a.tmps) = true) {v : Value} (h1 : ∀ w, C w → atG P o a w v) (h2 : N (a.put o.dst v) D) : opV P ops C E k N a D := by
  unfold opV
  simp only [ho, hE, Bool.false_eq_true, if_false]
  rw [if_pos hw]
  exact ⟨v, h1, h2⟩
theorem v_s {o : Oper} (R : Value → World → Prop) (hR : ∀ v, Stable (R v)) (ho : ops[k]? = some o) (hE : E k = true) (hw : Region.wanted o (yielded ops a.tmps) = true) (h1 : ∀ w, C w → D w → uponE P C R w ((execOp a.eval o).run P w))
    (h2 : ∀ v, (∃ w, C w ∧ R v w) → N (a.put o.dst v) (R v)) : opV P ops C E k N a D := by
  unfold opV
  simp only [ho, hE, if_true]
  rw [if_pos hw]
  exact ⟨R, hR, h1, h2⟩
end
/-- a list of cells laid for an append -/
def rBuild (w0 : World) (cells : Array Value) (t : TypeId) (k : Nat) (L : List Part) : Value → World → Prop := fun v w => ∃ g, v = .slice (some ⟨g, 0, none⟩) k k ∧ Holds w0 w (pBlk g cells t :: L)
theorem rBuild_stable {w0 : World} {cells : Array Value} {t : TypeId} {k : Nat} {L : List Part} (v : Value) : Stable (rBuild w0 cells t k L v) := fun _ _ ⟨g, e, h⟩ hb => ⟨g, e, h.call hb⟩
/-- a new block -/
def rBox (w0 : World) (cells : Array Value) (t : TypeId) (L : List Part) : Value → World → Prop := fun v w => ∃ g, v = .pointer (some ⟨g, 0, none⟩) ∧ Holds w0 w (pBlk g cells t :: L)
theorem rBox_stable {w0 : World} {cells : Array Value} {t : TypeId} {L : List Part} (v : Value) : Stable (rBox w0 cells t L v) := fun _ _ ⟨g, e, h⟩ hb => ⟨g, e, h.call hb⟩
/-- a relation of one value that is told by parts -/
def rHolds (w0 : World) (L : Value → List Part) : Value → World → Prop := fun v w => Holds w0 w (L v)
theorem rHolds_stable {w0 : World} {L : Value → List Part} (v : Value) : Stable (rHolds w0 L v) := fun _ _ h hb => h.call hb
/-- what is told of a pointer's block, of a slice's block -/
def rPtr (w0 : World) (cells : Array Value) (t : TypeId) (L : List Part) : Value → World → Prop
  | .pointer (some ⟨g, 0, none⟩) => fun w => Holds w0 w (pBlk g cells t :: L)
  | _ => fun _ => False
def rSl (w0 : World) (cells : Array Value) (t : TypeId) (L : List Part) : Value → World → Prop
  | .slice (some ⟨g, 0, none⟩) _ _ => fun w => Holds w0 w (pBlk g cells t :: L)
  | _ => fun _ => False
theorem rPtr_stable {w0 : World} {cells : Array Value} {t : TypeId} {L : List Part} (v : Value) : Stable (rPtr w0 cells t L v) := by
  unfold rPtr
  split
  · exact fun _ _ h hb => h.call hb
  · exact fun _ _ h _ => h
theorem rSl_stable {w0 : World} {cells : Array Value} {t : TypeId} {L : List Part} (v : Value) : Stable (rSl w0 cells t L v) := by
  unfold rSl
  split
  · exact fun _ _ h hb => h.call hb
  · exact fun _ _ h _ => h
section
variable {P : Program} {ops : Array Oper} {E : Nat → Bool} {k : Nat} {a : Act} {N : Act → (World → Prop) → Prop} {w0 : World} {L L1 : List Part}
/-- a new block -/
theorem v_box {o : Oper} (cells : Array Value) (t : TypeId) (ho : ops[k]? = some o) (hE : E k = true) (hw : Region.wanted o (yielded ops a.tmps) = true)
    (h1 : ∀ w, Holds w0 w L → Holds w0 w L1 → (execOp a.eval o).run P w = .ok (.value (.pointer (some ⟨w.heap.size, 0, none⟩))) (w.alloc (.cells cells t)))
    (h2 : ∀ g, N (a.put o.dst (.pointer (some ⟨g, 0, none⟩))) (fun wx => Holds w0 wx (pBlk g cells t :: L1))) : opV P ops (fun wx => Holds w0 wx L) E k N a (fun wx => Holds w0 wx L1) := by
  refine v_s (rPtr w0 cells t L1) rPtr_stable ho hE hw (fun w hx hD => ?_) fun v hv => ?_
  · rw [h1 w hx hD]
    exact ⟨hx.alloc _, hD.blk _ _ _ rfl⟩
  · obtain ⟨w, _, hr⟩ := hv
    unfold rPtr at hr
    split at hr
    · exact h2 _
    · exact hr.elim
/-- a list of cells laid for an append -/
theorem v_build {o : Oper} (cells : Array Value) (t : TypeId) (n : Nat) (ho : ops[k]? = some o) (hE : E k = true) (hw : Region.wanted o (yielded ops a.tmps) = true)
    (h1 : ∀ w, Holds w0 w L → Holds w0 w L1 → (execOp a.eval o).run P w = .ok (.value (.slice (some ⟨w.heap.size, 0, none⟩) n n)) (w.alloc (.cells cells t)))
    (h2 : ∀ g, N (a.put o.dst (.slice (some ⟨g, 0, none⟩) n n)) (fun wx => Holds w0 wx (pBlk g cells t :: L1))) : opV P ops (fun wx => Holds w0 wx L) E k N a (fun wx => Holds w0 wx L1) := by
  refine v_s (fun v w => ∃ g, v = .slice (some ⟨g, 0, none⟩) n n ∧ rSl w0 cells t L1 v w) (fun v _ _ ⟨g, e, h⟩ hb => ⟨g, e, rSl_stable v _ _ h hb⟩) ho hE hw (fun w hx hD => ?_) fun v hv => ?_
  · rw [h1 w hx hD]
    exact ⟨hx.alloc _, _, rfl, hD.blk _ _ _ rfl⟩
  · obtain ⟨w, _, g, rfl, hr⟩ := hv
    have := h2 g
    refine cast (congrArg (N _) ?_) this
    funext wx
    refine propext ⟨fun h => ⟨g, rfl, h⟩, fun ⟨_, _, h⟩ => h⟩
end
end Go.Proofs.Ytmapjjfefjoemaa.Rd

namespace Go.Proofs.Ytmapjjfefjoemaa.Rd
open Go.RowKit

section
variable (P : Program) (md : Region.Mode) (ops : Array Oper) (C : World → Prop) (E : Nat → Bool) (K : Act → World → Prop)

/-- k operations more, all below n, whichever comes up; then L -/
def anyT (n : Nat) (L : Array Bool → Act → (World → Prop) → Prop) : Nat → Array Bool → Act → (World → Prop) → Prop
  | 0, done, a, D => L done a D
  | k + 1, done, a, D => Region.ready md ops done ≠ [] ∧ ∀ i ∈ Region.ready md ops done, i < n ∧ opV P ops C E i (anyT n L k (done.setIfInBounds i true)) a D

theorem anyT_any (hC : ∀ w w', C w → Below w.heap.size w w' → C w') {n g : Nat} {L : Array Bool → Act → (World → Prop) → Prop} {Q : Exit → Act → World → Prop} (hL : ∀ done a D w, C w → D w → L done a D → wpAny P md ops Q g done a w) (k : Nat) :
    ∀ (done : Array Bool) (a : Act) (D : World → Prop) (w : World), Stable D → C w → D w → anyT P md ops C E n L k done a D → wpAny P md ops Q (k + g) done a w := by
  induction k with
  | zero => intro done a D w _ hw hDw h; rw [Nat.zero_add]; exact hL _ _ _ _ hw hDw h
  | succ k ih =>
    intro done a D w hD hw hDw h
    rw [show k + 1 + g = (k + g) + 1 by omega]
    exact ⟨fun e => absurd e h.1, fun i hi => op_sound P ops C E hC hD hw hDw (fun a' D' w' h1 h2 h3 h4 => ih _ a' D' w' h1 h2 h3 h4) (h.2 i hi).2⟩

theorem anyT_first {n i : Nat} {o : Oper} {v : Value} {L : Array Bool → Act → (World → Prop) → Prop} (hi : ops[i]? = some o) (hE : E i = false) (hsel : ∀ (j : Nat) (o : Oper) cs b, ops[j]? = some o → o.op ≠ .select cs b)
    (hs : Region.sinkB md ops n = true) (hc : Region.chainB md ops n = true) (hn : n < ops.size) (hin : i < n) (hdone : ∀ done a D, L done a D → ∀ j ∈ Region.ready md ops done, n ≤ j) (k : Nat) :
    ∀ (done : Array Bool) (a : Act) (D : World → Prop), HeadInv md ops n done →
      (∀ j oj, ops[j]? = some oj → j ≠ i → done.getD j true = false → (∀ e ∈ oj.after, Region.binds md e = true → e.on ≠ i) → o.apart ops oj = true) →
      i ∈ Region.ready md ops done → YieldsG P ops C o v a →
      anyT P md ops C E n L k (done.setIfInBounds i true) (a.put o.dst v) D → anyT P md ops C E n L (k + 1) done a D := by
  have low : ∀ (done : Array Bool), HeadInv md ops n done → i ∈ Region.ready md ops done → ∀ j ∈ Region.ready md ops done, j < n := by
    intro done inv hr j hj
    rcases Nat.lt_or_ge j n with h | h
    · exact h
    · exact absurd hj (tail_waits hs hc hn inv _ i rfl hin (mem_ready.1 hr).1 j h)
  have some_ready : ∀ (done : Array Bool), i ∈ Region.ready md ops done → Region.ready md ops done ≠ [] := fun done hr e => by rw [e] at hr; cases hr
  induction k with
  | zero =>
    intro done a D inv _ hr hy H
    refine ⟨some_ready done hr, fun j hj => ⟨low done inv hr j hj, ?_⟩⟩
    by_cases e : j = i
    · subst e; exact hy.op P ops C E hi hE H
    · have := hdone _ _ _ H j (ready_mono hj e)
      have := low done inv hr j hj
      omega
  | succ k ih =>
    intro done a D inv hfree hr hy H
    refine ⟨some_ready done hr, fun j hj => ⟨low done inv hr j hj, ?_⟩⟩
    by_cases e : j = i
    · subst e; exact hy.op P ops C E hi hE H
    · obtain ⟨hjun, oj, hoj, hall⟩ := mem_ready.1 hj
      have hun := (mem_ready.1 hr).1
      have hno : ∀ e ∈ oj.after, Region.binds md e = true → e.on ≠ i := fun e he hb h => by
        have := hall e he hb
        rw [h, getD_both hun] at this
        cases this
      refine opV_mono P ops C E (fun a' D' h3 => ih (done.setIfInBounds j true) a' D' (inv.set hj (low done inv hr j hj)) (fun k' ok hk hki hk' hnk => hfree k' ok hk hki ?_ hnk) (ready_mono hr (Ne.symm e)) h3.1 ?_)
        (opV_put P ops C E hoj (hfree j oj hoj e hjun hno) (fun cs b => hsel i o cs b hi) (fun cs b => hsel j oj cs b hoj) hy (H.2 j (ready_mono hj e)).2)
      · by_cases e' : j = k'
        · subst e'; exact hjun
        · rw [getD_set_ne true e'] at hk'; exact hk'
      · rw [Array.setIfInBounds_comm _ _ e]; exact h3.2

/-- a plan of the head, and that the tail is forced -/
def planT (sp : List Nat) (n g : Nat) : Plan → Nat → Array Bool → Bool
  | .fin, k, done => decide (k = 0) && Region.seqB md ops g n done
  | .q i p, k, done => !sp.contains i && ((Region.ready md ops done).contains i && Region.free md ops done i && (decide (i < ops.size) && (decide (i < n) && (decide (0 < k) && planT sp n g p (k - 1) (done.setIfInBounds i true)))))
  | .s1 i p, k, done => decide (Region.ready md ops done = [i]) && (decide (i < n) && (decide (0 < k) && planT sp n g p (k - 1) (done.setIfInBounds i true)))
  | .s2 _ _ _ _, _, _ => false
  | .s3 _ _ _ _ _ _, _, _ => false

theorem anyT_walk (hsel : Region.noSelect ops = true) (sp : List Nat) (hsp : ∀ k, sp.contains k = false → E k = false) {n g : Nat} (hs : Region.sinkB md ops n = true) (hc : Region.chainB md ops n = true) (hn : n < ops.size) (p : Plan) :
    ∀ (k : Nat) (done : Array Bool) (a : Act) (D : World → Prop), HeadInv md ops n done → planT md ops sp n g p k done = true → walkV P ops C E K p a D →
      anyT P md ops C E n (fun done' a' D' => Region.seqB md ops g n done' = true ∧ ∀ w, C w → D' w → K a' w) k done a D := by
  induction p with
  | fin =>
    intro k done a D _ hB h
    simp only [planT, Bool.and_eq_true, decide_eq_true_eq] at hB
    obtain ⟨rfl, hB⟩ := hB
    exact ⟨hB, h⟩
  | q i p ih =>
    intro k done a D inv hB h
    simp only [planT, Bool.and_eq_true, decide_eq_true_eq, Bool.not_eq_true'] at hB
    obtain ⟨hcn, ⟨hr, hfree⟩, hk, hin, h0, hB'⟩ := hB
    obtain ⟨j, rfl⟩ : ∃ j, k = j + 1 := ⟨k - 1, by omega⟩
    have hE := hsp i hcn
    have hr' : i ∈ Region.ready md ops done := by simpa using hr
    have hi : ops[i]? = some ops[i] := Array.getElem?_eq_getElem hk
    obtain ⟨v, hy, hK⟩ := yieldsG_of P ops C E hi hE h
    exact anyT_first P md ops C E hi hE (Region.noSelect_spec hsel) hs hc hn hin (fun done' a' D' hL => seqB_ready hL.1) j done a D inv (Region.free_spec hi hfree) hr' hy (ih _ _ _ _ (inv.set hr' hin) hB' hK)
  | s1 i p ih =>
    intro k done a D inv hB h
    simp only [planT, Bool.and_eq_true, decide_eq_true_eq] at hB
    obtain ⟨hr, hin, h0, hB'⟩ := hB
    obtain ⟨j, rfl⟩ : ∃ j, k = j + 1 := ⟨k - 1, by omega⟩
    refine ⟨fun e => (by rw [hr] at e; cases e), fun i' hi => ?_⟩
    have hi0 := hi
    rw [hr] at hi
    obtain rfl : i' = i := by simpa using hi
    exact ⟨hin, opV_mono P ops C E (fun a' D' h' => ih _ _ _ _ (inv.set hi0 hin) hB' h') h⟩
  | s2 => intro k done a D _ hB; simp [planT] at hB
  | s3 => intro k done a D _ hB; simp [planT] at hB
end
def tailB (l : List Oper) (sp : List Nat) (n : Nat) (p : Plan) : Bool :=
  Region.noSelect l.toArray && (decide (n < l.length) && (Region.sinkB .any l.toArray n && (Region.chainB .any l.toArray n && planT .any l.toArray sp n (l.toArray.size - n) p n (Array.replicate l.toArray.size false))))
/-- a region by parts of memory, with a forced tail -/
theorem region_PT {P : Program} {id : Nat} {Q : Exit → Act → World → Prop} {a : Act} {w w0 : World} {l : List Oper} (L : List Part) (L1 : List Part) (sp : List Nat) (n : Nat) (p : Plan) (H : Holds w0 w L1) (hL : L.Sublist L1)
    (hm : P.follows .mixedOrders = true) (hB : tailB l sp n p = true)
    (h : walkV P l.toArray (fun wx => Holds w0 wx L) (fun k => sp.contains k) (fun a' w' => wpList P l.toArray Q (l.drop n) a' w') p a (fun wx => Holds w0 wx L1)) : (Code.region id l.toArray true).wp P Q a w := by
  simp only [tailB, Bool.and_eq_true, decide_eq_true_eq] at hB
  obtain ⟨hsel, hn, hs, hc, hplan⟩ := hB
  have hd : (l.drop n).length = l.toArray.size - n := by simp
  have hn' : n < l.toArray.size := by simpa using hn
  have X := anyT_walk P .any l.toArray (fun wx => Holds w0 wx L) (fun k => sp.contains k) (fun a' w' => wpList P l.toArray Q (l.drop n) a' w') hsel sp (fun _ h => h) hs hc hn' p n (Array.replicate l.toArray.size false) a (fun wx => Holds w0 wx L1)
    ⟨by simp, fun j oj _ e => (by rw [getD_replicate_false] at e; cases e), fun t _ e => getD_in (by simpa using e) (getD_replicate_false _ _)⟩ hplan h
  refine wp_region_any hm ?_
  have := anyT_any P .any l.toArray (fun wx => Holds w0 wx L) (fun k => sp.contains k) (fun _ _ h hb => h.call hb) (Q := Q) (g := l.toArray.size - n) (fun done a' D' w' hw' hDw' hL' => by
    have := wpAny_of_seq (md := .any) (Q' := Q) (l.drop n) n done a' w' (fun j => by simp [List.getElem?_drop]) (by rw [hd]; exact hL'.1) (hL'.2 w' hw' hDw')
    rwa [hd] at this) n (Array.replicate l.toArray.size false) a (fun wx => Holds w0 wx L1) w.drew (fun _ _ h hb => h.call hb) (H.drew.sub hL) H.drew X
  rw [show n + (l.toArray.size - n) = l.toArray.size by omega] at this
  exact this
end Go.Proofs.Ytmapjjfefjoemaa.Rd

namespace Go.Proofs.Ytmapjjfefjoemaa.Rd
open Go.RowKit
section
variable {P : Program} {ops : Array Oper} {E : Nat → Bool} {k : Nat} {a : Act} {N : Act → (World → Prop) → Prop} {w0 : World} {L L1 : List Part}
theorem v_put {o : Oper} (i g : Nat) (cs cs' : Array Value) (t : TypeId) (hi : L1[i]? = some (pBlk g cs t)) (hsub : L.Sublist (L1.set i (pBlk g cs' t))) (ho : ops[k]? = some o) (hE : E k = true) (hw : Region.wanted o (yielded ops a.tmps) = true)
    (h1 : ∀ w, Holds w0 w L → Holds w0 w L1 → (execOp a.eval o).run P w = .ok .skip (w.setRow g cs'))
    (h2 : N (a.put o.dst undef) (fun wx => Holds w0 wx (L1.set i (pBlk g cs' t)))) : opV P ops (fun wx => Holds w0 wx L) E k N a (fun wx => Holds w0 wx L1) := by
  refine v_s (fun u w => u = undef ∧ Holds w0 w (L1.set i (pBlk g cs' t))) (fun _ _ _ h hb => ⟨h.1, h.2.call hb⟩) ho hE hw (fun w hx hD => ?_) fun v hv => ?_
  · rw [h1 w hx hD]
    exact ⟨(hD.setRow i hi cs').sub hsub, rfl, hD.setRow i hi cs'⟩
  · obtain ⟨w, _, rfl, hr⟩ := hv
    refine cast (congrArg (N _) ?_) h2
    funext wx
    exact propext ⟨fun h => ⟨rfl, h⟩, fun h => h.2⟩
end
theorem region_R1 {P : Program} {id : Nat} {Q : Exit → Act → World → Prop} {a : Act} {w w0 : World} {l : List Oper} (L : List Part) (L1 : List Part) (sp : List Nat) (p : Plan) (H : Holds w0 w L1) (hL : L.Sublist L1)
    (hm : P.follows .mixedOrders = true) (hsel : Region.noSelect l.toArray = true) (hB : planB .any l.toArray sp l.toArray.size p (Array.replicate l.toArray.size false) = true)
    {α : Type} (F : α → List Part) (act : α → Act)
    (h : ∀ K : Act → World → Prop, (∀ g wx, Holds w0 wx (F g) → K (act g) wx) → walkV P l.toArray (fun wx => Holds w0 wx L) (fun k => sp.contains k) K p a (fun wx => Holds w0 wx L1))
    (key : ∀ g wx, Holds w0 wx (F g) → Q .normal (act g) wx) : (Code.region id l.toArray true).wp P Q a w :=
  region_P L L1 sp p H hL hm hsel hB (h (fun a' w' => Q .normal a' w') key)
theorem region_R2 {P : Program} {id : Nat} {Q : Exit → Act → World → Prop} {a : Act} {w w0 : World} {l : List Oper} (L : List Part) (L1 : List Part) (sp : List Nat) (p : Plan) (H : Holds w0 w L1) (hL : L.Sublist L1)
    (hm : P.follows .mixedOrders = true) (hsel : Region.noSelect l.toArray = true) (hB : planB .any l.toArray sp l.toArray.size p (Array.replicate l.toArray.size false) = true)
    {α β : Type} (F : α → β → List Part) (act : α → β → Act)
    (h : ∀ K : Act → World → Prop, (∀ g g' wx, Holds w0 wx (F g g') → K (act g g') wx) → walkV P l.toArray (fun wx => Holds w0 wx L) (fun k => sp.contains k) K p a (fun wx => Holds w0 wx L1))
    (key : ∀ g g' wx, Holds w0 wx (F g g') → Q .normal (act g g') wx) : (Code.region id l.toArray true).wp P Q a w :=
  region_P L L1 sp p H hL hm hsel hB (h (fun a' w' => Q .normal a' w') key)
theorem region_R3 {P : Program} {id : Nat} {Q : Exit → Act → World → Prop} {a : Act} {w w0 : World} {l : List Oper} (L : List Part) (L1 : List Part) (sp : List Nat) (p : Plan) (H : Holds w0 w L1) (hL : L.Sublist L1)
    (hm : P.follows .mixedOrders = true) (hsel : Region.noSelect l.toArray = true) (hB : planB .any l.toArray sp l.toArray.size p (Array.replicate l.toArray.size false) = true)
    {α β γ : Type} (F : α → β → γ → List Part) (act : α → β → γ → Act)
    (h : ∀ K : Act → World → Prop, (∀ g g' g'' wx, Holds w0 wx (F g g' g'') → K (act g g' g'') wx) → walkV P l.toArray (fun wx => Holds w0 wx L) (fun k => sp.contains k) K p a (fun wx => Holds w0 wx L1))
    (key : ∀ g g' g'' wx, Holds w0 wx (F g g' g'') → Q .normal (act g g' g'') wx) : (Code.region id l.toArray true).wp P Q a w :=
  region_P L L1 sp p H hL hm hsel hB (h (fun a' w' => Q .normal a' w') key)
end Go.Proofs.Ytmapjjfefjoemaa.Rd

namespace Go.Proofs.Ytmapjjfefjoemaa
open Go.RowKit

theorem lk9_step (e0 e1 : Nat → Nat) (k : Nat) : fset (fset (lk9 (upto e0 k) (upto e1 k)) (k * 2) (e0 k)) (k * 2 + 1) (e1 k) = lk9 (upto e0 (k + 1)) (upto e1 (k + 1)) := by
  rw [← upto_step e0, ← upto_step e1]
  funext i
  simp only [fset, lk9]
  by_cases h1 : i = k * 2 + 1
  · subst h1
    rw [if_pos rfl, if_neg (by omega), if_pos (by omega)]
  · rw [if_neg h1]
    by_cases h0 : i = k * 2
    · subst h0
      rw [if_pos rfl, if_pos (by omega), if_pos (by omega)]
    · rw [if_neg h0]
      by_cases h2 : i % 2 = 0
      · rw [if_pos h2, if_pos h2, if_neg (by omega)]
      · rw [if_neg h2, if_neg h2, if_neg (by omega)]
theorem lk9_zero (e0 e1 : Nat → Nat) : lk9 (upto e0 0) (upto e1 0) = fun _ => 0 := by
  funext i; unfold lk9 upto; simp
/-- the vertices of the edges -/
def vb9 (f : Nat → Nat) (m : Nat) : Nat → Nat := upto (whichF f m) m
def vw9 (g : Nat → Nat) (m : Nat) : Nat → Nat := upto (fun x => 16 + whichF g m x) m
theorem which_lt9 {p : Nat → Nat} {m x : Nat} (hp : PermN p m) (hx : x < m) : whichF p m x < 16 := by
  have := which_lt hp hx
  have := cycs_le hp
  have := hp.2.1
  omega
theorem vl9_lt {f g : Nat → Nat} {m : Nat} (hd : DesN f g m) (x : Nat) (_ : x < 16) : vb9 f m x < 32 ∧ vw9 g m x < 32 := by
  unfold vb9 vw9 upto
  constructor
  · split
    · rename_i h; have := which_lt9 hd.black h; omega
    · omega
  · split
    · rename_i h; have := which_lt9 hd.white h; show 16 + whichF g m x < 32; omega
    · omega
set_option maxRecDepth 100000 in
set_option maxHeartbeats 2000000 in
theorem vertexLinks_any (f g : Nat → Nat) (m : Nat) (hd : DesN f g m) (w : World) :
    Calls Try.prog 107 #[.agg (dv m f g)] w fun e w' => e = .returned (.agg (nv9 (lk9 (vb9 f m) (vw9 g m)))) ∧ Below w.heap.size w w' := by
  have CB := hide fun w => cycleNumbers_any f m hd.black w
  have CW := hide fun w => cycleNumbers_any g m hd.white w
  have LB := hide fun x (hx : x < m) => which_lt9 hd.black hx
  have LW := hide fun x (hx : x < m) => which_lt9 hd.white hx
  have hm := hd.le
  have hn := dv_n m f g
  clear hd
  unfold vb9 vw9
  generalize whichF f m = hb at *
  generalize whichF g m = hw at *
  obtain ⟨e1, he1⟩ : ∃ e1 : Nat → Nat, e1 = fun x => 16 + hw x := ⟨_, rfl⟩
  rw [← he1]
  have HE1 := hide (fun x => congrFun he1 x); clear he1
  have HH0 := (((Holds.start w).blk (dv m f g) 31 w.heap.size rfl).blk (nv9 fun _ => 0) 118 (w.heap.size + 1) (by simp)).blk (nv9 fun _ => 0) 118 (w.heap.size + 1 + 1) (by simp)
  go_enter Try.func107, Try.ntmps107
  go_wp2
  rw [nv9_zero] at HH0
  rw [← nv9_zero] at HH0 ⊢
  apply Rd.region_R2 (w0 := w) [pBlk (w.heap.size + 1 + 1) (nv9 fun _ => 0) 118, pBlk (w.heap.size + 1) (nv9 fun _ => 0) 118, pBlk w.heap.size (dv m f g) 31] [pBlk (w.heap.size + 1 + 1) (nv9 fun _ => 0) 118, pBlk (w.heap.size + 1) (nv9 fun _ => 0) 118, pBlk w.heap.size (dv m f g) 31] [10, 11, 12, 13] (.q 0 <| .q 1 <| .q 2 <| .q 3 <| .q 4 <| .q 5 <| .q 6 <| .q 7 <| .q 8 <| .q 9 <| .s2 10 (.s1 11 <| .s1 12 <| .s1 13 .fin) 11 (.s1 10 <| .s1 12 <| .s1 13 .fin)) HH0 (.refl _) (by kernel_rfl) (by kernel_rfl) (by kernel_rfl) (F := fun (g4 g5 : Nat) => pBlk g5 (zv hw) 112 :: pBlk g4 (zv hb) 112 :: [pBlk (w.heap.size + 1 + 1) (nv9 fun _ => 0) 118, pBlk (w.heap.size + 1) (nv9 fun _ => 0) 118, pBlk w.heap.size (dv m f g) 31])
  case h =>
    intro K key
    iterate 4
      apply Rd.v_q
      · simp only [List.getElem?_toArray, List.getElem?_cons_zero, List.getElem?_cons_succ]; exact rfl
      · rfl
      · go_simp
      · intro wx hx
        have q1 := hx.cells 2 rfl
        have q2 := hx.cell 2 rfl hn
        unfold atG
        go_simp
        simp only [uponG]
        exact ⟨by trivial, rfl⟩
    iterate 1
      apply Rd.v_q
      · simp only [List.getElem?_toArray, List.getElem?_cons_zero, List.getElem?_cons_succ]; exact rfl
      · rfl
      · go_simp
      · intro wx hx
        have q1 := hx.cells 2 rfl
        have q2 := hx.cell 2 rfl hn
        unfold atG
        go_simp
        simp only [uponG]
        exact ⟨by trivial, CB.out wx⟩
    iterate 4
      apply Rd.v_q
      · simp only [List.getElem?_toArray, List.getElem?_cons_zero, List.getElem?_cons_succ]; exact rfl
      · rfl
      · go_simp
      · intro wx hx
        have q1 := hx.cells 2 rfl
        have q2 := hx.cell 2 rfl hn
        unfold atG
        go_simp
        simp only [uponG]
        exact ⟨by trivial, rfl⟩
    iterate 1
      apply Rd.v_q
      · simp only [List.getElem?_toArray, List.getElem?_cons_zero, List.getElem?_cons_succ]; exact rfl
      · rfl
      · go_simp
      · intro wx hx
        have q1 := hx.cells 2 rfl
        have q2 := hx.cell 2 rfl hn
        unfold atG
        go_simp
        simp only [uponG]
        exact ⟨by trivial, CW.out wx⟩
    refine ⟨?_, ?_⟩
    · skip
      refine Rd.v_box (zv fun _ => 0) 112 (by simp only [List.getElem?_toArray, List.getElem?_cons_zero, List.getElem?_cons_succ]; exact rfl) rfl (by go_simp) (fun wx hx hD => by rw [zv_zero]; go_simp) fun g4 => ?_
      refine Rd.v_box (zv fun _ => 0) 112 (by simp only [List.getElem?_toArray, List.getElem?_cons_zero, List.getElem?_cons_succ]; exact rfl) rfl (by go_simp) (fun wx hx hD => by rw [zv_zero]; go_simp) fun g5 => ?_
      refine Rd.v_put 1 g4 (zv fun _ => 0) (zv hb) 112 rfl (.cons _ (.cons _ (.refl _))) (by simp only [List.getElem?_toArray, List.getElem?_cons_zero, List.getElem?_cons_succ]; exact rfl) rfl (by go_simp) (fun wx hx hD => ?_) ?_
      · have rr := hD.rowOk (n := 16) 1 rfl (zv_size _)
        go_simp
      refine Rd.v_put 0 g5 (zv fun _ => 0) (zv hw) 112 rfl (.cons _ (.cons _ (.refl _))) (by simp only [List.getElem?_toArray, List.getElem?_cons_zero, List.getElem?_cons_succ]; exact rfl) rfl (by go_simp) (fun wx hx hD => ?_) ?_
      · have rr := hD.rowOk (n := 16) 0 rfl (zv_size _)
        go_simp
      rintro wz - hz
      go_simp
      exact key _ _ _ hz
    · skip
      refine Rd.v_box (zv fun _ => 0) 112 (by simp only [List.getElem?_toArray, List.getElem?_cons_zero, List.getElem?_cons_succ]; exact rfl) rfl (by go_simp) (fun wx hx hD => by rw [zv_zero]; go_simp) fun g5 => ?_
      refine Rd.v_box (zv fun _ => 0) 112 (by simp only [List.getElem?_toArray, List.getElem?_cons_zero, List.getElem?_cons_succ]; exact rfl) rfl (by go_simp) (fun wx hx hD => by rw [zv_zero]; go_simp) fun g4 => ?_
      refine Rd.v_put 0 g4 (zv fun _ => 0) (zv hb) 112 rfl (.cons _ (.cons _ (.refl _))) (by simp only [List.getElem?_toArray, List.getElem?_cons_zero, List.getElem?_cons_succ]; exact rfl) rfl (by go_simp) (fun wx hx hD => ?_) ?_
      · have rr := hD.rowOk (n := 16) 0 rfl (zv_size _)
        go_simp
      refine Rd.v_put 1 g5 (zv fun _ => 0) (zv hw) 112 rfl (.cons _ (.cons _ (.refl _))) (by simp only [List.getElem?_toArray, List.getElem?_cons_zero, List.getElem?_cons_succ]; exact rfl) rfl (by go_simp) (fun wx hx hD => ?_) ?_
      · have rr := hD.rowOk (n := 16) 1 rfl (zv_size _)
        go_simp
      rintro wz - hz
      go_simp
      exact key _ _ _ (hz.perm (List.Perm.swap _ _ _))
  intro g4 g5 w2 H2
  clear HH0
  have c2 := H2.cell 4 rfl hn
  have HZ : Hid (nv9 (fun _ => 0) = nv9 (lk9 (upto hb 0) (upto e1 0))) := hide (by rw [lk9_zero])
  go_wp2
  clear c2
  go_loopw [19] (fun t wr => ∃ k : Nat, k ≤ m ∧ t = .int .i64 k ∧ Holds w wr [pBlk g5 (zv hw) 112, pBlk g4 (zv hb) 112, pBlk (w.heap.size + 1 + 1) (nv9 (lk9 (upto hb k) (upto e1 k))) 118, pBlk (w.heap.size + 1) (nv9 fun _ => 0) 118, pBlk w.heap.size (dv m f g) 31]) (fun t _ => m - (intOf t).toNat)
  case atStart => exact ⟨0, Nat.zero_le _, rfl, by rw [← HZ.out]; exact H2⟩
  case round =>
    clear H2 HZ
    obtain ⟨k, hk, rfl, hH⟩ := hrel
    by_cases hlt : k < m
    · have hki : (k : Int) < m := by omega
      have hk16 : k < 16 := by omega
      have hk16i : (k : Int) < 16 := by omega
      have lb := LB.out k hlt
      have lw := LW.out k hlt
      have he := HE1.out k
      have HST := hide (lk9_step hb e1 k)
      have cn0 := hH.cell 4 rfl hn
      go_wp2
      clear cn0
      refine region_tail (fun wx => Holds w wx _) 9 (by kernel_rfl) (by kernel_rfl) hH.drew ?_
      simp only [List.take_succ_cons, List.take_zero, List.drop_succ_cons, List.drop_zero]
      iterate 9
        apply q_step
        · go_simp
        · intro wx hx
          have q1 := hx.cell 1 rfl (zv_get hb hk16)
          have q2 := hx.cell 0 rfl (zv_get hw hk16)
          go_simp
          try exact rfl
      refine wpQuiet_nil ?_
      intro w4 H4
      have c0 := H4.cell 2 rfl (nv9_get _ (show k * 2 < 32 by omega))
      have c1 := H4.cell 2 rfl (nv9_get _ (show k * 2 + 1 < 32 by omega))
      have f0 := H4.frozen 2 rfl (k * 2)
      have f1 := H4.frozen 2 rfl (k * 2 + 1)
      have H5 := H4.set 2 rfl (k * 2) (.int .i64 (hb k : Nat))
      have H6 := H5.set 2 rfl (k * 2 + 1) (.int .i64 ((e1 k : Nat) : Int))
      simp only [List.set_cons_succ, List.set_cons_zero] at H6
      rw [nv9_set, nv9_set, HST.out] at H6
      rw [he] at H6
      have HQ := hide H6; clear H4 H5 H6
      go_wp2
      go_roundw
      case rel => exact ⟨k + 1, by omega, by go_num, HQ.out⟩
      case measure => simp [intOf]; omega
    · obtain rfl : m = k := by omega
      have cc := hH.cells 2 rfl
      have rr := hH.rowOk 3 rfl (nv9_size _)
      have HQ := hide hH
      clear hk hlt hH
      go_wp2
      have H2 := HQ.out.setRow 3 rfl (nv9 (lk9 (upto hb m) (upto e1 m)))
      exact res_agg (p := 2) (g := (w.heap.size + 1)) aggL9 (nv9_size _) rfl rfl rfl (H2.at 3 rfl) ⟨rfl, H2.low⟩
end Go.Proofs.Ytmapjjfefjoemaa
