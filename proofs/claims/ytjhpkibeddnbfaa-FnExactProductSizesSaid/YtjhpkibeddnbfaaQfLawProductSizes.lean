/- Texts put together: ToDs, NamOf, EqDs, ProAt, Mk1, MorOf, PrSz -/
import Derived.Test.YtjhpkibeddnbfaaQeLawProductSizes
import Derived.Test.YtjhpkibeddnbfaaChecked
import Derived.WalkKit
import Derived.WalkSpells
import Derived.WalkLawsBesides
import Derived.Deep.LoopGhost
import Derived.Deep.OwnRows
import Derived.Laws.Rows
import Derived.Laws.Tables
import Derived.Laws.CopyOwn
import Derived.ProofKit
import Derived.OpenShut
import Derived.ShutString
import Derived.ChangeOld
import Derived.Below
import Derived.Laws.OwnMore
import Derived.Maps.Keyed
import Derived.DeepKeys4
import Derived.Maps.Own
import Derived.Laws.CopyRow
import Derived.Deep.MidRow
import Derived.Deep.Quiet
import Derived.Deep.QuietTactic
import Derived.BigQuiet
import Derived.StillTail
import Derived.Carry
import Derived.RegionTactic
import Derived.ChangeKeysEq
import Derived.StillTailTactics
import Derived.Deep.RegionWith
import Derived.Deep.RegionHeld3
import Derived.IntWalk
import Derived.Shelf.SortM.Plain
import Derived.Shelf.SlicesG.Reverse
import Derived.Shelf.SlGeneric
import Derived.Laws.Cover3
namespace Go.Proofs.Ytjhpkibeddnbfaa
open Go.RowKit Go.ChangeShapes Go.WideShapes

set_option maxRecDepth 100000 in
set_option maxHeartbeats 400000 in
theorem toDessin_any (n : Int) (f g : Nat → Nat) (w : World) : Calls Try.prog 14 #[.agg (dv n f g)] w fun e w' => e = .returned (.agg (dv n f g)) ∧ Below w.heap.size w w' := by
  have hn := dv_n n f g
  go_enter Try.func14, Try.ntmps14
  go_wp2_with fail
  rw [← dv_lit n, ← dv_lit 0]
  refine (toPlaces_any f _).mono ?_
  rintro e w1 ⟨rfl, h1⟩
  have c0 : cellsOf w1 w.heap.size = dv n f g := (below_cells h1 (by simp <;> omega)).trans (cellsOf_heap (heap2 rfl))
  have r1 : rowOk w1 (w.heap.size + 1) 33 := (below_row h1 (by simp <;> omega)).2 ⟨_, _, heap1 (by simp), dv_size _ _ _⟩
  have c2 : cellsOf w1 (w.heap.size + 1 + 1) = dv n (fun _ => 0) (fun _ => 0) := (below_cells h1 (by simp)).trans (cellsOf_heap (heap_at _ _ _ (by simp)))
  have r2 : rowOk w1 (w.heap.size + 1 + 1) 33 := (below_row h1 (by simp)).2 ⟨_, _, heap_at _ _ _ (by simp), dv_size _ _ _⟩
  have b1 := (below3 w (.cells (dv n f g) 24) (.cells (dv 0 (fun _ => 0) (fun _ => 0)) 30) (.cells (dv n (fun _ => 0) (fun _ => 0)) 30)).trans (h1.mono (by simp <;> omega))
  clear h1
  go_wp2_with fail
  refine (toPlaces_any g _).mono ?_
  rintro e w2 ⟨rfl, h2⟩
  have l1 := r1.lt
  have l2 := r2.lt
  have s1 : rowOk (w1.setRow (w.heap.size + 1 + 1) (dv n f fun _ => 0)) (w.heap.size + 1) 33 := (rowOk_setRow_ne (by omega)).2 r1
  have s2 : rowOk (w1.setRow (w.heap.size + 1 + 1) (dv n f fun _ => 0)) (w.heap.size + 1 + 1) 33 := rowOk_setRow r2 (dv_size _ _ _)
  have q1 : rowOk w2 (w.heap.size + 1) 33 := (below_row h2 (by simp; omega)).2 s1
  have q2 : rowOk w2 (w.heap.size + 1 + 1) 33 := (below_row h2 (by simp; omega)).2 s2
  have k2 : cellsOf w2 (w.heap.size + 1 + 1) = dv n f (fun _ => 0) := (below_cells h2 (by simp; omega)).trans (cellsOf_setRow r2)
  have b2 := (below_setRow b1 (show w.heap.size ≤ w.heap.size + 1 + 1 by omega) (dv n f fun _ => 0)).trans (h2.mono (by simp; omega))
  clear h2 b1 r1 r2 c0 c2 s1 s2 l1 l2
  go_wp2
  obtain ⟨t, ht, _⟩ := ((rowOk_setRow_ne (c' := dv n f g) (show w.heap.size + 1 ≠ w.heap.size + 1 + 1 by omega)).2 q1).heap
  exact res_agg (p := 2) (g := w.heap.size + 1) aggD (dv_size n f g) rfl rfl rfl (setRow_heap _ _ _ _ t (0, 0) ht) ⟨rfl, below_setRow (below_setRow b2 (by omega) _) (by omega) _⟩

section
variable {H : Type} {enc : TypeId × Value → H} {w : World} {base : Nat} {spare : Nat → Bool} {held : Bool}
set_option maxRecDepth 100000 in
/-- a dessin that came in -/
theorem open_dessin {r : Reach} {b0 : Nat} {v : Value} {d : DataW H} {ps : List MemPlace}
    (hval : Value.okWide Try.prog w r b0 24 v) (hd : DataW.Trod enc Try.prog w base spare held 24 v d ps) :
    ∃ (n : Int) (f g : Nat → Nat), (-9223372036854775808 ≤ n ∧ n ≤ 9223372036854775807) ∧ (∀ i, f i < 256) ∧ (∀ i, g i < 256) ∧ v = .agg (dv n f g) := by
  obtain ⟨cs, rfl, hs⟩ := okWide_struct Try.underlying24 hval
  have h33 : cs.size = 33 := hs.trans (by kernel_rfl)
  obtain ⟨fuel, hf⟩ := hd
  obtain ⟨xs, m, _, hx, _, hlen, hfl⟩ := DataW.trod_struct Try.underlying24 hf
  have hx3 : xs.length = 3 := hlen
  have h0 : DataW.trod enc Try.prog w base spare held m 2 (List.take (Try.prog.cellsOf 2) (List.drop 0 cs.toList)) = xs[0]? := hfl 0 _ rfl
  have h1 : DataW.trod enc Try.prog w base spare held m 22 (List.take (Try.prog.cellsOf 22) (List.drop 1 cs.toList)) = xs[1]? := hfl 1 _ rfl
  have h2 : DataW.trod enc Try.prog w base spare held m 22 (List.take (Try.prog.cellsOf 22) (List.drop 17 cs.toList)) = xs[2]? := hfl 2 _ rfl
  rw [List.getElem?_eq_getElem (by omega)] at h0 h1 h2
  have e2 : Try.prog.cellsOf 2 = 1 := by kernel_rfl
  have e16 : Try.prog.cellsOf 22 = 16 := by kernel_rfl
  have e1 : Try.prog.cellsOf 5 = 1 := by kernel_rfl
  rw [e2] at h0
  rw [e16] at h1 h2
  obtain ⟨n, hn, _, hw⟩ := DataW.trod_int Try.underlying2 h0
  have part : ∀ (o : Nat), o + 16 ≤ 33 → ∀ y, DataW.trod enc Try.prog w base spare held m 22 (List.take 16 (List.drop o cs.toList)) = some y → ∃ f : Nat → Nat, (∀ i, f i < 256) ∧ ∀ i, i < 16 → cs[o + i]? = some (.int .u8 (f i)) := by
    intro o ho y hy
    obtain ⟨ys, m', _, _, _, hl, hi⟩ := DataW.trod_array Try.underlying22 hy
    obtain ⟨f, hf, e⟩ := bytes_of (l := List.take 16 (List.drop o cs.toList)) Try.underlying5 (by simp; omega) hl (fun i h => by have := hi i h; rw [e1, Nat.mul_one] at this; exact this)
    refine ⟨f, hf, fun i h => ?_⟩
    have := congrArg (·[i]?) e
    simp only [List.getElem?_toArray, List.getElem?_take_of_lt h, List.getElem?_drop, Array.getElem?_toList, av_get f h] at this
    exact this
  obtain ⟨f, hf, hfc⟩ := part 1 (by omega) _ h1
  obtain ⟨g, hg, hgc⟩ := part 17 (by omega) _ h2
  refine ⟨n, f, g, bounds_i64 hw, hf, hg, ?_⟩
  congr 1
  apply Array.ext_getElem?
  intro i
  rw [get_cases]
  by_cases hi : i < 33
  · rw [if_pos hi]
    by_cases h0 : i = 0
    · subst h0
      rw [if_pos rfl]
      have := congrArg (·[0]?) hn
      simpa [List.getElem?_take] using this
    · rw [if_neg h0]
      by_cases h17 : i < 17
      · have := hfc (i - 1) (by omega)
        rw [show 1 + (i - 1) = i from by omega] at this
        rw [if_pos h17, this]
      · have := hgc (i - 17) (by omega)
        rw [show 17 + (i - 17) = i from by omega] at this
        rw [if_neg h17, this]
  · rw [if_neg hi, Array.getElem?_eq_none]; omega
end

end Go.Proofs.Ytjhpkibeddnbfaa

namespace Go.Proofs.Ytjhpkibeddnbfaa
open Go.RowKit

set_option maxRecDepth 100000 in
set_option maxHeartbeats 1000000 in
theorem isDart_any (n : Int) (f g : Nat → Nat) (x : Int) (w : World) :
    Calls Try.prog 56 #[.agg (dv n f g), .int .i64 x] w fun e w' => e = .returned (.bool (decide (0 ≤ x ∧ x < n))) ∧ Below w.heap.size w w' := by
  have hn := dv_n n f g
  by_cases h0 : 0 ≤ x
  · have hd : decide (0 ≤ x ∧ x < n) = decide (x < n) := by simp [h0]
    rw [hd]
    have hd0 : decide (0 ≤ x) = true := by simp [h0]
    clear hd
    go_enter Try.func56, Try.ntmps56
    go_wp2
    go_ret
    exact ⟨rfl, below1 _ _⟩
  · have hd : decide (0 ≤ x ∧ x < n) = false := by simp [h0]
    rw [hd]
    have hd0 : decide (0 ≤ x) = false := by simp [h0]
    clear hd
    go_enter Try.func56, Try.ntmps56
    go_wp2
    go_ret
    exact ⟨rfl, below1 _ _⟩
open Classical in
noncomputable def namR (n : Int) (f g : Nat → Nat) (x : Int) : Value :=
  if desB n f g = true then (if 0 ≤ x ∧ x < n then .tuple #[.agg (av (namF f g n.toNat x.toNat)), .int .i64 0] else .tuple #[.agg (av fun _ => 0), .int .i64 2]) else .tuple #[.agg (av fun _ => 0), .int .i64 1]
theorem namR_eq (n : Int) (f g : Nat → Nat) (x : Int) : ∃ (r : Nat → Nat) (c : Int), namR n f g x = .tuple #[.agg (av r), .int .i64 c] := by
  unfold namR; split
  · split
    · exact ⟨_, _, rfl⟩
    · exact ⟨_, _, rfl⟩
  · exact ⟨_, _, rfl⟩

-- left out here: loop.example/g01200/impl.NamingFrom
-- left out here: loop.example/g01200/spec.NamingFrom
-- left out here: loop.example/g01200/laws.FnExactNamingFrom
end Go.Proofs.Ytjhpkibeddnbfaa

namespace Go.Proofs.Ytjhpkibeddnbfaa
open Go.RowKit

set_option maxRecDepth 100000 in
set_option maxHeartbeats 400000 in
theorem eqDessin_same (n : Int) (f g : Nat → Nat) (w : World) : Calls Try.prog 30 #[.agg (dv n f g), .agg (dv n f g)] w fun e w' => e = .returned (.bool true) ∧ Below w.heap.size w w' := by
  have hn := dv_n n f g
  have hne : (n != n) = false := by simp
  go_enter Try.func30, Try.ntmps30
  go_wp2_with fail
  refine (eqPlaces_same f _).mono ?_
  rintro e w1 ⟨rfl, h1⟩
  have c0 : cellsOf w1 w.heap.size = dv n f g := (below_cells h1 (by simp <;> omega)).trans (cellsOf_heap (heap1 rfl))
  have c1 : cellsOf w1 (w.heap.size + 1) = dv n f g := (below_cells h1 (by simp <;> omega)).trans (cellsOf_heap (heap_at _ _ _ (by simp)))
  have b1 := (below2 w (.cells (dv n f g) 30) (.cells (dv n f g) 30)).trans (h1.mono (by simp <;> omega))
  have l1 := h1.size
  clear h1
  go_wp2_with fail
  refine (eqPlaces_same g _).mono ?_
  rintro e w2 ⟨rfl, h2⟩
  have b2 := b1.trans (h2.mono (by simp at l1; omega))
  clear b1 h2 c0 c1
  go_wp2
  go_ret
  exact ⟨rfl, b2⟩

end Go.Proofs.Ytjhpkibeddnbfaa

namespace Go.Proofs.Ytjhpkibeddnbfaa
open Go.RowKit

noncomputable def prL (f g f' g' : Nat → Nat) (x y : Nat) : List Nat := (bfs (bF f f') (bF g g') (16 * x + y) 256).1
theorem prL_inv {f g f' g' : Nat → Nat} {m n : Nat} (hd : DesN f g m) (he : DesN f' g' n) {x y : Nat} (hx : x < 16) (hy : y < 16) :
    (prL f g f' g' x y).Nodup ∧ (∀ z ∈ prL f g f' g' x y, z < 256) ∧ (∀ z ∈ prL f g f' g' x y, bF f f' z ∈ prL f g f' g' x y ∧ bF g g' z ∈ prL f g f' g' x y) ∧ (prL f g f' g' x y).length ≤ 256 := by
  have hB := fun z hz => bF_lt hd.black he.black z hz
  have hW := fun z hz => bF_lt hd.white he.white z hz
  have hI := bfs_inv hB hW (show 16 * x + y < 256 by omega) 256
  exact ⟨hI.nodup, hI.lt, fun z hz => bfs_clos hB hW (by omega) (Nat.le_refl _) hz, hI.length_le⟩
theorem inD_any (n a b : Int) (w : World) : Calls Try.prog 54 #[.int .i64 n, .int .i64 a, .int .i64 b] w fun e w' => e = .returned (.bool (decide (a ≤ n ∧ n ≤ b))) ∧ w = w' := by
  by_cases h : a ≤ n ∧ n ≤ b
  · rw [decide_eq_true h]; exact in_yes n a b w h.1 h.2
  · rw [decide_eq_false h]; exact in_no n a b w h
open Classical in
noncomputable def proR (n : Int) (f g : Nat → Nat) (n' : Int) (f' g' : Nat → Nat) (x y : Int) : Value :=
  if desB n f g = true ∧ desB n' f' g' = true then
    if (0 ≤ x ∧ x < n) ∧ (0 ≤ y ∧ y < n') then
      if (prL f g f' g' x.toNat y.toNat).length ≤ 16 then .tuple #[.agg (dv (prL f g f' g' x.toNat y.toNat).length (upto (idxF (prL f g f' g' x.toNat y.toNat) (bF f f')) (prL f g f' g' x.toNat y.toNat).length) (upto (idxF (prL f g f' g' x.toNat y.toNat) (bF g g')) (prL f g f' g' x.toNat y.toNat).length)), .int .i64 0]
      else .tuple #[.agg (dv 0 (fun _ => 0) (fun _ => 0)), .int .i64 3]
    else .tuple #[.agg (dv 0 (fun _ => 0) (fun _ => 0)), .int .i64 2]
  else .tuple #[.agg (dv 0 (fun _ => 0) (fun _ => 0)), .int .i64 1]
theorem proR_eq (n : Int) (f g : Nat → Nat) (n' : Int) (f' g' : Nat → Nat) (x y : Int) : ∃ (a : Int) (r s : Nat → Nat) (c : Int), proR n f g n' f' g' x y = .tuple #[.agg (dv a r s), .int .i64 c] := by
  unfold proR
  split
  · split
    · split
      · exact ⟨_, _, _, _, rfl⟩
      · exact ⟨_, _, _, _, rfl⟩
    · exact ⟨_, _, _, _, rfl⟩
  · exact ⟨_, _, _, _, rfl⟩

set_option maxRecDepth 100000 in
set_option maxHeartbeats 1000000 in
theorem sBoth_any (n : Int) (f g : Nat → Nat) (hf : ∀ i, f i < 256) (hg : ∀ i, g i < 256) (n' : Int) (f' g' : Nat → Nat) (hf' : ∀ i, f' i < 256) (hg' : ∀ i, g' i < 256) (w : World) :
    Calls Try.prog 44 #[.agg (dv n f g), .agg (dv n' f' g')] w fun e w' => e = .returned (.int .i64 (if desB n f g = true ∧ desB n' f' g' = true then 0 else 1)) ∧ Below w.heap.size w w' := by
  have C1 := hide fun w => sIs_any n f g hf hg w
  have C2 := hide fun w => sIs_any n' f' g' hf' hg' w
  clear hf hg hf' hg'
  have HH0 := ((Holds.start w).blk (dv n f g) 30 w.heap.size rfl).blk (dv n' f' g') 30 (w.heap.size + 1) (by simp)
  rcases h1 : desB n f g with _ | _
  · rw [h1] at C1
    rw [if_neg (by simp)]
    go_enter Try.func44, Try.ntmps44
    go_wp2_with fail
    refine (C1.out _).mono ?_
    rintro e w1 ⟨rfl, hb⟩
    have HH1 := HH0.call hb
    go_wp2
    go_ret
    exact ⟨rfl, HH1.low⟩
  · rw [h1] at C1
    have hi : (if true = true ∧ desB n' f' g' = true then (0 : Int) else 1) = if desB n' f' g' = true then 0 else 1 := by simp
    rw [hi]
    clear hi
    rcases h2 : desB n' f' g' with _ | _
    all_goals
      rw [h2] at C2
      first | rw [if_pos rfl] | rw [if_neg (by simp)]
      go_enter Try.func44, Try.ntmps44
      go_wp2_with fail
      refine (C1.out _).mono ?_
      rintro e w1 ⟨rfl, hb⟩
      have HH1 := HH0.call hb
      have cd := HH1.cells 0 rfl
      clear hb
      go_wp2_with fail
      refine (C2.out _).mono ?_
      rintro e w2 ⟨rfl, hb⟩
      have HH2 := HH1.call hb
      go_wp2
      go_ret
      exact ⟨rfl, HH2.low⟩

set_option maxRecDepth 100000 in
set_option maxHeartbeats 4000000 in
theorem productAt_any (n : Int) (f g : Nat → Nat) (hf : ∀ i, f i < 256) (hg : ∀ i, g i < 256) (n' : Int) (f' g' : Nat → Nat) (hf' : ∀ i, f' i < 256) (hg' : ∀ i, g' i < 256) (x y : Int) (w : World) :
    Calls Try.prog 29 #[.agg (dv n f g), .agg (dv n' f' g'), .int .i64 x, .int .i64 y] w fun e w' => e = .returned (proR n f g n' f' g' x y) ∧ Below w.heap.size w w' := by
  have C1 := hide fun w => isDessin_any n f g hf hg w
  have C2 := hide fun w => isDessin_any n' f' g' hf' hg' w
  clear hf hg hf' hg'
  have HH0 := (((Holds.start w).blk (dv n f g) 30 w.heap.size rfl).blk (dv n' f' g') 30 (w.heap.size + 1) (by simp)).blk (dv 0 (fun _ => 0) (fun _ => 0)) 30 (w.heap.size + 1 + 1) (by simp)
  have hn := dv_n n f g
  have hm' := dv_n n' f' g'
  rcases h1 : desB n f g with _ | _
  · rw [h1] at C1
    have hr : proR n f g n' f' g' x y = (.tuple #[.agg (dv 0 (fun _ => 0) (fun _ => 0)), .int .i64 1]) := by unfold proR; rw [if_neg (by simp [h1])]
    rw [hr]
    clear h1 hr
    go_enter Try.func29, Try.ntmps29
    go_wp2_with fail
    try rw [← dv_zero]
    refine (C1.out _).mono ?_
    rintro e w1 ⟨rfl, hb1⟩
    have HH1 := HH0.call hb1
    clear hb1 HH0
    have cd1 := HH1.cells 2 rfl
    have ce1 := HH1.cells 1 rfl
    have cn1 := HH1.cell 2 rfl hn
    have cm1 := HH1.cell 1 rfl hm'
    have rr1 := HH1.rowOk 0 rfl (dv_size _ _ _)
    go_wp2
    try rw [← dv_zero]
    exact res_agg2 (p := 8) (t := 9) (g := (w.heap.size + 1 + 1)) (v := .int .i64 1) aggD (dv_size _ _ _) rfl rfl rfl rfl ((HH1.setRow 0 rfl (dv 0 (fun _ => 0) (fun _ => 0))).at 0 rfl) ⟨rfl, (HH1.setRow 0 rfl (dv 0 (fun _ => 0) (fun _ => 0))).low⟩
  rw [h1] at C1
  rcases h2 : desB n' f' g' with _ | _
  · rw [h2] at C2
    have hr : proR n f g n' f' g' x y = (.tuple #[.agg (dv 0 (fun _ => 0) (fun _ => 0)), .int .i64 1]) := by unfold proR; rw [if_neg (by simp [h2])]
    rw [hr]
    clear h1 h2 hr
    go_enter Try.func29, Try.ntmps29
    go_wp2_with fail
    try rw [← dv_zero]
    refine (C1.out _).mono ?_
    rintro e w1 ⟨rfl, hb1⟩
    have HH1 := HH0.call hb1
    clear hb1 HH0
    have cd1 := HH1.cells 2 rfl
    have ce1 := HH1.cells 1 rfl
    have cn1 := HH1.cell 2 rfl hn
    have cm1 := HH1.cell 1 rfl hm'
    have rr1 := HH1.rowOk 0 rfl (dv_size _ _ _)
    go_wp2_with fail
    refine (C2.out _).mono ?_
    rintro e w2 ⟨rfl, hb2⟩
    have HH2 := HH1.call hb2
    clear hb2 cd1 ce1 cn1 cm1 rr1 HH1
    have cd2 := HH2.cells 2 rfl
    have ce2 := HH2.cells 1 rfl
    have cn2 := HH2.cell 2 rfl hn
    have cm2 := HH2.cell 1 rfl hm'
    have rr2 := HH2.rowOk 0 rfl (dv_size _ _ _)
    go_wp2
    try rw [← dv_zero]
    exact res_agg2 (p := 8) (t := 9) (g := (w.heap.size + 1 + 1)) (v := .int .i64 1) aggD (dv_size _ _ _) rfl rfl rfl rfl ((HH2.setRow 0 rfl (dv 0 (fun _ => 0) (fun _ => 0))).at 0 rfl) ⟨rfl, (HH2.setRow 0 rfl (dv 0 (fun _ => 0) (fun _ => 0))).low⟩
  rw [h2] at C2
  have hdd := And.intro h1 h2
  obtain ⟨m, rfl, hd⟩ := desB_true h1
  obtain ⟨k, rfl, he⟩ := desB_true h2
  have hm := hd.le
  have hk := he.le
  have C3 := hide fun w => isDart_any m f g x w
  have C4 := hide fun w => isDart_any k f' g' y w
  by_cases hx : 0 ≤ x ∧ x < (m : Int)
  rotate_left
  · rw [decide_eq_false hx] at C3
    have hr : proR m f g k f' g' x y = (.tuple #[.agg (dv 0 (fun _ => 0) (fun _ => 0)), .int .i64 2]) := by unfold proR; rw [if_pos hdd, if_neg (fun h => hx h.1)]
    rw [hr]
    clear hr hx hdd h1 h2 hd he
    go_enter Try.func29, Try.ntmps29
    go_wp2_with fail
    try rw [← dv_zero]
    refine (C1.out _).mono ?_
    rintro e w1 ⟨rfl, hb1⟩
    have HH1 := HH0.call hb1
    clear hb1 HH0
    have cd1 := HH1.cells 2 rfl
    have ce1 := HH1.cells 1 rfl
    have cn1 := HH1.cell 2 rfl hn
    have cm1 := HH1.cell 1 rfl hm'
    have rr1 := HH1.rowOk 0 rfl (dv_size _ _ _)
    go_wp2_with fail
    refine (C2.out _).mono ?_
    rintro e w2 ⟨rfl, hb2⟩
    have HH2 := HH1.call hb2
    clear hb2 cd1 ce1 cn1 cm1 rr1 HH1
    have cd2 := HH2.cells 2 rfl
    have ce2 := HH2.cells 1 rfl
    have cn2 := HH2.cell 2 rfl hn
    have cm2 := HH2.cell 1 rfl hm'
    have rr2 := HH2.rowOk 0 rfl (dv_size _ _ _)
    go_wp2_with fail
    refine (C3.out _).mono ?_
    rintro e w3 ⟨rfl, hb3⟩
    have HH3 := HH2.call hb3
    clear hb3 cd2 ce2 cn2 cm2 rr2 HH2
    have cd3 := HH3.cells 2 rfl
    have ce3 := HH3.cells 1 rfl
    have cn3 := HH3.cell 2 rfl hn
    have cm3 := HH3.cell 1 rfl hm'
    have rr3 := HH3.rowOk 0 rfl (dv_size _ _ _)
    go_wp2
    try rw [← dv_zero]
    exact res_agg2 (p := 8) (t := 9) (g := (w.heap.size + 1 + 1)) (v := .int .i64 2) aggD (dv_size _ _ _) rfl rfl rfl rfl ((HH3.setRow 0 rfl (dv 0 (fun _ => 0) (fun _ => 0))).at 0 rfl) ⟨rfl, (HH3.setRow 0 rfl (dv 0 (fun _ => 0) (fun _ => 0))).low⟩
  rw [decide_eq_true hx] at C3
  by_cases hy : 0 ≤ y ∧ y < (k : Int)
  rotate_left
  · rw [decide_eq_false hy] at C4
    have hr : proR m f g k f' g' x y = (.tuple #[.agg (dv 0 (fun _ => 0) (fun _ => 0)), .int .i64 2]) := by unfold proR; rw [if_pos hdd, if_neg (fun h => hy h.2)]
    rw [hr]
    clear hr hx hy hdd h1 h2 hd he
    go_enter Try.func29, Try.ntmps29
    go_wp2_with fail
    try rw [← dv_zero]
    refine (C1.out _).mono ?_
    rintro e w1 ⟨rfl, hb1⟩
    have HH1 := HH0.call hb1
    clear hb1 HH0
    have cd1 := HH1.cells 2 rfl
    have ce1 := HH1.cells 1 rfl
    have cn1 := HH1.cell 2 rfl hn
    have cm1 := HH1.cell 1 rfl hm'
    have rr1 := HH1.rowOk 0 rfl (dv_size _ _ _)
    go_wp2_with fail
    refine (C2.out _).mono ?_
    rintro e w2 ⟨rfl, hb2⟩
    have HH2 := HH1.call hb2
    clear hb2 cd1 ce1 cn1 cm1 rr1 HH1
    have cd2 := HH2.cells 2 rfl
    have ce2 := HH2.cells 1 rfl
    have cn2 := HH2.cell 2 rfl hn
    have cm2 := HH2.cell 1 rfl hm'
    have rr2 := HH2.rowOk 0 rfl (dv_size _ _ _)
    go_wp2_with fail
    refine (C3.out _).mono ?_
    rintro e w3 ⟨rfl, hb3⟩
    have HH3 := HH2.call hb3
    clear hb3 cd2 ce2 cn2 cm2 rr2 HH2
    have cd3 := HH3.cells 2 rfl
    have ce3 := HH3.cells 1 rfl
    have cn3 := HH3.cell 2 rfl hn
    have cm3 := HH3.cell 1 rfl hm'
    have rr3 := HH3.rowOk 0 rfl (dv_size _ _ _)
    go_wp2_with fail
    refine (C4.out _).mono ?_
    rintro e w4 ⟨rfl, hb4⟩
    have HH4 := HH3.call hb4
    clear hb4 cd3 ce3 cn3 cm3 rr3 HH3
    have cd4 := HH4.cells 2 rfl
    have ce4 := HH4.cells 1 rfl
    have cn4 := HH4.cell 2 rfl hn
    have cm4 := HH4.cell 1 rfl hm'
    have rr4 := HH4.rowOk 0 rfl (dv_size _ _ _)
    go_wp2
    try rw [← dv_zero]
    exact res_agg2 (p := 8) (t := 9) (g := (w.heap.size + 1 + 1)) (v := .int .i64 2) aggD (dv_size _ _ _) rfl rfl rfl rfl ((HH4.setRow 0 rfl (dv 0 (fun _ => 0) (fun _ => 0))).at 0 rfl) ⟨rfl, (HH4.setRow 0 rfl (dv 0 (fun _ => 0) (fun _ => 0))).low⟩
  rw [decide_eq_true hy] at C4
  have hxy := And.intro hx hy
  obtain ⟨a, rfl⟩ := Int.eq_ofNat_of_zero_le hx.1
  obtain ⟨b, rfl⟩ := Int.eq_ofNat_of_zero_le hy.1
  have ha : a < m := by omega
  have hb : b < k := by omega
  have ha' : (a : Int) < 16 := by omega
  have hb' : (b : Int) < 16 := by omega
  have C5 := hide fun (w : World) => pairsFrom_any f g f' g' m k hd he a b (by omega) (by omega) w
  have hL := prL_inv hd he (x := a) (y := b) (by omega) (by omega)
  change Hid (∀ w : World, Calls Try.prog _ _ w fun e w' => ∃ v, e = .returned v ∧ Below w.heap.size w w' ∧ w'.ownsRow w.heap.size 68 2 v (prL f g f' g' a b).length (pairB (dec (prL f g f' g' a b)))) at C5
  by_cases hlen : (prL f g f' g' a b).length ≤ 16
  rotate_left
  · have hr : proR m f g k f' g' a b = (.tuple #[.agg (dv 0 (fun _ => 0) (fun _ => 0)), .int .i64 3]) := by unfold proR; rw [if_pos hdd, if_pos hxy, if_neg (by simpa only [Int.toNat_natCast] using hlen)]
    rw [hr]
    clear hr hx hy hdd h1 h2 hd he hxy ha hb
    obtain ⟨L, hLe⟩ : ∃ L, L = prL f g f' g' a b := ⟨_, rfl⟩
    rw [← hLe] at C5 hL hlen
    clear hLe
    have hgt : decide (((L.length : Nat) : Int) > 16) = true := decide_eq_true (by omega)
    go_enter Try.func29, Try.ntmps29
    go_wp2_with fail
    try rw [← dv_zero]
    refine (C1.out _).mono ?_
    rintro e w1 ⟨rfl, hb1⟩
    have HH1 := HH0.call hb1
    clear hb1 HH0
    have cd1 := HH1.cells 2 rfl
    have ce1 := HH1.cells 1 rfl
    have cn1 := HH1.cell 2 rfl hn
    have cm1 := HH1.cell 1 rfl hm'
    have rr1 := HH1.rowOk 0 rfl (dv_size _ _ _)
    go_wp2_with fail
    refine (C2.out _).mono ?_
    rintro e w2 ⟨rfl, hb2⟩
    have HH2 := HH1.call hb2
    clear hb2 cd1 ce1 cn1 cm1 rr1 HH1
    have cd2 := HH2.cells 2 rfl
    have ce2 := HH2.cells 1 rfl
    have cn2 := HH2.cell 2 rfl hn
    have cm2 := HH2.cell 1 rfl hm'
    have rr2 := HH2.rowOk 0 rfl (dv_size _ _ _)
    go_wp2_with fail
    refine (C3.out _).mono ?_
    rintro e w3 ⟨rfl, hb3⟩
    have HH3 := HH2.call hb3
    clear hb3 cd2 ce2 cn2 cm2 rr2 HH2
    have cd3 := HH3.cells 2 rfl
    have ce3 := HH3.cells 1 rfl
    have cn3 := HH3.cell 2 rfl hn
    have cm3 := HH3.cell 1 rfl hm'
    have rr3 := HH3.rowOk 0 rfl (dv_size _ _ _)
    go_wp2_with fail
    refine (C4.out _).mono ?_
    rintro e w4 ⟨rfl, hb4⟩
    have HH4 := HH3.call hb4
    clear hb4 cd3 ce3 cn3 cm3 rr3 HH3
    have cd4 := HH4.cells 2 rfl
    have ce4 := HH4.cells 1 rfl
    have cn4 := HH4.cell 2 rfl hn
    have cm4 := HH4.cell 1 rfl hm'
    have rr4 := HH4.rowOk 0 rfl (dv_size _ _ _)
    go_wp2_with fail
    refine (C5.out _).mono ?_
    rintro e w5 ⟨v, rfl, hb5, ho5⟩
    have HH5 := HH4.newRow hb5 ho5
    clear hb5 ho5 cd4 ce4 cn4 cm4 rr4 HH4
    have cd5 := HH5.cells 3 rfl
    have ce5 := HH5.cells 2 rfl
    have cn5 := HH5.cell 3 rfl hn
    have cm5 := HH5.cell 2 rfl hm'
    have rr5 := HH5.rowOk 1 rfl (dv_size _ _ _)
    obtain ⟨A, c, rfl⟩ := own_slice (HH5.row 0 rfl)
    go_wp2
    try rw [← dv_zero]
    exact res_agg2 (p := 8) (t := 9) (g := (w.heap.size + 1 + 1)) (v := .int .i64 3) aggD (dv_size _ _ _) rfl rfl rfl rfl ((HH5.setRow 1 rfl (dv 0 (fun _ => 0) (fun _ => 0))).at 1 rfl) ⟨rfl, (HH5.setRow 1 rfl (dv 0 (fun _ => 0) (fun _ => 0))).low⟩
  have hr : proR m f g k f' g' a b = .tuple #[.agg (dv (prL f g f' g' a b).length (upto (idxF (prL f g f' g' a b) (bF f f')) (prL f g f' g' a b).length) (upto (idxF (prL f g f' g' a b) (bF g g')) (prL f g f' g' a b).length)), .int .i64 0] := by
    unfold proR; rw [if_pos hdd, if_pos hxy]; simp only [Int.toNat_natCast]; rw [if_pos hlen]
  rw [hr]
  clear hr hx hy hdd h1 h2 hxy ha hb
  have C6 := hide fun (v : Value) (w : World) hv => product_any f g f' g' m k hd he (prL f g f' g' a b) hlen hL.1 hL.2.1 hL.2.2.1 v w hv
  generalize hLL : prL f g f' g' a b = L at *
  generalize upto (idxF L (bF f f')) L.length = U at *
  generalize upto (idxF L (bF g g')) L.length = V at *
  clear hLL hd he
  have hgt : decide (((L.length : Nat) : Int) > 16) = false := decide_eq_false (by omega)
  go_enter Try.func29, Try.ntmps29
  go_wp2_with fail
  try rw [← dv_zero]
  refine (C1.out _).mono ?_
  rintro e w1 ⟨rfl, hb1⟩
  have HH1 := HH0.call hb1
  clear hb1 HH0
  have cd1 := HH1.cells 2 rfl
  have ce1 := HH1.cells 1 rfl
  have cn1 := HH1.cell 2 rfl hn
  have cm1 := HH1.cell 1 rfl hm'
  have rr1 := HH1.rowOk 0 rfl (dv_size _ _ _)
  go_wp2_with fail
  refine (C2.out _).mono ?_
  rintro e w2 ⟨rfl, hb2⟩
  have HH2 := HH1.call hb2
  clear hb2 cd1 ce1 cn1 cm1 rr1 HH1
  have cd2 := HH2.cells 2 rfl
  have ce2 := HH2.cells 1 rfl
  have cn2 := HH2.cell 2 rfl hn
  have cm2 := HH2.cell 1 rfl hm'
  have rr2 := HH2.rowOk 0 rfl (dv_size _ _ _)
  go_wp2_with fail
  refine (C3.out _).mono ?_
  rintro e w3 ⟨rfl, hb3⟩
  have HH3 := HH2.call hb3
  clear hb3 cd2 ce2 cn2 cm2 rr2 HH2
  have cd3 := HH3.cells 2 rfl
  have ce3 := HH3.cells 1 rfl
  have cn3 := HH3.cell 2 rfl hn
  have cm3 := HH3.cell 1 rfl hm'
  have rr3 := HH3.rowOk 0 rfl (dv_size _ _ _)
  go_wp2_with fail
  refine (C4.out _).mono ?_
  rintro e w4 ⟨rfl, hb4⟩
  have HH4 := HH3.call hb4
  clear hb4 cd3 ce3 cn3 cm3 rr3 HH3
  have cd4 := HH4.cells 2 rfl
  have ce4 := HH4.cells 1 rfl
  have cn4 := HH4.cell 2 rfl hn
  have cm4 := HH4.cell 1 rfl hm'
  have rr4 := HH4.rowOk 0 rfl (dv_size _ _ _)
  go_wp2_with fail
  refine (C5.out _).mono ?_
  rintro e w5 ⟨v, rfl, hb5, ho5⟩
  have HH5 := HH4.newRow hb5 ho5
  clear hb5 ho5 cd4 ce4 cn4 cm4 rr4 HH4
  have cd5 := HH5.cells 3 rfl
  have ce5 := HH5.cells 2 rfl
  have cn5 := HH5.cell 3 rfl hn
  have cm5 := HH5.cell 2 rfl hm'
  have rr5 := HH5.rowOk 1 rfl (dv_size _ _ _)
  have hv : RdP w5 v (dec L) := by
    have := row_low (HH5.row 0 rfl) (Nat.zero_le _)
    unfold RdP; rw [dec_length]; exact this
  obtain ⟨A, c, rfl⟩ := own_slice (HH5.row 0 rfl)
  have HV := hide hv; clear hv
  go_wp2_with fail
  refine (C6.out _ _ HV.out).mono ?_
  rintro e w6 ⟨rfl, hb6⟩
  have HH6 := HH5.call hb6
  clear hb6 cd5 ce5 cn5 cm5 rr5 HH5
  have cd6 := HH6.cells 3 rfl
  have ce6 := HH6.cells 2 rfl
  have cn6 := HH6.cell 3 rfl hn
  have cm6 := HH6.cell 2 rfl hm'
  have rr6 := HH6.rowOk 1 rfl (dv_size _ _ _)
  go_wp2
  try rw [← dv_zero]
  exact res_agg2 (p := 8) (t := 9) (g := (w.heap.size + 1 + 1)) (v := .int .i64 0) aggD (dv_size _ _ _) rfl rfl rfl rfl ((HH6.setRow 1 rfl (dv L.length U V)).at 1 rfl) ⟨rfl, (HH6.setRow 1 rfl (dv L.length U V)).low⟩

set_option maxRecDepth 100000 in
set_option maxHeartbeats 4000000 in
theorem sProductAt_any (n : Int) (f g : Nat → Nat) (hf : ∀ i, f i < 256) (hg : ∀ i, g i < 256) (n' : Int) (f' g' : Nat → Nat) (hf' : ∀ i, f' i < 256) (hg' : ∀ i, g' i < 256) (x y : Int) (w : World) :
    Calls Try.prog 28 #[.agg (dv n f g), .agg (dv n' f' g'), .int .i64 x, .int .i64 y] w fun e w' => e = .returned (proR n f g n' f' g' x y) ∧ Below w.heap.size w w' := by
  have C1 := hide fun w => sBoth_any n f g hf hg n' f' g' hf' hg' w
  clear hf hg hf' hg'
  have HH0 := (((Holds.start w).blk (dv n f g) 30 w.heap.size rfl).blk (dv n' f' g') 30 (w.heap.size + 1) (by simp)).blk (dv 0 (fun _ => 0) (fun _ => 0)) 30 (w.heap.size + 1 + 1) (by simp)
  have hn := dv_n n f g
  have hm' := dv_n n' f' g'
  by_cases hde : desB n f g = true ∧ desB n' f' g' = true
  rotate_left
  · rw [if_neg hde] at C1
    have hr : proR n f g n' f' g' x y = (.tuple #[.agg (dv 0 (fun _ => 0) (fun _ => 0)), .int .i64 1]) := by unfold proR; rw [if_neg hde]
    rw [hr]
    clear hr hde
    go_enter Try.func28, Try.ntmps28
    go_wp2_with fail
    try rw [← dv_zero]
    refine (C1.out _).mono ?_
    rintro e w1 ⟨rfl, hb1⟩
    have HH1 := HH0.call hb1
    clear hb1 HH0
    have cd1 := HH1.cells 2 rfl
    have ce1 := HH1.cells 1 rfl
    have cn1 := HH1.cell 2 rfl hn
    have cm1 := HH1.cell 1 rfl hm'
    have rr1 := HH1.rowOk 0 rfl (dv_size _ _ _)
    go_wp2
    try rw [← dv_zero]
    exact res_agg2 (p := 8) (t := 9) (g := (w.heap.size + 1 + 1)) (v := .int .i64 1) aggD (dv_size _ _ _) rfl rfl rfl rfl ((HH1.setRow 0 rfl (dv 0 (fun _ => 0) (fun _ => 0))).at 0 rfl) ⟨rfl, (HH1.setRow 0 rfl (dv 0 (fun _ => 0) (fun _ => 0))).low⟩
  rw [if_pos hde] at C1
  obtain ⟨h1, h2⟩ := hde
  have hdd := And.intro h1 h2
  obtain ⟨m, rfl, hd⟩ := desB_true h1
  obtain ⟨k, rfl, he⟩ := desB_true h2
  have hm := hd.le
  have hk := he.le
  have C3 := hide fun w => inD_any x 0 ((m : Int) - 1) w
  have C4 := hide fun w => inD_any y 0 ((k : Int) - 1) w
  by_cases hx : 0 ≤ x ∧ x < (m : Int)
  rotate_left
  · rw [decide_eq_false (show ¬ (0 ≤ x ∧ x ≤ (m : Int) - 1) by omega)] at C3
    have hr : proR m f g k f' g' x y = (.tuple #[.agg (dv 0 (fun _ => 0) (fun _ => 0)), .int .i64 2]) := by unfold proR; rw [if_pos hdd, if_neg (fun h => hx h.1)]
    rw [hr]
    clear hr hx hdd h1 h2 hd he
    go_enter Try.func28, Try.ntmps28
    go_wp2_with fail
    try rw [← dv_zero]
    refine (C1.out _).mono ?_
    rintro e w1 ⟨rfl, hb1⟩
    have HH1 := HH0.call hb1
    clear hb1 HH0
    have cd1 := HH1.cells 2 rfl
    have ce1 := HH1.cells 1 rfl
    have cn1 := HH1.cell 2 rfl hn
    have cm1 := HH1.cell 1 rfl hm'
    have rr1 := HH1.rowOk 0 rfl (dv_size _ _ _)
    go_wp2_with fail
    refine (C3.out _).mono ?_
    rintro e w2 ⟨rfl, rfl⟩
    have HH2 := HH1
    clear cd1 ce1 cn1 cm1 rr1 HH1
    have cd2 := HH2.cells 2 rfl
    have ce2 := HH2.cells 1 rfl
    have cn2 := HH2.cell 2 rfl hn
    have cm2 := HH2.cell 1 rfl hm'
    have rr2 := HH2.rowOk 0 rfl (dv_size _ _ _)
    go_wp2
    try rw [← dv_zero]
    exact res_agg2 (p := 8) (t := 9) (g := (w.heap.size + 1 + 1)) (v := .int .i64 2) aggD (dv_size _ _ _) rfl rfl rfl rfl ((HH2.setRow 0 rfl (dv 0 (fun _ => 0) (fun _ => 0))).at 0 rfl) ⟨rfl, (HH2.setRow 0 rfl (dv 0 (fun _ => 0) (fun _ => 0))).low⟩
  rw [decide_eq_true (show 0 ≤ x ∧ x ≤ (m : Int) - 1 by omega)] at C3
  by_cases hy : 0 ≤ y ∧ y < (k : Int)
  rotate_left
  · rw [decide_eq_false (show ¬ (0 ≤ y ∧ y ≤ (k : Int) - 1) by omega)] at C4
    have hr : proR m f g k f' g' x y = (.tuple #[.agg (dv 0 (fun _ => 0) (fun _ => 0)), .int .i64 2]) := by unfold proR; rw [if_pos hdd, if_neg (fun h => hy h.2)]
    rw [hr]
    clear hr hx hy hdd h1 h2 hd he
    go_enter Try.func28, Try.ntmps28
    go_wp2_with fail
    try rw [← dv_zero]
    refine (C1.out _).mono ?_
    rintro e w1 ⟨rfl, hb1⟩
    have HH1 := HH0.call hb1
    clear hb1 HH0
    have cd1 := HH1.cells 2 rfl
    have ce1 := HH1.cells 1 rfl
    have cn1 := HH1.cell 2 rfl hn
    have cm1 := HH1.cell 1 rfl hm'
    have rr1 := HH1.rowOk 0 rfl (dv_size _ _ _)
    go_wp2_with fail
    refine (C3.out _).mono ?_
    rintro e w2 ⟨rfl, rfl⟩
    have HH2 := HH1
    clear cd1 ce1 cn1 cm1 rr1 HH1
    have cd2 := HH2.cells 2 rfl
    have ce2 := HH2.cells 1 rfl
    have cn2 := HH2.cell 2 rfl hn
    have cm2 := HH2.cell 1 rfl hm'
    have rr2 := HH2.rowOk 0 rfl (dv_size _ _ _)
    go_wp2_with fail
    refine (C4.out _).mono ?_
    rintro e w3 ⟨rfl, rfl⟩
    have HH3 := HH2
    clear cd2 ce2 cn2 cm2 rr2 HH2
    have cd3 := HH3.cells 2 rfl
    have ce3 := HH3.cells 1 rfl
    have cn3 := HH3.cell 2 rfl hn
    have cm3 := HH3.cell 1 rfl hm'
    have rr3 := HH3.rowOk 0 rfl (dv_size _ _ _)
    go_wp2
    try rw [← dv_zero]
    exact res_agg2 (p := 8) (t := 9) (g := (w.heap.size + 1 + 1)) (v := .int .i64 2) aggD (dv_size _ _ _) rfl rfl rfl rfl ((HH3.setRow 0 rfl (dv 0 (fun _ => 0) (fun _ => 0))).at 0 rfl) ⟨rfl, (HH3.setRow 0 rfl (dv 0 (fun _ => 0) (fun _ => 0))).low⟩
  rw [decide_eq_true (show 0 ≤ y ∧ y ≤ (k : Int) - 1 by omega)] at C4
  have hxy := And.intro hx hy
  obtain ⟨a, rfl⟩ := Int.eq_ofNat_of_zero_le hx.1
  obtain ⟨b, rfl⟩ := Int.eq_ofNat_of_zero_le hy.1
  have ha : a < m := by omega
  have hb : b < k := by omega
  have ha' : (a : Int) < 16 := by omega
  have hb' : (b : Int) < 16 := by omega
  have C5 := hide fun (w : World) => sPairs_any f g f' g' m k hd he a b (by omega) (by omega) w
  have hL := prL_inv hd he (x := a) (y := b) (by omega) (by omega)
  change Hid (∀ w : World, Calls Try.prog _ _ w fun e w' => ∃ v, e = .returned (.tuple #[v, .agg (nv (nmF (prL f g f' g' a b)))]) ∧ Below w.heap.size w w' ∧ w'.ownsRow w.heap.size 76 2 v (prL f g f' g' a b).length (pairB (dec (prL f g f' g' a b)))) at C5
  by_cases hlen : (prL f g f' g' a b).length ≤ 16
  rotate_left
  · have hr : proR m f g k f' g' a b = (.tuple #[.agg (dv 0 (fun _ => 0) (fun _ => 0)), .int .i64 3]) := by unfold proR; rw [if_pos hdd, if_pos hxy, if_neg (by simpa only [Int.toNat_natCast] using hlen)]
    rw [hr]
    clear hr hx hy hdd h1 h2 hd he hxy ha hb
    obtain ⟨L, hLe⟩ : ∃ L, L = prL f g f' g' a b := ⟨_, rfl⟩
    rw [← hLe] at C5 hL hlen
    clear hLe
    have hgt : decide (((L.length : Nat) : Int) > 16) = true := decide_eq_true (by omega)
    go_enter Try.func28, Try.ntmps28
    go_wp2_with fail
    try rw [← dv_zero]
    refine (C1.out _).mono ?_
    rintro e w1 ⟨rfl, hb1⟩
    have HH1 := HH0.call hb1
    clear hb1 HH0
    have cd1 := HH1.cells 2 rfl
    have ce1 := HH1.cells 1 rfl
    have cn1 := HH1.cell 2 rfl hn
    have cm1 := HH1.cell 1 rfl hm'
    have rr1 := HH1.rowOk 0 rfl (dv_size _ _ _)
    go_wp2_with fail
    refine (C3.out _).mono ?_
    rintro e w2 ⟨rfl, rfl⟩
    have HH2 := HH1
    clear cd1 ce1 cn1 cm1 rr1 HH1
    have cd2 := HH2.cells 2 rfl
    have ce2 := HH2.cells 1 rfl
    have cn2 := HH2.cell 2 rfl hn
    have cm2 := HH2.cell 1 rfl hm'
    have rr2 := HH2.rowOk 0 rfl (dv_size _ _ _)
    go_wp2_with fail
    refine (C4.out _).mono ?_
    rintro e w3 ⟨rfl, rfl⟩
    have HH3 := HH2
    clear cd2 ce2 cn2 cm2 rr2 HH2
    have cd3 := HH3.cells 2 rfl
    have ce3 := HH3.cells 1 rfl
    have cn3 := HH3.cell 2 rfl hn
    have cm3 := HH3.cell 1 rfl hm'
    have rr3 := HH3.rowOk 0 rfl (dv_size _ _ _)
    go_wp2_with fail
    refine (C5.out _).mono ?_
    rintro e w4 ⟨v, rfl, hb4, ho5⟩
    have HH4 := HH3.newRow hb4 ho5
    clear hb4 ho5 cd3 ce3 cn3 cm3 rr3 HH3
    have cd4 := HH4.cells 3 rfl
    have ce4 := HH4.cells 2 rfl
    have cn4 := HH4.cell 3 rfl hn
    have cm4 := HH4.cell 2 rfl hm'
    have rr4 := HH4.rowOk 1 rfl (dv_size _ _ _)
    obtain ⟨A, c, rfl⟩ := own_slice (HH4.row 0 rfl)
    have zz := zeroN
    go_wp2_with fail
    have HH5 := HH4.blk (nv (nmF L)) 73 w4.heap.size rfl
    clear zz cd4 ce4 cn4 cm4 rr4 HH4
    generalize w4.alloc (.cells (nv (nmF L)) 73) = w5 at *
    generalize w4.heap.size = G5 at *
    have rr5 := HH5.rowOk 2 rfl (dv_size _ _ _)
    go_simp
    go_wp2
    try rw [← dv_zero]
    exact res_agg2 (p := 8) (t := 9) (g := (w.heap.size + 1 + 1)) (v := .int .i64 3) aggD (dv_size _ _ _) rfl rfl rfl rfl ((HH5.setRow 2 rfl (dv 0 (fun _ => 0) (fun _ => 0))).at 2 rfl) ⟨rfl, (HH5.setRow 2 rfl (dv 0 (fun _ => 0) (fun _ => 0))).low⟩
  have hr : proR m f g k f' g' a b = .tuple #[.agg (dv (prL f g f' g' a b).length (upto (idxF (prL f g f' g' a b) (bF f f')) (prL f g f' g' a b).length) (upto (idxF (prL f g f' g' a b) (bF g g')) (prL f g f' g' a b).length)), .int .i64 0] := by
    unfold proR; rw [if_pos hdd, if_pos hxy]; simp only [Int.toNat_natCast]; rw [if_pos hlen]
  rw [hr]
  clear hr hx hy hdd h1 h2 hxy ha hb
  have hI := hL
  generalize hLL : prL f g f' g' a b = L at *
  clear hLL
  have HL := hide hL; clear hL
  have HP := hide (And.intro (And.intro hd.black hd.white) (And.intro he.black he.white)); clear hd he
  have hgt : decide (((L.length : Nat) : Int) > 16) = false := decide_eq_false (by omega)
  go_enter Try.func28, Try.ntmps28
  go_wp2_with fail
  try rw [← dv_zero]
  refine (C1.out _).mono ?_
  rintro e w1 ⟨rfl, hb1⟩
  have HH1 := HH0.call hb1
  clear hb1 HH0
  have cd1 := HH1.cells 2 rfl
  have ce1 := HH1.cells 1 rfl
  have cn1 := HH1.cell 2 rfl hn
  have cm1 := HH1.cell 1 rfl hm'
  have rr1 := HH1.rowOk 0 rfl (dv_size _ _ _)
  go_wp2_with fail
  refine (C3.out _).mono ?_
  rintro e w2 ⟨rfl, rfl⟩
  have HH2 := HH1
  clear cd1 ce1 cn1 cm1 rr1 HH1
  have cd2 := HH2.cells 2 rfl
  have ce2 := HH2.cells 1 rfl
  have cn2 := HH2.cell 2 rfl hn
  have cm2 := HH2.cell 1 rfl hm'
  have rr2 := HH2.rowOk 0 rfl (dv_size _ _ _)
  go_wp2_with fail
  refine (C4.out _).mono ?_
  rintro e w3 ⟨rfl, rfl⟩
  have HH3 := HH2
  clear cd2 ce2 cn2 cm2 rr2 HH2
  have cd3 := HH3.cells 2 rfl
  have ce3 := HH3.cells 1 rfl
  have cn3 := HH3.cell 2 rfl hn
  have cm3 := HH3.cell 1 rfl hm'
  have rr3 := HH3.rowOk 0 rfl (dv_size _ _ _)
  go_wp2_with fail
  refine (C5.out _).mono ?_
  rintro e w4 ⟨v, rfl, hb4, ho5⟩
  have HH4 := HH3.newRow hb4 ho5
  clear hb4 ho5 cd3 ce3 cn3 cm3 rr3 HH3
  have cd4 := HH4.cells 3 rfl
  have ce4 := HH4.cells 2 rfl
  have cn4 := HH4.cell 3 rfl hn
  have cm4 := HH4.cell 2 rfl hm'
  have rr4 := HH4.rowOk 1 rfl (dv_size _ _ _)
  obtain ⟨A, c, rfl⟩ := own_slice (HH4.row 0 rfl)
  have zz := zeroN
  have hz := dv_lit ((L.length : Nat) : Int)
  have HZ := hide hz; clear hz
  have ho := (ones_dv ((L.length : Nat) : Int) (fun _ => 0) (fun _ => 0)).2 trivial
  rw [HZ.out] at ho
  go_wp2_with fail
  try rw [← HZ.out]
  clear zz ho cd4 ce4 cn4 cm4 rr4
  have hrow := HH4.at 0 rfl
  have HHs : Holds w w4 [pPairsB (.slice A L.length c) (dec L), pBlk (w.heap.size + 1 + 1) (dv 0 (fun _ => 0) (fun _ => 0)) 30, pBlk (w.heap.size + 1) (dv k f' g') 30, pBlk w.heap.size (dv m f g) 30] := by
    unfold pPairsB; rw [dec_length]; exact HH4
  have HHt := (HHs.blk (nv (nmF L)) 73 w4.heap.size rfl).blk (dv L.length (fun _ => 0) (fun _ => 0)) 30 (w4.heap.size + 1) (by simp)
  clear HH4 HHs hrow
  generalize (w4.alloc (.cells (nv (nmF L)) 73)).alloc (.cells (dv L.length (fun _ => 0) (fun _ => 0)) 30) = wd at *
  generalize w4.heap.size + 1 = G6 at *
  generalize w4.heap.size = G5 at *
  go_loopw [14] (fun t wr => ∃ j : Nat, j ≤ L.length ∧ t = .int .i64 j ∧ Holds w wr [pBlk G6 (dv L.length (upto (idxF L (bF f f')) j) (upto (idxF L (bF g g')) j)) 30, pBlk G5 (nv (nmF L)) 73, pPairsB (.slice A L.length c) (dec L), pBlk (w.heap.size + 1 + 1) (dv 0 (fun _ => 0) (fun _ => 0)) 30, pBlk (w.heap.size + 1) (dv k f' g') 30, pBlk w.heap.size (dv m f g) 30]) (fun t _ => L.length - (intOf t).toNat)
  case atStart => exact ⟨0, by omega, rfl, by rw [upto_zero, upto_zero]; exact HHt⟩
  case round =>
    clear HHt
    obtain ⟨j, hj, rfl, hH⟩ := hrel
    by_cases hjl : j < L.length
    · obtain ⟨g0, c0, e0, _, y1, y2⟩ := hH.pairsB 2 rfl (k := j) (by rw [dec_length]; exact hjl)
      injection e0 with e0 e1 e2
      subst e0
      clear e1 e2
      rw [dec_at hjl] at y1 y2
      have hg : L.getD j 0 = L[j] := by rw [List.getD_eq_getElem?_getD, List.getElem?_eq_getElem hjl]; rfl
      rw [← hg] at y1 y2
      obtain ⟨p, hp⟩ : ∃ p, p = L.getD j 0 / 16 := ⟨_, rfl⟩
      obtain ⟨q, hq⟩ : ∃ q, q = L.getD j 0 % 16 := ⟨_, rfl⟩
      rw [← hp] at y1
      rw [← hq] at y2
      have hmz : L.getD j 0 ∈ L := by rw [hg]; exact List.getElem_mem hjl
      have hz := HL.out.2.1 _ hmz
      have hc := HL.out.2.2.1 _ hmz
      have hp16 : p < 16 := by omega
      have hq16 : q < 16 := by omega
      have hp' : (p : Int) < 16 := by omega
      have hq' : (q : Int) < 16 := by omega
      have hj' : (j : Int) < 16 := by omega
      have hfp := HP.out.1.1.lt16 hp16
      have hgp := HP.out.1.2.lt16 hp16
      have hfq := HP.out.2.1.lt16 hq16
      have hgq := HP.out.2.2.lt16 hq16
      have eB : f p * 16 + f' q = bF f f' (L.getD j 0) := by
        have h1 := bF_1 (p := f) (q := f') (z := L.getD j 0) (by rw [← hq]; exact hfq)
        have h2 := bF_2 (p := f) (q := f') (z := L.getD j 0) (by rw [← hq]; exact hfq)
        rw [← hp] at h1; rw [← hq] at h2; omega
      have eW : g p * 16 + g' q = bF g g' (L.getD j 0) := by
        have h1 := bF_1 (p := g) (q := g') (z := L.getD j 0) (by rw [← hq]; exact hgq)
        have h2 := bF_2 (p := g) (q := g') (z := L.getD j 0) (by rw [← hq]; exact hgq)
        rw [← hp] at h1; rw [← hq] at h2; omega
      have iB : nmF L (f p * 16 + f' q) = ((idxF L (bF f f') j : Nat) : Int) := by rw [eB]; unfold nmF idxF; rw [if_pos hc.1]
      have iW : nmF L (g p * 16 + g' q) = ((idxF L (bF g g') j : Nat) : Int) := by rw [eW]; unfold nmF idxF; rw [if_pos hc.2]
      have lB : idxF L (bF f f') j < L.length := List.idxOf_lt_length_of_mem hc.1
      have lW : idxF L (bF g g') j < L.length := List.idxOf_lt_length_of_mem hc.2
      have s1 := upto_step (idxF L (bF f f')) j
      have s2 := upto_step (idxF L (bF g g')) j
      have nB : (nv (nmF L))[f p * 16 + f' q]? = some (.int .i64 ((idxF L (bF f f') j : Nat) : Int)) := by rw [nv_get _ (by omega), iB]
      have nW : (nv (nmF L))[g p * 16 + g' q]? = some (.int .i64 ((idxF L (bF g g') j : Nat) : Int)) := by rw [nv_get _ (by omega), iW]
      generalize idxF L (bF f f') j = vB at *
      generalize idxF L (bF g g') j = vW at *
      have lB' : (vB : Int) < 256 := by omega
      have lW' : (vW : Int) < 256 := by omega
      have hf16 : ((f p : Nat) : Int) < 16 := by omega
      have hg16 : ((g p : Nat) : Int) < 16 := by omega
      have hf16' : ((f' q : Nat) : Int) < 16 := by omega
      have hg16' : ((g' q : Nat) : Int) < 16 := by omega
      have SS := hide (And.intro s1 s2); clear s1 s2
      have NN := hide (And.intro nB nW); clear nB nW
      clear hp hq hmz hz hc eB eW iB iW hg
      generalize upto (idxF L (bF f f')) j = U1 at *
      generalize upto (idxF L (bF g g')) j = U2 at *
      generalize hV1 : upto (idxF L (bF f f')) (j + 1) = V1 at *
      generalize hV2 : upto (idxF L (bF g g')) (j + 1) = V2 at *
      have HV := hide (And.intro hV1 hV2); clear hV1 hV2
      have hHb := hH.blk #[.int .u8 (p : Nat), .int .u8 (q : Nat)] 76 wr.heap.size rfl
      have hj16 : j < 16 := by omega
      go_wp2
      clear y1 y2 hH
      generalize wr.alloc (.cells #[.int .u8 (p : Nat), .int .u8 (q : Nat)] 76) = wo at *
      generalize wr.heap.size = G7 at *
      refine region_tail (fun wx => Holds w wx _) 17 (by kernel_rfl) (by kernel_rfl) hHb.drew ?_
      simp only [List.take_succ_cons, List.take_zero, List.drop_succ_cons, List.drop_zero]
      iterate 17
        apply q_step
        · go_simp
        · intro wx hx
          have q1 := hx.cell 0 (j := 0) rfl rfl
          have q2 := hx.cell 0 (j := 1) rfl rfl
          have c3 := hx.cell 6 rfl (dv_b m f g hp16)
          have c4 := hx.cell 5 rfl (dv_b k f' g' hq16)
          have c5 := hx.cell 2 rfl NN.out.1
          go_simp
          try exact rfl
      refine wpQuiet_nil ?_
      intro w6 hx6
      have r1 := hx6.cell 1 rfl (dv_b L.length U1 U2 hj16)
      have r2 := hx6.frozen 1 rfl (1 + j)
      have hS := hx6.set 1 rfl (1 + j) (.int .u8 (vB : Nat))
      rw [dv_setb _ _ _ _ hj16, SS.out.1] at hS
      replace hS : Holds w (w6.setCell ⟨G6, 1 + j, none⟩ (.int .u8 (vB : Nat))) [pBlk G7 #[.int .u8 (p : Nat), .int .u8 (q : Nat)] 76, pBlk G6 (dv L.length V1 U2) 30, pBlk G5 (nv (nmF L)) 73, pPairsB (.slice (some ⟨g0, 0, none⟩) L.length c) (dec L), pBlk (w.heap.size + 1 + 1) (dv 0 (fun _ => 0) (fun _ => 0)) 30, pBlk (w.heap.size + 1) (dv k f' g') 30, pBlk w.heap.size (dv m f g) 30] := hS
      clear hHb
      go_wp2_with fail
      clear r1 r2 hx6
      generalize w6.setCell ⟨G6, 1 + j, none⟩ (.int .u8 (vB : Nat)) = w7 at *
      refine region_tail (fun wx => Holds w wx _) 17 (by kernel_rfl) (by kernel_rfl) hS.drew ?_
      simp only [List.take_succ_cons, List.take_zero, List.drop_succ_cons, List.drop_zero]
      iterate 17
        apply q_step
        · go_simp
        · intro wx hx
          have q1 := hx.cell 0 (j := 0) rfl rfl
          have q2 := hx.cell 0 (j := 1) rfl rfl
          have c3 := hx.cell 6 rfl (dv_w m f g hp16)
          have c4 := hx.cell 5 rfl (dv_w k f' g' hq16)
          have c5 := hx.cell 2 rfl NN.out.2
          go_simp
          try exact rfl
      refine wpQuiet_nil ?_
      intro w8 hx8
      have r1 := hx8.cell 1 rfl (dv_w L.length V1 U2 hj16)
      have r2 := hx8.frozen 1 rfl (17 + j)
      have hT := hx8.set 1 rfl (17 + j) (.int .u8 (vW : Nat))
      rw [dv_setw _ _ _ _ hj16, SS.out.2] at hT
      clear hS
      go_wp2
      clear r1 r2 hx8
      go_roundw
      case rel =>
        refine ⟨j + 1, by omega, by go_num, ?_⟩
        rw [HV.out.1, HV.out.2]
        exact hT.tail
      case measure => simp [intOf]; omega
    · obtain ⟨K, hK⟩ : ∃ K, K = L.length := ⟨_, rfl⟩
      obtain rfl : j = K := by omega
      subst hK
      have cc := hH.cells 0 rfl
      have rr := hH.rowOk 3 rfl (dv_size _ _ _)
      clear hj hjl
      go_wp2
      have H2 := hH.setRow 3 rfl (dv L.length (upto (idxF L (bF f f')) L.length) (upto (idxF L (bF g g')) L.length))
      exact res_agg2 (p := 8) (t := 9) (g := (w.heap.size + 1 + 1)) (v := .int .i64 0) aggD (dv_size _ _ _) rfl rfl rfl rfl (H2.at 3 rfl) ⟨rfl, H2.low⟩

set_option maxRecDepth 100000 in
set_option maxHeartbeats 1000000 in
theorem fnExactProductAt_walk (n : Int) (f g : Nat → Nat) (_hn : -9223372036854775808 ≤ n ∧ n ≤ 9223372036854775807) (hf : ∀ i, f i < 256) (hg : ∀ i, g i < 256) (n' : Int) (f' g' : Nat → Nat) (_hn' : -9223372036854775808 ≤ n' ∧ n' ≤ 9223372036854775807) (hf' : ∀ i, f' i < 256) (hg' : ∀ i, g' i < 256) (x : Int) (_hx : -9223372036854775808 ≤ x ∧ x ≤ 9223372036854775807) (y : Int) (_hy : -9223372036854775808 ≤ y ∧ y ≤ 9223372036854775807) (w : World) :
    Calls Try.prog 7 #[.agg (dv n f g), .agg (dv n' f' g'), .int .i64 x, .int .i64 y] w fun e w' => e = .returned (.bool true) ∧ Below w.heap.size w w' := by
  obtain ⟨a, r, s, c, hR⟩ := proR_eq n f g n' f' g' x y
  have c1 := fun w => productAt_any n f g hf hg n' f' g' hf' hg' x y w
  have c2 := fun w => sProductAt_any n f g hf hg n' f' g' hf' hg' x y w
  rw [hR] at c1 c2
  have C1 := hide c1; clear c1
  have C2 := hide c2; clear c2
  have T0 := hide fun w => toDessin_any n f g w
  have T1 := hide fun w => toDessin_any n' f' g' w
  clear hR hf hg _hn hf' hg' _hn' _hx _hy
  have hne : (c != c) = false := by simp
  go_enter Try.func7, Try.ntmps7
  go_wp2
  generalize hW : ((w.alloc (.cells (dv n f g) 24)).alloc (.cells (dv n' f' g') 24)) = W
  have y0 : cellsOf W w.heap.size = dv n f g := by rw [← hW]; exact cellsOf_heap (heap1 (by simp))
  have k0 : w.heap.size < W.heap.size := by rw [← hW]; simp <;> omega
  have y1 : cellsOf W (w.heap.size + 1) = dv n' f' g' := by rw [← hW]; exact cellsOf_heap (heap_at _ _ _ (by simp))
  have k1 : (w.heap.size + 1) < W.heap.size := by rw [← hW]; simp <;> omega
  have b0 : Below w.heap.size w W := by rw [← hW]; exact below2 _ _ _
  clear hW
  refine region_V (w := W) (fun k => if k = 10 then some (fun _ => newR W.heap.size 33) else none) (fun k => k == 11) [10, 11] (.q 0 <| .q 1 <| .q 2 <| .q 3 <| .q 4 <| .q 5 <| .q 6 <| .q 7 <| .q 8 <| .q 9 <| .s1 10 <| .s1 11 <| .q 12 .fin) (by kernel_rfl) (by kernel_rfl) (by kernel_rfl) (fun k hk => ?_) ?_
  · simp at hk; simp [hk]
  apply v_other
  · simp only [List.getElem?_toArray, List.getElem?_cons_zero, List.getElem?_cons_succ]; exact rfl
  · rfl
  · rfl
  · go_simp
  · intro wx hx
    have e0 := hx.cells y0 k0
    have e1 := hx.cells y1 k1
    unfold atG
    go_simp
    simp only [uponG]
    exact ⟨by trivial, rfl⟩
  apply v_other
  · simp only [List.getElem?_toArray, List.getElem?_cons_zero, List.getElem?_cons_succ]; exact rfl
  · rfl
  · rfl
  · go_simp
  · intro wx hx
    have e0 := hx.cells y0 k0
    have e1 := hx.cells y1 k1
    unfold atG
    go_simp
    simp only [uponG]
    exact ⟨by trivial, T0.out wx⟩
  apply v_other
  · simp only [List.getElem?_toArray, List.getElem?_cons_zero, List.getElem?_cons_succ]; exact rfl
  · rfl
  · rfl
  · go_simp
  · intro wx hx
    have e0 := hx.cells y0 k0
    have e1 := hx.cells y1 k1
    unfold atG
    go_simp
    simp only [uponG]
    exact ⟨by trivial, rfl⟩
  apply v_other
  · simp only [List.getElem?_toArray, List.getElem?_cons_zero, List.getElem?_cons_succ]; exact rfl
  · rfl
  · rfl
  · go_simp
  · intro wx hx
    have e0 := hx.cells y0 k0
    have e1 := hx.cells y1 k1
    unfold atG
    go_simp
    simp only [uponG]
    exact ⟨by trivial, T1.out wx⟩
  apply v_other
  · simp only [List.getElem?_toArray, List.getElem?_cons_zero, List.getElem?_cons_succ]; exact rfl
  · rfl
  · rfl
  · go_simp
  · intro wx hx
    have e0 := hx.cells y0 k0
    have e1 := hx.cells y1 k1
    unfold atG
    go_simp
    simp only [uponG]
    exact ⟨by trivial, rfl⟩
  apply v_other
  · simp only [List.getElem?_toArray, List.getElem?_cons_zero, List.getElem?_cons_succ]; exact rfl
  · rfl
  · rfl
  · go_simp
  · intro wx hx
    have e0 := hx.cells y0 k0
    have e1 := hx.cells y1 k1
    unfold atG
    go_simp
    simp only [uponG]
    exact ⟨by trivial, rfl⟩
  apply v_other
  · simp only [List.getElem?_toArray, List.getElem?_cons_zero, List.getElem?_cons_succ]; exact rfl
  · rfl
  · rfl
  · go_simp
  · intro wx hx
    have e0 := hx.cells y0 k0
    have e1 := hx.cells y1 k1
    unfold atG
    go_simp
    simp only [uponG]
    exact ⟨by trivial, C2.out wx⟩
  apply v_other
  · simp only [List.getElem?_toArray, List.getElem?_cons_zero, List.getElem?_cons_succ]; exact rfl
  · rfl
  · rfl
  · go_simp
  · intro wx hx
    have e0 := hx.cells y0 k0
    have e1 := hx.cells y1 k1
    unfold atG
    go_simp
    simp only [uponG]
    exact ⟨by trivial, rfl⟩
  apply v_other
  · simp only [List.getElem?_toArray, List.getElem?_cons_zero, List.getElem?_cons_succ]; exact rfl
  · rfl
  · rfl
  · go_simp
  · intro wx hx
    have e0 := hx.cells y0 k0
    have e1 := hx.cells y1 k1
    unfold atG
    go_simp
    simp only [uponG]
    exact ⟨by trivial, rfl⟩
  apply v_other
  · simp only [List.getElem?_toArray, List.getElem?_cons_zero, List.getElem?_cons_succ]; exact rfl
  · rfl
  · rfl
  · go_simp
  · intro wx hx
    have e0 := hx.cells y0 k0
    have e1 := hx.cells y1 k1
    unfold atG
    go_simp
    simp only [uponG]
    exact ⟨by trivial, rfl⟩
  refine v_E (by simp only [List.getElem?_toArray, List.getElem?_cons_zero, List.getElem?_cons_succ]; exact rfl) rfl (by go_simp) (fun wx hx _ => ?_) ?_
  · go_simp
    simp only [uponE]
    refine ⟨(Below.refl _ _).alloc (Nat.le_refl _) _, wx.heap.size, rfl, hx.size, ?_⟩
    exact ⟨_, _, heap_at _ _ _ rfl, by first | rfl | simp⟩
  rintro vg ⟨_, _, _, g1, rfl, hg, _⟩
  refine v_S g1 33 (dv a r s) (by simp only [List.getElem?_toArray, List.getElem?_cons_zero, List.getElem?_cons_succ]; exact rfl) rfl rfl (by go_simp) (fun wx hx => (newR.at hx).2) hg (fun wx hx hr => by go_simp) ?_
  apply v_other
  · simp only [List.getElem?_toArray, List.getElem?_cons_zero, List.getElem?_cons_succ]; exact rfl
  · rfl
  · rfl
  · go_simp
  · intro wx hx
    unfold atG
    go_simp
    simp only [uponG]
    exact ⟨by trivial, rfl⟩
  rintro w1 hx ⟨wy, hn, k1', k2'⟩
  obtain ⟨a0, _, a1⟩ := stored (newR.at hn).2 (dv_size _ _ _) k2'
  have s1 := hx.size
  have b1 : Below w.heap.size w w1 := b0.trans (Below.mono hx b0.size)
  have z0 := hx.cells y0 k0
  have m0 := Nat.lt_of_lt_of_le k0 s1
  have z1 := hx.cells y1 k1
  have m1 := Nat.lt_of_lt_of_le k1 s1
  clear k1' k2' hn b0 hx hg s1 y0 k0 y1 k1
  have y0 := z0; have k0 := m0
  clear z0 m0
  have y1 := z1; have k1 := m1
  clear z1 m1
  go_wp2_with fail
  refine region_V (w := w1) (fun k => if k = 10 then some (fun _ => newR w1.heap.size 33) else none) (fun k => k == 11) [10, 11] (.q 0 <| .q 1 <| .q 2 <| .q 3 <| .q 4 <| .q 5 <| .q 6 <| .q 7 <| .q 8 <| .q 9 <| .s1 10 <| .s1 11 <| .q 12 .fin) (by kernel_rfl) (by kernel_rfl) (by kernel_rfl) (fun k hk => ?_) ?_
  · simp at hk; simp [hk]
  apply v_other
  · simp only [List.getElem?_toArray, List.getElem?_cons_zero, List.getElem?_cons_succ]; exact rfl
  · rfl
  · rfl
  · go_simp
  · intro wx hx
    have e0 := hx.cells y0 k0
    have e1 := hx.cells y1 k1
    unfold atG
    go_simp
    simp only [uponG]
    exact ⟨by trivial, rfl⟩
  apply v_other
  · simp only [List.getElem?_toArray, List.getElem?_cons_zero, List.getElem?_cons_succ]; exact rfl
  · rfl
  · rfl
  · go_simp
  · intro wx hx
    have e0 := hx.cells y0 k0
    have e1 := hx.cells y1 k1
    unfold atG
    go_simp
    simp only [uponG]
    exact ⟨by trivial, T0.out wx⟩
  apply v_other
  · simp only [List.getElem?_toArray, List.getElem?_cons_zero, List.getElem?_cons_succ]; exact rfl
  · rfl
  · rfl
  · go_simp
  · intro wx hx
    have e0 := hx.cells y0 k0
    have e1 := hx.cells y1 k1
    unfold atG
    go_simp
    simp only [uponG]
    exact ⟨by trivial, rfl⟩
  apply v_other
  · simp only [List.getElem?_toArray, List.getElem?_cons_zero, List.getElem?_cons_succ]; exact rfl
  · rfl
  · rfl
  · go_simp
  · intro wx hx
    have e0 := hx.cells y0 k0
    have e1 := hx.cells y1 k1
    unfold atG
    go_simp
    simp only [uponG]
    exact ⟨by trivial, T1.out wx⟩
  apply v_other
  · simp only [List.getElem?_toArray, List.getElem?_cons_zero, List.getElem?_cons_succ]; exact rfl
  · rfl
  · rfl
  · go_simp
  · intro wx hx
    have e0 := hx.cells y0 k0
    have e1 := hx.cells y1 k1
    unfold atG
    go_simp
    simp only [uponG]
    exact ⟨by trivial, rfl⟩
  apply v_other
  · simp only [List.getElem?_toArray, List.getElem?_cons_zero, List.getElem?_cons_succ]; exact rfl
  · rfl
  · rfl
  · go_simp
  · intro wx hx
    have e0 := hx.cells y0 k0
    have e1 := hx.cells y1 k1
    unfold atG
    go_simp
    simp only [uponG]
    exact ⟨by trivial, rfl⟩
  apply v_other
  · simp only [List.getElem?_toArray, List.getElem?_cons_zero, List.getElem?_cons_succ]; exact rfl
  · rfl
  · rfl
  · go_simp
  · intro wx hx
    have e0 := hx.cells y0 k0
    have e1 := hx.cells y1 k1
    unfold atG
    go_simp
    simp only [uponG]
    exact ⟨by trivial, C1.out wx⟩
  apply v_other
  · simp only [List.getElem?_toArray, List.getElem?_cons_zero, List.getElem?_cons_succ]; exact rfl
  · rfl
  · rfl
  · go_simp
  · intro wx hx
    have e0 := hx.cells y0 k0
    have e1 := hx.cells y1 k1
    unfold atG
    go_simp
    simp only [uponG]
    exact ⟨by trivial, rfl⟩
  apply v_other
  · simp only [List.getElem?_toArray, List.getElem?_cons_zero, List.getElem?_cons_succ]; exact rfl
  · rfl
  · rfl
  · go_simp
  · intro wx hx
    have e0 := hx.cells y0 k0
    have e1 := hx.cells y1 k1
    unfold atG
    go_simp
    simp only [uponG]
    exact ⟨by trivial, rfl⟩
  apply v_other
  · simp only [List.getElem?_toArray, List.getElem?_cons_zero, List.getElem?_cons_succ]; exact rfl
  · rfl
  · rfl
  · go_simp
  · intro wx hx
    have e0 := hx.cells y0 k0
    have e1 := hx.cells y1 k1
    unfold atG
    go_simp
    simp only [uponG]
    exact ⟨by trivial, rfl⟩
  refine v_E (by simp only [List.getElem?_toArray, List.getElem?_cons_zero, List.getElem?_cons_succ]; exact rfl) rfl (by go_simp) (fun wx hx _ => ?_) ?_
  · go_simp
    simp only [uponE]
    refine ⟨(Below.refl _ _).alloc (Nat.le_refl _) _, wx.heap.size, rfl, hx.size, ?_⟩
    exact ⟨_, _, heap_at _ _ _ rfl, by first | rfl | simp⟩
  rintro vg ⟨_, _, _, g2, rfl, hg, _⟩
  refine v_S g2 33 (dv a r s) (by simp only [List.getElem?_toArray, List.getElem?_cons_zero, List.getElem?_cons_succ]; exact rfl) rfl rfl (by go_simp) (fun wx hx => (newR.at hx).2) hg (fun wx hx hr => by go_simp) ?_
  apply v_other
  · simp only [List.getElem?_toArray, List.getElem?_cons_zero, List.getElem?_cons_succ]; exact rfl
  · rfl
  · rfl
  · go_simp
  · intro wx hx
    unfold atG
    go_simp
    simp only [uponG]
    exact ⟨by trivial, rfl⟩
  rintro w2 hx ⟨wy, hn, k1', k2'⟩
  obtain ⟨x0, _, x1⟩ := stored (newR.at hn).2 (dv_size _ _ _) k2'
  have y9 := hx.cells a0 a1
  have b2 : Below w.heap.size w w2 := b1.trans (Below.mono hx b1.size)
  have k9 : g1 < w2.heap.size := Nat.lt_of_lt_of_le a1 hx.size
  clear k1' k2' hn b1 hx hg a0 a1 y0 k0 y1 k1
  go_wp2_with fail
  refine (eqDessin_same a r s _).mono ?_
  rintro e w5 ⟨rfl, h5⟩
  have b5 := b2.trans (h5.mono b2.size)
  clear h5
  go_wp2
  go_ret
  exact ⟨rfl, b5⟩
end Go.Proofs.Ytjhpkibeddnbfaa

namespace Go.Proofs.Ytjhpkibeddnbfaa
open Go.RowKit

theorem own1_form {B : Nat} {w : World} {v : Value} {l : List Nat} (h : Own1 B w v l) : ∃ A c, v = .slice A l.length c ∧ Own1 B w (.slice A l.length c) l := by
  obtain ⟨A, c, rfl⟩ := own_slice h
  exact ⟨A, c, rfl, h⟩
theorem Own1.below {B C : Nat} {w w' : World} {v : Value} {l : List Nat} (h : Own1 B w v l) (hb : Below C w w') (hC : w.heap.size ≤ C) : Own1 B w' v l := h.kept (grown_of_below (hb.mono hC) none) (Classical.em _)
theorem Own1.lower {B C : Nat} {w w' : World} {v : Value} {l : List Nat} (h : Own1 B w v l) (hb : Below C w w') (hC : ∀ k, v.ownBlock = some k → k < C) : Own1 B w' v l := by
  refine ⟨h.1, ?_⟩
  rcases h.2 with c | ⟨g, cap, cur, rfl, h1, h2, h3⟩
  · exact .inl c
  · exact .inr ⟨g, cap, cur, rfl, h1, by rw [hb.block g (hC g rfl)]; exact h2, h3⟩
theorem Own1.low {B : Nat} {w : World} {v : Value} {l : List Nat} (h : Own1 B w v l) : ∀ k, v.ownBlock = some k → k < w.heap.size := fun k hk => (World.ownsRow.lt h k hk).2
theorem mk1 (l : List Nat) (A : Option Addr) (c B : Nat) (hl : l.length ≤ 1000000) (w : World) (hBw : B ≤ w.heap.size) (h : Own1 B w (.slice A l.length c) l) :
    Calls Try.prog 34 #[.slice A l.length c, .int .i64 1] w fun e w' => e = .returned (.int .i64 (1 + l.length : Nat)) ∧ Below B w w' ∧ w.heap.size ≤ w'.heap.size ∧ Own1 B w' (.slice A l.length c) (marks 1 l.length) :=
  (markInt64S_any l A c B 1 (by omega) (by omega) w h).mono fun e w' ⟨h1, h2, h3⟩ => ⟨h1, (Below.refl B w).grown h2 hBw (fun g hg => (World.ownsRow.lt h g hg).1), h2.size, h3⟩
theorem hd1 (l : List Nat) (A : Option Addr) (c B : Nat) (hl : l.length ≤ 1000000) (w : World) (h : Own1 B w (.slice A l.length c) (marks 1 l.length)) :
    Calls Try.prog 35 #[.slice A l.length c, .int .i64 1] w fun e w' => e = .returned (.int .i64 (1 + l.length : Nat)) ∧ Below w.heap.size w w' :=
  heldInt64S_any l.length A c B 1 (by omega) (by omega) w h
end Go.Proofs.Ytjhpkibeddnbfaa

namespace Go.Proofs.Ytjhpkibeddnbfaa
open Go.RowKit

/-- the morphisms that give the dart 0 one of the first darts -/
def morT (f g f' g' : Nat → Nat) (m : Nat) : Nat → List (List Nat)
  | 0 => []
  | y + 1 => if (bfs (bF f f') (bF g g') y 256).1.length = m then morT f g f' g' m y ++ [morL (bfs (bF f f') (bF g g') y 256).1 m] else morT f g f' g' m y
theorem morT_le (f g f' g' : Nat → Nat) (m y : Nat) : (morT f g f' g' m y).length ≤ y ∧ ∀ l ∈ morT f g f' g' m y, l.length = m := by
  induction y with
  | zero => exact ⟨Nat.le_refl _, fun l h => by simp [morT] at h⟩
  | succ y ih =>
    rw [morT]
    split
    · refine ⟨by rw [List.length_append]; simp only [List.length_cons, List.length_nil]; omega, fun l h => ?_⟩
      rcases List.mem_append.1 h with h | h
      · exact ih.2 l h
      · simp at h; subst h; exact morL_length _ _
    · exact ⟨by omega, ih.2⟩
open Classical in
noncomputable def morR (n : Int) (f g : Nat → Nat) (n' : Int) (f' g' : Nat → Nat) : List (List Nat) := if desB n f g = true ∧ desB n' f' g' = true then morT f g f' g' n.toNat n'.toNat else []
open Classical in
noncomputable def bothC (n : Int) (f g : Nat → Nat) (n' : Int) (f' g' : Nat → Nat) : Int := if desB n f g = true ∧ desB n' f' g' = true then 0 else 1
theorem total_le : ∀ (ls : List (List Nat)) (m : Nat), (∀ l ∈ ls, l.length = m) → total ls = m * ls.length := by
  intro ls m h
  induction ls with
  | nil => simp [total]
  | cons l ls ih =>
    have h1 := h l (by simp)
    have h2 := ih fun x hx => h x (by simp [hx])
    unfold total at h2 ⊢
    simp only [List.map_cons, List.sum_cons, List.length_cons] at h2 ⊢
    rw [h1, h2, Nat.mul_succ]; omega
theorem morR_bound (n : Int) (f g : Nat → Nat) (n' : Int) (f' g' : Nat → Nat) : total (morR n f g n' f' g') ≤ 1000 ∧ (morR n f g n' f' g').length ≤ 16 := by
  unfold morR
  split
  · rename_i h
    obtain ⟨m, rfl, hd⟩ := desB_true h.1
    obtain ⟨k, rfl, he⟩ := desB_true h.2
    simp only [Int.toNat_natCast]
    have h1 := morT_le f g f' g' m k
    rw [total_le _ m h1.2]
    have := hd.le
    have := he.le
    have h2 : m * (morT f g f' g' m k).length ≤ 16 * 16 := Nat.mul_le_mul (by omega) (by omega)
    omega
  · exact ⟨by simp [total], by simp⟩

set_option maxRecDepth 100000 in
set_option maxHeartbeats 2000000 in
theorem morphismsOf_any (n : Int) (f g : Nat → Nat) (hf : ∀ i, f i < 256) (hg : ∀ i, g i < 256) (n' : Int) (f' g' : Nat → Nat) (hf' : ∀ i, f' i < 256) (hg' : ∀ i, g' i < 256) (w : World) :
    Calls Try.prog 24 #[.agg (dv n f g), .agg (dv n' f' g')] w fun e w' => ∃ v, e = .returned (.tuple #[v, .int .i64 (bothC n f g n' f' g')]) ∧ Below w.heap.size w w' ∧ Own2 w.heap.size w' v (morR n f g n' f' g') := by
  have C1 := hide fun w => isDessin_any n f g hf hg w
  have C2 := hide fun w => isDessin_any n' f' g' hf' hg' w
  clear hf hg hf' hg'
  have HH0 := ((Holds.start w).blk (dv n f g) 30 w.heap.size rfl).blk (dv n' f' g') 30 (w.heap.size + 1) (by simp)
  rcases h1 : desB n f g with _ | _
  · rw [h1] at C1
    have hr : morR n f g n' f' g' = [] := by unfold morR; rw [if_neg (by simp [h1])]
    have hc : bothC n f g n' f' g' = 1 := by unfold bothC; rw [if_neg (by simp [h1])]
    rw [hr, hc]
    clear h1 hr hc
    go_enter Try.func24, Try.ntmps24
    go_wp2_with fail
    refine (C1.out _).mono ?_
    rintro e w1 ⟨rfl, hb⟩
    have HH1 := HH0.call hb
    clear hb HH0
    go_wp2
    go_ret2
    exact ⟨.slice none 0 0, rfl, HH1.low, Own2.nil _ _⟩
  rw [h1] at C1
  rcases h2 : desB n' f' g' with _ | _
  · rw [h2] at C2
    have hr : morR n f g n' f' g' = [] := by unfold morR; rw [if_neg (by simp [h2])]
    have hc : bothC n f g n' f' g' = 1 := by unfold bothC; rw [if_neg (by simp [h2])]
    rw [hr, hc]
    clear h1 h2 hr hc
    go_enter Try.func24, Try.ntmps24
    go_wp2_with fail
    refine (C1.out _).mono ?_
    rintro e w1 ⟨rfl, hb⟩
    have HH1 := HH0.call hb
    have ce := HH1.cells 0 rfl
    clear hb HH0
    go_wp2_with fail
    refine (C2.out _).mono ?_
    rintro e w2 ⟨rfl, hb⟩
    have HH2 := HH1.call hb
    clear hb HH1 ce
    go_wp2
    go_ret2
    exact ⟨.slice none 0 0, rfl, HH2.low, Own2.nil _ _⟩
  rw [h2] at C2
  obtain ⟨m, rfl, hd⟩ := desB_true h1
  obtain ⟨k, rfl, he⟩ := desB_true h2
  have hr : morR m f g k f' g' = morT f g f' g' m k := by unfold morR; rw [if_pos ⟨h1, h2⟩]; simp only [Int.toNat_natCast]
  have hc : bothC m f g k f' g' = 0 := by unfold bothC; rw [if_pos ⟨h1, h2⟩]
  rw [hr, hc]
  clear h1 h2 hr hc
  have hm := hd.le
  have hk := he.le
  have hk256 : (k : Int) < 256 := by omega
  have hn := dv_n m f g
  have hn' := dv_n k f' g'
  have C3 := hide fun (y : Nat) (hy : y < 16) (w : World) => pairsFrom_any f g f' g' m k hd he 0 y (by omega) hy w
  have HG := hide fun (y : Nat) (hy : y < 16) => prs_graph hd he hy
  have HC := hide fun (y : Nat) (hy : y < 16) => prs_cover hd he hy
  have HLT := hide fun (y : Nat) (hy : y < 16) => prs_lt hd he hy 256
  have HI := hide fun (y : Nat) (hy : y < 16) => bfs_inv (fun z hz => bF_lt hd.black he.black z hz) (fun z hz => bF_lt hd.white he.white z hz) (show y < 256 by omega) 256
  clear hd he
  simp only [Nat.mul_zero, Nat.zero_add] at C3
  go_enter Try.func24, Try.ntmps24
  go_wp2_with fail
  refine (C1.out _).mono ?_
  rintro e w1 ⟨rfl, hb⟩
  have HH1 := HH0.call hb
  have ce := HH1.cells 0 rfl
  clear hb HH0
  go_wp2_with fail
  refine (C2.out _).mono ?_
  rintro e w2 ⟨rfl, hb⟩
  have HH2 := HH1.call hb
  clear hb HH1 ce
  have ce0 := HH2.cell 0 rfl hn'
  have HH3 := (HH2.nilRow 48 1).third
  go_wp2
  clear ce0 HH2
  go_loopw [6, 20] (fun u t wr => ∃ (y : Nat) (vs : List Value), y ≤ k ∧ t = .int .u8 y ∧ vs.length = (morT f g f' g' m y).length ∧ Holds w wr (pBlk (w.heap.size + 1) (dv k f' g') 30 :: pBlk w.heap.size (dv m f g) 30 :: pVals u vs :: rowsP vs (morT f g f' g' m y))) (fun _ t _ => k - (intOf t).toNat)
  case atStart => exact ⟨0, [], by omega, rfl, rfl, HH3⟩
  case round =>
    clear HH3
    obtain ⟨y, vs, hy, rfl, hvs, hH⟩ := hrel
    have hvl : vs.length ≤ y := by rw [hvs]; exact (morT_le f g f' g' m y).1
    have HVS := hide hvs; clear hvs
    by_cases hyk : y < k
    · have hy16 : y < 16 := by omega
      have hyk' : (y : Int) < k := by omega
      have hs : morT f g f' g' m (y + 1) = if (bfs (bF f f') (bF g g') y 256).1.length = m then morT f g f' g' m y ++ [morL (bfs (bF f f') (bF g g') y 256).1 m] else morT f g f' g' m y := rfl
      have hG := HG.out y hy16
      have hC := HC.out y hy16
      have hLT := HLT.out y hy16
      have hI := HI.out y hy16
      have c3 := C3.out y hy16
      have hilt := hI.lt
      have hile := hI.length_le
      clear hI
      generalize (bfs (bF f f') (bF g g') y 256).1 = R at *
      have C4 := hide c3; clear c3
      have HLI := hide hilt; clear hilt
      have cd := hH.cells 1 rfl
      have ce := hH.cells 0 rfl
      obtain ⟨A0, c0, rfl⟩ := hH.valsForm 2 rfl
      go_wp2_with fail
      refine (C4.out _).mono ?_
      rintro e w2 ⟨v, rfl, hb, ho⟩
      have HH2 := hH.newRow hb ho
      have cn := HH2.cell 2 rfl hn
      have hv : RdP w2 v (dec R) := by
        have := row_low (HH2.row 0 rfl) (Nat.zero_le _)
        unfold RdP; rw [dec_length]; exact this
      obtain ⟨A1, c1, rfl⟩ := own_slice (HH2.row 0 rfl)
      have HV := hide hv
      clear hb ho cd ce hH hv
      by_cases hlm : R.length = m
      · have heq : ((((R.length : Nat) : Int)) == (m : Int)) = true := by rw [hlm]; simp
        rw [if_pos hlm] at hs
        have HS := hide hs; clear hs
        have hnd := hG.1 hlm
        have hrow : (fun u => pRow u 2 1 R.length (rv (secT R R.length) R.length)) = fun u => pInts u (morL R m) := by
          funext u
          unfold pInts
          rw [morL_length, hlm, ← rv_nums fun x hx => sndF_ge (hC x hx), ← secT_all hnd hC, hlm]
        have C5 := hide fun (w' : World) (h : RdP w' (.slice A1 R.length c1) (dec R)) => seconds_any R (by omega) (fun z hz => ⟨HLI.out z hz, by have := hLT z hz; omega⟩) (.slice A1 R.length c1) w' h
        have HR := hide hrow; clear hrow hnd hG hC hLT
        have hlm16 : R.length ≤ 16 := by omega
        have HLM := hide hlm; clear hlm
        go_wp2_with fail
        refine (C5.out _ HV.out).mono ?_
        rintro e w3 ⟨u, rfl, hb, ho⟩
        have HH3 := HH2.newRow hb ho
        obtain ⟨A2, c2, rfl⟩ := own_slice (HH3.row 0 rfl)
        have e3 := congrFun HR.out (.slice A2 R.length c2)
        rw [e3] at HH3
        have HH4 := HH3.sub (.cons_cons _ (.cons _ (.refl _)))
        clear hb ho HH2 HH3 cn e3
        go_wp2_with (at_builtin; refine appRow (HH4.alloc _) 3 rfl w3.heap.size (.slice A2 R.length c2) rfl 48 (heap_at _ _ _ rfl) (by omega) rfl _ _ rfl rfl rfl ?_)
        intro v' w5 hH5
        have hH6 := Holds.rowEnd (A := [_, _, _]) HVS.out hH5
        clear hH5 HH4
        go_wp2
        go_roundw
        case rel =>
          refine ⟨y + 1, vs ++ [.slice A2 R.length c2], by omega, by go_num, ?_, ?_⟩
          · rw [HS.out, List.length_append, List.length_append, HVS.out]; rfl
          · rw [HS.out]; exact hH6
        case measure => simp [intOf]; omega
      · have heq : ((((R.length : Nat) : Int)) == (m : Int)) = false := by
          rw [beq_eq_false_iff_ne]; omega
        rw [if_neg hlm] at hs
        have HS := hide hs; clear hs hG hC hLT
        have HH4 := HH2.tail
        go_wp2
        go_roundw
        case rel => exact ⟨y + 1, vs, by omega, by go_num, by rw [HS.out]; exact HVS.out, by rw [HS.out]; exact HH4⟩
        case measure => simp [intOf]; omega
    · obtain rfl : y = k := by omega
      clear hyk hy
      go_wp2
      go_ret2
      exact ⟨_, rfl, hH.low, Holds.own2 (A := [_, _]) HVS.out hH⟩

set_option maxRecDepth 100000 in
set_option maxHeartbeats 2000000 in
theorem sMorphismsOf_any (n : Int) (f g : Nat → Nat) (hf : ∀ i, f i < 256) (hg : ∀ i, g i < 256) (n' : Int) (f' g' : Nat → Nat) (hf' : ∀ i, f' i < 256) (hg' : ∀ i, g' i < 256) (w : World) :
    Calls Try.prog 23 #[.agg (dv n f g), .agg (dv n' f' g')] w fun e w' => ∃ v, e = .returned (.tuple #[v, .int .i64 (bothC n f g n' f' g')]) ∧ Below w.heap.size w w' ∧ Own2 w.heap.size w' v (morR n f g n' f' g') := by
  have C1 := hide fun w => sBoth_any n f g hf hg n' f' g' hf' hg' w
  clear hf hg hf' hg'
  have HH0 := ((Holds.start w).blk (dv n f g) 30 w.heap.size rfl).blk (dv n' f' g') 30 (w.heap.size + 1) (by simp)
  by_cases hde : desB n f g = true ∧ desB n' f' g' = true
  rotate_left
  · rw [if_neg hde] at C1
    have hr : morR n f g n' f' g' = [] := by unfold morR; rw [if_neg hde]
    have hc : bothC n f g n' f' g' = 1 := by unfold bothC; rw [if_neg hde]
    rw [hr, hc]
    clear hde hr hc
    go_enter Try.func23, Try.ntmps23
    go_wp2_with fail
    refine (C1.out _).mono ?_
    rintro e w1 ⟨rfl, hb⟩
    have HH1 := HH0.call hb
    clear hb HH0
    go_wp2
    go_ret2
    exact ⟨.slice none 0 0, rfl, HH1.low, Own2.nil _ _⟩
  rw [if_pos hde] at C1
  have hr : morR n f g n' f' g' = morT f g f' g' n.toNat n'.toNat := by unfold morR; rw [if_pos hde]
  have hc : bothC n f g n' f' g' = 0 := by unfold bothC; rw [if_pos hde]
  rw [hr, hc]
  clear hr hc
  obtain ⟨h1, h2⟩ := hde
  obtain ⟨m, rfl, hd⟩ := desB_true h1
  obtain ⟨k, rfl, he⟩ := desB_true h2
  simp only [Int.toNat_natCast]
  clear h1 h2
  have hm := hd.le
  have hk := he.le
  have hn' := dv_n k f' g'
  have C3 := hide fun (y : Nat) (hy : y < 16) (w : World) => sMor_any f g f' g' m k hd he y hy w
  have HG := hide fun (y : Nat) (hy : y < 16) => prs_graph hd he hy
  have HC := hide fun (y : Nat) (hy : y < 16) => prs_cover hd he hy
  clear hd he
  go_enter Try.func23, Try.ntmps23
  go_wp2_with fail
  refine (C1.out _).mono ?_
  rintro e w1 ⟨rfl, hb⟩
  have HH1 := HH0.call hb
  clear hb HH0
  have HH3 : Holds w (w1.alloc (.cells #[] 48)) _ := (HH1.rowNew #[] 48 1 0 w1.heap.size rfl rfl (by unfold maxLen; omega)).third
  go_wp2
  clear HH1
  go_loopw [7, 8] (fun u t wr => ∃ (y : Nat) (vs : List Value), y ≤ k ∧ t = .int .i64 y ∧ vs.length = (morT f g f' g' m y).length ∧ Holds w wr (pBlk (w.heap.size + 1) (dv k f' g') 30 :: pBlk w.heap.size (dv m f g) 30 :: pVals u vs :: rowsP vs (morT f g f' g' m y))) (fun _ t _ => k - (intOf t).toNat)
  case atStart => exact ⟨0, [], by omega, rfl, rfl, HH3⟩
  case round =>
    clear HH3
    obtain ⟨y, vs, hy, rfl, hvs, hH⟩ := hrel
    have hvl : vs.length ≤ y := by rw [hvs]; exact (morT_le f g f' g' m y).1
    have HVS := hide hvs; clear hvs
    have cn := hH.cell 0 rfl hn'
    by_cases hyk : y < k
    · have hy16 : y < 16 := by omega
      have hyk' : (y : Int) < k := by omega
      have hs : morT f g f' g' m (y + 1) = if (bfs (bF f f') (bF g g') y 256).1.length = m then morT f g f' g' m y ++ [morL (bfs (bF f f') (bF g g') y 256).1 m] else morT f g f' g' m y := rfl
      have hG := HG.out y hy16
      have hC := HC.out y hy16
      have c3 := C3.out y hy16
      generalize (bfs (bF f f') (bF g g') y 256).1 = R at *
      have C4 := hide c3; clear c3
      have cd := hH.cells 1 rfl
      have ce := hH.cells 0 rfl
      obtain ⟨A0, c0, rfl⟩ := hH.valsForm 2 rfl
      go_wp2_with fail
      refine (C4.out _).mono ?_
      rintro e w2 ⟨v, b, rfl, hb, ht, hf⟩
      rcases b with _ | _
      · have hnd := hf rfl
        rw [if_neg (fun h => hnd (hG.1 h))] at hs
        have HS := hide hs; clear hs hG hC ht hf hnd
        have HH2 := hH.call hb
        clear hb cd ce cn hH
        go_wp2
        go_roundw
        case rel => exact ⟨y + 1, vs, by omega, by go_num, by rw [HS.out]; exact HVS.out, by rw [HS.out]; exact HH2⟩
        case measure => simp [intOf]; omega
      · obtain ⟨hnd, ho⟩ := ht rfl
        have hlm := hG.2 hnd
        rw [if_pos hlm] at hs
        have HS := hide hs; clear hs hG ht hf hnd hlm
        have hrow : (fun u => pRow u 2 1 m (rv (sndF R) m)) = fun u => pInts u (morL R m) := by
          funext u
          unfold pInts
          rw [morL_length, ← rv_nums fun x hx => sndF_ge (hC x hx)]
        have HH4 := hH.newRow hb ho
        obtain ⟨A2, c2, rfl⟩ := own_slice (HH4.row 0 rfl)
        have e3 := congrFun hrow (.slice A2 m c2)
        rw [e3] at HH4
        clear hb ho hrow e3 hC cd ce cn hH
        go_wp2_with (at_builtin; refine appRow (HH4.alloc _) 3 rfl w2.heap.size (.slice A2 m c2) rfl 48 (heap_at _ _ _ rfl) (by omega) rfl _ _ rfl rfl rfl ?_)
        intro v' w5 hH5
        have hH6 := Holds.rowEnd (A := [_, _, _]) HVS.out hH5
        clear hH5 HH4
        go_wp2
        go_roundw
        case rel =>
          refine ⟨y + 1, vs ++ [.slice A2 m c2], by omega, by go_num, ?_, ?_⟩
          · rw [HS.out, List.length_append, List.length_append, HVS.out]; rfl
          · rw [HS.out]; exact hH6
        case measure => simp [intOf]; omega
    · obtain rfl : y = k := by omega
      clear hyk hy
      go_wp2
      go_ret2
      exact ⟨_, rfl, hH.low, Holds.own2 (A := [_, _]) HVS.out hH⟩

set_option maxRecDepth 100000 in
set_option maxHeartbeats 2000000 in
theorem fnExactMorphismsOf_walk (n : Int) (f g : Nat → Nat) (_hn : -9223372036854775808 ≤ n ∧ n ≤ 9223372036854775807) (hf : ∀ i, f i < 256) (hg : ∀ i, g i < 256) (n' : Int) (f' g' : Nat → Nat) (_hn' : -9223372036854775808 ≤ n' ∧ n' ≤ 9223372036854775807) (hf' : ∀ i, f' i < 256) (hg' : ∀ i, g' i < 256) (w : World) :
    Calls Try.prog 6 #[.agg (dv n f g), .agg (dv n' f' g')] w fun e w' => e = .returned (.bool true) ∧ Below w.heap.size w w' := by
  have C1 := hide fun w => morphismsOf_any n f g hf hg n' f' g' hf' hg' w
  have C2 := hide fun w => sMorphismsOf_any n f g hf hg n' f' g' hf' hg' w
  obtain ⟨hT, hL⟩ := morR_bound n f g n' f' g'
  generalize morR n f g n' f' g' = L at *
  generalize bothC n f g n' f' g' = c at *
  have T0 := hide fun w => toDessin_any n f g w
  have T1 := hide fun w => toDessin_any n' f' g' w
  clear hf hg _hn hf' hg' _hn'
  have hne : (c != c) = false := by simp
  have hnt : (((1 + total L : Nat) : Int) != ((1 + total L : Nat) : Int)) = false := by simp
  have hneg : decide (((1 + total L : Nat) : Int) < 0) = false := decide_eq_false (by omega)
  go_enter Try.func6, Try.ntmps6
  go_wp2
  generalize hW : ((w.alloc (.cells (dv n f g) 24)).alloc (.cells (dv n' f' g') 24)) = W
  have y0 : cellsOf W w.heap.size = dv n f g := by rw [← hW]; exact cellsOf_heap (heap1 (by simp))
  have k0 : w.heap.size < W.heap.size := by rw [← hW]; simp <;> omega
  have y1 : cellsOf W (w.heap.size + 1) = dv n' f' g' := by rw [← hW]; exact cellsOf_heap (heap_at _ _ _ (by simp))
  have k1 : (w.heap.size + 1) < W.heap.size := by rw [← hW]; simp <;> omega
  have b0 : Below w.heap.size w W := by rw [← hW]; exact below2 _ _ _
  clear hW
  refine region_V (w := W) (fun k => if k = 4 then some (fun w v w' => ∃ u, v = .tuple #[u, .int .i64 c] ∧ Own2 w.heap.size w' u L) else none) (fun _ => false) [4] (.q 0 <| .q 1 <| .q 2 <| .q 3 <| .s1 4 <| .q 5 <| .q 6 <| .q 7 <| .q 8 <| .q 9 .fin) (by kernel_rfl) (by kernel_rfl) (by kernel_rfl) (fun k hk => ?_) ?_
  · simp at hk; simp [hk]
  apply v_other
  · simp only [List.getElem?_toArray, List.getElem?_cons_zero, List.getElem?_cons_succ]; exact rfl
  · rfl
  · rfl
  · go_simp
  · intro wx hx
    have e0 := hx.cells y0 k0
    have e1 := hx.cells y1 k1
    unfold atG
    go_simp
    simp only [uponG]
    exact ⟨by trivial, rfl⟩
  apply v_other
  · simp only [List.getElem?_toArray, List.getElem?_cons_zero, List.getElem?_cons_succ]; exact rfl
  · rfl
  · rfl
  · go_simp
  · intro wx hx
    have e0 := hx.cells y0 k0
    have e1 := hx.cells y1 k1
    unfold atG
    go_simp
    simp only [uponG]
    exact ⟨by trivial, T0.out wx⟩
  apply v_other
  · simp only [List.getElem?_toArray, List.getElem?_cons_zero, List.getElem?_cons_succ]; exact rfl
  · rfl
  · rfl
  · go_simp
  · intro wx hx
    have e0 := hx.cells y0 k0
    have e1 := hx.cells y1 k1
    unfold atG
    go_simp
    simp only [uponG]
    exact ⟨by trivial, rfl⟩
  apply v_other
  · simp only [List.getElem?_toArray, List.getElem?_cons_zero, List.getElem?_cons_succ]; exact rfl
  · rfl
  · rfl
  · go_simp
  · intro wx hx
    have e0 := hx.cells y0 k0
    have e1 := hx.cells y1 k1
    unfold atG
    go_simp
    simp only [uponG]
    exact ⟨by trivial, T1.out wx⟩
  refine v_E (by simp only [List.getElem?_toArray, List.getElem?_cons_zero, List.getElem?_cons_succ]; exact rfl) rfl (by go_simp) (fun wx hx _ => ?_) ?_
  · go_simp
    simp only [uponE]
    exact ⟨by trivial, (C2.out wx).mono fun e w' ⟨u, h1, h2, h3⟩ => ⟨_, h1, h2, u, rfl, h3⟩⟩
  rintro vq ⟨_, _, _, u0, rfl, _⟩
  apply v_other
  · simp only [List.getElem?_toArray, List.getElem?_cons_zero, List.getElem?_cons_succ]; exact rfl
  · rfl
  · rfl
  · go_simp
  · intro wx hx
    unfold atG
    go_simp
    simp only [uponG]
    exact ⟨by trivial, rfl⟩
  apply v_other
  · simp only [List.getElem?_toArray, List.getElem?_cons_zero, List.getElem?_cons_succ]; exact rfl
  · rfl
  · rfl
  · go_simp
  · intro wx hx
    unfold atG
    go_simp
    simp only [uponG]
    exact ⟨by trivial, rfl⟩
  apply v_other
  · simp only [List.getElem?_toArray, List.getElem?_cons_zero, List.getElem?_cons_succ]; exact rfl
  · rfl
  · rfl
  · go_simp
  · intro wx hx
    unfold atG
    go_simp
    simp only [uponG]
    exact ⟨by trivial, rfl⟩
  apply v_other
  · simp only [List.getElem?_toArray, List.getElem?_cons_zero, List.getElem?_cons_succ]; exact rfl
  · rfl
  · rfl
  · go_simp
  · intro wx hx
    unfold atG
    go_simp
    simp only [uponG]
    exact ⟨by trivial, rfl⟩
  apply v_other
  · simp only [List.getElem?_toArray, List.getElem?_cons_zero, List.getElem?_cons_succ]; exact rfl
  · rfl
  · rfl
  · go_simp
  · intro wx hx
    unfold atG
    go_simp
    simp only [uponG]
    exact ⟨by trivial, rfl⟩
  rintro w1 hx ⟨m0, m1, _, k1', k2', ⟨ux, ex, o0⟩, k3'⟩
  injection ex with ex
  have hux : u0 = ux := by
    have := congrArg (fun a : Array Value => a[0]?) ex
    simpa using this
  subst hux
  clear ex
  obtain ⟨A0, c0, vs0, rfl, p0⟩ := own2_form o0
  clear o0
  have q0 := p0.below k3' (Nat.le_refl _)
  have s0a := k1'.size
  have s0b := (k2'.trans k3').size
  have O0 := hide q0; clear p0 q0 k1' k2' k3'
  generalize m0.heap.size = B0 at *
  have b1 : Below w.heap.size w w1 := b0.trans (Below.mono hx b0.size)
  have s1 := hx.size
  have z0 := hx.cells y0 k0
  have l0 := Nat.lt_of_lt_of_le k0 s1
  have z1 := hx.cells y1 k1
  have l1 := Nat.lt_of_lt_of_le k1 s1
  clear y0 k0 y1 k1 hx b0 s1 s0a s0b
  have y0 := z0; have k0 := l0
  clear z0 l0
  have y1 := z1; have k1 := l1
  clear z1 l1
  go_wp2_with fail
  refine region_V (w := w1) (fun k => if k = 4 then some (fun w v w' => ∃ u, v = .tuple #[u, .int .i64 c] ∧ Own2 w.heap.size w' u L) else none) (fun _ => false) [4] (.q 0 <| .q 1 <| .q 2 <| .q 3 <| .s1 4 <| .q 5 <| .q 6 <| .q 7 <| .q 8 <| .q 9 .fin) (by kernel_rfl) (by kernel_rfl) (by kernel_rfl) (fun k hk => ?_) ?_
  · simp at hk; simp [hk]
  apply v_other
  · simp only [List.getElem?_toArray, List.getElem?_cons_zero, List.getElem?_cons_succ]; exact rfl
  · rfl
  · rfl
  · go_simp
  · intro wx hx
    have e0 := hx.cells y0 k0
    have e1 := hx.cells y1 k1
    unfold atG
    go_simp
    simp only [uponG]
    exact ⟨by trivial, rfl⟩
  apply v_other
  · simp only [List.getElem?_toArray, List.getElem?_cons_zero, List.getElem?_cons_succ]; exact rfl
  · rfl
  · rfl
  · go_simp
  · intro wx hx
    have e0 := hx.cells y0 k0
    have e1 := hx.cells y1 k1
    unfold atG
    go_simp
    simp only [uponG]
    exact ⟨by trivial, T0.out wx⟩
  apply v_other
  · simp only [List.getElem?_toArray, List.getElem?_cons_zero, List.getElem?_cons_succ]; exact rfl
  · rfl
  · rfl
  · go_simp
  · intro wx hx
    have e0 := hx.cells y0 k0
    have e1 := hx.cells y1 k1
    unfold atG
    go_simp
    simp only [uponG]
    exact ⟨by trivial, rfl⟩
  apply v_other
  · simp only [List.getElem?_toArray, List.getElem?_cons_zero, List.getElem?_cons_succ]; exact rfl
  · rfl
  · rfl
  · go_simp
  · intro wx hx
    have e0 := hx.cells y0 k0
    have e1 := hx.cells y1 k1
    unfold atG
    go_simp
    simp only [uponG]
    exact ⟨by trivial, T1.out wx⟩
  refine v_E (by simp only [List.getElem?_toArray, List.getElem?_cons_zero, List.getElem?_cons_succ]; exact rfl) rfl (by go_simp) (fun wx hx _ => ?_) ?_
  · go_simp
    simp only [uponE]
    exact ⟨by trivial, (C1.out wx).mono fun e w' ⟨u, h1, h2, h3⟩ => ⟨_, h1, h2, u, rfl, h3⟩⟩
  rintro vq ⟨_, _, _, u1, rfl, _⟩
  apply v_other
  · simp only [List.getElem?_toArray, List.getElem?_cons_zero, List.getElem?_cons_succ]; exact rfl
  · rfl
  · rfl
  · go_simp
  · intro wx hx
    unfold atG
    go_simp
    simp only [uponG]
    exact ⟨by trivial, rfl⟩
  apply v_other
  · simp only [List.getElem?_toArray, List.getElem?_cons_zero, List.getElem?_cons_succ]; exact rfl
  · rfl
  · rfl
  · go_simp
  · intro wx hx
    unfold atG
    go_simp
    simp only [uponG]
    exact ⟨by trivial, rfl⟩
  apply v_other
  · simp only [List.getElem?_toArray, List.getElem?_cons_zero, List.getElem?_cons_succ]; exact rfl
  · rfl
  · rfl
  · go_simp
  · intro wx hx
    unfold atG
    go_simp
    simp only [uponG]
    exact ⟨by trivial, rfl⟩
  apply v_other
  · simp only [List.getElem?_toArray, List.getElem?_cons_zero, List.getElem?_cons_succ]; exact rfl
  · rfl
  · rfl
  · go_simp
  · intro wx hx
    unfold atG
    go_simp
    simp only [uponG]
    exact ⟨by trivial, rfl⟩
  apply v_other
  · simp only [List.getElem?_toArray, List.getElem?_cons_zero, List.getElem?_cons_succ]; exact rfl
  · rfl
  · rfl
  · go_simp
  · intro wx hx
    unfold atG
    go_simp
    simp only [uponG]
    exact ⟨by trivial, rfl⟩
  rintro w2 hx ⟨m0, m1, _, k1', k2', ⟨ux, ex, o1⟩, k3'⟩
  injection ex with ex
  have hux : u1 = ux := by
    have := congrArg (fun a : Array Value => a[0]?) ex
    simpa using this
  subst hux
  clear ex
  obtain ⟨A1, c1, vs1, rfl, p1⟩ := own2_form o1
  clear o1
  have q1 := p1.below k3' (Nat.le_refl _)
  have s1a := k1'.size
  have s1b := (k2'.trans k3').size
  have O1 := hide q1; clear p1 q1 k1' k2' k3'
  generalize m0.heap.size = B1 at *
  have O02 := hide (O0.out.below hx (Nat.le_refl _))
  have G2 := hx
  clear hx
  go_wp2_with fail
  refine (eqInt64SS_same L A1 A0 c1 c0 _ _ vs1 vs0 (by omega) (by omega) _ O1.out O02.out).mono ?_
  rintro e w3 ⟨rfl, h3⟩
  have s3 := h3.size
  have O03 := hide (O02.out.below h3 (Nat.le_refl _))
  have O13 := hide (O1.out.below h3 (Nat.le_refl _))
  have G3 : Grown w1 w3 := Below.trans G2 (h3.mono G2.size)
  clear h3 G2
  go_wp2_with fail
  refine (mark1 L A1 c1 _ vs1 (by omega) (by omega) _ (by omega) O13.out).mono ?_
  rintro e w4 ⟨rfl, h4, s4, o14⟩
  have O14 := hide o14; clear o14
  have O04 := hide (O03.out.lower h4 (fun k hk => by have := O0.out.lt.1 k hk; omega) (fun i u hu k hk => by have := O0.out.lt.2 i u hu k hk; omega))
  have G4 : Grown w1 w4 := Below.trans G3 (h4.mono (by omega))
  clear h4 G3
  go_wp2_with fail
  refine (held1 L A1 c1 _ vs1 (by omega) (by omega) _ O14.out).mono ?_
  rintro e w5 ⟨rfl, h5⟩
  have O15 := hide (O14.out.below h5 (Nat.le_refl _))
  have O05 := hide (O04.out.below h5 (Nat.le_refl _))
  have G5 : Grown w1 w5 := Below.trans G4 (h5.mono G4.size)
  clear h5 G4
  have z0 := G5.cells y0 k0
  have l0 := Nat.lt_of_lt_of_le k0 G5.size
  have z1 := G5.cells y1 k1
  have l1 := Nat.lt_of_lt_of_le k1 G5.size
  clear y0 k0 y1 k1
  have y0 := z0; have k0 := l0
  clear z0 l0
  have y1 := z1; have k1 := l1
  clear z1 l1
  go_wp2_with fail
  refine region_V (w := w5) (fun k => if k = 4 then some (fun w v w' => ∃ u, v = .tuple #[u, .int .i64 c] ∧ Own2 w.heap.size w' u L) else none) (fun _ => false) [4] (.q 0 <| .q 1 <| .q 2 <| .q 3 <| .s1 4 <| .q 5 <| .q 6 <| .q 7 <| .q 8 <| .q 9 .fin) (by kernel_rfl) (by kernel_rfl) (by kernel_rfl) (fun k hk => ?_) ?_
  · simp at hk; simp [hk]
  apply v_other
  · simp only [List.getElem?_toArray, List.getElem?_cons_zero, List.getElem?_cons_succ]; exact rfl
  · rfl
  · rfl
  · go_simp
  · intro wx hx
    have e0 := hx.cells y0 k0
    have e1 := hx.cells y1 k1
    unfold atG
    go_simp
    simp only [uponG]
    exact ⟨by trivial, rfl⟩
  apply v_other
  · simp only [List.getElem?_toArray, List.getElem?_cons_zero, List.getElem?_cons_succ]; exact rfl
  · rfl
  · rfl
  · go_simp
  · intro wx hx
    have e0 := hx.cells y0 k0
    have e1 := hx.cells y1 k1
    unfold atG
    go_simp
    simp only [uponG]
    exact ⟨by trivial, T0.out wx⟩
  apply v_other
  · simp only [List.getElem?_toArray, List.getElem?_cons_zero, List.getElem?_cons_succ]; exact rfl
  · rfl
  · rfl
  · go_simp
  · intro wx hx
    have e0 := hx.cells y0 k0
    have e1 := hx.cells y1 k1
    unfold atG
    go_simp
    simp only [uponG]
    exact ⟨by trivial, rfl⟩
  apply v_other
  · simp only [List.getElem?_toArray, List.getElem?_cons_zero, List.getElem?_cons_succ]; exact rfl
  · rfl
  · rfl
  · go_simp
  · intro wx hx
    have e0 := hx.cells y0 k0
    have e1 := hx.cells y1 k1
    unfold atG
    go_simp
    simp only [uponG]
    exact ⟨by trivial, T1.out wx⟩
  refine v_E (by simp only [List.getElem?_toArray, List.getElem?_cons_zero, List.getElem?_cons_succ]; exact rfl) rfl (by go_simp) (fun wx hx _ => ?_) ?_
  · go_simp
    simp only [uponE]
    exact ⟨by trivial, (C1.out wx).mono fun e w' ⟨u, h1, h2, h3⟩ => ⟨_, h1, h2, u, rfl, h3⟩⟩
  rintro vq ⟨_, _, _, u2, rfl, _⟩
  apply v_other
  · simp only [List.getElem?_toArray, List.getElem?_cons_zero, List.getElem?_cons_succ]; exact rfl
  · rfl
  · rfl
  · go_simp
  · intro wx hx
    unfold atG
    go_simp
    simp only [uponG]
    exact ⟨by trivial, rfl⟩
  apply v_other
  · simp only [List.getElem?_toArray, List.getElem?_cons_zero, List.getElem?_cons_succ]; exact rfl
  · rfl
  · rfl
  · go_simp
  · intro wx hx
    unfold atG
    go_simp
    simp only [uponG]
    exact ⟨by trivial, rfl⟩
  apply v_other
  · simp only [List.getElem?_toArray, List.getElem?_cons_zero, List.getElem?_cons_succ]; exact rfl
  · rfl
  · rfl
  · go_simp
  · intro wx hx
    unfold atG
    go_simp
    simp only [uponG]
    exact ⟨by trivial, rfl⟩
  apply v_other
  · simp only [List.getElem?_toArray, List.getElem?_cons_zero, List.getElem?_cons_succ]; exact rfl
  · rfl
  · rfl
  · go_simp
  · intro wx hx
    unfold atG
    go_simp
    simp only [uponG]
    exact ⟨by trivial, rfl⟩
  apply v_other
  · simp only [List.getElem?_toArray, List.getElem?_cons_zero, List.getElem?_cons_succ]; exact rfl
  · rfl
  · rfl
  · go_simp
  · intro wx hx
    unfold atG
    go_simp
    simp only [uponG]
    exact ⟨by trivial, rfl⟩
  rintro w6 hx ⟨m0, m1, _, k1', k2', ⟨ux, ex, o2⟩, k3'⟩
  injection ex with ex
  have hux : u2 = ux := by
    have := congrArg (fun a : Array Value => a[0]?) ex
    simpa using this
  subst hux
  clear ex
  obtain ⟨A2, c2, vs2, rfl, p2⟩ := own2_form o2
  clear o2
  have q2 := p2.below k3' (Nat.le_refl _)
  have s2a := k1'.size
  have s2b := (k2'.trans k3').size
  have O2 := hide q2; clear p2 q2 k1' k2' k3'
  generalize m0.heap.size = B2 at *
  have O06 := hide (O05.out.below hx (Nat.le_refl _))
  have O16 := hide (O15.out.below hx (Nat.le_refl _))
  have G6 : Grown w1 w6 := Below.trans G5 (Below.mono hx G5.size)
  clear hx G5
  go_wp2_with fail
  refine (eqInt64SS_same L A2 A0 c2 c0 _ _ vs2 vs0 (by omega) (by omega) _ O2.out O06.out).mono ?_
  rintro e w7 ⟨rfl, h7⟩
  have O17 := hide (O16.out.below h7 (Nat.le_refl _))
  have G7 : Grown w1 w7 := Below.trans G6 (h7.mono G6.size)
  clear h7 G6
  go_wp2_with fail
  refine (held1 L A1 c1 _ vs1 (by omega) (by omega) _ O17.out).mono ?_
  rintro e w8 ⟨rfl, h8⟩
  have b8 := b1.trans ((Below.trans G7 (h8.mono G7.size)).mono b1.size)
  clear h8 G7
  go_wp2
  go_ret
  exact ⟨rfl, b8⟩
end Go.Proofs.Ytjhpkibeddnbfaa

namespace Go.Proofs.Ytjhpkibeddnbfaa
open Go.RowKit
open Go.Maps (Keyed)

/-- bytes as keys -/
def encB (b : Nat) : Value := .int .u8 (b : Int)
theorem encB_inj {a b : Nat} (h : encB a = encB b) : a = b := by unfold encB at h; injection h with _ h; omega
open Classical in
noncomputable def Mb (s : Nat → Bool) : Value → Option Value := fun v => if ∃ z, v = encB z ∧ s z = true then some (.bool true) else none
theorem Mb_at (s : Nat → Bool) (z : Nat) : Mb s (encB z) = if s z = true then some (.bool true) else none := by
  unfold Mb
  by_cases h : s z = true
  · rw [if_pos ⟨z, rfl, h⟩, if_pos h]
  · rw [if_neg (fun ⟨y, e, hy⟩ => h (by rw [encB_inj e]; exact hy)), if_neg h]
theorem Mb_put (s : Nat → Bool) (z : Nat) : mput (Mb s) (encB z) (.bool true) = Mb (mset s z) := by
  funext v
  unfold mput Mb mset
  by_cases h : v = encB z
  · rw [if_pos h, if_pos ⟨z, h, by simp⟩]
  · rw [if_neg h]
    by_cases c : ∃ y, v = encB y ∧ s y = true
    · rw [if_pos c]
      obtain ⟨y, e, hy⟩ := c
      rw [if_pos ⟨y, e, by simp [hy]⟩]
    · rw [if_neg c, if_neg]
      rintro ⟨y, e, hy⟩
      by_cases d : y = z
      · subst d; exact h e
      · exact c ⟨y, e, by simpa [d] using hy⟩
theorem Mb_nil : (fun _ => none : Value → Option Value) = Mb fun _ => false := by funext v; unfold Mb; simp
theorem keyedU8 : Keyed Try.prog 5 := Go.Maps.int_keyed Try.underlying5
theorem isK_u8 (a : Nat) (ha : a < 256) : IsK Try.prog 5 (encB a) := by
  have w1 : (Lit.int .u8 (a : Int)).wf = true := by unfold Lit.wf; simp [IntKind.min, IntKind.max, IntKind.signed, IntKind.bits]; omega
  unfold IsK keyOf encB
  rw [Try.underlying5]
  unfold mapKey
  rw [Try.underlying5]
  simp [w1]
theorem look_u8 {w0 w : World} {L : List Part} (H : Holds w0 w L) (i : Nat) {G : Nat} {s : Nat → Bool} (hi : L[i]? = some (pMap Try.prog 5 G (Mb s))) {z : Nat} (hz : z < 256) :
    (Instr.lookup 82 (.map (some G)) (encB z) false).run Try.prog w = .ok (.bool (s z)) w := by
  rw [run_mlook keyedU8 Try.underlying82 zeroBool (H.at i hi) (isK_u8 z hz) false, Mb_at]
  rcases s z with _ | _ <;> rfl
open Classical in
noncomputable def szR (n : Int) (f g : Nat → Nat) (n' : Int) (f' g' : Nat → Nat) : List Nat := if desB n f g = true ∧ desB n' f' g' = true then sortU (pSt (prR f g f' g') n'.toNat).2 else []
theorem sortU_len (l : List Nat) : (sortU l).length = l.length := by unfold sortU; exact (List.mergeSort_perm _ _).length_eq
theorem szR_bound (n : Int) (f g : Nat → Nat) (n' : Int) (f' g' : Nat → Nat) : (szR n f g n' f' g').length ≤ 16 := by
  unfold szR
  split
  · rename_i h
    obtain ⟨k, rfl, he⟩ := desB_true h.2
    simp only [Int.toNat_natCast]
    have h1 := pSt_len (prR f g f' g') k
    have := he.le
    rw [sortU_len]
    omega
  · simp
/-- sorting a list that the call holds -/
theorem Holds.sorted {w0 w w' : World} {L : List Part} (h : Holds w0 w L) (i : Nat) {v : Value} {l : List Nat} (hi : L[i]? = some (pInts v l)) (hg : w.grownBy w' v.ownBlock) (ho : Own1 w0.heap.size w' v (sortU l)) : Holds w0 w' (L.set i (pInts v (sortU l))) :=
  h.grow i hi _ (row_low ho (Nat.zero_le _)) hg (fun g e => e) fun g e => .inl e

set_option maxRecDepth 100000 in
set_option maxHeartbeats 2000000 in
theorem productSizes_any (n : Int) (f g : Nat → Nat) (hf : ∀ i, f i < 256) (hg : ∀ i, g i < 256) (n' : Int) (f' g' : Nat → Nat) (hf' : ∀ i, f' i < 256) (hg' : ∀ i, g' i < 256) (w : World) :
    Calls Try.prog 32 #[.agg (dv n f g), .agg (dv n' f' g')] w fun e w' => ∃ v, e = .returned (.tuple #[v, .int .i64 (bothC n f g n' f' g')]) ∧ Below w.heap.size w w' ∧ Own1 w.heap.size w' v (szR n f g n' f' g') := by
  have C1 := hide fun w => isDessin_any n f g hf hg w
  have C2 := hide fun w => isDessin_any n' f' g' hf' hg' w
  clear hf hg hf' hg'
  have HH0 := ((Holds.start w).blk (dv n f g) 30 w.heap.size rfl).blk (dv n' f' g') 30 (w.heap.size + 1) (by simp)
  rcases h1 : desB n f g with _ | _
  · rw [h1] at C1
    have hr : szR n f g n' f' g' = [] := by unfold szR; rw [if_neg (by simp [h1])]
    have hc : bothC n f g n' f' g' = 1 := by unfold bothC; rw [if_neg (by simp [h1])]
    rw [hr, hc]
    clear h1 hr hc
    go_enter Try.func32, Try.ntmps32
    go_wp2_with fail
    refine (C1.out _).mono ?_
    rintro e w1 ⟨rfl, hb⟩
    have HH1 := HH0.call hb
    clear hb HH0
    go_wp2
    go_ret2
    exact ⟨.slice none 0 0, rfl, HH1.low, Own1.nil _ _⟩
  rw [h1] at C1
  rcases h2 : desB n' f' g' with _ | _
  · rw [h2] at C2
    have hr : szR n f g n' f' g' = [] := by unfold szR; rw [if_neg (by simp [h2])]
    have hc : bothC n f g n' f' g' = 1 := by unfold bothC; rw [if_neg (by simp [h2])]
    rw [hr, hc]
    clear h1 h2 hr hc
    go_enter Try.func32, Try.ntmps32
    go_wp2_with fail
    refine (C1.out _).mono ?_
    rintro e w1 ⟨rfl, hb⟩
    have HH1 := HH0.call hb
    have ce := HH1.cells 0 rfl
    clear hb HH0
    go_wp2_with fail
    refine (C2.out _).mono ?_
    rintro e w2 ⟨rfl, hb⟩
    have HH2 := HH1.call hb
    clear hb HH1 ce
    go_wp2
    go_ret2
    exact ⟨.slice none 0 0, rfl, HH2.low, Own1.nil _ _⟩
  rw [h2] at C2
  obtain ⟨m, rfl, hd⟩ := desB_true h1
  obtain ⟨k, rfl, he⟩ := desB_true h2
  have hr : szR m f g k f' g' = sortU (pSt (prR f g f' g') k).2 := by unfold szR; rw [if_pos ⟨h1, h2⟩]; simp only [Int.toNat_natCast]
  have hc : bothC m f g k f' g' = 0 := by unfold bothC; rw [if_pos ⟨h1, h2⟩]
  rw [hr, hc]
  clear h1 h2 hr hc
  have hm := hd.le
  have hk := he.le
  have hk0 := he.pos
  have hk256 : (k : Int) < 256 := by omega
  have hn' := dv_n k f' g'
  have c3 := fun (y : Nat) (hy : y < 16) (w : World) => pairsFrom_any f g f' g' m k hd he 0 y (by omega) hy w
  have HB := hide fun (y : Nat) (hy : y < 16) => prR_lt hd he (show y < 256 by omega)
  clear hd he
  simp only [Nat.mul_zero, Nat.zero_add] at c3
  have c4 : ∀ (y : Nat), y < 16 → ∀ w : World, Calls Try.prog 52 #[.agg (dv m f g), .agg (dv k f' g'), .agg #[.int .u8 (0 : Nat), .int .u8 y]] w fun e w' => ∃ v, e = .returned v ∧ Below w.heap.size w w' ∧
      w'.ownsRow w.heap.size 68 2 v (prR f g f' g' y).length (pairB (dec (prR f g f' g' y))) := c3
  have C3 := hide c4; clear c3 c4
  generalize prR f g f' g' = R at *
  have HST := hide fun y => (show pSt R (y + 1) = if (pSt R y).1 y = true then pSt R y else (markP (R y) (pSt R y).1 (R y).length, (pSt R y).2 ++ [(R y).length]) from rfl)
  have HS0 := hide (show pSt R 0 = (fun _ => false, []) from rfl)
  have HSL := hide fun y => pSt_len R y
  have HSP := hide (pSt_pos R hk0)
  generalize pSt R = S at *
  have mk := fun w => run_mk (P := Try.prog) 82 w
  go_enter Try.func32, Try.ntmps32
  go_wp2_with fail
  refine (C1.out _).mono ?_
  rintro e w1 ⟨rfl, hb⟩
  have HH1 := HH0.call hb
  have ce := HH1.cells 0 rfl
  clear hb HH0
  go_wp2_with fail
  refine (C2.out _).mono ?_
  rintro e w2 ⟨rfl, hb⟩
  have HH2 := HH1.call hb
  clear hb HH1 ce
  have HH3 := (HH2.nilRow 2 1).newMap Try.prog 5 w2.heap.size rfl
  have ce0 := HH3.cell 2 rfl hn'
  go_wp2
  clear ce0 HH2 mk
  generalize w2.alloc (.map #[] 0) = w3 at *
  generalize w2.heap.size = G at *
  rw [Mb_nil] at HH3
  have HH4 : Holds w w3 (pMap Try.prog 5 G (Mb (fun _ => false)) :: pInts (.slice none 0 0) [] :: pBlk (w.heap.size + 1) (dv k f' g') 30 :: [pBlk w.heap.size (dv m f g) 30]) := HH3
  clear HH3
  go_loopw [6, 24] (fun u t wr => ∃ y : Nat, y ≤ k ∧ t = .int .u8 y ∧ Holds w wr (pMap Try.prog 5 G (Mb (S y).1) :: pInts u (S y).2 :: pBlk (w.heap.size + 1) (dv k f' g') 30 :: [pBlk w.heap.size (dv m f g) 30])) (fun _ t _ => k - (intOf t).toNat)
  case atStart => exact ⟨0, by omega, rfl, by rw [HS0.out]; exact HH4⟩
  case round =>
    clear HH4
    obtain ⟨y, hy, rfl, hH⟩ := hrel
    have hsl := HSL.out y
    by_cases hyk : y < k
    · have hy16 : y < 16 := by omega
      have hyk' : (y : Int) < k := by omega
      have hs := HST.out y
      have lk := look_u8 hH 0 rfl (z := y) (by omega)
      unfold encB at lk
      generalize hM : S (y + 1) = M at *
      have HM := hide hM; clear hM
      rcases hsy : (S y).1 y with _ | _
      · rw [hsy] at lk
        rw [hsy, if_neg (by simp)] at hs
        have c3 := C3.out y hy16
        have hb2 := HB.out y hy16
        generalize R y = Q at *
        generalize (S y).1 = s0 at *
        generalize (S y).2 = l0 at *
        subst hs
        have C4 := hide c3; clear c3
        have HQ := hide hb2.1
        have hql := hb2.2
        clear hb2 hsy
        have cd := hH.cells 3 rfl
        have ce := hH.cells 2 rfl
        obtain ⟨A0, c0, rfl⟩ := hH.intsForm 1 rfl
        go_wp2_with fail
        refine (C4.out _).mono ?_
        rintro e w4 ⟨v, rfl, hb, ho⟩
        have HH5 := hH.newRow hb ho
        clear hb ho cd ce lk hH
        obtain ⟨A1, c1, rfl⟩ := own_slice (HH5.row 0 rfl)
        have HH6 : Holds w w4 (pPairs (.slice A1 Q.length c1) (dec Q) :: (pMap Try.prog 5 G (Mb s0) :: pInts (.slice A0 l0.length c0) l0 :: pBlk (w.heap.size + 1) (dv k f' g') 30 :: [pBlk w.heap.size (dv m f g) 30])) := by unfold pPairs; rw [dec_length]; exact HH5
        clear HH5
        go_wp2
        go_loopw [37] (fun t wr => ∃ i : Nat, i ≤ Q.length ∧ t = .int .i64 i ∧ Holds w wr (pPairs (.slice A1 Q.length c1) (dec Q) :: (pMap Try.prog 5 G (Mb (markP Q s0 i)) :: pInts (.slice A0 l0.length c0) l0 :: pBlk (w.heap.size + 1) (dv k f' g') 30 :: [pBlk w.heap.size (dv m f g) 30]))) (fun t _ => Q.length - (intOf t).toNat)
        case atStart => exact ⟨0, by omega, rfl, HH6⟩
        case round =>
          clear HH6
          obtain ⟨i, hi, rfl, hH⟩ := hrel
          by_cases hil : i < Q.length
          · obtain ⟨g0, c2, e0, _, y1, y2⟩ := hH.pairs 0 rfl (k := i) (by rw [dec_length]; exact hil)
            rw [dec_length] at e0
            injection e0 with e0 e0a e0b
            subst e0
            clear e0a e0b
            have hda := dec_at hil
            rw [hda] at y1 y2
            have hgd : Q.getD i 0 = Q[i] := by rw [List.getD_eq_getElem?_getD, List.getElem?_eq_getElem hil]; rfl
            have hst : markP Q s0 (i + 1) = if Q[i] / 16 = 0 then mset (markP Q s0 i) (Q[i] % 16) else markP Q s0 i := by rw [← hgd]; rfl
            generalize Q[i] = z at *
            clear hgd hda
            obtain ⟨a, ha⟩ : ∃ a, a = z / 16 := ⟨_, rfl⟩
            obtain ⟨b, hb⟩ : ∃ b, b = z % 16 := ⟨_, rfl⟩
            rw [← ha, ← hb] at hst
            rw [← ha] at y1
            rw [← hb] at y2
            have hb16 : b < 16 := by omega
            clear ha hb
            have hHb := hH.blk #[.int .u8 (a : Nat), .int .u8 (b : Nat)] 68 wr.heap.size rfl
            by_cases ha0 : a = 0
            · rw [if_pos ha0] at hst
              have HST2 := hide hst; clear hst
              subst ha0
              go_wp2_with (refine mputH keyedU8 rfl _ _ _ rfl Try.underlying82 hHb 2 rfl rfl rfl rfl ?_ ?_)
              · exact isK_u8 b (by omega)
              intro w5 hH5 hs5
              clear hs5 hHb hH y1 y2
              have hH6 : Holds w w5 (_ :: _ :: pMap Try.prog 5 G (mput (Mb (markP Q s0 i)) (encB b) (.bool true)) :: _) := hH5
              rw [Mb_put, ← HST2.out] at hH6
              go_wp2
              go_roundw
              case rel => exact ⟨i + 1, by omega, by go_num, hH6.tail⟩
              case measure => simp [intOf]; omega
            · rw [if_neg ha0] at hst
              have HST2 := hide hst; clear hst
              have hne : ((a : Int) == 0) = false := by rw [beq_eq_false_iff_ne]; omega
              go_wp2
              clear hH y1 y2 hne
              go_roundw
              case rel => exact ⟨i + 1, by omega, by go_num, by rw [HST2.out]; exact hHb.tail⟩
              case measure => simp [intOf]; omega
          · obtain rfl : i = Q.length := by omega
            clear hi hil
            go_wp2_with (at_builtin; refine appI (hH.alloc _) 2 rfl wr.heap.size [Q.length] 2 ?_ ?_ rfl _ _ rfl rfl rfl ?_)
            · exact heap_at _ _ _ rfl
            · simp only [List.length_cons, List.length_nil]; omega
            intro v' w5 hH5
            clear hH
            go_wp2
            go_roundw
            case rel => exact ⟨y + 1, by omega, by go_num, by rw [HM.out]; exact hH5.tail⟩
            case measure => simp [intOf]; omega
      · rw [hsy] at lk
        rw [hsy, if_pos rfl] at hs
        have HS := hide hs; clear hs hsy
        go_wp2
        clear lk
        go_roundw
        case rel => exact ⟨y + 1, by omega, by go_num, by rw [HM.out, HS.out]; exact hH⟩
        case measure => simp [intOf]; omega
    · obtain rfl : y = k := by omega
      clear hyk hy
      have hp := HSP.out
      obtain ⟨l0, hl0⟩ : ∃ l0, l0 = (S y).2 := ⟨_, rfl⟩
      rw [← hl0] at hp hH hsl
      have HL0 := hide hl0; clear hl0
      have hown := hH.own1 1 rfl
      obtain ⟨A0, c0, rfl⟩ := hH.intsForm 1 rfl
      go_wp2_with fail
      refine (sort_any hown (by omega) (by omega)).mono ?_
      rintro e w5 ⟨rfl, hg5, ho5⟩
      have hH5 := hH.sorted 1 rfl hg5 ho5
      have hO := hH5.own1 1 rfl
      clear hg5 ho5 hown hH
      go_wp2
      go_ret2
      exact ⟨_, rfl, hH5.low, by rw [← HL0.out]; exact hO⟩
end Go.Proofs.Ytjhpkibeddnbfaa
