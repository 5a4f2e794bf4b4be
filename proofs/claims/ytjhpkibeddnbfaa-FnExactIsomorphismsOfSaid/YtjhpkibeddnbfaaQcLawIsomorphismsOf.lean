/- Texts put together: Bef, SNam, EqDs, Can, RegC, Pr, Pk, RegD, Pfr, Nbf, SameD, Iso, All, PlMark, EqPs -/
import Derived.Test.YtjhpkibeddnbfaaQbLawIsomorphismsOf
import Derived.Test.YtjhpkibeddnbfaaChecked
import Derived.WalkKit
import Derived.WalkSpells
import Derived.WalkLawsBesides
import Derived.Deep.LoopGhost
import Derived.Deep.OwnRows
import Derived.Laws.Rows
import Derived.Laws.Tables
import Derived.Laws.CopyOwn
import Derived.ProofKit
import Derived.OpenShut
import Derived.ShutString
import Derived.ChangeOld
import Derived.Below
import Derived.Laws.OwnMore
import Derived.Maps.Keyed
import Derived.DeepKeys4
import Derived.Maps.Own
import Derived.Laws.CopyRow
import Derived.Deep.MidRow
import Derived.Carry
import Derived.BigQuiet
import Derived.Deep.QuietTactic
import Derived.RegionTactic
import Derived.Deep.RegionWith
import Derived.Deep.Quiet
import Derived.StillTail
import Derived.ChangeKeysEq
import Derived.StillTailTactics
import Derived.Deep.RegionHeld3
import Derived.Laws.Cover3
import Derived.Lib.Bytealg
import Derived.Lib.BytesEntry
import Derived.Laws.Externs
import Derived.Laws.StructEq
import Derived.IntWalk
namespace Go.Proofs.Ytjhpkibeddnbfaa
open Go.RowKit

-- left out here: cmp.Or[int]
def cmpD (f g f' g' : Nat → Nat) : Int := if Lib.compareBytes (b16 f) (b16 f') = 0 then Lib.compareBytes (b16 g) (b16 g') else Lib.compareBytes (b16 f) (b16 f')
-- left out here: loop.example/g01200/impl.compareDessins
noncomputable def ltB (f g : Nat → Nat) : Bool := @decide (ltF f g) (Classical.propDecidable _)
theorem ltB_iff (f g : Nat → Nat) : ltB f g = true ↔ ltF f g := by unfold ltB; simp
theorem ltB_at {f g : Nat → Nat} {k : Nat} (hk : k < 16) (hpre : ∀ j, j < k → f j = g j) (hne : f k ≠ g k) : ltB f g = decide (f k < g k) := by
  rw [Bool.eq_iff_iff, ltB_iff, decide_eq_true_iff]
  refine ⟨fun ⟨j, h1, h2, h3⟩ => ?_, fun h => ⟨k, hk, h, hpre⟩⟩
  rcases Nat.lt_trichotomy j k with c | c | c
  · have := hpre j c; omega
  · subst c; exact h2
  · exact absurd (h3 k c) hne
theorem ltB_eq {f g : Nat → Nat} (h : ∀ j, j < 16 → f j = g j) : ltB f g = false := by
  rw [Bool.eq_false_iff]
  intro e
  obtain ⟨j, h1, h2, h3⟩ := (ltB_iff f g).1 e
  have := h j h1; omega
noncomputable def befB (f g f' g' : Nat → Nat) : Bool := if sameB f f' = true then ltB g g' else ltB f f'
theorem cmpD_lt (f g f' g' : Nat → Nat) (hf : ∀ i, i < 16 → f i < 256) (hg : ∀ i, i < 16 → g i < 256) (hf' : ∀ i, i < 16 → f' i < 256) (hg' : ∀ i, i < 16 → g' i < 256) : decide (cmpD f g f' g' < 0) = befB f g f' g' := by
  unfold cmpD befB
  have two : ∀ {a b : Nat → Nat}, (∀ i, i < 16 → a i < 256) → (∀ i, i < 16 → b i < 256) → decide (Lib.compareBytes (b16 a) (b16 b) < 0) = ltB a b := by
    intro a b ha hb
    rw [Bool.eq_iff_iff, ltB_iff, decide_eq_true_iff]
    rcases cmp_cases a b ha hb with ⟨e, h⟩ | ⟨e, h, _⟩ | ⟨e, h, _⟩
    · rw [e]
      refine ⟨fun h => by omega, fun ⟨j, h1, h2, _⟩ => ?_⟩
      have := h j h1; omega
    · rw [e]; exact ⟨fun _ => h, fun _ => by omega⟩
    · rw [e]; exact ⟨fun h => by omega, fun k => absurd k h⟩
  rcases cmp_cases f f' hf hf' with ⟨e, h⟩ | ⟨e, _, h⟩ | ⟨e, _, h⟩
  · rw [if_pos e, if_pos ((sameB_iff f f').2 h)]; exact two hg hg'
  · rw [if_neg (by rw [e]; omega), if_neg (fun k => h ((sameB_iff f f').1 k))]; exact two hf hf'
  · rw [if_neg (by rw [e]; omega), if_neg (fun k => h ((sameB_iff f f').1 k))]; exact two hf hf'

-- left out here: loop.example/g01200/spec.l02Less
-- left out here: loop.example/g01200/spec.l02Before
end Go.Proofs.Ytjhpkibeddnbfaa

namespace Go.Proofs.Ytjhpkibeddnbfaa
open Go.RowKit

/-- one byte more at the end of a list of bytes of the call's own -/
theorem appB {ops : Array Oper} {rest : List Oper} {o : Oper} {a : Act} {Q : Exit → Act → World → Prop} {w : World} {t : TypeId} (hgd : o.guard = none) (s x : Operand)
    (ho : o.op = .call { callee := .builtin .append, args := #[s, x], argTypes := #[113, 113] }) {B : Nat} {v : Value} {l : List Nat} (hs : a.eval s = v) (hown : OwnB B w v l) (hB : B ≤ w.heap.size)
    (y : Nat) (g : Nat) (hx : a.eval x = .slice (some ⟨g, 0, none⟩) 1 1) (hg : g = w.heap.size) (hl : l.length ≤ 1000000000)
    (h : ∀ v' w', OwnB B w' v' (l ++ [y]) → w.grownBy w' v.ownBlock → w.heap.size < w'.heap.size → wpList Try.prog ops Q rest (a.put o.dst v') w') :
    wpList Try.prog ops Q (o :: rest) a (w.alloc (.cells #[.int .u8 (y : Int)] t)) := by
  obtain ⟨i0, hi, hz0, hz1, hz2⟩ := info_parts infoU8
  unfold OwnB at hown
  refine wpList_append_own (P := Try.prog) _ hgd s x 113 ho B 5 i0 (.int .u8 0) 1 1 Try.underlying113 hi hz0 hz1 hz2 rfl (by decide) v l.length (bytesL l) hs (hown.alloc _) ⟨g, 0, none⟩ 1 1 [.int .u8 (y : Int)] hx rfl
    (one_new _ _ _ _ hg) (fun u hu => ?_) (by unfold maxLen; omega) (by omega) (by simp; omega) fun v' w' h1 h2 _ => h v' w' ?_ ?_ ?_
  · simp at hu; subst hu; rfl
  · unfold OwnB bytesL at *
    simpa using h1
  · exact grown_step (grown_alloc (grown_refl w v.ownBlock) _) h2 fun g hg => .inr hg
  · have := h2.size; simp at this; omega

theorem heap4 {w : World} {o o1 o2 o3 o4 : Obj} {g : Nat} (h : g = w.heap.size) : (((((w.alloc o).alloc o1).alloc o2).alloc o3).alloc o4).heap[g]? = some o := (heap_past _ _ _ (by simp; omega)).trans (heap3 h)
/-- what l02Naming has made -/
structure NW (w wr : World) (m : Nat) (f g : Nat → Nat) (o : Nat → Nat) (b : Nat → Bool) : Prop where
  low : Below w.heap.size w wr
  des : cellsOf wr w.heap.size = dv m f g
  res : rowOk wr (w.heap.size + 1) 16
  out : wr.heap[w.heap.size + 1 + 1 + 1]? = some (.cells (av o) 28 (0, 0))
  met : wr.heap[w.heap.size + 1 + 1 + 1 + 1]? = some (.cells (bv b) 79 (0, 0))
theorem NW.lt {w wr : World} {m : Nat} {f g o : Nat → Nat} {b : Nat → Bool} (h : NW w wr m f g o b) : w.heap.size + 1 + 1 + 1 + 1 < wr.heap.size := (Array.getElem?_eq_some_iff.1 h.met).1
theorem NW.grown {w wr w' : World} {m : Nat} {f g o : Nat → Nat} {b : Nat → Bool} {r : Option Nat} (h : NW w wr m f g o b) (hg : wr.grownBy w' r) (hr : ∀ k, r = some k → w.heap.size + 2 ≤ k ∧ k ≠ w.heap.size + 1 + 1 + 1 ∧ k ≠ w.heap.size + 1 + 1 + 1 + 1) : NW w w' m f g o b := by
  have hl := h.lt
  exact ⟨h.low.grown hg (by omega) (fun k hk => by have := hr k hk; omega), (grown_cells hg (by omega) (fun e => by have := hr _ e.symm; omega)).trans h.des, (grown_row hg (by omega) (fun e => by have := hr _ e.symm; omega)).2 h.res,
    (hg.block _ (by omega) (fun e => (hr _ e.symm).2.1 rfl)).trans h.out, (hg.block _ (by omega) (fun e => (hr _ e.symm).2.2 rfl)).trans h.met⟩
theorem NW.setB {w wr : World} {m : Nat} {f g o : Nat → Nat} {b : Nat → Bool} (h : NW w wr m f g o b) (y : Nat) : NW w (wr.setCell ⟨w.heap.size + 1 + 1 + 1 + 1, y, none⟩ (.bool true)) m f g o (mset b y) := by
  refine ⟨below_setCell h.low (by omega) _ _, (cellsOf_setCell_ne (by omega)).trans h.des, rowOk_setCell h.res, ?_, ?_⟩
  · rw [Below.heap_setCell wr ⟨w.heap.size + 1 + 1 + 1 + 1, y, none⟩ _ _ (show w.heap.size + 1 + 1 + 1 ≠ w.heap.size + 1 + 1 + 1 + 1 by omega)]; exact h.out
  · rw [heap_setCell_same _ _ _ _ _ _ h.met, bv_set]
theorem NW.setO {w wr : World} {m : Nat} {f g o : Nat → Nat} {b : Nat → Bool} (h : NW w wr m f g o b) (y v : Nat) : NW w (wr.setCell ⟨w.heap.size + 1 + 1 + 1, y, none⟩ (.int .u8 v)) m f g (fset o y v) b := by
  refine ⟨below_setCell h.low (by omega) _ _, (cellsOf_setCell_ne (by omega)).trans h.des, rowOk_setCell h.res, ?_, ?_⟩
  · rw [heap_setCell_same _ _ _ _ _ _ h.out, av_set]
  · rw [Below.heap_setCell wr ⟨w.heap.size + 1 + 1 + 1, y, none⟩ _ _ (show w.heap.size + 1 + 1 + 1 + 1 ≠ w.heap.size + 1 + 1 + 1 by omega)]; exact h.met
theorem NW.far {w wr : World} {m : Nat} {f g o : Nat → Nat} {b : Nat → Bool} (h : NW w wr m f g o b) {v : Value} {l : List Nat} (ho : OwnB (w.heap.size + 2) wr v l) : ∀ k, v.ownBlock = some k → w.heap.size + 2 ≤ k ∧ k ≠ w.heap.size + 1 + 1 + 1 ∧ k ≠ w.heap.size + 1 + 1 + 1 + 1 := by
  intro k hk
  refine ⟨(World.ownsRow.lt ho k hk).1, fun e => ?_, fun e => ?_⟩
  · rcases own_ne_blk ho h.out (by decide) with c | c
    · rw [c] at hk; cases hk
    · exact c (by rw [hk, e])
  · rcases own_ne_blk ho h.met (by decide) with c | c
    · rw [c] at hk; cases hk
    · exact c (by rw [hk, e])
theorem OwnB.setCell {B g i : Nat} {w : World} {v u : Value} {l : List Nat} (h : OwnB B w v l) (hne : ∀ k, v.ownBlock = some k → k ≠ g) : OwnB B (w.setCell ⟨g, i, none⟩ u) v l :=
  World.ownsRow.kept h (grown_setCell (grown_refl w (some g))) (by rcases hv : v.ownBlock with _ | k; exact .inl rfl; exact .inr fun e => hne k hv (by injection e))
theorem lstF_at {f g : Nat → Nat} {m x k : Nat} (hI : BInv m (bfs f g x k)) (hm : m ≤ 16) (hk : k < (bfs f g x k).1.length) : lstF (bfs f g x 16).1 k = (bfs f g x k).1[k] := by
  have h16 := hI.length_le
  obtain ⟨t, ht⟩ := bfs_pre' f g x (show k ≤ 16 by omega)
  unfold lstF
  rw [← ht, List.getD_eq_getElem?_getD, List.getElem?_append_left hk, List.getElem?_eq_getElem hk]; rfl

set_option maxRecDepth 100000 in
set_option maxHeartbeats 2000000 in
theorem sNaming_any (f g : Nat → Nat) (m : Nat) (hd : DesN f g m) (x : Nat) (hx : x < m) (w : World) :
    Calls Try.prog 79 #[.agg (dv m f g), .int .i64 x] w fun e w' => e = .returned (.agg (av (namF f g m x))) ∧ Below w.heap.size w w' := by
  have hm := hd.le
  have hn := dv_n m f g
  obtain ⟨F, L, FI, F0, FN, FS, FL, FM, FE⟩ : ∃ (F : Nat → List Nat × (Nat → Bool)) (L : Nat → Nat), Hid (∀ k, BInv m (F k)) ∧ Hid (F 0 = ([x], mset (fun _ => false) x)) ∧ Hid (∀ k (hk : k < (F k).1.length), F (k + 1) = bst f g (F k) ((F k).1[k]) 2) ∧
      Hid (∀ k, k ≤ 16 → (F k).1.length ≤ k → F 16 = F k) ∧ Hid (∀ k (hk : k < (F k).1.length), L k = (F k).1[k]) ∧ Hid ((F 16).1.length = m) ∧ Hid (namF f g m x = backTo L m) :=
    ⟨bfs f g x, lstF (bfs f g x 16).1, hide fun k => bfs_inv hd.bf.1 hd.bg.1 hx k, hide (bfs_start f g x), hide fun k hk => bfs_next hk, hide fun k h1 h2 => bfs_stop h2 h1, hide fun k hk => lstF_at (bfs_inv hd.bf.1 hd.bg.1 hx k) hm hk, hide (bfs_full hd.bf hd.bg hd.le hd.conn hx), hide rfl⟩
  rw [FE.out]
  clear FE
  have HF := hide hd.bf.1
  have HG := hide hd.bg.1
  clear hd
  have hx16 : x < 16 := by omega
  have h0 := bv_set (fun _ => false) x
  rw [bv_false] at h0
  have hlit : bv (mset (fun _ => false) x) = bv (mset (fun _ => false) x) := rfl
  have hlit : bv (mset (fun _ => false) x) = bv (mset (fun _ => false) x) := rfl
  have hlit : bv (mset (fun _ => false) x) = bv (mset (fun _ => false) x) := rfl
  go_enter Try.func79, Try.ntmps79
  go_wp2
  rw [← av_zero]
  go_loopw [7, 8] (fun q i wr => ∃ k : Nat, k ≤ (F k).1.length ∧ i = .int .i64 k ∧ NW w wr m f g (backTo L k) (F k).2 ∧ OwnB (w.heap.size + 2) wr q (F k).1) (fun _ i _ => 17 - (intOf i).toNat)
  case atStart =>
    refine ⟨0, by omega, rfl, ⟨below5 _ _ _ _ _ _, cellsOf_heap (heap4 rfl), ⟨_, _, heap3 (by simp), av_size _⟩, heap1 (by simp), ?_⟩, ?_⟩
    · rw [F0.out]; exact heap_at _ _ _ (by simp)
    · rw [F0.out]
      exact ⟨by simp [bytesL], .inr ⟨w.heap.size + 1 + 1, 1, _, rfl, by omega, heap2 (by simp), by simp, by unfold maxLen; omega, by simp, by simp [bytesL]⟩⟩
  case round =>
    clear hlit h0
    obtain ⟨k, hk, rfl, hN, hO⟩ := hrel
    have hI := FI.out k
    have hl16 : (F k).1.length ≤ 16 := by have := hI.length_le; omega
    by_cases hlt : k < (F k).1.length
    · have hnext := FN.out k hlt
      have hX := hI.lt _ (List.getElem_mem hlt)
      have hLX := FL.out k hlt
      obtain ⟨g0, c, rfl, hB0, hg0, hc1, hc2, hcell⟩ := hO.at hlt
      have hk16 : k < 16 := by omega
      generalize hS : F k = S at *
      generalize S.1[k] = X at *
      have hX16 : X < 16 := by omega
      have hfX := HF.out X hX
      have hgX := HG.out X hX
      have c3 : wr.cell? ⟨w.heap.size + 1 + 1 + 1, X, none⟩ = some (.int .u8 (backTo L k X)) := by rw [cell_of_cells, cellsOf_heap hN.out, av_get _ hX16]
      have f3 : wr.frozen? ⟨w.heap.size + 1 + 1 + 1, X, none⟩ = false := by simp [World.frozen?, hN.out]
      have hN1 := hN.setO X k
      have hb1 : fset (backTo L k) X k = backTo L (k + 1) := by rw [← hLX]; rfl
      rw [hb1] at hN1
      have hO1 : OwnB (w.heap.size + 2) (wr.setCell ⟨w.heap.size + 1 + 1 + 1, X, none⟩ (.int .u8 k)) (.slice (some ⟨g0, 0, none⟩) S.1.length c) S.1 := OwnB.setCell hO fun q hq => (hN.far hO q hq).2.1
      have HS := hide hS; clear hS
      have HN := hide hnext; clear hnext
      have HIV := hide hI; clear hI
      have HN1 := hide hN1; clear hN1 hN hb1
      have HO1 := hide hO1; clear hO1 hO
      have HL := hide hLX; clear hLX
      generalize hb : backTo L k X = y0 at *
      clear hb
      go_wp2
      clear c3 f3 hcell
      have hN2 := HN1.out
      have hO2 := HO1.out
      clear HN1 HO1 hg0 hc1 hc2
      generalize wr.setCell ⟨w.heap.size + 1 + 1 + 1, X, none⟩ (.int .u8 k) = wz at *
      go_loopw [7, 10] (fun q j wr => ∃ jj : Nat, jj ≤ 2 ∧ j = .int .i64 jj ∧ NW w wr m f g (backTo L (k + 1)) (bst f g S X jj).2 ∧ OwnB (w.heap.size + 2) wr q (bst f g S X jj).1) (fun _ j _ => 2 - (intOf j).toNat)
      case atStart => exact ⟨0, by omega, rfl, hN2, hO2⟩
      case round =>
        clear hN2 hO2
        obtain ⟨j, hj, rfl, hN, hO⟩ := hrel
        by_cases hj2 : j < 2
        · have hjj : j = 0 ∨ j = 1 := by omega
          rcases hjj with hj0 | hj1
          · obtain rfl := hj0
            have hst : bst f g S X 1 = badd (bst f g S X 0) (f X) := rfl
            have hIT := bst_inv HIV.out hfX hgX 0
            have hTl : (bst f g S X 0).1.length ≤ 16 := by have := hIT.length_le; omega
            generalize bst f g S X 0 = T at *
            have cb : wr.cell? ⟨w.heap.size, 1 + X, none⟩ = some (.int .u8 (f X)) := by rw [cell_of_cells, hN.des, dv_b _ _ _ hX16]
            have cw : wr.cell? ⟨w.heap.size, 17 + X, none⟩ = some (.int .u8 (g X)) := by rw [cell_of_cells, hN.des, dv_w _ _ _ hX16]
            have hY16 : f X < 16 := by omega
            have hcm : cellsOf wr (w.heap.size + 1 + 1 + 1 + 1) = bv T.2 := cellsOf_heap hN.met
            have hsz := hN.lt
            have HST := hide hst; clear hst
            have HNW := hide hN
            have HO := hide hO; clear hO
            rcases hTY : T.2 (f X) with _ | _
            · have c0 : wr.cell? ⟨w.heap.size + 1 + 1 + 1 + 1, f X, none⟩ = some (.bool false) := by rw [cell_of_cells, hcm, bv_get _ hY16, hTY]
              have f0 : wr.frozen? ⟨w.heap.size + 1 + 1 + 1 + 1, f X, none⟩ = false := by simp [World.frozen?, hN.met]
              have hN2 := hN.setB (f X)
              have hO2 : OwnB (w.heap.size + 2) (wr.setCell ⟨w.heap.size + 1 + 1 + 1 + 1, f X, none⟩ (.bool true)) u7 T.1 := OwnB.setCell HO.out fun q hq => (hN.far HO.out q hq).2.2
              have HTY := hide hTY; clear hTY hcm hN
              have HN2 := hide hN2; clear hN2
              have HO2 := hide hO2; clear hO2
              go_wp2_with (at_builtin; refine appB rfl _ _ rfl rfl HO2.out (by simp; omega) (f X) _ rfl (by simp) (by omega) fun v' w1 ho' hg' hs' => ?_)
              have hN3 := HN2.out.grown hg' (HN2.out.far HO2.out)
              have H1 := hide hN3; clear hN3
              have H2 := hide ho'; clear ho' hg' c0 f0 cb cw
              go_wp2
              go_roundw
              case rel => exact ⟨1, by omega, by go_num, by rw [HST.out, badd_new HTY.out]; exact H1.out, by rw [HST.out, badd_new HTY.out]; exact H2.out⟩
              case measure => simp [intOf]
            · have c0 : wr.cell? ⟨w.heap.size + 1 + 1 + 1 + 1, f X, none⟩ = some (.bool true) := by rw [cell_of_cells, hcm, bv_get _ hY16, hTY]
              have HTY := hide hTY; clear hTY hcm hN
              go_wp2
              go_roundw
              case rel => exact ⟨1, by omega, by go_num, by rw [HST.out, badd_old HTY.out]; exact HNW.out, by rw [HST.out, badd_old HTY.out]; exact HO.out⟩
              case measure => simp [intOf]
          · obtain rfl := hj1
            have hst : bst f g S X 2 = badd (bst f g S X 1) (g X) := rfl
            have hIT := bst_inv HIV.out hfX hgX 1
            have hTl : (bst f g S X 1).1.length ≤ 16 := by have := hIT.length_le; omega
            generalize bst f g S X 1 = T at *
            have cb : wr.cell? ⟨w.heap.size, 1 + X, none⟩ = some (.int .u8 (f X)) := by rw [cell_of_cells, hN.des, dv_b _ _ _ hX16]
            have cw : wr.cell? ⟨w.heap.size, 17 + X, none⟩ = some (.int .u8 (g X)) := by rw [cell_of_cells, hN.des, dv_w _ _ _ hX16]
            have hY16 : g X < 16 := by omega
            have hcm : cellsOf wr (w.heap.size + 1 + 1 + 1 + 1) = bv T.2 := cellsOf_heap hN.met
            have hsz := hN.lt
            have HST := hide hst; clear hst
            have HNW := hide hN
            have HO := hide hO; clear hO
            rcases hTY : T.2 (g X) with _ | _
            · have c0 : wr.cell? ⟨w.heap.size + 1 + 1 + 1 + 1, g X, none⟩ = some (.bool false) := by rw [cell_of_cells, hcm, bv_get _ hY16, hTY]
              have f0 : wr.frozen? ⟨w.heap.size + 1 + 1 + 1 + 1, g X, none⟩ = false := by simp [World.frozen?, hN.met]
              have hN2 := hN.setB (g X)
              have hO2 : OwnB (w.heap.size + 2) (wr.setCell ⟨w.heap.size + 1 + 1 + 1 + 1, g X, none⟩ (.bool true)) u7 T.1 := OwnB.setCell HO.out fun q hq => (hN.far HO.out q hq).2.2
              have HTY := hide hTY; clear hTY hcm hN
              have HN2 := hide hN2; clear hN2
              have HO2 := hide hO2; clear hO2
              go_wp2_with (at_builtin; refine appB rfl _ _ rfl rfl HO2.out (by simp; omega) (g X) _ rfl (by simp) (by omega) fun v' w1 ho' hg' hs' => ?_)
              have hN3 := HN2.out.grown hg' (HN2.out.far HO2.out)
              have H1 := hide hN3; clear hN3
              have H2 := hide ho'; clear ho' hg' c0 f0 cb cw
              go_wp2
              go_roundw
              case rel => exact ⟨2, by omega, by go_num, by rw [HST.out, badd_new HTY.out]; exact H1.out, by rw [HST.out, badd_new HTY.out]; exact H2.out⟩
              case measure => simp [intOf]
            · have c0 : wr.cell? ⟨w.heap.size + 1 + 1 + 1 + 1, g X, none⟩ = some (.bool true) := by rw [cell_of_cells, hcm, bv_get _ hY16, hTY]
              have HTY := hide hTY; clear hTY hcm hN
              go_wp2
              go_roundw
              case rel => exact ⟨2, by omega, by go_num, by rw [HST.out, badd_old HTY.out]; exact HNW.out, by rw [HST.out, badd_old HTY.out]; exact HO.out⟩
              case measure => simp [intOf]
        · obtain rfl : j = 2 := by omega
          have HNW := hide hN; clear hN
          have HO := hide hO; clear hO
          have hlen : k + 1 ≤ (F (k + 1)).1.length := by
            rw [HN.out]
            have := (bst_pre f g S X 2).length_le
            omega
          go_wp2
          go_roundw
          case rel => exact ⟨k + 1, hlen, by go_num, by rw [HN.out]; exact HNW.out, by rw [HN.out]; exact HO.out⟩
          case measure => simp [intOf]; omega
    · obtain ⟨A, c, rfl⟩ := ownB_form hO
      have hst := FS.out k (by omega) (by omega)
      have hkm : k = m := by rw [← FM.out, hst]; omega
      have hb1 := hN.low
      have hr1 := hN.res
      have hc1 : cellsOf wr (w.heap.size + 1 + 1 + 1) = av (backTo L k) := cellsOf_heap hN.out
      have HK := hide hkm; clear hkm
      have HST := hide hst; clear hst
      clear hN hO hI
      have hkl : (F k).1.length = k := by omega
      rw [hkl]
      clear hkl hlt hk hl16
      go_wp2
      obtain ⟨t, ht, _⟩ := hr1.heap
      exact res_agg (p := 4) (g := w.heap.size + 1) aggP (av_size _) rfl rfl rfl (setRow_heap _ _ _ _ t (0, 0) ht) ⟨by rw [HK.out], below_setRow hb1 (by omega) _⟩
end Go.Proofs.Ytjhpkibeddnbfaa

namespace Go.Proofs.Ytjhpkibeddnbfaa
open Go.RowKit

set_option maxRecDepth 100000 in
set_option maxHeartbeats 400000 in
theorem eqDessin_same (n : Int) (f g : Nat → Nat) (w : World) : Calls Try.prog 30 #[.agg (dv n f g), .agg (dv n f g)] w fun e w' => e = .returned (.bool true) ∧ Below w.heap.size w w' := by
  have hn := dv_n n f g
  have hne : (n != n) = false := by simp
  go_enter Try.func30, Try.ntmps30
  go_wp2_with fail
  refine (eqPlaces_same f _).mono ?_
  rintro e w1 ⟨rfl, h1⟩
  have c0 : cellsOf w1 w.heap.size = dv n f g := (below_cells h1 (by simp <;> omega)).trans (cellsOf_heap (heap1 rfl))
  have c1 : cellsOf w1 (w.heap.size + 1) = dv n f g := (below_cells h1 (by simp <;> omega)).trans (cellsOf_heap (heap_at _ _ _ (by simp)))
  have b1 := (below2 w (.cells (dv n f g) 30) (.cells (dv n f g) 30)).trans (h1.mono (by simp <;> omega))
  have l1 := h1.size
  clear h1
  go_wp2_with fail
  refine (eqPlaces_same g _).mono ?_
  rintro e w2 ⟨rfl, h2⟩
  have b2 := b1.trans (h2.mono (by simp at l1; omega))
  clear b1 h2 c0 c1
  go_wp2
  go_ret
  exact ⟨rfl, b2⟩

end Go.Proofs.Ytjhpkibeddnbfaa

namespace Go.Proofs.Ytjhpkibeddnbfaa
open Go.RowKit

theorem lstF_perm {f g : Nat → Nat} {m x : Nat} (hd : DesN f g m) (hx : x < m) : PermN (lstF (bfs f g x 16).1) m := by
  have hI := bfs_inv hd.bf.1 hd.bg.1 hx 16
  have hlen : (bfs f g x 16).1.length = m := bfs_full hd.bf hd.bg hd.le hd.conn hx
  have hl := hI.lt
  have hn := hI.nodup
  generalize (bfs f g x 16).1 = l at *
  have at' : ∀ i (h : i < m), lstF l i = l[i] := fun i h => by unfold lstF; rw [List.getD_eq_getElem?_getD, List.getElem?_eq_getElem (by omega)]; rfl
  refine ⟨hd.pos, hd.le, ⟨fun i hi => ?_, fun i j hi hj e => ?_⟩, fun i hi _ => ?_⟩
  · rw [at' i hi]; exact hl _ (List.getElem_mem _)
  · rw [at' i hi, at' j hj] at e
    exact (List.getElem_inj hn).1 e
  · unfold lstF; rw [List.getD_eq_getElem?_getD, List.getElem?_eq_none (by omega)]; rfl
theorem namF_perm {f g : Nat → Nat} {m x : Nat} (hd : DesN f g m) (hx : x < m) : PermN (namF f g m x) m := backF_perm (lstF_perm hd hx)
/-- the form from x -/
def forB (f g : Nat → Nat) (m x : Nat) : Nat → Nat := renF (namF f g m x) f m
def forW (f g : Nat → Nat) (m x : Nat) : Nat → Nat := renF (namF f g m x) g m
theorem forB_perm {f g : Nat → Nat} {m x : Nat} (hd : DesN f g m) (hx : x < m) : PermN (forB f g m x) m := renF_perm (namF_perm hd hx) hd.black
theorem forW_perm {f g : Nat → Nat} {m x : Nat} (hd : DesN f g m) (hx : x < m) : PermN (forW f g m x) m := renF_perm (namF_perm hd hx) hd.white
/-- the least one of the forms from 0 to k -/
noncomputable def canS (f g : Nat → Nat) (m : Nat) : Nat → (Nat → Nat) × (Nat → Nat)
  | 0 => (forB f g m 0, forW f g m 0)
  | k + 1 => if befB (forB f g m (k + 1)) (forW f g m (k + 1)) (canS f g m k).1 (canS f g m k).2 = true then (forB f g m (k + 1), forW f g m (k + 1)) else canS f g m k
theorem canS_perm {f g : Nat → Nat} {m : Nat} (hd : DesN f g m) : ∀ k, k < m → PermN (canS f g m k).1 m ∧ PermN (canS f g m k).2 m := by
  intro k
  induction k with
  | zero => intro h; exact ⟨forB_perm hd h, forW_perm hd h⟩
  | succ k ih =>
    intro h
    rw [canS]
    split
    · exact ⟨forB_perm hd h, forW_perm hd h⟩
    · exact ih (by omega)
theorem befB_self (f g : Nat → Nat) : befB f g f g = false := by
  unfold befB
  rw [if_pos ((sameB_iff f f).2 fun _ _ => rfl)]
  exact ltB_eq fun _ _ => rfl
theorem canS_step (f g : Nat → Nat) (m k : Nat) : canS f g m k = if befB (forB f g m k) (forW f g m k) (canS f g m (k - 1)).1 (canS f g m (k - 1)).2 = true then (forB f g m k, forW f g m k) else canS f g m (k - 1) := by
  rcases k with _ | k
  · show canS f g m 0 = if befB (forB f g m 0) (forW f g m 0) (forB f g m 0) (forW f g m 0) = true then _ else canS f g m 0
    rw [befB_self, if_neg (by simp)]
  · rfl

-- left out here: loop.example/g01200/impl.canonical loop.example/g01200/impl.compareDessins
-- left out here: loop.example/g01200/spec.l02Before loop.example/g01200/spec.l02Canonical
noncomputable def canR (n : Int) (f g : Nat → Nat) : Value := if desB n f g = true then .tuple #[.agg (dv n (canS f g n.toNat (n.toNat - 1)).1 (canS f g n.toNat (n.toNat - 1)).2), .int .i64 0] else .tuple #[.agg (dv 0 (fun _ => 0) (fun _ => 0)), .int .i64 1]
theorem canR_eq (n : Int) (f g : Nat → Nat) : ∃ (a : Int) (r s : Nat → Nat) (c : Int), canR n f g = .tuple #[.agg (dv a r s), .int .i64 c] := by
  unfold canR; split
  · exact ⟨_, _, _, _, rfl⟩
  · exact ⟨_, _, _, _, rfl⟩

-- left out here: loop.example/g01200/impl.CanonicalDessin
-- left out here: loop.example/g01200/spec.CanonicalDessin
-- left out here: loop.example/g01200/laws.FnExactCanonicalDessin
end Go.Proofs.Ytjhpkibeddnbfaa

namespace Go.Proofs.Ytjhpkibeddnbfaa.Rc
open Go.RowKit

section
variable (P : Program) (md : Region.Mode) (ops : Array Oper) (C : World → Prop) (E : Nat → Option (Value → World → Prop)) (K : Act → World → Prop)

def uponE (R : Value → World → Prop) (w : World) : Result Next → Prop
  | .ok (.value u) w' => C w' ∧ R u w'
  | .ok .skip w' => C w' ∧ R undef w'
  | .ok (.enter f args) w' => w' = w ∧ Calls P f args w (fun e w'' => ∃ v, e = .returned v ∧ C w'' ∧ R v w'')
  | _ => False

/-- one operation, and what follows -/
def opV (i : Nat) (N : Act → (World → Prop) → Prop) (a : Act) (D : World → Prop) : Prop :=
  match ops[i]? with
  | none => N a D
  | some o =>
    if Region.wanted o (yielded ops a.tmps) then
      match E i with
      | some R => (∀ w, C w → D w → uponE P C R w ((execOp a.eval o).run P w)) ∧ ∀ v, (∃ w, C w ∧ R v w) → N (a.put o.dst v) (R v)
      | none => ∃ v, (∀ w, C w → atG P o a w v) ∧ N (a.put o.dst v) D
    else N (a.put o.dst undef) D

theorem opV_mono {i : Nat} {N N' : Act → (World → Prop) → Prop} {a : Act} {D : World → Prop} (h : ∀ a D, N a D → N' a D) (hh : opV P ops C E i N a D) : opV P ops C E i N' a D := by
  unfold opV at *
  split
  · rename_i ho; simp only [ho] at hh; exact h _ _ hh
  · rename_i o ho
    simp only [ho] at hh
    split
    · rename_i hw
      rw [if_pos hw] at hh
      split
      · rename_i R hR; simp only [hR] at hh; exact ⟨hh.1, fun v hv => h _ _ (hh.2 v hv)⟩
      · rename_i hR
        simp only [hR] at hh
        obtain ⟨v, h1, h2⟩ := hh; exact ⟨v, h1, h _ _ h2⟩
    · rename_i hw; rw [if_neg hw] at hh; exact h _ _ hh

/-- whatever order is picked -/
def anyV : Nat → Array Bool → Act → (World → Prop) → Prop
  | 0, done, a, D => Region.ready md ops done = [] ∧ ∀ w, C w → D w → K a w
  | f + 1, done, a, D => (Region.ready md ops done = [] → ∀ w, C w → D w → K a w) ∧ ∀ i ∈ Region.ready md ops done, opV P ops C E i (anyV f (done.setIfInBounds i true)) a D

theorem op_sound (hC : ∀ w w', C w → Below w.heap.size w w' → C w') (hE : ∀ i R, E i = some R → ∀ v, Stable (R v)) {i : Nat} {N : Act → (World → Prop) → Prop} {K' : Act → World → Prop} {Q : Exit → Act → World → Prop} {a : Act} {D : World → Prop} {w : World} (hD : Stable D) (hw : C w) (hDw : D w)
    (hN : ∀ a D w, Stable D → C w → D w → N a D → K' a w) (h : opV P ops C E i N a D) : wpOp P ops Q i K' a w := by
  unfold opV at h
  unfold wpOp
  split
  · rename_i ho; simp only [ho] at h; exact hN _ _ _ hD hw hDw h
  · rename_i o ho
    simp only [ho] at h
    split
    · rename_i hwa
      rw [if_pos hwa] at h
      refine .inl ?_
      unfold Oper.wp
      rcases hEi : E i with _ | R
      · simp only [hEi] at h
        obtain ⟨v, h1, h2⟩ := h
        have h3 := h1 w hw
        unfold atG at h3
        generalize (execOp a.eval o).run P w = r at *
        cases r with
        | ok n w' =>
          cases n <;> simp only [uponG] at h3 <;> simp only [Oper.upon]
          case value u => obtain ⟨e1, e2⟩ := h3; rw [e1, e2]; exact hN _ _ _ hD hw hDw h2
          case skip => obtain ⟨e1, e2⟩ := h3; rw [e1, ← e2]; exact hN _ _ _ hD hw hDw h2
          case enter f args => obtain ⟨e1, hc⟩ := h3; rw [e1]; exact hc.mono fun e w'' ⟨he, hb⟩ => by subst he; exact hN _ _ _ hD (hC _ _ hw hb) (hD _ _ hDw hb) h2
        | halt x w' => simp only [uponG] at h3
      · simp only [hEi] at h
        have h3 := h.1 w hw hDw
        generalize (execOp a.eval o).run P w = r at *
        cases r with
        | ok n w' =>
          cases n <;> simp only [uponE] at h3 <;> simp only [Oper.upon]
          case value u => exact hN _ _ _ (hE _ _ hEi u) h3.1 h3.2 (h.2 u ⟨_, h3⟩)
          case skip => exact hN _ _ _ (hE _ _ hEi undef) h3.1 h3.2 (h.2 undef ⟨_, h3⟩)
          case enter f args =>
            obtain ⟨e1, hc⟩ := h3
            rw [e1]
            refine hc.mono ?_
            rintro e w'' ⟨v, he, hb, hr⟩
            subst he
            exact hN _ _ _ (hE _ _ hEi v) hb hr (h.2 v ⟨_, hb, hr⟩)
        | halt x w' => simp only [uponE] at h3
    · rename_i hwa; rw [if_neg hwa] at h; exact hN _ _ _ hD hw hDw h

theorem anyV_any (hC : ∀ w w', C w → Below w.heap.size w w' → C w') (hE : ∀ i R, E i = some R → ∀ v, Stable (R v)) {Q : Exit → Act → World → Prop} (hQ : ∀ a w, K a w → Q .normal a w) (f : Nat) : ∀ (done : Array Bool) (a : Act) (D : World → Prop) (w : World), Stable D → C w → D w →
    anyV P md ops C E K f done a D → wpAny P md ops Q f done a w := by
  induction f with
  | zero => intro done a D w _ hw hDw h; exact ⟨h.1, hQ _ _ (h.2 w hw hDw)⟩
  | succ f ih =>
    intro done a D w hD hw hDw h
    exact ⟨fun e => hQ _ _ (h.1 e w hw hDw), fun i hi => op_sound P ops C E hC hE hD hw hDw (fun a' D' w' h1 h2 h3 h4 => ih _ a' D' w' h1 h2 h3 h4) (h.2 i hi)⟩

def YieldsG (o : Oper) (v : Value) (a : Act) : Prop :=
  (Region.wanted o (yielded ops a.tmps) = true ∧ ∀ w, C w → atG P o a w v) ∨ (Region.wanted o (yielded ops a.tmps) = false ∧ v = undef)

theorem YieldsG.op {i : Nat} {o : Oper} {v : Value} {a : Act} {D : World → Prop} (hi : ops[i]? = some o) (hE : E i = none) (hy : YieldsG P ops C o v a) {N : Act → (World → Prop) → Prop} (h : N (a.put o.dst v) D) : opV P ops C E i N a D := by
  unfold opV
  simp only [hi, hE]
  rcases hy with ⟨hw, hv⟩ | ⟨hw, rfl⟩
  · rw [if_pos hw]; exact ⟨v, hv, h⟩
  · rw [if_neg (by simp [hw])]; exact h

theorem yieldsG_of {i : Nat} {o : Oper} {a : Act} {D : World → Prop} {N : Act → (World → Prop) → Prop} (hi : ops[i]? = some o) (hE : E i = none) (h : opV P ops C E i N a D) : ∃ v, YieldsG P ops C o v a ∧ N (a.put o.dst v) D := by
  unfold opV at h
  simp only [hi, hE] at h
  by_cases hw : Region.wanted o (yielded ops a.tmps) = true
  · rw [if_pos hw] at h
    obtain ⟨v, h1, h2⟩ := h
    exact ⟨v, .inl ⟨hw, h1⟩, h2⟩
  · rw [if_neg hw] at h
    exact ⟨undef, .inr ⟨by simpa using hw, rfl⟩, h⟩

theorem opV_put {j : Nat} {oi oj : Oper} {v : Value} (hj : ops[j]? = some oj) (hap : oi.apart ops oj = true) (hsi : ∀ cs b, oi.op ≠ .select cs b) (hsj : ∀ cs b, oj.op ≠ .select cs b)
    {N : Act → (World → Prop) → Prop} {a : Act} {D : World → Prop} (hy : YieldsG P ops C oi v a) (h : opV P ops C E j N (a.put oi.dst v) D) :
    opV P ops C E j (fun a' D' => YieldsG P ops C oi v a' ∧ N (a'.put oi.dst v) D') a D := by
  obtain ⟨h1, h2, h3⟩ := Oper.apart_spec hap
  have keep : ∀ u, YieldsG P ops C oi v (a.put oj.dst u) := fun u => by
    have e1 := execOp_put oi hsi a oj.dst u h3
    have e2 := wanted_put oi a oj.dst u h3
    unfold YieldsG atG at *
    rw [e1, e2]; exact hy
  unfold opV at *
  simp only [hj] at *
  rw [wanted_put oj a oi.dst v h1, execOp_put oj hsj a oi.dst v h1] at h
  have ep : ∀ u, (a.put oj.dst u).put oi.dst v = (a.put oi.dst v).put oj.dst u := fun u => (Act.put_comm a v u h2).symm
  by_cases hw : Region.wanted oj (yielded ops a.tmps) = true
  · rw [if_pos hw] at h ⊢
    rcases hE : E j with _ | R
    · simp only [hE] at h ⊢
      obtain ⟨u, k1, k2⟩ := h
      refine ⟨u, fun w hg => ?_, keep _, by rw [ep]; exact k2⟩
      have := k1 w hg
      unfold atG at *
      rwa [execOp_put oj hsj a oi.dst v h1] at this
    · simp only [hE] at h ⊢
      exact ⟨h.1, fun u hu => ⟨keep _, by rw [ep]; exact h.2 u hu⟩⟩
  · rw [if_neg hw] at h ⊢
    exact ⟨keep _, by rw [ep]; exact h⟩

theorem anyV_first {i : Nat} {o : Oper} {v : Value} (hi : ops[i]? = some o) (hE : E i = none) (hsel : ∀ (j : Nat) (o : Oper) cs b, ops[j]? = some o → o.op ≠ .select cs b) (f : Nat) :
    ∀ (done : Array Bool) (a : Act) (D : World → Prop),
      (∀ j oj, ops[j]? = some oj → j ≠ i → done.getD j true = false → (∀ e ∈ oj.after, Region.binds md e = true → e.on ≠ i) → o.apart ops oj = true) →
      i ∈ Region.ready md ops done → YieldsG P ops C o v a →
      anyV P md ops C E K f (done.setIfInBounds i true) (a.put o.dst v) D → anyV P md ops C E K (f + 1) done a D := by
  induction f with
  | zero =>
    intro done a D _ hr hy H
    refine ⟨fun e => (by rw [e] at hr; cases hr), fun j hj => ?_⟩
    by_cases e : j = i
    · subst e; exact hy.op P ops C E hi hE H
    · have := ready_mono hj e
      rw [H.1] at this; cases this
  | succ f ih =>
    intro done a D hfree hr hy H
    refine ⟨fun e => (by rw [e] at hr; cases hr), fun j hj => ?_⟩
    by_cases e : j = i
    · subst e; exact hy.op P ops C E hi hE H
    · obtain ⟨hjun, oj, hoj, hall⟩ := mem_ready.1 hj
      have hun := (mem_ready.1 hr).1
      have hno : ∀ e ∈ oj.after, Region.binds md e = true → e.on ≠ i := fun e he hb h => by
        have := hall e he hb
        rw [h, getD_both hun] at this
        cases this
      refine opV_mono P ops C E (fun a' D' h3 => ih (done.setIfInBounds j true) a' D' (fun k' ok hk hki hk' hnk => hfree k' ok hk hki ?_ hnk) (ready_mono hr (Ne.symm e)) h3.1 ?_)
        (opV_put P ops C E hoj (hfree j oj hoj e hjun hno) (fun cs b => hsel i o cs b hi) (fun cs b => hsel j oj cs b hoj) hy (H.2 j (ready_mono hj e)))
      · by_cases e' : j = k'
        · subst e'; exact hjun
        · rw [getD_set_ne true e'] at hk'; exact hk'
      · rw [Array.setIfInBounds_comm _ _ e]; exact h3.2

def walkV : Plan → Act → (World → Prop) → Prop
  | .fin, a, D => ∀ w, C w → D w → K a w
  | .q k p, a, D => opV P ops C E k (walkV p) a D
  | .s1 k p, a, D => opV P ops C E k (walkV p) a D
  | .s2 k1 p1 k2 p2, a, D => opV P ops C E k1 (walkV p1) a D ∧ opV P ops C E k2 (walkV p2) a D
  | .s3 k1 p1 k2 p2 k3 p3, a, D => opV P ops C E k1 (walkV p1) a D ∧ opV P ops C E k2 (walkV p2) a D ∧ opV P ops C E k3 (walkV p3) a D

theorem anyV_walk (hsel : Region.noSelect ops = true) (sp : List Nat) (hsp : ∀ k, sp.contains k = false → E k = none) (p : Plan) :
    ∀ (f : Nat) (done : Array Bool) (a : Act) (D : World → Prop), planB md ops sp f p done = true → walkV P ops C E K p a D → anyV P md ops C E K f done a D := by
  induction p with
  | fin =>
    intro f done a D hB h
    cases f with
    | zero => exact ⟨by simpa [planB] using hB, h⟩
    | succ f =>
      have e : Region.ready md ops done = [] := by simpa [planB] using hB
      exact ⟨fun _ => h, fun i hi => by rw [e] at hi; cases hi⟩
  | q k p ih =>
    intro f done a D hB h
    cases f with
    | zero => simp [planB] at hB
    | succ f =>
      simp only [planB, Bool.and_eq_true, decide_eq_true_eq, Bool.not_eq_true'] at hB
      obtain ⟨hc, ⟨hr, hfree⟩, hk, hB'⟩ := hB
      have hE := hsp k hc
      have hi : ops[k]? = some ops[k] := Array.getElem?_eq_getElem hk
      obtain ⟨v, hy, hK⟩ := yieldsG_of P ops C E hi hE h
      exact anyV_first P md ops C E K hi hE (Region.noSelect_spec hsel) f done a D (Region.free_spec hi hfree) (by simpa using hr) hy (ih _ _ _ _ hB' hK)
  | s1 k p ih =>
    intro f done a D hB h
    cases f with
    | zero => simp [planB] at hB
    | succ f =>
      simp only [planB, Bool.and_eq_true, decide_eq_true_eq] at hB
      obtain ⟨hr, hB'⟩ := hB
      refine ⟨fun e => (by rw [hr] at e; cases e), fun i hi => ?_⟩
      rw [hr] at hi
      obtain rfl : i = k := by simpa using hi
      exact opV_mono P ops C E (fun a' D' h' => ih _ _ _ _ hB' h') h
  | s2 k1 p1 k2 p2 ih1 ih2 =>
    intro f done a D hB h
    cases f with
    | zero => simp [planB] at hB
    | succ f =>
      simp only [planB, Bool.and_eq_true, decide_eq_true_eq] at hB
      obtain ⟨hr, hB1, hB2⟩ := hB
      refine ⟨fun e => (by rw [hr] at e; cases e), fun i hi => ?_⟩
      rw [hr] at hi
      simp only [List.mem_cons, List.not_mem_nil, or_false] at hi
      rcases hi with rfl | rfl
      · exact opV_mono P ops C E (fun a' D' h' => ih1 _ _ _ _ hB1 h') h.1
      · exact opV_mono P ops C E (fun a' D' h' => ih2 _ _ _ _ hB2 h') h.2
  | s3 k1 p1 k2 p2 k3 p3 ih1 ih2 ih3 =>
    intro f done a D hB h
    cases f with
    | zero => simp [planB] at hB
    | succ f =>
      simp only [planB, Bool.and_eq_true, decide_eq_true_eq] at hB
      obtain ⟨hr, hB1, hB2, hB3⟩ := hB
      refine ⟨fun e => (by rw [hr] at e; cases e), fun i hi => ?_⟩
      rw [hr] at hi
      simp only [List.mem_cons, List.not_mem_nil, or_false] at hi
      rcases hi with rfl | rfl | rfl
      · exact opV_mono P ops C E (fun a' D' h' => ih1 _ _ _ _ hB1 h') h.1
      · exact opV_mono P ops C E (fun a' D' h' => ih2 _ _ _ _ hB2 h') h.2.1
      · exact opV_mono P ops C E (fun a' D' h' => ih3 _ _ _ _ hB3 h') h.2.2
end

/-- a region by parts of memory: w0, L what the class holds; L1 what stands at the start beside it -/
theorem region_P {P : Program} {id : Nat} {Q : Exit → Act → World → Prop} {a : Act} {w w0 : World} {l : List Oper} (L : List Part) (L1 : List Part) (E : Nat → Option (Value → World → Prop)) (sp : List Nat) (p : Plan) (H : Holds w0 w L1) (hL : L.Sublist L1)
    (hE : ∀ i R, E i = some R → ∀ v, Stable (R v)) (hm : P.follows .mixedOrders = true)
    (hsel : Region.noSelect l.toArray = true) (hB : planB .any l.toArray sp l.toArray.size p (Array.replicate l.toArray.size false) = true) (hsp : ∀ k, sp.contains k = false → E k = none)
    (h : walkV P l.toArray (fun wx => Holds w0 wx L) E (fun a' w' => Q .normal a' w') p a (fun wx => Holds w0 wx L1)) : (Code.region id l.toArray true).wp P Q a w := by
  refine wp_region_any hm ?_
  exact anyV_any (Q := Q) P .any l.toArray (fun wx => Holds w0 wx L) E (fun a' w' => Q .normal a' w') (fun _ _ h hb => h.call hb) hE (fun _ _ h => h) _ _ _ _ w.drew (fun _ _ h hb => h.call hb) (H.drew.sub hL) H.drew
    (anyV_walk P .any l.toArray (fun wx => Holds w0 wx L) E (fun a' w' => Q .normal a' w') hsel sp hsp p _ _ a _ hB h)

section
variable {P : Program} {ops : Array Oper} {C : World → Prop} {E : Nat → Option (Value → World → Prop)} {k : Nat} {a : Act} {D : World → Prop} {N : Act → (World → Prop) → Prop}
theorem v_q {o : Oper} (ho : ops[k]? = some o) (hE : E k = none) (hw : Region.wanted o (yielded ops a.tmps) = true) {v : Value} (h1 : ∀ w, C w → atG P o a w v) (h2 : N (a.put o.dst v) D) : opV P ops C E k N a D := by
  unfold opV
  simp only [ho, hE]
  rw [if_pos hw]
  exact ⟨v, h1, h2⟩
theorem v_s {o : Oper} {R : Value → World → Prop} (ho : ops[k]? = some o) (hE : E k = some R) (hw : Region.wanted o (yielded ops a.tmps) = true) (h1 : ∀ w, C w → D w → uponE P C R w ((execOp a.eval o).run P w))
    (h2 : ∀ v, (∃ w, C w ∧ R v w) → N (a.put o.dst v) (R v)) : opV P ops C E k N a D := by
  unfold opV
  simp only [ho, hE]
  rw [if_pos hw]
  exact ⟨h1, h2⟩
end
/-- a list of cells laid for an append -/
def rBuild (w0 : World) (cells : Array Value) (t : TypeId) (k : Nat) (L : List Part) : Value → World → Prop := fun v w => ∃ g, v = .slice (some ⟨g, 0, none⟩) k k ∧ Holds w0 w (pBlk g cells t :: L)
theorem rBuild_stable {w0 : World} {cells : Array Value} {t : TypeId} {k : Nat} {L : List Part} (v : Value) : Stable (rBuild w0 cells t k L v) := fun _ _ ⟨g, e, h⟩ hb => ⟨g, e, h.call hb⟩
/-- a relation of one value that is told by parts -/
def rHolds (w0 : World) (L : Value → List Part) : Value → World → Prop := fun v w => Holds w0 w (L v)
theorem rHolds_stable {w0 : World} {L : Value → List Part} (v : Value) : Stable (rHolds w0 L v) := fun _ _ h hb => h.call hb
end Go.Proofs.Ytjhpkibeddnbfaa.Rc

namespace Go.Proofs.Ytjhpkibeddnbfaa
open Go.RowKit

def pairB (l : List (Nat × Nat)) : List Value := l.flatMap fun p => [Value.int .u8 (p.1 : Int), Value.int .u8 (p.2 : Int)]
theorem pairB_length (l : List (Nat × Nat)) : (pairB l).length = l.length * 2 := by unfold pairB; induction l <;> simp_all <;> omega
theorem pairB_append (l l' : List (Nat × Nat)) : pairB (l ++ l') = pairB l ++ pairB l' := by unfold pairB; simp
theorem pairB_at {l : List (Nat × Nat)} {k : Nat} (hk : k < l.length) : (pairB l)[k * 2]? = some (.int .u8 (l[k].1 : Int)) ∧ (pairB l)[k * 2 + 1]? = some (.int .u8 (l[k].2 : Int)) := by
  induction l generalizing k with
  | nil => simp at hk
  | cons p l ih =>
    rcases k with _ | k
    · exact ⟨rfl, rfl⟩
    · have := ih (k := k) (by simpa using hk)
      have e : pairB (p :: l) = [Value.int .u8 (p.1 : Int), Value.int .u8 (p.2 : Int)] ++ pairB l := rfl
      rw [e, List.getElem?_append_right (by simp; omega), List.getElem?_append_right (by simp; omega)]
      simp only [List.length_cons, List.length_nil, List.getElem_cons_succ]
      rw [show (k + 1) * 2 - (0 + 1 + 1) = k * 2 by omega, show (k + 1) * 2 + 1 - (0 + 1 + 1) = k * 2 + 1 by omega]
      exact this
theorem pairB_one {l : List (Nat × Nat)} : ∀ u ∈ pairB l, u.oneCell' = true := by
  intro u hu
  unfold pairB at hu
  obtain ⟨p, _, hp⟩ := List.mem_flatMap.1 hu
  simp at hp
  rcases hp with rfl | rfl <;> rfl
theorem infoPr : (Try.prog.info? 68).map (fun i => (i.zero, i.size, i.bytes)) = some (some (.agg #[.int .u8 0, .int .u8 0]), 2, 2) := by kernel_rfl
theorem aggPr : AggT 68 2 := ⟨⟨_, Try.underlying68, rfl⟩, by kernel_rfl⟩
/-- a row of pairs, its part -/
def pPairs (v : Value) (l : List (Nat × Nat)) : Part := pRow v 68 2 l.length (pairB l)
theorem Holds.pairs {w0 w : World} {L : List Part} (h : Holds w0 w L) (i : Nat) {v : Value} {l : List (Nat × Nat)} (hi : L[i]? = some (pPairs v l)) {k : Nat} (hk : k < l.length) :
    ∃ g c, v = .slice (some ⟨g, 0, none⟩) l.length c ∧ g < w.heap.size ∧ w.cell? ⟨g, k * 2, none⟩ = some (.int .u8 (l[k].1 : Int)) ∧ w.cell? ⟨g, k * 2 + 1, none⟩ = some (.int .u8 (l[k].2 : Int)) := by
  obtain ⟨g, c, h1, h2, h3, h4, h5, h6, h7⟩ := row_at (h.row i hi) (by omega : 0 < l.length)
  exact ⟨g, c, h1, h3, h6 _ _ (pairB_at hk).1, h6 _ _ (pairB_at hk).2⟩
theorem Holds.pairsForm {w0 w : World} {L : List Part} (h : Holds w0 w L) (i : Nat) {v : Value} {l : List (Nat × Nat)} (hi : L[i]? = some (pPairs v l)) : ∃ A c, v = .slice A l.length c := own_slice (h.row i hi)
/-- pairs more at the end of such a row -/
theorem appP {ops : Array Oper} {rest : List Oper} {o : Oper} {a : Act} {Q : Exit → Act → World → Prop} {w0 w : World} {L : List Part} (H : Holds w0 w L) (k : Nat) {v : Value} {l : List (Nat × Nat)} (hk : L[k]? = some (pPairs v l))
    (g : Nat) (news : List (Nat × Nat)) (t : TypeId) (hc : w.heap[g]? = some (.cells (pairB news).toArray t (0, 0))) (hb : l.length + news.length ≤ 1000000)
    (hgd : o.guard = none) (s x : Operand)
    (ho : o.op = .call { callee := .builtin .append, args := #[s, x], argTypes := #[65, 65] })
    (hs : a.eval s = v) (hx : a.eval x = .slice (some ⟨g, 0, none⟩) news.length news.length)
    (h : ∀ v' w', Holds w0 w' (L.set k (pPairs v' (l ++ news))) → wpList Try.prog ops Q rest (a.put o.dst v') w') : wpList Try.prog ops Q (o :: rest) a w := by
  obtain ⟨i0, hi, hz0, hz1, hz2⟩ := info_parts infoPr
  refine appH (P := Try.prog) hgd s x 65 ho 68 i0 (.agg #[.int .u8 0, .int .u8 0]) 2 2 Try.underlying65 hi hz0 hz1 hz2 rfl (by decide) v l.length (pairB l) hs H k hk ⟨g, 0, none⟩ news.length news.length (pairB news) hx
    (pairB_length _) (fun j u hu => ?_) pairB_one (by unfold maxLen; omega) (by omega) fun v' w' h1 => h v' w' ?_
  · have : ((⟨g, 0, none⟩ : Addr).add j) = ⟨g, j, none⟩ := by simp [Addr.add]; exact Eq.symm
    rw [this, cell_of_cells, cellsOf_heap hc]
    simpa using hu
  · unfold pPairs at *
    rw [List.length_append, pairB_append]
    exact h1
theorem run_appP {o : Oper} {a : Act} {w0 w : World} {L : List Part} (H : Holds w0 w L) (k : Nat) {v : Value} {l : List (Nat × Nat)} (hk : L[k]? = some (pPairs v l))
    (g : Nat) (news : List (Nat × Nat)) (t : TypeId) (hc : w.heap[g]? = some (.cells (pairB news).toArray t (0, 0))) (hb : l.length + news.length ≤ 1000000) (s x : Operand)
    (ho : o.op = .call { callee := .builtin .append, args := #[s, x], argTypes := #[65, 65] })
    (hs : a.eval s = v) (hx : a.eval x = .slice (some ⟨g, 0, none⟩) news.length news.length) :
    ∃ v' w', (execOp a.eval o).run Try.prog w = .ok (.value v') w' ∧ Holds w0 w' (L.set k (pPairs v' (l ++ news))) := by
  obtain ⟨i0, hi, hz0, hz1, hz2⟩ := info_parts infoPr
  obtain ⟨v', w', h1, h2, _⟩ := run_appH (P := Try.prog) (w := w) 65 o.type 68 i0 (.agg #[.int .u8 0, .int .u8 0]) 2 2 Try.underlying65 hi hz0 hz1 hz2 rfl (by decide) v l.length (pairB l) H k hk ⟨g, 0, none⟩ news.length news.length (pairB news)
    (pairB_length _) (fun j u hu => by
      have : ((⟨g, 0, none⟩ : Addr).add j) = ⟨g, j, none⟩ := by simp [Addr.add]; exact Eq.symm
      rw [this, cell_of_cells, cellsOf_heap hc]
      simpa using hu) pairB_one (by unfold maxLen; omega) (by omega)
  refine ⟨v', w', exec_append ho hs hx h1, ?_⟩
  unfold pPairs at *
  rw [List.length_append, pairB_append]
  exact h2
theorem upon_appP {o : Oper} {a : Act} {w0 w : World} {L : List Part} (H : Holds w0 w L) (k : Nat) {v : Value} {l : List (Nat × Nat)} (hk : L[k]? = some (pPairs v l))
    (g : Nat) (news : List (Nat × Nat)) (t : TypeId) (hc : w.heap[g]? = some (.cells (pairB news).toArray t (0, 0))) (hb : l.length + news.length ≤ 1000000) {C : World → Prop} {R : Value → World → Prop}
    (h : ∀ v' w', Holds w0 w' (L.set k (pPairs v' (l ++ news))) → C w' ∧ R v' w') (s x : Operand)
    (ho : o.op = .call { callee := .builtin .append, args := #[s, x], argTypes := #[65, 65] })
    (hs : a.eval s = v) (hx : a.eval x = .slice (some ⟨g, 0, none⟩) news.length news.length) : Rc.uponE Try.prog C R w ((execOp a.eval o).run Try.prog w) := by
  obtain ⟨v', w', h1, h2⟩ := run_appP H k hk g news t hc hb s x ho hs hx
  rw [h1]
  exact h v' w' h2

set_option maxRecDepth 100000 in
set_option maxHeartbeats 400000 in
theorem pairAfter_any (p q : Nat → Nat) (a b : Nat) (ha : a < 16) (hb : b < 16) (w : World) :
    Calls Try.prog 92 #[.agg #[.int .u8 a, .int .u8 b], .agg (av p), .agg (av q)] w fun e w' => e = .returned (.agg #[.int .u8 (p a), .int .u8 (q b)]) ∧ Below w.heap.size w w' := by
  go_enter Try.func92, Try.ntmps92
  go_wp2
  have ha' : (a : Int) < 16 := by omega
  have hb' : (b : Int) < 16 := by omega
  have HH := ((((Holds.start w).blk #[.int .u8 a, .int .u8 b] 68 w.heap.size rfl).blk (av p) 28 (w.heap.size + 1) (by simp)).blk (av q) 28 (w.heap.size + 1 + 1) (by simp)).blk #[.int .u8 0, .int .u8 0] 68 (w.heap.size + 1 + 1 + 1) (by simp)
  refine region_tail (fun wx => Holds w wx _) 9 (by kernel_rfl) (by kernel_rfl) HH.drew ?_
  simp only [List.take_succ_cons, List.take_zero, List.drop_succ_cons, List.drop_zero]
  iterate 9
    apply q_step
    · go_simp
    · intro wx hx
      have c1 : wx.cell? ⟨w.heap.size, 0, none⟩ = some (.int .u8 a) := hx.cell 3 rfl rfl
      have c2 : wx.cell? ⟨w.heap.size, 1, none⟩ = some (.int .u8 b) := hx.cell 3 rfl rfl
      have c3 : wx.cell? ⟨w.heap.size + 1, a, none⟩ = some (.int .u8 (p a)) := hx.cell 2 rfl (av_get p ha)
      have c4 : wx.cell? ⟨w.heap.size + 1 + 1, b, none⟩ = some (.int .u8 (q b)) := hx.cell 1 rfl (av_get q hb)
      go_simp
      try exact rfl
  refine wpQuiet_nil ?_
  intro w1 hx
  have c1 := hx.cell 0 (j := 0) rfl rfl
  have c2 := hx.cell 0 (j := 1) rfl rfl
  have f1 := hx.frozen 0 rfl 0
  have f2 := hx.frozen 0 rfl 1
  go_wp2
  have H2 := (hx.set 0 rfl 0 (.int .u8 (p a))).set 0 rfl 1 (.int .u8 (q b))
  exact res_agg (p := 6) (g := w.heap.size + 1 + 1 + 1) (cs := #[.int .u8 (p a), .int .u8 (q b)]) aggPr rfl rfl rfl rfl (H2.at 0 rfl) ⟨rfl, H2.low⟩
end Go.Proofs.Ytjhpkibeddnbfaa

namespace Go.Proofs.Ytjhpkibeddnbfaa
open Go.RowKit
open Go.Maps (Keyed)

theorem laidPk : laidOutB Try.prog = true := by kernel_rfl
theorem keyedPr : Keyed Try.prog 68 := Keyed.of_law (deep_law_laid laidPk (m := 3) (by omega) (of_decide_eq_true (by kernel_rfl)) (by kernel_rfl) (by kernel_rfl))
theorem isK_pair (a b : Nat) (ha : a < 256) (hb : b < 256) : IsK Try.prog 68 (.agg #[.int .u8 (a : Int), .int .u8 (b : Int)]) := by
  have h1 : Try.prog.keyType 68 = true := by kernel_rfl
  obtain ⟨n, hn⟩ : ∃ n, Try.prog.types.size + 1 = n + 2 := ⟨Try.prog.types.size - 1, by
    have : 1 ≤ Try.prog.types.size := of_decide_eq_true (by kernel_rfl)
    omega⟩
  have h2 : Try.prog.cellsOf 68 = 2 := by kernel_rfl
  have h3 : Try.prog.cellsOf 5 = 1 := by kernel_rfl
  unfold IsK keyOf
  rw [Try.underlying68, hn]
  have h4 : Value.formed Try.prog 68 (.agg #[.int .u8 (a : Int), .int .u8 (b : Int)]) = true := by
    unfold Value.formed
    rw [Try.underlying68]
    simp [h2]
  have w1 : (Lit.int .u8 (a : Int)).wf = true := by unfold Lit.wf; simp [IntKind.min, IntKind.max, IntKind.signed, IntKind.bits]; omega
  have w2 : (Lit.int .u8 (b : Int)).wf = true := by unfold Lit.wf; simp [IntKind.min, IntKind.max, IntKind.signed, IntKind.bits]; omega
  have k1 : ∀ x : Nat, (Lit.int .u8 (x : Int)).wf = true → Try.prog.keyLits (n + 1) 5 [.int .u8 (x : Int)] = some [.int .u8 (x : Int)] := fun x hx => by
    unfold Program.keyLits
    simp only [Try.underlying5, hx]
    simp
  have k2 : Try.prog.keyLits (n + 2) 68 [.int .u8 (a : Int), .int .u8 (b : Int)] = some [.int .u8 (a : Int), .int .u8 (b : Int)] := by
    unfold Program.keyLits
    simp only [Try.underlying68, h2]
    simp [h3, k1 a w1, k1 b w2]
  simp only [h1, h4, Bool.and_self, if_true]
  simp only [Value.cells, k2]
  exact ⟨_, rfl⟩
end Go.Proofs.Ytjhpkibeddnbfaa

namespace Go.Proofs.Ytjhpkibeddnbfaa.Rd
open Go.RowKit

section
variable (P : Program) (md : Region.Mode) (ops : Array Oper) (C : World → Prop) (E : Nat → Bool) (K : Act → World → Prop)

def uponE (R : Value → World → Prop) (w : World) : Result Next → Prop
  | .ok (.value u) w' => C w' ∧ R u w'
  | .ok .skip w' => C w' ∧ R undef w'
  | .ok (.enter f args) w' => w' = w ∧ Calls P f args w (fun e w'' => ∃ v, e = .returned v ∧ C w'' ∧ R v w'')
  | _ => False

/-- one operation, and what follows -/
def opV (i : Nat) (N : Act → (World → Prop) → Prop) (a : Act) (D : World → Prop) : Prop :=
  match ops[i]? with
  | none => N a D
  | some o =>
    if Region.wanted o (yielded ops a.tmps) then
      if E i = true then ∃ R : Value → World → Prop, (∀ v, Stable (R v)) ∧ (∀ w, C w → D w → uponE P C R w ((execOp a.eval o).run P w)) ∧ ∀ v, (∃ w, C w ∧ R v w) → N (a.put o.dst v) (R v)
      else ∃ v, (∀ w, C w → atG P o a w v) ∧ N (a.put o.dst v) D
    else N (a.put o.dst undef) D

theorem opV_mono {i : Nat} {N N' : Act → (World → Prop) → Prop} {a : Act} {D : World → Prop} (h : ∀ a D, N a D → N' a D) (hh : opV P ops C E i N a D) : opV P ops C E i N' a D := by
  unfold opV at *
  split
  · rename_i ho; simp only [ho] at hh; exact h _ _ hh
  · rename_i o ho
    simp only [ho] at hh
    split
    · rename_i hw
      rw [if_pos hw] at hh
      split
      · rename_i hR; rw [if_pos hR] at hh; obtain ⟨R, h0, h1, h2⟩ := hh; exact ⟨R, h0, h1, fun v hv => h _ _ (h2 v hv)⟩
      · rename_i hR
        rw [if_neg hR] at hh
        obtain ⟨v, h1, h2⟩ := hh; exact ⟨v, h1, h _ _ h2⟩
    · rename_i hw; rw [if_neg hw] at hh; exact h _ _ hh

/-- whatever order is picked -/
def anyV : Nat → Array Bool → Act → (World → Prop) → Prop
  | 0, done, a, D => Region.ready md ops done = [] ∧ ∀ w, C w → D w → K a w
  | f + 1, done, a, D => (Region.ready md ops done = [] → ∀ w, C w → D w → K a w) ∧ ∀ i ∈ Region.ready md ops done, opV P ops C E i (anyV f (done.setIfInBounds i true)) a D

theorem op_sound (hC : ∀ w w', C w → Below w.heap.size w w' → C w') {i : Nat} {N : Act → (World → Prop) → Prop} {K' : Act → World → Prop} {Q : Exit → Act → World → Prop} {a : Act} {D : World → Prop} {w : World} (hD : Stable D) (hw : C w) (hDw : D w)
    (hN : ∀ a D w, Stable D → C w → D w → N a D → K' a w) (h : opV P ops C E i N a D) : wpOp P ops Q i K' a w := by
  unfold opV at h
  unfold wpOp
  split
  · rename_i ho; simp only [ho] at h; exact hN _ _ _ hD hw hDw h
  · rename_i o ho
    simp only [ho] at h
    split
    · rename_i hwa
      rw [if_pos hwa] at h
      refine .inl ?_
      unfold Oper.wp
      rcases hEi : E i with _ | _
      · rw [if_neg (by simp [hEi])] at h
        obtain ⟨v, h1, h2⟩ := h
        have h3 := h1 w hw
        unfold atG at h3
        generalize (execOp a.eval o).run P w = r at *
        cases r with
        | ok n w' =>
          cases n <;> simp only [uponG] at h3 <;> simp only [Oper.upon]
          case value u => obtain ⟨e1, e2⟩ := h3; rw [e1, e2]; exact hN _ _ _ hD hw hDw h2
          case skip => obtain ⟨e1, e2⟩ := h3; rw [e1, ← e2]; exact hN _ _ _ hD hw hDw h2
          case enter f args => obtain ⟨e1, hc⟩ := h3; rw [e1]; exact hc.mono fun e w'' ⟨he, hb⟩ => by subst he; exact hN _ _ _ hD (hC _ _ hw hb) (hD _ _ hDw hb) h2
        | halt x w' => simp only [uponG] at h3
      · rw [if_pos hEi] at h
        obtain ⟨R, hE, h⟩ := h
        have h3 := h.1 w hw hDw
        generalize (execOp a.eval o).run P w = r at *
        cases r with
        | ok n w' =>
          cases n <;> simp only [uponE] at h3 <;> simp only [Oper.upon]
          case value u => exact hN _ _ _ (hE u) h3.1 h3.2 (h.2 u ⟨_, h3⟩)
          case skip => exact hN _ _ _ (hE undef) h3.1 h3.2 (h.2 undef ⟨_, h3⟩)
          case enter f args =>
            obtain ⟨e1, hc⟩ := h3
            rw [e1]
            refine hc.mono ?_
            rintro e w'' ⟨v, he, hb, hr⟩
            subst he
            exact hN _ _ _ (hE v) hb hr (h.2 v ⟨_, hb, hr⟩)
        | halt x w' => simp only [uponE] at h3
    · rename_i hwa; rw [if_neg hwa] at h; exact hN _ _ _ hD hw hDw h

theorem anyV_any (hC : ∀ w w', C w → Below w.heap.size w w' → C w') {Q : Exit → Act → World → Prop} (hQ : ∀ a w, K a w → Q .normal a w) (f : Nat) : ∀ (done : Array Bool) (a : Act) (D : World → Prop) (w : World), Stable D → C w → D w →
    anyV P md ops C E K f done a D → wpAny P md ops Q f done a w := by
  induction f with
  | zero => intro done a D w _ hw hDw h; exact ⟨h.1, hQ _ _ (h.2 w hw hDw)⟩
  | succ f ih =>
    intro done a D w hD hw hDw h
    exact ⟨fun e => hQ _ _ (h.1 e w hw hDw), fun i hi => op_sound P ops C E hC hD hw hDw (fun a' D' w' h1 h2 h3 h4 => ih _ a' D' w' h1 h2 h3 h4) (h.2 i hi)⟩

def YieldsG (o : Oper) (v : Value) (a : Act) : Prop :=
  (Region.wanted o (yielded ops a.tmps) = true ∧ ∀ w, C w → atG P o a w v) ∨ (Region.wanted o (yielded ops a.tmps) = false ∧ v = undef)

theorem YieldsG.op {i : Nat} {o : Oper} {v : Value} {a : Act} {D : World → Prop} (hi : ops[i]? = some o) (hE : E i = false) (hy : YieldsG P ops C o v a) {N : Act → (World → Prop) → Prop} (h : N (a.put o.dst v) D) : opV P ops C E i N a D := by
  unfold opV
  simp only [hi, hE, Bool.false_eq_true, if_false]
  rcases hy with ⟨hw, hv⟩ | ⟨hw, rfl⟩
  · rw [if_pos hw]; exact ⟨v, hv, h⟩
  · rw [if_neg (by simp [hw])]; exact h

theorem yieldsG_of {i : Nat} {o : Oper} {a : Act} {D : World → Prop} {N : Act → (World → Prop) → Prop} (hi : ops[i]? = some o) (hE : E i = false) (h : opV P ops C E i N a D) : ∃ v, YieldsG P ops C o v a ∧ N (a.put o.dst v) D := by
  unfold opV at h
  simp only [hi, hE, Bool.false_eq_true, if_false] at h
  by_cases hw : Region.wanted o (yielded ops a.tmps) = true
  · rw [if_pos hw] at h
    obtain ⟨v, h1, h2⟩ := h
    exact ⟨v, .inl ⟨hw, h1⟩, h2⟩
  · rw [if_neg hw] at h
    exact ⟨undef, .inr ⟨by simpa using hw, rfl⟩, h⟩

theorem opV_put {j : Nat} {oi oj : Oper} {v : Value} (hj : ops[j]? = some oj) (hap : oi.apart ops oj = true) (hsi : ∀ cs b, oi.op ≠ .select cs b) (hsj : ∀ cs b, oj.op ≠ .select cs b)
    {N : Act → (World → Prop) → Prop} {a : Act} {D : World → Prop} (hy : YieldsG P ops C oi v a) (h : opV P ops C E j N (a.put oi.dst v) D) :
    opV P ops C E j (fun a' D' => YieldsG P ops C oi v a' ∧ N (a'.put oi.dst v) D') a D := by
  obtain ⟨h1, h2, h3⟩ := Oper.apart_spec hap
  have keep : ∀ u, YieldsG P ops C oi v (a.put oj.dst u) := fun u => by
    have e1 := execOp_put oi hsi a oj.dst u h3
    have e2 := wanted_put oi a oj.dst u h3
    unfold YieldsG atG at *
    rw [e1, e2]; exact hy
  unfold opV at *
  simp only [hj] at *
  rw [wanted_put oj a oi.dst v h1, execOp_put oj hsj a oi.dst v h1] at h
  have ep : ∀ u, (a.put oj.dst u).put oi.dst v = (a.put oi.dst v).put oj.dst u := fun u => (Act.put_comm a v u h2).symm
  by_cases hw : Region.wanted oj (yielded ops a.tmps) = true
  · rw [if_pos hw] at h ⊢
    rcases hE : E j with _ | _
    · simp only [hE, Bool.false_eq_true, if_false] at h ⊢
      obtain ⟨u, k1, k2⟩ := h
      refine ⟨u, fun w hg => ?_, keep _, by rw [ep]; exact k2⟩
      have := k1 w hg
      unfold atG at *
      rwa [execOp_put oj hsj a oi.dst v h1] at this
    · simp only [hE, if_true] at h ⊢
      obtain ⟨R, h0, h⟩ := h
      exact ⟨R, h0, h.1, fun u hu => ⟨keep _, by rw [ep]; exact h.2 u hu⟩⟩
  · rw [if_neg hw] at h ⊢
    exact ⟨keep _, by rw [ep]; exact h⟩

theorem anyV_first {i : Nat} {o : Oper} {v : Value} (hi : ops[i]? = some o) (hE : E i = false) (hsel : ∀ (j : Nat) (o : Oper) cs b, ops[j]? = some o → o.op ≠ .select cs b) (f : Nat) :
    ∀ (done : Array Bool) (a : Act) (D : World → Prop),
      (∀ j oj, ops[j]? = some oj → j ≠ i → done.getD j true = false → (∀ e ∈ oj.after, Region.binds md e = true → e.on ≠ i) → o.apart ops oj = true) →
      i ∈ Region.ready md ops done → YieldsG P ops C o v a →
      anyV P md ops C E K f (done.setIfInBounds i true) (a.put o.dst v) D → anyV P md ops C E K (f + 1) done a D := by
  induction f with
  | zero =>
    intro done a D _ hr hy H
    refine ⟨fun e => (by rw [e] at hr; cases hr), fun j hj => ?_⟩
    by_cases e : j = i
    · subst e; exact hy.op P ops C E hi hE H
    · have := ready_mono hj e
      rw [H.1] at this; cases this
  | succ f ih =>
    intro done a D hfree hr hy H
    refine ⟨fun e => (by rw [e] at hr; cases hr), fun j hj => ?_⟩
    by_cases e : j = i
    · subst e; exact hy.op P ops C E hi hE H
    · obtain ⟨hjun, oj, hoj, hall⟩ := mem_ready.1 hj
      have hun := (mem_ready.1 hr).1
      have hno : ∀ e ∈ oj.after, Region.binds md e = true → e.on ≠ i := fun e he hb h => by
        have := hall e he hb
        rw [h, getD_both hun] at this
        cases this
      refine opV_mono P ops C E (fun a' D' h3 => ih (done.setIfInBounds j true) a' D' (fun k' ok hk hki hk' hnk => hfree k' ok hk hki ?_ hnk) (ready_mono hr (Ne.symm e)) h3.1 ?_)
        (opV_put P ops C E hoj (hfree j oj hoj e hjun hno) (fun cs b => hsel i o cs b hi) (fun cs b => hsel j oj cs b hoj) hy (H.2 j (ready_mono hj e)))
      · by_cases e' : j = k'
        · subst e'; exact hjun
        · rw [getD_set_ne true e'] at hk'; exact hk'
      · rw [Array.setIfInBounds_comm _ _ e]; exact h3.2

def walkV : Plan → Act → (World → Prop) → Prop
  | .fin, a, D => ∀ w, C w → D w → K a w
  | .q k p, a, D => opV P ops C E k (walkV p) a D
  | .s1 k p, a, D => opV P ops C E k (walkV p) a D
  | .s2 k1 p1 k2 p2, a, D => opV P ops C E k1 (walkV p1) a D ∧ opV P ops C E k2 (walkV p2) a D
  | .s3 k1 p1 k2 p2 k3 p3, a, D => opV P ops C E k1 (walkV p1) a D ∧ opV P ops C E k2 (walkV p2) a D ∧ opV P ops C E k3 (walkV p3) a D

theorem anyV_walk (hsel : Region.noSelect ops = true) (sp : List Nat) (hsp : ∀ k, sp.contains k = false → E k = false) (p : Plan) :
    ∀ (f : Nat) (done : Array Bool) (a : Act) (D : World → Prop), planB md ops sp f p done = true → walkV P ops C E K p a D → anyV P md ops C E K f done a D := by
  induction p with
  | fin =>
    intro f done a D hB h
    cases f with
    | zero => exact ⟨by simpa [planB] using hB, h⟩
    | succ f =>
      have e : Region.ready md ops done = [] := by simpa [planB] using hB
      exact ⟨fun _ => h, fun i hi => by rw [e] at hi; cases hi⟩
  | q k p ih =>
    intro f done a D hB h
    cases f with
    | zero => simp [planB] at hB
    | succ f =>
      simp only [planB, Bool.and_eq_true, decide_eq_true_eq, Bool.not_eq_true'] at hB
      obtain ⟨hc, ⟨hr, hfree⟩, hk, hB'⟩ := hB
      have hE := hsp k hc
      have hi : ops[k]? = some ops[k] := Array.getElem?_eq_getElem hk
      obtain ⟨v, hy, hK⟩ := yieldsG_of P ops C E hi hE h
      exact anyV_first P md ops C E K hi hE (Region.noSelect_spec hsel) f done a D (Region.free_spec hi hfree) (by simpa using hr) hy (ih _ _ _ _ hB' hK)
  | s1 k p ih =>
    intro f done a D hB h
    cases f with
    | zero => simp [planB] at hB
    | succ f =>
      simp only [planB, Bool.and_eq_true, decide_eq_true_eq] at hB
      obtain ⟨hr, hB'⟩ := hB
      refine ⟨fun e => (by rw [hr] at e; cases e), fun i hi => ?_⟩
      rw [hr] at hi
      obtain rfl : i = k := by simpa using hi
      exact opV_mono P ops C E (fun a' D' h' => ih _ _ _ _ hB' h') h
  | s2 k1 p1 k2 p2 ih1 ih2 =>
    intro f done a D hB h
    cases f with
    | zero => simp [planB] at hB
    | succ f =>
      simp only [planB, Bool.and_eq_true, decide_eq_true_eq] at hB
      obtain ⟨hr, hB1, hB2⟩ := hB
      refine ⟨fun e => (by rw [hr] at e; cases e), fun i hi => ?_⟩
      rw [hr] at hi
      simp only [List.mem_cons, List.not_mem_nil, or_false] at hi
      rcases hi with rfl | rfl
      · exact opV_mono P ops C E (fun a' D' h' => ih1 _ _ _ _ hB1 h') h.1
      · exact opV_mono P ops C E (fun a' D' h' => ih2 _ _ _ _ hB2 h') h.2
  | s3 k1 p1 k2 p2 k3 p3 ih1 ih2 ih3 =>
    intro f done a D hB h
    cases f with
    | zero => simp [planB] at hB
    | succ f =>
      simp only [planB, Bool.and_eq_true, decide_eq_true_eq] at hB
      obtain ⟨hr, hB1, hB2, hB3⟩ := hB
      refine ⟨fun e => (by rw [hr] at e; cases e), fun i hi => ?_⟩
      rw [hr] at hi
      simp only [List.mem_cons, List.not_mem_nil, or_false] at hi
      rcases hi with rfl | rfl | rfl
      · exact opV_mono P ops C E (fun a' D' h' => ih1 _ _ _ _ hB1 h') h.1
      · exact opV_mono P ops C E (fun a' D' h' => ih2 _ _ _ _ hB2 h') h.2.1
      · exact opV_mono P ops C E (fun a' D' h' => ih3 _ _ _ _ hB3 h') h.2.2
end

/-- a region by parts of memory: w0, L what the class holds; L1 what stands at the start beside it -/
theorem region_P {P : Program} {id : Nat} {Q : Exit → Act → World → Prop} {a : Act} {w w0 : World} {l : List Oper} (L : List Part) (L1 : List Part) (sp : List Nat) (p : Plan) (H : Holds w0 w L1) (hL : L.Sublist L1)
    (hm : P.follows .mixedOrders = true)
    (hsel : Region.noSelect l.toArray = true) (hB : planB .any l.toArray sp l.toArray.size p (Array.replicate l.toArray.size false) = true) 
    (h : walkV P l.toArray (fun wx => Holds w0 wx L) (fun k => sp.contains k) (fun a' w' => Q .normal a' w') p a (fun wx => Holds w0 wx L1)) : (Code.region id l.toArray true).wp P Q a w := by
  refine wp_region_any hm ?_
  exact anyV_any (Q := Q) P .any l.toArray (fun wx => Holds w0 wx L) (fun k => sp.contains k) (fun a' w' => Q .normal a' w') (fun _ _ h hb => h.call hb) (fun _ _ h => h) _ _ _ _ w.drew (fun _ _ h hb => h.call hb) (H.drew.sub hL) H.drew
    (anyV_walk P .any l.toArray (fun wx => Holds w0 wx L) (fun k => sp.contains k) (fun a' w' => Q .normal a' w') hsel sp (fun _ h => h) p _ _ a _ hB h)

section
variable {P : Program} {ops : Array Oper} {C : World → Prop} {E : Nat → Bool} {k : Nat} {a : Act} {D : World → Prop} {N : Act → (World → Prop) → Prop}
theorem v_q {o : Oper} (ho : ops[k]? = some o) (hE : E k = false) (hw : Region.wanted o (yielded ops a.tmps) = true) {v : Value} (h1 : ∀ w, C w → atG P o a w v) (h2 : N (a.put o.dst v) D) : opV P ops C E k N a D := by
  unfold opV
  simp only [ho, hE, Bool.false_eq_true, if_false]
  rw [if_pos hw]
  exact ⟨v, h1, h2⟩
theorem v_s {o : Oper} (R : Value → World → Prop) (hR : ∀ v, Stable (R v)) (ho : ops[k]? = some o) (hE : E k = true) (hw : Region.wanted o (yielded ops a.tmps) = true) (h1 : ∀ w, C w → D w → uponE P C R w ((execOp a.eval o).run P w))
    (h2 : ∀ v, (∃ w, C w ∧ R v w) → N (a.put o.dst v) (R v)) : opV P ops C E k N a D := by
  unfold opV
  simp only [ho, hE, if_true]
  rw [if_pos hw]
  exact ⟨R, hR, h1, h2⟩
end
/-- a list of cells laid for an append -/
def rBuild (w0 : World) (cells : Array Value) (t : TypeId) (k : Nat) (L : List Part) : Value → World → Prop := fun v w => ∃ g, v = .slice (some ⟨g, 0, none⟩) k k ∧ Holds w0 w (pBlk g cells t :: L)
theorem rBuild_stable {w0 : World} {cells : Array Value} {t : TypeId} {k : Nat} {L : List Part} (v : Value) : Stable (rBuild w0 cells t k L v) := fun _ _ ⟨g, e, h⟩ hb => ⟨g, e, h.call hb⟩
/-- a new block -/
def rBox (w0 : World) (cells : Array Value) (t : TypeId) (L : List Part) : Value → World → Prop := fun v w => ∃ g, v = .pointer (some ⟨g, 0, none⟩) ∧ Holds w0 w (pBlk g cells t :: L)
theorem rBox_stable {w0 : World} {cells : Array Value} {t : TypeId} {L : List Part} (v : Value) : Stable (rBox w0 cells t L v) := fun _ _ ⟨g, e, h⟩ hb => ⟨g, e, h.call hb⟩
/-- a relation of one value that is told by parts -/
def rHolds (w0 : World) (L : Value → List Part) : Value → World → Prop := fun v w => Holds w0 w (L v)
theorem rHolds_stable {w0 : World} {L : Value → List Part} (v : Value) : Stable (rHolds w0 L v) := fun _ _ h hb => h.call hb
/-- what is told of a pointer's block, of a slice's block -/
def rPtr (w0 : World) (cells : Array Value) (t : TypeId) (L : List Part) : Value → World → Prop
  | .pointer (some ⟨g, 0, none⟩) => fun w => Holds w0 w (pBlk g cells t :: L)
  | _ => fun _ => False
def rSl (w0 : World) (cells : Array Value) (t : TypeId) (L : List Part) : Value → World → Prop
  | .slice (some ⟨g, 0, none⟩) _ _ => fun w => Holds w0 w (pBlk g cells t :: L)
  | _ => fun _ => False
theorem rPtr_stable {w0 : World} {cells : Array Value} {t : TypeId} {L : List Part} (v : Value) : Stable (rPtr w0 cells t L v) := by
  unfold rPtr
  split
  · exact fun _ _ h hb => h.call hb
  · exact fun _ _ h _ => h
theorem rSl_stable {w0 : World} {cells : Array Value} {t : TypeId} {L : List Part} (v : Value) : Stable (rSl w0 cells t L v) := by
  unfold rSl
  split
  · exact fun _ _ h hb => h.call hb
  · exact fun _ _ h _ => h
section
variable {P : Program} {ops : Array Oper} {E : Nat → Bool} {k : Nat} {a : Act} {N : Act → (World → Prop) → Prop} {w0 : World} {L L1 : List Part}
/-- a new block -/
theorem v_box {o : Oper} (cells : Array Value) (t : TypeId) (ho : ops[k]? = some o) (hE : E k = true) (hw : Region.wanted o (yielded ops a.tmps) = true)
    (h1 : ∀ w, Holds w0 w L → Holds w0 w L1 → (execOp a.eval o).run P w = .ok (.value (.pointer (some ⟨w.heap.size, 0, none⟩))) (w.alloc (.cells cells t)))
    (h2 : ∀ g, N (a.put o.dst (.pointer (some ⟨g, 0, none⟩))) (fun wx => Holds w0 wx (pBlk g cells t :: L1))) : opV P ops (fun wx => Holds w0 wx L) E k N a (fun wx => Holds w0 wx L1) := by
  refine v_s (rPtr w0 cells t L1) rPtr_stable ho hE hw (fun w hx hD => ?_) fun v hv => ?_
  · rw [h1 w hx hD]
    exact ⟨hx.alloc _, hD.blk _ _ _ rfl⟩
  · obtain ⟨w, _, hr⟩ := hv
    unfold rPtr at hr
    split at hr
    · exact h2 _
    · exact hr.elim
/-- a list of cells laid for an append -/
theorem v_build {o : Oper} (cells : Array Value) (t : TypeId) (n : Nat) (ho : ops[k]? = some o) (hE : E k = true) (hw : Region.wanted o (yielded ops a.tmps) = true)
    (h1 : ∀ w, Holds w0 w L → Holds w0 w L1 → (execOp a.eval o).run P w = .ok (.value (.slice (some ⟨w.heap.size, 0, none⟩) n n)) (w.alloc (.cells cells t)))
    (h2 : ∀ g, N (a.put o.dst (.slice (some ⟨g, 0, none⟩) n n)) (fun wx => Holds w0 wx (pBlk g cells t :: L1))) : opV P ops (fun wx => Holds w0 wx L) E k N a (fun wx => Holds w0 wx L1) := by
  refine v_s (fun v w => ∃ g, v = .slice (some ⟨g, 0, none⟩) n n ∧ rSl w0 cells t L1 v w) (fun v _ _ ⟨g, e, h⟩ hb => ⟨g, e, rSl_stable v _ _ h hb⟩) ho hE hw (fun w hx hD => ?_) fun v hv => ?_
  · rw [h1 w hx hD]
    exact ⟨hx.alloc _, _, rfl, hD.blk _ _ _ rfl⟩
  · obtain ⟨w, _, g, rfl, hr⟩ := hv
    have := h2 g
    refine cast (congrArg (N _) ?_) this
    funext wx
    refine propext ⟨fun h => ⟨g, rfl, h⟩, fun ⟨_, _, h⟩ => h⟩
end
end Go.Proofs.Ytjhpkibeddnbfaa.Rd

namespace Go.Proofs.Ytjhpkibeddnbfaa
open Go.RowKit

/-- pairs by codes -/
def bF (p q : Nat → Nat) (z : Nat) : Nat := 16 * p (z / 16) + q (z % 16)
theorem bF_1 {p q : Nat → Nat} {z : Nat} (h : q (z % 16) < 16) : bF p q z / 16 = p (z / 16) := by unfold bF; omega
theorem bF_2 {p q : Nat → Nat} {z : Nat} (h : q (z % 16) < 16) : bF p q z % 16 = q (z % 16) := by unfold bF; omega
theorem PermN.lt16 {p : Nat → Nat} {m : Nat} (h : PermN p m) {i : Nat} (hi : i < 16) : p i < 16 := by
  obtain ⟨h1, h2, h3, h4⟩ := h
  rcases Nat.lt_or_ge i m with c | c
  · have := h3.1 i c; omega
  · rw [h4 i c hi]; omega
theorem bF_lt {p q : Nat → Nat} {m n : Nat} (hp : PermN p m) (hq : PermN q n) (z : Nat) (hz : z < 256) : bF p q z < 256 := by
  have h1 := hp.lt16 (i := z / 16) (by omega)
  have h2 := hq.lt16 (i := z % 16) (by omega)
  unfold bF; omega
def dec (l : List Nat) : List (Nat × Nat) := l.map fun z => (z / 16, z % 16)
theorem dec_length (l : List Nat) : (dec l).length = l.length := by unfold dec; simp
theorem dec_snoc (l : List Nat) (z : Nat) : dec (l ++ [z]) = dec l ++ [(z / 16, z % 16)] := by unfold dec; simp
theorem dec_at {l : List Nat} {k : Nat} (hk : k < l.length) : (dec l)[k]'(by rw [dec_length]; exact hk) = (l[k] / 16, l[k] % 16) := by unfold dec; simp
theorem badd_mem {n : Nat} {S : List Nat × (Nat → Bool)} (h : BInv n S) (y : Nat) : y ∈ (badd S y).1 := by
  unfold badd
  by_cases c : S.2 y = true
  · rw [if_pos c]; exact (h.mem y).1 c
  · rw [if_neg c]; simp
/-- what has been found is closed -/
theorem bfs_clos {p q : Nat → Nat} {n K z : Nat} (hp : ∀ x, x < n → p x < n) (hq : ∀ x, x < n → q x < n) (hz : z < n) (hK : n ≤ K) {y : Nat} (hy : y ∈ (bfs p q z K).1) : p y ∈ (bfs p q z K).1 ∧ q y ∈ (bfs p q z K).1 := by
  obtain ⟨k, hk⟩ := List.getElem?_of_mem hy
  have hkl := (List.getElem?_eq_some_iff.1 hk).1
  have hle := (bfs_inv hp hq hz K).length_le
  have hlt : k < (bfs p q z k).1.length := by
    rcases Nat.lt_or_ge k (bfs p q z k).1.length with c | c
    · exact c
    · have := bfs_stop c (j := K) (by omega)
      rw [this] at hkl
      omega
  have hpre := bfs_pre' p q z (show k ≤ K by omega)
  have hky : (bfs p q z k).1[k] = y := by
    obtain ⟨t, ht⟩ := hpre
    rw [← ht, List.getElem?_append_left hlt, List.getElem?_eq_getElem hlt] at hk
    exact Option.some.inj hk
  have hI := bfs_inv hp hq hz k
  have hn := bfs_next hlt
  rw [hky] at hn
  have hy' : y < n := (bfs_inv hp hq hz K).lt y hy
  have e : bst p q (bfs p q z k) y 2 = badd (badd (bfs p q z k) (p y)) (q y) := rfl
  rw [e] at hn
  have hpre2 := bfs_pre' p q z (show k + 1 ≤ K by omega)
  refine ⟨hpre2.subset ?_, hpre2.subset ?_⟩
  · rw [hn]; exact (badd_le _ _).subset (badd_mem hI _)
  · rw [hn]; exact badd_mem (hI.add (hp y hy')) _
/-- the value of a code; the map of a set of codes -/
def encP (z : Nat) : Value := .agg #[.int .u8 ((z / 16 : Nat) : Int), .int .u8 ((z % 16 : Nat) : Int)]
theorem encP_inj {y z : Nat} (h : encP y = encP z) : y = z := by
  unfold encP at h
  injection h with h
  have h' := congrArg Array.toList h
  simp at h'
  omega
open Classical in
noncomputable def Mp (s : Nat → Bool) : Value → Option Value := fun v => if ∃ z, v = encP z ∧ s z = true then some (.bool true) else none
theorem Mp_at (s : Nat → Bool) (z : Nat) : Mp s (encP z) = if s z = true then some (.bool true) else none := by
  unfold Mp
  by_cases h : s z = true
  · rw [if_pos ⟨z, rfl, h⟩, if_pos h]
  · rw [if_neg (fun ⟨y, e, hy⟩ => h (by rw [encP_inj e]; exact hy)), if_neg h]
theorem Mp_put (s : Nat → Bool) (z : Nat) : mput (Mp s) (encP z) (.bool true) = Mp (mset s z) := by
  funext v
  unfold mput Mp mset
  by_cases h : v = encP z
  · rw [if_pos h, if_pos ⟨z, h, by simp⟩]
  · rw [if_neg h]
    by_cases c : ∃ y, v = encP y ∧ s y = true
    · rw [if_pos c]
      obtain ⟨y, e, hy⟩ := c
      rw [if_pos ⟨y, e, by simp [hy]⟩]
    · rw [if_neg c, if_neg]
      rintro ⟨y, e, hy⟩
      by_cases d : y = z
      · subst d; exact h e
      · exact c ⟨y, e, by simpa [d] using hy⟩
theorem Mp_nil : (fun _ => none : Value → Option Value) = Mp fun _ => false := by funext v; unfold Mp; simp
theorem isK_code {z : Nat} (hz : z < 256) : IsK Try.prog 68 (encP z) := isK_pair _ _ (by omega) (by omega)
theorem zeroBool (w : World) : (zeroValue 4).run Try.prog w = .ok (.bool false) w := by
  have h : (Try.prog.info? 4).map (·.zero) = some (some (.bool false)) := by kernel_rfl
  rcases hi : Try.prog.info? 4 with _ | i
  · rw [hi] at h; cases h
  · rw [hi] at h
    have hz : i.zero = some (.bool false) := by simpa using h
    simp [zeroValue, typeInfo, hi, hz]
theorem look_code {w0 w : World} {L : List Part} (H : Holds w0 w L) (i : Nat) {G : Nat} {s : Nat → Bool} (hi : L[i]? = some (pMap Try.prog 68 G (Mp s))) {z : Nat} (hz : z < 256) :
    (Instr.lookup 114 (.map (some G)) (encP z) false).run Try.prog w = .ok (.bool (s z)) w := by
  rw [run_mlook keyedPr Try.underlying114 zeroBool (H.at i hi) (isK_code hz) false, Mp_at]
  rcases s z with _ | _ <;> rfl
theorem infoArr2 : (Try.prog.info? 68).map (·.size) = some 2 := by kernel_rfl
theorem idx_two (a b c d : Value) (w : World) (hs : a.oneCell' = true ∧ b.oneCell' = true ∧ c.oneCell' = true ∧ d.oneCell' = true) :
    (Instr.index 116 (.agg #[a, b, c, d]) (.int .i64 0)).run Try.prog w = .ok (.agg #[a, b]) w ∧ (Instr.index 116 (.agg #[a, b, c, d]) (.int .i64 1)).run Try.prog w = .ok (.agg #[c, d]) w := by
  rcases hi : Try.prog.info? 68 with _ | i
  · have := infoArr2; rw [hi] at this; cases this
  · have hsz : i.size = 2 := by have := infoArr2; rw [hi] at this; simpa using this
    have hag : (isAgg 68).run Try.prog w = .ok true w := by simp [isAgg, run_underlying Try.underlying68]
    constructor
    · simp [Instr.index, run_underlying Try.underlying116, asIntOf, go_sem, sizeOf, typeInfo, hi, hsz, part, hag]
    · simp [Instr.index, run_underlying Try.underlying116, asIntOf, go_sem, sizeOf, typeInfo, hi, hsz, part, hag]

set_option maxRecDepth 100000 in
set_option maxHeartbeats 2000000 in
theorem pairsFrom_any (f g f' g' : Nat → Nat) (m n : Nat) (hd : DesN f g m) (he : DesN f' g' n) (x y : Nat) (hx : x < 16) (hy : y < 16) (w : World) :
    Calls Try.prog 52 #[.agg (dv m f g), .agg (dv n f' g'), .agg #[.int .u8 x, .int .u8 y]] w fun e w' => ∃ v, e = .returned v ∧ Below w.heap.size w w' ∧
      w'.ownsRow w.heap.size 68 2 v (bfs (bF f f') (bF g g') (16 * x + y) 256).1.length (pairB (dec (bfs (bF f f') (bF g g') (16 * x + y) 256).1)) := by
  have hm := hd.le
  have hB := fun z hz => bF_lt hd.black he.black z hz
  have hW := fun z hz => bF_lt hd.white he.white z hz
  have C2 := hide fun (p q : Nat → Nat) (a b : Nat) (ha : a < 16) (hb : b < 16) w => pairAfter_any p q a b ha hb w
  have hz0 : 16 * x + y < 256 := by omega
  obtain ⟨F, FI, F0, FN, FE⟩ : ∃ (F : Nat → List Nat × (Nat → Bool)), Hid (∀ k, BInv 256 (F k)) ∧ Hid (F 0 = ([16 * x + y], mset (fun _ => false) (16 * x + y))) ∧ Hid (∀ k (hk : k < (F k).1.length), F (k + 1) = bst (bF f f') (bF g g') (F k) ((F k).1[k]) 2) ∧
      Hid (∀ k, k ≤ 256 → (F k).1.length ≤ k → (bfs (bF f f') (bF g g') (16 * x + y) 256).1 = (F k).1) :=
    ⟨bfs (bF f f') (bF g g') (16 * x + y), hide fun k => bfs_inv hB hW hz0 k, hide (bfs_start _ _ _), hide fun k hk => bfs_next hk, hide fun k h1 h2 => by
      generalize 256 = K at *
      rw [bfs_stop h2 h1]⟩
  obtain ⟨R, hR⟩ : ∃ R, R = (bfs (bF f f') (bF g g') (16 * x + y) 256).1 := ⟨_, rfl⟩
  rw [← hR] at FE ⊢
  clear hR
  have HBW := hide (And.intro hB hW); clear hB hW
  have HP := hide (And.intro (And.intro hd.black hd.white) (And.intro he.black he.white)); clear hd he
  have mk := fun w => run_mk (P := Try.prog) 114 w
  have e0 : encP (16 * x + y) = .agg #[.int .u8 (x : Int), .int .u8 (y : Int)] := by
    unfold encP
    rw [show (16 * x + y) / 16 = x by omega, show (16 * x + y) % 16 = y by omega]
  have HE0 := hide e0; clear e0
  go_enter Try.func52, Try.ntmps52
  have HH0 := (((Holds.start w).blk (dv m f g) 30 w.heap.size rfl).blk (dv n f' g') 30 (w.heap.size + 1) (by simp)).blk #[.int .u8 x, .int .u8 y] 68 (w.heap.size + 1 + 1) (by simp)
  have HH1 := HH0.rowNew #[.int .u8 x, .int .u8 y] 68 2 1 (w.heap.size + 1 + 1 + 1) (by simp) rfl (by unfold maxLen; omega)
  have HH2 := HH1.newMap Try.prog 68 (w.heap.size + 1 + 1 + 1 + 1) (by simp)
  clear HH0 HH1
  go_wp2_with (refine minsH keyedPr rfl _ _ _ rfl Try.underlying114 HH2 0 rfl rfl rfl rfl ?_ ?_)
  · have := isK_code (z := 16 * x + y) (by omega)
    rw [HE0.out] at this
    exact this
  intro w1 HH3 hs1
  rw [← HE0.out, Mp_nil, Mp_put] at HH3
  have hd0 : dec [16 * x + y] = [(x, y)] := by
    unfold dec
    simp only [List.map_cons, List.map_nil]
    rw [show (16 * x + y) / 16 = x by omega, show (16 * x + y) % 16 = y by omega]
  have HD0 := hide hd0; clear hd0
  have HH4 := HH3.sub (.cons_cons _ (.cons_cons _ (.cons _ (.refl _))))
  clear mk HH2 HH3 hs1
  go_wp2
  go_loopw [7, 9] (fun u t wr => ∃ k : Nat, k ≤ (F k).1.length ∧ t = .int .i64 k ∧ Holds w wr [pMap Try.prog 68 (w.heap.size + 1 + 1 + 1 + 1) (Mp (F k).2), pPairs u (dec (F k).1), pBlk (w.heap.size + 1) (dv n f' g') 30, pBlk w.heap.size (dv m f g) 30]) (fun _ t _ => 257 - (intOf t).toNat)
  case atStart => exact ⟨0, by omega, rfl, by rw [F0.out, HD0.out]; exact HH4⟩
  case round =>
    clear HH4
    obtain ⟨k, hk, rfl, hH⟩ := hrel
    have hI := FI.out k
    have hle := hI.length_le
    by_cases hkl : k < (F k).1.length
    · obtain ⟨g0, c0, rfl, _, _, _⟩ := hH.pairs 1 rfl (k := k) (by rw [dec_length]; exact hkl)
      have hnx := FN.out k hkl
      have hX := hI.lt _ (List.getElem_mem hkl)
      have hda := dec_at hkl
      obtain ⟨a, hab1⟩ : ∃ a, a = (F k).1[k] / 16 := ⟨_, rfl⟩
      obtain ⟨b, hab2⟩ : ∃ b, b = (F k).1[k] % 16 := ⟨_, rfl⟩
      rw [← hab1, ← hab2] at hda
      have ha16 : a < 16 := by omega
      have hb16 : b < 16 := by omega
      rw [dec_length] at hH ⊢
      generalize hS : F k = S at *
      have hat : ∀ wx, Holds w wx [pMap Try.prog 68 (w.heap.size + 1 + 1 + 1 + 1) (Mp (S).2), pPairs (.slice (some ⟨g0, 0, none⟩) S.1.length c0) (dec (S).1), pBlk (w.heap.size + 1) (dv n f' g') 30, pBlk w.heap.size (dv m f g) 30] → wx.cell? ⟨g0, k * 2, none⟩ = some (.int .u8 (a : Int)) ∧ wx.cell? ⟨g0, k * 2 + 1, none⟩ = some (.int .u8 (b : Int)) := by
        intro wx hx
        obtain ⟨gq, cq, eq, _, q1, q2⟩ := hx.pairs 1 rfl (k := k) (by rw [dec_length]; exact hkl)
        injection eq with eq
        injection eq with eq
        injection eq with eq
        subst eq
        rw [hda] at q1 q2
        exact ⟨q1, q2⟩
      clear hda
      generalize S.1[k] = X at *
      have HAT := hide hat; clear hat
      have HS := hide hS; clear hS
      have HNX := hide hnx; clear hnx
      have HI := hide hI; clear hI
      have hfa := HP.out.1.1.lt16 ha16
      have hga := HP.out.1.2.lt16 ha16
      have hfb := HP.out.2.1.lt16 hb16
      have hgb := HP.out.2.2.lt16 hb16
      have hB := HBW.out.1 X hX
      have hW := HBW.out.2 X hX
      have vB : bF f f' X / 16 = f a ∧ bF f f' X % 16 = f' b := by rw [hab1, hab2]; rw [hab2] at hfb; exact ⟨bF_1 hfb, bF_2 hfb⟩
      have vW : bF g g' X / 16 = g a ∧ bF g g' X % 16 = g' b := by rw [hab1, hab2]; rw [hab2] at hgb; exact ⟨bF_1 hgb, bF_2 hgb⟩
      have eB : encP (bF f f' X) = .agg #[.int .u8 (f a : Nat), .int .u8 (f' b : Nat)] := by unfold encP; rw [vB.1, vB.2]
      have eW : encP (bF g g' X) = .agg #[.int .u8 (g a : Nat), .int .u8 (g' b : Nat)] := by unfold encP; rw [vW.1, vW.2]
      have dB : ∀ l : List Nat, dec (l ++ [bF f f' X]) = dec l ++ [(f a, f' b)] := fun l => by rw [dec_snoc, vB.1, vB.2]
      have dW : ∀ l : List Nat, dec (l ++ [bF g g' X]) = dec l ++ [(g a, g' b)] := fun l => by rw [dec_snoc, vW.1, vW.2]
      have HAB := hide (And.intro hab1 hab2); clear hab1 hab2 vB vW
      have EE := hide (And.intro (And.intro eB eW) (And.intro dB dW)); clear eB eW dB dW
      have HBX := hide (And.intro hB hW); clear hB hW
      go_wp2
      refine Rd.region_P (w0 := w) [pMap Try.prog 68 (w.heap.size + 1 + 1 + 1 + 1) (Mp (S).2), pPairs (.slice (some ⟨g0, 0, none⟩) S.1.length c0) (dec (S).1), pBlk (w.heap.size + 1) (dv n f' g') 30, pBlk w.heap.size (dv m f g) 30] [pMap Try.prog 68 (w.heap.size + 1 + 1 + 1 + 1) (Mp (S).2), pPairs (.slice (some ⟨g0, 0, none⟩) S.1.length c0) (dec (S).1), pBlk (w.heap.size + 1) (dv n f' g') 30, pBlk w.heap.size (dv m f g) 30] [9, 10] (.q 0 <| .q 1 <| .q 2 <| .q 3 <| .q 4 <| .q 5 <| .q 6 <| .q 7 <| .q 8 <| .s1 9 <| .s1 10 .fin) hH (.refl _) (by kernel_rfl) (by kernel_rfl) (by kernel_rfl) ?_
      iterate 8
        apply Rd.v_q
        · simp only [List.getElem?_toArray, List.getElem?_cons_zero, List.getElem?_cons_succ]; exact rfl
        · rfl
        · go_simp
        · intro wx hx
          have q1 := (HAT.out wx hx).1
          have q2 := (HAT.out wx hx).2
          have c3 := hx.cells 3 rfl
          have c4 := hx.cells 2 rfl
          unfold atG
          go_simp
          simp only [uponG]
          exact ⟨by trivial, rfl⟩
      iterate 1
        apply Rd.v_q
        · simp only [List.getElem?_toArray, List.getElem?_cons_zero, List.getElem?_cons_succ]; exact rfl
        · rfl
        · go_simp
        · intro wx hx
          have q1 := (HAT.out wx hx).1
          have q2 := (HAT.out wx hx).2
          have c3 := hx.cells 3 rfl
          have c4 := hx.cells 2 rfl
          unfold atG
          go_simp
          simp only [uponG]
          exact ⟨by trivial, C2.out f f' a b (by omega) (by omega) wx⟩
      refine Rd.v_box #[.int .u8 0, .int .u8 0] 68 (by simp only [List.getElem?_toArray, List.getElem?_cons_zero, List.getElem?_cons_succ]; exact rfl) rfl (by go_simp) (fun wx hx hD => by go_simp) fun gq => ?_
      refine Rd.v_s (Rd.rHolds w fun _ => pBlk gq #[.int .u8 (f a : Nat), .int .u8 (f' b : Nat)] 68 :: [pMap Try.prog 68 (w.heap.size + 1 + 1 + 1 + 1) (Mp (S).2), pPairs (.slice (some ⟨g0, 0, none⟩) S.1.length c0) (dec (S).1), pBlk (w.heap.size + 1) (dv n f' g') 30, pBlk w.heap.size (dv m f g) 30]) Rd.rHolds_stable (by simp only [List.getElem?_toArray, List.getElem?_cons_zero, List.getElem?_cons_succ]; exact rfl) rfl (by go_simp) (fun wx hx hD => ?_) ?_
      · skip
        have c0 := hD.cell 0 (j := 0) rfl rfl
        have fr0 := hD.frozen 0 rfl 0
        have c1 := hD.cell 0 (j := 1) rfl rfl
        have fr1 := hD.frozen 0 rfl 1
        go_simp
        simp only [Rd.uponE]
        have h2 := (hD.set 0 rfl 0 (.int .u8 (f a : Nat))).set 0 rfl 1 (.int .u8 (f' b : Nat))
        exact ⟨h2.tail, h2⟩
      rintro vn -
      rintro w2 - hx2
      clear hH
      generalize gq = G6 at *
      go_wp2
      refine Rd.region_P (w0 := w) (pBlk G6 #[.int .u8 (f a : Nat), .int .u8 (f' b : Nat)] 68 :: [pMap Try.prog 68 (w.heap.size + 1 + 1 + 1 + 1) (Mp (S).2), pPairs (.slice (some ⟨g0, 0, none⟩) S.1.length c0) (dec (S).1), pBlk (w.heap.size + 1) (dv n f' g') 30, pBlk w.heap.size (dv m f g) 30]) (pBlk G6 #[.int .u8 (f a : Nat), .int .u8 (f' b : Nat)] 68 :: [pMap Try.prog 68 (w.heap.size + 1 + 1 + 1 + 1) (Mp (S).2), pPairs (.slice (some ⟨g0, 0, none⟩) S.1.length c0) (dec (S).1), pBlk (w.heap.size + 1) (dv n f' g') 30, pBlk w.heap.size (dv m f g) 30]) [9, 10] (.q 0 <| .q 1 <| .q 2 <| .q 3 <| .q 4 <| .q 5 <| .q 6 <| .q 7 <| .q 8 <| .s1 9 <| .s1 10 .fin) hx2 (.refl _) (by kernel_rfl) (by kernel_rfl) (by kernel_rfl) ?_
      iterate 8
        apply Rd.v_q
        · simp only [List.getElem?_toArray, List.getElem?_cons_zero, List.getElem?_cons_succ]; exact rfl
        · rfl
        · go_simp
        · intro wx hx
          have q1 := (HAT.out wx hx.tail).1
          have q2 := (HAT.out wx hx.tail).2
          have c3 := hx.cells 4 rfl
          have c4 := hx.cells 3 rfl
          unfold atG
          go_simp
          simp only [uponG]
          exact ⟨by trivial, rfl⟩
      iterate 1
        apply Rd.v_q
        · simp only [List.getElem?_toArray, List.getElem?_cons_zero, List.getElem?_cons_succ]; exact rfl
        · rfl
        · go_simp
        · intro wx hx
          have q1 := (HAT.out wx hx.tail).1
          have q2 := (HAT.out wx hx.tail).2
          have c3 := hx.cells 4 rfl
          have c4 := hx.cells 3 rfl
          unfold atG
          go_simp
          simp only [uponG]
          exact ⟨by trivial, C2.out g g' a b (by omega) (by omega) wx⟩
      refine Rd.v_box #[.int .u8 0, .int .u8 0] 68 (by simp only [List.getElem?_toArray, List.getElem?_cons_zero, List.getElem?_cons_succ]; exact rfl) rfl (by go_simp) (fun wx hx hD => by go_simp) fun gq => ?_
      refine Rd.v_s (Rd.rHolds w fun _ => pBlk gq #[.int .u8 (g a : Nat), .int .u8 (g' b : Nat)] 68 :: (pBlk G6 #[.int .u8 (f a : Nat), .int .u8 (f' b : Nat)] 68 :: [pMap Try.prog 68 (w.heap.size + 1 + 1 + 1 + 1) (Mp (S).2), pPairs (.slice (some ⟨g0, 0, none⟩) S.1.length c0) (dec (S).1), pBlk (w.heap.size + 1) (dv n f' g') 30, pBlk w.heap.size (dv m f g) 30])) Rd.rHolds_stable (by simp only [List.getElem?_toArray, List.getElem?_cons_zero, List.getElem?_cons_succ]; exact rfl) rfl (by go_simp) (fun wx hx hD => ?_) ?_
      · skip
        have c0 := hD.cell 0 (j := 0) rfl rfl
        have fr0 := hD.frozen 0 rfl 0
        have c1 := hD.cell 0 (j := 1) rfl rfl
        have fr1 := hD.frozen 0 rfl 1
        go_simp
        simp only [Rd.uponE]
        have h2 := (hD.set 0 rfl 0 (.int .u8 (g a : Nat))).set 0 rfl 1 (.int .u8 (g' b : Nat))
        exact ⟨h2.tail, h2⟩
      rintro vn -
      rintro w3 - hx3
      clear hx2
      have c0 := hx3.cell 0 (j := 0) rfl rfl
      have c1 := hx3.cell 0 (j := 1) rfl rfl
      have c2 := hx3.cell 1 (j := 0) rfl rfl
      have c3 := hx3.cell 1 (j := 1) rfl rfl
      have hHe := (Holds.tail (Holds.tail hx3))
      go_wp2
      clear c0 c1 c2 c3 hx3
      go_loopw [7, 46] (fun u t wr => ∃ jj : Nat, jj ≤ 2 ∧ t = .int .i64 jj ∧ Holds w wr [pMap Try.prog 68 (w.heap.size + 1 + 1 + 1 + 1) (Mp (bst (bF f f') (bF g g') S X jj).2), pPairs u (dec (bst (bF f f') (bF g g') S X jj).1), pBlk (w.heap.size + 1) (dv n f' g') 30, pBlk w.heap.size (dv m f g) 30]) (fun _ t _ => 2 - (intOf t).toNat)
      case atStart => exact ⟨0, by omega, rfl, hHe⟩
      case round =>
        clear hHe
        obtain ⟨j, hj, rfl, hH⟩ := hrel
        by_cases hj2 : j < 2
        · have hjj : j = 0 ∨ j = 1 := by omega
          rcases hjj with hj0 | hj1
          · obtain rfl := hj0
            have hst : bst (bF f f') (bF g g') S X 1 = badd (bst (bF f f') (bF g g') S X 0) (bF f f' X) := rfl
            have hIT := bst_inv HI.out HBX.out.1 HBX.out.2 0
            have hTl := hIT.length_le
            generalize bst (bF f f') (bF g g') S X 0 = T at *
            have ix := fun w' => (idx_two (.int .u8 (f a : Nat)) (.int .u8 (f' b : Nat)) (.int .u8 (g a : Nat)) (.int .u8 (g' b : Nat)) w' ⟨rfl, rfl, rfl, rfl⟩).1
            have hHb := hH.blk #[.int .u8 (f a : Nat), .int .u8 (f' b : Nat)] 68 wr.heap.size rfl
            have lk := look_code hHb 1 rfl (z := bF f f' X) HBX.out.1
            have HIT := hide hIT; clear hIT
            have HST := hide hst; clear hst
            rcases hTY : T.2 (bF f f' X) with _ | _
            · rw [hTY, EE.out.1.1] at lk
              have HTY := hide hTY; clear hTY
              obtain ⟨A', c', rfl⟩ := hH.pairsForm 1 rfl
              go_wp2_with (refine mputH keyedPr rfl _ _ _ rfl Try.underlying114 hHb 1 rfl rfl rfl rfl ?_ ?_)
              · have := isK_code (z := bF f f' X) HBX.out.1
                rw [EE.out.1.1] at this
                exact this
              intro w4 hH4 hs4
              clear hs4
              rw [← EE.out.1.1, Mp_put] at hH4
              have d0 : w4.cell? ⟨wr.heap.size, 0, none⟩ = some (.int .u8 (f a : Nat)) := hH4.cell 0 rfl rfl
              have d1 : w4.cell? ⟨wr.heap.size, 1, none⟩ = some (.int .u8 (f' b : Nat)) := hH4.cell 0 rfl rfl
              clear lk ix hHb hH
              go_wp2_with (at_builtin; refine appP (hH4.alloc _) 2 rfl w4.heap.size [(f a, f' b)] 68 ?_ ?_ rfl _ _ rfl rfl rfl ?_)
              · exact heap_at _ _ _ rfl
              · rw [dec_length]; simp only [List.length_cons, List.length_nil]; omega
              intro v' w5 hH5
              clear d0 d1 hH4
              go_wp2
              go_roundw
              case rel =>
                refine ⟨1, by omega, by go_num, ?_⟩
                rw [HST.out, badd_new HTY.out]
                show Holds w w5 [_, pPairs v' (dec (T.1 ++ [bF f f' X])), _, _]
                rw [EE.out.2.1]
                exact hH5.tail
              case measure => simp [intOf]
            · rw [hTY, EE.out.1.1] at lk
              have HTY := hide hTY; clear hTY
              go_wp2
              go_roundw
              case rel =>
                refine ⟨1, by omega, by go_num, ?_⟩
                rw [HST.out, badd_old HTY.out]
                exact hHb.tail
              case measure => simp [intOf]
          · obtain rfl := hj1
            have hst : bst (bF f f') (bF g g') S X 2 = badd (bst (bF f f') (bF g g') S X 1) (bF g g' X) := rfl
            have hIT := bst_inv HI.out HBX.out.1 HBX.out.2 1
            have hTl := hIT.length_le
            generalize bst (bF f f') (bF g g') S X 1 = T at *
            have ix := fun w' => (idx_two (.int .u8 (f a : Nat)) (.int .u8 (f' b : Nat)) (.int .u8 (g a : Nat)) (.int .u8 (g' b : Nat)) w' ⟨rfl, rfl, rfl, rfl⟩).2
            have hHb := hH.blk #[.int .u8 (g a : Nat), .int .u8 (g' b : Nat)] 68 wr.heap.size rfl
            have lk := look_code hHb 1 rfl (z := bF g g' X) HBX.out.2
            have HIT := hide hIT; clear hIT
            have HST := hide hst; clear hst
            rcases hTY : T.2 (bF g g' X) with _ | _
            · rw [hTY, EE.out.1.2] at lk
              have HTY := hide hTY; clear hTY
              obtain ⟨A', c', rfl⟩ := hH.pairsForm 1 rfl
              go_wp2_with (refine mputH keyedPr rfl _ _ _ rfl Try.underlying114 hHb 1 rfl rfl rfl rfl ?_ ?_)
              · have := isK_code (z := bF g g' X) HBX.out.2
                rw [EE.out.1.2] at this
                exact this
              intro w4 hH4 hs4
              clear hs4
              rw [← EE.out.1.2, Mp_put] at hH4
              have d0 : w4.cell? ⟨wr.heap.size, 0, none⟩ = some (.int .u8 (g a : Nat)) := hH4.cell 0 rfl rfl
              have d1 : w4.cell? ⟨wr.heap.size, 1, none⟩ = some (.int .u8 (g' b : Nat)) := hH4.cell 0 rfl rfl
              clear lk ix hHb hH
              go_wp2_with (at_builtin; refine appP (hH4.alloc _) 2 rfl w4.heap.size [(g a, g' b)] 68 ?_ ?_ rfl _ _ rfl rfl rfl ?_)
              · exact heap_at _ _ _ rfl
              · rw [dec_length]; simp only [List.length_cons, List.length_nil]; omega
              intro v' w5 hH5
              clear d0 d1 hH4
              go_wp2
              go_roundw
              case rel =>
                refine ⟨2, by omega, by go_num, ?_⟩
                rw [HST.out, badd_new HTY.out]
                show Holds w w5 [_, pPairs v' (dec (T.1 ++ [bF g g' X])), _, _]
                rw [EE.out.2.2]
                exact hH5.tail
              case measure => simp [intOf]
            · rw [hTY, EE.out.1.2] at lk
              have HTY := hide hTY; clear hTY
              go_wp2
              go_roundw
              case rel =>
                refine ⟨2, by omega, by go_num, ?_⟩
                rw [HST.out, badd_old HTY.out]
                exact hHb.tail
              case measure => simp [intOf]
        · obtain rfl : j = 2 := by omega
          have hn2 := HNX.out
          rw [← hn2] at hH
          have hIN := FI.out (k + 1)
          have hln : k + 1 ≤ (F (k + 1)).1.length := by
            have h1 := (bst_pre (bF f f') (bF g g') S X 2).length_le
            rw [hn2]; omega
          clear hj hj2 hn2
          go_wp2
          go_roundw
          case rel => exact ⟨k + 1, hln, by go_num, hH⟩
          case measure => simp [intOf]; omega
    · have hR := FE.out k (by omega) (by omega)
      have hkk : (F k).1.length = k := by omega
      obtain ⟨A', c', rfl⟩ := hH.pairsForm 1 rfl
      have hRl : R.length = k := by rw [hR]; exact hkk
      have hdl : (dec (F k).1).length = k := by rw [dec_length]; exact hkk
      rw [hdl] at hH ⊢
      rw [← hR] at hH
      have HRL := hide hRl
      clear hR hkk hdl hRl hI hle hk hkl
      go_wp2
      go_ret
      refine ⟨_, rfl, hH.low, ?_⟩
      have hr := hH.row 1 rfl
      rw [dec_length] at hr
      exact hr
end Go.Proofs.Ytjhpkibeddnbfaa

namespace Go.Proofs.Ytjhpkibeddnbfaa
open Go.RowKit

section
open Classical
/-- the keys so far; what stands under each -/
noncomputable def ksT (key : Nat → Value) : Nat → List Value
  | 0 => []
  | y + 1 => if key y ∈ ksT key y then ksT key y else key y :: ksT key y
noncomputable def lstT (key : Nat → Value) (nm : Nat → Nat → Nat) : Nat → Value → List (Nat → Nat)
  | 0, _ => []
  | y + 1, K => if key y = K then lstT key nm y K ++ [nm y] else lstT key nm y K
noncomputable def MkF (ks : List Value) (val : Value → Value) : Value → Option Value := fun K => if K ∈ ks then some (val K) else none
noncomputable def updV (val : Value → Value) (K v : Value) : Value → Value := fun K' => if K' = K then v else val K'
theorem updV_same (val : Value → Value) (K v : Value) : updV val K v K = v := by unfold updV; rw [if_pos rfl]
theorem updV_ne (val : Value → Value) {K K' : Value} (v : Value) (h : K' ≠ K) : updV val K v K' = val K' := by unfold updV; rw [if_neg h]
theorem ksT_nodup (key : Nat → Value) (y : Nat) : (ksT key y).Nodup := by
  induction y with
  | zero => exact List.nodup_nil
  | succ y ih =>
    rw [ksT]
    split
    · exact ih
    · rename_i h; exact List.nodup_cons.2 ⟨h, ih⟩
theorem ksT_mem (key : Nat → Value) (y : Nat) (K : Value) : K ∈ ksT key y ↔ ∃ x, x < y ∧ key x = K := by
  induction y with
  | zero => simp [ksT]
  | succ y ih =>
    rw [ksT]
    constructor
    · intro h
      by_cases c : key y ∈ ksT key y
      · rw [if_pos c] at h
        obtain ⟨x, hx, e⟩ := ih.1 h
        exact ⟨x, by omega, e⟩
      · rw [if_neg c] at h
        rcases List.mem_cons.1 h with rfl | h
        · exact ⟨y, by omega, rfl⟩
        · obtain ⟨x, hx, e⟩ := ih.1 h
          exact ⟨x, by omega, e⟩
    · rintro ⟨x, hx, e⟩
      by_cases c : key y ∈ ksT key y
      · rw [if_pos c]
        by_cases d : x = y
        · subst d; rw [← e]; exact c
        · exact ih.2 ⟨x, by omega, e⟩
      · rw [if_neg c]
        by_cases d : x = y
        · subst d; subst e; simp
        · exact List.mem_cons_of_mem _ (ih.2 ⟨x, by omega, e⟩)
theorem lstT_none {key : Nat → Value} {nm : Nat → Nat → Nat} {y : Nat} {K : Value} (h : K ∉ ksT key y) : lstT key nm y K = [] := by
  induction y with
  | zero => rfl
  | succ y ih =>
    rw [ksT_mem] at h
    rw [lstT, if_neg (fun e => h ⟨y, by omega, e⟩)]
    exact ih fun c => by
      rw [ksT_mem] at c
      obtain ⟨x, hx, e⟩ := c
      exact h ⟨x, by omega, e⟩
theorem lstT_len (key : Nat → Value) (nm : Nat → Nat → Nat) (y : Nat) (K : Value) : (lstT key nm y K).length ≤ y := by
  induction y with
  | zero => simp [lstT]
  | succ y ih =>
    rw [lstT]
    split
    · rw [List.length_append]; simp only [List.length_cons, List.length_nil]; omega
    · omega
theorem MkF_put_old {ks : List Value} {val : Value → Value} {K v0 v : Value} (h : K ∈ ks) : mput (mput (MkF ks val) K v0) K v = MkF ks (updV val K v) := by
  rw [mput_twice]
  funext x
  unfold mput MkF updV
  by_cases c : x = K
  · subst c; rw [if_pos rfl, if_pos h, if_pos rfl]
  · rw [if_neg c, if_neg c]
theorem MkF_put_new {ks : List Value} {val : Value → Value} {K v0 v : Value} : mput (mput (MkF ks val) K v0) K v = MkF (K :: ks) (updV val K v) := by
  rw [mput_twice]
  funext x
  unfold mput MkF updV
  by_cases c : x = K
  · subst c; simp
  · rw [if_neg c, if_neg c]
    by_cases d : x ∈ ks
    · rw [if_pos d, if_pos (by simp [d])]
    · rw [if_neg d, if_neg (by simp [c, d])]
end
/-- the rows that stand under some keys, a part each -/
def famP (ks : List Value) (val : Value → Value) (lst : Value → List (Nat → Nat)) : List Part := ks.map fun K => pPl (val K) (lst K)
theorem famP_at {ks : List Value} {val : Value → Value} {lst : Value → List (Nat → Nat)} {j : Nat} {K : Value} (h : ks[j]? = some K) : (famP ks val lst)[j]? = some (pPl (val K) (lst K)) := by unfold famP; simp [h]
theorem famP_congr {ks : List Value} {val val' : Value → Value} {lst lst' : Value → List (Nat → Nat)} (h : ∀ K ∈ ks, val K = val' K ∧ lst K = lst' K) : famP ks val lst = famP ks val' lst' := by
  unfold famP
  exact List.map_congr_left fun K hK => by rw [(h K hK).1, (h K hK).2]
theorem famP_set {ks : List Value} (hn : ks.Nodup) {val val' : Value → Value} {lst lst' : Value → List (Nat → Nat)} {j : Nat} {K : Value} (h : ks[j]? = some K) (h1 : ∀ K' ∈ ks, K' ≠ K → val K' = val' K' ∧ lst K' = lst' K') :
    (famP ks val lst).set j (pPl (val' K) (lst' K)) = famP ks val' lst' := by
  apply List.ext_getElem?
  intro i
  rw [List.getElem?_set]
  unfold famP
  obtain ⟨hj, e⟩ := List.getElem?_eq_some_iff.1 h
  by_cases c : j = i
  · subst c
    rw [if_pos rfl, if_pos (by simpa using hj)]
    simp [h]
  · rw [if_neg c, List.getElem?_map, List.getElem?_map]
    rcases e2 : ks[i]? with _ | K'
    · rfl
    · have hne : K' ≠ K := fun e3 => by
        subst e3
        obtain ⟨hi, e4⟩ := List.getElem?_eq_some_iff.1 e2
        rcases Nat.lt_or_gt_of_ne c with d | d
        · exact List.pairwise_iff_getElem.1 hn j i hj hi d (by rw [e, e4])
        · exact List.pairwise_iff_getElem.1 hn i j hi hj d (by rw [e, e4])
      have := h1 K' (List.mem_of_getElem? e2) hne
      simp only [Option.map_some]
      rw [this.1, this.2]
theorem Holds.join {w0 w w' : World} {L A : List Part} (h : Holds w0 w L) (k : Holds w w' A) : Holds w0 w' (A ++ L) := by
  induction A with
  | nil => exact h.call k.low
  | cons a A ih =>
    have h' := ih k.tail
    refine ⟨h'.1, fun b hb => ?_, List.pairwise_cons.2 ⟨fun b hb g hg hg' => ?_, h'.2.2⟩⟩
    · rcases List.mem_cons.1 hb with rfl | hb
      · exact ⟨k.at 0 rfl, fun g hg => Nat.le_trans h.size (k.above 0 rfl hg)⟩
      · exact h'.2.1 b hb
    · rcases List.mem_append.1 hb with hb | hb
      · exact (List.pairwise_cons.1 k.2.2).1 b hb g hg hg'
      · have h1 := b.lt _ _ (h.2.1 b hb).1 hg'
        have h2 := k.above 0 rfl hg
        omega
theorem zeroSlP (w : World) : (zeroValue 25).run Try.prog w = .ok (.slice none 0 0) w := by
  have h : (Try.prog.info? 25).map (·.zero) = some (some (.slice none 0 0)) := by kernel_rfl
  rcases hi : Try.prog.info? 25 with _ | i
  · rw [hi] at h; cases h
  · rw [hi] at h
    have hz : i.zero = some (.slice none 0 0) := by simpa using h
    simp [zeroValue, typeInfo, hi, hz]
/-- the key of the form from a dart -/
def formK (f g : Nat → Nat) (m x : Nat) : Value := .agg (dv m (renF (namF f g m x) f m) (renF (namF f g m x) g m))
theorem isK_form {f g : Nat → Nat} {m x : Nat} (hd : DesN f g m) (hx : x < m) : IsK Try.prog 30 (formK f g m x) := by
  have hp := namF_perm hd hx
  exact isK_des m _ _ hd.le (fun i hi => by have := (renF_perm hp hd.black).lt16 hi; omega) (fun i hi => by have := (renF_perm hp hd.white).lt16 hi; omega)

set_option maxRecDepth 100000 in
set_option maxHeartbeats 2000000 in
theorem namingsByForm_any (f g : Nat → Nat) (m : Nat) (hd : DesN f g m) (w : World) :
    Calls Try.prog 86 #[.agg (dv m f g)] w fun e w' => ∃ G val, e = .returned (.map (some G)) ∧ Holds w w' (pMap Try.prog 30 G (MkF (ksT (formK f g m) m) val) :: famP (ksT (formK f g m) m) val (lstT (formK f g m) (namF f g m) m)) := by
  have hm := hd.le
  have hm256 : (m : Int) < 256 := by omega
  have hn := dv_n m f g
  have C1 := hide fun (x : Nat) (hx : x < m) (w : World) => naming_any f g m hd x hx w
  have C2 := hide fun (x : Nat) (hx : x < m) (w : World) => rename_any f g (namF f g m x) m hd.black hd.white (namF_perm hd hx) w
  have HK := hide fun (x : Nat) (hx : x < m) => isK_form hd hx
  clear hd
  have mk := fun w => run_mk (P := Try.prog) 110 w
  have HH0 := ((Holds.start w).blk (dv m f g) 30 w.heap.size rfl).newMap Try.prog 30 (w.heap.size + 1) (by simp)
  have c0 := HH0.cell 1 rfl hn
  go_enter Try.func86, Try.ntmps86
  go_wp2
  clear mk c0
  go_loopw [11] (fun t wr => ∃ (y : Nat) (val : Value → Value), y ≤ m ∧ t = .int .u8 y ∧ Holds w wr (pMap Try.prog 30 (w.heap.size + 1) (MkF (ksT (formK f g m) y) val) :: pBlk w.heap.size (dv m f g) 30 :: famP (ksT (formK f g m) y) val (lstT (formK f g m) (namF f g m) y))) (fun t _ => m - (intOf t).toNat)
  case atStart => exact ⟨0, fun K => K, by omega, rfl, by
    have e : MkF (ksT (formK f g m) 0) (fun K => K) = fun _ => none := by funext K; unfold MkF; rw [ksT]; simp
    rw [e]; exact HH0⟩
  case round =>
    clear HH0
    obtain ⟨y, val, hy, rfl, hH⟩ := hrel
    by_cases hym : y < m
    · have hym' : (y : Int) < m := by omega
      have c1 := C1.out y hym
      have c2 := C2.out y hym
      have hK := HK.out y hym
      have hkey : formK f g m y = .agg (dv m (renF (namF f g m y) f m) (renF (namF f g m y) g m)) := rfl
      have hks : ksT (formK f g m) (y + 1) = open Classical in (if formK f g m y ∈ ksT (formK f g m) y then ksT (formK f g m) y else formK f g m y :: ksT (formK f g m) y) := rfl
      have hls : ∀ K, lstT (formK f g m) (namF f g m) (y + 1) K = open Classical in (if formK f g m y = K then lstT (formK f g m) (namF f g m) y K ++ [namF f g m y] else lstT (formK f g m) (namF f g m) y K) := fun K => rfl
      have hnd := ksT_nodup (formK f g m) y
      have hno : ∀ K, K ∉ ksT (formK f g m) y → lstT (formK f g m) (namF f g m) y K = [] := fun K => lstT_none
      have hll := fun K => lstT_len (formK f g m) (namF f g m) y K
      generalize hk1 : ksT (formK f g m) (y + 1) = ks1 at *
      generalize hl1 : lstT (formK f g m) (namF f g m) (y + 1) = ls1 at *
      have HK1 := hide hk1; clear hk1
      have HL1 := hide hl1; clear hl1
      generalize ksT (formK f g m) y = ks at *
      generalize lstT (formK f g m) (namF f g m) y = ls at *
      generalize renF (namF f g m y) f m = F1 at *
      generalize renF (namF f g m y) g m = G1 at *
      generalize namF f g m y = p at *
      generalize formK f g m y = K at *
      subst hkey
      have HKS := hide hks; clear hks
      have HLS := hide hls; clear hls
      have HND := hide hnd; clear hnd
      have HNO := hide hno; clear hno
      have HLL := hide hll; clear hll
      have HIK := hide hK; clear hK
      have C3 := hide c1; clear c1
      have C4 := hide c2; clear c2
      have cd := hH.cells 1 rfl
      go_wp2_with fail
      refine (C3.out _).mono ?_
      rintro e w1 ⟨rfl, hb⟩
      have H1 := (hH.call hb).blk (av p) 28 w1.heap.size rfl
      have cd1 := H1.cells 2 rfl
      clear hb cd hH
      go_wp2_with fail
      refine (C4.out _).mono ?_
      rintro e w2 ⟨rfl, hb⟩
      have H2 := ((H1.call hb).blk (dv m F1 G1) 30 w2.heap.size rfl).blk (av p) 28 (w2.heap.size + 1) (by simp)
      have cf := ((H1.call hb).blk (dv m F1 G1) 30 w2.heap.size rfl).cells 0 rfl
      have cp := ((H1.call hb).blk (dv m F1 G1) 30 w2.heap.size rfl).cells 1 rfl
      clear hb cd1 H1
      by_cases hin : (.agg (dv m F1 G1)) ∈ ks
      · obtain ⟨j, hj⟩ := List.getElem?_of_mem hin
        have hM : (MkF ks val (.agg (dv m F1 G1))).getD (.slice none 0 0) = val (.agg (dv m F1 G1)) := by unfold MkF; rw [if_pos hin]; rfl
        have HKS1 : Hid (ks1 = ks) := hide (by rw [HKS.out, if_pos hin])
        have HIN := hide hin; clear hin
        have HM := hide hM; clear hM
        have HJ := hide hj; clear hj
        go_wp2_with (refine mentH (k := .agg (dv m F1 G1)) keyedD rfl _ _ rfl Try.underlying110 zeroSlP H2 3 rfl rfl rfl HIK.out ?_)
        intro w3 s H3 hs3
        rw [HM.out] at H3 ⊢
        clear hs3 cf cp H2
        have hjj : (List.set (pBlk (w2.heap.size + 1) (av p) 28 :: pBlk w2.heap.size (dv m F1 G1) 30 :: pBlk w1.heap.size (av p) 28 :: pMap Try.prog 30 (w.heap.size + 1) (MkF ks val) :: pBlk w.heap.size (dv m f g) 30 :: famP ks val ls) 3 (pMapAt Try.prog 30 (w.heap.size + 1) (mput (MkF ks val) (.agg (dv m F1 G1)) (val (.agg (dv m F1 G1)))) (.agg (dv m F1 G1)) s))[j + 5]? = some (pPl (val (.agg (dv m F1 G1))) (ls (.agg (dv m F1 G1)))) := famP_at HJ.out
        have hlK := HLL.out (.agg (dv m F1 G1))
        go_wp2_with (at_builtin; refine appPl H3 (j + 5) hjj (w2.heap.size + 1) p 28 (H3.at 0 rfl) (by omega) rfl _ _ rfl rfl rfl ?_)
        intro v' w4 H4
        replace H4 : Holds w w4 (pBlk (w2.heap.size + 1) (av p) 28 :: pBlk w2.heap.size (dv m F1 G1) 30 :: pBlk w1.heap.size (av p) 28 :: pMapAt Try.prog 30 (w.heap.size + 1) (mput (MkF ks val) (.agg (dv m F1 G1)) (val (.agg (dv m F1 G1)))) (.agg (dv m F1 G1)) s :: pBlk w.heap.size (dv m f g) 30 :: (famP ks val ls).set j (pPl v' (ls (.agg (dv m F1 G1)) ++ [p]))) := H4
        clear hjj H3
        go_wp2_with (refine estH rfl _ _ _ rfl H4 3 rfl rfl rfl rfl ?_)
        intro w5 H5 hs5
        clear hs5 H4
        have e1 := MkF_put_old (val := val) (v0 := val (.agg (dv m F1 G1))) (v := v') HIN.out
        have e2 : (famP ks val ls).set j (pPl v' (ls (.agg (dv m F1 G1)) ++ [p])) = famP ks (updV val (.agg (dv m F1 G1)) v') ls1 := by
          have := famP_set HND.out HJ.out (val := val) (lst := ls) (val' := updV val (.agg (dv m F1 G1)) v') (lst' := ls1) (fun K' _ hne => ⟨(updV_ne _ _ hne).symm, by rw [HLS.out, if_neg (Ne.symm hne)]⟩)
          rw [updV_same, HLS.out (.agg (dv m F1 G1)), if_pos rfl] at this
          exact this
        replace H5 : Holds w w5 (pBlk (w2.heap.size + 1) (av p) 28 :: pBlk w2.heap.size (dv m F1 G1) 30 :: pBlk w1.heap.size (av p) 28 :: pMap Try.prog 30 (w.heap.size + 1) (mput (mput (MkF ks val) (.agg (dv m F1 G1)) (val (.agg (dv m F1 G1)))) (.agg (dv m F1 G1)) v') :: pBlk w.heap.size (dv m f g) 30 :: (famP ks val ls).set j (pPl v' (ls (.agg (dv m F1 G1)) ++ [p]))) := H5
        rw [e1, e2] at H5
        have H6 := H5.tail.tail.tail
        clear e1 e2 H5
        go_wp2
        go_roundw
        case rel => exact ⟨y + 1, updV val (.agg (dv m F1 G1)) v', by omega, by go_num, by rw [HK1.out, HL1.out, HKS1.out]; exact H6⟩
        case measure => simp [intOf]; omega
      · have hM : (MkF ks val (.agg (dv m F1 G1))).getD (.slice none 0 0) = .slice none 0 0 := by unfold MkF; rw [if_neg hin]; rfl
        have HKS1 : Hid (ks1 = .agg (dv m F1 G1) :: ks) := hide (by rw [HKS.out, if_neg hin])
        have hK0 := HNO.out _ hin
        have HK0 := hide hK0; clear hK0
        have HIN := hide hin; clear hin
        have HM := hide hM; clear hM
        go_wp2_with (refine mentH (k := .agg (dv m F1 G1)) keyedD rfl _ _ rfl Try.underlying110 zeroSlP H2 3 rfl rfl rfl HIK.out ?_)
        intro w3 s H3 hs3
        rw [HM.out] at H3 ⊢
        clear hs3 cf cp H2
        have H3n := H3.nilRow 28 16
        go_wp2_with (at_builtin; refine appPl H3n 0 (l := []) rfl (w2.heap.size + 1) p 28 (H3n.at 1 rfl) (by simp) rfl _ _ rfl rfl rfl ?_)
        intro v' w4 H4
        clear H3 H3n
        replace H4 : Holds w w4 (pPl v' [p] :: pBlk (w2.heap.size + 1) (av p) 28 :: pBlk w2.heap.size (dv m F1 G1) 30 :: pBlk w1.heap.size (av p) 28 :: pMapAt Try.prog 30 (w.heap.size + 1) (mput (MkF ks val) (.agg (dv m F1 G1)) (.slice none 0 0)) (.agg (dv m F1 G1)) s :: pBlk w.heap.size (dv m f g) 30 :: famP ks val ls) := H4
        go_wp2_with (refine estH rfl _ _ _ rfl H4 4 rfl rfl rfl rfl ?_)
        intro w5 H5 hs5
        clear hs5 H4
        have e1 := MkF_put_new (ks := ks) (val := val) (K := .agg (dv m F1 G1)) (v0 := .slice none 0 0) (v := v')
        have e2 : pPl v' [p] :: famP ks val ls = famP (.agg (dv m F1 G1) :: ks) (updV val (.agg (dv m F1 G1)) v') ls1 := by
          have h1 : famP (.agg (dv m F1 G1) :: ks) (updV val (.agg (dv m F1 G1)) v') ls1 = pPl (updV val (.agg (dv m F1 G1)) v' (.agg (dv m F1 G1))) (ls1 (.agg (dv m F1 G1))) :: famP ks (updV val (.agg (dv m F1 G1)) v') ls1 := rfl
          rw [h1, updV_same, HLS.out (.agg (dv m F1 G1)), if_pos rfl, HK0.out]
          congr 1
          refine famP_congr fun K' hK' => ?_
          have hne : K' ≠ .agg (dv m F1 G1) := fun e => HIN.out (e ▸ hK')
          exact ⟨(updV_ne _ _ hne).symm, by rw [HLS.out, if_neg (Ne.symm hne)]⟩
        have H6 : Holds w w5 (pPl v' [p] :: pMap Try.prog 30 (w.heap.size + 1) (mput (mput (MkF ks val) (.agg (dv m F1 G1)) (.slice none 0 0)) (.agg (dv m F1 G1)) v') :: pBlk w.heap.size (dv m f g) 30 :: famP ks val ls) := H5.sub (.cons_cons _ (.cons _ (.cons _ (.cons _ (.refl _)))))
        have H7 := H6.third
        rw [e1, e2] at H7
        clear e1 e2 H5 H6
        go_wp2
        go_roundw
        case rel => exact ⟨y + 1, updV val (.agg (dv m F1 G1)) v', by omega, by go_num, by rw [HK1.out, HL1.out, HKS1.out]; exact H7⟩
        case measure => simp [intOf]; omega
    · obtain rfl : y = m := by omega
      clear hy hym
      go_wp2
      go_ret
      exact ⟨_, val, rfl, hH.sub (.cons_cons _ (.cons _ (.refl _)))⟩
end Go.Proofs.Ytjhpkibeddnbfaa

namespace Go.Proofs.Ytjhpkibeddnbfaa
open Go.RowKit

theorem run_items2 (d : Nat) (f g : Nat → Nat) (w : World) : ∀ is : List Nat, (∀ i ∈ is, i < 16) →
    (Op.eqItems (d + 1) 5 1 (av f) (av g) is).run Try.prog w = .ok (is.all fun i => ((f i : Nat) : Int) == ((g i : Nat) : Int)) w
  | [], _ => by simp [Op.eqItems]
  | i :: is, h => by
    have hi := h i (by simp)
    have ih := run_items2 d f g w is fun j hj => h j (by simp [hj])
    have h1 := run_part_plain w plain8 (av_get f hi)
    have h2 := run_part_plain w plain8 (av_get g hi)
    have h3 := run_equalIn_int w d 5 .u8 .u8 (f i) (g i) Try.underlying5
    simp only [Op.eqItems, Nat.mul_one, Sem.run_bind, h1, h2, h3, Result.andThen_ok, List.all_cons]
    rcases hb : (((f i : Nat) : Int) == ((g i : Nat) : Int)) with _ | _
    · simp
    · simp [ih]
theorem run_sameP2 (d : Nat) (f g : Nat → Nat) (w : World) : (Op.equalIn (d + 2) 28 (.agg (av f)) (.agg (av g))).run Try.prog w = .ok (sameB f g) w := by
  obtain ⟨i0, hi, _⟩ := info_parts info8
  have h := run_equalIn_array w (d + 1) (av f) (av g) Try.underlying28 hi
  rw [cells8] at h
  rw [h, run_items2 d f g w _ (by simp)]
  unfold sameB; rfl
theorem info64D : (Try.prog.info? 2).map (·.size) = some 1 := by kernel_rfl
theorem infoPD : (Try.prog.info? 28).map (·.size) = some 16 := by kernel_rfl
theorem part_n (n : Int) (F G : Nat → Nat) (w : World) : (part 2 (dv n F G) 0).run Try.prog w = .ok (.int .i64 n) w :=
  run_part_plain w (by kernel_rfl) (dv_n n F G)
theorem part_b (n : Int) (F G : Nat → Nat) (w : World) : (part 28 (dv n F G) 1).run Try.prog w = .ok (.agg (av F)) w := by
  rcases hi : Try.prog.info? 28 with _ | i
  · have := infoPD; rw [hi] at this; cases this
  · have hsz : i.size = 16 := by have := infoPD; rw [hi] at this; simpa using this
    have hag : (isAgg 28).run Try.prog w = .ok true w := by simp [isAgg, run_underlying Try.underlying28]
    have e := blackOf_dv n F G
    unfold blackOf at e
    simp [part, hag, sizeOf, typeInfo, hi, hsz, e]
theorem part_w (n : Int) (F G : Nat → Nat) (w : World) : (part 28 (dv n F G) 17).run Try.prog w = .ok (.agg (av G)) w := by
  rcases hi : Try.prog.info? 28 with _ | i
  · have := infoPD; rw [hi] at this; cases this
  · have hsz : i.size = 16 := by have := infoPD; rw [hi] at this; simpa using this
    have hag : (isAgg 28).run Try.prog w = .ok true w := by simp [isAgg, run_underlying Try.underlying28]
    have e := whiteOf_dv n F G
    unfold whiteOf at e
    simp [part, hag, sizeOf, typeInfo, hi, hsz, e]
@[irreducible] def eqDB (n : Int) (F G : Nat → Nat) (n' : Int) (F' G' : Nat → Nat) : Bool := (n == n') && (sameB F F' && sameB G G')
theorem eqDB_iff (n : Int) (F G : Nat → Nat) (n' : Int) (F' G' : Nat → Nat) : eqDB n F G n' F' G' = true ↔ dv n F G = dv n' F' G' := by
  unfold eqDB
  rw [Bool.and_eq_true, Bool.and_eq_true, beq_iff_eq, sameB_iff, sameB_iff]
  constructor
  · rintro ⟨rfl, h1, h2⟩
    unfold dv
    apply row_congr
    intro i hi
    by_cases c : i = 0
    · rw [if_pos c, if_pos c]
    · rw [if_neg c, if_neg c]
      by_cases d : i < 17
      · rw [if_pos d, if_pos d, h1 (i - 1) (by omega)]
      · rw [if_neg d, if_neg d, h2 (i - 17) (by omega)]
  · intro h
    have hn : (dv n F G)[0]? = (dv n' F' G')[0]? := by rw [h]
    rw [dv_n, dv_n] at hn
    refine ⟨by simpa using hn, fun i hi => ?_, fun i hi => ?_⟩
    · have hb : (dv n F G)[1 + i]? = (dv n' F' G')[1 + i]? := by rw [h]
      rw [dv_b _ _ _ hi, dv_b _ _ _ hi] at hb
      simp at hb; omega
    · have hb : (dv n F G)[17 + i]? = (dv n' F' G')[17 + i]? := by rw [h]
      rw [dv_w _ _ _ hi, dv_w _ _ _ hi] at hb
      simp at hb; omega
theorem run_sameD (n : Int) (F G : Nat → Nat) (n' : Int) (F' G' : Nat → Nat) (w : World) : (Op.equalIn 10000 30 (.agg (dv n F G)) (.agg (dv n' F' G'))).run Try.prog w = .ok (eqDB n F G n' F' G') w := by
  have ht : Try.prog.underlying 30 = some (.struct (Try.prog.fieldsOf 30)) := by kernel_rfl
  have hp : Try.prog.stoodInHeld 30 = false := by kernel_rfl
  rw [run_equalIn_struct w 9999 30 _ _ ht hp]
  have hi : (Op.equalIn 9999 2 (.int .i64 n) (.int .i64 n')).run Try.prog w = .ok (n == n') w := run_equalIn_int w 9998 2 .i64 .i64 n n' Try.underlying2
  have hb : (Op.equalIn 9999 28 (.agg (av F)) (.agg (av F'))).run Try.prog w = .ok (sameB F F') w := run_sameP2 9997 F F' w
  have hw : (Op.equalIn 9999 28 (.agg (av G)) (.agg (av G'))).run Try.prog w = .ok (sameB G G') w := run_sameP2 9997 G G' w
  unfold eqDB
  rcases h1 : n == n' with _ | _
  · rw [h1] at hi
    simp [Program.fieldsOf, Try.underlying30, Op.eqFields, part_n, hi]
  · rw [h1] at hi
    rcases h2 : sameB F F' with _ | _
    · rw [h2] at hb
      simp [Program.fieldsOf, Try.underlying30, Op.eqFields, part_n, part_b, hi, hb]
    · rw [h2] at hb
      rcases h3 : sameB G G' with _ | _
      · rw [h3] at hw
        simp [Program.fieldsOf, Try.underlying30, Op.eqFields, part_n, part_b, part_w, hi, hb, hw]
      · rw [h3] at hw
        simp [Program.fieldsOf, Try.underlying30, Op.eqFields, part_n, part_b, part_w, hi, hb, hw]
@[go_sem] theorem guardD : Try.prog.eqGuardType Try.prog.depth 30 = false := by kernel_rfl
@[go_sem ↓] theorem run_eqlD (n : Int) (F G : Nat → Nat) (n' : Int) (F' G' : Nat → Nat) (w : World) : (binOp .eql 30 (.agg (dv n F G)) (.agg (dv n' F' G'))).run Try.prog w = .ok (.bool (eqDB n F G n' F' G')) w := by
  rw [run_eql_struct, run_sameD]; rfl
@[go_sem ↓] theorem run_neqD (n : Int) (F G : Nat → Nat) (n' : Int) (F' G' : Nat → Nat) (w : World) : (binOp .neq 30 (.agg (dv n F G)) (.agg (dv n' F' G'))).run Try.prog w = .ok (.bool (!eqDB n F G n' F' G')) w := by
  rw [run_neq_struct, run_sameD]; rfl
end Go.Proofs.Ytjhpkibeddnbfaa

namespace Go.Proofs.Ytjhpkibeddnbfaa
open Go.RowKit

/-- from the form of one dessin back by a naming of the other one -/
def isoP (first : Nat → Nat) (k : Nat) (s : Nat → Nat) : Nat → Nat := thenF first (backF s k) k
/-- all isomorphisms -/
noncomputable def isoL (f g : Nat → Nat) (m : Nat) (f' g' : Nat → Nat) (k : Nat) : List (Nat → Nat) := (lstT (formK f' g' k) (namF f' g' k) k (formK f g m 0)).map (isoP (namF f g m 0) k)
theorem isoL_len (f g : Nat → Nat) (m : Nat) (f' g' : Nat → Nat) (k : Nat) : (isoL f g m f' g' k).length ≤ k := by unfold isoL; rw [List.length_map]; exact lstT_len _ _ _ _
theorem upon_appPl {o : Oper} {a : Act} {w0 w : World} {L : List Part} (H : Holds w0 w L) (k : Nat) {v : Value} {l : List (Nat → Nat)} (hk : L[k]? = some (pPl v l))
    (g : Nat) (p : Nat → Nat) (t : TypeId) (hc : w.heap[g]? = some (.cells (av p) t (0, 0))) (hb : l.length ≤ 100000) {C : World → Prop} {R : Value → World → Prop}
    (h : ∀ v' w', Holds w0 w' (L.set k (pPl v' (l ++ [p]))) → C w' ∧ R v' w') (s x : Operand)
    (ho : o.op = .call { callee := .builtin .append, args := #[s, x], argTypes := #[25, 25] })
    (hs : a.eval s = v) (hx : a.eval x = .slice (some ⟨g, 0, none⟩) 1 1) : Rd.uponE Try.prog C R w ((execOp a.eval o).run Try.prog w) := by
  obtain ⟨v', w', h1, h2⟩ := run_appPl H k hk g p t hc hb s x ho hs hx
  rw [h1]
  exact h v' w' h2

set_option maxRecDepth 100000 in
set_option maxHeartbeats 1000000 in
theorem isomorphisms_any (f g : Nat → Nat) (m : Nat) (hd : DesN f g m) (f' g' : Nat → Nat) (k : Nat) (he : DesN f' g' k) (w : World) :
    Calls Try.prog 48 #[.agg (dv m f g), .agg (dv k f' g')] w fun e w' => ∃ v, e = .returned v ∧ Below w.heap.size w w' ∧ w'.ownsRow w.heap.size 28 16 v (isoL f g m f' g' k).length (plB (isoL f g m f' g' k)) := by
  have hm := hd.le
  have hk := he.le
  have hp0 := namF_perm hd hd.pos
  have c1 := fun w => naming_any f g m hd 0 hd.pos w
  simp only [show ((0 : Nat) : Int) = 0 from rfl] at c1
  have C1 := hide c1; clear c1
  have C2 := hide fun w => rename_any f g (namF f g m 0) m hd.black hd.white hp0 w
  have C3 := hide fun w => namingsByForm_any f' g' k he w
  have hK := isK_form hd hd.pos
  have hLS : ∀ s ∈ lstT (formK f' g' k) (namF f' g' k) k (formK f g m 0), PermN s k := by
    have : ∀ y, y ≤ k → ∀ K, ∀ s ∈ lstT (formK f' g' k) (namF f' g' k) y K, PermN s k := by
      intro y
      induction y with
      | zero => intro _ K s hs; simp [lstT] at hs
      | succ y ih =>
        intro hy K s hs
        rw [lstT] at hs
        split at hs
        · rcases List.mem_append.1 hs with h | h
          · exact ih (by omega) K s h
          · simp at h; subst h; exact namF_perm he (by omega)
        · exact ih (by omega) K s hs
    exact this k (Nat.le_refl _) _
  have hiso : isoL f g m f' g' k = (lstT (formK f' g' k) (namF f' g' k) k (formK f g m 0)).map (isoP (namF f g m 0) k) := rfl
  have hll := lstT_len (formK f' g' k) (namF f' g' k) k (formK f g m 0)
  have hno : ∀ K, K ∉ ksT (formK f' g' k) k → lstT (formK f' g' k) (namF f' g' k) k K = [] := fun K => lstT_none
  have hkey : formK f g m 0 = .agg (dv m (renF (namF f g m 0) f m) (renF (namF f g m 0) g m)) := rfl
  have hn' := dv_n k f' g'
  clear hd he
  rw [hiso]
  generalize isoL f g m f' g' k = IL at *
  generalize renF (namF f g m 0) f m = F1 at *
  generalize renF (namF f g m 0) g m = G1 at *
  generalize namF f g m 0 = p at *
  generalize formK f g m 0 = K at *
  subst hkey
  generalize lstT (formK f' g' k) (namF f' g' k) k = LS at *
  generalize ksT (formK f' g' k) k = KS at *
  clear hiso
  have HIK := hide hK; clear hK
  have HNO := hide hno; clear hno
  have HLS := hide hLS; clear hLS
  have HP0 := hide hp0; clear hp0
  have HH0 := ((Holds.start w).blk (dv m f g) 30 w.heap.size rfl).blk (dv k f' g') 30 (w.heap.size + 1) (by simp)
  go_enter Try.func48, Try.ntmps48
  go_wp2_with fail
  refine (C1.out _).mono ?_
  rintro e w1 ⟨rfl, hb⟩
  have HH1 := (HH0.call hb).blk (av p) 28 w1.heap.size rfl
  clear hb HH0
  go_wp2
  generalize w1.alloc (.cells (av p) 28) = wf at *
  generalize w1.heap.size = G3 at *
  refine Rd.region_P (w0 := w) [pBlk G3 (av p) 28, pBlk (w.heap.size + 1) (dv k f' g') 30, pBlk w.heap.size (dv m f g) 30] [pBlk G3 (av p) 28, pBlk (w.heap.size + 1) (dv k f' g') 30, pBlk w.heap.size (dv m f g) 30] [1, 5] (.q 0 <| .q 2 <| .q 3 <| .q 7 <| .s1 1 <| .q 4 <| .s1 5 <| .q 6 .fin) HH1 (.refl _) (by kernel_rfl) (by kernel_rfl) (by kernel_rfl) ?_
  iterate 4
    apply Rd.v_q
    · simp only [List.getElem?_toArray, List.getElem?_cons_zero, List.getElem?_cons_succ]; exact rfl
    · rfl
    · go_simp
    · intro wx hx
      have q1 := hx.cells 0 rfl
      have q2 := hx.cells 1 rfl
      have q3 := hx.cells 2 rfl
      unfold atG
      go_simp
      simp only [uponG]
      exact ⟨by trivial, rfl⟩

  refine Rd.v_s (fun v wx => ∃ G val, v = .map (some G) ∧ Holds w wx (pMap Try.prog 30 G (MkF KS val) :: (famP KS val LS ++ [pBlk G3 (av p) 28, pBlk (w.heap.size + 1) (dv k f' g') 30, pBlk w.heap.size (dv m f g) 30]))) (fun v _ _ ⟨G, val, e, h⟩ hb => ⟨G, val, e, h.call hb⟩) (by simp only [List.getElem?_toArray, List.getElem?_cons_zero, List.getElem?_cons_succ]; exact rfl) rfl (by go_simp) (fun wx hx hD => ?_) ?_
  · go_simp
    simp only [Rd.uponE]
    refine ⟨by trivial, (C3.out wx).mono ?_⟩
    rintro e w' ⟨G, val, rfl, hN⟩
    exact ⟨_, rfl, hx.call hN.low, G, rfl, val, hx.join hN⟩
  rintro v ⟨_, _, G, val0, rfl, _⟩
  iterate 1
    apply Rd.v_q
    · simp only [List.getElem?_toArray, List.getElem?_cons_zero, List.getElem?_cons_succ]; exact rfl
    · rfl
    · go_simp
    · intro wx hx
      have q1 := hx.cells 0 rfl
      have q2 := hx.cells 1 rfl
      have q3 := hx.cells 2 rfl
      unfold atG
      go_simp
      simp only [uponG]
      exact ⟨by trivial, C2.out wx⟩

  refine Rd.v_s (fun u wx => Holds w wx (pPl u (LS (.agg (dv m F1 G1))) :: [pBlk G3 (av p) 28, pBlk (w.heap.size + 1) (dv k f' g') 30, pBlk w.heap.size (dv m f g) 30])) (fun u _ _ h hb => h.call hb) (by simp only [List.getElem?_toArray, List.getElem?_cons_zero, List.getElem?_cons_succ]; exact rfl) rfl (by go_simp) (fun wx hx hD => ?_) ?_
  · obtain ⟨G', val, e, hD⟩ := hD
    simp only [Value.map.injEq, Option.some.injEq] at e
    subst e
    have lk := run_mlook (c := false) keyedD Try.underlying110 zeroSlP (hD.at 0 rfl) HIK.out
    go_simp
    simp only [Rd.uponE]
    refine ⟨hx, ?_⟩
    by_cases hin : (.agg (dv m F1 G1)) ∈ KS
    · have hM : (MkF KS val (.agg (dv m F1 G1))).getD (.slice none 0 0) = val (.agg (dv m F1 G1)) := by unfold MkF; rw [if_pos hin]; rfl
      have hsub : [pPl (val (.agg (dv m F1 G1))) (LS (.agg (dv m F1 G1)))].Sublist (famP KS val LS) := List.singleton_sublist.2 (List.mem_map.2 ⟨_, hin, rfl⟩)
      have := hD.sub (.cons _ (hsub.append (.refl _)))
      rw [hM]
      exact this
    · have hM : (MkF KS val (.agg (dv m F1 G1))).getD (.slice none 0 0) = .slice none 0 0 := by unfold MkF; rw [if_neg hin]; rfl
      have h0 := HNO.out _ hin
      rw [hM, h0]
      exact hx.nilRow 28 16
  rintro u ⟨wy, hy, hu⟩
  obtain ⟨A, c, rfl⟩ := hu.plForm 0 rfl
  clear hu hy wy
  iterate 1
    apply Rd.v_q
    · simp only [List.getElem?_toArray, List.getElem?_cons_zero, List.getElem?_cons_succ]; exact rfl
    · rfl
    · go_simp
    · intro wx hx
      have q1 := hx.cells 0 rfl
      have q2 := hx.cells 1 rfl
      have q3 := hx.cells 2 rfl
      unfold atG
      go_simp
      simp only [uponG]
      exact ⟨by trivial, rfl⟩

  rintro w2 - hx2
  clear HH1
  generalize hLl : LS (.agg (dv m F1 G1)) = L at *
  have HLl := hide hLl; clear hLl
  have HH2 := hx2.nilRow 28 16
  clear hx2
  go_simp
  go_wp2
  go_loopw [6, 18] (fun u t wr => ∃ j : Nat, j ≤ L.length ∧ t = .int .i64 j ∧ Holds w wr (pPl u ((L.take j).map (isoP p k)) :: pPl (.slice A L.length c) L :: [pBlk G3 (av p) 28, pBlk (w.heap.size + 1) (dv k f' g') 30, pBlk w.heap.size (dv m f g) 30])) (fun _ t _ => L.length - (intOf t).toNat)
  case atStart => exact ⟨0, by omega, rfl, HH2⟩
  case round =>
    clear HH2
    obtain ⟨j, hj, rfl, hH⟩ := hrel
    by_cases hjl : j < L.length
    · obtain ⟨g0, c0, e0, hg0, lk⟩ := hH.plAt 1 rfl hjl
      injection e0 with e0 e1 e2
      subst e0
      clear e1 e2 hg0
      have htk : L.take (j + 1) = L.take j ++ [L[j]] := by rw [List.take_add_one, List.getElem?_eq_getElem hjl]; rfl
      have hs := HLS.out _ (List.getElem_mem hjl)
      have htl : ((L.take j).map (isoP p k)).length ≤ 16 := by rw [List.length_map, List.length_take]; omega
      generalize L[j] = s at *
      have HTK := hide htk; clear htk
      have hjl' : (j : Int) < L.length := by omega
      have C5 := hide fun w => undo_any s k hk (fun i hi => hs.lt16 (by omega)) w
      have hp16 := HP0.out
      have C6 := hide fun w => follow_any p (backF s k) k hk (fun i hi => hp16.lt16 (by omega)) w
      have hiso : isoP p k s = thenF p (backF s k) k := rfl
      clear hp16 hs
      generalize isoP p k s = r at *
      rw [← hiso] at C6
      have HISO := hide hiso; clear hiso
      have H1 := hH.blk (av s) 28 wr.heap.size rfl
      generalize hM : (L.take j).map (isoP p k) = M at *
      have HM := hide hM; clear hM
      obtain ⟨A', c', rfl⟩ := hH.plForm 0 rfl
      clear hH
      go_wp2
      clear lk
      generalize wr.alloc (.cells (av s) 28) = wg at *
      generalize wr.heap.size = G4 at *
      refine Rd.region_P (w0 := w) (pBlk G4 (av s) 28 :: pPl (.slice (some ⟨g0, 0, none⟩) L.length c) L :: [pBlk G3 (av p) 28, pBlk (w.heap.size + 1) (dv k f' g') 30, pBlk w.heap.size (dv m f g) 30]) (pBlk G4 (av s) 28 :: pPl (.slice A' M.length c') M :: (pBlk G4 (av s) 28 :: pPl (.slice (some ⟨g0, 0, none⟩) L.length c) L :: [pBlk G3 (av p) 28, pBlk (w.heap.size + 1) (dv k f' g') 30, pBlk w.heap.size (dv m f g) 30]).tail) [9, 10] (.q 0 <| .q 1 <| .q 2 <| .q 3 <| .q 4 <| .q 5 <| .q 6 <| .q 7 <| .q 8 <| .s1 9 <| .s1 10 <| .q 11 .fin) H1 (.cons_cons _ (.cons _ (.refl _))) (by kernel_rfl) (by kernel_rfl) (by kernel_rfl) ?_
      iterate 5
        apply Rd.v_q
        · simp only [List.getElem?_toArray, List.getElem?_cons_zero, List.getElem?_cons_succ]; exact rfl
        · rfl
        · go_simp
        · intro wx hx
          have q0 := hx.cells 0 rfl
          have q1 := hx.cells 2 rfl
          have q2 := hx.cells 3 rfl
          have q3 := hx.cell 3 rfl hn'
          unfold atG
          go_simp
          simp only [uponG]
          exact ⟨by trivial, rfl⟩

      iterate 1
        apply Rd.v_q
        · simp only [List.getElem?_toArray, List.getElem?_cons_zero, List.getElem?_cons_succ]; exact rfl
        · rfl
        · go_simp
        · intro wx hx
          have q0 := hx.cells 0 rfl
          have q1 := hx.cells 2 rfl
          have q2 := hx.cells 3 rfl
          have q3 := hx.cell 3 rfl hn'
          unfold atG
          go_simp
          simp only [uponG]
          exact ⟨by trivial, C5.out wx⟩

      iterate 2
        apply Rd.v_q
        · simp only [List.getElem?_toArray, List.getElem?_cons_zero, List.getElem?_cons_succ]; exact rfl
        · rfl
        · go_simp
        · intro wx hx
          have q0 := hx.cells 0 rfl
          have q1 := hx.cells 2 rfl
          have q2 := hx.cells 3 rfl
          have q3 := hx.cell 3 rfl hn'
          unfold atG
          go_simp
          simp only [uponG]
          exact ⟨by trivial, rfl⟩

      iterate 1
        apply Rd.v_q
        · simp only [List.getElem?_toArray, List.getElem?_cons_zero, List.getElem?_cons_succ]; exact rfl
        · rfl
        · go_simp
        · intro wx hx
          have q0 := hx.cells 0 rfl
          have q1 := hx.cells 2 rfl
          have q2 := hx.cells 3 rfl
          have q3 := hx.cell 3 rfl hn'
          unfold atG
          go_simp
          simp only [uponG]
          exact ⟨by trivial, C6.out wx⟩

      refine Rd.v_build (av r) 28 1 (by simp only [List.getElem?_toArray, List.getElem?_cons_zero, List.getElem?_cons_succ]; exact rfl) rfl (by go_simp) (fun wx hx hD => by go_simp) fun gq => ?_
      refine Rd.v_s (fun u wx => Holds w wx (pPl u (M ++ [r]) :: (pBlk G4 (av s) 28 :: pPl (.slice (some ⟨g0, 0, none⟩) L.length c) L :: [pBlk G3 (av p) 28, pBlk (w.heap.size + 1) (dv k f' g') 30, pBlk w.heap.size (dv m f g) 30]).tail)) (fun u _ _ h hb => h.call hb) (by simp only [List.getElem?_toArray, List.getElem?_cons_zero, List.getElem?_cons_succ]; exact rfl) rfl (by go_simp) (fun wx hx hD => ?_) ?_
      · exact upon_appPl hD 2 rfl gq r 28 (hD.at 0 rfl) (by omega) (fun v' w' h2 => ⟨h2.sub (.cons _ (.cons_cons _ (.cons _ (.refl _)))), h2.sub (.cons _ (.cons _ (.refl _)))⟩) _ _ rfl (by go_simp) (by go_simp)
      rintro v' -
      iterate 1
        apply Rd.v_q
        · simp only [List.getElem?_toArray, List.getElem?_cons_zero, List.getElem?_cons_succ]; exact rfl
        · rfl
        · go_simp
        · intro wx hx
          have q0 := hx.cells 0 rfl
          have q1 := hx.cells 2 rfl
          have q2 := hx.cells 3 rfl
          have q3 := hx.cell 3 rfl hn'
          unfold atG
          go_simp
          simp only [uponG]
          exact ⟨by trivial, rfl⟩

      rintro w6 - hx6
      clear H1
      go_simp
      go_wp2
      go_roundw
      case rel =>
        refine ⟨j + 1, by omega, by go_num, ?_⟩
        rw [HTK.out, List.map_append, HM.out]
        have er : isoP p k s = r := HISO.out.symm
        show Holds w w6 (pPl v' (M ++ [isoP p k s]) :: _)
        rw [er]
        exact hx6
      case measure => simp [intOf]; omega
    · obtain rfl : j = L.length := by omega
      rw [List.take_length] at hH
      clear hj hjl
      go_wp2
      go_ret
      refine ⟨u6, rfl, hH.low, ?_⟩
      rw [HLl.out]
      exact hH.row 0 rfl
end Go.Proofs.Ytjhpkibeddnbfaa

namespace Go.Proofs.Ytjhpkibeddnbfaa
open Go.RowKit

noncomputable def allT (f g f' g' : Nat → Nat) (m : Nat) : Nat → List (Nat → Nat)
  | 0 => []
  | y + 1 => if eqDB m (renF (namF f' g' m y) f' m) (renF (namF f' g' m y) g' m) m (renF (namF f g m 0) f m) (renF (namF f g m 0) g m) = true then allT f g f' g' m y ++ [isoP (namF f g m 0) m (namF f' g' m y)] else allT f g f' g' m y
theorem allT_len (f g f' g' : Nat → Nat) (m y : Nat) : (allT f g f' g' m y).length ≤ y := by
  induction y with
  | zero => simp [allT]
  | succ y ih =>
    rw [allT]
    split
    · rw [List.length_append]; simp only [List.length_cons, List.length_nil]; omega
    · omega
theorem allT_eq (f g f' g' : Nat → Nat) (m y : Nat) : allT f g f' g' m y = (lstT (formK f' g' m) (namF f' g' m) y (formK f g m 0)).map (isoP (namF f g m 0) m) := by
  induction y with
  | zero => rfl
  | succ y ih =>
    rw [allT, lstT, ih]
    have e : eqDB m (renF (namF f' g' m y) f' m) (renF (namF f' g' m y) g' m) m (renF (namF f g m 0) f m) (renF (namF f g m 0) g m) = true ↔ formK f' g' m y = formK f g m 0 := by
      rw [eqDB_iff]
      unfold formK
      simp only [Value.agg.injEq]
    by_cases c : formK f' g' m y = formK f g m 0
    · rw [if_pos (e.2 c), if_pos c, List.map_append]; rfl
    · rw [if_neg (fun h => c (e.1 h)), if_neg c]
theorem iso_ne {f g f' g' : Nat → Nat} {m k : Nat} (h : m ≠ k) : isoL f g m f' g' k = [] := by
  unfold isoL
  have : ∀ y, lstT (formK f' g' k) (namF f' g' k) y (formK f g m 0) = [] := by
    intro y
    induction y with
    | zero => rfl
    | succ y ih =>
      rw [lstT, if_neg, ih]
      intro e
      unfold formK at e
      simp only [Value.agg.injEq] at e
      have h0 : (dv k (renF (namF f' g' k y) f' k) (renF (namF f' g' k y) g' k))[0]? = (dv m (renF (namF f g m 0) f m) (renF (namF f g m 0) g m))[0]? := by rw [e]
      rw [dv_n, dv_n] at h0
      simp at h0
      omega
  rw [this]; rfl

set_option maxRecDepth 100000 in
set_option maxHeartbeats 1000000 in
theorem sAll_any (f g : Nat → Nat) (m : Nat) (hd : DesN f g m) (f' g' : Nat → Nat) (k : Nat) (he : DesN f' g' k) (w : World) :
    Calls Try.prog 45 #[.agg (dv m f g), .agg (dv k f' g')] w fun e w' => ∃ v, e = .returned v ∧ Below w.heap.size w w' ∧ w'.ownsRow w.heap.size 28 16 v (isoL f g m f' g' k).length (plB (isoL f g m f' g' k)) := by
  have hm := hd.le
  have hk := he.le
  have hn := dv_n m f g
  have hn' := dv_n k f' g'
  have HH0 := ((Holds.start w).blk (dv m f g) 30 w.heap.size rfl).blk (dv k f' g') 30 (w.heap.size + 1) (by simp)
  have cn := HH0.cell 1 rfl hn
  have cn' := HH0.cell 0 rfl hn'
  have HH1 : Holds w ((((w.alloc (.cells (dv m f g) 30)).alloc (.cells (dv k f' g') 30))).alloc (.cells #[] 28)) (pPl (.slice (some ⟨w.heap.size + 1 + 1, 0, none⟩) 0 0) [] :: _) := HH0.rowNew #[] 28 16 0 (w.heap.size + 1 + 1) (by simp) rfl (by unfold maxLen; omega)
  by_cases hmk : m = k
  rotate_left
  · have hr := iso_ne (f := f) (g := g) (f' := f') (g' := g') hmk
    rw [hr]
    have hne : (((m : Nat) : Int) != ((k : Nat) : Int)) = true := by rw [bne_iff_ne]; omega
    clear hd he hmk hr
    go_enter Try.func45, Try.ntmps45
    go_wp2
    go_ret
    exact ⟨_, rfl, HH1.low, HH1.row 0 rfl⟩
  subst hmk
  have hp0 := namF_perm hd hd.pos
  have c1 := fun w => sNaming_any f g m hd 0 hd.pos w
  simp only [show ((0 : Nat) : Int) = 0 from rfl] at c1
  have C1 := hide c1; clear c1
  have C2 := hide fun w => sRename_any f g (namF f g m 0) m hd.black hd.white hp0 w
  have C3 := hide fun (y : Nat) (hy : y < m) (w : World) => sNaming_any f' g' m he y hy w
  have C4 := hide fun (y : Nat) (hy : y < m) (w : World) => sRename_any f' g' (namF f' g' m y) m he.black he.white (namF_perm he hy) w
  have CP := hide fun (y : Nat) (hy : y < m) => namF_perm he hy
  have hiso : isoL f g m f' g' m = allT f g f' g' m m := (allT_eq f g f' g' m m).symm
  rw [hiso]
  have HT := hide fun y => (show allT f g f' g' m (y + 1) = if eqDB m (renF (namF f' g' m y) f' m) (renF (namF f' g' m y) g' m) m (renF (namF f g m 0) f m) (renF (namF f g m 0) g m) = true then allT f g f' g' m y ++ [isoP (namF f g m 0) m (namF f' g' m y)] else allT f g f' g' m y from rfl)
  have HTL := hide fun y => allT_len f g f' g' m y
  have H0 := hide (show allT f g f' g' m 0 = [] from rfl)
  clear hd he hiso
  generalize hAT : allT f g f' g' m = AT at *
  have HAT := hide hAT; clear hAT
  generalize renF (namF f g m 0) f m = F1 at *
  generalize renF (namF f g m 0) g m = G1 at *
  generalize namF f g m 0 = p at *
  have HP0 := hide hp0; clear hp0
  have hne : (((m : Nat) : Int) != ((m : Nat) : Int)) = false := by simp
  have cd := HH1.cells 2 rfl
  have ce := HH1.cells 1 rfl
  go_enter Try.func45, Try.ntmps45
  go_wp2_with fail
  refine (C1.out _).mono ?_
  rintro e w1 ⟨rfl, hb⟩
  have HH2 := (HH1.call hb).blk (av p) 28 w1.heap.size rfl
  have cd2 := HH2.cells 3 rfl
  clear hb HH0 HH1 cn cn' cd ce
  go_wp2_with fail
  refine (C2.out _).mono ?_
  rintro e w2 ⟨rfl, hb⟩
  have HH3 := (HH2.call hb).blk (dv m F1 G1) 30 w2.heap.size rfl
  clear hb HH2 cd2
  have HH4 : Holds w (w2.alloc (.cells (dv m F1 G1) 30)) (pPl (.slice (some ⟨w.heap.size + 1 + 1, 0, none⟩) 0 0) [] :: pBlk w2.heap.size (dv m F1 G1) 30 :: pBlk w1.heap.size (av p) 28 :: [pBlk (w.heap.size + 1) (dv m f' g') 30, pBlk w.heap.size (dv m f g) 30]) := HH3.perm ((List.perm_middle (l₁ := [_, _]) (a := _)))
  clear HH3
  go_wp2
  generalize w2.alloc (.cells (dv m F1 G1) 30) = w3 at *
  generalize w2.heap.size = G5 at *
  generalize w1.heap.size = G4 at *
  go_loopw [5, 8] (fun u t wr => ∃ y : Nat, y ≤ m ∧ t = .int .i64 y ∧ Holds w wr (pPl u (AT y) :: [pBlk G5 (dv m F1 G1) 30, pBlk G4 (av p) 28, pBlk (w.heap.size + 1) (dv m f' g') 30, pBlk w.heap.size (dv m f g) 30])) (fun _ t _ => m - (intOf t).toNat)
  case atStart => exact ⟨0, by omega, rfl, by rw [H0.out]; exact HH4⟩
  case round =>
    clear HH4
    obtain ⟨y, hy, rfl, hH⟩ := hrel
    have cn := hH.cell 3 rfl hn'
    by_cases hym : y < m
    · have hym' : (y : Int) < m := by omega
      have c3 := C3.out y hym
      have c4 := C4.out y hym
      have hs := CP.out y hym
      have hT := HT.out y
      have hl := HTL.out y
      generalize namF f' g' m y = s at *
      generalize renF s f' m = F2 at *
      generalize renF s g' m = G2 at *
      have C5 := hide c3; clear c3
      have C6 := hide c4; clear c4
      have C7 := hide fun w => sBack_any s m hm (fun i hi => hs.lt16 (by omega)) w
      have hp16 := HP0.out
      have C8 := hide fun w => sThen_any p (backF s m) m hm (fun i hi => hp16.lt16 (by omega)) w
      have hiso : isoP p m s = thenF p (backF s m) m := rfl
      clear hp16 hs
      rw [hiso] at hT
      clear hiso
      generalize thenF p (backF s m) m = r at *
      generalize hM1 : AT (y + 1) = M1 at *
      generalize hM0 : AT y = M at *
      have HM1 := hide hM1; clear hM1
      have HM0 := hide hM0; clear hM0
      have ce := hH.cells 3 rfl
      obtain ⟨A', c', rfl⟩ := hH.plForm 0 rfl
      go_wp2_with fail
      refine (C5.out _).mono ?_
      rintro e w4 ⟨rfl, hb⟩
      have H5 := (hH.call hb).blk (av s) 28 w4.heap.size rfl
      clear hb ce cn hH
      go_wp2
      generalize w4.alloc (.cells (av s) 28) = w5 at *
      generalize w4.heap.size = G6 at *
      refine Rd.region_P (w0 := w) (pBlk G6 (av s) 28 :: [pBlk G5 (dv m F1 G1) 30, pBlk G4 (av p) 28, pBlk (w.heap.size + 1) (dv m f' g') 30, pBlk w.heap.size (dv m f g) 30]) (pBlk G6 (av s) 28 :: pPl (.slice A' M.length c') M :: [pBlk G5 (dv m F1 G1) 30, pBlk G4 (av p) 28, pBlk (w.heap.size + 1) (dv m f' g') 30, pBlk w.heap.size (dv m f g) 30]) [] (.q 0 <| .q 1 <| .q 2 <| .q 3 <| .q 4 .fin) H5 (.cons_cons _ (.cons _ (.refl _))) (by kernel_rfl) (by kernel_rfl) (by kernel_rfl) ?_
      iterate 2
        apply Rd.v_q
        · simp only [List.getElem?_toArray, List.getElem?_cons_zero, List.getElem?_cons_succ]; exact rfl
        · rfl
        · go_simp
        · intro wx hx
          have q0 := hx.cells 0 rfl
          have q1 := hx.cells 1 rfl
          have q2 := hx.cells 2 rfl
          have q3 := hx.cells 3 rfl
          have q4 := hx.cells 4 rfl
          have q5 := hx.cell 4 rfl hn
          unfold atG
          go_simp
          simp only [uponG]
          exact ⟨by trivial, rfl⟩

      iterate 1
        apply Rd.v_q
        · simp only [List.getElem?_toArray, List.getElem?_cons_zero, List.getElem?_cons_succ]; exact rfl
        · rfl
        · go_simp
        · intro wx hx
          have q0 := hx.cells 0 rfl
          have q1 := hx.cells 1 rfl
          have q2 := hx.cells 2 rfl
          have q3 := hx.cells 3 rfl
          have q4 := hx.cells 4 rfl
          have q5 := hx.cell 4 rfl hn
          unfold atG
          go_simp
          simp only [uponG]
          exact ⟨by trivial, C6.out wx⟩

      iterate 2
        apply Rd.v_q
        · simp only [List.getElem?_toArray, List.getElem?_cons_zero, List.getElem?_cons_succ]; exact rfl
        · rfl
        · go_simp
        · intro wx hx
          have q0 := hx.cells 0 rfl
          have q1 := hx.cells 1 rfl
          have q2 := hx.cells 2 rfl
          have q3 := hx.cells 3 rfl
          have q4 := hx.cells 4 rfl
          have q5 := hx.cell 4 rfl hn
          unfold atG
          go_simp
          simp only [uponG]
          exact ⟨by trivial, rfl⟩

      rintro w6 - H6
      clear H5
      rcases hq : eqDB m F2 G2 m F1 G1 with _ | _
      · rw [hq, if_neg (by simp)] at hT
        have HT1 := hide hT; clear hT
        go_simp
        go_wp2
        go_roundw
        case rel => exact ⟨y + 1, by omega, by go_num, by rw [HM1.out, HT1.out]; exact H6.tail⟩
        case measure => simp [intOf]; omega
      · rw [hq, if_pos rfl] at hT
        have HT1 := hide hT; clear hT
        go_simp
        go_wp2
        refine Rd.region_P (w0 := w) (pBlk G6 (av s) 28 :: [pBlk G5 (dv m F1 G1) 30, pBlk G4 (av p) 28, pBlk (w.heap.size + 1) (dv m f' g') 30, pBlk w.heap.size (dv m f g) 30]) (pBlk G6 (av s) 28 :: pPl (.slice A' M.length c') M :: [pBlk G5 (dv m F1 G1) 30, pBlk G4 (av p) 28, pBlk (w.heap.size + 1) (dv m f' g') 30, pBlk w.heap.size (dv m f g) 30]) [9, 10] (.q 0 <| .q 1 <| .q 2 <| .q 3 <| .q 4 <| .q 5 <| .q 6 <| .q 7 <| .q 8 <| .s1 9 <| .s1 10 <| .q 11 .fin) H6 (.cons_cons _ (.cons _ (.refl _))) (by kernel_rfl) (by kernel_rfl) (by kernel_rfl) ?_
        iterate 5
          apply Rd.v_q
          · simp only [List.getElem?_toArray, List.getElem?_cons_zero, List.getElem?_cons_succ]; exact rfl
          · rfl
          · go_simp
          · intro wx hx
            have q0 := hx.cells 0 rfl
            have q1 := hx.cells 1 rfl
            have q2 := hx.cells 2 rfl
            have q3 := hx.cells 3 rfl
            have q4 := hx.cells 4 rfl
            have q5 := hx.cell 4 rfl hn
            unfold atG
            go_simp
            simp only [uponG]
            exact ⟨by trivial, rfl⟩

        iterate 1
          apply Rd.v_q
          · simp only [List.getElem?_toArray, List.getElem?_cons_zero, List.getElem?_cons_succ]; exact rfl
          · rfl
          · go_simp
          · intro wx hx
            have q0 := hx.cells 0 rfl
            have q1 := hx.cells 1 rfl
            have q2 := hx.cells 2 rfl
            have q3 := hx.cells 3 rfl
            have q4 := hx.cells 4 rfl
            have q5 := hx.cell 4 rfl hn
            unfold atG
            go_simp
            simp only [uponG]
            exact ⟨by trivial, C7.out wx⟩

        iterate 2
          apply Rd.v_q
          · simp only [List.getElem?_toArray, List.getElem?_cons_zero, List.getElem?_cons_succ]; exact rfl
          · rfl
          · go_simp
          · intro wx hx
            have q0 := hx.cells 0 rfl
            have q1 := hx.cells 1 rfl
            have q2 := hx.cells 2 rfl
            have q3 := hx.cells 3 rfl
            have q4 := hx.cells 4 rfl
            have q5 := hx.cell 4 rfl hn
            unfold atG
            go_simp
            simp only [uponG]
            exact ⟨by trivial, rfl⟩

        iterate 1
          apply Rd.v_q
          · simp only [List.getElem?_toArray, List.getElem?_cons_zero, List.getElem?_cons_succ]; exact rfl
          · rfl
          · go_simp
          · intro wx hx
            have q0 := hx.cells 0 rfl
            have q1 := hx.cells 1 rfl
            have q2 := hx.cells 2 rfl
            have q3 := hx.cells 3 rfl
            have q4 := hx.cells 4 rfl
            have q5 := hx.cell 4 rfl hn
            unfold atG
            go_simp
            simp only [uponG]
            exact ⟨by trivial, C8.out wx⟩

        refine Rd.v_build (av r) 28 1 (by simp only [List.getElem?_toArray, List.getElem?_cons_zero, List.getElem?_cons_succ]; exact rfl) rfl (by go_simp) (fun wx hx hD => by go_simp) fun gq => ?_
        refine Rd.v_s (fun u wx => Holds w wx (pPl u (M ++ [r]) :: [pBlk G5 (dv m F1 G1) 30, pBlk G4 (av p) 28, pBlk (w.heap.size + 1) (dv m f' g') 30, pBlk w.heap.size (dv m f g) 30])) (fun u _ _ h hb => h.call hb) (by simp only [List.getElem?_toArray, List.getElem?_cons_zero, List.getElem?_cons_succ]; exact rfl) rfl (by go_simp) (fun wx hx hD => ?_) ?_
        · exact upon_appPl hD 2 rfl gq r 28 (hD.at 0 rfl) (by omega) (fun v' w' h2 => ⟨h2.sub (.cons _ (.cons_cons _ (.cons _ (.refl _)))), h2.sub (.cons _ (.cons _ (.refl _)))⟩) _ _ rfl (by go_simp) (by go_simp)
        rintro v' -
        iterate 1
          apply Rd.v_q
          · simp only [List.getElem?_toArray, List.getElem?_cons_zero, List.getElem?_cons_succ]; exact rfl
          · rfl
          · go_simp
          · intro wx hx
            have q0 := hx.cells 0 rfl
            have q1 := hx.cells 1 rfl
            have q2 := hx.cells 2 rfl
            have q3 := hx.cells 3 rfl
            have q4 := hx.cells 4 rfl
            have q5 := hx.cell 4 rfl hn
            unfold atG
            go_simp
            simp only [uponG]
            exact ⟨by trivial, rfl⟩

        rintro w7 - hx7
        clear H6
        go_simp
        go_wp2
        go_roundw
        case rel => exact ⟨y + 1, by omega, by go_num, by rw [HM1.out, HT1.out]; exact hx7⟩
        case measure => simp [intOf]; omega
    · obtain rfl : y = m := by omega
      clear hy hym
      go_wp2
      go_ret
      refine ⟨u5, rfl, hH.low, ?_⟩
      exact hH.row 0 rfl
end Go.Proofs.Ytjhpkibeddnbfaa

namespace Go.Proofs.Ytjhpkibeddnbfaa
open Go.RowKit

/-- a row of permutations wherever it lies, by its cells -/
def OwnR (B : Nat) (w : World) (v : Value) (n : Nat) (xs : List Value) : Prop := w.ownsRow B 28 16 v n xs
theorem OwnR.kept {B n : Nat} {w w' : World} {v : Value} {xs : List Value} {r : Option Nat} (h : OwnR B w v n xs) (hg : w.grownBy w' r) (hne : v.ownBlock = none ∨ v.ownBlock ≠ r) : OwnR B w' v n xs := World.ownsRow.kept h hg hne
theorem OwnR.below {B C n : Nat} {w w' : World} {v : Value} {xs : List Value} (h : OwnR B w v n xs) (hb : Below C w w') (hC : w.heap.size ≤ C) : OwnR B w' v n xs := h.kept (grown_of_below (hb.mono hC) none) (Classical.em _)
theorem OwnR.lower {B C n : Nat} {w w' : World} {v : Value} {xs : List Value} (h : OwnR B w v n xs) (hb : Below C w w') (hC : ∀ k, v.ownBlock = some k → k < C) : OwnR B w' v n xs := by
  refine ⟨h.1, ?_⟩
  rcases h.2 with c | ⟨g, cap, cur, rfl, h1, h2, h3⟩
  · exact .inl c
  · exact .inr ⟨g, cap, cur, rfl, h1, by rw [hb.block g (hC g rfl)]; exact h2, h3⟩
theorem OwnR.low {B n : Nat} {w : World} {v : Value} {xs : List Value} (h : OwnR B w v n xs) : ∀ k, v.ownBlock = some k → k < w.heap.size := fun k hk => (World.ownsRow.lt h k hk).2
theorem ownR_form {B n : Nat} {w : World} {v : Value} {xs : List Value} (h : OwnR B w v n xs) : ∃ A c, v = .slice A n c ∧ OwnR B w (.slice A n c) n xs := by
  obtain ⟨A, c, rfl⟩ := own_slice h
  exact ⟨A, c, rfl, h⟩
/-- bytes in a row, by a function -/
def rb (h : Nat → Nat) (N : Nat) : List Value := (List.range N).map fun q => Value.int .u8 ((h q : Nat) : Int)
theorem rb_length (h : Nat → Nat) (N : Nat) : (rb h N).length = N := by unfold rb; simp
theorem rb_at (h : Nat → Nat) {N q : Nat} (hq : q < N) : (rb h N)[q]? = some (.int .u8 ((h q : Nat) : Int)) := by unfold rb; simp [hq]
theorem rb_set (h : Nat → Nat) (N q v : Nat) : (rb h N).set q (.int .u8 ((v : Nat) : Int)) = rb (fset h q v) N := by
  apply List.ext_getElem?
  intro i
  rw [List.getElem?_set]
  by_cases c : i < N
  · rw [rb_at _ c, rb_at _ c]
    unfold fset
    by_cases e : q = i
    · subst e; rw [if_pos rfl, if_pos (by rw [rb_length]; exact c), if_pos rfl]
    · rw [if_neg e, if_neg (fun h => e h.symm)]
  · have h1 : ∀ h' : Nat → Nat, (rb h' N)[i]? = none := fun h' => List.getElem?_eq_none (by rw [rb_length]; omega)
    rw [h1, h1]
    by_cases e : q = i
    · subst e; rw [if_pos rfl, if_neg (by rw [rb_length]; omega)]
    · rw [if_neg e]
theorem rb_congr {h h' : Nat → Nat} {N : Nat} (e : ∀ q, q < N → h q = h' q) : rb h N = rb h' N := by
  unfold rb
  exact List.map_congr_left fun q hq => by rw [e q (List.mem_range.1 hq)]
def plH (l : List (Nat → Nat)) (q : Nat) : Nat := (l.getD (q / 16) fun _ => 0) (q % 16)
theorem plB_rb (l : List (Nat → Nat)) : plB l = rb (plH l) (l.length * 16) := by
  apply List.ext_getElem?
  intro q
  by_cases c : q < l.length * 16
  · have hk : q / 16 < l.length := by omega
    have h1 := plB_at hk (i := q % 16) (by omega)
    rw [show q / 16 * 16 + q % 16 = q by omega] at h1
    rw [h1, rb_at _ c]
    unfold plH
    rw [List.getD_eq_getElem?_getD, List.getElem?_eq_getElem hk]; rfl
  · rw [List.getElem?_eq_none (by rw [plB_length]; omega), List.getElem?_eq_none (by rw [rb_length]; omega)]
/-- marks, so many -/
def mkH (k0 t : Nat) (h : Nat → Nat) : Nat → Nat := fun q => if q < t then (k0 + q) % 256 else h q
theorem mkH_zero (k0 : Nat) (h : Nat → Nat) : mkH k0 0 h = h := by funext q; unfold mkH; rw [if_neg (by omega)]
theorem mkH_step (k0 t : Nat) (h : Nat → Nat) : fset (mkH k0 t h) t ((k0 + t) % 256) = mkH k0 (t + 1) h := by
  funext q
  unfold fset mkH
  by_cases c : q = t
  · subst c; rw [if_pos rfl, if_pos (by omega)]
  · rw [if_neg c]
    by_cases d : q < t
    · rw [if_pos d, if_pos (by omega)]
    · rw [if_neg d, if_neg (by omega)]
theorem mkH_all (k0 : Nat) {N : Nat} (h : Nat → Nat) : rb (mkH k0 N h) N = rb (fun q => (k0 + q) % 256) N := rb_congr fun q hq => by unfold mkH; rw [if_pos hq]
theorem wrap8 (K : Nat) : IntKind.u8.wrap ((K : Nat) : Int) = ((K % 256 : Nat) : Int) := by
  unfold IntKind.wrap
  simp [IntKind.signed, IntKind.bits]
theorem ownR_at {B n : Nat} {w : World} {A : Option Addr} {c : Nat} {h : Nat → Nat} (ho : OwnR B w (.slice A n c) n (rb h (n * 16))) {q : Nat} (hq : q < n * 16) :
    ∃ g, A = some ⟨g, 0, none⟩ ∧ g < w.heap.size ∧ w.cell? ⟨g, q, none⟩ = some (.int .u8 ((h q : Nat) : Int)) ∧ w.frozen? ⟨g, q, none⟩ = false := by
  obtain ⟨g, c', e, _, h2, _, _, h5, h6⟩ := row_at ho (by omega)
  injection e with e
  exact ⟨g, e, h2, h5 _ _ (rb_at _ hq), h6 q⟩

set_option maxRecDepth 100000 in
set_option maxHeartbeats 1000000 in
theorem heldPlacesS_any (n : Nat) (A : Option Addr) (c B : Nat) (hl : n ≤ 1000) (w : World) (h : OwnR B w (.slice A n c) n (rb (fun q => (1 + q) % 256) (n * 16))) :
    Calls Try.prog 18 #[.slice A n c, .int .i64 1] w fun e w' => e = .returned (.int .i64 (1 + 16 * n : Nat)) ∧ Below w.heap.size w w' := by
  have H := hide h; clear h
  have W8 := wrap8
  go_enter Try.func18, Try.ntmps18
  go_wp2
  go_loopw [1, 5] (fun q i wr => ∃ k K : Nat, k ≤ n ∧ i = .int .i64 k ∧ q = .int .i64 K ∧ K = 1 + 16 * k ∧ wr = w) (fun _ i _ => n - (intOf i).toNat)
  case atStart => exact ⟨0, 1, by omega, rfl, rfl, rfl, rfl⟩
  case round =>
    obtain ⟨k, K, hk, rfl, rfl, hK, hw⟩ := hrel
    have hw' := hw.symm; clear hw; subst hw'
    have HK := hide hK; clear hK
    by_cases hlt : k < n
    · have hlt' : (k : Int) < n := by omega
      go_wp2
      go_loopw [1, 6] (fun q i wr => ∃ j K : Nat, j ≤ 16 ∧ i = .int .i64 j ∧ q = .int .i64 K ∧ K = 1 + 16 * k + j ∧ wr = w) (fun _ i _ => 16 - (intOf i).toNat)
      case atStart => exact ⟨0, K, by omega, rfl, rfl, by rw [HK.out]; rfl, rfl⟩
      case round =>
        clear HK
        obtain ⟨j, K, hj, rfl, rfl, hK, hw⟩ := hrel
        have hw' := hw.symm; clear hw; subst hw'
        by_cases hj16 : j < 16
        · obtain ⟨g, hA, hg, h1, _⟩ := ownR_at H.out (q := k * 16 + j) (by omega)
          subst hA
          have hv : (1 + (k * 16 + j)) % 256 = K % 256 := by rw [hK]; congr 1; omega
          rw [hv] at h1
          have hK2 : K ≤ 20000 := by omega
          have HK := hide hK; clear hK hv
          have hj' : (j : Int) < 16 := by omega
          have w8 := W8 K
          have hne : ((((K % 256 : Nat)) : Int) != (((K % 256 : Nat)) : Int)) = false := by simp
          go_wp2
          go_roundw
          case rel => exact ⟨j + 1, K + 1, by omega, by go_num, by go_num, by rw [HK.out]; omega, by first | rfl | trivial⟩
          case measure => simp [intOf]; omega
        · obtain rfl : j = 16 := by omega
          have HK := hide hK; clear hK hj hj16
          go_wp2
          go_roundw
          case rel => exact ⟨k + 1, K, by omega, by go_num, rfl, by rw [HK.out]; omega, by first | rfl | trivial⟩
          case measure => simp [intOf]; omega
    · obtain rfl : k = n := by omega
      have hKe := HK.out
      subst hKe
      clear HK
      go_wp2
      go_ret
      exact ⟨rfl, Below.refl _ _⟩

set_option maxRecDepth 100000 in
set_option maxHeartbeats 1000000 in
theorem markPlacesS_any (n : Nat) (A : Option Addr) (c B : Nat) (hl : n ≤ 1000) (f : Nat → Nat) (w : World) (h : OwnR B w (.slice A n c) n (rb f (n * 16))) :
    Calls Try.prog 17 #[.slice A n c, .int .i64 1] w fun e w' => e = .returned (.int .i64 (1 + 16 * n : Nat)) ∧ w.grownBy w' (Value.slice A n c).ownBlock ∧ OwnR B w' (.slice A n c) n (rb (fun q => (1 + q) % 256) (n * 16)) := by
  have W8 := wrap8
  go_enter Try.func17, Try.ntmps17
  go_wp2
  go_loopw [1, 5] (fun q i wr => ∃ k K : Nat, k ≤ n ∧ i = .int .i64 k ∧ q = .int .i64 K ∧ K = 1 + 16 * k ∧ w.grownBy wr (Value.slice A n c).ownBlock ∧ OwnR B wr (.slice A n c) n (rb (mkH 1 (16 * k) f) (n * 16))) (fun _ i _ => n - (intOf i).toNat)
  case atStart => exact ⟨0, 1, by omega, rfl, rfl, rfl, grown_refl _ _, by rw [mkH_zero]; exact h⟩
  case round =>
    clear h
    obtain ⟨k, K, hk, rfl, rfl, hK, hg, ho⟩ := hrel
    have HK := hide hK; clear hK
    have HG := hide hg; clear hg
    have HO := hide ho; clear ho
    by_cases hlt : k < n
    · have hlt' : (k : Int) < n := by omega
      go_wp2
      go_loopw [1, 6] (fun q i wr => ∃ j K : Nat, j ≤ 16 ∧ i = .int .i64 j ∧ q = .int .i64 K ∧ K = 1 + 16 * k + j ∧ w.grownBy wr (Value.slice A n c).ownBlock ∧ OwnR B wr (.slice A n c) n (rb (mkH 1 (16 * k + j) f) (n * 16))) (fun _ i _ => 16 - (intOf i).toNat)
      case atStart => exact ⟨0, K, by omega, rfl, rfl, by rw [HK.out]; rfl, HG.out, HO.out⟩
      case round =>
        clear HK HG HO
        obtain ⟨j, K, hj, rfl, rfl, hK, hg, ho⟩ := hrel
        by_cases hj16 : j < 16
        · obtain ⟨g, hA, hgl, h1, h2⟩ := ownR_at ho (q := k * 16 + j) (by omega)
          have hs := World.ownsRow.stored (hA ▸ ho : wr.ownsRow B 28 16 (.slice (some ⟨g, 0, none⟩) n c) n (rb (mkH 1 (16 * k + j) f) (n * 16))) (k * 16 + j) (.int .u8 ((K % 256 : Nat) : Int))
          have hst := mkH_step 1 (16 * k + j) f
          have e1 : k * 16 + j = 16 * k + j := by omega
          have e2 : (1 + (16 * k + j)) % 256 = K % 256 := by rw [hK]; congr 1; omega
          rw [e2] at hst
          have hsr : (rb (mkH 1 (16 * k + j) f) (n * 16)).set (k * 16 + j) (.int .u8 ((K % 256 : Nat) : Int)) = rb (mkH 1 (16 * k + (j + 1)) f) (n * 16) := by
            rw [rb_set, e1, hst]; rfl
          rw [hsr] at hs
          have hg2 : w.grownBy (wr.setCell ⟨g, k * 16 + j, none⟩ (.int .u8 ((K % 256 : Nat) : Int))) (Value.slice A n c).ownBlock := by rw [hA]; rw [hA] at hg; exact grown_setCell hg
          subst hA
          have HS := hide hs.1; clear hs
          have HG := hide hg2; clear hg2
          clear hst hsr e1 e2 ho hg
          have hK2 : K ≤ 20000 := by omega
          have HK := hide hK; clear hK
          have hj' : (j : Int) < 16 := by omega
          have w8 := W8 K
          go_wp2
          go_roundw
          case rel => exact ⟨j + 1, K + 1, by omega, by go_num, by go_num, by rw [HK.out]; omega, HG.out, HS.out⟩
          case measure => simp [intOf]; omega
        · obtain rfl : j = 16 := by omega
          have HK := hide hK; clear hK hj hj16
          have HG := hide hg; clear hg
          have HO := hide ho; clear ho
          go_wp2
          go_roundw
          case rel => exact ⟨k + 1, K, by omega, by go_num, rfl, by rw [HK.out]; omega, HG.out, by rw [show 16 * (k + 1) = 16 * k + 16 by omega]; exact HO.out⟩
          case measure => simp [intOf]; omega
    · obtain rfl : k = n := by omega
      have hKe := HK.out
      subst hKe
      clear HK
      go_wp2
      go_ret
      refine ⟨rfl, HG.out, ?_⟩
      have := HO.out
      rw [show 16 * k = k * 16 by omega, mkH_all] at this
      exact this
theorem mkP (l : List (Nat → Nat)) (A : Option Addr) (c B : Nat) (hl : l.length ≤ 1000) (w : World) (hBw : B ≤ w.heap.size) (h : OwnR B w (.slice A l.length c) l.length (plB l)) :
    Calls Try.prog 17 #[.slice A l.length c, .int .i64 1] w fun e w' => e = .returned (.int .i64 (1 + 16 * l.length : Nat)) ∧ Below B w w' ∧ w.heap.size ≤ w'.heap.size ∧ OwnR B w' (.slice A l.length c) l.length (rb (fun q => (1 + q) % 256) (l.length * 16)) := by
  rw [plB_rb] at h
  exact (markPlacesS_any l.length A c B hl _ w h).mono fun e w' ⟨h1, h2, h3⟩ => ⟨h1, (Below.refl B w).grown h2 hBw (fun g hg => (World.ownsRow.lt h g hg).1), h2.size, h3⟩
theorem hdP (l : List (Nat → Nat)) (A : Option Addr) (c B : Nat) (hl : l.length ≤ 1000) (w : World) (h : OwnR B w (.slice A l.length c) l.length (rb (fun q => (1 + q) % 256) (l.length * 16))) :
    Calls Try.prog 18 #[.slice A l.length c, .int .i64 1] w fun e w' => e = .returned (.int .i64 (1 + 16 * l.length : Nat)) ∧ Below w.heap.size w w' := heldPlacesS_any l.length A c B hl w h
end Go.Proofs.Ytjhpkibeddnbfaa

namespace Go.Proofs.Ytjhpkibeddnbfaa
open Go.RowKit

set_option maxRecDepth 100000 in
set_option maxHeartbeats 1000000 in
theorem eqPlacesS_same (l : List (Nat → Nat)) (A A' : Option Addr) (c c' B B' : Nat) (hl : l.length ≤ 1000) (w : World) (h : OwnR B w (.slice A l.length c) l.length (plB l)) (h' : OwnR B' w (.slice A' l.length c') l.length (plB l)) :
    Calls Try.prog 16 #[.slice A l.length c, .slice A' l.length c'] w fun e w' => e = .returned (.bool true) ∧ Below w.heap.size w w' := by
  have H := hide h; clear h
  have H' := hide h'; clear h'
  have T0 := hide fun p w => eqPlaces_same p w
  have hne : (((l.length : Nat) : Int) != ((l.length : Nat) : Int)) = false := by simp
  go_enter Try.func16, Try.ntmps16
  go_wp2
  go_loopw [5] (fun i wr => ∃ k : Nat, k ≤ l.length ∧ i = .int .i64 k ∧ Grown w wr) (fun i _ => l.length - (intOf i).toNat)
  case atStart => exact ⟨0, by omega, rfl, Below.refl _ _⟩
  case round =>
    obtain ⟨k, hk, rfl, hG⟩ := hrel
    by_cases hlt : k < l.length
    · have hlt' : (k : Int) < l.length := by omega
      obtain ⟨g0, c0, e0, _, hg0, x0⟩ := row_extract (H.out.below hG (Nat.le_refl _)) hlt
      obtain ⟨g1, c1, e1, _, hg1, x1⟩ := row_extract (H'.out.below hG (Nat.le_refl _)) hlt
      injection e0 with e0 e0a e0b
      injection e1 with e1 e1a e1b
      subst e0 e1
      clear e0a e0b e1a e1b
      generalize l[k] = p at *
      have X0 := hide x0; clear x0
      have X1 := hide x1; clear x1
      have HG := hide hG; clear hG
      go_wp2
      refine region_V (w := wr) (fun _ => none) (fun _ => false) [] (.q 0 <| .q 1 <| .q 2 <| .q 3 <| .q 4 <| .q 5 <| .q 6 <| .q 7 <| .q 8 <| .q 9 .fin) (by kernel_rfl) (by kernel_rfl) (by kernel_rfl) (fun k hk => ?_) ?_
      · simp at hk; simp [hk]

      apply v_other
      · simp only [List.getElem?_toArray, List.getElem?_cons_zero, List.getElem?_cons_succ]; exact rfl
      · rfl
      · rfl
      · go_simp
      · intro wx hx
        have z0 := hx.cells (rfl : cellsOf wr g0 = cellsOf wr g0) hg0
        have z1 := hx.cells (rfl : cellsOf wr g1 = cellsOf wr g1) hg1
        have l0 := run_loadR (w := wx) (g := g0) (o := k * 16) (p := p) (by rw [z0]; exact X0.out)
        have l1 := run_loadR (w := wx) (g := g1) (o := k * 16) (p := p) (by rw [z1]; exact X1.out)
        clear z0 z1
        unfold atG
        go_simp
        simp only [uponG]
        exact ⟨by trivial, rfl⟩
      apply v_other
      · simp only [List.getElem?_toArray, List.getElem?_cons_zero, List.getElem?_cons_succ]; exact rfl
      · rfl
      · rfl
      · go_simp
      · intro wx hx
        have z0 := hx.cells (rfl : cellsOf wr g0 = cellsOf wr g0) hg0
        have z1 := hx.cells (rfl : cellsOf wr g1 = cellsOf wr g1) hg1
        have l0 := run_loadR (w := wx) (g := g0) (o := k * 16) (p := p) (by rw [z0]; exact X0.out)
        have l1 := run_loadR (w := wx) (g := g1) (o := k * 16) (p := p) (by rw [z1]; exact X1.out)
        clear z0 z1
        unfold atG
        go_simp
        simp only [uponG]
        exact ⟨by trivial, rfl⟩
      apply v_other
      · simp only [List.getElem?_toArray, List.getElem?_cons_zero, List.getElem?_cons_succ]; exact rfl
      · rfl
      · rfl
      · go_simp
      · intro wx hx
        have z0 := hx.cells (rfl : cellsOf wr g0 = cellsOf wr g0) hg0
        have z1 := hx.cells (rfl : cellsOf wr g1 = cellsOf wr g1) hg1
        have l0 := run_loadR (w := wx) (g := g0) (o := k * 16) (p := p) (by rw [z0]; exact X0.out)
        have l1 := run_loadR (w := wx) (g := g1) (o := k * 16) (p := p) (by rw [z1]; exact X1.out)
        clear z0 z1
        unfold atG
        go_simp
        simp only [uponG]
        exact ⟨by trivial, rfl⟩
      apply v_other
      · simp only [List.getElem?_toArray, List.getElem?_cons_zero, List.getElem?_cons_succ]; exact rfl
      · rfl
      · rfl
      · go_simp
      · intro wx hx
        have z0 := hx.cells (rfl : cellsOf wr g0 = cellsOf wr g0) hg0
        have z1 := hx.cells (rfl : cellsOf wr g1 = cellsOf wr g1) hg1
        have l0 := run_loadR (w := wx) (g := g0) (o := k * 16) (p := p) (by rw [z0]; exact X0.out)
        have l1 := run_loadR (w := wx) (g := g1) (o := k * 16) (p := p) (by rw [z1]; exact X1.out)
        clear z0 z1
        unfold atG
        go_simp
        simp only [uponG]
        exact ⟨by trivial, rfl⟩
      apply v_other
      · simp only [List.getElem?_toArray, List.getElem?_cons_zero, List.getElem?_cons_succ]; exact rfl
      · rfl
      · rfl
      · go_simp
      · intro wx hx
        have z0 := hx.cells (rfl : cellsOf wr g0 = cellsOf wr g0) hg0
        have z1 := hx.cells (rfl : cellsOf wr g1 = cellsOf wr g1) hg1
        have l0 := run_loadR (w := wx) (g := g0) (o := k * 16) (p := p) (by rw [z0]; exact X0.out)
        have l1 := run_loadR (w := wx) (g := g1) (o := k * 16) (p := p) (by rw [z1]; exact X1.out)
        clear z0 z1
        unfold atG
        go_simp
        simp only [uponG]
        exact ⟨by trivial, rfl⟩
      apply v_other
      · simp only [List.getElem?_toArray, List.getElem?_cons_zero, List.getElem?_cons_succ]; exact rfl
      · rfl
      · rfl
      · go_simp
      · intro wx hx
        have z0 := hx.cells (rfl : cellsOf wr g0 = cellsOf wr g0) hg0
        have z1 := hx.cells (rfl : cellsOf wr g1 = cellsOf wr g1) hg1
        have l0 := run_loadR (w := wx) (g := g0) (o := k * 16) (p := p) (by rw [z0]; exact X0.out)
        have l1 := run_loadR (w := wx) (g := g1) (o := k * 16) (p := p) (by rw [z1]; exact X1.out)
        clear z0 z1
        unfold atG
        go_simp
        simp only [uponG]
        exact ⟨by trivial, rfl⟩
      apply v_other
      · simp only [List.getElem?_toArray, List.getElem?_cons_zero, List.getElem?_cons_succ]; exact rfl
      · rfl
      · rfl
      · go_simp
      · intro wx hx
        have z0 := hx.cells (rfl : cellsOf wr g0 = cellsOf wr g0) hg0
        have z1 := hx.cells (rfl : cellsOf wr g1 = cellsOf wr g1) hg1
        have l0 := run_loadR (w := wx) (g := g0) (o := k * 16) (p := p) (by rw [z0]; exact X0.out)
        have l1 := run_loadR (w := wx) (g := g1) (o := k * 16) (p := p) (by rw [z1]; exact X1.out)
        clear z0 z1
        unfold atG
        go_simp
        simp only [uponG]
        exact ⟨by trivial, rfl⟩
      apply v_other
      · simp only [List.getElem?_toArray, List.getElem?_cons_zero, List.getElem?_cons_succ]; exact rfl
      · rfl
      · rfl
      · go_simp
      · intro wx hx
        have z0 := hx.cells (rfl : cellsOf wr g0 = cellsOf wr g0) hg0
        have z1 := hx.cells (rfl : cellsOf wr g1 = cellsOf wr g1) hg1
        have l0 := run_loadR (w := wx) (g := g0) (o := k * 16) (p := p) (by rw [z0]; exact X0.out)
        have l1 := run_loadR (w := wx) (g := g1) (o := k * 16) (p := p) (by rw [z1]; exact X1.out)
        clear z0 z1
        unfold atG
        go_simp
        simp only [uponG]
        exact ⟨by trivial, rfl⟩

      apply v_other
      · simp only [List.getElem?_toArray, List.getElem?_cons_zero, List.getElem?_cons_succ]; exact rfl
      · rfl
      · rfl
      · go_simp
      · intro wx hx
        unfold atG
        go_simp
        simp only [uponG]
        exact ⟨by trivial, T0.out p wx⟩
      apply v_other
      · simp only [List.getElem?_toArray, List.getElem?_cons_zero, List.getElem?_cons_succ]; exact rfl
      · rfl
      · rfl
      · go_simp
      · intro wx hx
        unfold atG
        go_simp
        simp only [uponG]
        exact ⟨by trivial, rfl⟩

      intro w2 hx _
      clear hg0 hg1
      go_simp
      go_wp2
      go_roundw
      case rel => exact ⟨k + 1, by omega, by go_num, Below.trans HG.out (Below.mono hx HG.out.size)⟩
      case measure => simp [intOf]; omega
    · obtain rfl : k = l.length := by omega
      have HG := hide hG; clear hG
      go_wp2
      go_ret
      exact ⟨rfl, HG.out⟩
end Go.Proofs.Ytjhpkibeddnbfaa
