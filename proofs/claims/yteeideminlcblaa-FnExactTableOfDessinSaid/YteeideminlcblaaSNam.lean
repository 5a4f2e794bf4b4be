/- spec.l02Naming -/
import Derived.Test.YteeideminlcblaaNam
import Derived.Test.YteeideminlcblaaCell
namespace Go.Proofs.Yteeideminlcblaa
open Go.RowKit

/-- one byte more at the end of a list of bytes of the call's own -/
theorem appB {ops : Array Oper} {rest : List Oper} {o : Oper} {a : Act} {Q : Exit → Act → World → Prop} {w : World} {t : TypeId} (hgd : o.guard = none) (s x : Operand)
    (ho : o.op = .call { callee := .builtin .append, args := #[s, x], argTypes := #[80, 80] }) {B : Nat} {v : Value} {l : List Nat} (hs : a.eval s = v) (hown : OwnB B w v l) (hB : B ≤ w.heap.size)
    (y : Nat) (g : Nat) (hx : a.eval x = .slice (some ⟨g, 0, none⟩) 1 1) (hg : g = w.heap.size) (hl : l.length ≤ 1000000000)
    (h : ∀ v' w', OwnB B w' v' (l ++ [y]) → w.grownBy w' v.ownBlock → w.heap.size < w'.heap.size → wpList Try.prog ops Q rest (a.put o.dst v') w') :
    wpList Try.prog ops Q (o :: rest) a (w.alloc (.cells #[.int .u8 (y : Int)] t)) := by
  obtain ⟨i0, hi, hz0, hz1, hz2⟩ := info_parts infoU8
  unfold OwnB at hown
  refine wpList_append_own (P := Try.prog) _ hgd s x 80 ho B 5 i0 (.int .u8 0) 1 1 Try.underlying80 hi hz0 hz1 hz2 rfl (by decide) v l.length (bytesL l) hs (hown.alloc _) ⟨g, 0, none⟩ 1 1 [.int .u8 (y : Int)] hx rfl
    (one_new _ _ _ _ hg) (fun u hu => ?_) (by unfold maxLen; omega) (by omega) (by simp; omega) fun v' w' h1 h2 _ => h v' w' ?_ ?_ ?_
  · simp at hu; subst hu; rfl
  · unfold OwnB bytesL at *
    simpa using h1
  · exact grown_step (grown_alloc (grown_refl w v.ownBlock) _) h2 fun g hg => .inr hg
  · have := h2.size; simp at this; omega

theorem heap4 {w : World} {o o1 o2 o3 o4 : Obj} {g : Nat} (h : g = w.heap.size) : (((((w.alloc o).alloc o1).alloc o2).alloc o3).alloc o4).heap[g]? = some o := (heap_past _ _ _ (by simp; omega)).trans (heap3 h)
/-- what l02Naming has made -/
structure NW (w wr : World) (m : Nat) (f g : Nat → Nat) (o : Nat → Nat) (b : Nat → Bool) : Prop where
  low : Below w.heap.size w wr
  des : cellsOf wr w.heap.size = dv m f g
  res : rowOk wr (w.heap.size + 1) 16
  out : wr.heap[w.heap.size + 1 + 1 + 1]? = some (.cells (av o) 34 (0, 0))
  met : wr.heap[w.heap.size + 1 + 1 + 1 + 1]? = some (.cells (bv b) 115 (0, 0))
theorem NW.lt {w wr : World} {m : Nat} {f g o : Nat → Nat} {b : Nat → Bool} (h : NW w wr m f g o b) : w.heap.size + 1 + 1 + 1 + 1 < wr.heap.size := (Array.getElem?_eq_some_iff.1 h.met).1
theorem NW.grown {w wr w' : World} {m : Nat} {f g o : Nat → Nat} {b : Nat → Bool} {r : Option Nat} (h : NW w wr m f g o b) (hg : wr.grownBy w' r) (hr : ∀ k, r = some k → w.heap.size + 2 ≤ k ∧ k ≠ w.heap.size + 1 + 1 + 1 ∧ k ≠ w.heap.size + 1 + 1 + 1 + 1) : NW w w' m f g o b := by
  have hl := h.lt
  exact ⟨h.low.grown hg (by omega) (fun k hk => by have := hr k hk; omega), (grown_cells hg (by omega) (fun e => by have := hr _ e.symm; omega)).trans h.des, (grown_row hg (by omega) (fun e => by have := hr _ e.symm; omega)).2 h.res,
    (hg.block _ (by omega) (fun e => (hr _ e.symm).2.1 rfl)).trans h.out, (hg.block _ (by omega) (fun e => (hr _ e.symm).2.2 rfl)).trans h.met⟩
theorem NW.setB {w wr : World} {m : Nat} {f g o : Nat → Nat} {b : Nat → Bool} (h : NW w wr m f g o b) (y : Nat) : NW w (wr.setCell ⟨w.heap.size + 1 + 1 + 1 + 1, y, none⟩ (.bool true)) m f g o (mset b y) := by
  refine ⟨below_setCell h.low (by omega) _ _, (cellsOf_setCell_ne (by omega)).trans h.des, rowOk_setCell h.res, ?_, ?_⟩
  · rw [Below.heap_setCell wr ⟨w.heap.size + 1 + 1 + 1 + 1, y, none⟩ _ _ (show w.heap.size + 1 + 1 + 1 ≠ w.heap.size + 1 + 1 + 1 + 1 by omega)]; exact h.out
  · rw [heap_setCell_same _ _ _ _ _ _ h.met, bv_set]
theorem NW.setO {w wr : World} {m : Nat} {f g o : Nat → Nat} {b : Nat → Bool} (h : NW w wr m f g o b) (y v : Nat) : NW w (wr.setCell ⟨w.heap.size + 1 + 1 + 1, y, none⟩ (.int .u8 v)) m f g (fset o y v) b := by
  refine ⟨below_setCell h.low (by omega) _ _, (cellsOf_setCell_ne (by omega)).trans h.des, rowOk_setCell h.res, ?_, ?_⟩
  · rw [heap_setCell_same _ _ _ _ _ _ h.out, av_set]
  · rw [Below.heap_setCell wr ⟨w.heap.size + 1 + 1 + 1, y, none⟩ _ _ (show w.heap.size + 1 + 1 + 1 + 1 ≠ w.heap.size + 1 + 1 + 1 by omega)]; exact h.met
theorem NW.far {w wr : World} {m : Nat} {f g o : Nat → Nat} {b : Nat → Bool} (h : NW w wr m f g o b) {v : Value} {l : List Nat} (ho : OwnB (w.heap.size + 2) wr v l) : ∀ k, v.ownBlock = some k → w.heap.size + 2 ≤ k ∧ k ≠ w.heap.size + 1 + 1 + 1 ∧ k ≠ w.heap.size + 1 + 1 + 1 + 1 := by
  intro k hk
  refine ⟨(World.ownsRow.lt ho k hk).1, fun e => ?_, fun e => ?_⟩
  · rcases own_ne_blk ho h.out (by decide) with c | c
    · rw [c] at hk; cases hk
    · exact c (by rw [hk, e])
  · rcases own_ne_blk ho h.met (by decide) with c | c
    · rw [c] at hk; cases hk
    · exact c (by rw [hk, e])
theorem OwnB.setCell {B g i : Nat} {w : World} {v u : Value} {l : List Nat} (h : OwnB B w v l) (hne : ∀ k, v.ownBlock = some k → k ≠ g) : OwnB B (w.setCell ⟨g, i, none⟩ u) v l :=
  World.ownsRow.kept h (grown_setCell (grown_refl w (some g))) (by rcases hv : v.ownBlock with _ | k; exact .inl rfl; exact .inr fun e => hne k hv (by injection e))
theorem lstF_at {f g : Nat → Nat} {m x k : Nat} (hI : BInv m (bfs f g x k)) (hm : m ≤ 16) (hk : k < (bfs f g x k).1.length) : lstF (bfs f g x 16).1 k = (bfs f g x k).1[k] := by
  have h16 := hI.length_le
  obtain ⟨t, ht⟩ := bfs_pre' f g x (show k ≤ 16 by omega)
  unfold lstF
  rw [← ht, List.getD_eq_getElem?_getD, List.getElem?_append_left hk, List.getElem?_eq_getElem hk]; rfl

set_option maxRecDepth 100000 in
set_option maxHeartbeats 2000000 in
theorem sNaming_any (f g : Nat → Nat) (m : Nat) (hd : DesN f g m) (x : Nat) (hx : x < m) (w : World) :
    Calls Try.prog 50 #[.agg (dv m f g), .int .i64 x] w fun e w' => e = .returned (.agg (av (namF f g m x))) ∧ Below w.heap.size w w' := by
  have hm := hd.le
  have hn := dv_n m f g
  obtain ⟨F, L, FI, F0, FN, FS, FL, FM, FE⟩ : ∃ (F : Nat → List Nat × (Nat → Bool)) (L : Nat → Nat), Hid (∀ k, BInv m (F k)) ∧ Hid (F 0 = ([x], mset (fun _ => false) x)) ∧ Hid (∀ k (hk : k < (F k).1.length), F (k + 1) = bst f g (F k) ((F k).1[k]) 2) ∧
      Hid (∀ k, k ≤ 16 → (F k).1.length ≤ k → F 16 = F k) ∧ Hid (∀ k (hk : k < (F k).1.length), L k = (F k).1[k]) ∧ Hid ((F 16).1.length = m) ∧ Hid (namF f g m x = backTo L m) :=
    ⟨bfs f g x, lstF (bfs f g x 16).1, hide fun k => bfs_inv hd.bf.1 hd.bg.1 hx k, hide (bfs_start f g x), hide fun k hk => bfs_next hk, hide fun k h1 h2 => bfs_stop h2 h1, hide fun k hk => lstF_at (bfs_inv hd.bf.1 hd.bg.1 hx k) hm hk, hide (bfs_full hd.bf hd.bg hd.le hd.conn hx), hide rfl⟩
  rw [FE.out]
  clear FE
  have HF := hide hd.bf.1
  have HG := hide hd.bg.1
  clear hd
  have hx16 : x < 16 := by omega
  have h0 := bv_set (fun _ => false) x
  rw [bv_false] at h0
  have hlit : bv (mset (fun _ => false) x) = bv (mset (fun _ => false) x) := rfl
  have hlit : bv (mset (fun _ => false) x) = bv (mset (fun _ => false) x) := rfl
  have hlit : bv (mset (fun _ => false) x) = bv (mset (fun _ => false) x) := rfl
  go_enter Try.func50, Try.ntmps50
  go_wp2
  rw [← av_zero]
  go_loopw [7, 8] (fun q i wr => ∃ k : Nat, k ≤ (F k).1.length ∧ i = .int .i64 k ∧ NW w wr m f g (backTo L k) (F k).2 ∧ OwnB (w.heap.size + 2) wr q (F k).1) (fun _ i _ => 17 - (intOf i).toNat)
  case atStart =>
    refine ⟨0, by omega, rfl, ⟨below5 _ _ _ _ _ _, cellsOf_heap (heap4 rfl), ⟨_, _, heap3 (by simp), av_size _⟩, heap1 (by simp), ?_⟩, ?_⟩
    · rw [F0.out]; exact heap_at _ _ _ (by simp)
    · rw [F0.out]
      exact ⟨by simp [bytesL], .inr ⟨w.heap.size + 1 + 1, 1, _, rfl, by omega, heap2 (by simp), by simp, by unfold maxLen; omega, by simp, by simp [bytesL]⟩⟩
  case round =>
    clear hlit h0
    obtain ⟨k, hk, rfl, hN, hO⟩ := hrel
    have hI := FI.out k
    have hl16 : (F k).1.length ≤ 16 := by have := hI.length_le; omega
    by_cases hlt : k < (F k).1.length
    · have hnext := FN.out k hlt
      have hX := hI.lt _ (List.getElem_mem hlt)
      have hLX := FL.out k hlt
      obtain ⟨g0, c, rfl, hB0, hg0, hc1, hc2, hcell⟩ := hO.at hlt
      have hk16 : k < 16 := by omega
      generalize hS : F k = S at *
      generalize S.1[k] = X at *
      have hX16 : X < 16 := by omega
      have hfX := HF.out X hX
      have hgX := HG.out X hX
      have c3 : wr.cell? ⟨w.heap.size + 1 + 1 + 1, X, none⟩ = some (.int .u8 (backTo L k X)) := by rw [cell_of_cells, cellsOf_heap hN.out, av_get _ hX16]
      have f3 : wr.frozen? ⟨w.heap.size + 1 + 1 + 1, X, none⟩ = false := by simp [World.frozen?, hN.out]
      have hN1 := hN.setO X k
      have hb1 : fset (backTo L k) X k = backTo L (k + 1) := by rw [← hLX]; rfl
      rw [hb1] at hN1
      have hO1 : OwnB (w.heap.size + 2) (wr.setCell ⟨w.heap.size + 1 + 1 + 1, X, none⟩ (.int .u8 k)) (.slice (some ⟨g0, 0, none⟩) S.1.length c) S.1 := OwnB.setCell hO fun q hq => (hN.far hO q hq).2.1
      have HS := hide hS; clear hS
      have HN := hide hnext; clear hnext
      have HIV := hide hI; clear hI
      have HN1 := hide hN1; clear hN1 hN hb1
      have HO1 := hide hO1; clear hO1 hO
      have HL := hide hLX; clear hLX
      generalize hb : backTo L k X = y0 at *
      clear hb
      go_wp2
      clear c3 f3 hcell
      have hN2 := HN1.out
      have hO2 := HO1.out
      clear HN1 HO1 hg0 hc1 hc2
      generalize wr.setCell ⟨w.heap.size + 1 + 1 + 1, X, none⟩ (.int .u8 k) = wz at *
      go_loopw [7, 10] (fun q j wr => ∃ jj : Nat, jj ≤ 2 ∧ j = .int .i64 jj ∧ NW w wr m f g (backTo L (k + 1)) (bst f g S X jj).2 ∧ OwnB (w.heap.size + 2) wr q (bst f g S X jj).1) (fun _ j _ => 2 - (intOf j).toNat)
      case atStart => exact ⟨0, by omega, rfl, hN2, hO2⟩
      case round =>
        clear hN2 hO2
        obtain ⟨j, hj, rfl, hN, hO⟩ := hrel
        by_cases hj2 : j < 2
        · have hjj : j = 0 ∨ j = 1 := by omega
          rcases hjj with hj0 | hj1
          · obtain rfl := hj0
            have hst : bst f g S X 1 = badd (bst f g S X 0) (f X) := rfl
            have hIT := bst_inv HIV.out hfX hgX 0
            have hTl : (bst f g S X 0).1.length ≤ 16 := by have := hIT.length_le; omega
            generalize bst f g S X 0 = T at *
            have cb : wr.cell? ⟨w.heap.size, 1 + X, none⟩ = some (.int .u8 (f X)) := by rw [cell_of_cells, hN.des, dv_b _ _ _ hX16]
            have cw : wr.cell? ⟨w.heap.size, 17 + X, none⟩ = some (.int .u8 (g X)) := by rw [cell_of_cells, hN.des, dv_w _ _ _ hX16]
            have hY16 : f X < 16 := by omega
            have hcm : cellsOf wr (w.heap.size + 1 + 1 + 1 + 1) = bv T.2 := cellsOf_heap hN.met
            have hsz := hN.lt
            have HST := hide hst; clear hst
            have HNW := hide hN
            have HO := hide hO; clear hO
            rcases hTY : T.2 (f X) with _ | _
            · have c0 : wr.cell? ⟨w.heap.size + 1 + 1 + 1 + 1, f X, none⟩ = some (.bool false) := by rw [cell_of_cells, hcm, bv_get _ hY16, hTY]
              have f0 : wr.frozen? ⟨w.heap.size + 1 + 1 + 1 + 1, f X, none⟩ = false := by simp [World.frozen?, hN.met]
              have hN2 := hN.setB (f X)
              have hO2 : OwnB (w.heap.size + 2) (wr.setCell ⟨w.heap.size + 1 + 1 + 1 + 1, f X, none⟩ (.bool true)) u7 T.1 := OwnB.setCell HO.out fun q hq => (hN.far HO.out q hq).2.2
              have HTY := hide hTY; clear hTY hcm hN
              have HN2 := hide hN2; clear hN2
              have HO2 := hide hO2; clear hO2
              go_wp2_with (at_builtin; refine appB rfl _ _ rfl rfl HO2.out (by simp; omega) (f X) _ rfl (by simp) (by omega) fun v' w1 ho' hg' hs' => ?_)
              have hN3 := HN2.out.grown hg' (HN2.out.far HO2.out)
              have H1 := hide hN3; clear hN3
              have H2 := hide ho'; clear ho' hg' c0 f0 cb cw
              go_wp2
              go_roundw
              case rel => exact ⟨1, by omega, by go_num, by rw [HST.out, badd_new HTY.out]; exact H1.out, by rw [HST.out, badd_new HTY.out]; exact H2.out⟩
              case measure => simp [intOf]
            · have c0 : wr.cell? ⟨w.heap.size + 1 + 1 + 1 + 1, f X, none⟩ = some (.bool true) := by rw [cell_of_cells, hcm, bv_get _ hY16, hTY]
              have HTY := hide hTY; clear hTY hcm hN
              go_wp2
              go_roundw
              case rel => exact ⟨1, by omega, by go_num, by rw [HST.out, badd_old HTY.out]; exact HNW.out, by rw [HST.out, badd_old HTY.out]; exact HO.out⟩
              case measure => simp [intOf]
          · obtain rfl := hj1
            have hst : bst f g S X 2 = badd (bst f g S X 1) (g X) := rfl
            have hIT := bst_inv HIV.out hfX hgX 1
            have hTl : (bst f g S X 1).1.length ≤ 16 := by have := hIT.length_le; omega
            generalize bst f g S X 1 = T at *
            have cb : wr.cell? ⟨w.heap.size, 1 + X, none⟩ = some (.int .u8 (f X)) := by rw [cell_of_cells, hN.des, dv_b _ _ _ hX16]
            have cw : wr.cell? ⟨w.heap.size, 17 + X, none⟩ = some (.int .u8 (g X)) := by rw [cell_of_cells, hN.des, dv_w _ _ _ hX16]
            have hY16 : g X < 16 := by omega
            have hcm : cellsOf wr (w.heap.size + 1 + 1 + 1 + 1) = bv T.2 := cellsOf_heap hN.met
            have hsz := hN.lt
            have HST := hide hst; clear hst
            have HNW := hide hN
            have HO := hide hO; clear hO
            rcases hTY : T.2 (g X) with _ | _
            · have c0 : wr.cell? ⟨w.heap.size + 1 + 1 + 1 + 1, g X, none⟩ = some (.bool false) := by rw [cell_of_cells, hcm, bv_get _ hY16, hTY]
              have f0 : wr.frozen? ⟨w.heap.size + 1 + 1 + 1 + 1, g X, none⟩ = false := by simp [World.frozen?, hN.met]
              have hN2 := hN.setB (g X)
              have hO2 : OwnB (w.heap.size + 2) (wr.setCell ⟨w.heap.size + 1 + 1 + 1 + 1, g X, none⟩ (.bool true)) u7 T.1 := OwnB.setCell HO.out fun q hq => (hN.far HO.out q hq).2.2
              have HTY := hide hTY; clear hTY hcm hN
              have HN2 := hide hN2; clear hN2
              have HO2 := hide hO2; clear hO2
              go_wp2_with (at_builtin; refine appB rfl _ _ rfl rfl HO2.out (by simp; omega) (g X) _ rfl (by simp) (by omega) fun v' w1 ho' hg' hs' => ?_)
              have hN3 := HN2.out.grown hg' (HN2.out.far HO2.out)
              have H1 := hide hN3; clear hN3
              have H2 := hide ho'; clear ho' hg' c0 f0 cb cw
              go_wp2
              go_roundw
              case rel => exact ⟨2, by omega, by go_num, by rw [HST.out, badd_new HTY.out]; exact H1.out, by rw [HST.out, badd_new HTY.out]; exact H2.out⟩
              case measure => simp [intOf]
            · have c0 : wr.cell? ⟨w.heap.size + 1 + 1 + 1 + 1, g X, none⟩ = some (.bool true) := by rw [cell_of_cells, hcm, bv_get _ hY16, hTY]
              have HTY := hide hTY; clear hTY hcm hN
              go_wp2
              go_roundw
              case rel => exact ⟨2, by omega, by go_num, by rw [HST.out, badd_old HTY.out]; exact HNW.out, by rw [HST.out, badd_old HTY.out]; exact HO.out⟩
              case measure => simp [intOf]
        · obtain rfl : j = 2 := by omega
          have HNW := hide hN; clear hN
          have HO := hide hO; clear hO
          have hlen : k + 1 ≤ (F (k + 1)).1.length := by
            rw [HN.out]
            have := (bst_pre f g S X 2).length_le
            omega
          go_wp2
          go_roundw
          case rel => exact ⟨k + 1, hlen, by go_num, by rw [HN.out]; exact HNW.out, by rw [HN.out]; exact HO.out⟩
          case measure => simp [intOf]; omega
    · obtain ⟨A, c, rfl⟩ := ownB_form hO
      have hst := FS.out k (by omega) (by omega)
      have hkm : k = m := by rw [← FM.out, hst]; omega
      have hb1 := hN.low
      have hr1 := hN.res
      have hc1 : cellsOf wr (w.heap.size + 1 + 1 + 1) = av (backTo L k) := cellsOf_heap hN.out
      have HK := hide hkm; clear hkm
      have HST := hide hst; clear hst
      clear hN hO hI
      have hkl : (F k).1.length = k := by omega
      rw [hkl]
      clear hkl hlt hk hl16
      go_wp2
      obtain ⟨t, ht, _⟩ := hr1.heap
      exact res_agg (p := 4) (g := w.heap.size + 1) aggP (av_size _) rfl rfl rfl (setRow_heap _ _ _ _ t (0, 0) ht) ⟨by rw [HK.out], below_setRow hb1 (by omega) _⟩
end Go.Proofs.Yteeideminlcblaa
