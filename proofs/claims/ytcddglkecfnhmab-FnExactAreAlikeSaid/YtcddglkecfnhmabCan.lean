/- canonical dessins of the program and of the model -/
import Derived.Test.YtcddglkecfnhmabBef
import Derived.Test.YtcddglkecfnhmabSNam
import Derived.Test.YtcddglkecfnhmabToDs
import Derived.Test.YtcddglkecfnhmabEqDs
namespace Go.Proofs.Ytcddglkecfnhmab
open Go.RowKit

theorem lstF_perm {f g : Nat → Nat} {m x : Nat} (hd : DesN f g m) (hx : x < m) : PermN (lstF (bfs f g x 16).1) m := by
  have hI := bfs_inv hd.bf.1 hd.bg.1 hx 16
  have hlen : (bfs f g x 16).1.length = m := bfs_full hd.bf hd.bg hd.le hd.conn hx
  have hl := hI.lt
  have hn := hI.nodup
  generalize (bfs f g x 16).1 = l at *
  have at' : ∀ i (h : i < m), lstF l i = l[i] := fun i h => by unfold lstF; rw [List.getD_eq_getElem?_getD, List.getElem?_eq_getElem (by omega)]; rfl
  refine ⟨hd.pos, hd.le, ⟨fun i hi => ?_, fun i j hi hj e => ?_⟩, fun i hi _ => ?_⟩
  · rw [at' i hi]; exact hl _ (List.getElem_mem _)
  · rw [at' i hi, at' j hj] at e
    exact (List.getElem_inj hn).1 e
  · unfold lstF; rw [List.getD_eq_getElem?_getD, List.getElem?_eq_none (by omega)]; rfl
theorem namF_perm {f g : Nat → Nat} {m x : Nat} (hd : DesN f g m) (hx : x < m) : PermN (namF f g m x) m := backF_perm (lstF_perm hd hx)
/-- the form from x -/
def forB (f g : Nat → Nat) (m x : Nat) : Nat → Nat := renF (namF f g m x) f m
def forW (f g : Nat → Nat) (m x : Nat) : Nat → Nat := renF (namF f g m x) g m
theorem forB_perm {f g : Nat → Nat} {m x : Nat} (hd : DesN f g m) (hx : x < m) : PermN (forB f g m x) m := renF_perm (namF_perm hd hx) hd.black
theorem forW_perm {f g : Nat → Nat} {m x : Nat} (hd : DesN f g m) (hx : x < m) : PermN (forW f g m x) m := renF_perm (namF_perm hd hx) hd.white
/-- the least one of the forms from 0 to k -/
noncomputable def canS (f g : Nat → Nat) (m : Nat) : Nat → (Nat → Nat) × (Nat → Nat)
  | 0 => (forB f g m 0, forW f g m 0)
  | k + 1 => if befB (forB f g m (k + 1)) (forW f g m (k + 1)) (canS f g m k).1 (canS f g m k).2 = true then (forB f g m (k + 1), forW f g m (k + 1)) else canS f g m k
theorem canS_perm {f g : Nat → Nat} {m : Nat} (hd : DesN f g m) : ∀ k, k < m → PermN (canS f g m k).1 m ∧ PermN (canS f g m k).2 m := by
  intro k
  induction k with
  | zero => intro h; exact ⟨forB_perm hd h, forW_perm hd h⟩
  | succ k ih =>
    intro h
    rw [canS]
    split
    · exact ⟨forB_perm hd h, forW_perm hd h⟩
    · exact ih (by omega)
theorem befB_self (f g : Nat → Nat) : befB f g f g = false := by
  unfold befB
  rw [if_pos ((sameB_iff f f).2 fun _ _ => rfl)]
  exact ltB_eq fun _ _ => rfl
theorem canS_step (f g : Nat → Nat) (m k : Nat) : canS f g m k = if befB (forB f g m k) (forW f g m k) (canS f g m (k - 1)).1 (canS f g m (k - 1)).2 = true then (forB f g m k, forW f g m k) else canS f g m (k - 1) := by
  rcases k with _ | k
  · show canS f g m 0 = if befB (forB f g m 0) (forW f g m 0) (forB f g m 0) (forW f g m 0) = true then _ else canS f g m 0
    rw [befB_self, if_neg (by simp)]
  · rfl

set_option maxRecDepth 100000 in
set_option maxHeartbeats 2000000 in
theorem canonical_any (f g : Nat → Nat) (m : Nat) (hd : DesN f g m) (w : World) :
    Calls Try.prog 27 #[.agg (dv m f g)] w fun e w' => e = .returned (.agg (dv m (canS f g m (m - 1)).1 (canS f g m (m - 1)).2)) ∧ Below w.heap.size w w' := by
  have hm := hd.le
  have hm0 := hd.pos
  have hn := dv_n m f g
  obtain ⟨NF, FB, FW, CS, QN, QR, QC, QS, Q0⟩ : ∃ (NF FB FW : Nat → Nat → Nat) (CS : Nat → (Nat → Nat) × (Nat → Nat)),
      Hid (∀ x, x < m → ∀ w, Calls Try.prog 43 #[.agg (dv m f g), .int .u8 x] w fun e w' => e = .returned (.agg (av (NF x))) ∧ Below w.heap.size w w') ∧
      Hid (∀ x, x < m → ∀ w, Calls Try.prog 42 #[.agg (dv m f g), .agg (av (NF x))] w fun e w' => e = .returned (.agg (dv m (FB x) (FW x))) ∧ Below w.heap.size w w') ∧
      Hid (∀ k, k < m → ∀ w, Calls Try.prog 44 #[.agg (dv m (FB k) (FW k)), .agg (dv m (CS (k - 1)).1 (CS (k - 1)).2)] w fun e w' => e = .returned (.int .i64 (cmpD (FB k) (FW k) (CS (k - 1)).1 (CS (k - 1)).2)) ∧ Below w.heap.size w w' ∧ decide (cmpD (FB k) (FW k) (CS (k - 1)).1 (CS (k - 1)).2 < 0) = befB (FB k) (FW k) (CS (k - 1)).1 (CS (k - 1)).2) ∧
      Hid (∀ k, CS k = if befB (FB k) (FW k) (CS (k - 1)).1 (CS (k - 1)).2 = true then (FB k, FW k) else CS (k - 1)) ∧
      Hid (CS 0 = (FB 0, FW 0) ∧ CS (m - 1) = canS f g m (m - 1)) := by
    refine ⟨namF f g m, forB f g m, forW f g m, canS f g m, hide fun x hx w => naming_any f g m hd x hx w, hide fun x hx w => rename_any f g (namF f g m x) m hd.black hd.white (namF_perm hd hx) w, hide fun k hk w => ?_, hide fun k => canS_step f g m k, hide ⟨rfl, rfl⟩⟩
    have lt : ∀ {q : Nat → Nat}, PermN q m → ∀ i, i < 16 → q i < 256 := fun h i hi => by have := h.lt i hi; omega
    have hp := canS_perm hd (k - 1) (by omega)
    exact (compareDessins_any m m _ _ _ _ (lt (forB_perm hd hk)) (lt (forW_perm hd hk)) (lt hp.1) (lt hp.2) w).mono fun e w' ⟨h1, h2⟩ => ⟨h1, h2, cmpD_lt _ _ _ _ (lt (forB_perm hd hk)) (lt (forW_perm hd hk)) (lt hp.1) (lt hp.2)⟩
  rw [← Q0.out.2]
  clear hd
  go_enter Try.func27, Try.ntmps27
  go_wp2
  rw [← dv_zero]
  generalize hW : (w.alloc (.cells (dv m f g) 29)).alloc (.cells (dv 0 (fun _ => 0) (fun _ => 0)) 29) = W
  have c0 : cellsOf W w.heap.size = dv m f g := by rw [← hW]; exact cellsOf_heap (heap1 rfl)
  have r0 : rowOk W (w.heap.size + 1) 33 := by rw [← hW]; exact ⟨_, _, heap_at _ _ _ (by simp), dv_size _ _ _⟩
  have b0 : Below w.heap.size w W := by rw [← hW]; exact below2 _ _ _
  have l0 : w.heap.size < W.heap.size := by rw [← hW]; simp <;> omega
  clear hW
  have D1 := hide (QN.out 0 hm0)
  have D2 := hide (QR.out 0 hm0)
  rw [show ((0 : Nat) : Int) = 0 from rfl] at D1
  refine region_V (w := W) (fun k => if k = 4 then some (fun _ => newR W.heap.size 33) else none) (fun k => k == 5) [4, 5] (.q 0 <| .q 1 <| .q 2 <| .q 3 <| .s1 4 <| .s1 5 .fin) (by kernel_rfl) (by kernel_rfl) (by kernel_rfl) (fun k hk => ?_) ?_
  · simp at hk; simp [hk]
  apply v_other
  · simp only [List.getElem?_toArray, List.getElem?_cons_zero, List.getElem?_cons_succ]; exact rfl
  · rfl
  · rfl
  · go_simp
  · intro wx hx
    have e0 := hx.cells c0 l0
    have n0 : wx.cell? ⟨w.heap.size, 0, none⟩ = some (.int .i64 m) := by rw [cell_of_cells, e0]; exact hn
    unfold atG
    go_simp
    simp only [uponG]
    exact ⟨by trivial, rfl⟩
  apply v_other
  · simp only [List.getElem?_toArray, List.getElem?_cons_zero, List.getElem?_cons_succ]; exact rfl
  · rfl
  · rfl
  · go_simp
  · intro wx hx
    have e0 := hx.cells c0 l0
    have n0 : wx.cell? ⟨w.heap.size, 0, none⟩ = some (.int .i64 m) := by rw [cell_of_cells, e0]; exact hn
    unfold atG
    go_simp
    simp only [uponG]
    exact ⟨by trivial, rfl⟩
  apply v_other
  · simp only [List.getElem?_toArray, List.getElem?_cons_zero, List.getElem?_cons_succ]; exact rfl
  · rfl
  · rfl
  · go_simp
  · intro wx hx
    have e0 := hx.cells c0 l0
    have n0 : wx.cell? ⟨w.heap.size, 0, none⟩ = some (.int .i64 m) := by rw [cell_of_cells, e0]; exact hn
    unfold atG
    go_simp
    simp only [uponG]
    exact ⟨by trivial, D1.out wx⟩
  apply v_other
  · simp only [List.getElem?_toArray, List.getElem?_cons_zero, List.getElem?_cons_succ]; exact rfl
  · rfl
  · rfl
  · go_simp
  · intro wx hx
    have e0 := hx.cells c0 l0
    have n0 : wx.cell? ⟨w.heap.size, 0, none⟩ = some (.int .i64 m) := by rw [cell_of_cells, e0]; exact hn
    unfold atG
    go_simp
    simp only [uponG]
    exact ⟨by trivial, D2.out wx⟩
  refine v_E (by simp only [List.getElem?_toArray, List.getElem?_cons_zero, List.getElem?_cons_succ]; exact rfl) rfl (by go_simp) (fun wx hx _ => ?_) ?_
  · go_simp
    simp only [uponE]
    refine ⟨(Below.refl _ _).alloc (Nat.le_refl _) _, wx.heap.size, rfl, hx.size, ?_⟩
    exact ⟨_, _, heap_at _ _ _ rfl, by first | rfl | simp⟩
  rintro vg ⟨_, _, _, g3, rfl, hg, _⟩
  refine v_S g3 33 (dv m (FB 0) (FW 0)) (by simp only [List.getElem?_toArray, List.getElem?_cons_zero, List.getElem?_cons_succ]; exact rfl) rfl rfl (by go_simp) (fun wx hx => (newR.at hx).2) hg (fun wx hx hr => by go_simp) ?_
  rintro w1 hx ⟨wy, hn', k1', k2'⟩
  obtain ⟨a0, a9, a1⟩ := stored (newR.at hn').2 (dv_size _ _ _) k2'
  clear k1' k2' hn'
  have y0 := hx.cells c0 l0
  have s1 := hx.size
  have b1 : Below w.heap.size w w1 := b0.trans (Below.mono hx b0.size)
  have r1 := hx.row r0
  have l1 : w.heap.size < w1.heap.size := by omega
  have hg1 : w.heap.size + 2 ≤ g3 := by have := r0.lt; omega
  have a0' : cellsOf w1 g3 = dv m (CS (0 - 1)).1 (CS (0 - 1)).2 := by rw [a0, show CS (0 - 1) = CS 0 from rfl, Q0.out.1]
  clear D1 D2 c0 r0 b0 l0 hx hg s1 a0
  have n1 : w1.cell? ⟨w.heap.size, 0, none⟩ = some (.int .i64 m) := by rw [cell_of_cells, y0]; exact hn
  go_wp2
  clear n1
  go_loopw [13] (fun i wr => ∃ k : Nat, 0 ≤ k ∧ k ≤ m ∧ i = .int .u8 k ∧ Below w.heap.size w wr ∧ cellsOf wr w.heap.size = dv m f g ∧ rowOk wr (w.heap.size + 1) 33 ∧ cellsOf wr g3 = dv m (CS (k - 1)).1 (CS (k - 1)).2 ∧ rowOk wr g3 33) (fun i _ => m - (intOf i).toNat)
  case atStart => exact ⟨0, by omega, by omega, rfl, b1, y0, r1, a0', a9⟩
  case round =>
    clear b1 y0 r1 a0' a9 a1 l1
    obtain ⟨k, hk1, hk, rfl, b0, c0, r0, q0, x0⟩ := hrel
    have l0 : w.heap.size < wr.heap.size := by have := r0.lt; omega
    have n0 : wr.cell? ⟨w.heap.size, 0, none⟩ = some (.int .i64 m) := by rw [cell_of_cells, c0]; exact hn
    by_cases hlt : k < m
    · have D1 := hide (QN.out k hlt)
      have D2 := hide (QR.out k hlt)
      have D3 := hide (QC.out k hlt)
      have hstep := QS.out k
      generalize NF k = nf at *
      generalize FB k = fb at *
      generalize FW k = fw at *
      generalize CS (k - 1) = cs at *
      have HQ := hide hstep; clear hstep
      go_wp2
      clear n0
      refine region_V (w := wr) (fun k => if k = 5 then some (fun _ => newR wr.heap.size 33) else none) (fun k => k == 6) [5, 6] (.q 0 <| .q 1 <| .q 2 <| .q 3 <| .q 4 <| .s1 5 <| .s1 6 .fin) (by kernel_rfl) (by kernel_rfl) (by kernel_rfl) (fun k hk => ?_) ?_
      · simp at hk; simp [hk]
      apply v_other
      · simp only [List.getElem?_toArray, List.getElem?_cons_zero, List.getElem?_cons_succ]; exact rfl
      · rfl
      · rfl
      · go_simp
      · intro wx hx
        have e0 := hx.cells c0 l0
        unfold atG
        go_simp
        simp only [uponG]
        exact ⟨by trivial, rfl⟩
      apply v_other
      · simp only [List.getElem?_toArray, List.getElem?_cons_zero, List.getElem?_cons_succ]; exact rfl
      · rfl
      · rfl
      · go_simp
      · intro wx hx
        have e0 := hx.cells c0 l0
        unfold atG
        go_simp
        simp only [uponG]
        exact ⟨by trivial, rfl⟩
      apply v_other
      · simp only [List.getElem?_toArray, List.getElem?_cons_zero, List.getElem?_cons_succ]; exact rfl
      · rfl
      · rfl
      · go_simp
      · intro wx hx
        have e0 := hx.cells c0 l0
        unfold atG
        go_simp
        simp only [uponG]
        exact ⟨by trivial, rfl⟩
      apply v_other
      · simp only [List.getElem?_toArray, List.getElem?_cons_zero, List.getElem?_cons_succ]; exact rfl
      · rfl
      · rfl
      · go_simp
      · intro wx hx
        have e0 := hx.cells c0 l0
        unfold atG
        go_simp
        simp only [uponG]
        exact ⟨by trivial, D1.out wx⟩
      apply v_other
      · simp only [List.getElem?_toArray, List.getElem?_cons_zero, List.getElem?_cons_succ]; exact rfl
      · rfl
      · rfl
      · go_simp
      · intro wx hx
        have e0 := hx.cells c0 l0
        unfold atG
        go_simp
        simp only [uponG]
        exact ⟨by trivial, D2.out wx⟩
      refine v_E (by simp only [List.getElem?_toArray, List.getElem?_cons_zero, List.getElem?_cons_succ]; exact rfl) rfl (by go_simp) (fun wx hx _ => ?_) ?_
      · go_simp
        simp only [uponE]
        refine ⟨(Below.refl _ _).alloc (Nat.le_refl _) _, wx.heap.size, rfl, hx.size, ?_⟩
        exact ⟨_, _, heap_at _ _ _ rfl, by first | rfl | simp⟩
      rintro vg ⟨_, _, _, g5, rfl, hg, _⟩
      refine v_S g5 33 (dv m fb fw) (by simp only [List.getElem?_toArray, List.getElem?_cons_zero, List.getElem?_cons_succ]; exact rfl) rfl rfl (by go_simp) (fun wx hx => (newR.at hx).2) hg (fun wx hx hr => by go_simp) ?_
      rintro w1 hx ⟨wy, hn', k1', k2'⟩
      obtain ⟨a0, a9, a1⟩ := stored (newR.at hn').2 (dv_size _ _ _) k2'
      clear k1' k2' hn'
      have hs := hx.size
      have y0 := hx.cells c0 l0
      have b1 : Below w.heap.size w w1 := b0.trans (Below.mono hx b0.size)
      have r1 := hx.row r0
      have q1 := hx.cells q0 x0.lt
      have x1 := hx.row x0
      have hne : g3 ≠ g5 := by have := x0.lt; omega
      clear b0 c0 r0 q0 x0 l0 hx hg hs
      go_wp2_with fail
      refine (D3.out _).mono ?_
      rintro e w2 ⟨rfl, hb, hdec⟩
      generalize cmpD fb fw cs.1 cs.2 = cc at *
      have y2 := (below_cells hb (by have := r1.lt; omega)).trans y0
      have b2 := b1.trans (hb.mono b1.size)
      have r2 := (below_row hb r1.lt).2 r1
      have q2 := (below_cells hb x1.lt).trans q1
      have x2 := (below_row hb x1.lt).2 x1
      have p2 := (below_cells hb a1).trans a0
      clear hb b1 y0 r1 q1 x1 a0 a9 a1 D1 D2 D3
      rcases hbf : befB fb fw cs.1 cs.2 with _ | _
      · rw [hbf] at hdec
        have hcs : CS (k + 1 - 1) = cs := by rw [Nat.add_sub_cancel, HQ.out, hbf]; rfl
        have HCS := hide hcs; clear hcs
        have HBF := hide hbf; clear hbf
        have B3 := hide (And.intro b2 (And.intro y2 (And.intro r2 (And.intro q2 x2))))
        go_wp2
        go_roundw
        case rel => exact ⟨k + 1, by omega, by omega, by go_num, B3.out.1, B3.out.2.1, B3.out.2.2.1, by rw [HCS.out]; exact B3.out.2.2.2.1, B3.out.2.2.2.2⟩
        case measure => simp [intOf]; omega
      · rw [hbf] at hdec
        have hcs : CS (k + 1 - 1) = (fb, fw) := by rw [Nat.add_sub_cancel, HQ.out, hbf]; rfl
        have HCS := hide hcs; clear hcs
        have HBF := hide hbf; clear hbf
        have b3 := below_setRow b2 (by omega : w.heap.size ≤ g3) (dv m fb fw)
        have y3 : cellsOf (w2.setRow g3 (dv m fb fw)) w.heap.size = dv m f g := (cellsOf_setRow_ne (by omega)).trans y2
        have r3 : rowOk (w2.setRow g3 (dv m fb fw)) (w.heap.size + 1) 33 := (rowOk_setRow_ne (by omega)).2 r2
        have q3 : cellsOf (w2.setRow g3 (dv m fb fw)) g3 = dv m fb fw := cellsOf_setRow x2
        have x3 : rowOk (w2.setRow g3 (dv m fb fw)) g3 33 := rowOk_setRow x2 (dv_size _ _ _)
        have B3 := hide (And.intro b3 (And.intro y3 (And.intro r3 (And.intro q3 x3)))); clear b3 y3 r3 q3 x3
        go_wp2
        go_roundw
        case rel => exact ⟨k + 1, by omega, by omega, by go_num, B3.out.1, B3.out.2.1, B3.out.2.2.1, by rw [HCS.out]; exact B3.out.2.2.2.1, B3.out.2.2.2.2⟩
        case measure => simp [intOf]; omega
    · obtain rfl : k = m := by omega
      clear hlt
      go_wp2
      obtain ⟨t, ht, _⟩ := r0.heap
      exact res_agg (p := 2) (g := w.heap.size + 1) aggD (dv_size _ _ _) rfl rfl rfl (setRow_heap _ _ _ _ t (0, 0) ht) ⟨rfl, below_setRow b0 (by omega) _⟩

-- left out here: loop.example/g01200/spec.l02Before loop.example/g01200/spec.l02Canonical loop.example/g01200/spec.l02Naming loop.example/g01200/spec.l02Rename
noncomputable def canR (n : Int) (f g : Nat → Nat) : Value := if desB n f g = true then .tuple #[.agg (dv n (canS f g n.toNat (n.toNat - 1)).1 (canS f g n.toNat (n.toNat - 1)).2), .int .i64 0] else .tuple #[.agg (dv 0 (fun _ => 0) (fun _ => 0)), .int .i64 1]
theorem canR_eq (n : Int) (f g : Nat → Nat) : ∃ (a : Int) (r s : Nat → Nat) (c : Int), canR n f g = .tuple #[.agg (dv a r s), .int .i64 c] := by
  unfold canR; split
  · exact ⟨_, _, _, _, rfl⟩
  · exact ⟨_, _, _, _, rfl⟩

-- left out here: loop.example/g01200/impl.CanonicalDessin
-- left out here: loop.example/g01200/spec.CanonicalDessin
-- left out here: loop.example/g01200/laws.FnExactCanonicalDessin
end Go.Proofs.Ytcddglkecfnhmab
