/- Texts put together: Can, RegC, Pr, Pk, RegD, Pfr, Nbf, SameD, Iso, Grn -/
import Derived.Test.YtfoaejdbgpgnhaaQdLawClosureGenus
import Derived.Test.YtfoaejdbgpgnhaaChecked
import Derived.WalkKit
import Derived.WalkSpells
import Derived.WalkLawsBesides
import Derived.Deep.LoopGhost
import Derived.Deep.OwnRows
import Derived.Laws.Rows
import Derived.Laws.Tables
import Derived.Laws.CopyOwn
import Derived.ProofKit
import Derived.OpenShut
import Derived.ShutString
import Derived.ChangeOld
import Derived.Below
import Derived.Laws.OwnMore
import Derived.Laws.CopyRow
import Derived.Deep.MidRow
import Derived.BigQuiet
import Derived.Deep.QuietTactic
import Derived.RegionTactic
import Derived.Deep.RegionWith
import Derived.Maps.Keyed
import Derived.DeepKeys4
import Derived.Maps.Own
import Derived.Carry
import Derived.Deep.Quiet
import Derived.StillTail
import Derived.ChangeKeysEq
import Derived.StillTailTactics
import Derived.Deep.RegionHeld3
import Derived.Laws.Cover3
import Derived.Lib.Bytealg
import Derived.Lib.BytesEntry
import Derived.Laws.Externs
import Derived.Laws.StructEq
namespace Go.Proofs.Ytfoaejdbgpgnhaa
open Go.RowKit

theorem lstF_perm {f g : Nat → Nat} {m x : Nat} (hd : DesN f g m) (hx : x < m) : PermN (lstF (bfs f g x 16).1) m := by
  have hI := bfs_inv hd.bf.1 hd.bg.1 hx 16
  have hlen : (bfs f g x 16).1.length = m := bfs_full hd.bf hd.bg hd.le hd.conn hx
  have hl := hI.lt
  have hn := hI.nodup
  generalize (bfs f g x 16).1 = l at *
  have at' : ∀ i (h : i < m), lstF l i = l[i] := fun i h => by unfold lstF; rw [List.getD_eq_getElem?_getD, List.getElem?_eq_getElem (by omega)]; rfl
  refine ⟨hd.pos, hd.le, ⟨fun i hi => ?_, fun i j hi hj e => ?_⟩, fun i hi _ => ?_⟩
  · rw [at' i hi]; exact hl _ (List.getElem_mem _)
  · rw [at' i hi, at' j hj] at e
    exact (List.getElem_inj hn).1 e
  · unfold lstF; rw [List.getD_eq_getElem?_getD, List.getElem?_eq_none (by omega)]; rfl
theorem namF_perm {f g : Nat → Nat} {m x : Nat} (hd : DesN f g m) (hx : x < m) : PermN (namF f g m x) m := backF_perm (lstF_perm hd hx)
/-- the form from x -/
def forB (f g : Nat → Nat) (m x : Nat) : Nat → Nat := renF (namF f g m x) f m
def forW (f g : Nat → Nat) (m x : Nat) : Nat → Nat := renF (namF f g m x) g m
theorem forB_perm {f g : Nat → Nat} {m x : Nat} (hd : DesN f g m) (hx : x < m) : PermN (forB f g m x) m := renF_perm (namF_perm hd hx) hd.black
theorem forW_perm {f g : Nat → Nat} {m x : Nat} (hd : DesN f g m) (hx : x < m) : PermN (forW f g m x) m := renF_perm (namF_perm hd hx) hd.white
/-- the least one of the forms from 0 to k -/
noncomputable def canS (f g : Nat → Nat) (m : Nat) : Nat → (Nat → Nat) × (Nat → Nat)
  | 0 => (forB f g m 0, forW f g m 0)
  | k + 1 => if befB (forB f g m (k + 1)) (forW f g m (k + 1)) (canS f g m k).1 (canS f g m k).2 = true then (forB f g m (k + 1), forW f g m (k + 1)) else canS f g m k
theorem canS_perm {f g : Nat → Nat} {m : Nat} (hd : DesN f g m) : ∀ k, k < m → PermN (canS f g m k).1 m ∧ PermN (canS f g m k).2 m := by
  intro k
  induction k with
  | zero => intro h; exact ⟨forB_perm hd h, forW_perm hd h⟩
  | succ k ih =>
    intro h
    rw [canS]
    split
    · exact ⟨forB_perm hd h, forW_perm hd h⟩
    · exact ih (by omega)
theorem befB_self (f g : Nat → Nat) : befB f g f g = false := by
  unfold befB
  rw [if_pos ((sameB_iff f f).2 fun _ _ => rfl)]
  exact ltB_eq fun _ _ => rfl
theorem canS_step (f g : Nat → Nat) (m k : Nat) : canS f g m k = if befB (forB f g m k) (forW f g m k) (canS f g m (k - 1)).1 (canS f g m (k - 1)).2 = true then (forB f g m k, forW f g m k) else canS f g m (k - 1) := by
  rcases k with _ | k
  · show canS f g m 0 = if befB (forB f g m 0) (forW f g m 0) (forB f g m 0) (forW f g m 0) = true then _ else canS f g m 0
    rw [befB_self, if_neg (by simp)]
  · rfl

set_option maxRecDepth 100000 in
set_option maxHeartbeats 2000000 in
theorem canonical_any (f g : Nat → Nat) (m : Nat) (hd : DesN f g m) (w : World) :
    Calls Try.prog 160 #[.agg (dv m f g)] w fun e w' => e = .returned (.agg (dv m (canS f g m (m - 1)).1 (canS f g m (m - 1)).2)) ∧ Below w.heap.size w w' := by
  have hm := hd.le
  have hm0 := hd.pos
  have hn := dv_n m f g
  obtain ⟨NF, FB, FW, CS, QN, QR, QC, QS, Q0⟩ : ∃ (NF FB FW : Nat → Nat → Nat) (CS : Nat → (Nat → Nat) × (Nat → Nat)),
      Hid (∀ x, x < m → ∀ w, Calls Try.prog 191 #[.agg (dv m f g), .int .u8 x] w fun e w' => e = .returned (.agg (av (NF x))) ∧ Below w.heap.size w w') ∧
      Hid (∀ x, x < m → ∀ w, Calls Try.prog 190 #[.agg (dv m f g), .agg (av (NF x))] w fun e w' => e = .returned (.agg (dv m (FB x) (FW x))) ∧ Below w.heap.size w w') ∧
      Hid (∀ k, k < m → ∀ w, Calls Try.prog 162 #[.agg (dv m (FB k) (FW k)), .agg (dv m (CS (k - 1)).1 (CS (k - 1)).2)] w fun e w' => e = .returned (.int .i64 (cmpD (FB k) (FW k) (CS (k - 1)).1 (CS (k - 1)).2)) ∧ Below w.heap.size w w' ∧ decide (cmpD (FB k) (FW k) (CS (k - 1)).1 (CS (k - 1)).2 < 0) = befB (FB k) (FW k) (CS (k - 1)).1 (CS (k - 1)).2) ∧
      Hid (∀ k, CS k = if befB (FB k) (FW k) (CS (k - 1)).1 (CS (k - 1)).2 = true then (FB k, FW k) else CS (k - 1)) ∧
      Hid (CS 0 = (FB 0, FW 0) ∧ CS (m - 1) = canS f g m (m - 1)) := by
    refine ⟨namF f g m, forB f g m, forW f g m, canS f g m, hide fun x hx w => naming_any f g m hd x hx w, hide fun x hx w => rename_any f g (namF f g m x) m hd.black hd.white (namF_perm hd hx) w, hide fun k hk w => ?_, hide fun k => canS_step f g m k, hide ⟨rfl, rfl⟩⟩
    have lt : ∀ {q : Nat → Nat}, PermN q m → ∀ i, i < 16 → q i < 256 := fun h i hi => by have := h.lt i hi; omega
    have hp := canS_perm hd (k - 1) (by omega)
    exact (compareDessins_any m m _ _ _ _ (lt (forB_perm hd hk)) (lt (forW_perm hd hk)) (lt hp.1) (lt hp.2) w).mono fun e w' ⟨h1, h2⟩ => ⟨h1, h2, cmpD_lt _ _ _ _ (lt (forB_perm hd hk)) (lt (forW_perm hd hk)) (lt hp.1) (lt hp.2)⟩
  rw [← Q0.out.2]
  clear hd
  go_enter Try.func160, Try.ntmps160
  go_wp2
  rw [← dv_zero]
  generalize hW : (w.alloc (.cells (dv m f g) 29)).alloc (.cells (dv 0 (fun _ => 0) (fun _ => 0)) 29) = W
  have c0 : cellsOf W w.heap.size = dv m f g := by rw [← hW]; exact cellsOf_heap (heap1 rfl)
  have r0 : rowOk W (w.heap.size + 1) 33 := by rw [← hW]; exact ⟨_, _, heap_at _ _ _ (by simp), dv_size _ _ _⟩
  have b0 : Below w.heap.size w W := by rw [← hW]; exact below2 _ _ _
  have l0 : w.heap.size < W.heap.size := by rw [← hW]; simp <;> omega
  clear hW
  have D1 := hide (QN.out 0 hm0)
  have D2 := hide (QR.out 0 hm0)
  rw [show ((0 : Nat) : Int) = 0 from rfl] at D1
  refine region_V (w := W) (fun k => if k = 4 then some (fun _ => newR W.heap.size 33) else none) (fun k => k == 5) [4, 5] (.q 0 <| .q 1 <| .q 2 <| .q 3 <| .s1 4 <| .s1 5 .fin) (by kernel_rfl) (by kernel_rfl) (by kernel_rfl) (fun k hk => ?_) ?_
  · simp at hk; simp [hk]
  apply v_other
  · simp only [List.getElem?_toArray, List.getElem?_cons_zero, List.getElem?_cons_succ]; exact rfl
  · rfl
  · rfl
  · go_simp
  · intro wx hx
    have e0 := hx.cells c0 l0
    have n0 : wx.cell? ⟨w.heap.size, 0, none⟩ = some (.int .i64 m) := by rw [cell_of_cells, e0]; exact hn
    unfold atG
    go_simp
    simp only [uponG]
    exact ⟨by trivial, rfl⟩
  apply v_other
  · simp only [List.getElem?_toArray, List.getElem?_cons_zero, List.getElem?_cons_succ]; exact rfl
  · rfl
  · rfl
  · go_simp
  · intro wx hx
    have e0 := hx.cells c0 l0
    have n0 : wx.cell? ⟨w.heap.size, 0, none⟩ = some (.int .i64 m) := by rw [cell_of_cells, e0]; exact hn
    unfold atG
    go_simp
    simp only [uponG]
    exact ⟨by trivial, rfl⟩
  apply v_other
  · simp only [List.getElem?_toArray, List.getElem?_cons_zero, List.getElem?_cons_succ]; exact rfl
  · rfl
  · rfl
  · go_simp
  · intro wx hx
    have e0 := hx.cells c0 l0
    have n0 : wx.cell? ⟨w.heap.size, 0, none⟩ = some (.int .i64 m) := by rw [cell_of_cells, e0]; exact hn
    unfold atG
    go_simp
    simp only [uponG]
    exact ⟨by trivial, D1.out wx⟩
  apply v_other
  · simp only [List.getElem?_toArray, List.getElem?_cons_zero, List.getElem?_cons_succ]; exact rfl
  · rfl
  · rfl
  · go_simp
  · intro wx hx
    have e0 := hx.cells c0 l0
    have n0 : wx.cell? ⟨w.heap.size, 0, none⟩ = some (.int .i64 m) := by rw [cell_of_cells, e0]; exact hn
    unfold atG
    go_simp
    simp only [uponG]
    exact ⟨by trivial, D2.out wx⟩
  refine v_E (by simp only [List.getElem?_toArray, List.getElem?_cons_zero, List.getElem?_cons_succ]; exact rfl) rfl (by go_simp) (fun wx hx _ => ?_) ?_
  · go_simp
    simp only [uponE]
    refine ⟨(Below.refl _ _).alloc (Nat.le_refl _) _, wx.heap.size, rfl, hx.size, ?_⟩
    exact ⟨_, _, heap_at _ _ _ rfl, by first | rfl | simp⟩
  rintro vg ⟨_, _, _, g3, rfl, hg, _⟩
  refine v_S g3 33 (dv m (FB 0) (FW 0)) (by simp only [List.getElem?_toArray, List.getElem?_cons_zero, List.getElem?_cons_succ]; exact rfl) rfl rfl (by go_simp) (fun wx hx => (newR.at hx).2) hg (fun wx hx hr => by go_simp) ?_
  rintro w1 hx ⟨wy, hn', k1', k2'⟩
  obtain ⟨a0, a9, a1⟩ := stored (newR.at hn').2 (dv_size _ _ _) k2'
  clear k1' k2' hn'
  have y0 := hx.cells c0 l0
  have s1 := hx.size
  have b1 : Below w.heap.size w w1 := b0.trans (Below.mono hx b0.size)
  have r1 := hx.row r0
  have l1 : w.heap.size < w1.heap.size := by omega
  have hg1 : w.heap.size + 2 ≤ g3 := by have := r0.lt; omega
  have a0' : cellsOf w1 g3 = dv m (CS (0 - 1)).1 (CS (0 - 1)).2 := by rw [a0, show CS (0 - 1) = CS 0 from rfl, Q0.out.1]
  clear D1 D2 c0 r0 b0 l0 hx hg s1 a0
  have n1 : w1.cell? ⟨w.heap.size, 0, none⟩ = some (.int .i64 m) := by rw [cell_of_cells, y0]; exact hn
  go_wp2
  clear n1
  go_loopw [13] (fun i wr => ∃ k : Nat, 0 ≤ k ∧ k ≤ m ∧ i = .int .u8 k ∧ Below w.heap.size w wr ∧ cellsOf wr w.heap.size = dv m f g ∧ rowOk wr (w.heap.size + 1) 33 ∧ cellsOf wr g3 = dv m (CS (k - 1)).1 (CS (k - 1)).2 ∧ rowOk wr g3 33) (fun i _ => m - (intOf i).toNat)
  case atStart => exact ⟨0, by omega, by omega, rfl, b1, y0, r1, a0', a9⟩
  case round =>
    clear b1 y0 r1 a0' a9 a1 l1
    obtain ⟨k, hk1, hk, rfl, b0, c0, r0, q0, x0⟩ := hrel
    have l0 : w.heap.size < wr.heap.size := by have := r0.lt; omega
    have n0 : wr.cell? ⟨w.heap.size, 0, none⟩ = some (.int .i64 m) := by rw [cell_of_cells, c0]; exact hn
    by_cases hlt : k < m
    · have D1 := hide (QN.out k hlt)
      have D2 := hide (QR.out k hlt)
      have D3 := hide (QC.out k hlt)
      have hstep := QS.out k
      generalize NF k = nf at *
      generalize FB k = fb at *
      generalize FW k = fw at *
      generalize CS (k - 1) = cs at *
      have HQ := hide hstep; clear hstep
      go_wp2
      clear n0
      refine region_V (w := wr) (fun k => if k = 5 then some (fun _ => newR wr.heap.size 33) else none) (fun k => k == 6) [5, 6] (.q 0 <| .q 1 <| .q 2 <| .q 3 <| .q 4 <| .s1 5 <| .s1 6 .fin) (by kernel_rfl) (by kernel_rfl) (by kernel_rfl) (fun k hk => ?_) ?_
      · simp at hk; simp [hk]
      apply v_other
      · simp only [List.getElem?_toArray, List.getElem?_cons_zero, List.getElem?_cons_succ]; exact rfl
      · rfl
      · rfl
      · go_simp
      · intro wx hx
        have e0 := hx.cells c0 l0
        unfold atG
        go_simp
        simp only [uponG]
        exact ⟨by trivial, rfl⟩
      apply v_other
      · simp only [List.getElem?_toArray, List.getElem?_cons_zero, List.getElem?_cons_succ]; exact rfl
      · rfl
      · rfl
      · go_simp
      · intro wx hx
        have e0 := hx.cells c0 l0
        unfold atG
        go_simp
        simp only [uponG]
        exact ⟨by trivial, rfl⟩
      apply v_other
      · simp only [List.getElem?_toArray, List.getElem?_cons_zero, List.getElem?_cons_succ]; exact rfl
      · rfl
      · rfl
      · go_simp
      · intro wx hx
        have e0 := hx.cells c0 l0
        unfold atG
        go_simp
        simp only [uponG]
        exact ⟨by trivial, rfl⟩
      apply v_other
      · simp only [List.getElem?_toArray, List.getElem?_cons_zero, List.getElem?_cons_succ]; exact rfl
      · rfl
      · rfl
      · go_simp
      · intro wx hx
        have e0 := hx.cells c0 l0
        unfold atG
        go_simp
        simp only [uponG]
        exact ⟨by trivial, D1.out wx⟩
      apply v_other
      · simp only [List.getElem?_toArray, List.getElem?_cons_zero, List.getElem?_cons_succ]; exact rfl
      · rfl
      · rfl
      · go_simp
      · intro wx hx
        have e0 := hx.cells c0 l0
        unfold atG
        go_simp
        simp only [uponG]
        exact ⟨by trivial, D2.out wx⟩
      refine v_E (by simp only [List.getElem?_toArray, List.getElem?_cons_zero, List.getElem?_cons_succ]; exact rfl) rfl (by go_simp) (fun wx hx _ => ?_) ?_
      · go_simp
        simp only [uponE]
        refine ⟨(Below.refl _ _).alloc (Nat.le_refl _) _, wx.heap.size, rfl, hx.size, ?_⟩
        exact ⟨_, _, heap_at _ _ _ rfl, by first | rfl | simp⟩
      rintro vg ⟨_, _, _, g5, rfl, hg, _⟩
      refine v_S g5 33 (dv m fb fw) (by simp only [List.getElem?_toArray, List.getElem?_cons_zero, List.getElem?_cons_succ]; exact rfl) rfl rfl (by go_simp) (fun wx hx => (newR.at hx).2) hg (fun wx hx hr => by go_simp) ?_
      rintro w1 hx ⟨wy, hn', k1', k2'⟩
      obtain ⟨a0, a9, a1⟩ := stored (newR.at hn').2 (dv_size _ _ _) k2'
      clear k1' k2' hn'
      have hs := hx.size
      have y0 := hx.cells c0 l0
      have b1 : Below w.heap.size w w1 := b0.trans (Below.mono hx b0.size)
      have r1 := hx.row r0
      have q1 := hx.cells q0 x0.lt
      have x1 := hx.row x0
      have hne : g3 ≠ g5 := by have := x0.lt; omega
      clear b0 c0 r0 q0 x0 l0 hx hg hs
      go_wp2_with fail
      refine (D3.out _).mono ?_
      rintro e w2 ⟨rfl, hb, hdec⟩
      generalize cmpD fb fw cs.1 cs.2 = cc at *
      have y2 := (below_cells hb (by have := r1.lt; omega)).trans y0
      have b2 := b1.trans (hb.mono b1.size)
      have r2 := (below_row hb r1.lt).2 r1
      have q2 := (below_cells hb x1.lt).trans q1
      have x2 := (below_row hb x1.lt).2 x1
      have p2 := (below_cells hb a1).trans a0
      clear hb b1 y0 r1 q1 x1 a0 a9 a1 D1 D2 D3
      rcases hbf : befB fb fw cs.1 cs.2 with _ | _
      · rw [hbf] at hdec
        have hcs : CS (k + 1 - 1) = cs := by rw [Nat.add_sub_cancel, HQ.out, hbf]; rfl
        have HCS := hide hcs; clear hcs
        have HBF := hide hbf; clear hbf
        have B3 := hide (And.intro b2 (And.intro y2 (And.intro r2 (And.intro q2 x2))))
        go_wp2
        go_roundw
        case rel => exact ⟨k + 1, by omega, by omega, by go_num, B3.out.1, B3.out.2.1, B3.out.2.2.1, by rw [HCS.out]; exact B3.out.2.2.2.1, B3.out.2.2.2.2⟩
        case measure => simp [intOf]; omega
      · rw [hbf] at hdec
        have hcs : CS (k + 1 - 1) = (fb, fw) := by rw [Nat.add_sub_cancel, HQ.out, hbf]; rfl
        have HCS := hide hcs; clear hcs
        have HBF := hide hbf; clear hbf
        have b3 := below_setRow b2 (by omega : w.heap.size ≤ g3) (dv m fb fw)
        have y3 : cellsOf (w2.setRow g3 (dv m fb fw)) w.heap.size = dv m f g := (cellsOf_setRow_ne (by omega)).trans y2
        have r3 : rowOk (w2.setRow g3 (dv m fb fw)) (w.heap.size + 1) 33 := (rowOk_setRow_ne (by omega)).2 r2
        have q3 : cellsOf (w2.setRow g3 (dv m fb fw)) g3 = dv m fb fw := cellsOf_setRow x2
        have x3 : rowOk (w2.setRow g3 (dv m fb fw)) g3 33 := rowOk_setRow x2 (dv_size _ _ _)
        have B3 := hide (And.intro b3 (And.intro y3 (And.intro r3 (And.intro q3 x3)))); clear b3 y3 r3 q3 x3
        go_wp2
        go_roundw
        case rel => exact ⟨k + 1, by omega, by omega, by go_num, B3.out.1, B3.out.2.1, B3.out.2.2.1, by rw [HCS.out]; exact B3.out.2.2.2.1, B3.out.2.2.2.2⟩
        case measure => simp [intOf]; omega
    · obtain rfl : k = m := by omega
      clear hlt
      go_wp2
      obtain ⟨t, ht, _⟩ := r0.heap
      exact res_agg (p := 2) (g := w.heap.size + 1) aggD (dv_size _ _ _) rfl rfl rfl (setRow_heap _ _ _ _ t (0, 0) ht) ⟨rfl, below_setRow b0 (by omega) _⟩

set_option maxRecDepth 100000 in
set_option maxHeartbeats 2000000 in
theorem sCanonical_any (f g : Nat → Nat) (m : Nat) (hd : DesN f g m) (w : World) :
    Calls Try.prog 195 #[.agg (dv m f g)] w fun e w' => e = .returned (.agg (dv m (canS f g m (m - 1)).1 (canS f g m (m - 1)).2)) ∧ Below w.heap.size w w' := by
  have hm := hd.le
  have hm0 := hd.pos
  have hn := dv_n m f g
  obtain ⟨NF, FB, FW, CS, QN, QR, QC, QS, Q0⟩ : ∃ (NF FB FW : Nat → Nat → Nat) (CS : Nat → (Nat → Nat) × (Nat → Nat)),
      Hid (∀ x, x < m → ∀ w, Calls Try.prog 228 #[.agg (dv m f g), .int .i64 x] w fun e w' => e = .returned (.agg (av (NF x))) ∧ Below w.heap.size w w') ∧
      Hid (∀ x, x < m → ∀ w, Calls Try.prog 227 #[.agg (dv m f g), .agg (av (NF x))] w fun e w' => e = .returned (.agg (dv m (FB x) (FW x))) ∧ Below w.heap.size w w') ∧
      Hid (∀ k, k < m → ∀ w, Calls Try.prog 226 #[.agg (dv m (FB k) (FW k)), .agg (dv m (CS (k - 1)).1 (CS (k - 1)).2)] w fun e w' => e = .returned (.bool (befB (FB k) (FW k) (CS (k - 1)).1 (CS (k - 1)).2)) ∧ Below w.heap.size w w') ∧
      Hid (∀ k, CS k = if befB (FB k) (FW k) (CS (k - 1)).1 (CS (k - 1)).2 = true then (FB k, FW k) else CS (k - 1)) ∧
      Hid (CS 0 = (FB 0, FW 0) ∧ CS (m - 1) = canS f g m (m - 1)) := by
    refine ⟨namF f g m, forB f g m, forW f g m, canS f g m, hide fun x hx w => sNaming_any f g m hd x hx w, hide fun x hx w => sRename_any f g (namF f g m x) m hd.black hd.white (namF_perm hd hx) w, hide fun k hk w => ?_, hide fun k => canS_step f g m k, hide ⟨rfl, rfl⟩⟩
    exact sBefore_any m m _ _ _ _ w
  rw [← Q0.out.2]
  clear hd
  go_enter Try.func195, Try.ntmps195
  go_wp2
  rw [← dv_zero]
  generalize hW : (w.alloc (.cells (dv m f g) 29)).alloc (.cells (dv 0 (fun _ => 0) (fun _ => 0)) 29) = W
  have c0 : cellsOf W w.heap.size = dv m f g := by rw [← hW]; exact cellsOf_heap (heap1 rfl)
  have r0 : rowOk W (w.heap.size + 1) 33 := by rw [← hW]; exact ⟨_, _, heap_at _ _ _ (by simp), dv_size _ _ _⟩
  have b0 : Below w.heap.size w W := by rw [← hW]; exact below2 _ _ _
  have l0 : w.heap.size < W.heap.size := by rw [← hW]; simp <;> omega
  clear hW
  have D1 := hide (QN.out 0 hm0)
  have D2 := hide (QR.out 0 hm0)
  rw [show ((0 : Nat) : Int) = 0 from rfl] at D1
  refine region_V (w := W) (fun k => if k = 4 then some (fun _ => newR W.heap.size 33) else none) (fun k => k == 5) [4, 5] (.q 0 <| .q 1 <| .q 2 <| .q 3 <| .s1 4 <| .s1 5 .fin) (by kernel_rfl) (by kernel_rfl) (by kernel_rfl) (fun k hk => ?_) ?_
  · simp at hk; simp [hk]
  apply v_other
  · simp only [List.getElem?_toArray, List.getElem?_cons_zero, List.getElem?_cons_succ]; exact rfl
  · rfl
  · rfl
  · go_simp
  · intro wx hx
    have e0 := hx.cells c0 l0
    have n0 : wx.cell? ⟨w.heap.size, 0, none⟩ = some (.int .i64 m) := by rw [cell_of_cells, e0]; exact hn
    unfold atG
    go_simp
    simp only [uponG]
    exact ⟨by trivial, rfl⟩
  apply v_other
  · simp only [List.getElem?_toArray, List.getElem?_cons_zero, List.getElem?_cons_succ]; exact rfl
  · rfl
  · rfl
  · go_simp
  · intro wx hx
    have e0 := hx.cells c0 l0
    have n0 : wx.cell? ⟨w.heap.size, 0, none⟩ = some (.int .i64 m) := by rw [cell_of_cells, e0]; exact hn
    unfold atG
    go_simp
    simp only [uponG]
    exact ⟨by trivial, rfl⟩
  apply v_other
  · simp only [List.getElem?_toArray, List.getElem?_cons_zero, List.getElem?_cons_succ]; exact rfl
  · rfl
  · rfl
  · go_simp
  · intro wx hx
    have e0 := hx.cells c0 l0
    have n0 : wx.cell? ⟨w.heap.size, 0, none⟩ = some (.int .i64 m) := by rw [cell_of_cells, e0]; exact hn
    unfold atG
    go_simp
    simp only [uponG]
    exact ⟨by trivial, D1.out wx⟩
  apply v_other
  · simp only [List.getElem?_toArray, List.getElem?_cons_zero, List.getElem?_cons_succ]; exact rfl
  · rfl
  · rfl
  · go_simp
  · intro wx hx
    have e0 := hx.cells c0 l0
    have n0 : wx.cell? ⟨w.heap.size, 0, none⟩ = some (.int .i64 m) := by rw [cell_of_cells, e0]; exact hn
    unfold atG
    go_simp
    simp only [uponG]
    exact ⟨by trivial, D2.out wx⟩
  refine v_E (by simp only [List.getElem?_toArray, List.getElem?_cons_zero, List.getElem?_cons_succ]; exact rfl) rfl (by go_simp) (fun wx hx _ => ?_) ?_
  · go_simp
    simp only [uponE]
    refine ⟨(Below.refl _ _).alloc (Nat.le_refl _) _, wx.heap.size, rfl, hx.size, ?_⟩
    exact ⟨_, _, heap_at _ _ _ rfl, by first | rfl | simp⟩
  rintro vg ⟨_, _, _, g3, rfl, hg, _⟩
  refine v_S g3 33 (dv m (FB 0) (FW 0)) (by simp only [List.getElem?_toArray, List.getElem?_cons_zero, List.getElem?_cons_succ]; exact rfl) rfl rfl (by go_simp) (fun wx hx => (newR.at hx).2) hg (fun wx hx hr => by go_simp) ?_
  rintro w1 hx ⟨wy, hn', k1', k2'⟩
  obtain ⟨a0, a9, a1⟩ := stored (newR.at hn').2 (dv_size _ _ _) k2'
  clear k1' k2' hn'
  have y0 := hx.cells c0 l0
  have s1 := hx.size
  have b1 : Below w.heap.size w w1 := b0.trans (Below.mono hx b0.size)
  have r1 := hx.row r0
  have l1 : w.heap.size < w1.heap.size := by omega
  have hg1 : w.heap.size + 2 ≤ g3 := by have := r0.lt; omega
  have a0' : cellsOf w1 g3 = dv m (CS (0 - 1)).1 (CS (0 - 1)).2 := by rw [a0, show CS (0 - 1) = CS 0 from rfl, Q0.out.1]
  clear D1 D2 c0 r0 b0 l0 hx hg s1 a0
  have n1 : w1.cell? ⟨w.heap.size, 0, none⟩ = some (.int .i64 m) := by rw [cell_of_cells, y0]; exact hn
  go_wp2
  clear n1
  go_loopw [4] (fun i wr => ∃ k : Nat, 1 ≤ k ∧ k ≤ m ∧ i = .int .i64 k ∧ Below w.heap.size w wr ∧ cellsOf wr w.heap.size = dv m f g ∧ rowOk wr (w.heap.size + 1) 33 ∧ cellsOf wr g3 = dv m (CS (k - 1)).1 (CS (k - 1)).2 ∧ rowOk wr g3 33) (fun i _ => m - (intOf i).toNat)
  case atStart => exact ⟨1, by omega, by omega, rfl, b1, y0, r1, a0', a9⟩
  case round =>
    clear b1 y0 r1 a0' a9 a1 l1
    obtain ⟨k, hk1, hk, rfl, b0, c0, r0, q0, x0⟩ := hrel
    have l0 : w.heap.size < wr.heap.size := by have := r0.lt; omega
    have n0 : wr.cell? ⟨w.heap.size, 0, none⟩ = some (.int .i64 m) := by rw [cell_of_cells, c0]; exact hn
    by_cases hlt : k < m
    · have D1 := hide (QN.out k hlt)
      have D2 := hide (QR.out k hlt)
      have D3 := hide (QC.out k hlt)
      have hstep := QS.out k
      generalize NF k = nf at *
      generalize FB k = fb at *
      generalize FW k = fw at *
      generalize CS (k - 1) = cs at *
      have HQ := hide hstep; clear hstep
      go_wp2
      clear n0
      refine region_V (w := wr) (fun k => if k = 5 then some (fun _ => newR wr.heap.size 33) else none) (fun k => k == 6) [5, 6] (.q 0 <| .q 1 <| .q 2 <| .q 3 <| .q 4 <| .s1 5 <| .s1 6 .fin) (by kernel_rfl) (by kernel_rfl) (by kernel_rfl) (fun k hk => ?_) ?_
      · simp at hk; simp [hk]
      apply v_other
      · simp only [List.getElem?_toArray, List.getElem?_cons_zero, List.getElem?_cons_succ]; exact rfl
      · rfl
      · rfl
      · go_simp
      · intro wx hx
        have e0 := hx.cells c0 l0
        unfold atG
        go_simp
        simp only [uponG]
        exact ⟨by trivial, rfl⟩
      apply v_other
      · simp only [List.getElem?_toArray, List.getElem?_cons_zero, List.getElem?_cons_succ]; exact rfl
      · rfl
      · rfl
      · go_simp
      · intro wx hx
        have e0 := hx.cells c0 l0
        unfold atG
        go_simp
        simp only [uponG]
        exact ⟨by trivial, rfl⟩
      apply v_other
      · simp only [List.getElem?_toArray, List.getElem?_cons_zero, List.getElem?_cons_succ]; exact rfl
      · rfl
      · rfl
      · go_simp
      · intro wx hx
        have e0 := hx.cells c0 l0
        unfold atG
        go_simp
        simp only [uponG]
        exact ⟨by trivial, rfl⟩
      apply v_other
      · simp only [List.getElem?_toArray, List.getElem?_cons_zero, List.getElem?_cons_succ]; exact rfl
      · rfl
      · rfl
      · go_simp
      · intro wx hx
        have e0 := hx.cells c0 l0
        unfold atG
        go_simp
        simp only [uponG]
        exact ⟨by trivial, D1.out wx⟩
      apply v_other
      · simp only [List.getElem?_toArray, List.getElem?_cons_zero, List.getElem?_cons_succ]; exact rfl
      · rfl
      · rfl
      · go_simp
      · intro wx hx
        have e0 := hx.cells c0 l0
        unfold atG
        go_simp
        simp only [uponG]
        exact ⟨by trivial, D2.out wx⟩
      refine v_E (by simp only [List.getElem?_toArray, List.getElem?_cons_zero, List.getElem?_cons_succ]; exact rfl) rfl (by go_simp) (fun wx hx _ => ?_) ?_
      · go_simp
        simp only [uponE]
        refine ⟨(Below.refl _ _).alloc (Nat.le_refl _) _, wx.heap.size, rfl, hx.size, ?_⟩
        exact ⟨_, _, heap_at _ _ _ rfl, by first | rfl | simp⟩
      rintro vg ⟨_, _, _, g5, rfl, hg, _⟩
      refine v_S g5 33 (dv m fb fw) (by simp only [List.getElem?_toArray, List.getElem?_cons_zero, List.getElem?_cons_succ]; exact rfl) rfl rfl (by go_simp) (fun wx hx => (newR.at hx).2) hg (fun wx hx hr => by go_simp) ?_
      rintro w1 hx ⟨wy, hn', k1', k2'⟩
      obtain ⟨a0, a9, a1⟩ := stored (newR.at hn').2 (dv_size _ _ _) k2'
      clear k1' k2' hn'
      have hs := hx.size
      have y0 := hx.cells c0 l0
      have b1 : Below w.heap.size w w1 := b0.trans (Below.mono hx b0.size)
      have r1 := hx.row r0
      have q1 := hx.cells q0 x0.lt
      have x1 := hx.row x0
      have hne : g3 ≠ g5 := by have := x0.lt; omega
      clear b0 c0 r0 q0 x0 l0 hx hg hs
      go_wp2_with fail
      refine (D3.out _).mono ?_
      rintro e w2 ⟨rfl, hb⟩
      have y2 := (below_cells hb (by have := r1.lt; omega)).trans y0
      have b2 := b1.trans (hb.mono b1.size)
      have r2 := (below_row hb r1.lt).2 r1
      have q2 := (below_cells hb x1.lt).trans q1
      have x2 := (below_row hb x1.lt).2 x1
      have p2 := (below_cells hb a1).trans a0
      clear hb b1 y0 r1 q1 x1 a0 a9 a1 D1 D2 D3
      rcases hbf : befB fb fw cs.1 cs.2 with _ | _
      · skip
        have hcs : CS (k + 1 - 1) = cs := by rw [Nat.add_sub_cancel, HQ.out, hbf]; rfl
        have HCS := hide hcs; clear hcs
        have HBF := hide hbf; clear hbf
        have B3 := hide (And.intro b2 (And.intro y2 (And.intro r2 (And.intro q2 x2))))
        go_wp2
        go_roundw
        case rel => exact ⟨k + 1, by omega, by omega, by go_num, B3.out.1, B3.out.2.1, B3.out.2.2.1, by rw [HCS.out]; exact B3.out.2.2.2.1, B3.out.2.2.2.2⟩
        case measure => simp [intOf]; omega
      · skip
        have hcs : CS (k + 1 - 1) = (fb, fw) := by rw [Nat.add_sub_cancel, HQ.out, hbf]; rfl
        have HCS := hide hcs; clear hcs
        have HBF := hide hbf; clear hbf
        have b3 := below_setRow b2 (by omega : w.heap.size ≤ g3) (dv m fb fw)
        have y3 : cellsOf (w2.setRow g3 (dv m fb fw)) w.heap.size = dv m f g := (cellsOf_setRow_ne (by omega)).trans y2
        have r3 : rowOk (w2.setRow g3 (dv m fb fw)) (w.heap.size + 1) 33 := (rowOk_setRow_ne (by omega)).2 r2
        have q3 : cellsOf (w2.setRow g3 (dv m fb fw)) g3 = dv m fb fw := cellsOf_setRow x2
        have x3 : rowOk (w2.setRow g3 (dv m fb fw)) g3 33 := rowOk_setRow x2 (dv_size _ _ _)
        have B3 := hide (And.intro b3 (And.intro y3 (And.intro r3 (And.intro q3 x3)))); clear b3 y3 r3 q3 x3
        go_wp2
        go_roundw
        case rel => exact ⟨k + 1, by omega, by omega, by go_num, B3.out.1, B3.out.2.1, B3.out.2.2.1, by rw [HCS.out]; exact B3.out.2.2.2.1, B3.out.2.2.2.2⟩
        case measure => simp [intOf]; omega
    · obtain rfl : k = m := by omega
      clear hlt
      go_wp2
      obtain ⟨t, ht, _⟩ := r0.heap
      exact res_agg (p := 2) (g := w.heap.size + 1) aggD (dv_size _ _ _) rfl rfl rfl (setRow_heap _ _ _ _ t (0, 0) ht) ⟨rfl, below_setRow b0 (by omega) _⟩

noncomputable def canR (n : Int) (f g : Nat → Nat) : Value := if desB n f g = true then .tuple #[.agg (dv n (canS f g n.toNat (n.toNat - 1)).1 (canS f g n.toNat (n.toNat - 1)).2), .int .i64 0] else .tuple #[.agg (dv 0 (fun _ => 0) (fun _ => 0)), .int .i64 1]
theorem canR_eq (n : Int) (f g : Nat → Nat) : ∃ (a : Int) (r s : Nat → Nat) (c : Int), canR n f g = .tuple #[.agg (dv a r s), .int .i64 c] := by
  unfold canR; split
  · exact ⟨_, _, _, _, rfl⟩
  · exact ⟨_, _, _, _, rfl⟩

-- left out here: loop.example/g01200/impl.CanonicalDessin
-- left out here: loop.example/g01200/spec.CanonicalDessin
-- left out here: loop.example/g01200/laws.FnExactCanonicalDessin
end Go.Proofs.Ytfoaejdbgpgnhaa

namespace Go.Proofs.Ytfoaejdbgpgnhaa.Rc
open Go.RowKit

section
variable (P : Program) (md : Region.Mode) (ops : Array Oper) (C : World → Prop) (E : Nat → Option (Value → World → Prop)) (K : Act → World → Prop)

def uponE (R : Value → World → Prop) (w : World) : Result Next → Prop
  | .ok (.value u) w' => C w' ∧ R u w'
  | .ok .skip w' => C w' ∧ R undef w'
  | .ok (.enter f args) w' => w' = w ∧ Calls P f args w (fun e w'' => ∃ v, e = .returned v ∧ C w'' ∧ R v w'')
  | _ => False

/-- one operation, and what follows -/
def opV (i : Nat) (N : Act → (World → Prop) → Prop) (a : Act) (D : World → Prop) : Prop :=
  match ops[i]? with
  | none => N a D
  | some o =>
    if Region.wanted o (yielded ops a.tmps) then
      match E i with
      | some R => (∀ w, C w → D w → uponE P C R w ((execOp a.eval o).run P w)) ∧ ∀ v, (∃ w, C w ∧ R v w) → N (a.put o.dst v) (R v)
      | none => ∃ v, (∀ w, C w → atG P o a w v) ∧ N (a.put o.dst v) D
    else N (a.put o.dst undef) D

theorem opV_mono {i : Nat} {N N' : Act → (World → Prop) → Prop} {a : Act} {D : World → Prop} (h : ∀ a D, N a D → N' a D) (hh : opV P ops C E i N a D) : opV P ops C E i N' a D := by
  unfold opV at *
  split
  · rename_i ho; simp only [ho] at hh; exact h _ _ hh
  · rename_i o ho
    simp only [ho] at hh
    split
    · rename_i hw
      rw [if_pos hw] at hh
      split
      · rename_i R hR; simp only [hR] at hh; exact ⟨hh.1, fun v hv => h _ _ (hh.2 v hv)⟩
      · rename_i hR
        simp only [hR] at hh
        obtain ⟨v, h1, h2⟩ := hh; exact ⟨v, h1, h _ _ h2⟩
    · rename_i hw; rw [if_neg hw] at hh; exact h _ _ hh

/-- whatever order is picked -/
def anyV : Nat → Array Bool → Act → (World → Prop) → Prop
  | 0, done, a, D => Region.ready md ops done = [] ∧ ∀ w, C w → D w → K a w
  | f + 1, done, a, D => (Region.ready md ops done = [] → ∀ w, C w → D w → K a w) ∧ ∀ i ∈ Region.ready md ops done, opV P ops C E i (anyV f (done.setIfInBounds i true)) a D

theorem op_sound (hC : ∀ w w', C w → Below w.heap.size w w' → C w') (hE : ∀ i R, E i = some R → ∀ v, Stable (R v)) {i : Nat} {N : Act → (World → Prop) → Prop} {K' : Act → World → Prop} {Q : Exit → Act → World → Prop} {a : Act} {D : World → Prop} {w : World} (hD : Stable D) (hw : C w) (hDw : D w)
    (hN : ∀ a D w, Stable D → C w → D w → N a D → K' a w) (h : opV P ops C E i N a D) : wpOp P ops Q i K' a w := by
  unfold opV at h
  unfold wpOp
  split
  · rename_i ho; simp only [ho] at h; exact hN _ _ _ hD hw hDw h
  · rename_i o ho
    simp only [ho] at h
    split
    · rename_i hwa
      rw [if_pos hwa] at h
      refine .inl ?_
      unfold Oper.wp
      rcases hEi : E i with _ | R
      · simp only [hEi] at h
        obtain ⟨v, h1, h2⟩ := h
        have h3 := h1 w hw
        unfold atG at h3
        generalize (execOp a.eval o).run P w = r at *
        cases r with
        | ok n w' =>
          cases n <;> simp only [uponG] at h3 <;> simp only [Oper.upon]
          case value u => obtain ⟨e1, e2⟩ := h3; rw [e1, e2]; exact hN _ _ _ hD hw hDw h2
          case skip => obtain ⟨e1, e2⟩ := h3; rw [e1, ← e2]; exact hN _ _ _ hD hw hDw h2
          case enter f args => obtain ⟨e1, hc⟩ := h3; rw [e1]; exact hc.mono fun e w'' ⟨he, hb⟩ => by subst he; exact hN _ _ _ hD (hC _ _ hw hb) (hD _ _ hDw hb) h2
        | halt x w' => simp only [uponG] at h3
      · simp only [hEi] at h
        have h3 := h.1 w hw hDw
        generalize (execOp a.eval o).run P w = r at *
        cases r with
        | ok n w' =>
          cases n <;> simp only [uponE] at h3 <;> simp only [Oper.upon]
          case value u => exact hN _ _ _ (hE _ _ hEi u) h3.1 h3.2 (h.2 u ⟨_, h3⟩)
          case skip => exact hN _ _ _ (hE _ _ hEi undef) h3.1 h3.2 (h.2 undef ⟨_, h3⟩)
          case enter f args =>
            obtain ⟨e1, hc⟩ := h3
            rw [e1]
            refine hc.mono ?_
            rintro e w'' ⟨v, he, hb, hr⟩
            subst he
            exact hN _ _ _ (hE _ _ hEi v) hb hr (h.2 v ⟨_, hb, hr⟩)
        | halt x w' => simp only [uponE] at h3
    · rename_i hwa; rw [if_neg hwa] at h; exact hN _ _ _ hD hw hDw h

theorem anyV_any (hC : ∀ w w', C w → Below w.heap.size w w' → C w') (hE : ∀ i R, E i = some R → ∀ v, Stable (R v)) {Q : Exit → Act → World → Prop} (hQ : ∀ a w, K a w → Q .normal a w) (f : Nat) : ∀ (done : Array Bool) (a : Act) (D : World → Prop) (w : World), Stable D → C w → D w →
    anyV P md ops C E K f done a D → wpAny P md ops Q f done a w := by
  induction f with
  | zero => intro done a D w _ hw hDw h; exact ⟨h.1, hQ _ _ (h.2 w hw hDw)⟩
  | succ f ih =>
    intro done a D w hD hw hDw h
    exact ⟨fun e => hQ _ _ (h.1 e w hw hDw), fun i hi => op_sound P ops C E hC hE hD hw hDw (fun a' D' w' h1 h2 h3 h4 => ih _ a' D' w' h1 h2 h3 h4) (h.2 i hi)⟩

def YieldsG (o : Oper) (v : Value) (a : Act) : Prop :=
  (Region.wanted o (yielded ops a.tmps) = true ∧ ∀ w, C w → atG P o a w v) ∨ (Region.wanted o (yielded ops a.tmps) = false ∧ v = undef)

theorem YieldsG.op {i : Nat} {o : Oper} {v : Value} {a : Act} {D : World → Prop} (hi : ops[i]? = some o) (hE : E i = none) (hy : YieldsG P ops C o v a) {N : Act → (World → Prop) → Prop} (h : N (a.put o.dst v) D) : opV P ops C E i N a D := by
  unfold opV
  simp only [hi, hE]
  rcases hy with ⟨hw, hv⟩ | ⟨hw, rfl⟩
  · rw [if_pos hw]; exact ⟨v, hv, h⟩
  · rw [if_neg (by simp [hw])]; exact h

theorem yieldsG_of {i : Nat} {o : Oper} {a : Act} {D : World → Prop} {N : Act → (World → Prop) → Prop} (hi : ops[i]? = some o) (hE : E i = none) (h : opV P ops C E i N a D) : ∃ v, YieldsG P ops C o v a ∧ N (a.put o.dst v) D := by
  unfold opV at h
  simp only [hi, hE] at h
  by_cases hw : Region.wanted o (yielded ops a.tmps) = true
  · rw [if_pos hw] at h
    obtain ⟨v, h1, h2⟩ := h
    exact ⟨v, .inl ⟨hw, h1⟩, h2⟩
  · rw [if_neg hw] at h
    exact ⟨undef, .inr ⟨by simpa using hw, rfl⟩, h⟩

theorem opV_put {j : Nat} {oi oj : Oper} {v : Value} (hj : ops[j]? = some oj) (hap : oi.apart ops oj = true) (hsi : ∀ cs b, oi.op ≠ .select cs b) (hsj : ∀ cs b, oj.op ≠ .select cs b)
    {N : Act → (World → Prop) → Prop} {a : Act} {D : World → Prop} (hy : YieldsG P ops C oi v a) (h : opV P ops C E j N (a.put oi.dst v) D) :
    opV P ops C E j (fun a' D' => YieldsG P ops C oi v a' ∧ N (a'.put oi.dst v) D') a D := by
  obtain ⟨h1, h2, h3⟩ := Oper.apart_spec hap
  have keep : ∀ u, YieldsG P ops C oi v (a.put oj.dst u) := fun u => by
    have e1 := execOp_put oi hsi a oj.dst u h3
    have e2 := wanted_put oi a oj.dst u h3
    unfold YieldsG atG at *
    rw [e1, e2]; exact hy
  unfold opV at *
  simp only [hj] at *
  rw [wanted_put oj a oi.dst v h1, execOp_put oj hsj a oi.dst v h1] at h
  have ep : ∀ u, (a.put oj.dst u).put oi.dst v = (a.put oi.dst v).put oj.dst u := fun u => (Act.put_comm a v u h2).symm
  by_cases hw : Region.wanted oj (yielded ops a.tmps) = true
  · rw [if_pos hw] at h ⊢
    rcases hE : E j with _ | R
    · simp only [hE] at h ⊢
      obtain ⟨u, k1, k2⟩ := h
      refine ⟨u, fun w hg => ?_, keep _, by rw [ep]; exact k2⟩
      have := k1 w hg
      unfold atG at *
      rwa [execOp_put oj hsj a oi.dst v h1] at this
    · simp only [hE] at h ⊢
      exact ⟨h.1, fun u hu => ⟨keep _, by rw [ep]; exact h.2 u hu⟩⟩
  · rw [if_neg hw] at h ⊢
    exact ⟨keep _, by rw [ep]; exact h⟩

theorem anyV_first {i : Nat} {o : Oper} {v : Value} (hi : ops[i]? = some o) (hE : E i = none) (hsel : ∀ (j : Nat) (o : Oper) cs b, ops[j]? = some o → o.op ≠ .select cs b) (f : Nat) :
    ∀ (done : Array Bool) (a : Act) (D : World → Prop),
      (∀ j oj, ops[j]? = some oj → j ≠ i → done.getD j true = false → (∀ e ∈ oj.after, Region.binds md e = true → e.on ≠ i) → o.apart ops oj = true) →
      i ∈ Region.ready md ops done → YieldsG P ops C o v a →
      anyV P md ops C E K f (done.setIfInBounds i true) (a.put o.dst v) D → anyV P md ops C E K (f + 1) done a D := by
  induction f with
  | zero =>
    intro done a D _ hr hy H
    refine ⟨fun e => (by rw [e] at hr; cases hr), fun j hj => ?_⟩
    by_cases e : j = i
    · subst e; exact hy.op P ops C E hi hE H
    · have := ready_mono hj e
      rw [H.1] at this; cases this
  | succ f ih =>
    intro done a D hfree hr hy H
    refine ⟨fun e => (by rw [e] at hr; cases hr), fun j hj => ?_⟩
    by_cases e : j = i
    · subst e; exact hy.op P ops C E hi hE H
    · obtain ⟨hjun, oj, hoj, hall⟩ := mem_ready.1 hj
      have hun := (mem_ready.1 hr).1
      have hno : ∀ e ∈ oj.after, Region.binds md e = true → e.on ≠ i := fun e he hb h => by
        have := hall e he hb
        rw [h, getD_both hun] at this
        cases this
      refine opV_mono P ops C E (fun a' D' h3 => ih (done.setIfInBounds j true) a' D' (fun k' ok hk hki hk' hnk => hfree k' ok hk hki ?_ hnk) (ready_mono hr (Ne.symm e)) h3.1 ?_)
        (opV_put P ops C E hoj (hfree j oj hoj e hjun hno) (fun cs b => hsel i o cs b hi) (fun cs b => hsel j oj cs b hoj) hy (H.2 j (ready_mono hj e)))
      · by_cases e' : j = k'
        · subst e'; exact hjun
        · rw [getD_set_ne true e'] at hk'; exact hk'
      · rw [Array.setIfInBounds_comm _ _ e]; exact h3.2

def walkV : Plan → Act → (World → Prop) → Prop
  | .fin, a, D => ∀ w, C w → D w → K a w
  | .q k p, a, D => opV P ops C E k (walkV p) a D
  | .s1 k p, a, D => opV P ops C E k (walkV p) a D
  | .s2 k1 p1 k2 p2, a, D => opV P ops C E k1 (walkV p1) a D ∧ opV P ops C E k2 (walkV p2) a D
  | .s3 k1 p1 k2 p2 k3 p3, a, D => opV P ops C E k1 (walkV p1) a D ∧ opV P ops C E k2 (walkV p2) a D ∧ opV P ops C E k3 (walkV p3) a D

theorem anyV_walk (hsel : Region.noSelect ops = true) (sp : List Nat) (hsp : ∀ k, sp.contains k = false → E k = none) (p : Plan) :
    ∀ (f : Nat) (done : Array Bool) (a : Act) (D : World → Prop), planB md ops sp f p done = true → walkV P ops C E K p a D → anyV P md ops C E K f done a D := by
  induction p with
  | fin =>
    intro f done a D hB h
    cases f with
    | zero => exact ⟨by simpa [planB] using hB, h⟩
    | succ f =>
      have e : Region.ready md ops done = [] := by simpa [planB] using hB
      exact ⟨fun _ => h, fun i hi => by rw [e] at hi; cases hi⟩
  | q k p ih =>
    intro f done a D hB h
    cases f with
    | zero => simp [planB] at hB
    | succ f =>
      simp only [planB, Bool.and_eq_true, decide_eq_true_eq, Bool.not_eq_true'] at hB
      obtain ⟨hc, ⟨hr, hfree⟩, hk, hB'⟩ := hB
      have hE := hsp k hc
      have hi : ops[k]? = some ops[k] := Array.getElem?_eq_getElem hk
      obtain ⟨v, hy, hK⟩ := yieldsG_of P ops C E hi hE h
      exact anyV_first P md ops C E K hi hE (Region.noSelect_spec hsel) f done a D (Region.free_spec hi hfree) (by simpa using hr) hy (ih _ _ _ _ hB' hK)
  | s1 k p ih =>
    intro f done a D hB h
    cases f with
    | zero => simp [planB] at hB
    | succ f =>
      simp only [planB, Bool.and_eq_true, decide_eq_true_eq] at hB
      obtain ⟨hr, hB'⟩ := hB
      refine ⟨fun e => (by rw [hr] at e; cases e), fun i hi => ?_⟩
      rw [hr] at hi
      obtain rfl : i = k := by simpa using hi
      exact opV_mono P ops C E (fun a' D' h' => ih _ _ _ _ hB' h') h
  | s2 k1 p1 k2 p2 ih1 ih2 =>
    intro f done a D hB h
    cases f with
    | zero => simp [planB] at hB
    | succ f =>
      simp only [planB, Bool.and_eq_true, decide_eq_true_eq] at hB
      obtain ⟨hr, hB1, hB2⟩ := hB
      refine ⟨fun e => (by rw [hr] at e; cases e), fun i hi => ?_⟩
      rw [hr] at hi
      simp only [List.mem_cons, List.not_mem_nil, or_false] at hi
      rcases hi with rfl | rfl
      · exact opV_mono P ops C E (fun a' D' h' => ih1 _ _ _ _ hB1 h') h.1
      · exact opV_mono P ops C E (fun a' D' h' => ih2 _ _ _ _ hB2 h') h.2
  | s3 k1 p1 k2 p2 k3 p3 ih1 ih2 ih3 =>
    intro f done a D hB h
    cases f with
    | zero => simp [planB] at hB
    | succ f =>
      simp only [planB, Bool.and_eq_true, decide_eq_true_eq] at hB
      obtain ⟨hr, hB1, hB2, hB3⟩ := hB
      refine ⟨fun e => (by rw [hr] at e; cases e), fun i hi => ?_⟩
      rw [hr] at hi
      simp only [List.mem_cons, List.not_mem_nil, or_false] at hi
      rcases hi with rfl | rfl | rfl
      · exact opV_mono P ops C E (fun a' D' h' => ih1 _ _ _ _ hB1 h') h.1
      · exact opV_mono P ops C E (fun a' D' h' => ih2 _ _ _ _ hB2 h') h.2.1
      · exact opV_mono P ops C E (fun a' D' h' => ih3 _ _ _ _ hB3 h') h.2.2
end

/-- a region by parts of memory: w0, L what the class holds; L1 what stands at the start beside it -/
theorem region_P {P : Program} {id : Nat} {Q : Exit → Act → World → Prop} {a : Act} {w w0 : World} {l : List Oper} (L : List Part) (L1 : List Part) (E : Nat → Option (Value → World → Prop)) (sp : List Nat) (p : Plan) (H : Holds w0 w L1) (hL : L.Sublist L1)
    (hE : ∀ i R, E i = some R → ∀ v, Stable (R v)) (hm : P.follows .mixedOrders = true)
    (hsel : Region.noSelect l.toArray = true) (hB : planB .any l.toArray sp l.toArray.size p (Array.replicate l.toArray.size false) = true) (hsp : ∀ k, sp.contains k = false → E k = none)
    (h : walkV P l.toArray (fun wx => Holds w0 wx L) E (fun a' w' => Q .normal a' w') p a (fun wx => Holds w0 wx L1)) : (Code.region id l.toArray true).wp P Q a w := by
  refine wp_region_any hm ?_
  exact anyV_any (Q := Q) P .any l.toArray (fun wx => Holds w0 wx L) E (fun a' w' => Q .normal a' w') (fun _ _ h hb => h.call hb) hE (fun _ _ h => h) _ _ _ _ w.drew (fun _ _ h hb => h.call hb) (H.drew.sub hL) H.drew
    (anyV_walk P .any l.toArray (fun wx => Holds w0 wx L) E (fun a' w' => Q .normal a' w') hsel sp hsp p _ _ a _ hB h)

section
variable {P : Program} {ops : Array Oper} {C : World → Prop} {E : Nat → Option (Value → World → Prop)} {k : Nat} {a : Act} {D : World → Prop} {N : Act → (World → Prop) → Prop}
theorem v_q {o : Oper} (ho : ops[k]? = some o) (hE : E k = none) (hw : Region.wanted o (yielded ops a.tmps) = true) {v : Value} (h1 : ∀ w, C w → atG P o a w v) (h2 : N (a.put o.dst v) D) : opV P ops C E k N a D := by
  unfold opV
  simp only [ho, hE]
  rw [if_pos hw]
  exact ⟨v, h1, h2⟩
theorem v_s {o : Oper} {R : Value → World → Prop} (ho : ops[k]? = some o) (hE : E k = some R) (hw : Region.wanted o (yielded ops a.tmps) = true) (h1 : ∀ w, C w → D w → uponE P C R w ((execOp a.eval o).run P w))
    (h2 : ∀ v, (∃ w, C w ∧ R v w) → N (a.put o.dst v) (R v)) : opV P ops C E k N a D := by
  unfold opV
  simp only [ho, hE]
  rw [if_pos hw]
  exact ⟨h1, h2⟩
end
/-- a list of cells laid for an append -/
def rBuild (w0 : World) (cells : Array Value) (t : TypeId) (k : Nat) (L : List Part) : Value → World → Prop := fun v w => ∃ g, v = .slice (some ⟨g, 0, none⟩) k k ∧ Holds w0 w (pBlk g cells t :: L)
theorem rBuild_stable {w0 : World} {cells : Array Value} {t : TypeId} {k : Nat} {L : List Part} (v : Value) : Stable (rBuild w0 cells t k L v) := fun _ _ ⟨g, e, h⟩ hb => ⟨g, e, h.call hb⟩
/-- a relation of one value that is told by parts -/
def rHolds (w0 : World) (L : Value → List Part) : Value → World → Prop := fun v w => Holds w0 w (L v)
theorem rHolds_stable {w0 : World} {L : Value → List Part} (v : Value) : Stable (rHolds w0 L v) := fun _ _ h hb => h.call hb
end Go.Proofs.Ytfoaejdbgpgnhaa.Rc

namespace Go.Proofs.Ytfoaejdbgpgnhaa
open Go.RowKit

def pairB (l : List (Nat × Nat)) : List Value := l.flatMap fun p => [Value.int .u8 (p.1 : Int), Value.int .u8 (p.2 : Int)]
theorem pairB_length (l : List (Nat × Nat)) : (pairB l).length = l.length * 2 := by unfold pairB; induction l <;> simp_all <;> omega
theorem pairB_append (l l' : List (Nat × Nat)) : pairB (l ++ l') = pairB l ++ pairB l' := by unfold pairB; simp
theorem pairB_at {l : List (Nat × Nat)} {k : Nat} (hk : k < l.length) : (pairB l)[k * 2]? = some (.int .u8 (l[k].1 : Int)) ∧ (pairB l)[k * 2 + 1]? = some (.int .u8 (l[k].2 : Int)) := by
  induction l generalizing k with
  | nil => simp at hk
  | cons p l ih =>
    rcases k with _ | k
    · exact ⟨rfl, rfl⟩
    · have := ih (k := k) (by simpa using hk)
      have e : pairB (p :: l) = [Value.int .u8 (p.1 : Int), Value.int .u8 (p.2 : Int)] ++ pairB l := rfl
      rw [e, List.getElem?_append_right (by simp; omega), List.getElem?_append_right (by simp; omega)]
      simp only [List.length_cons, List.length_nil, List.getElem_cons_succ]
      rw [show (k + 1) * 2 - (0 + 1 + 1) = k * 2 by omega, show (k + 1) * 2 + 1 - (0 + 1 + 1) = k * 2 + 1 by omega]
      exact this
theorem pairB_one {l : List (Nat × Nat)} : ∀ u ∈ pairB l, u.oneCell' = true := by
  intro u hu
  unfold pairB at hu
  obtain ⟨p, _, hp⟩ := List.mem_flatMap.1 hu
  simp at hp
  rcases hp with rfl | rfl <;> rfl
theorem infoPr : (Try.prog.info? 127).map (fun i => (i.zero, i.size, i.bytes)) = some (some (.agg #[.int .u8 0, .int .u8 0]), 2, 2) := by kernel_rfl
theorem aggPr : AggT 127 2 := ⟨⟨_, Try.underlying127, rfl⟩, by kernel_rfl⟩
/-- a row of pairs, its part -/
def pPairs (v : Value) (l : List (Nat × Nat)) : Part := pRow v 127 2 l.length (pairB l)
theorem Holds.pairs {w0 w : World} {L : List Part} (h : Holds w0 w L) (i : Nat) {v : Value} {l : List (Nat × Nat)} (hi : L[i]? = some (pPairs v l)) {k : Nat} (hk : k < l.length) :
    ∃ g c, v = .slice (some ⟨g, 0, none⟩) l.length c ∧ g < w.heap.size ∧ w.cell? ⟨g, k * 2, none⟩ = some (.int .u8 (l[k].1 : Int)) ∧ w.cell? ⟨g, k * 2 + 1, none⟩ = some (.int .u8 (l[k].2 : Int)) := by
  obtain ⟨g, c, h1, h2, h3, h4, h5, h6, h7⟩ := row_at (h.row i hi) (by omega : 0 < l.length)
  exact ⟨g, c, h1, h3, h6 _ _ (pairB_at hk).1, h6 _ _ (pairB_at hk).2⟩
theorem Holds.pairsForm {w0 w : World} {L : List Part} (h : Holds w0 w L) (i : Nat) {v : Value} {l : List (Nat × Nat)} (hi : L[i]? = some (pPairs v l)) : ∃ A c, v = .slice A l.length c := own_slice (h.row i hi)
/-- pairs more at the end of such a row -/
theorem appP {ops : Array Oper} {rest : List Oper} {o : Oper} {a : Act} {Q : Exit → Act → World → Prop} {w0 w : World} {L : List Part} (H : Holds w0 w L) (k : Nat) {v : Value} {l : List (Nat × Nat)} (hk : L[k]? = some (pPairs v l))
    (g : Nat) (news : List (Nat × Nat)) (t : TypeId) (hc : w.heap[g]? = some (.cells (pairB news).toArray t (0, 0))) (hb : l.length + news.length ≤ 1000000)
    (hgd : o.guard = none) (s x : Operand)
    (ho : o.op = .call { callee := .builtin .append, args := #[s, x], argTypes := #[125, 125] })
    (hs : a.eval s = v) (hx : a.eval x = .slice (some ⟨g, 0, none⟩) news.length news.length)
    (h : ∀ v' w', Holds w0 w' (L.set k (pPairs v' (l ++ news))) → wpList Try.prog ops Q rest (a.put o.dst v') w') : wpList Try.prog ops Q (o :: rest) a w := by
  obtain ⟨i0, hi, hz0, hz1, hz2⟩ := info_parts infoPr
  refine appH (P := Try.prog) hgd s x 125 ho 127 i0 (.agg #[.int .u8 0, .int .u8 0]) 2 2 Try.underlying125 hi hz0 hz1 hz2 rfl (by decide) v l.length (pairB l) hs H k hk ⟨g, 0, none⟩ news.length news.length (pairB news) hx
    (pairB_length _) (fun j u hu => ?_) pairB_one (by unfold maxLen; omega) (by omega) fun v' w' h1 => h v' w' ?_
  · have : ((⟨g, 0, none⟩ : Addr).add j) = ⟨g, j, none⟩ := by simp [Addr.add]; exact Eq.symm
    rw [this, cell_of_cells, cellsOf_heap hc]
    simpa using hu
  · unfold pPairs at *
    rw [List.length_append, pairB_append]
    exact h1
theorem run_appP {o : Oper} {a : Act} {w0 w : World} {L : List Part} (H : Holds w0 w L) (k : Nat) {v : Value} {l : List (Nat × Nat)} (hk : L[k]? = some (pPairs v l))
    (g : Nat) (news : List (Nat × Nat)) (t : TypeId) (hc : w.heap[g]? = some (.cells (pairB news).toArray t (0, 0))) (hb : l.length + news.length ≤ 1000000) (s x : Operand)
    (ho : o.op = .call { callee := .builtin .append, args := #[s, x], argTypes := #[125, 125] })
    (hs : a.eval s = v) (hx : a.eval x = .slice (some ⟨g, 0, none⟩) news.length news.length) :
    ∃ v' w', (execOp a.eval o).run Try.prog w = .ok (.value v') w' ∧ Holds w0 w' (L.set k (pPairs v' (l ++ news))) := by
  obtain ⟨i0, hi, hz0, hz1, hz2⟩ := info_parts infoPr
  obtain ⟨v', w', h1, h2, _⟩ := run_appH (P := Try.prog) (w := w) 125 o.type 127 i0 (.agg #[.int .u8 0, .int .u8 0]) 2 2 Try.underlying125 hi hz0 hz1 hz2 rfl (by decide) v l.length (pairB l) H k hk ⟨g, 0, none⟩ news.length news.length (pairB news)
    (pairB_length _) (fun j u hu => by
      have : ((⟨g, 0, none⟩ : Addr).add j) = ⟨g, j, none⟩ := by simp [Addr.add]; exact Eq.symm
      rw [this, cell_of_cells, cellsOf_heap hc]
      simpa using hu) pairB_one (by unfold maxLen; omega) (by omega)
  refine ⟨v', w', exec_append ho hs hx h1, ?_⟩
  unfold pPairs at *
  rw [List.length_append, pairB_append]
  exact h2
theorem upon_appP {o : Oper} {a : Act} {w0 w : World} {L : List Part} (H : Holds w0 w L) (k : Nat) {v : Value} {l : List (Nat × Nat)} (hk : L[k]? = some (pPairs v l))
    (g : Nat) (news : List (Nat × Nat)) (t : TypeId) (hc : w.heap[g]? = some (.cells (pairB news).toArray t (0, 0))) (hb : l.length + news.length ≤ 1000000) {C : World → Prop} {R : Value → World → Prop}
    (h : ∀ v' w', Holds w0 w' (L.set k (pPairs v' (l ++ news))) → C w' ∧ R v' w') (s x : Operand)
    (ho : o.op = .call { callee := .builtin .append, args := #[s, x], argTypes := #[125, 125] })
    (hs : a.eval s = v) (hx : a.eval x = .slice (some ⟨g, 0, none⟩) news.length news.length) : Rc.uponE Try.prog C R w ((execOp a.eval o).run Try.prog w) := by
  obtain ⟨v', w', h1, h2⟩ := run_appP H k hk g news t hc hb s x ho hs hx
  rw [h1]
  exact h v' w' h2

set_option maxRecDepth 100000 in
set_option maxHeartbeats 400000 in
theorem pairAfter_any (p q : Nat → Nat) (a b : Nat) (ha : a < 16) (hb : b < 16) (w : World) :
    Calls Try.prog 133 #[.agg #[.int .u8 a, .int .u8 b], .agg (av p), .agg (av q)] w fun e w' => e = .returned (.agg #[.int .u8 (p a), .int .u8 (q b)]) ∧ Below w.heap.size w w' := by
  go_enter Try.func133, Try.ntmps133
  go_wp2
  have ha' : (a : Int) < 16 := by omega
  have hb' : (b : Int) < 16 := by omega
  have HH := ((((Holds.start w).blk #[.int .u8 a, .int .u8 b] 127 w.heap.size rfl).blk (av p) 27 (w.heap.size + 1) (by simp)).blk (av q) 27 (w.heap.size + 1 + 1) (by simp)).blk #[.int .u8 0, .int .u8 0] 127 (w.heap.size + 1 + 1 + 1) (by simp)
  refine region_tail (fun wx => Holds w wx _) 9 (by kernel_rfl) (by kernel_rfl) HH.drew ?_
  simp only [List.take_succ_cons, List.take_zero, List.drop_succ_cons, List.drop_zero]
  iterate 9
    apply q_step
    · go_simp
    · intro wx hx
      have c1 : wx.cell? ⟨w.heap.size, 0, none⟩ = some (.int .u8 a) := hx.cell 3 rfl rfl
      have c2 : wx.cell? ⟨w.heap.size, 1, none⟩ = some (.int .u8 b) := hx.cell 3 rfl rfl
      have c3 : wx.cell? ⟨w.heap.size + 1, a, none⟩ = some (.int .u8 (p a)) := hx.cell 2 rfl (av_get p ha)
      have c4 : wx.cell? ⟨w.heap.size + 1 + 1, b, none⟩ = some (.int .u8 (q b)) := hx.cell 1 rfl (av_get q hb)
      go_simp
      try exact rfl
  refine wpQuiet_nil ?_
  intro w1 hx
  have c1 := hx.cell 0 (j := 0) rfl rfl
  have c2 := hx.cell 0 (j := 1) rfl rfl
  have f1 := hx.frozen 0 rfl 0
  have f2 := hx.frozen 0 rfl 1
  go_wp2
  have H2 := (hx.set 0 rfl 0 (.int .u8 (p a))).set 0 rfl 1 (.int .u8 (q b))
  exact res_agg (p := 6) (g := w.heap.size + 1 + 1 + 1) (cs := #[.int .u8 (p a), .int .u8 (q b)]) aggPr rfl rfl rfl rfl (H2.at 0 rfl) ⟨rfl, H2.low⟩
end Go.Proofs.Ytfoaejdbgpgnhaa

namespace Go.Proofs.Ytfoaejdbgpgnhaa
open Go.RowKit
open Go.Maps (Keyed)

theorem laidPk : laidOutB Try.prog = true := by kernel_rfl
theorem keyedPr : Keyed Try.prog 127 := Keyed.of_law (deep_law_laid laidPk (m := 3) (by omega) (of_decide_eq_true (by kernel_rfl)) (by kernel_rfl) (by kernel_rfl))
theorem isK_pair (a b : Nat) (ha : a < 256) (hb : b < 256) : IsK Try.prog 127 (.agg #[.int .u8 (a : Int), .int .u8 (b : Int)]) := by
  have h1 : Try.prog.keyType 127 = true := by kernel_rfl
  obtain ⟨n, hn⟩ : ∃ n, Try.prog.types.size + 1 = n + 2 := ⟨Try.prog.types.size - 1, by
    have : 1 ≤ Try.prog.types.size := of_decide_eq_true (by kernel_rfl)
    omega⟩
  have h2 : Try.prog.cellsOf 127 = 2 := by kernel_rfl
  have h3 : Try.prog.cellsOf 5 = 1 := by kernel_rfl
  unfold IsK keyOf
  rw [Try.underlying127, hn]
  have h4 : Value.formed Try.prog 127 (.agg #[.int .u8 (a : Int), .int .u8 (b : Int)]) = true := by
    unfold Value.formed
    rw [Try.underlying127]
    simp [h2]
  have w1 : (Lit.int .u8 (a : Int)).wf = true := by unfold Lit.wf; simp [IntKind.min, IntKind.max, IntKind.signed, IntKind.bits]; omega
  have w2 : (Lit.int .u8 (b : Int)).wf = true := by unfold Lit.wf; simp [IntKind.min, IntKind.max, IntKind.signed, IntKind.bits]; omega
  have k1 : ∀ x : Nat, (Lit.int .u8 (x : Int)).wf = true → Try.prog.keyLits (n + 1) 5 [.int .u8 (x : Int)] = some [.int .u8 (x : Int)] := fun x hx => by
    unfold Program.keyLits
    simp only [Try.underlying5, hx]
    simp
  have k2 : Try.prog.keyLits (n + 2) 127 [.int .u8 (a : Int), .int .u8 (b : Int)] = some [.int .u8 (a : Int), .int .u8 (b : Int)] := by
    unfold Program.keyLits
    simp only [Try.underlying127, h2]
    simp [h3, k1 a w1, k1 b w2]
  simp only [h1, h4, Bool.and_self, if_true]
  simp only [Value.cells, k2]
  exact ⟨_, rfl⟩
end Go.Proofs.Ytfoaejdbgpgnhaa

namespace Go.Proofs.Ytfoaejdbgpgnhaa.Rd
open Go.RowKit

section
variable (P : Program) (md : Region.Mode) (ops : Array Oper) (C : World → Prop) (E : Nat → Bool) (K : Act → World → Prop)

def uponE (R : Value → World → Prop) (w : World) : Result Next → Prop
  | .ok (.value u) w' => C w' ∧ R u w'
  | .ok .skip w' => C w' ∧ R undef w'
  | .ok (.enter f args) w' => w' = w ∧ Calls P f args w (fun e w'' => ∃ v, e = .returned v ∧ C w'' ∧ R v w'')
  | _ => False

/-- one operation, and what follows -/
def opV (i : Nat) (N : Act → (World → Prop) → Prop) (a : Act) (D : World → Prop) : Prop :=
  match ops[i]? with
  | none => N a D
  | some o =>
    if Region.wanted o (yielded ops a.tmps) then
      if E i = true then ∃ R : Value → World → Prop, (∀ v, Stable (R v)) ∧ (∀ w, C w → D w → uponE P C R w ((execOp a.eval o).run P w)) ∧ ∀ v, (∃ w, C w ∧ R v w) → N (a.put o.dst v) (R v)
      else ∃ v, (∀ w, C w → atG P o a w v) ∧ N (a.put o.dst v) D
    else N (a.put o.dst undef) D

theorem opV_mono {i : Nat} {N N' : Act → (World → Prop) → Prop} {a : Act} {D : World → Prop} (h : ∀ a D, N a D → N' a D) (hh : opV P ops C E i N a D) : opV P ops C E i N' a D := by
  unfold opV at *
  split
  · rename_i ho; simp only [ho] at hh; exact h _ _ hh
  · rename_i o ho
    simp only [ho] at hh
    split
    · rename_i hw
      rw [if_pos hw] at hh
      split
      · rename_i hR; rw [if_pos hR] at hh; obtain ⟨R, h0, h1, h2⟩ := hh; exact ⟨R, h0, h1, fun v hv => h _ _ (h2 v hv)⟩
      · rename_i hR
        rw [if_neg hR] at hh
        obtain ⟨v, h1, h2⟩ := hh; exact ⟨v, h1, h _ _ h2⟩
    · rename_i hw; rw [if_neg hw] at hh; exact h _ _ hh

/-- whatever order is picked -/
def anyV : Nat → Array Bool → Act → (World → Prop) → Prop
  | 0, done, a, D => Region.ready md ops done = [] ∧ ∀ w, C w → D w → K a w
  | f + 1, done, a, D => (Region.ready md ops done = [] → ∀ w, C w → D w → K a w) ∧ ∀ i ∈ Region.ready md ops done, opV P ops C E i (anyV f (done.setIfInBounds i true)) a D

theorem op_sound (hC : ∀ w w', C w → Below w.heap.size w w' → C w') {i : Nat} {N : Act → (World → Prop) → Prop} {K' : Act → World → Prop} {Q : Exit → Act → World → Prop} {a : Act} {D : World → Prop} {w : World} (hD : Stable D) (hw : C w) (hDw : D w)
    (hN : ∀ a D w, Stable D → C w → D w → N a D → K' a w) (h : opV P ops C E i N a D) : wpOp P ops Q i K' a w := by
  unfold opV at h
  unfold wpOp
  split
  · rename_i ho; simp only [ho] at h; exact hN _ _ _ hD hw hDw h
  · rename_i o ho
    simp only [ho] at h
    split
    · rename_i hwa
      rw [if_pos hwa] at h
      refine .inl ?_
      unfold Oper.wp
      rcases hEi : E i with _ | _
      · rw [if_neg (by simp [hEi])] at h
        obtain ⟨v, h1, h2⟩ := h
        have h3 := h1 w hw
        unfold atG at h3
        generalize (execOp a.eval o).run P w = r at *
        cases r with
        | ok n w' =>
          cases n <;> simp only [uponG] at h3 <;> simp only [Oper.upon]
          case value u => obtain ⟨e1, e2⟩ := h3; rw [e1, e2]; exact hN _ _ _ hD hw hDw h2
          case skip => obtain ⟨e1, e2⟩ := h3; rw [e1, ← e2]; exact hN _ _ _ hD hw hDw h2
          case enter f args => obtain ⟨e1, hc⟩ := h3; rw [e1]; exact hc.mono fun e w'' ⟨he, hb⟩ => by subst he; exact hN _ _ _ hD (hC _ _ hw hb) (hD _ _ hDw hb) h2
        | halt x w' => simp only [uponG] at h3
      · rw [if_pos hEi] at h
        obtain ⟨R, hE, h⟩ := h
        have h3 := h.1 w hw hDw
        generalize (execOp a.eval o).run P w = r at *
        cases r with
        | ok n w' =>
          cases n <;> simp only [uponE] at h3 <;> simp only [Oper.upon]
          case value u => exact hN _ _ _ (hE u) h3.1 h3.2 (h.2 u ⟨_, h3⟩)
          case skip => exact hN _ _ _ (hE undef) h3.1 h3.2 (h.2 undef ⟨_, h3⟩)
          case enter f args =>
            obtain ⟨e1, hc⟩ := h3
            rw [e1]
            refine hc.mono ?_
            rintro e w'' ⟨v, he, hb, hr⟩
            subst he
            exact hN _ _ _ (hE v) hb hr (h.2 v ⟨_, hb, hr⟩)
        | halt x w' => simp only [uponE] at h3
    · rename_i hwa; rw [if_neg hwa] at h; exact hN _ _ _ hD hw hDw h

theorem anyV_any (hC : ∀ w w', C w → Below w.heap.size w w' → C w') {Q : Exit → Act → World → Prop} (hQ : ∀ a w, K a w → Q .normal a w) (f : Nat) : ∀ (done : Array Bool) (a : Act) (D : World → Prop) (w : World), Stable D → C w → D w →
    anyV P md ops C E K f done a D → wpAny P md ops Q f done a w := by
  induction f with
  | zero => intro done a D w _ hw hDw h; exact ⟨h.1, hQ _ _ (h.2 w hw hDw)⟩
  | succ f ih =>
    intro done a D w hD hw hDw h
    exact ⟨fun e => hQ _ _ (h.1 e w hw hDw), fun i hi => op_sound P ops C E hC hD hw hDw (fun a' D' w' h1 h2 h3 h4 => ih _ a' D' w' h1 h2 h3 h4) (h.2 i hi)⟩

def YieldsG (o : Oper) (v : Value) (a : Act) : Prop :=
  (Region.wanted o (yielded ops a.tmps) = true ∧ ∀ w, C w → atG P o a w v) ∨ (Region.wanted o (yielded ops a.tmps) = false ∧ v = undef)

theorem YieldsG.op {i : Nat} {o : Oper} {v : Value} {a : Act} {D : World → Prop} (hi : ops[i]? = some o) (hE : E i = false) (hy : YieldsG P ops C o v a) {N : Act → (World → Prop) → Prop} (h : N (a.put o.dst v) D) : opV P ops C E i N a D := by
  unfold opV
  simp only [hi, hE, Bool.false_eq_true, if_false]
  rcases hy with ⟨hw, hv⟩ | ⟨hw, rfl⟩
  · rw [if_pos hw]; exact ⟨v, hv, h⟩
  · rw [if_neg (by simp [hw])]; exact h

theorem yieldsG_of {i : Nat} {o : Oper} {a : Act} {D : World → Prop} {N : Act → (World → Prop) → Prop} (hi : ops[i]? = some o) (hE : E i = false) (h : opV P ops C E i N a D) : ∃ v, YieldsG P ops C o v a ∧ N (a.put o.dst v) D := by
  unfold opV at h
  simp only [hi, hE, Bool.false_eq_true, if_false] at h
  by_cases hw : Region.wanted o (yielded ops a.tmps) = true
  · rw [if_pos hw] at h
    obtain ⟨v, h1, h2⟩ := h
    exact ⟨v, .inl ⟨hw, h1⟩, h2⟩
  · rw [if_neg hw] at h
    exact ⟨undef, .inr ⟨by simpa using hw, rfl⟩, h⟩

theorem opV_put {j : Nat} {oi oj : Oper} {v : Value} (hj : ops[j]? = some oj) (hap : oi.apart ops oj = true) (hsi : ∀ cs b, oi.op ≠ .select cs b) (hsj : ∀ cs b, oj.op ≠ .select cs b)
    {N : Act → (World → Prop) → Prop} {a : Act} {D : World → Prop} (hy : YieldsG P ops C oi v a) (h : opV P ops C E j N (a.put oi.dst v) D) :
    opV P ops C E j (fun a' D' => YieldsG P ops C oi v a' ∧ N (a'.put oi.dst v) D') a D := by
  obtain ⟨h1, h2, h3⟩ := Oper.apart_spec hap
  have keep : ∀ u, YieldsG P ops C oi v (a.put oj.dst u) := fun u => by
    have e1 := execOp_put oi hsi a oj.dst u h3
    have e2 := wanted_put oi a oj.dst u h3
    unfold YieldsG atG at *
    rw [e1, e2]; exact hy
  unfold opV at *
  simp only [hj] at *
  rw [wanted_put oj a oi.dst v h1, execOp_put oj hsj a oi.dst v h1] at h
  have ep : ∀ u, (a.put oj.dst u).put oi.dst v = (a.put oi.dst v).put oj.dst u := fun u => (Act.put_comm a v u h2).symm
  by_cases hw : Region.wanted oj (yielded ops a.tmps) = true
  · rw [if_pos hw] at h ⊢
    rcases hE : E j with _ | _
    · simp only [hE, Bool.false_eq_true, if_false] at h ⊢
      obtain ⟨u, k1, k2⟩ := h
      refine ⟨u, fun w hg => ?_, keep _, by rw [ep]; exact k2⟩
      have := k1 w hg
      unfold atG at *
      rwa [execOp_put oj hsj a oi.dst v h1] at this
    · simp only [hE, if_true] at h ⊢
      obtain ⟨R, h0, h⟩ := h
      exact ⟨R, h0, h.1, fun u hu => ⟨keep _, by rw [ep]; exact h.2 u hu⟩⟩
  · rw [if_neg hw] at h ⊢
    exact ⟨keep _, by rw [ep]; exact h⟩

theorem anyV_first {i : Nat} {o : Oper} {v : Value} (hi : ops[i]? = some o) (hE : E i = false) (hsel : ∀ (j : Nat) (o : Oper) cs b, ops[j]? = some o → o.op ≠ .select cs b) (f : Nat) :
    ∀ (done : Array Bool) (a : Act) (D : World → Prop),
      (∀ j oj, ops[j]? = some oj → j ≠ i → done.getD j true = false → (∀ e ∈ oj.after, Region.binds md e = true → e.on ≠ i) → o.apart ops oj = true) →
      i ∈ Region.ready md ops done → YieldsG P ops C o v a →
      anyV P md ops C E K f (done.setIfInBounds i true) (a.put o.dst v) D → anyV P md ops C E K (f + 1) done a D := by
  induction f with
  | zero =>
    intro done a D _ hr hy H
    refine ⟨fun e => (by rw [e] at hr; cases hr), fun j hj => ?_⟩
    by_cases e : j = i
    · subst e; exact hy.op P ops C E hi hE H
    · have := ready_mono hj e
      rw [H.1] at this; cases this
  | succ f ih =>
    intro done a D hfree hr hy H
    refine ⟨fun e => (by rw [e] at hr; cases hr), fun j hj => ?_⟩
    by_cases e : j = i
    · subst e; exact hy.op P ops C E hi hE H
    · obtain ⟨hjun, oj, hoj, hall⟩ := mem_ready.1 hj
      have hun := (mem_ready.1 hr).1
      have hno : ∀ e ∈ oj.after, Region.binds md e = true → e.on ≠ i := fun e he hb h => by
        have := hall e he hb
        rw [h, getD_both hun] at this
        cases this
      refine opV_mono P ops C E (fun a' D' h3 => ih (done.setIfInBounds j true) a' D' (fun k' ok hk hki hk' hnk => hfree k' ok hk hki ?_ hnk) (ready_mono hr (Ne.symm e)) h3.1 ?_)
        (opV_put P ops C E hoj (hfree j oj hoj e hjun hno) (fun cs b => hsel i o cs b hi) (fun cs b => hsel j oj cs b hoj) hy (H.2 j (ready_mono hj e)))
      · by_cases e' : j = k'
        · subst e'; exact hjun
        · rw [getD_set_ne true e'] at hk'; exact hk'
      · rw [Array.setIfInBounds_comm _ _ e]; exact h3.2

def walkV : Plan → Act → (World → Prop) → Prop
  | .fin, a, D => ∀ w, C w → D w → K a w
  | .q k p, a, D => opV P ops C E k (walkV p) a D
  | .s1 k p, a, D => opV P ops C E k (walkV p) a D
  | .s2 k1 p1 k2 p2, a, D => opV P ops C E k1 (walkV p1) a D ∧ opV P ops C E k2 (walkV p2) a D
  | .s3 k1 p1 k2 p2 k3 p3, a, D => opV P ops C E k1 (walkV p1) a D ∧ opV P ops C E k2 (walkV p2) a D ∧ opV P ops C E k3 (walkV p3) a D

theorem anyV_walk (hsel : Region.noSelect ops = true) (sp : List Nat) (hsp : ∀ k, sp.contains k = false → E k = false) (p : Plan) :
    ∀ (f : Nat) (done : Array Bool) (a : Act) (D : World → Prop), planB md ops sp f p done = true → walkV P ops C E K p a D → anyV P md ops C E K f done a D := by
  induction p with
  | fin =>
    intro f done a D hB h
    cases f with
    | zero => exact ⟨by simpa [planB] using hB, h⟩
    | succ f =>
      have e : Region.ready md ops done = [] := by simpa [planB] using hB
      exact ⟨fun _ => h, fun i hi => by rw [e] at hi; cases hi⟩
  | q k p ih =>
    intro f done a D hB h
    cases f with
    | zero => simp [planB] at hB
    | succ f =>
      simp only [planB, Bool.and_eq_true, decide_eq_true_eq, Bool.not_eq_true'] at hB
      obtain ⟨hc, ⟨hr, hfree⟩, hk, hB'⟩ := hB
      have hE := hsp k hc
      have hi : ops[k]? = some ops[k] := Array.getElem?_eq_getElem hk
      obtain ⟨v, hy, hK⟩ := yieldsG_of P ops C E hi hE h
      exact anyV_first P md ops C E K hi hE (Region.noSelect_spec hsel) f done a D (Region.free_spec hi hfree) (by simpa using hr) hy (ih _ _ _ _ hB' hK)
  | s1 k p ih =>
    intro f done a D hB h
    cases f with
    | zero => simp [planB] at hB
    | succ f =>
      simp only [planB, Bool.and_eq_true, decide_eq_true_eq] at hB
      obtain ⟨hr, hB'⟩ := hB
      refine ⟨fun e => (by rw [hr] at e; cases e), fun i hi => ?_⟩
      rw [hr] at hi
      obtain rfl : i = k := by simpa using hi
      exact opV_mono P ops C E (fun a' D' h' => ih _ _ _ _ hB' h') h
  | s2 k1 p1 k2 p2 ih1 ih2 =>
    intro f done a D hB h
    cases f with
    | zero => simp [planB] at hB
    | succ f =>
      simp only [planB, Bool.and_eq_true, decide_eq_true_eq] at hB
      obtain ⟨hr, hB1, hB2⟩ := hB
      refine ⟨fun e => (by rw [hr] at e; cases e), fun i hi => ?_⟩
      rw [hr] at hi
      simp only [List.mem_cons, List.not_mem_nil, or_false] at hi
      rcases hi with rfl | rfl
      · exact opV_mono P ops C E (fun a' D' h' => ih1 _ _ _ _ hB1 h') h.1
      · exact opV_mono P ops C E (fun a' D' h' => ih2 _ _ _ _ hB2 h') h.2
  | s3 k1 p1 k2 p2 k3 p3 ih1 ih2 ih3 =>
    intro f done a D hB h
    cases f with
    | zero => simp [planB] at hB
    | succ f =>
      simp only [planB, Bool.and_eq_true, decide_eq_true_eq] at hB
      obtain ⟨hr, hB1, hB2, hB3⟩ := hB
      refine ⟨fun e => (by rw [hr] at e; cases e), fun i hi => ?_⟩
      rw [hr] at hi
      simp only [List.mem_cons, List.not_mem_nil, or_false] at hi
      rcases hi with rfl | rfl | rfl
      · exact opV_mono P ops C E (fun a' D' h' => ih1 _ _ _ _ hB1 h') h.1
      · exact opV_mono P ops C E (fun a' D' h' => ih2 _ _ _ _ hB2 h') h.2.1
      · exact opV_mono P ops C E (fun a' D' h' => ih3 _ _ _ _ hB3 h') h.2.2
end

/-- a region by parts of memory: w0, L what the class holds; L1 what stands at the start beside it -/
theorem region_P {P : Program} {id : Nat} {Q : Exit → Act → World → Prop} {a : Act} {w w0 : World} {l : List Oper} (L : List Part) (L1 : List Part) (sp : List Nat) (p : Plan) (H : Holds w0 w L1) (hL : L.Sublist L1)
    (hm : P.follows .mixedOrders = true)
    (hsel : Region.noSelect l.toArray = true) (hB : planB .any l.toArray sp l.toArray.size p (Array.replicate l.toArray.size false) = true) 
    (h : walkV P l.toArray (fun wx => Holds w0 wx L) (fun k => sp.contains k) (fun a' w' => Q .normal a' w') p a (fun wx => Holds w0 wx L1)) : (Code.region id l.toArray true).wp P Q a w := by
  refine wp_region_any hm ?_
  exact anyV_any (Q := Q) P .any l.toArray (fun wx => Holds w0 wx L) (fun k => sp.contains k) (fun a' w' => Q .normal a' w') (fun _ _ h hb => h.call hb) (fun _ _ h => h) _ _ _ _ w.drew (fun _ _ h hb => h.call hb) (H.drew.sub hL) H.drew
    (anyV_walk P .any l.toArray (fun wx => Holds w0 wx L) (fun k => sp.contains k) (fun a' w' => Q .normal a' w') hsel sp (fun _ h => h) p _ _ a _ hB h)

section
variable {P : Program} {ops : Array Oper} {C : World → Prop} {E : Nat → Bool} {k : Nat} {a : Act} {D : World → Prop} {N : Act → (World → Prop) → Prop}
theorem v_q {o : Oper} (ho : ops[k]? = some o) (hE : E k = false) (hw : Region.wanted o (yielded ops a.tmps) = true) {v : Value} (h1 : ∀ w, C w → atG P o a w v) (h2 : N (a.put o.dst v) D) : opV P ops C E k N a D := by
  unfold opV
  simp only [ho, hE, Bool.false_eq_true, if_false]
  rw [if_pos hw]
  exact ⟨v, h1, h2⟩
theorem v_s {o : Oper} (R : Value → World → Prop) (hR : ∀ v, Stable (R v)) (ho : ops[k]? = some o) (hE : E k = true) (hw : Region.wanted o (yielded ops a.tmps) = true) (h1 : ∀ w, C w → D w → uponE P C R w ((execOp a.eval o).run P w))
    (h2 : ∀ v, (∃ w, C w ∧ R v w) → N (a.put o.dst v) (R v)) : opV P ops C E k N a D := by
  unfold opV
  simp only [ho, hE, if_true]
  rw [if_pos hw]
  exact ⟨R, hR, h1, h2⟩
end
/-- a list of cells laid for an append -/
def rBuild (w0 : World) (cells : Array Value) (t : TypeId) (k : Nat) (L : List Part) : Value → World → Prop := fun v w => ∃ g, v = .slice (some ⟨g, 0, none⟩) k k ∧ Holds w0 w (pBlk g cells t :: L)
theorem rBuild_stable {w0 : World} {cells : Array Value} {t : TypeId} {k : Nat} {L : List Part} (v : Value) : Stable (rBuild w0 cells t k L v) := fun _ _ ⟨g, e, h⟩ hb => ⟨g, e, h.call hb⟩
/-- a new block -/
def rBox (w0 : World) (cells : Array Value) (t : TypeId) (L : List Part) : Value → World → Prop := fun v w => ∃ g, v = .pointer (some ⟨g, 0, none⟩) ∧ Holds w0 w (pBlk g cells t :: L)
theorem rBox_stable {w0 : World} {cells : Array Value} {t : TypeId} {L : List Part} (v : Value) : Stable (rBox w0 cells t L v) := fun _ _ ⟨g, e, h⟩ hb => ⟨g, e, h.call hb⟩
/-- a relation of one value that is told by parts -/
def rHolds (w0 : World) (L : Value → List Part) : Value → World → Prop := fun v w => Holds w0 w (L v)
theorem rHolds_stable {w0 : World} {L : Value → List Part} (v : Value) : Stable (rHolds w0 L v) := fun _ _ h hb => h.call hb
/-- what is told of a pointer's block, of a slice's block -/
def rPtr (w0 : World) (cells : Array Value) (t : TypeId) (L : List Part) : Value → World → Prop
  | .pointer (some ⟨g, 0, none⟩) => fun w => Holds w0 w (pBlk g cells t :: L)
  | _ => fun _ => False
def rSl (w0 : World) (cells : Array Value) (t : TypeId) (L : List Part) : Value → World → Prop
  | .slice (some ⟨g, 0, none⟩) _ _ => fun w => Holds w0 w (pBlk g cells t :: L)
  | _ => fun _ => False
theorem rPtr_stable {w0 : World} {cells : Array Value} {t : TypeId} {L : List Part} (v : Value) : Stable (rPtr w0 cells t L v) := by
  unfold rPtr
  split
  · exact fun _ _ h hb => h.call hb
  · exact fun _ _ h _ => h
theorem rSl_stable {w0 : World} {cells : Array Value} {t : TypeId} {L : List Part} (v : Value) : Stable (rSl w0 cells t L v) := by
  unfold rSl
  split
  · exact fun _ _ h hb => h.call hb
  · exact fun _ _ h _ => h
section
variable {P : Program} {ops : Array Oper} {E : Nat → Bool} {k : Nat} {a : Act} {N : Act → (World → Prop) → Prop} {w0 : World} {L L1 : List Part}
/-- a new block -/
theorem v_box {o : Oper} (cells : Array Value) (t : TypeId) (ho : ops[k]? = some o) (hE : E k = true) (hw : Region.wanted o (yielded ops a.tmps) = true)
    (h1 : ∀ w, Holds w0 w L → Holds w0 w L1 → (execOp a.eval o).run P w = .ok (.value (.pointer (some ⟨w.heap.size, 0, none⟩))) (w.alloc (.cells cells t)))
    (h2 : ∀ g, N (a.put o.dst (.pointer (some ⟨g, 0, none⟩))) (fun wx => Holds w0 wx (pBlk g cells t :: L1))) : opV P ops (fun wx => Holds w0 wx L) E k N a (fun wx => Holds w0 wx L1) := by
  refine v_s (rPtr w0 cells t L1) rPtr_stable ho hE hw (fun w hx hD => ?_) fun v hv => ?_
  · rw [h1 w hx hD]
    exact ⟨hx.alloc _, hD.blk _ _ _ rfl⟩
  · obtain ⟨w, _, hr⟩ := hv
    unfold rPtr at hr
    split at hr
    · exact h2 _
    · exact hr.elim
/-- a list of cells laid for an append -/
theorem v_build {o : Oper} (cells : Array Value) (t : TypeId) (n : Nat) (ho : ops[k]? = some o) (hE : E k = true) (hw : Region.wanted o (yielded ops a.tmps) = true)
    (h1 : ∀ w, Holds w0 w L → Holds w0 w L1 → (execOp a.eval o).run P w = .ok (.value (.slice (some ⟨w.heap.size, 0, none⟩) n n)) (w.alloc (.cells cells t)))
    (h2 : ∀ g, N (a.put o.dst (.slice (some ⟨g, 0, none⟩) n n)) (fun wx => Holds w0 wx (pBlk g cells t :: L1))) : opV P ops (fun wx => Holds w0 wx L) E k N a (fun wx => Holds w0 wx L1) := by
  refine v_s (fun v w => ∃ g, v = .slice (some ⟨g, 0, none⟩) n n ∧ rSl w0 cells t L1 v w) (fun v _ _ ⟨g, e, h⟩ hb => ⟨g, e, rSl_stable v _ _ h hb⟩) ho hE hw (fun w hx hD => ?_) fun v hv => ?_
  · rw [h1 w hx hD]
    exact ⟨hx.alloc _, _, rfl, hD.blk _ _ _ rfl⟩
  · obtain ⟨w, _, g, rfl, hr⟩ := hv
    have := h2 g
    refine cast (congrArg (N _) ?_) this
    funext wx
    refine propext ⟨fun h => ⟨g, rfl, h⟩, fun ⟨_, _, h⟩ => h⟩
end
end Go.Proofs.Ytfoaejdbgpgnhaa.Rd

namespace Go.Proofs.Ytfoaejdbgpgnhaa
open Go.RowKit

/-- pairs by codes -/
def bF (p q : Nat → Nat) (z : Nat) : Nat := 16 * p (z / 16) + q (z % 16)
theorem bF_1 {p q : Nat → Nat} {z : Nat} (h : q (z % 16) < 16) : bF p q z / 16 = p (z / 16) := by unfold bF; omega
theorem bF_2 {p q : Nat → Nat} {z : Nat} (h : q (z % 16) < 16) : bF p q z % 16 = q (z % 16) := by unfold bF; omega
theorem PermN.lt16 {p : Nat → Nat} {m : Nat} (h : PermN p m) {i : Nat} (hi : i < 16) : p i < 16 := by
  obtain ⟨h1, h2, h3, h4⟩ := h
  rcases Nat.lt_or_ge i m with c | c
  · have := h3.1 i c; omega
  · rw [h4 i c hi]; omega
theorem bF_lt {p q : Nat → Nat} {m n : Nat} (hp : PermN p m) (hq : PermN q n) (z : Nat) (hz : z < 256) : bF p q z < 256 := by
  have h1 := hp.lt16 (i := z / 16) (by omega)
  have h2 := hq.lt16 (i := z % 16) (by omega)
  unfold bF; omega
def dec (l : List Nat) : List (Nat × Nat) := l.map fun z => (z / 16, z % 16)
theorem dec_length (l : List Nat) : (dec l).length = l.length := by unfold dec; simp
theorem dec_snoc (l : List Nat) (z : Nat) : dec (l ++ [z]) = dec l ++ [(z / 16, z % 16)] := by unfold dec; simp
theorem dec_at {l : List Nat} {k : Nat} (hk : k < l.length) : (dec l)[k]'(by rw [dec_length]; exact hk) = (l[k] / 16, l[k] % 16) := by unfold dec; simp
theorem badd_mem {n : Nat} {S : List Nat × (Nat → Bool)} (h : BInv n S) (y : Nat) : y ∈ (badd S y).1 := by
  unfold badd
  by_cases c : S.2 y = true
  · rw [if_pos c]; exact (h.mem y).1 c
  · rw [if_neg c]; simp
/-- what has been found is closed -/
theorem bfs_clos {p q : Nat → Nat} {n K z : Nat} (hp : ∀ x, x < n → p x < n) (hq : ∀ x, x < n → q x < n) (hz : z < n) (hK : n ≤ K) {y : Nat} (hy : y ∈ (bfs p q z K).1) : p y ∈ (bfs p q z K).1 ∧ q y ∈ (bfs p q z K).1 := by
  obtain ⟨k, hk⟩ := List.getElem?_of_mem hy
  have hkl := (List.getElem?_eq_some_iff.1 hk).1
  have hle := (bfs_inv hp hq hz K).length_le
  have hlt : k < (bfs p q z k).1.length := by
    rcases Nat.lt_or_ge k (bfs p q z k).1.length with c | c
    · exact c
    · have := bfs_stop c (j := K) (by omega)
      rw [this] at hkl
      omega
  have hpre := bfs_pre' p q z (show k ≤ K by omega)
  have hky : (bfs p q z k).1[k] = y := by
    obtain ⟨t, ht⟩ := hpre
    rw [← ht, List.getElem?_append_left hlt, List.getElem?_eq_getElem hlt] at hk
    exact Option.some.inj hk
  have hI := bfs_inv hp hq hz k
  have hn := bfs_next hlt
  rw [hky] at hn
  have hy' : y < n := (bfs_inv hp hq hz K).lt y hy
  have e : bst p q (bfs p q z k) y 2 = badd (badd (bfs p q z k) (p y)) (q y) := rfl
  rw [e] at hn
  have hpre2 := bfs_pre' p q z (show k + 1 ≤ K by omega)
  refine ⟨hpre2.subset ?_, hpre2.subset ?_⟩
  · rw [hn]; exact (badd_le _ _).subset (badd_mem hI _)
  · rw [hn]; exact badd_mem (hI.add (hp y hy')) _
/-- the value of a code; the map of a set of codes -/
def encP (z : Nat) : Value := .agg #[.int .u8 ((z / 16 : Nat) : Int), .int .u8 ((z % 16 : Nat) : Int)]
theorem encP_inj {y z : Nat} (h : encP y = encP z) : y = z := by
  unfold encP at h
  injection h with h
  have h' := congrArg Array.toList h
  simp at h'
  omega
open Classical in
noncomputable def Mp (s : Nat → Bool) : Value → Option Value := fun v => if ∃ z, v = encP z ∧ s z = true then some (.bool true) else none
theorem Mp_at (s : Nat → Bool) (z : Nat) : Mp s (encP z) = if s z = true then some (.bool true) else none := by
  unfold Mp
  by_cases h : s z = true
  · rw [if_pos ⟨z, rfl, h⟩, if_pos h]
  · rw [if_neg (fun ⟨y, e, hy⟩ => h (by rw [encP_inj e]; exact hy)), if_neg h]
theorem Mp_put (s : Nat → Bool) (z : Nat) : mput (Mp s) (encP z) (.bool true) = Mp (mset s z) := by
  funext v
  unfold mput Mp mset
  by_cases h : v = encP z
  · rw [if_pos h, if_pos ⟨z, h, by simp⟩]
  · rw [if_neg h]
    by_cases c : ∃ y, v = encP y ∧ s y = true
    · rw [if_pos c]
      obtain ⟨y, e, hy⟩ := c
      rw [if_pos ⟨y, e, by simp [hy]⟩]
    · rw [if_neg c, if_neg]
      rintro ⟨y, e, hy⟩
      by_cases d : y = z
      · subst d; exact h e
      · exact c ⟨y, e, by simpa [d] using hy⟩
theorem Mp_nil : (fun _ => none : Value → Option Value) = Mp fun _ => false := by funext v; unfold Mp; simp
theorem isK_code {z : Nat} (hz : z < 256) : IsK Try.prog 127 (encP z) := isK_pair _ _ (by omega) (by omega)
theorem zeroBool (w : World) : (zeroValue 4).run Try.prog w = .ok (.bool false) w := by
  have h : (Try.prog.info? 4).map (·.zero) = some (some (.bool false)) := by kernel_rfl
  rcases hi : Try.prog.info? 4 with _ | i
  · rw [hi] at h; cases h
  · rw [hi] at h
    have hz : i.zero = some (.bool false) := by simpa using h
    simp [zeroValue, typeInfo, hi, hz]
-- left out here: 
theorem infoArr2 : (Try.prog.info? 127).map (·.size) = some 2 := by kernel_rfl
-- left out here: 
-- left out here: loop.example/g01200/impl.pairsFrom
end Go.Proofs.Ytfoaejdbgpgnhaa

namespace Go.Proofs.Ytfoaejdbgpgnhaa
open Go.RowKit

section
open Classical
/-- the keys so far; what stands under each -/
noncomputable def ksT (key : Nat → Value) : Nat → List Value
  | 0 => []
  | y + 1 => if key y ∈ ksT key y then ksT key y else key y :: ksT key y
noncomputable def lstT (key : Nat → Value) (nm : Nat → Nat → Nat) : Nat → Value → List (Nat → Nat)
  | 0, _ => []
  | y + 1, K => if key y = K then lstT key nm y K ++ [nm y] else lstT key nm y K
noncomputable def MkF (ks : List Value) (val : Value → Value) : Value → Option Value := fun K => if K ∈ ks then some (val K) else none
noncomputable def updV (val : Value → Value) (K v : Value) : Value → Value := fun K' => if K' = K then v else val K'
theorem updV_same (val : Value → Value) (K v : Value) : updV val K v K = v := by unfold updV; rw [if_pos rfl]
theorem updV_ne (val : Value → Value) {K K' : Value} (v : Value) (h : K' ≠ K) : updV val K v K' = val K' := by unfold updV; rw [if_neg h]
theorem ksT_nodup (key : Nat → Value) (y : Nat) : (ksT key y).Nodup := by
  induction y with
  | zero => exact List.nodup_nil
  | succ y ih =>
    rw [ksT]
    split
    · exact ih
    · rename_i h; exact List.nodup_cons.2 ⟨h, ih⟩
theorem ksT_mem (key : Nat → Value) (y : Nat) (K : Value) : K ∈ ksT key y ↔ ∃ x, x < y ∧ key x = K := by
  induction y with
  | zero => simp [ksT]
  | succ y ih =>
    rw [ksT]
    constructor
    · intro h
      by_cases c : key y ∈ ksT key y
      · rw [if_pos c] at h
        obtain ⟨x, hx, e⟩ := ih.1 h
        exact ⟨x, by omega, e⟩
      · rw [if_neg c] at h
        rcases List.mem_cons.1 h with rfl | h
        · exact ⟨y, by omega, rfl⟩
        · obtain ⟨x, hx, e⟩ := ih.1 h
          exact ⟨x, by omega, e⟩
    · rintro ⟨x, hx, e⟩
      by_cases c : key y ∈ ksT key y
      · rw [if_pos c]
        by_cases d : x = y
        · subst d; rw [← e]; exact c
        · exact ih.2 ⟨x, by omega, e⟩
      · rw [if_neg c]
        by_cases d : x = y
        · subst d; subst e; simp
        · exact List.mem_cons_of_mem _ (ih.2 ⟨x, by omega, e⟩)
theorem lstT_none {key : Nat → Value} {nm : Nat → Nat → Nat} {y : Nat} {K : Value} (h : K ∉ ksT key y) : lstT key nm y K = [] := by
  induction y with
  | zero => rfl
  | succ y ih =>
    rw [ksT_mem] at h
    rw [lstT, if_neg (fun e => h ⟨y, by omega, e⟩)]
    exact ih fun c => by
      rw [ksT_mem] at c
      obtain ⟨x, hx, e⟩ := c
      exact h ⟨x, by omega, e⟩
theorem lstT_len (key : Nat → Value) (nm : Nat → Nat → Nat) (y : Nat) (K : Value) : (lstT key nm y K).length ≤ y := by
  induction y with
  | zero => simp [lstT]
  | succ y ih =>
    rw [lstT]
    split
    · rw [List.length_append]; simp only [List.length_cons, List.length_nil]; omega
    · omega
theorem MkF_put_old {ks : List Value} {val : Value → Value} {K v0 v : Value} (h : K ∈ ks) : mput (mput (MkF ks val) K v0) K v = MkF ks (updV val K v) := by
  rw [mput_twice]
  funext x
  unfold mput MkF updV
  by_cases c : x = K
  · subst c; rw [if_pos rfl, if_pos h, if_pos rfl]
  · rw [if_neg c, if_neg c]
theorem MkF_put_new {ks : List Value} {val : Value → Value} {K v0 v : Value} : mput (mput (MkF ks val) K v0) K v = MkF (K :: ks) (updV val K v) := by
  rw [mput_twice]
  funext x
  unfold mput MkF updV
  by_cases c : x = K
  · subst c; simp
  · rw [if_neg c, if_neg c]
    by_cases d : x ∈ ks
    · rw [if_pos d, if_pos (by simp [d])]
    · rw [if_neg d, if_neg (by simp [c, d])]
end
/-- the rows that stand under some keys, a part each -/
def famP (ks : List Value) (val : Value → Value) (lst : Value → List (Nat → Nat)) : List Part := ks.map fun K => pPl (val K) (lst K)
theorem famP_at {ks : List Value} {val : Value → Value} {lst : Value → List (Nat → Nat)} {j : Nat} {K : Value} (h : ks[j]? = some K) : (famP ks val lst)[j]? = some (pPl (val K) (lst K)) := by unfold famP; simp [h]
theorem famP_congr {ks : List Value} {val val' : Value → Value} {lst lst' : Value → List (Nat → Nat)} (h : ∀ K ∈ ks, val K = val' K ∧ lst K = lst' K) : famP ks val lst = famP ks val' lst' := by
  unfold famP
  exact List.map_congr_left fun K hK => by rw [(h K hK).1, (h K hK).2]
theorem famP_set {ks : List Value} (hn : ks.Nodup) {val val' : Value → Value} {lst lst' : Value → List (Nat → Nat)} {j : Nat} {K : Value} (h : ks[j]? = some K) (h1 : ∀ K' ∈ ks, K' ≠ K → val K' = val' K' ∧ lst K' = lst' K') :
    (famP ks val lst).set j (pPl (val' K) (lst' K)) = famP ks val' lst' := by
  apply List.ext_getElem?
  intro i
  rw [List.getElem?_set]
  unfold famP
  obtain ⟨hj, e⟩ := List.getElem?_eq_some_iff.1 h
  by_cases c : j = i
  · subst c
    rw [if_pos rfl, if_pos (by simpa using hj)]
    simp [h]
  · rw [if_neg c, List.getElem?_map, List.getElem?_map]
    rcases e2 : ks[i]? with _ | K'
    · rfl
    · have hne : K' ≠ K := fun e3 => by
        subst e3
        obtain ⟨hi, e4⟩ := List.getElem?_eq_some_iff.1 e2
        rcases Nat.lt_or_gt_of_ne c with d | d
        · exact List.pairwise_iff_getElem.1 hn j i hj hi d (by rw [e, e4])
        · exact List.pairwise_iff_getElem.1 hn i j hi hj d (by rw [e, e4])
      have := h1 K' (List.mem_of_getElem? e2) hne
      simp only [Option.map_some]
      rw [this.1, this.2]
theorem Holds.join {w0 w w' : World} {L A : List Part} (h : Holds w0 w L) (k : Holds w w' A) : Holds w0 w' (A ++ L) := by
  induction A with
  | nil => exact h.call k.low
  | cons a A ih =>
    have h' := ih k.tail
    refine ⟨h'.1, fun b hb => ?_, List.pairwise_cons.2 ⟨fun b hb g hg hg' => ?_, h'.2.2⟩⟩
    · rcases List.mem_cons.1 hb with rfl | hb
      · exact ⟨k.at 0 rfl, fun g hg => Nat.le_trans h.size (k.above 0 rfl hg)⟩
      · exact h'.2.1 b hb
    · rcases List.mem_append.1 hb with hb | hb
      · exact (List.pairwise_cons.1 k.2.2).1 b hb g hg hg'
      · have h1 := b.lt _ _ (h.2.1 b hb).1 hg'
        have h2 := k.above 0 rfl hg
        omega
theorem zeroSlP (w : World) : (zeroValue 82).run Try.prog w = .ok (.slice none 0 0) w := by
  have h : (Try.prog.info? 82).map (·.zero) = some (some (.slice none 0 0)) := by kernel_rfl
  rcases hi : Try.prog.info? 82 with _ | i
  · rw [hi] at h; cases h
  · rw [hi] at h
    have hz : i.zero = some (.slice none 0 0) := by simpa using h
    simp [zeroValue, typeInfo, hi, hz]
/-- the key of the form from a dart -/
def formK (f g : Nat → Nat) (m x : Nat) : Value := .agg (dv m (renF (namF f g m x) f m) (renF (namF f g m x) g m))
theorem isK_form {f g : Nat → Nat} {m x : Nat} (hd : DesN f g m) (hx : x < m) : IsK Try.prog 29 (formK f g m x) := by
  have hp := namF_perm hd hx
  exact isK_des m _ _ hd.le (fun i hi => by have := (renF_perm hp hd.black).lt16 hi; omega) (fun i hi => by have := (renF_perm hp hd.white).lt16 hi; omega)

-- left out here: loop.example/g01200/impl.namingsByForm
end Go.Proofs.Ytfoaejdbgpgnhaa

namespace Go.Proofs.Ytfoaejdbgpgnhaa
open Go.RowKit

theorem run_items2 (d : Nat) (f g : Nat → Nat) (w : World) : ∀ is : List Nat, (∀ i ∈ is, i < 16) →
    (Op.eqItems (d + 1) 5 1 (av f) (av g) is).run Try.prog w = .ok (is.all fun i => ((f i : Nat) : Int) == ((g i : Nat) : Int)) w
  | [], _ => by simp [Op.eqItems]
  | i :: is, h => by
    have hi := h i (by simp)
    have ih := run_items2 d f g w is fun j hj => h j (by simp [hj])
    have h1 := run_part_plain w plain8 (av_get f hi)
    have h2 := run_part_plain w plain8 (av_get g hi)
    have h3 := run_equalIn_int w d 5 .u8 .u8 (f i) (g i) Try.underlying5
    simp only [Op.eqItems, Nat.mul_one, Sem.run_bind, h1, h2, h3, Result.andThen_ok, List.all_cons]
    rcases hb : (((f i : Nat) : Int) == ((g i : Nat) : Int)) with _ | _
    · simp
    · simp [ih]
theorem run_sameP2 (d : Nat) (f g : Nat → Nat) (w : World) : (Op.equalIn (d + 2) 27 (.agg (av f)) (.agg (av g))).run Try.prog w = .ok (sameB f g) w := by
  obtain ⟨i0, hi, _⟩ := info_parts info8
  have h := run_equalIn_array w (d + 1) (av f) (av g) Try.underlying27 hi
  rw [cells8] at h
  rw [h, run_items2 d f g w _ (by simp)]
  unfold sameB; rfl
theorem info64D : (Try.prog.info? 2).map (·.size) = some 1 := by kernel_rfl
theorem infoPD : (Try.prog.info? 27).map (·.size) = some 16 := by kernel_rfl
theorem part_n (n : Int) (F G : Nat → Nat) (w : World) : (part 2 (dv n F G) 0).run Try.prog w = .ok (.int .i64 n) w :=
  run_part_plain w (by kernel_rfl) (dv_n n F G)
theorem part_b (n : Int) (F G : Nat → Nat) (w : World) : (part 27 (dv n F G) 1).run Try.prog w = .ok (.agg (av F)) w := by
  rcases hi : Try.prog.info? 27 with _ | i
  · have := infoPD; rw [hi] at this; cases this
  · have hsz : i.size = 16 := by have := infoPD; rw [hi] at this; simpa using this
    have hag : (isAgg 27).run Try.prog w = .ok true w := by simp [isAgg, run_underlying Try.underlying27]
    have e := blackOf_dv n F G
    unfold blackOf at e
    simp [part, hag, sizeOf, typeInfo, hi, hsz, e]
theorem part_w (n : Int) (F G : Nat → Nat) (w : World) : (part 27 (dv n F G) 17).run Try.prog w = .ok (.agg (av G)) w := by
  rcases hi : Try.prog.info? 27 with _ | i
  · have := infoPD; rw [hi] at this; cases this
  · have hsz : i.size = 16 := by have := infoPD; rw [hi] at this; simpa using this
    have hag : (isAgg 27).run Try.prog w = .ok true w := by simp [isAgg, run_underlying Try.underlying27]
    have e := whiteOf_dv n F G
    unfold whiteOf at e
    simp [part, hag, sizeOf, typeInfo, hi, hsz, e]
@[irreducible] def eqDB (n : Int) (F G : Nat → Nat) (n' : Int) (F' G' : Nat → Nat) : Bool := (n == n') && (sameB F F' && sameB G G')
theorem eqDB_iff (n : Int) (F G : Nat → Nat) (n' : Int) (F' G' : Nat → Nat) : eqDB n F G n' F' G' = true ↔ dv n F G = dv n' F' G' := by
  unfold eqDB
  rw [Bool.and_eq_true, Bool.and_eq_true, beq_iff_eq, sameB_iff, sameB_iff]
  constructor
  · rintro ⟨rfl, h1, h2⟩
    unfold dv
    apply row_congr
    intro i hi
    by_cases c : i = 0
    · rw [if_pos c, if_pos c]
    · rw [if_neg c, if_neg c]
      by_cases d : i < 17
      · rw [if_pos d, if_pos d, h1 (i - 1) (by omega)]
      · rw [if_neg d, if_neg d, h2 (i - 17) (by omega)]
  · intro h
    have hn : (dv n F G)[0]? = (dv n' F' G')[0]? := by rw [h]
    rw [dv_n, dv_n] at hn
    refine ⟨by simpa using hn, fun i hi => ?_, fun i hi => ?_⟩
    · have hb : (dv n F G)[1 + i]? = (dv n' F' G')[1 + i]? := by rw [h]
      rw [dv_b _ _ _ hi, dv_b _ _ _ hi] at hb
      simp at hb; omega
    · have hb : (dv n F G)[17 + i]? = (dv n' F' G')[17 + i]? := by rw [h]
      rw [dv_w _ _ _ hi, dv_w _ _ _ hi] at hb
      simp at hb; omega
theorem run_sameD (n : Int) (F G : Nat → Nat) (n' : Int) (F' G' : Nat → Nat) (w : World) : (Op.equalIn 10000 29 (.agg (dv n F G)) (.agg (dv n' F' G'))).run Try.prog w = .ok (eqDB n F G n' F' G') w := by
  have ht : Try.prog.underlying 29 = some (.struct (Try.prog.fieldsOf 29)) := by kernel_rfl
  have hp : Try.prog.stoodInHeld 29 = false := by kernel_rfl
  rw [run_equalIn_struct w 9999 29 _ _ ht hp]
  have hi : (Op.equalIn 9999 2 (.int .i64 n) (.int .i64 n')).run Try.prog w = .ok (n == n') w := run_equalIn_int w 9998 2 .i64 .i64 n n' Try.underlying2
  have hb : (Op.equalIn 9999 27 (.agg (av F)) (.agg (av F'))).run Try.prog w = .ok (sameB F F') w := run_sameP2 9997 F F' w
  have hw : (Op.equalIn 9999 27 (.agg (av G)) (.agg (av G'))).run Try.prog w = .ok (sameB G G') w := run_sameP2 9997 G G' w
  unfold eqDB
  rcases h1 : n == n' with _ | _
  · rw [h1] at hi
    simp [Program.fieldsOf, Try.underlying29, Op.eqFields, part_n, hi]
  · rw [h1] at hi
    rcases h2 : sameB F F' with _ | _
    · rw [h2] at hb
      simp [Program.fieldsOf, Try.underlying29, Op.eqFields, part_n, part_b, hi, hb]
    · rw [h2] at hb
      rcases h3 : sameB G G' with _ | _
      · rw [h3] at hw
        simp [Program.fieldsOf, Try.underlying29, Op.eqFields, part_n, part_b, part_w, hi, hb, hw]
      · rw [h3] at hw
        simp [Program.fieldsOf, Try.underlying29, Op.eqFields, part_n, part_b, part_w, hi, hb, hw]
@[go_sem] theorem guardD : Try.prog.eqGuardType Try.prog.depth 29 = false := by kernel_rfl
@[go_sem ↓] theorem run_eqlD (n : Int) (F G : Nat → Nat) (n' : Int) (F' G' : Nat → Nat) (w : World) : (binOp .eql 29 (.agg (dv n F G)) (.agg (dv n' F' G'))).run Try.prog w = .ok (.bool (eqDB n F G n' F' G')) w := by
  rw [run_eql_struct, run_sameD]; rfl
@[go_sem ↓] theorem run_neqD (n : Int) (F G : Nat → Nat) (n' : Int) (F' G' : Nat → Nat) (w : World) : (binOp .neq 29 (.agg (dv n F G)) (.agg (dv n' F' G'))).run Try.prog w = .ok (.bool (!eqDB n F G n' F' G')) w := by
  rw [run_neq_struct, run_sameD]; rfl
end Go.Proofs.Ytfoaejdbgpgnhaa

namespace Go.Proofs.Ytfoaejdbgpgnhaa
open Go.RowKit

/-- from the form of one dessin back by a naming of the other one -/
def isoP (first : Nat → Nat) (k : Nat) (s : Nat → Nat) : Nat → Nat := thenF first (backF s k) k
/-- all isomorphisms -/
noncomputable def isoL (f g : Nat → Nat) (m : Nat) (f' g' : Nat → Nat) (k : Nat) : List (Nat → Nat) := (lstT (formK f' g' k) (namF f' g' k) k (formK f g m 0)).map (isoP (namF f g m 0) k)
theorem isoL_len (f g : Nat → Nat) (m : Nat) (f' g' : Nat → Nat) (k : Nat) : (isoL f g m f' g' k).length ≤ k := by unfold isoL; rw [List.length_map]; exact lstT_len _ _ _ _
theorem upon_appPl {o : Oper} {a : Act} {w0 w : World} {L : List Part} (H : Holds w0 w L) (k : Nat) {v : Value} {l : List (Nat → Nat)} (hk : L[k]? = some (pPl v l))
    (g : Nat) (p : Nat → Nat) (t : TypeId) (hc : w.heap[g]? = some (.cells (av p) t (0, 0))) (hb : l.length ≤ 100000) {C : World → Prop} {R : Value → World → Prop}
    (h : ∀ v' w', Holds w0 w' (L.set k (pPl v' (l ++ [p]))) → C w' ∧ R v' w') (s x : Operand)
    (ho : o.op = .call { callee := .builtin .append, args := #[s, x], argTypes := #[82, 82] })
    (hs : a.eval s = v) (hx : a.eval x = .slice (some ⟨g, 0, none⟩) 1 1) : Rd.uponE Try.prog C R w ((execOp a.eval o).run Try.prog w) := by
  obtain ⟨v', w', h1, h2⟩ := run_appPl H k hk g p t hc hb s x ho hs hx
  rw [h1]
  exact h v' w' h2

-- left out here: loop.example/g01200/impl.isomorphisms
end Go.Proofs.Ytfoaejdbgpgnhaa

namespace Go.Proofs.Ytfoaejdbgpgnhaa
open Go.RowKit

@[irreducible] def gv (p : Nat → Nat) (y : Int) : Array Value := row 17 fun i => if i = 16 then .int .i64 y else .int .u8 (p i)
theorem gv_size (p : Nat → Nat) (y : Int) : (gv p y).size = 17 := by unfold gv; exact row_size _ _
theorem gv_cases (p : Nat → Nat) (y : Int) (i : Nat) : (gv p y)[i]? = if i < 17 then some (if i = 16 then .int .i64 y else .int .u8 (p i)) else none := by
  unfold gv
  by_cases c : i < 17
  · rw [row_get _ _ c, if_pos c]
  · rw [row_none _ _ c, if_neg c]
theorem gv_len (p : Nat → Nat) (y : Int) : (gv p y).toList.length = 17 := by rw [Array.length_toList, gv_size]
theorem gv_cells (p : Nat → Nat) (y : Int) : (gv p y).all (·.oneCell') = true := by
  unfold gv row
  simp [Value.oneCell']
  intro x _
  by_cases c : x = 16
  · rw [if_pos c]
  · rw [if_neg c]
theorem gv_level (p : Nat → Nat) (y : Int) : (gv p y)[16]? = some (.int .i64 y) := by rw [gv_cases]; rfl
theorem gv_places (p : Nat → Nat) (y : Int) : (gv p y).extract 0 16 = av p := by
  apply Array.ext_getElem?
  intro i
  rw [Array.getElem?_extract, av_cases, gv_cases, gv_size]
  by_cases c : i < 16
  · rw [if_pos (by omega), if_pos (by omega), if_neg (by omega), if_pos c, Nat.zero_add]
  · rw [if_neg (by omega), if_neg c]
theorem gv_zero : gv (fun _ => 0) 0 = #[.int .u8 0, .int .u8 0, .int .u8 0, .int .u8 0, .int .u8 0, .int .u8 0, .int .u8 0, .int .u8 0, .int .u8 0, .int .u8 0, .int .u8 0, .int .u8 0, .int .u8 0, .int .u8 0, .int .u8 0, .int .u8 0, .int .i64 0] := by unfold gv row; rfl

def grB (l : List ((Nat → Nat) × Nat)) : List Value := l.flatMap fun q => (gv q.1 q.2).toList
theorem grB_cons (q : (Nat → Nat) × Nat) (l : List ((Nat → Nat) × Nat)) : grB (q :: l) = (gv q.1 q.2).toList ++ grB l := rfl
theorem grB_length (l : List ((Nat → Nat) × Nat)) : (grB l).length = l.length * 17 := by
  induction l with
  | nil => rfl
  | cons p l ih => rw [grB_cons, List.length_append, ih, gv_len, List.length_cons, Nat.succ_mul]; omega
theorem grB_append (l l' : List ((Nat → Nat) × Nat)) : grB (l ++ l') = grB l ++ grB l' := by unfold grB; simp
theorem grB_one {l : List ((Nat → Nat) × Nat)} : ∀ u ∈ grB l, u.oneCell' = true := by
  intro u hu
  unfold grB at hu
  obtain ⟨p, _, hp⟩ := List.mem_flatMap.1 hu
  have := Array.all_eq_true_iff_forall_mem.1 (gv_cells p.1 p.2) u (by simpa using hp)
  exact this
theorem grB_at {l : List ((Nat → Nat) × Nat)} {k : Nat} (hk : k < l.length) {i : Nat} (hi : i < 17) : (grB l)[k * 17 + i]? = (gv l[k].1 l[k].2)[i]? := by
  induction l generalizing k with
  | nil => simp at hk
  | cons p l ih =>
    rw [grB_cons]
    rcases k with _ | k
    · rw [Nat.zero_mul, Nat.zero_add, List.getElem?_append_left (by rw [gv_len]; exact hi), Array.getElem?_toList]; rfl
    · rw [List.getElem?_append_right (by rw [gv_len]; omega), gv_len, show (k + 1) * 17 + i - 17 = k * 17 + i by omega]
      exact ih (k := k) (by simpa using hk)
theorem grB_ext {l : List ((Nat → Nat) × Nat)} {cur : Array Value} (h : cur.toList.take (l.length * 17) = grB l) {k : Nat} (hk : k < l.length) : cur.extract (k * 17) (k * 17 + 17) = gv l[k].1 l[k].2 := by
  have hlen : l.length * 17 ≤ cur.size := by
    have h1 := congrArg List.length h
    rw [grB_length, List.length_take] at h1
    have h2 : cur.toList.length = cur.size := Array.length_toList
    rw [← h2, ← h1]
    exact Nat.min_le_right _ _
  have hk16 : k * 17 + 17 ≤ l.length * 17 := by omega
  apply Array.ext_getElem?
  intro i
  rw [Array.getElem?_extract]
  by_cases c : i < 17
  · rw [if_pos (by omega)]
    have h1 := grB_at hk c
    rw [← h, List.getElem?_take_of_lt (by omega), Array.getElem?_toList] at h1
    exact h1
  · rw [if_neg (by omega), Array.getElem?_eq_none (by rw [gv_size]; omega)]
theorem infoGr : (Try.prog.info? 184).map (fun i => (i.zero, i.size, i.bytes)) = some (some (.agg #[.int .u8 0, .int .u8 0, .int .u8 0, .int .u8 0, .int .u8 0, .int .u8 0, .int .u8 0, .int .u8 0, .int .u8 0, .int .u8 0, .int .u8 0, .int .u8 0, .int .u8 0, .int .u8 0, .int .u8 0, .int .u8 0, .int .i64 0]), 17, 24) := by kernel_rfl
/-- a row of grains, its part -/
def pGr (v : Value) (l : List ((Nat → Nat) × Nat)) : Part := pRow v 184 17 l.length (grB l)
theorem Holds.grForm {w0 w : World} {L : List Part} (h : Holds w0 w L) (i : Nat) {v : Value} {l : List ((Nat → Nat) × Nat)} (hi : L[i]? = some (pGr v l)) : ∃ A c, v = .slice A l.length c := own_slice (h.row i hi)

set_option maxRecDepth 1000000 in
theorem builtGr (p : Nat → Nat) (y : Int) : Try.prog.built 184 [(0, .agg (av p)), (1, .int .i64 y)] = some (gv p y) := by
  have hu : Try.prog.underlying 184 = some (.struct _) := Try.underlying184
  have hz : (Try.prog.info? 184).map (·.zero) = some (some (.agg (gv (fun _ => 0) 0))) := by rw [gv_zero]; kernel_rfl
  unfold Program.built
  rcases hi : Try.prog.info? 184 with _ | it
  · rw [hi] at hz; cases hz
  · rw [hi] at hz
    have hz' : it.zero = some (.agg (gv (fun _ => 0) 0)) := by simpa using hz
    rw [hu]
    simp only [hz']
    generalize he : List.mapM (fun (f : Field) => Option.map (fun i => (f.offset, i.size)) (Try.prog.info? f.type)) _ = z
    have hz2 : z = some [(0, 16), (16, 1)] := he.symm.trans (by kernel_rfl)
    subst hz2
    simp only [Instr.fill, Value.cells, List.getElem?_toArray, List.getElem?_cons_zero, List.getElem?_cons_succ, av_size, splice_eq, splice_size, gv_size]
    rw [if_neg (by simp), if_neg (by simp)]
    congr 1
    apply Array.ext_getElem?
    intro i
    have l1 : (av p).toList.length = 16 := by simpa using av_size p
    rw [foldset, foldset, gv_cases, gv_cases, splice_size, gv_size, l1, Array.getElem?_toList, Array.getElem?_toList, av_cases]
    simp only [List.length_cons, List.length_nil, Nat.zero_add, Nat.add_zero, Nat.sub_zero]
    by_cases h0 : i = 16
    · subst h0; simp
    · by_cases h1 : i < 16
      · rw [if_neg (by omega), if_pos (by omega), if_pos (by omega), if_pos (by omega), if_neg h0]
      · rw [if_neg (by omega), if_neg (by omega), if_neg (by omega), if_neg (by omega)]
/-- what the operation 'build a grain' does -/
def buildGr (ps : Array (Nat × Value)) : Sem Next := do pure (.value (← Instr.build 184 ps))
@[go_sem ↓] theorem exec_buildGr (ρ : Operand → Value) (dst : Option Tmp) (parts : Array (Nat × Operand)) (ty : TypeId) (pos : String) (after : Array Edge) (guard : Option (Nat × Bool)) :
    execOp ρ { dst, op := .build 184 parts, type := ty, pos, after, guard } = buildGr (parts.map fun (i, x) => (i, ρ x)) := rfl
@[go_sem] theorem run_buildGr (p : Nat → Nat) (y : Int) (w : World) : (buildGr #[(0, .agg (av p)), (1, .int .i64 y)]).run Try.prog w = .ok (.value (.agg (gv p y))) w := by
  simp only [buildGr, Sem.run_bind, run_build (P := Try.prog) w 184 #[(0, .agg (av p)), (1, .int .i64 y)] _ (builtGr p y), Result.andThen_ok, Sem.run_pure]
/-- one grain laid for an append -/
def buildSlGr (n : Nat) (ps : Array (Nat × Value)) : Sem Next := do pure (.value (← Instr.buildSlice 185 n ps))
@[go_sem ↓] theorem exec_buildSlGr (ρ : Operand → Value) (dst : Option Tmp) (n : Nat) (parts : Array (Nat × Operand)) (ty : TypeId) (pos : String) (after : Array Edge) (guard : Option (Nat × Bool)) :
    execOp ρ { dst, op := .buildSlice 185 n parts, type := ty, pos, after, guard } = buildSlGr n (parts.map fun (i, x) => (i, ρ x)) := rfl
theorem fillGr (p : Nat → Nat) (y : Int) (cs : Array Value) (hcs : cs.size = 17) : Instr.fill (fun i => some (i * 17, 17)) cs [(0, .agg (gv p y))] = some (gv p y) := by
  simp only [Instr.fill, Value.cells, gv_size, hcs, splice_eq]
  rw [if_neg (by simp)]
  congr 1
  apply Array.ext_getElem?
  intro i
  rw [foldset, hcs, gv_len, Array.getElem?_toList]
  by_cases c : i < 17
  · rw [if_pos (by omega)]; congr 1
  · rw [if_neg (by omega), Array.getElem?_eq_none (by rw [hcs]; omega), Array.getElem?_eq_none (by rw [gv_size]; omega)]
@[go_sem] theorem run_bslGr (p : Nat → Nat) (y : Int) (w : World) : (buildSlGr 1 #[(0, .agg (gv p y))]).run Try.prog w = .ok (.value (.slice (some ⟨w.heap.size, 0, none⟩) 1 1)) (w.alloc (.cells (gv p y) 184)) := by
  obtain ⟨i0, hi, hz0, hz1, _⟩ := info_parts infoGr
  have hsz : ¬ (1 * i0.size > 2 ^ 24) := by rw [hz1]; decide
  have hnz : ¬ (1 * i0.size = 0) := by rw [hz1]; decide
  have hff : ∀ cs : Array Value, cs.size = 17 → Instr.fill (fun i => some (i * i0.size, i0.size)) cs [(0, .agg (gv p y))] = some (gv p y) := fun cs h => by rw [hz1]; exact fillGr p y cs h
  simp only [buildSlGr, Instr.buildSlice, run_underlying Try.underlying185, sizeOf, typeInfo, hi, zeroValue, hz0, Sem.run_bind, Sem.run_pure, Result.andThen_ok, run_program, hsz, hnz, if_false]
  rw [hff _ (by simp [hz1])]
  rfl
theorem run_appGr {o : Oper} {a : Act} {w0 w : World} {L : List Part} (H : Holds w0 w L) (k : Nat) {v : Value} {l : List ((Nat → Nat) × Nat)} (hk : L[k]? = some (pGr v l))
    (g : Nat) (q : (Nat → Nat) × Nat) (t : TypeId) (hc : w.heap[g]? = some (.cells (gv q.1 q.2) t (0, 0))) (hb : l.length ≤ 1000000) (s x : Operand)
    (ho : o.op = .call { callee := .builtin .append, args := #[s, x], argTypes := #[185, 185] })
    (hs : a.eval s = v) (hx : a.eval x = .slice (some ⟨g, 0, none⟩) 1 1) :
    ∃ v' w', (execOp a.eval o).run Try.prog w = .ok (.value v') w' ∧ Holds w0 w' (L.set k (pGr v' (l ++ [q]))) := by
  obtain ⟨i0, hi, hz0, hz1, hz2⟩ := info_parts infoGr
  obtain ⟨v', w', h1, h2, _⟩ := run_appH (P := Try.prog) (w := w) 185 o.type 184 i0 _ 17 24 Try.underlying185 hi hz0 hz1 hz2 rfl (by decide) v l.length (grB l) H k hk ⟨g, 0, none⟩ 1 1 (gv q.1 q.2).toList
    (by rw [gv_len]) (fun j u hu => by
      have : ((⟨g, 0, none⟩ : Addr).add j) = ⟨g, j, none⟩ := by simp [Addr.add]; exact Eq.symm
      rw [this, cell_of_cells, cellsOf_heap hc]
      simpa using hu) (fun u hu => grB_one (l := [q]) u (by unfold grB; simpa using hu)) (by unfold maxLen; omega) (by omega)
  refine ⟨v', w', exec_append ho hs hx h1, ?_⟩
  unfold pGr at *
  have e : grB (l ++ [q]) = grB l ++ (gv q.1 q.2).toList := by rw [grB_append]; unfold grB; simp
  rw [List.length_append, e]
  exact h2
theorem upon_appGr {o : Oper} {a : Act} {w0 w : World} {L : List Part} (H : Holds w0 w L) (k : Nat) {v : Value} {l : List ((Nat → Nat) × Nat)} (hk : L[k]? = some (pGr v l))
    (g : Nat) (q : (Nat → Nat) × Nat) (t : TypeId) (hc : w.heap[g]? = some (.cells (gv q.1 q.2) t (0, 0))) (hb : l.length ≤ 1000000) {C : World → Prop} {R : Value → World → Prop}
    (h : ∀ v' w', Holds w0 w' (L.set k (pGr v' (l ++ [q]))) → C w' ∧ R v' w') (s x : Operand)
    (ho : o.op = .call { callee := .builtin .append, args := #[s, x], argTypes := #[185, 185] })
    (hs : a.eval s = v) (hx : a.eval x = .slice (some ⟨g, 0, none⟩) 1 1) : Rd.uponE Try.prog C R w ((execOp a.eval o).run Try.prog w) := by
  obtain ⟨v', w', h1, h2⟩ := run_appGr H k hk g q t hc hb s x ho hs hx
  rw [h1]
  exact h v' w' h2
/-- a row's list, appended as a whole (append(waiting, made...)) -/
theorem appGrs {ops : Array Oper} {rest : List Oper} {o : Oper} {a : Act} {Q : Exit → Act → World → Prop} {w0 w : World} {L : List Part} (H : Holds w0 w L) (k : Nat) {v : Value} {l l2 : List ((Nat → Nat) × Nat)} (hk : L[k]? = some (pGr v l))
    (g c : Nat) (hn : ∀ j u, (grB l2)[j]? = some u → w.cell? ⟨g, j, none⟩ = some u) (hb : l.length + l2.length ≤ 1000000)
    (hgd : o.guard = none) (s x : Operand)
    (ho : o.op = .call { callee := .builtin .append, args := #[s, x], argTypes := #[185, 185] })
    (hs : a.eval s = v) (hx : a.eval x = .slice (some ⟨g, 0, none⟩) l2.length c)
    (h : ∀ v' w', Holds w0 w' (L.set k (pGr v' (l ++ l2))) → wpList Try.prog ops Q rest (a.put o.dst v') w') : wpList Try.prog ops Q (o :: rest) a w := by
  obtain ⟨i0, hi, hz0, hz1, hz2⟩ := info_parts infoGr
  refine appH (P := Try.prog) hgd s x 185 ho 184 i0 _ 17 24 Try.underlying185 hi hz0 hz1 hz2 rfl (by decide) v l.length (grB l) hs H k hk ⟨g, 0, none⟩ l2.length c (grB l2) hx
    (grB_length l2) (fun j u hu => ?_) (fun u hu => grB_one u hu) (by unfold maxLen; omega) (by omega) fun v' w' h1 => h v' w' ?_
  · have : ((⟨g, 0, none⟩ : Addr).add j) = ⟨g, j, none⟩ := by simp [Addr.add]; exact Eq.symm
    rw [this]
    exact hn j u hu
  · unfold pGr at *
    rw [List.length_append, grB_append]
    exact h1
end Go.Proofs.Ytfoaejdbgpgnhaa
