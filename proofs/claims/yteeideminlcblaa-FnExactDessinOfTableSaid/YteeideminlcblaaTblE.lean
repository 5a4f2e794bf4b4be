/- DessinOfTable of the model -/
import Derived.Test.YteeideminlcblaaTblC
namespace Go.Proofs.Yteeideminlcblaa
open Go.RowKit

set_option maxRecDepth 100000 in
set_option maxHeartbeats 2000000 in
theorem sDessinOfTable_any (v : Value) (T : List (List Int)) (w : World) (hv : RdZ2 w v T) :
    Calls Try.prog 20 #[v] w fun e w' => e = .returned (tdR T) ∧ Below w.heap.size w w' := by
  have HV := hide hv
  obtain ⟨A, c, rfl, hlen⟩ := hv.form
  clear hv
  have HH0 := (Holds.start w).blk (dv 0 (fun _ => 0) (fun _ => 0)) 36 w.heap.size rfl
  have C1 := hide (l08Table_any T (.slice A T.length c) (w.alloc (.cells (dv 0 (fun _ => 0) (fun _ => 0)) 36)) (HV.out.below HH0.low (Nat.le_refl _)))
  rcases h1 : tabB T with _ | _
  · rw [h1] at C1
    have hr : tdR T = .tuple #[.agg (dv 0 (fun _ => 0) (fun _ => 0)), .int .i64 1] := by unfold tdR; rw [if_neg (by simp [h1])]
    rw [hr]
    clear h1 hr
    go_enter Try.func20, Try.ntmps20
    go_wp2_with fail
    rw [← dv_zero]
    refine C1.out.mono ?_
    rintro e w1 ⟨rfl, hb⟩
    have HH1 := HH0.call hb
    have rr1 := HH1.rowOk (n := 33) 0 rfl (dv_size _ _ _)
    clear hb
    have HH2 := HH1.setRow 0 rfl (dv 0 (fun _ => 0) (fun _ => 0))
    go_wp2
    exact res_agg2 (p := 2) (t := 3) (g := w.heap.size) (v := .int .i64 1) aggD (dv_size _ _ _) rfl rfl rfl rfl (HH2.at 0 rfl) ⟨rfl, HH2.low⟩
  rw [h1] at C1
  have hT := tabB_true h1
  by_cases hbig : 16 < T.length
  · have hr : tdR T = .tuple #[.agg (dv 0 (fun _ => 0) (fun _ => 0)), .int .i64 3] := by unfold tdR; rw [if_pos h1, if_pos hbig]
    rw [hr]
    have hdec : decide ((16 : Int) < (T.length : Int)) = true := decide_eq_true (by omega)
    clear h1 hr hT hbig
    go_enter Try.func20, Try.ntmps20
    go_wp2_with fail
    rw [← dv_zero]
    refine C1.out.mono ?_
    rintro e w1 ⟨rfl, hb⟩
    have HH1 := HH0.call hb
    have rr1 := HH1.rowOk (n := 33) 0 rfl (dv_size _ _ _)
    clear hb
    have HH2 := HH1.setRow 0 rfl (dv 0 (fun _ => 0) (fun _ => 0))
    go_wp2
    exact res_agg2 (p := 2) (t := 3) (g := w.heap.size) (v := .int .i64 3) aggD (dv_size _ _ _) rfl rfl rfl rfl (HH2.at 0 rfl) ⟨rfl, HH2.low⟩
  have hr : tdR T = .tuple #[.agg (dv (T.length : Int) (uptF (tF T 0) T.length) (uptF (tF T 1) T.length)), .int .i64 0] := by unfold tdR; rw [if_pos h1, if_neg hbig]
  rw [hr]
  have hdec : decide ((16 : Int) < (T.length : Int)) = false := decide_eq_false (by omega)
  obtain ⟨a, c2, e2⟩ := hT.cells HV.out
  injection e2 with e2 e3 e4
  clear e3 e4
  subst e2
  have ROW := hide (hT.rows HV.out)
  have ATK := hide (fun (X j : Nat) (hX : X < T.length) (hj : j < 2) => (hT.at hX hj).2.2)
  have h16 : T.length ≤ 16 := by omega
  clear h1 hr hT hbig
  go_enter Try.func20, Try.ntmps20
  go_wp2_with fail
  rw [← dv_zero]
  refine C1.out.mono ?_
  rintro e w1 ⟨rfl, hb⟩
  have HH1 := HH0.call hb
  have rr1 := HH1.rowOk (n := 33) 0 rfl (dv_size _ _ _)
  clear hb
  have HH2 : Holds w (w1.alloc (.cells (dv (T.length : Int) (uptF (tF T 0) 0) (uptF (tF T 1) 0)) 36)) _ := HH1.blk _ _ w1.heap.size rfl
  rw [uptF_zero, uptF_zero] at HH2
  obtain ⟨N, hN⟩ : ∃ N, N = T.length := ⟨_, rfl⟩
  go_wp2
  generalize hG1 : w1.heap.size = G1 at *
  have HG1 := hide hG1; clear hG1
  go_loopw [5] (fun x wr => ∃ k : Nat, k ≤ T.length ∧ x = .int .i64 k ∧ Holds w wr [pBlk G1 (dv (T.length : Int) (uptF (tF T 0) k) (uptF (tF T 1) k)) 36, pBlk w.heap.size (dv 0 (fun _ => 0) (fun _ => 0)) 36]) (fun x _ => T.length - (intOf x).toNat)
  case atStart => exact ⟨0, by omega, rfl, by rw [uptF_zero, uptF_zero]; exact HH2⟩
  case round =>
    clear HH2 HH1 rr1
    obtain ⟨k, hk, rfl, hH⟩ := hrel
    by_cases hlt : k < T.length
    · have hlti : (k : Int) < (T.length : Int) := by omega
      have hk16 : k < 16 := by omega
      have hki : (k : Int) < 16 := by omega
      obtain ⟨A', c', hrw⟩ := ROW.out k hlt
      have l0 := ATK.out k 0 hlt (by omega)
      have l1 := ATK.out k 1 hlt (by omega)
      have s1 := uptF_succ (tF T 0) k
      have s2 := uptF_succ (tF T 1) k
      have S1 := hide s1; clear s1
      have S2 := hide s2; clear s2
      have q1 := (hrw wr hH.low).1
      have hr2 : ∀ wx, Below w.heap.size w wx → wx.cell? A' = some (.int .i64 (tF T 0 k : Nat)) ∧ wx.cell? { block := A'.block, off := A'.off + 1 } = some (.int .i64 (tF T 1 k : Nat)) ∧ wx.cell? (a.add k) = some (.slice (some A') 2 c') := by
        intro wx hb
        obtain ⟨x1, x2⟩ := hrw wx hb
        have y0 := x2 0 (by omega)
        have y1 := x2 1 (by omega)
        rw [show A'.add 0 = A' by simp [Addr.add]] at y0
        rw [show A'.add 1 = { block := A'.block, off := A'.off + 1 } by simp [Addr.add]] at y1
        exact ⟨y0, y1, x1⟩
      have HR := hide hr2; clear hr2
      clear hrw
      have c0 : IntKind.u8.wrap ((tF T 0 k : Nat) : Int) = ((tF T 0 k : Nat) : Int) := wr8k (by omega) (by omega)
      have c1 : IntKind.u8.wrap ((tF T 1 k : Nat) : Int) = ((tF T 1 k : Nat) : Int) := wr8k (by omega) (by omega)
      have b0 : (tF T 0 k : Nat) < 16 := by omega
      have b1 : (tF T 1 k : Nat) < 16 := by omega
      have hme : T.length - (k + 1) < T.length - k := by omega
      generalize tF T 0 k = px at *
      generalize tF T 1 k = rx at *
      generalize uptF (tF T 0) k = f at *
      generalize uptF (tF T 1) k = g at *
      obtain ⟨q2, q3, q4⟩ := HR.out wr hH.low
      have y1 := hH.cell 0 rfl (dv_b (T.length : Int) f g hk16)
      have y2 := hH.cell 0 rfl (dv_w (T.length : Int) f g hk16)
      have z1 := hH.frozen 0 rfl (1 + k)
      have z2 := hH.frozen 0 rfl (17 + k)
      have ha := rd2_lt HV.out (show k < T.length from hlt)
      have hA' := block_of_cell q2
      have hs := (hH.set 0 rfl (1 + k) (.int .u8 (px : Nat)))
      simp only [List.set_cons_zero] at hs
      rw [dv_setb _ _ _ _ hk16] at hs
      obtain ⟨q5, q6, q7⟩ := HR.out _ hs.low
      have y3 := hs.cell 0 rfl (dv_w (T.length : Int) (fset f k px) g hk16)
      have z3 := hs.frozen 0 rfl (17 + k)
      have hs2 := (hs.set 0 rfl (17 + k) (.int .u8 (rx : Nat)))
      simp only [List.set_cons_zero] at hs2
      rw [dv_setw _ _ _ _ hk16, S1.out, S2.out] at hs2
      have HZ := hide hs2; clear hs2 hs y2 z2 ha hA'
      go_wp2
      go_roundw
      case rel => exact ⟨k + 1, hlt, by go_num, HZ.out⟩
      case measure => simp [intOf]; first | exact hme | omega
    · obtain rfl : k = T.length := by omega
      have rr := hH.rowOk (n := 33) 1 rfl (dv_size _ _ _)
      have cd := hH.cells 0 rfl
      have HH3 := hH.setRow 1 rfl (dv (T.length : Int) (uptF (tF T 0) T.length) (uptF (tF T 1) T.length))
      clear hlt
      go_wp2
      exact res_agg2 (p := 2) (t := 3) (g := w.heap.size) (v := .int .i64 0) aggD (dv_size _ _ _) rfl rfl rfl rfl (HH3.at 1 rfl) ⟨rfl, HH3.low⟩
end Go.Proofs.Yteeideminlcblaa
