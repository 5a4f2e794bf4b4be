/- The walk of the law FnExactPassportOfMove. -/
import Derived.Test.YtpkfjdaedaplfaaFpsS
import Derived.Test.YtpkfjdaedaplfaaZZ
namespace Go.Proofs.Ytpkfjdaedaplfaa
open Go.RowKit

set_option maxRecDepth 100000 in
set_option maxHeartbeats 4000000 in
theorem fnExactPassportOfMove_walk (n0 f0 g0 : Int) (_hn0 : -9223372036854775808 ≤ n0 ∧ n0 ≤ 9223372036854775807) (hf0 : -9223372036854775808 ≤ f0 ∧ f0 ≤ 9223372036854775807) (hg0 : -9223372036854775808 ≤ g0 ∧ g0 ≤ 9223372036854775807) (w : World) :
    Calls Try.prog 14 #[.agg #[.int .i64 n0, .int .i64 f0, .int .i64 g0]] w fun e w' => e = .returned (.bool true) ∧ Below w.heap.size w w' := by
  clear _hn0
  have c1 := fun (wx : World) => passportOfMove_any n0 f0 g0 wx
  have c2 := fun (wx : World) => sPassportOfMove_any n0 f0 g0 wx
  clear hf0 hg0
  obtain ⟨hT, hL⟩ := pmR_size n0 f0 g0
  generalize pmR n0 f0 g0 = L at *
  generalize pmC n0 f0 g0 = c at *
  have hne : (c != c) = false := by simp
  have hnt : (((1 + totZ L : Nat) : Int) != ((1 + totZ L : Nat) : Int)) = false := by simp
  have hneg : decide (((1 + totZ L : Nat) : Int) < 0) = false := decide_eq_false (by omega)
  have C1 := hide c1; clear c1
  have C2 := hide c2; clear c2
  have H0 := (Holds.start w).blk #[.int .i64 n0, .int .i64 f0, .int .i64 g0] 36 w.heap.size rfl
  go_enter Try.func14, Try.ntmps14
  go_wp2_with fail
  refine (toMove_any n0 f0 g0 _).mono ?_
  rintro e w1 ⟨rfl, hb⟩
  have H1 := H0.call hb
  clear hb H0
  go_wp2_with fail
  refine (C2.out _).mono ?_
  rintro e w2 ⟨_, rfl, hb, o9⟩
  obtain ⟨Ap0, cp0, vsp0, rfl, ho⟩ := own2Z_form o9
  have H2 := H1.newZZ hb ho
  clear hb ho o9 H1
  have qD0 := H2.cell 1 rfl (j := 0) (v := .int .i64 n0) rfl
  have qD1 := H2.cell 1 rfl (j := 1) (v := .int .i64 f0) rfl
  have qD2 := H2.cell 1 rfl (j := 2) (v := .int .i64 g0) rfl
  have rD := H2.lt 1 rfl
  go_wp2_with fail
  refine (toMove_any n0 f0 g0 _).mono ?_
  rintro e w3 ⟨rfl, hb⟩
  clear qD0 qD1 qD2 rD
  have H3 := H2.call hb
  clear hb H2
  go_wp2_with fail
  refine (C1.out _).mono ?_
  rintro e w4 ⟨_, rfl, hb, o9⟩
  obtain ⟨Ap1, cp1, vsp1, rfl, ho⟩ := own2Z_form o9
  have H4 := H3.newZZ hb ho
  clear hb ho o9 H3
  go_wp2_with fail
  refine (eqZZ_same L Ap1 Ap0 cp1 cp0 _ _ vsp1 vsp0 (by omega) (by omega) _ (show Own2z 0 _ _ _ L from H4.at 0 rfl) (show Own2z 0 _ _ _ L from H4.at 1 rfl)).mono ?_
  rintro e w5 ⟨rfl, hb⟩
  have H5 := H4.call hb
  clear hb H4
  go_wp2_with fail
  refine (markZZ_any L Ap1 cp1 1 vsp1 (by omega) (by omega) (by omega) _ (show Own2z 0 _ _ _ L from H5.at 0 rfl)).mono ?_
  rintro e w6 ⟨rfl, hg, ho⟩
  have H6 := H5.turnZZ 0 rfl hg ho
  clear hg ho H5
  go_wp2_with fail
  refine (heldZZ_any L Ap1 cp1 1 vsp1 (by omega) (by omega) (by omega) _ (show Own2z 0 _ _ _ (mkZ 1 L) from H6.at 0 rfl)).mono ?_
  rintro e w7 ⟨rfl, hb⟩
  have H7 := H6.call hb
  clear hb H6
  have qD0 := H7.cell 2 rfl (j := 0) (v := .int .i64 n0) rfl
  have qD1 := H7.cell 2 rfl (j := 1) (v := .int .i64 f0) rfl
  have qD2 := H7.cell 2 rfl (j := 2) (v := .int .i64 g0) rfl
  have rD := H7.lt 2 rfl
  go_wp2_with fail
  refine (toMove_any n0 f0 g0 _).mono ?_
  rintro e w8 ⟨rfl, hb⟩
  clear qD0 qD1 qD2 rD
  have H8 := H7.call hb
  clear hb H7
  go_wp2_with fail
  refine (C1.out _).mono ?_
  rintro e w9 ⟨_, rfl, hb, o9⟩
  obtain ⟨Ap2, cp2, vsp2, rfl, ho⟩ := own2Z_form o9
  have H9 := H8.newZZ hb ho
  clear hb ho o9 H8
  go_wp2_with fail
  refine (eqZZ_same L Ap2 Ap0 cp2 cp0 _ _ vsp2 vsp0 (by omega) (by omega) _ (show Own2z 0 _ _ _ L from H9.at 0 rfl) (show Own2z 0 _ _ _ L from H9.at 2 rfl)).mono ?_
  rintro e w10 ⟨rfl, hb⟩
  have H10 := H9.call hb
  clear hb H9
  go_wp2_with fail
  refine (heldZZ_any L Ap1 cp1 1 vsp1 (by omega) (by omega) (by omega) _ (show Own2z 0 _ _ _ (mkZ 1 L) from H10.at 1 rfl)).mono ?_
  rintro e w11 ⟨rfl, hb⟩
  have H11 := H10.call hb
  clear hb H10
  go_wp2
  go_ret
  exact ⟨rfl, H11.low⟩
end Go.Proofs.Ytpkfjdaedaplfaa

