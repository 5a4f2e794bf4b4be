/- The walk of the law FnExactDegreeOfMoves. -/
import Derived.Test.YtpkfjdaedaplfaaFdm
namespace Go.Proofs.Ytpkfjdaedaplfaa
open Go.RowKit


set_option maxRecDepth 100000 in
set_option maxHeartbeats 4000000 in
theorem fnExactDegreeOfMoves_walk (w : World) (v : Value) (l : List (Int × Int × Int)) (hv : RdM w v l) (_hz : True) :
    Calls Try.prog 12 #[v] w fun e w' => e = .returned (.bool true) ∧ Below w.heap.size w w' := by
  clear _hz
  have c1 := fun (u : Value) (wx : World) (h : RdM wx u l) => degreeOfMoves_any l u wx h
  have c2 := fun (u : Value) (wx : World) (h : RdM wx u l) => sDegreeOfMoves_any l u wx h
  generalize dmR l = r at *
  generalize dmC l = q at *
  have hne : (r != r) = false := by simp
  have hne2 : (q != q) = false := by simp
  have C1 := hide c1; clear c1
  have C2 := hide c2; clear c2
  obtain ⟨B, d, rfl, hl0⟩ := hv.form
  have HV := hide hv; clear hv
  have CS := hide fun w => szMoveS_any B l.length d hl0 w
  by_cases hbig : 1048576 < l.length
  · rw [if_pos hbig] at CS
    clear hbig hl0
    go_enter Try.func12, Try.ntmps12
    go_wp2_with fail
    refine (CS.out _).mono ?_
    rintro e w0 ⟨rfl, rfl⟩
    go_wp2_with fail
    go_ret
    exact ⟨rfl, Below.refl _ _⟩
  · rw [if_neg hbig] at CS
    have hl : l.length ≤ 1048576 := by omega
    have hd : decide ((1048576 : Int) - (l.length : Int) < 0) = false := decide_eq_false (by omega)
    clear hbig hl0
    have H0 := Holds.start w
    go_enter Try.func12, Try.ntmps12
    go_wp2_with fail
    refine (CS.out _).mono ?_
    rintro e w0 ⟨rfl, rfl⟩
    clear CS
    go_wp2_with fail
    refine (toMoveS_any l _ _ (HV.out.below H0.low (Nat.le_refl _)) hl).mono ?_
    rintro e w1 ⟨u0, rfl, hb, ho⟩
    have H1 := H0.newM hb ho
    clear hb ho H0
    go_wp2_with fail
    refine (C2.out _ _ (H1.rdM 0 rfl (by omega))).mono ?_
    rintro e w2 ⟨rfl, hb⟩
    have H2 := H1.call hb
    clear hb H1
    go_wp2_with fail
    refine (toMoveS_any l _ _ (HV.out.below H2.low (Nat.le_refl _)) hl).mono ?_
    rintro e w3 ⟨u1, rfl, hb, ho⟩
    have H3 := H2.newM hb ho
    clear hb ho H2
    go_wp2_with fail
    refine (C1.out _ _ (H3.rdM 0 rfl (by omega))).mono ?_
    rintro e w4 ⟨rfl, hb⟩
    have H4 := H3.call hb
    clear hb H3
    go_wp2_with fail
    refine (toMoveS_any l _ _ (HV.out.below H4.low (Nat.le_refl _)) hl).mono ?_
    rintro e w5 ⟨u2, rfl, hb, ho⟩
    have H5 := H4.newM hb ho
    clear hb ho H4
    go_wp2_with fail
    refine (eqMoveS_rd l _ _ _ (H5.rdM 1 rfl (by omega)) (H5.rdM 0 rfl (by omega))).mono ?_
    rintro e w6 ⟨rfl, hb⟩
    have H6 := H5.call hb
    clear hb H5
    go_wp2_with fail
    go_ret
    exact ⟨rfl, H6.low⟩
end Go.Proofs.Ytpkfjdaedaplfaa