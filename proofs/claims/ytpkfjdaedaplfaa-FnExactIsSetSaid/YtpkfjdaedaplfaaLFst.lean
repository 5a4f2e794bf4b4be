/- The walk of the law FnExactIsSet. -/
import Derived.Test.YtpkfjdaedaplfaaFst
namespace Go.Proofs.Ytpkfjdaedaplfaa
open Go.RowKit

set_option maxHeartbeats 1000000 in
theorem sIsSet_any (l : List (Int × Int)) (v : Value) (w : World) (h : RdF w v l) :
    Calls Try.prog 29 #[v] w fun e w' => e = .returned (.bool (stB l)) ∧ Below w.heap.size w w' := by
  have C := hide (l10Set_any l v w h)
  clear h
  generalize stB l = r at *
  go_enter Try.func29, Try.ntmps29
  go_wp2_with fail
  refine C.out.mono ?_
  rintro e w1 ⟨rfl, hb⟩
  go_wp2_with fail
  go_ret
  exact ⟨rfl, hb⟩

set_option maxRecDepth 100000 in
set_option maxHeartbeats 4000000 in
theorem fnExactIsSet_walk (w : World) (v : Value) (l : List (Int × Int)) (hv : RdF w v l) (_hz : True) :
    Calls Try.prog 8 #[v] w fun e w' => e = .returned (.bool true) ∧ Below w.heap.size w w' := by
  clear _hz
  have c1 := fun (u : Value) (wx : World) (h : RdF wx u l) => isSet_any l u wx h
  have c2 := fun (u : Value) (wx : World) (h : RdF wx u l) => sIsSet_any l u wx h
  generalize stB l = r at *
  have hne : (r != r) = false := by simp
  have C1 := hide c1; clear c1
  have C2 := hide c2; clear c2
  obtain ⟨B, d, rfl, hl0⟩ := hv.form
  have HV := hide hv; clear hv
  have CS := hide fun w => szFractionS_any B l.length d hl0 w
  by_cases hbig : 1048576 < l.length
  · rw [if_pos hbig] at CS
    clear hbig hl0
    go_enter Try.func8, Try.ntmps8
    go_wp2_with fail
    refine (CS.out _).mono ?_
    rintro e w0 ⟨rfl, rfl⟩
    go_wp2_with fail
    go_ret
    exact ⟨rfl, Below.refl _ _⟩
  · rw [if_neg hbig] at CS
    have hl : l.length ≤ 1048576 := by omega
    have hd : decide ((1048576 : Int) - (l.length : Int) < 0) = false := decide_eq_false (by omega)
    clear hbig hl0
    have H0 := Holds.start w
    go_enter Try.func8, Try.ntmps8
    go_wp2_with fail
    refine (CS.out _).mono ?_
    rintro e w0 ⟨rfl, rfl⟩
    clear CS
    go_wp2_with fail
    refine (toFractionS_any l _ _ (HV.out.below H0.low (Nat.le_refl _)) hl).mono ?_
    rintro e w1 ⟨u0, rfl, hb, ho⟩
    have H1 := H0.newF hb ho
    clear hb ho H0
    go_wp2_with fail
    refine (C2.out _ _ (H1.rdF 0 rfl (by omega))).mono ?_
    rintro e w2 ⟨rfl, hb⟩
    have H2 := H1.call hb
    clear hb H1
    go_wp2_with fail
    refine (toFractionS_any l _ _ (HV.out.below H2.low (Nat.le_refl _)) hl).mono ?_
    rintro e w3 ⟨u1, rfl, hb, ho⟩
    have H3 := H2.newF hb ho
    clear hb ho H2
    go_wp2_with fail
    refine (C1.out _ _ (H3.rdF 0 rfl (by omega))).mono ?_
    rintro e w4 ⟨rfl, hb⟩
    have H4 := H3.call hb
    clear hb H3
    go_wp2_with fail
    refine (toFractionS_any l _ _ (HV.out.below H4.low (Nat.le_refl _)) hl).mono ?_
    rintro e w5 ⟨u2, rfl, hb, ho⟩
    have H5 := H4.newF hb ho
    clear hb ho H4
    go_wp2_with fail
    refine (eqFractionS_rd l _ _ _ (H5.rdF 1 rfl (by omega)) (H5.rdF 0 rfl (by omega))).mono ?_
    rintro e w6 ⟨rfl, hb⟩
    have H6 := H5.call hb
    clear hb H5
    go_wp2_with fail
    go_ret
    exact ⟨rfl, H6.low⟩
end Go.Proofs.Ytpkfjdaedaplfaa