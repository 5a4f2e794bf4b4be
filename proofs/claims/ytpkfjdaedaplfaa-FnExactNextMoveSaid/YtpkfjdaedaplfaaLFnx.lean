/- The walk of the law FnExactNextMove. -/
import Derived.Test.YtpkfjdaedaplfaaFnxS
namespace Go.Proofs.Ytpkfjdaedaplfaa
open Go.RowKit


set_option maxRecDepth 100000 in
set_option maxHeartbeats 4000000 in
theorem fnExactNextMove_walk (w : World) (v : Value) (l : List (Int × Int)) (hv : RdF w v l) (_hz : True) :
    Calls Try.prog 10 #[v] w fun e w' => e = .returned (.bool true) ∧ Below w.heap.size w w' := by
  clear _hz
  have c1 := fun (u : Value) (wx : World) (h : RdF wx u l) => nextMove_any l u wx h
  have c2 := fun (u : Value) (wx : World) (h : RdF wx u l) => sNextMove_any l u wx h
  generalize nxK l = x at *
  generalize nxX l = y at *
  generalize nxY l = z at *
  generalize nxC l = q at *
  have hne2 : (q != q) = false := by simp
  have C1 := hide c1; clear c1
  have C2 := hide c2; clear c2
  obtain ⟨B, d, rfl, hl0⟩ := hv.form
  have HV := hide hv; clear hv
  have CS := hide fun w => szFractionS_any B l.length d hl0 w
  by_cases hbig : 1048576 < l.length
  · rw [if_pos hbig] at CS
    clear hbig hl0
    go_enter Try.func10, Try.ntmps10
    go_wp2_with fail
    refine (CS.out _).mono ?_
    rintro e w0 ⟨rfl, rfl⟩
    go_wp2_with fail
    go_ret
    exact ⟨rfl, Below.refl _ _⟩
  · rw [if_neg hbig] at CS
    have hl : l.length ≤ 1048576 := by omega
    have hd : decide ((1048576 : Int) - (l.length : Int) < 0) = false := decide_eq_false (by omega)
    clear hbig hl0
    have H0 := Holds.start w
    go_enter Try.func10, Try.ntmps10
    go_wp2_with fail
    refine (CS.out _).mono ?_
    rintro e w0 ⟨rfl, rfl⟩
    clear CS
    go_wp2_with fail
    refine (toFractionS_any l _ _ (HV.out.below H0.low (Nat.le_refl _)) hl).mono ?_
    rintro e w1 ⟨u0, rfl, hb, ho⟩
    have H1 := H0.newF hb ho
    clear hb ho H0
    go_wp2_with fail
    refine (C2.out _ _ (H1.rdF 0 rfl (by omega))).mono ?_
    rintro e w2 ⟨rfl, hb⟩
    have H2 := H1.call hb
    clear hb H1
    have HA := H2.blk #[.int .i64 x, .int .i64 y, .int .i64 z] 38 w2.heap.size rfl
    clear H2
    obtain ⟨X, hX⟩ : ∃ X, X = w2.heap.size := ⟨_, rfl⟩
    rw [← hX] at HA
    go_wp2_with fail
    refine (toFractionS_any l _ _ (HV.out.below HA.low (Nat.le_refl _)) hl).mono ?_
    rintro e w3 ⟨u1, rfl, hb, ho⟩
    have H3 := HA.newF hb ho
    clear hb ho HA
    have hX1 := hX
    go_wp2_with fail
    refine (C1.out _ _ (H3.rdF 0 rfl (by omega))).mono ?_
    rintro e w4 ⟨rfl, hb⟩
    have H4 := H3.call hb
    clear hb H3
    have c0 := H4.cell 1 rfl (j := 0) (v := .int .i64 x) rfl
    have c1 := H4.cell 1 rfl (j := 1) (v := .int .i64 y) rfl
    have c2 := H4.cell 1 rfl (j := 2) (v := .int .i64 z) rfl
    have lX := H4.lt 1 rfl
    rw [hX] at c0 c1 c2 lX
    have HB := H4.blk #[.int .i64 x, .int .i64 y, .int .i64 z] 38 w4.heap.size rfl
    clear H4
    go_wp2_with fail
    refine (eqMove_same x y z _).mono ?_
    rintro e w5 ⟨rfl, hb⟩
    have H5 := HB.call hb
    clear hb HB lX c0 c1 c2
    go_wp2_with fail
    refine (toFractionS_any l _ _ (HV.out.below H5.low (Nat.le_refl _)) hl).mono ?_
    rintro e w6 ⟨u2, rfl, hb, ho⟩
    have H6 := H5.newF hb ho
    clear hb ho H5
    go_wp2_with fail
    refine (eqFractionS_rd l _ _ _ (H6.rdF 2 rfl (by omega)) (H6.rdF 0 rfl (by omega))).mono ?_
    rintro e w7 ⟨rfl, hb⟩
    have H7 := H6.call hb
    clear hb H6
    go_wp2_with fail
    go_ret
    exact ⟨rfl, H7.low⟩
end Go.Proofs.Ytpkfjdaedaplfaa