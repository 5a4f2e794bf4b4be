/- The walk of FnExactValueOf. -/
import Derived.Test.YtijgcjpngpifnaaMkZ
import Derived.Test.YtijgcjpngpifnaaVal7
namespace Go.Proofs.Ytijgcjpngpifnaa
open Go.RowKit

set_option maxRecDepth 100000 in
set_option maxHeartbeats 2000000 in
theorem fnExactValueOf_walk (w : World) (v0 : Value) (l0 : List Int) (hv0 : RdZ w v0 l0) (_hz0 : fits64 l0) (x0 : Int) (hx0 : -9223372036854775808 ≤ x0 ∧ x0 ≤ 9223372036854775807) :
    Calls Try.prog 4 #[v0, .int .i64 x0] w fun e w' => e = .returned (.bool true) ∧ Below w.heap.size w w' := by
  clear _hz0
  have c1 := fun (u0 : Value) (wx : World) (h0 : RdZ wx u0 l0) => valueOf_any u0 l0 x0 hx0 wx h0
  have c2 := fun (u0 : Value) (wx : World) (h0 : RdZ wx u0 l0) => sValueOf_any u0 l0 x0 hx0 wx h0
  clear hx0
  obtain ⟨a0, c0, hR⟩ := valR_eq l0 x0
  rw [hR] at c1 c2
  have hne : (a0 != a0) = false := by simp
  have hne2 : (c0 != c0) = false := by simp
  clear hR
  have C1 := hide c1; clear c1
  have C2 := hide c2; clear c2
  obtain ⟨B0, d0, rfl, _⟩ := hv0.form
  have HV0 := hide hv0; clear hv0
  by_cases hbig0 : (1048576 : Int) < l0.length
  · have hd0 := decide_eq_true hbig0
    clear hbig0
    go_enter Try.func4, Try.ntmps4
    go_wp2
    go_ret
    exact ⟨rfl, Below.refl _ _⟩
  · have hd0 := decide_eq_false hbig0
    have hl0 : l0.length ≤ 1048576 := by omega
    clear hbig0
    have H0 := Holds.start w
    go_enter Try.func4, Try.ntmps4
    go_wp2_with fail
    refine (toInt64S_any l0 _ _ (HV0.out.below H0.low (Nat.le_refl _)) hl0).mono ?_
    rintro e w1 ⟨_, rfl, hb, ho⟩
    obtain ⟨At0, ct0, rfl⟩ := own_slice ho
    have H1 := H0.newRow hb ho
    clear hb ho H0
    go_wp2_with fail
    refine (C2.out _ _ (OwnZ.rd (show OwnZ w.heap.size _ _ l0 from H1.row 0 rfl) (by omega))).mono ?_
    rintro e w2 ⟨rfl, hb⟩
    have H2 := H1.call hb
    clear hb H1
    have H3 := H2.sub (.cons _ (.refl _))
    clear H2
    go_wp2_with fail
    refine (toInt64S_any l0 _ _ (HV0.out.below H3.low (Nat.le_refl _)) hl0).mono ?_
    rintro e w4 ⟨_, rfl, hb, ho⟩
    obtain ⟨Ay0, cy0, rfl⟩ := own_slice ho
    have H4 := H3.newRow hb ho
    clear hb ho H3
    go_wp2_with fail
    refine (C1.out _ _ (OwnZ.rd (show OwnZ w.heap.size _ _ l0 from H4.row 0 rfl) (by omega))).mono ?_
    rintro e w5 ⟨rfl, hb⟩
    have H5 := H4.call hb
    clear hb H4
    go_wp2_with fail
    refine (toInt64S_any l0 _ _ (HV0.out.below H5.low (Nat.le_refl _)) hl0).mono ?_
    rintro e w6 ⟨_, rfl, hb, ho⟩
    obtain ⟨Az0, cz0, rfl⟩ := own_slice ho
    have H6 := H5.newRow hb ho
    clear hb ho H5
    go_wp2_with fail
    refine (eqInt64S_rd l0 _ _ _ (OwnZ.rd (show OwnZ w.heap.size _ _ l0 from H6.row 1 rfl) (by omega)) (OwnZ.rd (show OwnZ w.heap.size _ _ l0 from H6.row 0 rfl) (by omega))).mono ?_
    rintro e w7 ⟨rfl, hb⟩
    have H7 := H6.call hb
    clear hb H6
    have H8 := H7.sub (.cons _ (.cons_cons _ (.refl _)))
    clear H7
    go_wp2
    go_ret
    exact ⟨rfl, H8.low⟩

end Go.Proofs.Ytijgcjpngpifnaa
