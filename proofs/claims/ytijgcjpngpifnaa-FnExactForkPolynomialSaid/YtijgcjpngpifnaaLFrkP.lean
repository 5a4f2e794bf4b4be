/- The walk of FnExactForkPolynomial. -/
import Derived.Test.YtijgcjpngpifnaaMkZ
import Derived.Test.YtijgcjpngpifnaaFrk6
namespace Go.Proofs.Ytijgcjpngpifnaa
open Go.RowKit

set_option maxRecDepth 100000 in
set_option maxHeartbeats 2000000 in
theorem fnExactForkPolynomial_walk (x0 : Int) (hx0 : -9223372036854775808 ≤ x0 ∧ x0 ≤ 9223372036854775807) (x1 : Int) (hx1 : -9223372036854775808 ≤ x1 ∧ x1 ≤ 9223372036854775807) (w : World) :
    Calls Try.prog 11 #[.int .i64 x0, .int .i64 x1] w fun e w' => e = .returned (.bool true) ∧ Below w.heap.size w w' := by
  have c1 := fun (wx : World) => forkPolynomial_any  x0 x1 hx0 hx1 wx 
  have c2 := fun (wx : World) => sForkPolynomial_any  x0 x1 hx0 hx1 wx 
  clear hx0 hx1
  have hL := frkR_bd x0 x1
  generalize frkR x0 x1 = L at *
  generalize frkC x0 x1 = c at *
  have hne : (c != c) = false := by simp
  have hnt : (((1 + L.length : Nat) : Int) != ((1 + L.length : Nat) : Int)) = false := by simp
  have hneg : decide (((1 + L.length : Nat) : Int) < 0) = false := decide_eq_false (by omega)
  have C1 := hide c1; clear c1
  have C2 := hide c2; clear c2
  have H0 := Holds.start w
  go_enter Try.func11, Try.ntmps11
  go_wp2_with fail
  refine (C2.out _).mono ?_
  rintro e w1 ⟨_, rfl, hb, ho⟩
  obtain ⟨Ap0, cp0, rfl⟩ := own_slice ho
  have H1 := H0.newRow hb ho
  clear hb ho H0
  go_wp2_with fail
  refine (C1.out _).mono ?_
  rintro e w2 ⟨_, rfl, hb, ho⟩
  obtain ⟨Ap1, cp1, rfl⟩ := own_slice ho
  have H2 := H1.newRow hb ho
  clear hb ho H1
  go_wp2_with fail
  refine (eqInt64S_same L Ap1 Ap0 cp1 cp0 _ _ (by omega) _ (H2.own1 0 rfl) (H2.own1 1 rfl)).mono ?_
  rintro e w3 ⟨rfl, hb⟩
  have H3 := H2.call hb
  clear hb H2
  go_wp2_with fail
  refine (markInt64S_any L Ap1 cp1 _ 1 (by omega) (by omega) _ (H3.own1 0 rfl)).mono ?_
  rintro e w4 ⟨rfl, hg, ho⟩
  have H4 := H3.grow 0 rfl (pRow (.slice Ap1 L.length cp1) 2 1 L.length (nums (marks 1 L.length))) (row_low (Own1.as ho) (Nat.zero_le _)) hg (fun _ hg => hg) (fun _ hg => .inl hg)
  clear hg ho H3
  go_wp2_with fail
  refine (heldInt64S_any L.length Ap1 cp1 w.heap.size 1 (by omega) (by omega) _ (Own1.of (H4.row 0 rfl))).mono ?_
  rintro e w5 ⟨rfl, hb⟩
  have H5 := H4.call hb
  clear hb H4
  go_wp2_with fail
  refine (C1.out _).mono ?_
  rintro e w6 ⟨_, rfl, hb, ho⟩
  obtain ⟨Ap2, cp2, rfl⟩ := own_slice ho
  have H6 := H5.newRow hb ho
  clear hb ho H5
  go_wp2_with fail
  refine (eqInt64S_same L Ap2 Ap0 cp2 cp0 _ _ (by omega) _ (H6.own1 0 rfl) (H6.own1 2 rfl)).mono ?_
  rintro e w7 ⟨rfl, hb⟩
  have H7 := H6.call hb
  clear hb H6
  go_wp2_with fail
  refine (heldInt64S_any L.length Ap1 cp1 w.heap.size 1 (by omega) (by omega) _ (Own1.of (H7.row 1 rfl))).mono ?_
  rintro e w8 ⟨rfl, hb⟩
  have H8 := H7.call hb
  clear hb H7
  go_wp2
  go_ret
  exact ⟨rfl, H8.low⟩

end Go.Proofs.Ytijgcjpngpifnaa
