/- The walk of FnExactComposePolynomials. -/
import Derived.Test.YtijgcjpngpifnaaMkZ
import Derived.Test.YtijgcjpngpifnaaCmp7
namespace Go.Proofs.Ytijgcjpngpifnaa
open Go.RowKit

set_option maxRecDepth 100000 in
set_option maxHeartbeats 2000000 in
theorem fnExactComposePolynomials_walk (w : World) (v0 : Value) (l0 : List Int) (hv0 : RdZ w v0 l0) (_hz0 : fits64 l0) (v1 : Value) (l1 : List Int) (hv1 : RdZ w v1 l1) (_hz1 : fits64 l1) :
    Calls Try.prog 7 #[v0, v1] w fun e w' => e = .returned (.bool true) ∧ Below w.heap.size w w' := by
  clear _hz0 _hz1
  have c1 := fun (u0 : Value) (u1 : Value) (wx : World) (h0 : RdZ wx u0 l0) (h1 : RdZ wx u1 l1) => composePolynomials_any u0 u1 l0 l1  wx h0 h1
  have c2 := fun (u0 : Value) (u1 : Value) (wx : World) (h0 : RdZ wx u0 l0) (h1 : RdZ wx u1 l1) => sComposePolynomials_any u0 u1 l0 l1  wx h0 h1
  have hL := cmpR2_bd l0 l1
  generalize cmpR2 l0 l1 = L at *
  generalize cmpC2 l0 l1 = c at *
  have hne : (c != c) = false := by simp
  have hnt : (((1 + L.length : Nat) : Int) != ((1 + L.length : Nat) : Int)) = false := by simp
  have hneg : decide (((1 + L.length : Nat) : Int) < 0) = false := decide_eq_false (by omega)
  have C1 := hide c1; clear c1
  have C2 := hide c2; clear c2
  obtain ⟨B0, d0, rfl, _⟩ := hv0.form
  have HV0 := hide hv0; clear hv0
  obtain ⟨B1, d1, rfl, _⟩ := hv1.form
  have HV1 := hide hv1; clear hv1
  by_cases hbig0 : (1048576 : Int) < l0.length
  · have hd0 := decide_eq_true hbig0
    clear hbig0
    go_enter Try.func7, Try.ntmps7
    go_wp2
    go_ret
    exact ⟨rfl, Below.refl _ _⟩
  · have hd0 := decide_eq_false hbig0
    have hl0 : l0.length ≤ 1048576 := by omega
    clear hbig0
    by_cases hbig1 : (1048576 : Int) < l1.length
    · have hd1 := decide_eq_true hbig1
      clear hbig1
      go_enter Try.func7, Try.ntmps7
      go_wp2
      go_ret
      exact ⟨rfl, Below.refl _ _⟩
    · have hd1 := decide_eq_false hbig1
      have hl1 : l1.length ≤ 1048576 := by omega
      clear hbig1
      have H0 := Holds.start w
      go_enter Try.func7, Try.ntmps7
      go_wp2_with fail
      refine (toInt64S_any l0 _ _ (HV0.out.below H0.low (Nat.le_refl _)) hl0).mono ?_
      rintro e w1 ⟨_, rfl, hb, ho⟩
      obtain ⟨At0, ct0, rfl⟩ := own_slice ho
      have H1 := H0.newRow hb ho
      clear hb ho H0
      go_wp2_with fail
      refine (toInt64S_any l1 _ _ (HV1.out.below H1.low (Nat.le_refl _)) hl1).mono ?_
      rintro e w2 ⟨_, rfl, hb, ho⟩
      obtain ⟨At1, ct1, rfl⟩ := own_slice ho
      have H2 := H1.newRow hb ho
      clear hb ho H1
      go_wp2_with fail
      refine (C2.out _ _ _ (OwnZ.rd (show OwnZ w.heap.size _ _ l0 from H2.row 1 rfl) (by omega)) (OwnZ.rd (show OwnZ w.heap.size _ _ l1 from H2.row 0 rfl) (by omega))).mono ?_
      rintro e w3 ⟨_, rfl, hb, ho⟩
      obtain ⟨Ap0, cp0, rfl⟩ := own_slice ho
      have H3 := H2.newRow hb ho
      clear hb ho H2
      have H4 := H3.sub (.cons_cons _ (.cons _ (.cons _ (.refl _))))
      clear H3
      go_wp2_with fail
      refine (toInt64S_any l0 _ _ (HV0.out.below H4.low (Nat.le_refl _)) hl0).mono ?_
      rintro e w5 ⟨_, rfl, hb, ho⟩
      obtain ⟨Ay0, cy0, rfl⟩ := own_slice ho
      have H5 := H4.newRow hb ho
      clear hb ho H4
      go_wp2_with fail
      refine (toInt64S_any l1 _ _ (HV1.out.below H5.low (Nat.le_refl _)) hl1).mono ?_
      rintro e w6 ⟨_, rfl, hb, ho⟩
      obtain ⟨Ay1, cy1, rfl⟩ := own_slice ho
      have H6 := H5.newRow hb ho
      clear hb ho H5
      go_wp2_with fail
      refine (C1.out _ _ _ (OwnZ.rd (show OwnZ w.heap.size _ _ l0 from H6.row 1 rfl) (by omega)) (OwnZ.rd (show OwnZ w.heap.size _ _ l1 from H6.row 0 rfl) (by omega))).mono ?_
      rintro e w7 ⟨_, rfl, hb, ho⟩
      obtain ⟨Ap1, cp1, rfl⟩ := own_slice ho
      have H7 := H6.newRow hb ho
      clear hb ho H6
      go_wp2_with fail
      refine (eqInt64S_same L Ap1 Ap0 cp1 cp0 _ _ (by omega) _ (H7.own1 0 rfl) (H7.own1 3 rfl)).mono ?_
      rintro e w8 ⟨rfl, hb⟩
      have H8 := H7.call hb
      clear hb H7
      go_wp2_with fail
      refine (toInt64S_any l0 _ _ (HV0.out.below H8.low (Nat.le_refl _)) hl0).mono ?_
      rintro e w9 ⟨_, rfl, hb, ho⟩
      obtain ⟨Az0, cz0, rfl⟩ := own_slice ho
      have H9 := H8.newRow hb ho
      clear hb ho H8
      go_wp2_with fail
      refine (eqInt64S_rd l0 _ _ _ (OwnZ.rd (show OwnZ w.heap.size _ _ l0 from H9.row 3 rfl) (by omega)) (OwnZ.rd (show OwnZ w.heap.size _ _ l0 from H9.row 0 rfl) (by omega))).mono ?_
      rintro e w10 ⟨rfl, hb⟩
      have H10 := H9.call hb
      clear hb H9
      have H11 := H10.sub (.cons _ (.cons_cons _ (.cons_cons _ (.cons_cons _ (.cons_cons _ (.refl _))))))
      clear H10
      go_wp2_with fail
      refine (toInt64S_any l1 _ _ (HV1.out.below H11.low (Nat.le_refl _)) hl1).mono ?_
      rintro e w12 ⟨_, rfl, hb, ho⟩
      obtain ⟨Az1, cz1, rfl⟩ := own_slice ho
      have H12 := H11.newRow hb ho
      clear hb ho H11
      go_wp2_with fail
      refine (eqInt64S_rd l1 _ _ _ (OwnZ.rd (show OwnZ w.heap.size _ _ l1 from H12.row 2 rfl) (by omega)) (OwnZ.rd (show OwnZ w.heap.size _ _ l1 from H12.row 0 rfl) (by omega))).mono ?_
      rintro e w13 ⟨rfl, hb⟩
      have H13 := H12.call hb
      clear hb H12
      have H14 := H13.sub (.cons _ (.cons_cons _ (.cons_cons _ (.cons_cons _ (.cons_cons _ (.refl _))))))
      clear H13
      go_wp2_with fail
      refine (markZ_any l0 Ay0 cy0 _ (1) (by omega) (by omega) _ (show OwnZ w.heap.size _ _ l0 from H14.row 2 rfl)).mono ?_
      rintro e w15 ⟨rfl, hg, ho⟩
      have H15 := H14.grow 2 rfl (pRow (.slice Ay0 l0.length cy0) 2 1 l0.length (nums (marks (1) l0.length))) (row_low ho (Nat.zero_le _)) hg (fun _ hg => hg) (fun _ hg => .inl hg)
      clear hg ho H14
      have H16 := H15.sub (.cons_cons _ (.cons_cons _ (.cons _ (.cons_cons _ (.refl _)))))
      clear H15
      go_wp2_with fail
      refine (markZ_any l1 Ay1 cy1 _ (1 + l0.length) (by omega) (by omega) _ (show OwnZ w.heap.size _ _ l1 from H16.row 1 rfl)).mono ?_
      rintro e w17 ⟨rfl, hg, ho⟩
      have H17 := H16.grow 1 rfl (pRow (.slice Ay1 l1.length cy1) 2 1 l1.length (nums (marks (1 + l0.length) l1.length))) (row_low ho (Nat.zero_le _)) hg (fun _ hg => hg) (fun _ hg => .inl hg)
      clear hg ho H16
      have H18 := H17.sub (.cons_cons _ (.cons _ (.cons_cons _ (.refl _))))
      clear H17
      have hnk : decide (((1 + l0.length + l1.length : Nat) : Int) < 0) = false := decide_eq_false (by omega)
      go_wp2_with fail
      refine (eqInt64S_same L Ap1 Ap0 cp1 cp0 _ _ (by omega) _ (H18.own1 0 rfl) (H18.own1 1 rfl)).mono ?_
      rintro e w19 ⟨rfl, hb⟩
      have H19 := H18.call hb
      clear hb H18
      go_wp2_with fail
      refine (markInt64S_any L Ap1 cp1 _ 1 (by omega) (by omega) _ (H19.own1 0 rfl)).mono ?_
      rintro e w20 ⟨rfl, hg, ho⟩
      have H20 := H19.grow 0 rfl (pRow (.slice Ap1 L.length cp1) 2 1 L.length (nums (marks 1 L.length))) (row_low (Own1.as ho) (Nat.zero_le _)) hg (fun _ hg => hg) (fun _ hg => .inl hg)
      clear hg ho H19
      go_wp2_with fail
      refine (heldInt64S_any L.length Ap1 cp1 w.heap.size 1 (by omega) (by omega) _ (Own1.of (H20.row 0 rfl))).mono ?_
      rintro e w21 ⟨rfl, hb⟩
      have H21 := H20.call hb
      clear hb H20
      go_wp2_with fail
      refine (toInt64S_any l0 _ _ (HV0.out.below H21.low (Nat.le_refl _)) hl0).mono ?_
      rintro e w22 ⟨_, rfl, hb, ho⟩
      obtain ⟨Ar0, cr0, rfl⟩ := own_slice ho
      have H22 := H21.newRow hb ho
      clear hb ho H21
      go_wp2_with fail
      refine (toInt64S_any l1 _ _ (HV1.out.below H22.low (Nat.le_refl _)) hl1).mono ?_
      rintro e w23 ⟨_, rfl, hb, ho⟩
      obtain ⟨Ar1, cr1, rfl⟩ := own_slice ho
      have H23 := H22.newRow hb ho
      clear hb ho H22
      go_wp2_with fail
      refine (C1.out _ _ _ (OwnZ.rd (show OwnZ w.heap.size _ _ l0 from H23.row 1 rfl) (by omega)) (OwnZ.rd (show OwnZ w.heap.size _ _ l1 from H23.row 0 rfl) (by omega))).mono ?_
      rintro e w24 ⟨_, rfl, hb, ho⟩
      obtain ⟨Ap2, cp2, rfl⟩ := own_slice ho
      have H24 := H23.newRow hb ho
      clear hb ho H23
      go_wp2_with fail
      refine (eqInt64S_same L Ap2 Ap0 cp2 cp0 _ _ (by omega) _ (H24.own1 0 rfl) (H24.own1 4 rfl)).mono ?_
      rintro e w25 ⟨rfl, hb⟩
      have H25 := H24.call hb
      clear hb H24
      go_wp2_with fail
      refine (heldInt64S_any L.length Ap1 cp1 w.heap.size 1 (by omega) (by omega) _ (Own1.of (H25.row 3 rfl))).mono ?_
      rintro e w26 ⟨rfl, hb⟩
      have H26 := H25.call hb
      clear hb H25
      go_wp2
      go_ret
      exact ⟨rfl, H26.low⟩

end Go.Proofs.Ytijgcjpngpifnaa
