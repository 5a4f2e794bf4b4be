/- The walk of FnExactMultiplicitiesOf. -/
import Derived.Test.YtijgcjpngpifnaaMkZ
import Derived.Test.YtijgcjpngpifnaaMlt6
namespace Go.Proofs.Ytijgcjpngpifnaa
open Go.RowKit

set_option maxRecDepth 100000 in
set_option maxHeartbeats 2000000 in
theorem fnExactMultiplicitiesOf_walk (w : World) (v0 : Value) (l0 : List Int) (hv0 : RdZ w v0 l0) (_hz0 : fits64 l0) (x0 : Int) (hx0 : -9223372036854775808 ≤ x0 ∧ x0 ≤ 9223372036854775807) :
    Calls Try.prog 13 #[v0, .int .i64 x0] w fun e w' => e = .returned (.bool true) ∧ Below w.heap.size w w' := by
  clear _hz0
  have c1 := fun (u0 : Value) (wx : World) (h0 : RdZ wx u0 l0) => multiplicitiesOf_any u0 l0 x0 hx0 wx h0
  have c2 := fun (u0 : Value) (wx : World) (h0 : RdZ wx u0 l0) => sMultiplicitiesOf_any u0 l0 x0 hx0 wx h0
  clear hx0
  have hL := mltR_bd l0 x0
  generalize mltR l0 x0 = L at *
  generalize val6 l0 x0 = c at *
  have hne : (c != c) = false := by simp
  have hnt : (((1 + L.length : Nat) : Int) != ((1 + L.length : Nat) : Int)) = false := by simp
  have hneg : decide (((1 + L.length : Nat) : Int) < 0) = false := decide_eq_false (by omega)
  have C1 := hide c1; clear c1
  have C2 := hide c2; clear c2
  obtain ⟨B0, d0, rfl, _⟩ := hv0.form
  have HV0 := hide hv0; clear hv0
  by_cases hbig0 : (1048576 : Int) < l0.length
  · have hd0 := decide_eq_true hbig0
    clear hbig0
    go_enter Try.func13, Try.ntmps13
    go_wp2
    go_ret
    exact ⟨rfl, Below.refl _ _⟩
  · have hd0 := decide_eq_false hbig0
    have hl0 : l0.length ≤ 1048576 := by omega
    clear hbig0
    have H0 := Holds.start w
    go_enter Try.func13, Try.ntmps13
    go_wp2_with fail
    refine (toInt64S_any l0 _ _ (HV0.out.below H0.low (Nat.le_refl _)) hl0).mono ?_
    rintro e w1 ⟨_, rfl, hb, ho⟩
    obtain ⟨At0, ct0, rfl⟩ := own_slice ho
    have H1 := H0.newRow hb ho
    clear hb ho H0
    go_wp2_with fail
    refine (C2.out _ _ (OwnZ.rd (show OwnZ w.heap.size _ _ l0 from H1.row 0 rfl) (by omega))).mono ?_
    rintro e w2 ⟨_, rfl, hb, ho⟩
    obtain ⟨Ap0, cp0, rfl⟩ := own_slice ho
    have H2 := H1.newRow hb ho
    clear hb ho H1
    have H3 := H2.sub (.cons_cons _ (.cons _ (.refl _)))
    clear H2
    go_wp2_with fail
    refine (toInt64S_any l0 _ _ (HV0.out.below H3.low (Nat.le_refl _)) hl0).mono ?_
    rintro e w4 ⟨_, rfl, hb, ho⟩
    obtain ⟨Ay0, cy0, rfl⟩ := own_slice ho
    have H4 := H3.newRow hb ho
    clear hb ho H3
    go_wp2_with fail
    refine (C1.out _ _ (OwnZ.rd (show OwnZ w.heap.size _ _ l0 from H4.row 0 rfl) (by omega))).mono ?_
    rintro e w5 ⟨_, rfl, hb, ho⟩
    obtain ⟨Ap1, cp1, rfl⟩ := own_slice ho
    have H5 := H4.newRow hb ho
    clear hb ho H4
    go_wp2_with fail
    refine (eqInt64S_same L Ap1 Ap0 cp1 cp0 _ _ (by omega) _ (H5.own1 0 rfl) (H5.own1 2 rfl)).mono ?_
    rintro e w6 ⟨rfl, hb⟩
    have H6 := H5.call hb
    clear hb H5
    go_wp2_with fail
    refine (toInt64S_any l0 _ _ (HV0.out.below H6.low (Nat.le_refl _)) hl0).mono ?_
    rintro e w7 ⟨_, rfl, hb, ho⟩
    obtain ⟨Az0, cz0, rfl⟩ := own_slice ho
    have H7 := H6.newRow hb ho
    clear hb ho H6
    go_wp2_with fail
    refine (eqInt64S_rd l0 _ _ _ (OwnZ.rd (show OwnZ w.heap.size _ _ l0 from H7.row 2 rfl) (by omega)) (OwnZ.rd (show OwnZ w.heap.size _ _ l0 from H7.row 0 rfl) (by omega))).mono ?_
    rintro e w8 ⟨rfl, hb⟩
    have H8 := H7.call hb
    clear hb H7
    have H9 := H8.sub (.cons _ (.cons_cons _ (.cons_cons _ (.cons_cons _ (.refl _)))))
    clear H8
    go_wp2_with fail
    refine (markZ_any l0 Ay0 cy0 _ (1) (by omega) (by omega) _ (show OwnZ w.heap.size _ _ l0 from H9.row 1 rfl)).mono ?_
    rintro e w10 ⟨rfl, hg, ho⟩
    have H10 := H9.grow 1 rfl (pRow (.slice Ay0 l0.length cy0) 2 1 l0.length (nums (marks (1) l0.length))) (row_low ho (Nat.zero_le _)) hg (fun _ hg => hg) (fun _ hg => .inl hg)
    clear hg ho H9
    have H11 := H10.sub (.cons_cons _ (.cons _ (.cons_cons _ (.refl _))))
    clear H10
    have hnk : decide (((1 + l0.length : Nat) : Int) < 0) = false := decide_eq_false (by omega)
    go_wp2_with fail
    refine (eqInt64S_same L Ap1 Ap0 cp1 cp0 _ _ (by omega) _ (H11.own1 0 rfl) (H11.own1 1 rfl)).mono ?_
    rintro e w12 ⟨rfl, hb⟩
    have H12 := H11.call hb
    clear hb H11
    go_wp2_with fail
    refine (markInt64S_any L Ap1 cp1 _ 1 (by omega) (by omega) _ (H12.own1 0 rfl)).mono ?_
    rintro e w13 ⟨rfl, hg, ho⟩
    have H13 := H12.grow 0 rfl (pRow (.slice Ap1 L.length cp1) 2 1 L.length (nums (marks 1 L.length))) (row_low (Own1.as ho) (Nat.zero_le _)) hg (fun _ hg => hg) (fun _ hg => .inl hg)
    clear hg ho H12
    go_wp2_with fail
    refine (heldInt64S_any L.length Ap1 cp1 w.heap.size 1 (by omega) (by omega) _ (Own1.of (H13.row 0 rfl))).mono ?_
    rintro e w14 ⟨rfl, hb⟩
    have H14 := H13.call hb
    clear hb H13
    go_wp2_with fail
    refine (toInt64S_any l0 _ _ (HV0.out.below H14.low (Nat.le_refl _)) hl0).mono ?_
    rintro e w15 ⟨_, rfl, hb, ho⟩
    obtain ⟨Ar0, cr0, rfl⟩ := own_slice ho
    have H15 := H14.newRow hb ho
    clear hb ho H14
    go_wp2_with fail
    refine (C1.out _ _ (OwnZ.rd (show OwnZ w.heap.size _ _ l0 from H15.row 0 rfl) (by omega))).mono ?_
    rintro e w16 ⟨_, rfl, hb, ho⟩
    obtain ⟨Ap2, cp2, rfl⟩ := own_slice ho
    have H16 := H15.newRow hb ho
    clear hb ho H15
    go_wp2_with fail
    refine (eqInt64S_same L Ap2 Ap0 cp2 cp0 _ _ (by omega) _ (H16.own1 0 rfl) (H16.own1 3 rfl)).mono ?_
    rintro e w17 ⟨rfl, hb⟩
    have H17 := H16.call hb
    clear hb H16
    go_wp2_with fail
    refine (heldInt64S_any L.length Ap1 cp1 w.heap.size 1 (by omega) (by omega) _ (Own1.of (H17.row 2 rfl))).mono ?_
    rintro e w18 ⟨rfl, hb⟩
    have H18 := H17.call hb
    clear hb H17
    go_wp2
    go_ret
    exact ⟨rfl, H18.low⟩

end Go.Proofs.Ytijgcjpngpifnaa
