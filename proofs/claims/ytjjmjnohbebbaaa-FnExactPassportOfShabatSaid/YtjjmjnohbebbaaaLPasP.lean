/- The walk of FnExactPassportOfShabat. -/
import Derived.Test.YtjjmjnohbebbaaaMkS
import Derived.Test.YtjjmjnohbebbaaaPas6
namespace Go.Proofs.Ytjjmjnohbebbaaa
open Go.RowKit

set_option maxRecDepth 100000 in
set_option maxHeartbeats 2000000 in
theorem fnExactPassportOfShabat_walk (w : World) (v0 : Value) (l0 : List Int) (hv0 : RdZ w v0 l0) (_hz0 : fits64 l0) (x0 : Int) (hx0 : -9223372036854775808 ≤ x0 ∧ x0 ≤ 9223372036854775807) (x1 : Int) (hx1 : -9223372036854775808 ≤ x1 ∧ x1 ≤ 9223372036854775807) :
    Calls Try.prog 4 #[v0, .int .i64 x0, .int .i64 x1] w fun e w' => e = .returned (.bool true) ∧ Below w.heap.size w w' := by
  clear _hz0
  have c1 := fun (u0 : Value) (wx : World) (h0 : RdZ wx u0 l0) => passportOfShabat_any u0 l0 x0 x1 hx0 hx1 wx h0
  have c2 := fun (u0 : Value) (wx : World) (h0 : RdZ wx u0 l0) => sPassportOfShabat_any u0 l0 x0 x1 hx0 hx1 wx h0
  clear hx0 hx1
  obtain ⟨hT, hL⟩ := pasR_bd l0 x0 x1
  generalize pasR l0 x0 x1 = L at *
  generalize pasC l0 x0 x1 = c at *
  have hne : (c != c) = false := by simp
  have hnt : (((1 + total L : Nat) : Int) != ((1 + total L : Nat) : Int)) = false := by simp
  have hneg : decide (((1 + total L : Nat) : Int) < 0) = false := decide_eq_false (by omega)
  have C1 := hide c1; clear c1
  have C2 := hide c2; clear c2
  obtain ⟨B0, d0, rfl, _⟩ := hv0.form
  have HV0 := hide hv0; clear hv0
  by_cases hbig0 : (1048576 : Int) < l0.length
  · have hd0 := decide_eq_true hbig0
    clear hbig0
    go_enter Try.func4, Try.ntmps4
    go_wp2
    go_ret
    exact ⟨rfl, Below.refl _ _⟩
  · have hd0 := decide_eq_false hbig0
    have hl0 : l0.length ≤ 1048576 := by omega
    clear hbig0
    have H0 := Holds.start w
    go_enter Try.func4, Try.ntmps4
    go_wp2_with fail
    refine (toInt64S_any l0 _ _ (HV0.out.below H0.low (Nat.le_refl _)) hl0).mono ?_
    rintro e w1 ⟨_, rfl, hb, ho⟩
    obtain ⟨At0, ct0, rfl⟩ := own_slice ho
    have t0ge : ∀ k, (Value.slice At0 l0.length ct0).ownBlock = some k → w.heap.size ≤ k := fun k hk => (World.ownsRow.lt ho k hk).1
    have t0lt : ∀ k, (Value.slice At0 l0.length ct0).ownBlock = some k → k < w1.heap.size := fun k hk => (World.ownsRow.lt ho k hk).2
    have H1 := H0.newRow hb ho
    have z1 := hb.size
    clear hb ho H0
    go_wp2_with fail
    refine (C2.out _ _ (OwnZ.rd (show OwnZ w.heap.size _ _ l0 from H1.row 0 rfl) (by omega))).mono ?_
    rintro e w2 ⟨_, rfl, hb, o9⟩
    obtain ⟨Ap0, cp0, vsp0, rfl, p9⟩ := own2_form o9
    clear o9
    have H2 := H1.call hb
    have p0_2 := hide p9; clear p9
    have z2 := hb.size
    clear hb H1
    have lt0 := hide (p0_2.out.lt)
    clear t0ge t0lt
    go_wp2_with fail
    refine (toInt64S_any l0 _ _ (HV0.out.below H2.low (Nat.le_refl _)) hl0).mono ?_
    rintro e w3 ⟨_, rfl, hb, ho⟩
    obtain ⟨Ay0, cy0, rfl⟩ := own_slice ho
    have y0ge : ∀ k, (Value.slice Ay0 l0.length cy0).ownBlock = some k → w2.heap.size ≤ k := fun k hk => (World.ownsRow.lt ho k hk).1
    have y0lt : ∀ k, (Value.slice Ay0 l0.length cy0).ownBlock = some k → k < w3.heap.size := fun k hk => (World.ownsRow.lt ho k hk).2
    have H3 := H2.newRow hb ho
    have p0_3 := hide (p0_2.out.below hb (Nat.le_refl _)); clear p0_2
    have z3 := hb.size
    clear hb ho H2
    go_wp2_with fail
    refine (C1.out _ _ (OwnZ.rd (show OwnZ w.heap.size _ _ l0 from H3.row 0 rfl) (by omega))).mono ?_
    rintro e w4 ⟨_, rfl, hb, o9⟩
    obtain ⟨Ap1, cp1, vsp1, rfl, p9⟩ := own2_form o9
    clear o9
    have H4 := H3.call hb
    have p0_4 := hide (p0_3.out.below hb (Nat.le_refl _)); clear p0_3
    have p1_4 := hide p9; clear p9
    have z4 := hb.size
    clear hb H3
    have ge1 := hide (p1_4.out.ge)
    go_wp2_with fail
    refine (eqInt64SS_same L Ap1 Ap0 cp1 cp0 _ _ vsp1 vsp0 (by omega) (by omega) _ p1_4.out p0_4.out).mono ?_
    rintro e w5 ⟨rfl, hb⟩
    have H5 := H4.call hb
    have p0_5 := hide (p0_4.out.below hb (Nat.le_refl _)); clear p0_4
    have p1_5 := hide (p1_4.out.below hb (Nat.le_refl _)); clear p1_4
    have z5 := hb.size
    clear hb H4
    go_wp2_with fail
    refine (toInt64S_any l0 _ _ (HV0.out.below H5.low (Nat.le_refl _)) hl0).mono ?_
    rintro e w6 ⟨_, rfl, hb, ho⟩
    obtain ⟨Az0, cz0, rfl⟩ := own_slice ho
    have z0ge : ∀ k, (Value.slice Az0 l0.length cz0).ownBlock = some k → w5.heap.size ≤ k := fun k hk => (World.ownsRow.lt ho k hk).1
    have z0lt : ∀ k, (Value.slice Az0 l0.length cz0).ownBlock = some k → k < w6.heap.size := fun k hk => (World.ownsRow.lt ho k hk).2
    have H6 := H5.newRow hb ho
    have p0_6 := hide (p0_5.out.below hb (Nat.le_refl _)); clear p0_5
    have p1_6 := hide (p1_5.out.below hb (Nat.le_refl _)); clear p1_5
    have z6 := hb.size
    clear hb ho H5
    go_wp2_with fail
    refine (eqInt64S_rd l0 _ _ _ (OwnZ.rd (show OwnZ w.heap.size _ _ l0 from H6.row 1 rfl) (by omega)) (OwnZ.rd (show OwnZ w.heap.size _ _ l0 from H6.row 0 rfl) (by omega))).mono ?_
    rintro e w7 ⟨rfl, hb⟩
    have H7 := H6.call hb
    have p0_7 := hide (p0_6.out.below hb (Nat.le_refl _)); clear p0_6
    have p1_7 := hide (p1_6.out.below hb (Nat.le_refl _)); clear p1_6
    have z7 := hb.size
    clear hb H6
    clear z0ge z0lt
    go_wp2_with fail
    refine (markZ_any l0 Ay0 cy0 _ (1) (by omega) (by omega) _ (show OwnZ w.heap.size _ _ l0 from H7.row 1 rfl)).mono ?_
    rintro e w8 ⟨rfl, hg, ho⟩
    have H8 := H7.grow 1 rfl (pRow (.slice Ay0 l0.length cy0) 2 1 l0.length (nums (marks (1) l0.length))) (row_low ho (Nat.zero_le _)) hg (fun _ hg => hg) (fun _ hg => .inl hg)
    have p0_8 := hide (p0_7.out.keep hg (fun q hq e => by have := lt0.out.1 q e; have := y0ge q hq; omega) (fun q hq i u hu e => by have := lt0.out.2 i u hu q e; have := y0ge q hq; omega)); clear p0_7
    have p1_8 := hide (p1_7.out.keep hg (fun q hq e => by have := ge1.out.1 q e; have := y0lt q hq; omega) (fun q hq i u hu e => by have := ge1.out.2 i u hu q e; have := y0lt q hq; omega)); clear p1_7
    have z8 := hg.size
    clear hg ho H7 y0ge y0lt ge1
    have hnk : decide (((1 + l0.length : Nat) : Int) < 0) = false := decide_eq_false (by omega)
    go_wp2_with fail
    refine (eqInt64SS_same L Ap1 Ap0 cp1 cp0 _ _ vsp1 vsp0 (by omega) (by omega) _ p1_8.out p0_8.out).mono ?_
    rintro e w9 ⟨rfl, hb⟩
    have H9 := H8.call hb
    have p0_9 := hide (p0_8.out.below hb (Nat.le_refl _)); clear p0_8
    have p1_9 := hide (p1_8.out.below hb (Nat.le_refl _)); clear p1_8
    have z9 := hb.size
    clear hb H8
    go_wp2_with fail
    refine (mark1 L Ap1 cp1 _ vsp1 (by omega) (by omega) _ (by omega) p1_9.out).mono ?_
    rintro e w10 ⟨rfl, h6, s6, o6⟩
    have p1_10 := hide o6; clear o6 p1_9
    have p0_10 := hide (p0_9.out.lower h6 (fun q hq => by have := lt0.out.1 q hq; omega) (fun i u hu q hq => by have := lt0.out.2 i u hu q hq; omega)); clear p0_9
    have H10 : Holds w w10 [] := ⟨H9.low.trans (h6.mono (by omega)), by simp, List.Pairwise.nil⟩
    have z10 := s6
    clear h6 s6 H9
    go_wp2_with fail
    refine (held1 L Ap1 cp1 _ vsp1 (by omega) (by omega) _ p1_10.out).mono ?_
    rintro e w11 ⟨rfl, hb⟩
    have H11 := H10.call hb
    have p0_11 := hide (p0_10.out.below hb (Nat.le_refl _)); clear p0_10
    have p1_11 := hide (p1_10.out.below hb (Nat.le_refl _)); clear p1_10
    have z11 := hb.size
    clear hb H10
    go_wp2_with fail
    refine (toInt64S_any l0 _ _ (HV0.out.below H11.low (Nat.le_refl _)) hl0).mono ?_
    rintro e w12 ⟨_, rfl, hb, ho⟩
    obtain ⟨Ar0, cr0, rfl⟩ := own_slice ho
    have r0ge : ∀ k, (Value.slice Ar0 l0.length cr0).ownBlock = some k → w11.heap.size ≤ k := fun k hk => (World.ownsRow.lt ho k hk).1
    have r0lt : ∀ k, (Value.slice Ar0 l0.length cr0).ownBlock = some k → k < w12.heap.size := fun k hk => (World.ownsRow.lt ho k hk).2
    have H12 := H11.newRow hb ho
    have p0_12 := hide (p0_11.out.below hb (Nat.le_refl _)); clear p0_11
    have p1_12 := hide (p1_11.out.below hb (Nat.le_refl _)); clear p1_11
    have z12 := hb.size
    clear hb ho H11
    clear r0ge r0lt
    go_wp2_with fail
    refine (C1.out _ _ (OwnZ.rd (show OwnZ w.heap.size _ _ l0 from H12.row 0 rfl) (by omega))).mono ?_
    rintro e w13 ⟨_, rfl, hb, o9⟩
    obtain ⟨Ap2, cp2, vsp2, rfl, p9⟩ := own2_form o9
    clear o9
    have H13 := H12.call hb
    have p0_13 := hide (p0_12.out.below hb (Nat.le_refl _)); clear p0_12
    have p1_13 := hide (p1_12.out.below hb (Nat.le_refl _)); clear p1_12
    have p2_13 := hide p9; clear p9
    have z13 := hb.size
    clear hb H12
    go_wp2_with fail
    refine (eqInt64SS_same L Ap2 Ap0 cp2 cp0 _ _ vsp2 vsp0 (by omega) (by omega) _ p2_13.out p0_13.out).mono ?_
    rintro e w14 ⟨rfl, hb⟩
    have H14 := H13.call hb
    have p0_14 := hide (p0_13.out.below hb (Nat.le_refl _)); clear p0_13
    have p1_14 := hide (p1_13.out.below hb (Nat.le_refl _)); clear p1_13
    have p2_14 := hide (p2_13.out.below hb (Nat.le_refl _)); clear p2_13
    have z14 := hb.size
    clear hb H13
    go_wp2_with fail
    refine (held1 L Ap1 cp1 _ vsp1 (by omega) (by omega) _ p1_14.out).mono ?_
    rintro e w15 ⟨rfl, hb⟩
    have H15 := H14.call hb
    have p0_15 := hide (p0_14.out.below hb (Nat.le_refl _)); clear p0_14
    have p1_15 := hide (p1_14.out.below hb (Nat.le_refl _)); clear p1_14
    have p2_15 := hide (p2_14.out.below hb (Nat.le_refl _)); clear p2_14
    have z15 := hb.size
    clear hb H14
    go_wp2
    go_ret
    exact ⟨rfl, H15.low⟩

end Go.Proofs.Ytjjmjnohbebbaaa
