/- MultiplicitiesOf, IsCritical. -/
import Derived.Test.YtijgcjpngpifnaaVc6
namespace Go.Proofs.Ytijgcjpngpifnaa
open Go.RowKit

noncomputable def val6 (l : List Int) (x : Int) : Int := vcode l [x]
noncomputable def mltR (l : List Int) (x : Int) : List Nat := if val6 l x = 0 then res6 l x else []
theorem mltR_bd (l : List Int) (x : Int) : (mltR l x).length ≤ 1000000 := by
  unfold mltR
  split
  · rename_i h
    obtain ⟨p, _, h2⟩ := vc_zero h
    have := (res6_ok p h2 x).2.2.1
    omega
  · decide
noncomputable def criR (l : List Int) (x : Int) : Value := .tuple #[.bool (if val6 l x = 0 then decide (1 < nth (res6 l x) 0) else false), .int .i64 (val6 l x)]
theorem criR_eq (l : List Int) (x : Int) : ∃ a c, criR l x = .tuple #[.bool a, .int .i64 c] := ⟨_, _, rfl⟩
set_option maxRecDepth 100000 in
set_option maxHeartbeats 1000000 in
theorem multiplicitiesOf_any (u0 : Value) (l0 : List Int) (x0 : Int) (_hx0 : -9223372036854775808 ≤ x0 ∧ x0 ≤ 9223372036854775807) (w : World) (h0 : RdZ w u0 l0) :
    Calls Try.prog 40 #[u0, .int .i64 x0] w fun e w' => ∃ v, e = .returned (.tuple #[v, .int .i64 (val6 l0 x0)]) ∧ Below w.heap.size w w' ∧ Own1 w.heap.size w' v (mltR l0 x0) := by
  clear _hx0
  obtain ⟨A, c, rfl, _⟩ := h0.form
  have hb := below1 w (.cells #[.int .i64 x0] 2)
  have CA := valuesCode_any _ _ l0 [x0] _ (h0.below hb (Nat.le_refl _)) (rdz_cells w [x0] 2 1 rfl (by decide))
  have HNIL := hide (show Holds w (w.alloc (.cells #[.int .i64 x0] 2)) [pInts (.slice none 0 0) []] from ((Holds.start w).alloc _).nilRow 2 1)
  by_cases hz : vcode l0 [x0] = 0
  · obtain ⟨p0, q0, h2⟩ := vc_zero hz
    have hv0 : val6 l0 x0 = 0 := hz
    have hx := q0 x0 (by simp)
    obtain ⟨_, m1, m2, m3⟩ := res6_ok p0 h2 x0
    have R0 := hide (fun wx (hb : Below w.heap.size w wx) => (p0.rd h0).below hb (Nat.le_refl _))
    have f0 := p0.2.2.1
    have P0 := hide (And.intro p0 (And.intro h2 hx))
    rw [hz] at CA
    have CA' := hide CA; clear CA p0 q0 h2 h0
    replace hb := hide hb
    have e1 : mltR l0 x0 = res6 l0 x0 := if_pos hv0
    rw [e1, hv0]
    clear e1
    have C0 := hide (polynomialOf_any _ (tn l0) (by omega) _ (R0.out _ hb.out))
    have CM := hide fun (w1 : World) (r : Value) (h : RdN w1 r (tn l0)) => multN_any l0 x0 P0.out.1 P0.out.2.1 P0.out.2.2 r w1 h
    clear hx hz hv0
    go_enter Try.func40, Try.ntmps40
    go_wp2_with fail
    refine (CA'.out).mono ?_
    rintro e w1 ⟨rfl, rfl⟩
    go_wp2_with fail
    refine (C0.out).mono ?_
    rintro e w2 ⟨r0, rfl, k1⟩
    have K1 := ((HNIL.out.sub (List.nil_sublist _)).joinA k1)
    clear k1
    go_wp2_with fail
    refine (CM.out w2 r0 (K1.poRd 0 rfl)).mono ?_
    rintro e w3 ⟨r1, rfl, k2⟩
    have K2 : Holds w w3 [pInts r1 (res6 l0 x0)] := (K1.joinA k2).sub (List.cons_sublist_cons.2 (List.nil_sublist _))
    clear k2 K1
    have K9 := hide K2; clear K2
    go_wp2
    go_ret2
    exact ⟨_, rfl, K9.out.low, K9.out.own1 0 rfl⟩
  · have hv0 : val6 l0 x0 = vcode l0 [x0] := rfl
    have hne : (vcode l0 [x0] != 0) = true := by simpa using hz
    have e1 : mltR l0 x0 = [] := if_neg hz
    rw [e1, hv0]
    generalize vcode l0 [x0] = cd at *
    clear hz hv0 e1 h0 hb
    have CA' := hide CA; clear CA
    go_enter Try.func40, Try.ntmps40
    go_wp2_with fail
    refine (CA'.out).mono ?_
    rintro e w1 ⟨rfl, rfl⟩
    go_wp2
    go_ret2
    exact ⟨_, rfl, HNIL.out.low, HNIL.out.own1 0 rfl⟩
set_option maxRecDepth 100000 in
set_option maxHeartbeats 1000000 in
theorem sMultiplicitiesOf_any (u0 : Value) (l0 : List Int) (x0 : Int) (_hx0 : -9223372036854775808 ≤ x0 ∧ x0 ≤ 9223372036854775807) (w : World) (h0 : RdZ w u0 l0) :
    Calls Try.prog 39 #[u0, .int .i64 x0] w fun e w' => ∃ v, e = .returned (.tuple #[v, .int .i64 (val6 l0 x0)]) ∧ Below w.heap.size w w' ∧ Own1 w.heap.size w' v (mltR l0 x0) := by
  clear _hx0
  obtain ⟨A, c, rfl, _⟩ := h0.form
  have hb := below1 w (.cells #[.int .i64 x0] 2)
  have CA := sCode6_any _ _ l0 [x0] _ (h0.below hb (Nat.le_refl _)) (rdz_cells w [x0] 2 1 rfl (by decide))
  have HNIL := hide (show Holds w (w.alloc (.cells #[.int .i64 x0] 2)) [pInts (.slice none 0 0) []] from ((Holds.start w).alloc _).nilRow 2 1)
  by_cases hz : vcode l0 [x0] = 0
  · obtain ⟨p0, q0, h2⟩ := vc_zero hz
    have hv0 : val6 l0 x0 = 0 := hz
    have hx := q0 x0 (by simp)
    obtain ⟨_, m1, m2, m3⟩ := res6_ok p0 h2 x0
    have R0 := hide (fun wx (hb : Below w.heap.size w wx) => (p0.rd h0).below hb (Nat.le_refl _))
    have f0 := p0.2.2.1
    have P0 := hide (And.intro p0 (And.intro h2 hx))
    rw [hz] at CA
    have CA' := hide CA; clear CA p0 q0 h2 h0
    replace hb := hide hb
    have e1 : mltR l0 x0 = res6 l0 x0 := if_pos hv0
    rw [e1, hv0]
    clear e1
    have CM := hide (sMultN_any l0 x0 P0.out.1 P0.out.2.1 P0.out.2.2 _ _ (R0.out _ hb.out))
    clear hx hz hv0
    go_enter Try.func39, Try.ntmps39
    go_wp2_with fail
    refine (CA'.out).mono ?_
    rintro e w1 ⟨rfl, rfl⟩
    go_wp2_with fail
    refine (CM.out).mono ?_
    rintro e w3 ⟨r1, rfl, k2⟩
    have K2 : Holds w w3 [pInts r1 (res6 l0 x0)] := ((HNIL.out.sub (List.nil_sublist _)).joinA k2)
    clear k2
    have K9 := hide K2; clear K2
    go_wp2
    go_ret2
    exact ⟨_, rfl, K9.out.low, K9.out.own1 0 rfl⟩
  · have hv0 : val6 l0 x0 = vcode l0 [x0] := rfl
    have hne : (vcode l0 [x0] != 0) = true := by simpa using hz
    have e1 : mltR l0 x0 = [] := if_neg hz
    rw [e1, hv0]
    generalize vcode l0 [x0] = cd at *
    clear hz hv0 e1 h0 hb
    have CA' := hide CA; clear CA
    go_enter Try.func39, Try.ntmps39
    go_wp2_with fail
    refine (CA'.out).mono ?_
    rintro e w1 ⟨rfl, rfl⟩
    go_wp2
    go_ret2
    exact ⟨_, rfl, HNIL.out.low, HNIL.out.own1 0 rfl⟩
set_option maxRecDepth 100000 in
set_option maxHeartbeats 1000000 in
theorem isCritical_any (u0 : Value) (l0 : List Int) (x0 : Int) (_hx0 : -9223372036854775808 ≤ x0 ∧ x0 ≤ 9223372036854775807) (w : World) (h0 : RdZ w u0 l0) :
    Calls Try.prog 42 #[u0, .int .i64 x0] w fun e w' => e = .returned (criR l0 x0) ∧ Below w.heap.size w w' := by
  clear _hx0
  obtain ⟨A, c, rfl, _⟩ := h0.form
  have hb := below1 w (.cells #[.int .i64 x0] 2)
  have CA := valuesCode_any _ _ l0 [x0] _ (h0.below hb (Nat.le_refl _)) (rdz_cells w [x0] 2 1 rfl (by decide))
  have HNIL := hide (show Holds w (w.alloc (.cells #[.int .i64 x0] 2)) [pInts (.slice none 0 0) []] from ((Holds.start w).alloc _).nilRow 2 1)
  by_cases hz : vcode l0 [x0] = 0
  · obtain ⟨p0, q0, h2⟩ := vc_zero hz
    have hv0 : val6 l0 x0 = 0 := hz
    have hx := q0 x0 (by simp)
    obtain ⟨_, m1, m2, m3⟩ := res6_ok p0 h2 x0
    have R0 := hide (fun wx (hb : Below w.heap.size w wx) => (p0.rd h0).below hb (Nat.le_refl _))
    have f0 := p0.2.2.1
    have P0 := hide (And.intro p0 (And.intro h2 hx))
    rw [hz] at CA
    have CA' := hide CA; clear CA p0 q0 h2 h0
    replace hb := hide hb
    have e1 : criR l0 x0 = .tuple #[.bool (decide ((1 : Int) < (nth (res6 l0 x0) 0 : Int))), .int .i64 0] := by
      unfold criR
      rw [if_pos hv0, hv0]
      congr 4
      exact decide_eq_decide.2 (by omega)
    rw [e1]
    clear e1
    have C0 := hide (polynomialOf_any _ (tn l0) (by omega) _ (R0.out _ hb.out))
    have CM := hide fun (w1 : World) (r : Value) (h : RdN w1 r (tn l0)) => multN_any l0 x0 P0.out.1 P0.out.2.1 P0.out.2.2 r w1 h
    clear hx hz hv0
    go_enter Try.func42, Try.ntmps42
    go_wp2_with fail
    refine (CA'.out).mono ?_
    rintro e w1 ⟨rfl, rfl⟩
    go_wp2_with fail
    refine (C0.out).mono ?_
    rintro e w2 ⟨r0, rfl, k1⟩
    have K1 := ((HNIL.out.sub (List.nil_sublist _)).joinA k1)
    clear k1
    go_wp2_with fail
    refine (CM.out w2 r0 (K1.poRd 0 rfl)).mono ?_
    rintro e w3 ⟨r1, rfl, k2⟩
    have K2 : Holds w w3 [pInts r1 (res6 l0 x0)] := (K1.joinA k2).sub (List.cons_sublist_cons.2 (List.nil_sublist _))
    clear k2 K1
    obtain ⟨g, cc, rfl, _, cl, _⟩ := K2.ints 0 rfl (k := 0) m1
    rw [← nth_lt m1] at cl
    have K9 := hide K2.low; clear K2
    go_wp2
    go_ret2
    exact ⟨rfl, K9.out⟩
  · have hv0 : val6 l0 x0 = vcode l0 [x0] := rfl
    have hne : (vcode l0 [x0] != 0) = true := by simpa using hz
    have e1 : criR l0 x0 = .tuple #[.bool false, .int .i64 (vcode l0 [x0])] := by unfold criR; rw [if_neg (show ¬ val6 l0 x0 = 0 from hz)]; rfl
    rw [e1]
    generalize vcode l0 [x0] = cd at *
    clear hz hv0 e1 h0 hb
    have CA' := hide CA; clear CA
    go_enter Try.func42, Try.ntmps42
    go_wp2_with fail
    refine (CA'.out).mono ?_
    rintro e w1 ⟨rfl, rfl⟩
    go_wp2
    go_ret2
    exact ⟨rfl, HNIL.out.low⟩
set_option maxRecDepth 100000 in
set_option maxHeartbeats 1000000 in
theorem sIsCritical_any (u0 : Value) (l0 : List Int) (x0 : Int) (_hx0 : -9223372036854775808 ≤ x0 ∧ x0 ≤ 9223372036854775807) (w : World) (h0 : RdZ w u0 l0) :
    Calls Try.prog 41 #[u0, .int .i64 x0] w fun e w' => e = .returned (criR l0 x0) ∧ Below w.heap.size w w' := by
  clear _hx0
  obtain ⟨A, c, rfl, _⟩ := h0.form
  have hb := below1 w (.cells #[.int .i64 x0] 2)
  have CA := sCode6_any _ _ l0 [x0] _ (h0.below hb (Nat.le_refl _)) (rdz_cells w [x0] 2 1 rfl (by decide))
  have HNIL := hide (show Holds w (w.alloc (.cells #[.int .i64 x0] 2)) [pInts (.slice none 0 0) []] from ((Holds.start w).alloc _).nilRow 2 1)
  by_cases hz : vcode l0 [x0] = 0
  · obtain ⟨p0, q0, h2⟩ := vc_zero hz
    have hv0 : val6 l0 x0 = 0 := hz
    have hx := q0 x0 (by simp)
    obtain ⟨_, m1, m2, m3⟩ := res6_ok p0 h2 x0
    have R0 := hide (fun wx (hb : Below w.heap.size w wx) => (p0.rd h0).below hb (Nat.le_refl _))
    have f0 := p0.2.2.1
    have P0 := hide (And.intro p0 (And.intro h2 hx))
    rw [hz] at CA
    have CA' := hide CA; clear CA p0 q0 h2 h0
    replace hb := hide hb
    have e1 : criR l0 x0 = .tuple #[.bool (decide ((1 : Int) < (nth (res6 l0 x0) 0 : Int))), .int .i64 0] := by
      unfold criR
      rw [if_pos hv0, hv0]
      congr 4
      exact decide_eq_decide.2 (by omega)
    rw [e1]
    clear e1
    have CM := hide (sMultN_any l0 x0 P0.out.1 P0.out.2.1 P0.out.2.2 _ _ (R0.out _ hb.out))
    clear hx hz hv0
    go_enter Try.func41, Try.ntmps41
    go_wp2_with fail
    refine (CA'.out).mono ?_
    rintro e w1 ⟨rfl, rfl⟩
    go_wp2_with fail
    refine (CM.out).mono ?_
    rintro e w3 ⟨r1, rfl, k2⟩
    have K2 : Holds w w3 [pInts r1 (res6 l0 x0)] := ((HNIL.out.sub (List.nil_sublist _)).joinA k2)
    clear k2
    obtain ⟨g, cc, rfl, _, cl, _⟩ := K2.ints 0 rfl (k := 0) m1
    rw [← nth_lt m1] at cl
    have K9 := hide K2.low; clear K2
    go_wp2
    go_ret2
    exact ⟨rfl, K9.out⟩
  · have hv0 : val6 l0 x0 = vcode l0 [x0] := rfl
    have hne : (vcode l0 [x0] != 0) = true := by simpa using hz
    have e1 : criR l0 x0 = .tuple #[.bool false, .int .i64 (vcode l0 [x0])] := by unfold criR; rw [if_neg (show ¬ val6 l0 x0 = 0 from hz)]; rfl
    rw [e1]
    generalize vcode l0 [x0] = cd at *
    clear hz hv0 e1 h0 hb
    have CA' := hide CA; clear CA
    go_enter Try.func41, Try.ntmps41
    go_wp2_with fail
    refine (CA'.out).mono ?_
    rintro e w1 ⟨rfl, rfl⟩
    go_wp2
    go_ret2
    exact ⟨rfl, HNIL.out.low⟩
end Go.Proofs.Ytijgcjpngpifnaa
