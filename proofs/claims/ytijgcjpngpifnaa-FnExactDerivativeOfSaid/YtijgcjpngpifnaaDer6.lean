/- Derivatives. -/
import Derived.Test.YtijgcjpngpifnaaBoth6
namespace Go.Proofs.Ytijgcjpngpifnaa
open Go.RowKit

noncomputable def one6 (a : List Int) : Int := @ite _ (isPol a) (Classical.propDecidable _) 0 1
theorem one6_ok {a : List Int} (h : isPol a) : one6 a = 0 := @if_pos _ (Classical.propDecidable _) h _ _ _
theorem one6_bad {a : List Int} (h : ¬ isPol a) : one6 a = 1 := @if_neg _ (Classical.propDecidable _) h _ _ _
noncomputable def derR (a : List Int) : List Nat := @ite _ (isPol a) (Classical.propDecidable _) (dervL (tn a)) []
theorem derR_ok {a : List Int} (h : isPol a) : derR a = dervL (tn a) := @if_pos _ (Classical.propDecidable _) h _ _ _
theorem derR_bad {a : List Int} (h : ¬ isPol a) : derR a = [] := @if_neg _ (Classical.propDecidable _) h _ _ _
theorem derR_bd (a : List Int) : (derR a).length ≤ 1000000 := by
  by_cases h : isPol a
  · rw [derR_ok h, dervL_length]
    have f0 := h.2.2.1
    omega
  · rw [derR_bad h]; decide
set_option maxRecDepth 100000 in
set_option maxHeartbeats 1000000 in
theorem derivativeOf_any (u0 : Value) (l0 : List Int) (w : World) (h0 : RdZ w u0 l0) :
    Calls Try.prog 30 #[u0] w fun e w' => ∃ v, e = .returned (.tuple #[v, .int .i64 (one6 l0)]) ∧ Below w.heap.size w w' ∧ Own1 w.heap.size w' v (derR l0) := by
  obtain ⟨A, c, rfl, _⟩ := h0.form
  have CA := isPolynomial_any _ l0 w h0
  have HNIL := hide (show Holds w w [pInts (.slice none 0 0) []] from (Holds.start w).nilRow 2 1)
  by_cases p0 : isPol l0
  · rw [polB_yes p0] at CA
    have R0 := hide (p0.rd h0)
    have P0 := hide p0
    have f0 := p0.2.2.1
    have hlen := dervL_length (tn l0)
    rw [one6_ok p0, derR_ok p0]
    clear p0 h0
    have CA' := hide CA; clear CA
    have C0 := hide (polynomialOf_any _ (tn l0) (by omega) w R0.out)
    have CP := hide (fun w2 (r0 : Value) (h0 : RdN w2 r0 (tn l0)) => derivative6_any r0 (tn l0) P0.out.2.1 (by omega) w2 h0)
    go_enter Try.func30, Try.ntmps30
    go_wp2_with fail
    refine (CA'.out).mono ?_
    rintro e w1 ⟨rfl, rfl⟩
    go_wp2_with fail
    refine (C0.out).mono ?_
    rintro e w2 ⟨r0, rfl, K2⟩
    go_wp2_with fail
    refine (CP.out w2 r0 (K2.poRd 0 rfl)).mono ?_
    rintro e w3 ⟨r3, rfl, k3⟩
    have K3 := (K2.joinA k3).sub (List.cons_sublist_cons.2 (List.nil_sublist _))
    clear k3 K2
    have CN := hide (numbers_any _ (dervL (tn l0)) (by omega) _ (K3.poRd 0 rfl))
    go_wp2_with fail
    refine (CN.out).mono ?_
    rintro e w9 ⟨r9, rfl, k9⟩
    have K9 := (K3.joinA k9).sub (List.cons_sublist_cons.2 (List.nil_sublist _))
    have k10 : Holds w w9 [pInts r9 (dervL (tn l0))] := K9
    have K10 := hide k10; clear k10 K9 k9
    go_wp2
    go_ret2
    exact ⟨_, rfl, K10.out.low, K10.out.own1 0 rfl⟩
  · rw [polB_no p0] at CA
    have e1 := one6_bad p0
    have e2 := derR_bad p0
    rw [e1, e2]
    clear e1 e2 p0 h0
    have CA' := hide CA; clear CA
    go_enter Try.func30, Try.ntmps30
    go_wp2_with fail
    refine (CA'.out).mono ?_
    rintro e w1 ⟨rfl, rfl⟩
    go_wp2
    go_ret2
    exact ⟨_, rfl, Below.refl _ _, HNIL.out.own1 0 rfl⟩
set_option maxRecDepth 100000 in
set_option maxHeartbeats 1000000 in
theorem sDerivativeOf_any (u0 : Value) (l0 : List Int) (w : World) (h0 : RdZ w u0 l0) :
    Calls Try.prog 29 #[u0] w fun e w' => ∃ v, e = .returned (.tuple #[v, .int .i64 (one6 l0)]) ∧ Below w.heap.size w w' ∧ Own1 w.heap.size w' v (derR l0) := by
  obtain ⟨A, c, rfl, _⟩ := h0.form
  have CA := s06Is_any _ l0 w h0
  have HNIL := hide (show Holds w w [pInts (.slice none 0 0) []] from (Holds.start w).nilRow 2 1)
  by_cases p0 : isPol l0
  · rw [polB_yes p0] at CA
    have R0 := hide (p0.rd h0)
    have P0 := hide p0
    have f0 := p0.2.2.1
    have hlen := dervL_length (tn l0)
    rw [one6_ok p0, derR_ok p0]
    clear p0 h0
    have CA' := hide CA; clear CA
    have CS := hide (sSlope6_any _ (tn l0) P0.out.2.1 P0.out.2.2.2 (by omega) w R0.out)
    go_enter Try.func29, Try.ntmps29
    go_wp2_with fail
    refine (CA'.out).mono ?_
    rintro e w1 ⟨rfl, rfl⟩
    go_wp2_with fail
    refine (CS.out).mono ?_
    rintro e w1 ⟨r1, rfl, k1⟩
    go_wp2
    go_ret2
    exact ⟨_, rfl, k1.low, k1.own1 0 rfl⟩
  · rw [polB_no p0] at CA
    have e1 := one6_bad p0
    have e2 := derR_bad p0
    rw [e1, e2]
    clear e1 e2 p0 h0
    have CA' := hide CA; clear CA
    go_enter Try.func29, Try.ntmps29
    go_wp2_with fail
    refine (CA'.out).mono ?_
    rintro e w1 ⟨rfl, rfl⟩
    go_wp2
    go_ret2
    exact ⟨_, rfl, Below.refl _ _, HNIL.out.own1 0 rfl⟩
end Go.Proofs.Ytijgcjpngpifnaa
