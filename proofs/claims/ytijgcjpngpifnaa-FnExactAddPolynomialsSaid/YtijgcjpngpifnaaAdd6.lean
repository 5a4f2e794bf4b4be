/- Sums. -/
import Derived.Test.YtijgcjpngpifnaaBoth6
namespace Go.Proofs.Ytijgcjpngpifnaa
open Go.RowKit

noncomputable def addR2 (a b : List Int) : List Nat := @ite _ (isPol a ∧ isPol b) (Classical.propDecidable _) (addL (tn a) (tn b) 1) []
theorem addR2_ok {a b : List Int} (h : isPol a ∧ isPol b) : addR2 a b = addL (tn a) (tn b) 1 := @if_pos _ (Classical.propDecidable _) h _ _ _
theorem addR2_bad {a b : List Int} (h : ¬ (isPol a ∧ isPol b)) : addR2 a b = [] := @if_neg _ (Classical.propDecidable _) h _ _ _
theorem addR2_bd (a b : List Int) : (addR2 a b).length ≤ 1000000 := by
  by_cases h : isPol a ∧ isPol b
  · rw [addR2_ok h]
    have f0 := h.1.2.2.1
    have f1 := h.2.2.2.1
    have := addL_len (tn a) (tn b) 1; omega
  · rw [addR2_bad h]; decide
set_option maxRecDepth 100000 in
set_option maxHeartbeats 1000000 in
theorem addPolynomials_any (u0 u1 : Value) (l0 l1 : List Int) (w : World) (h0 : RdZ w u0 l0) (h1 : RdZ w u1 l1) :
    Calls Try.prog 22 #[u0, u1] w fun e w' => ∃ v, e = .returned (.tuple #[v, .int .i64 (both6 l0 l1)]) ∧ Below w.heap.size w w' ∧ Own1 w.heap.size w' v (addR2 l0 l1) := by
  obtain ⟨A, c, rfl, _⟩ := h0.form
  obtain ⟨B, d, rfl, _⟩ := h1.form
  have CA := isPolynomial_any _ l0 w h0
  have CB := isPolynomial_any _ l1 w h1
  have HNIL := hide (show Holds w w [pInts (.slice none 0 0) []] from (Holds.start w).nilRow 2 1)
  by_cases p0 : isPol l0
  · rw [polB_yes p0] at CA
    by_cases p1 : isPol l1
    · rw [polB_yes p1] at CB
      have R0 := hide (p0.rd h0)
      have R1 := hide (p1.rd h1)
      have P0 := hide p0; have P1 := hide p1
      have f0 := p0.2.2.1
      have f1 := p1.2.2.1
      have hlen := addL_len (tn l0) (tn l1) 1
      rw [both6_ok ⟨p0, p1⟩, addR2_ok ⟨p0, p1⟩]
      clear p0 p1 h0 h1
      have CA' := hide CA; clear CA
      have CB' := hide CB; clear CB
      have C0 := hide (polynomialOf_any _ (tn l0) (by omega) w R0.out)
      have C1 := hide (fun w1 (hb : Below w.heap.size w w1) => polynomialOf_any _ (tn l1) (by omega) w1 (R1.out.below hb (Nat.le_refl _)))
      go_enter Try.func22, Try.ntmps22
      go_wp2_with fail
      refine (CA'.out).mono ?_
      rintro e w1 ⟨rfl, rfl⟩
      go_wp2_with fail
      refine (CB'.out).mono ?_
      rintro e w1 ⟨rfl, rfl⟩
      go_wp2_with fail
      refine (C0.out).mono ?_
      rintro e w1 ⟨r0, rfl, k1⟩
      go_wp2_with fail
      refine (C1.out w1 k1.low).mono ?_
      rintro e w2 ⟨r1, rfl, k2⟩
      have K2 := k1.joinA k2
      clear k1 k2
      have CP := hide (plus6_any r0 r1 (tn l0) (tn l1) P0.out.2.1 P1.out.2.1 (by omega) (by omega) w2 (K2.poRd 1 rfl) (K2.poRd 0 rfl))
      go_wp2_with fail
      refine (CP.out).mono ?_
      rintro e w3 ⟨r3, rfl, k3⟩
      have K3 := (K2.joinA k3).sub (List.cons_sublist_cons.2 (List.nil_sublist _))
      clear k3 K2 CP
      have CN := hide (numbers_any _ (addL (tn l0) (tn l1) 1) (by omega) _ (K3.poRd 0 rfl))
      go_wp2_with fail
      refine (CN.out).mono ?_
      rintro e w9 ⟨r9, rfl, k9⟩
      have K9 := (K3.joinA k9).sub (List.cons_sublist_cons.2 (List.nil_sublist _))
      have k10 : Holds w w9 [pInts r9 (addL (tn l0) (tn l1) 1)] := K9
      have K10 := hide k10; clear k10 K9 k9
      go_wp2
      go_ret2
      exact ⟨_, rfl, K10.out.low, K10.out.own1 0 rfl⟩
    · rw [polB_no p1] at CB
      have e1 : both6 l0 l1 = 1 := both6_bad (fun h => p1 h.2)
      have e2 : addR2 l0 l1 = [] := addR2_bad (fun h => p1 h.2)
      rw [e1, e2]
      clear e1 e2 p0 p1 h0 h1
      have CA' := hide CA; clear CA
      have CB' := hide CB; clear CB
      go_enter Try.func22, Try.ntmps22
      go_wp2_with fail
      refine (CA'.out).mono ?_
      rintro e w1 ⟨rfl, rfl⟩
      go_wp2_with fail
      refine (CB'.out).mono ?_
      rintro e w1 ⟨rfl, rfl⟩
      go_wp2
      go_ret2
      exact ⟨_, rfl, Below.refl _ _, HNIL.out.own1 0 rfl⟩
  · rw [polB_no p0] at CA
    have e1 : both6 l0 l1 = 1 := both6_bad (fun h => p0 h.1)
    have e2 : addR2 l0 l1 = [] := addR2_bad (fun h => p0 h.1)
    rw [e1, e2]
    clear e1 e2 p0 h0 h1 CB
    have CA' := hide CA; clear CA
    go_enter Try.func22, Try.ntmps22
    go_wp2_with fail
    refine (CA'.out).mono ?_
    rintro e w1 ⟨rfl, rfl⟩
    go_wp2
    go_ret2
    exact ⟨_, rfl, Below.refl _ _, HNIL.out.own1 0 rfl⟩
set_option maxRecDepth 100000 in
set_option maxHeartbeats 1000000 in
theorem sAddPolynomials_any (u0 u1 : Value) (l0 l1 : List Int) (w : World) (h0 : RdZ w u0 l0) (h1 : RdZ w u1 l1) :
    Calls Try.prog 21 #[u0, u1] w fun e w' => ∃ v, e = .returned (.tuple #[v, .int .i64 (both6 l0 l1)]) ∧ Below w.heap.size w w' ∧ Own1 w.heap.size w' v (addR2 l0 l1) := by
  obtain ⟨A, c, rfl, _⟩ := h0.form
  obtain ⟨B, d, rfl, _⟩ := h1.form
  have CB := sBoth6_any _ _ l0 l1 w h0 h1
  have HNIL := hide (show Holds w w [pInts (.slice none 0 0) []] from (Holds.start w).nilRow 2 1)
  by_cases p : isPol l0 ∧ isPol l1
  · obtain ⟨p0, p1⟩ := p
    rw [both6_ok ⟨p0, p1⟩] at CB
    have R0 := hide (p0.rd h0)
    have R1 := hide (p1.rd h1)
    have P0 := hide p0; have P1 := hide p1
    have f0 := p0.2.2.1
    have f1 := p1.2.2.1
    rw [both6_ok ⟨p0, p1⟩, addR2_ok ⟨p0, p1⟩]
    clear p0 p1 h0 h1
    have CB' := hide CB; clear CB
    have CS := hide (sAdd6_any _ _ (tn l0) (tn l1) 1 (by decide) P0.out.2.1 P1.out.2.1 (by omega) (by omega) w R0.out R1.out)
    go_enter Try.func21, Try.ntmps21
    go_wp2_with fail
    refine (CB'.out).mono ?_
    rintro e w1 ⟨rfl, rfl⟩
    go_wp2_with fail
    refine (CS.out).mono ?_
    rintro e w1 ⟨r1, rfl, k1⟩
    go_wp2
    go_ret2
    exact ⟨_, rfl, k1.low, k1.own1 0 rfl⟩
  · rw [both6_bad p] at CB
    have e1 : both6 l0 l1 = 1 := both6_bad p
    have e2 : addR2 l0 l1 = [] := addR2_bad p
    rw [e1, e2]
    clear e1 e2 p h0 h1
    have CB' := hide CB; clear CB
    go_enter Try.func21, Try.ntmps21
    go_wp2_with fail
    refine (CB'.out).mono ?_
    rintro e w1 ⟨rfl, rfl⟩
    go_wp2
    go_ret2
    exact ⟨_, rfl, Below.refl _ _, HNIL.out.own1 0 rfl⟩
end Go.Proofs.Ytijgcjpngpifnaa
