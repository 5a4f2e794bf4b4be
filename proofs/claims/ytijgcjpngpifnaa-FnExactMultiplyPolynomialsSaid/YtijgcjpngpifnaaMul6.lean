/- Products. -/
import Derived.Test.YtijgcjpngpifnaaBoth6
namespace Go.Proofs.Ytijgcjpngpifnaa
open Go.RowKit

noncomputable def mulR2 (a b : List Int) : List Nat := @ite _ (isPol a ∧ isPol b) (Classical.propDecidable _) (if (timesL (tn a) (tn b)).length ≤ 17 then timesL (tn a) (tn b) else []) []
theorem mulR2_ok {a b : List Int} (h : isPol a ∧ isPol b) : mulR2 a b = if (timesL (tn a) (tn b)).length ≤ 17 then timesL (tn a) (tn b) else [] := @if_pos _ (Classical.propDecidable _) h _ _ _
theorem mulR2_bad {a b : List Int} (h : ¬ (isPol a ∧ isPol b)) : mulR2 a b = [] := @if_neg _ (Classical.propDecidable _) h _ _ _
theorem mulR2_bd (a b : List Int) : (mulR2 a b).length ≤ 1000000 := by
  by_cases h : isPol a ∧ isPol b
  · rw [mulR2_ok h]
    have f0 := h.1.2.2.1
    have f1 := h.2.2.2.1
    split
    · omega
    · decide
  · rw [mulR2_bad h]; decide
noncomputable def mulC2 (a b : List Int) : Int := @ite _ (isPol a ∧ isPol b) (Classical.propDecidable _) (if (timesL (tn a) (tn b)).length ≤ 17 then 0 else 3) 1
theorem mulC2_ok {a b : List Int} (h : isPol a ∧ isPol b) : mulC2 a b = if (timesL (tn a) (tn b)).length ≤ 17 then 0 else 3 := @if_pos _ (Classical.propDecidable _) h _ _ _
theorem mulC2_bad {a b : List Int} (h : ¬ (isPol a ∧ isPol b)) : mulC2 a b = 1 := @if_neg _ (Classical.propDecidable _) h _ _ _
set_option maxRecDepth 100000 in
set_option maxHeartbeats 1000000 in
theorem multiplyPolynomials_any (u0 u1 : Value) (l0 l1 : List Int) (w : World) (h0 : RdZ w u0 l0) (h1 : RdZ w u1 l1) :
    Calls Try.prog 26 #[u0, u1] w fun e w' => ∃ v, e = .returned (.tuple #[v, .int .i64 (mulC2 l0 l1)]) ∧ Below w.heap.size w w' ∧ Own1 w.heap.size w' v (mulR2 l0 l1) := by
  obtain ⟨A, c, rfl, _⟩ := h0.form
  obtain ⟨B, d, rfl, _⟩ := h1.form
  have CA := isPolynomial_any _ l0 w h0
  have CB := isPolynomial_any _ l1 w h1
  have HNIL := hide (show Holds w w [pInts (.slice none 0 0) []] from (Holds.start w).nilRow 2 1)
  by_cases p0 : isPol l0
  · rw [polB_yes p0] at CA
    by_cases p1 : isPol l1
    · rw [polB_yes p1] at CB
      have R0 := hide (p0.rd h0)
      have R1 := hide (p1.rd h1)
      have P0 := hide p0; have P1 := hide p1
      have f0 := p0.2.2.1
      have f1 := p1.2.2.1
      have hlen := timesL_len (tn l0) (tn l1)
      rw [mulC2_ok ⟨p0, p1⟩, mulR2_ok ⟨p0, p1⟩]
      clear p0 p1 h0 h1
      have CA' := hide CA; clear CA
      have CB' := hide CB; clear CB
      have C0 := hide (polynomialOf_any _ (tn l0) (by omega) w R0.out)
      have C1 := hide (fun w1 (hb : Below w.heap.size w w1) => polynomialOf_any _ (tn l1) (by omega) w1 (R1.out.below hb (Nat.le_refl _)))
      have CP := hide (fun w2 (r0 r1 : Value) (h0 : RdN w2 r0 (tn l0)) (h1 : RdN w2 r1 (tn l1)) => times6_any r0 r1 (tn l0) (tn l1) P0.out.2.1 P1.out.2.1 (by omega) (by omega) w2 h0 h1)
      obtain ⟨T, hT⟩ : ∃ T, T = timesL (tn l0) (tn l1) := ⟨_, rfl⟩
      rw [← hT] at CP hlen ⊢
      have HT := hide hT; clear hT
      have CD := hide degree6_any
      by_cases hd : T.length ≤ 17
      · rw [if_pos hd, if_pos hd]
        have d0 : decide ((16 : Int) < (T.length : Int) - 1) = false := decide_eq_false (by omega)
        go_enter Try.func26, Try.ntmps26
        go_wp2_with fail
        refine (CA'.out).mono ?_
        rintro e w1 ⟨rfl, rfl⟩
        go_wp2_with fail
        refine (CB'.out).mono ?_
        rintro e w1 ⟨rfl, rfl⟩
        go_wp2_with fail
        refine (C0.out).mono ?_
        rintro e w1 ⟨r0, rfl, k1⟩
        go_wp2_with fail
        refine (C1.out w1 k1.low).mono ?_
        rintro e w2 ⟨r1, rfl, k2⟩
        have K2 := k1.joinA k2
        clear k1 k2
        go_wp2_with fail
        refine (CP.out w2 r0 r1 (K2.poRd 1 rfl) (K2.poRd 0 rfl)).mono ?_
        rintro e w3 ⟨r3, rfl, k3⟩
        have K3 := (K2.joinA k3).sub (List.cons_sublist_cons.2 (List.nil_sublist _))
        clear k3 K2
        obtain ⟨X, xc, rfl, _⟩ := K3.poForm 0 rfl
        go_wp2_with fail
        refine (CD.out X T.length xc (by omega) _).mono ?_
        rintro e w4 ⟨rfl, rfl⟩
        have CN := hide (numbers_any _ (T) (by omega) _ (K3.poRd 0 rfl))
        go_wp2_with fail
        refine (CN.out).mono ?_
        rintro e w9 ⟨r9, rfl, k9⟩
        have K9 := (K3.joinA k9).sub (List.cons_sublist_cons.2 (List.nil_sublist _))
        have k10 : Holds w w9 [pInts r9 (T)] := K9
        have K10 := hide k10; clear k10 K9 k9
        go_wp2
        go_ret2
        exact ⟨_, rfl, K10.out.low, K10.out.own1 0 rfl⟩
      · rw [if_neg hd, if_neg hd]
        have d0 : decide ((16 : Int) < (T.length : Int) - 1) = true := decide_eq_true (by omega)
        go_enter Try.func26, Try.ntmps26
        go_wp2_with fail
        refine (CA'.out).mono ?_
        rintro e w1 ⟨rfl, rfl⟩
        go_wp2_with fail
        refine (CB'.out).mono ?_
        rintro e w1 ⟨rfl, rfl⟩
        go_wp2_with fail
        refine (C0.out).mono ?_
        rintro e w1 ⟨r0, rfl, k1⟩
        go_wp2_with fail
        refine (C1.out w1 k1.low).mono ?_
        rintro e w2 ⟨r1, rfl, k2⟩
        have K2 := k1.joinA k2
        clear k1 k2
        go_wp2_with fail
        refine (CP.out w2 r0 r1 (K2.poRd 1 rfl) (K2.poRd 0 rfl)).mono ?_
        rintro e w3 ⟨r3, rfl, k3⟩
        have K3 := (K2.joinA k3).sub (List.cons_sublist_cons.2 (List.nil_sublist _))
        clear k3 K2
        obtain ⟨X, xc, rfl, _⟩ := K3.poForm 0 rfl
        have KN := hide ((Holds.sub K3 (List.nil_sublist _)).nilRow 2 1)
        go_wp2_with fail
        refine (CD.out X T.length xc (by omega) _).mono ?_
        rintro e w4 ⟨rfl, rfl⟩
        go_wp2
        go_ret2
        exact ⟨_, rfl, KN.out.low, Holds.own1 (l := []) KN.out 0 rfl⟩
    · rw [polB_no p1] at CB
      have e1 : mulC2 l0 l1 = 1 := mulC2_bad (fun h => p1 h.2)
      have e2 : mulR2 l0 l1 = [] := mulR2_bad (fun h => p1 h.2)
      rw [e1, e2]
      clear e1 e2 p0 p1 h0 h1
      have CA' := hide CA; clear CA
      have CB' := hide CB; clear CB
      go_enter Try.func26, Try.ntmps26
      go_wp2_with fail
      refine (CA'.out).mono ?_
      rintro e w1 ⟨rfl, rfl⟩
      go_wp2_with fail
      refine (CB'.out).mono ?_
      rintro e w1 ⟨rfl, rfl⟩
      go_wp2
      go_ret2
      exact ⟨_, rfl, Below.refl _ _, HNIL.out.own1 0 rfl⟩
  · rw [polB_no p0] at CA
    have e1 : mulC2 l0 l1 = 1 := mulC2_bad (fun h => p0 h.1)
    have e2 : mulR2 l0 l1 = [] := mulR2_bad (fun h => p0 h.1)
    rw [e1, e2]
    clear e1 e2 p0 h0 h1 CB
    have CA' := hide CA; clear CA
    go_enter Try.func26, Try.ntmps26
    go_wp2_with fail
    refine (CA'.out).mono ?_
    rintro e w1 ⟨rfl, rfl⟩
    go_wp2
    go_ret2
    exact ⟨_, rfl, Below.refl _ _, HNIL.out.own1 0 rfl⟩
set_option maxRecDepth 100000 in
set_option maxHeartbeats 1000000 in
theorem sMultiplyPolynomials_any (u0 u1 : Value) (l0 l1 : List Int) (w : World) (h0 : RdZ w u0 l0) (h1 : RdZ w u1 l1) :
    Calls Try.prog 25 #[u0, u1] w fun e w' => ∃ v, e = .returned (.tuple #[v, .int .i64 (mulC2 l0 l1)]) ∧ Below w.heap.size w w' ∧ Own1 w.heap.size w' v (mulR2 l0 l1) := by
  obtain ⟨A, c, rfl, _⟩ := h0.form
  obtain ⟨B, d, rfl, _⟩ := h1.form
  have CB := sBoth6_any _ _ l0 l1 w h0 h1
  have HNIL := hide (show Holds w w [pInts (.slice none 0 0) []] from (Holds.start w).nilRow 2 1)
  by_cases p : isPol l0 ∧ isPol l1
  · obtain ⟨p0, p1⟩ := p
    rw [both6_ok ⟨p0, p1⟩] at CB
    have R0 := hide (p0.rd h0)
    have R1 := hide (p1.rd h1)
    have P0 := hide p0; have P1 := hide p1
    have f0 := p0.2.2.1
    have f1 := p1.2.2.1
    have hlen := timesL_len (tn l0) (tn l1)
    rw [mulC2_ok ⟨p0, p1⟩, mulR2_ok ⟨p0, p1⟩]
    clear p0 p1 h0 h1
    have CB' := hide CB; clear CB
    have CS := hide (sTimes6_any _ _ (tn l0) (tn l1) P0.out.2.1 P0.out.2.2.2 P1.out.2.1 P1.out.2.2.2 (by omega) (by omega) w R0.out R1.out)
    obtain ⟨T, hT⟩ : ∃ T, T = timesL (tn l0) (tn l1) := ⟨_, rfl⟩
    rw [← hT] at CS hlen ⊢
    have HT := hide hT; clear hT
    by_cases hd : T.length ≤ 17
    · rw [if_pos hd, if_pos hd]
      have d0 : decide ((17 : Int) < (T.length : Int)) = false := decide_eq_false (by omega)
      go_enter Try.func25, Try.ntmps25
      go_wp2_with fail
      refine (CB'.out).mono ?_
      rintro e w1 ⟨rfl, rfl⟩
      go_wp2_with fail
      refine (CS.out).mono ?_
      rintro e w1 ⟨r1, rfl, k1⟩
      obtain ⟨X, xc, rfl⟩ := k1.intsForm 0 rfl
      go_wp2
      go_ret2
      exact ⟨_, rfl, k1.low, k1.own1 0 rfl⟩
    · rw [if_neg hd, if_neg hd]
      have d0 : decide ((17 : Int) < (T.length : Int)) = true := decide_eq_true (by omega)
      go_enter Try.func25, Try.ntmps25
      go_wp2_with fail
      refine (CB'.out).mono ?_
      rintro e w1 ⟨rfl, rfl⟩
      go_wp2_with fail
      refine (CS.out).mono ?_
      rintro e w1 ⟨r1, rfl, k1⟩
      obtain ⟨X, xc, rfl⟩ := k1.intsForm 0 rfl
      have KN := hide ((Holds.sub k1 (List.nil_sublist _)).nilRow 2 1)
      clear k1
      go_wp2
      go_ret2
      exact ⟨_, rfl, KN.out.low, Holds.own1 (l := []) KN.out 0 rfl⟩
  · rw [both6_bad p] at CB
    have e1 : mulC2 l0 l1 = 1 := mulC2_bad p
    have e2 : mulR2 l0 l1 = [] := mulR2_bad p
    rw [e1, e2]
    clear e1 e2 p h0 h1
    have CB' := hide CB; clear CB
    go_enter Try.func25, Try.ntmps25
    go_wp2_with fail
    refine (CB'.out).mono ?_
    rintro e w1 ⟨rfl, rfl⟩
    go_wp2
    go_ret2
    exact ⟨_, rfl, Below.refl _ _, HNIL.out.own1 0 rfl⟩
end Go.Proofs.Ytijgcjpngpifnaa
