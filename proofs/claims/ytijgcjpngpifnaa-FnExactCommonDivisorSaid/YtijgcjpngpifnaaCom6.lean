/- Common divisors. -/
import Derived.Test.YtijgcjpngpifnaaBoth6
import Derived.Test.YtijgcjpngpifnaaMd
namespace Go.Proofs.Ytijgcjpngpifnaa
open Go.RowKit

noncomputable def comR2 (a b : List Int) : List Nat := @ite _ (isPol a ∧ isPol b) (Classical.propDecidable _) (if a.length = 0 ∧ b.length = 0 then [] else comL (tn a) (tn b)) []
theorem comR2_ok {a b : List Int} (h : isPol a ∧ isPol b) : comR2 a b = if a.length = 0 ∧ b.length = 0 then [] else comL (tn a) (tn b) := @if_pos _ (Classical.propDecidable _) h _ _ _
theorem comR2_bad {a b : List Int} (h : ¬ (isPol a ∧ isPol b)) : comR2 a b = [] := @if_neg _ (Classical.propDecidable _) h _ _ _
theorem comR2_bd (a b : List Int) : (comR2 a b).length ≤ 1000000 := by
  by_cases h : isPol a ∧ isPol b
  · rw [comR2_ok h]
    have f0 := h.1.2.2.1
    have f1 := h.2.2.2.1
    split
    · decide
    · rename_i hne
      have l0 := tn_length a
      have l1 := tn_length b
      have := com_all h.1.2.1 h.1.2.2.2 h.2.2.1 h.2.2.2.2 (by
        rcases Nat.eq_zero_or_pos a.length with c | c
        · exact .inr (List.length_pos_iff.1 (by omega))
        · exact .inl (List.length_pos_iff.1 (by omega)))
      have h2 := (gcd_all _ (tn a) (tn b) (Nat.le_refl _) h.1.2.1 h.1.2.2.2 h.2.2.1 h.2.2.2.2).2.2.2.1
      have h3 := this.2.2.2.1
      omega
  · rw [comR2_bad h]; decide
noncomputable def comC2 (a b : List Int) : Int := @ite _ (isPol a ∧ isPol b) (Classical.propDecidable _) (if a.length = 0 ∧ b.length = 0 then 5 else 0) 1
theorem comC2_ok {a b : List Int} (h : isPol a ∧ isPol b) : comC2 a b = if a.length = 0 ∧ b.length = 0 then 5 else 0 := @if_pos _ (Classical.propDecidable _) h _ _ _
theorem comC2_bad {a b : List Int} (h : ¬ (isPol a ∧ isPol b)) : comC2 a b = 1 := @if_neg _ (Classical.propDecidable _) h _ _ _
set_option maxRecDepth 100000 in
set_option maxHeartbeats 1000000 in
theorem commonDivisor_any (u0 u1 : Value) (l0 l1 : List Int) (w : World) (h0 : RdZ w u0 l0) (h1 : RdZ w u1 l1) :
    Calls Try.prog 38 #[u0, u1] w fun e w' => ∃ v, e = .returned (.tuple #[v, .int .i64 (comC2 l0 l1)]) ∧ Below w.heap.size w w' ∧ Own1 w.heap.size w' v (comR2 l0 l1) := by
  obtain ⟨A, c, rfl, _⟩ := h0.form
  obtain ⟨B, d, rfl, _⟩ := h1.form
  have CA := isPolynomial_any _ l0 w h0
  have CB := isPolynomial_any _ l1 w h1
  have HNIL := hide (show Holds w w [pInts (.slice none 0 0) []] from (Holds.start w).nilRow 2 1)
  by_cases p0 : isPol l0
  · rw [polB_yes p0] at CA
    by_cases p1 : isPol l1
    · rw [polB_yes p1] at CB
      have R0 := hide (p0.rd h0)
      have R1 := hide (p1.rd h1)
      have P0 := hide p0; have P1 := hide p1
      have f0 := p0.2.2.1
      have f1 := p1.2.2.1
      rw [comC2_ok ⟨p0, p1⟩, comR2_ok ⟨p0, p1⟩]
      have n0 := tn_length l0
      have n1 := tn_length l1
      clear p0 p1 h0 h1
      have CA' := hide CA; clear CA
      have CB' := hide CB; clear CB
      have HNE := hide (fun (h : 0 < l0.length ∨ 0 < l1.length) => (show tn l0 ≠ [] ∨ tn l1 ≠ [] from h.elim (fun c => .inl (List.length_pos_iff.1 (by omega))) (fun c => .inr (List.length_pos_iff.1 (by omega)))))
      have N01 := hide (And.intro n0 n1); clear n0 n1
      have C0 := hide (polynomialOf_any _ (tn l0) (by omega) w R0.out)
      have C1 := hide (fun w1 (hb : Below w.heap.size w w1) => polynomialOf_any _ (tn l1) (by omega) w1 (R1.out.below hb (Nat.le_refl _)))
      by_cases z0 : l0.length = 0
      · have d0 : ((l0.length : Int) == 0) = true := by rw [z0]; rfl
        by_cases z1 : l1.length = 0
        · have d1 : ((l1.length : Int) == 0) = true := by rw [z1]; rfl
          rw [if_pos ⟨z0, z1⟩, if_pos ⟨z0, z1⟩]
          clear z0 z1
          go_enter Try.func38, Try.ntmps38
          go_wp2_with fail
          refine (CA'.out).mono ?_
          rintro e w1 ⟨rfl, rfl⟩
          go_wp2_with fail
          refine (CB'.out).mono ?_
          rintro e w1 ⟨rfl, rfl⟩
          go_wp2
          go_ret2
          exact ⟨_, rfl, Below.refl _ _, HNIL.out.own1 0 rfl⟩
        · have d1 : ((l1.length : Int) == 0) = false := by simp; exact fun e => z1 (by rw [e]; rfl)
          rw [if_neg (fun h => z1 h.2), if_neg (fun h => z1 h.2)]
          have hne := HNE.out (.inr (by omega))
          clear z0 z1
          have hgl : (comL (tn l0) (tn l1)).length ≤ 1000 := by
            have hall := com_all P0.out.2.1 P0.out.2.2.2 P1.out.2.1 P1.out.2.2.2 hne
            have h2 := (gcd_all _ (tn l0) (tn l1) (Nat.le_refl _) P0.out.2.1 P0.out.2.2.2 P1.out.2.1 P1.out.2.2.2).2.2.2.1
            have h3 := hall.2.2.2.1
            omega
          have HGL := hide hgl; clear hgl
          have CP := hide (fun w2 (r0 r1 : Value) (h0 : RdN w2 r0 (tn l0)) (h1 : RdN w2 r1 (tn l1)) => commonDivisor6_any r0 r1 (tn l0) (tn l1) P0.out.2.1 P0.out.2.2.2 P1.out.2.1 P1.out.2.2.2 hne (by omega) (by omega) w2 h0 h1)
          clear hne
          go_enter Try.func38, Try.ntmps38
          go_wp2_with fail
          refine (CA'.out).mono ?_
          rintro e w1 ⟨rfl, rfl⟩
          go_wp2_with fail
          refine (CB'.out).mono ?_
          rintro e w1 ⟨rfl, rfl⟩
          go_wp2_with fail
          refine (C0.out).mono ?_
          rintro e w1 ⟨r0, rfl, k1⟩
          go_wp2_with fail
          refine (C1.out w1 k1.low).mono ?_
          rintro e w2 ⟨r1, rfl, k2⟩
          have K2 := k1.joinA k2
          clear k1 k2
          go_wp2_with fail
          refine (CP.out w2 r0 r1 (K2.poRd 1 rfl) (K2.poRd 0 rfl)).mono ?_
          rintro e w3 ⟨r3, rfl, k3⟩
          have K3 := (K2.joinA k3).sub (List.cons_sublist_cons.2 (List.nil_sublist _))
          clear k3 K2
          have CN := hide (numbers_any _ (comL (tn l0) (tn l1)) (by have := HGL.out; omega) _ (K3.poRd 0 rfl))
          go_wp2_with fail
          refine (CN.out).mono ?_
          rintro e w9 ⟨r9, rfl, k9⟩
          have K9 := (K3.joinA k9).sub (List.cons_sublist_cons.2 (List.nil_sublist _))
          have k10 : Holds w w9 [pInts r9 (comL (tn l0) (tn l1))] := K9
          have K10 := hide k10; clear k10 K9 k9
          go_wp2
          go_ret2
          exact ⟨_, rfl, K10.out.low, K10.out.own1 0 rfl⟩
      · have d0 : ((l0.length : Int) == 0) = false := by simp; exact fun e => z0 (by rw [e]; rfl)
        rw [if_neg (fun h => z0 h.1), if_neg (fun h => z0 h.1)]
        have hne := HNE.out (.inl (by omega))
        clear z0
        have hgl : (comL (tn l0) (tn l1)).length ≤ 1000 := by
          have hall := com_all P0.out.2.1 P0.out.2.2.2 P1.out.2.1 P1.out.2.2.2 hne
          have h2 := (gcd_all _ (tn l0) (tn l1) (Nat.le_refl _) P0.out.2.1 P0.out.2.2.2 P1.out.2.1 P1.out.2.2.2).2.2.2.1
          have h3 := hall.2.2.2.1
          omega
        have HGL := hide hgl; clear hgl
        have CP := hide (fun w2 (r0 r1 : Value) (h0 : RdN w2 r0 (tn l0)) (h1 : RdN w2 r1 (tn l1)) => commonDivisor6_any r0 r1 (tn l0) (tn l1) P0.out.2.1 P0.out.2.2.2 P1.out.2.1 P1.out.2.2.2 hne (by omega) (by omega) w2 h0 h1)
        clear hne
        go_enter Try.func38, Try.ntmps38
        go_wp2_with fail
        refine (CA'.out).mono ?_
        rintro e w1 ⟨rfl, rfl⟩
        go_wp2_with fail
        refine (CB'.out).mono ?_
        rintro e w1 ⟨rfl, rfl⟩
        go_wp2_with fail
        refine (C0.out).mono ?_
        rintro e w1 ⟨r0, rfl, k1⟩
        go_wp2_with fail
        refine (C1.out w1 k1.low).mono ?_
        rintro e w2 ⟨r1, rfl, k2⟩
        have K2 := k1.joinA k2
        clear k1 k2
        go_wp2_with fail
        refine (CP.out w2 r0 r1 (K2.poRd 1 rfl) (K2.poRd 0 rfl)).mono ?_
        rintro e w3 ⟨r3, rfl, k3⟩
        have K3 := (K2.joinA k3).sub (List.cons_sublist_cons.2 (List.nil_sublist _))
        clear k3 K2
        have CN := hide (numbers_any _ (comL (tn l0) (tn l1)) (by have := HGL.out; omega) _ (K3.poRd 0 rfl))
        go_wp2_with fail
        refine (CN.out).mono ?_
        rintro e w9 ⟨r9, rfl, k9⟩
        have K9 := (K3.joinA k9).sub (List.cons_sublist_cons.2 (List.nil_sublist _))
        have k10 : Holds w w9 [pInts r9 (comL (tn l0) (tn l1))] := K9
        have K10 := hide k10; clear k10 K9 k9
        go_wp2
        go_ret2
        exact ⟨_, rfl, K10.out.low, K10.out.own1 0 rfl⟩
    · rw [polB_no p1] at CB
      have e1 : comC2 l0 l1 = 1 := comC2_bad (fun h => p1 h.2)
      have e2 : comR2 l0 l1 = [] := comR2_bad (fun h => p1 h.2)
      rw [e1, e2]
      clear e1 e2 p0 p1 h0 h1
      have CA' := hide CA; clear CA
      have CB' := hide CB; clear CB
      go_enter Try.func38, Try.ntmps38
      go_wp2_with fail
      refine (CA'.out).mono ?_
      rintro e w1 ⟨rfl, rfl⟩
      go_wp2_with fail
      refine (CB'.out).mono ?_
      rintro e w1 ⟨rfl, rfl⟩
      go_wp2
      go_ret2
      exact ⟨_, rfl, Below.refl _ _, HNIL.out.own1 0 rfl⟩
  · rw [polB_no p0] at CA
    have e1 : comC2 l0 l1 = 1 := comC2_bad (fun h => p0 h.1)
    have e2 : comR2 l0 l1 = [] := comR2_bad (fun h => p0 h.1)
    rw [e1, e2]
    clear e1 e2 p0 h0 h1 CB
    have CA' := hide CA; clear CA
    go_enter Try.func38, Try.ntmps38
    go_wp2_with fail
    refine (CA'.out).mono ?_
    rintro e w1 ⟨rfl, rfl⟩
    go_wp2
    go_ret2
    exact ⟨_, rfl, Below.refl _ _, HNIL.out.own1 0 rfl⟩
set_option maxRecDepth 100000 in
set_option maxHeartbeats 1000000 in
theorem sCommonDivisor_any (u0 u1 : Value) (l0 l1 : List Int) (w : World) (h0 : RdZ w u0 l0) (h1 : RdZ w u1 l1) :
    Calls Try.prog 37 #[u0, u1] w fun e w' => ∃ v, e = .returned (.tuple #[v, .int .i64 (comC2 l0 l1)]) ∧ Below w.heap.size w w' ∧ Own1 w.heap.size w' v (comR2 l0 l1) := by
  obtain ⟨A, c, rfl, _⟩ := h0.form
  obtain ⟨B, d, rfl, _⟩ := h1.form
  have CB := sBoth6_any _ _ l0 l1 w h0 h1
  have HNIL := hide (show Holds w w [pInts (.slice none 0 0) []] from (Holds.start w).nilRow 2 1)
  by_cases p : isPol l0 ∧ isPol l1
  · obtain ⟨p0, p1⟩ := p
    rw [both6_ok ⟨p0, p1⟩] at CB
    have R0 := hide (p0.rd h0)
    have R1 := hide (p1.rd h1)
    have P0 := hide p0; have P1 := hide p1
    have f0 := p0.2.2.1
    have f1 := p1.2.2.1
    rw [comC2_ok ⟨p0, p1⟩, comR2_ok ⟨p0, p1⟩]
    have n0 := tn_length l0
    have n1 := tn_length l1
    clear p0 p1 h0 h1
    have CB' := hide CB; clear CB
    have HNE := hide (fun (h : 0 < l0.length ∨ 0 < l1.length) => (show tn l0 ≠ [] ∨ tn l1 ≠ [] from h.elim (fun c => .inl (List.length_pos_iff.1 (by omega))) (fun c => .inr (List.length_pos_iff.1 (by omega)))))
    have N01 := hide (And.intro n0 n1); clear n0 n1
    by_cases z0 : l0.length = 0
    · have d0 : ((l0.length : Int) == 0) = true := by rw [z0]; rfl
      by_cases z1 : l1.length = 0
      · have d1 : ((l1.length : Int) == 0) = true := by rw [z1]; rfl
        rw [if_pos ⟨z0, z1⟩, if_pos ⟨z0, z1⟩]
        clear z0 z1
        go_enter Try.func37, Try.ntmps37
        go_wp2_with fail
        refine (CB'.out).mono ?_
        rintro e w1 ⟨rfl, rfl⟩
        go_wp2
        go_ret2
        exact ⟨_, rfl, Below.refl _ _, HNIL.out.own1 0 rfl⟩
      · have d1 : ((l1.length : Int) == 0) = false := by simp; exact fun e => z1 (by rw [e]; rfl)
        rw [if_neg (fun h => z1 h.2), if_neg (fun h => z1 h.2)]
        have hne := HNE.out (.inr (by omega))
        clear z0 z1
        have CS := hide (sCommon6_any _ _ (tn l0) (tn l1) P0.out.2.1 P0.out.2.2.2 P1.out.2.1 P1.out.2.2.2 hne (by omega) (by omega) w R0.out R1.out)
        clear hne
        go_enter Try.func37, Try.ntmps37
        go_wp2_with fail
        refine (CB'.out).mono ?_
        rintro e w1 ⟨rfl, rfl⟩
        go_wp2_with fail
        refine (CS.out).mono ?_
        rintro e w1 ⟨r1, rfl, k1⟩
        go_wp2
        go_ret2
        exact ⟨_, rfl, k1.low, k1.own1 0 rfl⟩
    · have d0 : ((l0.length : Int) == 0) = false := by simp; exact fun e => z0 (by rw [e]; rfl)
      rw [if_neg (fun h => z0 h.1), if_neg (fun h => z0 h.1)]
      have hne := HNE.out (.inl (by omega))
      clear z0
      have CS := hide (sCommon6_any _ _ (tn l0) (tn l1) P0.out.2.1 P0.out.2.2.2 P1.out.2.1 P1.out.2.2.2 hne (by omega) (by omega) w R0.out R1.out)
      clear hne
      go_enter Try.func37, Try.ntmps37
      go_wp2_with fail
      refine (CB'.out).mono ?_
      rintro e w1 ⟨rfl, rfl⟩
      go_wp2_with fail
      refine (CS.out).mono ?_
      rintro e w1 ⟨r1, rfl, k1⟩
      go_wp2
      go_ret2
      exact ⟨_, rfl, k1.low, k1.own1 0 rfl⟩
  · rw [both6_bad p] at CB
    have e1 : comC2 l0 l1 = 1 := comC2_bad p
    have e2 : comR2 l0 l1 = [] := comR2_bad p
    rw [e1, e2]
    clear e1 e2 p h0 h1
    have CB' := hide CB; clear CB
    go_enter Try.func37, Try.ntmps37
    go_wp2_with fail
    refine (CB'.out).mono ?_
    rintro e w1 ⟨rfl, rfl⟩
    go_wp2
    go_ret2
    exact ⟨_, rfl, Below.refl _ _, HNIL.out.own1 0 rfl⟩
end Go.Proofs.Ytijgcjpngpifnaa
