/- ComposePolynomials. -/
import Derived.Test.YtijgcjpngpifnaaCmp6
namespace Go.Proofs.Ytijgcjpngpifnaa
open Go.RowKit

noncomputable def cmpR2 (a b : List Int) : List Nat := @ite _ (isPol a ∧ isPol b) (Classical.propDecidable _) (if 16 < ((tn a).length - 1) * ((tn b).length - 1) then [] else cmpT (tn a) (tn b) (tn a).length) []
theorem cmpR2_ok {a b : List Int} (h : isPol a ∧ isPol b) : cmpR2 a b = if 16 < ((tn a).length - 1) * ((tn b).length - 1) then [] else cmpT (tn a) (tn b) (tn a).length := @if_pos _ (Classical.propDecidable _) h _ _ _
theorem cmpR2_bad {a b : List Int} (h : ¬ (isPol a ∧ isPol b)) : cmpR2 a b = [] := @if_neg _ (Classical.propDecidable _) h _ _ _
theorem cmpR2_bd (a b : List Int) : (cmpR2 a b).length ≤ 1000000 := by
  by_cases h : isPol a ∧ isPol b
  · rw [cmpR2_ok h]
    have f0 := h.1.2.2.1
    have f1 := h.2.2.2.1
    split
    · decide
    · have := (cmpT_ok (f := tn a) (g := tn b) f1 (tn a).length).2.2
      omega
  · rw [cmpR2_bad h]; decide
noncomputable def cmpC2 (a b : List Int) : Int := @ite _ (isPol a ∧ isPol b) (Classical.propDecidable _) (if 16 < ((tn a).length - 1) * ((tn b).length - 1) then 3 else 0) 1
theorem cmpC2_ok {a b : List Int} (h : isPol a ∧ isPol b) : cmpC2 a b = if 16 < ((tn a).length - 1) * ((tn b).length - 1) then 3 else 0 := @if_pos _ (Classical.propDecidable _) h _ _ _
theorem cmpC2_bad {a b : List Int} (h : ¬ (isPol a ∧ isPol b)) : cmpC2 a b = 1 := @if_neg _ (Classical.propDecidable _) h _ _ _
theorem prodI (a b : Nat) (ha : a ≤ 17) (hb : b ≤ 17) : ∃ z : Int, ((a : Int) - 1) * ((b : Int) - 1) = z ∧ -17 ≤ z ∧ z ≤ 256 ∧ (16 < z ↔ 16 < (a - 1) * (b - 1)) := by
  refine ⟨_, rfl, ?_⟩
  cases a with
  | zero => simp; omega
  | succ a =>
    have e1 : ((a + 1 : Nat) : Int) - 1 = (a : Int) := by omega
    rw [e1]
    cases b with
    | zero => simp; omega
    | succ b =>
      have e2 : ((b + 1 : Nat) : Int) - 1 = (b : Int) := by omega
      have h1 := Nat.mul_le_mul (show a ≤ 16 by omega) (show b ≤ 16 by omega)
      rw [e2, ← Int.natCast_mul, Nat.add_sub_cancel, Nat.add_sub_cancel]
      omega
set_option maxRecDepth 100000 in
set_option maxHeartbeats 1000000 in
theorem composePolynomials_any (u0 u1 : Value) (l0 l1 : List Int) (w : World) (h0 : RdZ w u0 l0) (h1 : RdZ w u1 l1) :
    Calls Try.prog 28 #[u0, u1] w fun e w' => ∃ v, e = .returned (.tuple #[v, .int .i64 (cmpC2 l0 l1)]) ∧ Below w.heap.size w w' ∧ Own1 w.heap.size w' v (cmpR2 l0 l1) := by
  obtain ⟨A, c, rfl, _⟩ := h0.form
  obtain ⟨B, d, rfl, _⟩ := h1.form
  have CA := isPolynomial_any _ l0 w h0
  have CB := isPolynomial_any _ l1 w h1
  have HNIL := hide (show Holds w w [pInts (.slice none 0 0) []] from (Holds.start w).nilRow 2 1)
  by_cases p0 : isPol l0
  · rw [polB_yes p0] at CA
    by_cases p1 : isPol l1
    · rw [polB_yes p1] at CB
      have R0 := hide (p0.rd h0)
      have R1 := hide (p1.rd h1)
      have P0 := hide p0; have P1 := hide p1
      have f0 := p0.2.2.1
      have f1 := p1.2.2.1
      rw [cmpC2_ok ⟨p0, p1⟩, cmpR2_ok ⟨p0, p1⟩]
      clear p0 p1 h0 h1
      have CA' := hide CA; clear CA
      have CB' := hide CB; clear CB
      obtain ⟨z, hz, z1, z2, z3⟩ := prodI (tn l0).length (tn l1).length f0 f1
      have hcl := (cmpT_ok (f := tn l0) (g := tn l1) f1 (tn l0).length).2.2
      have hcl2 : (cmpT (tn l0) (tn l1) (tn l0).length).length ≤ 1000 := by omega
      have C0 := hide (polynomialOf_any _ (tn l0) (by omega) w R0.out)
      have C1 := hide (fun w1 (hb : Below w.heap.size w w1) => polynomialOf_any _ (tn l1) (by omega) w1 (R1.out.below hb (Nat.le_refl _)))
      have CF := hide fun (r0 r1 : Value) (w2 : World) (h0 : RdN w2 r0 (tn l0)) (h1 : RdN w2 r1 (tn l1)) => after6_any r0 r1 (tn l0) (tn l1) P0.out.2.1 f0 P1.out.2.1 f1 (fun q hq => by have := cmp_fold (tn l1) f1 q []; unfold cvP; simp only [List.length_nil] at this; omega) w2 h0 h1
      have CD := hide degree6_any
      by_cases hb : 16 < ((tn l0).length - 1) * ((tn l1).length - 1)
      · rw [if_pos hb, if_pos hb]
        have d0 : decide ((16 : Int) < z) = true := decide_eq_true (z3.2 hb)
        clear hb z3 hcl
        go_enter Try.func28, Try.ntmps28
        go_wp2_with fail
        refine (CA'.out).mono ?_
        rintro e w1 ⟨rfl, rfl⟩
        go_wp2_with fail
        refine (CB'.out).mono ?_
        rintro e w1 ⟨rfl, rfl⟩
        go_wp2_with fail
        refine (C0.out).mono ?_
        rintro e w1 ⟨r0, rfl, k1⟩
        go_wp2_with fail
        refine (C1.out w1 k1.low).mono ?_
        rintro e w2 ⟨r1, rfl, k2⟩
        have K2 := k1.joinA k2
        clear k1 k2
        obtain ⟨X, xc, rfl, _⟩ := K2.poForm 1 rfl
        obtain ⟨Y, yc, rfl, _⟩ := K2.poForm 0 rfl
        go_wp2_with fail
        refine (CD.out X (tn l0).length xc (by omega) _).mono ?_
        rintro e w3 ⟨rfl, rfl⟩
        go_wp2_with fail
        refine (CD.out Y (tn l1).length yc (by omega) _).mono ?_
        rintro e w3 ⟨rfl, rfl⟩
        have KN := hide ((Holds.sub K2 (List.nil_sublist _)).nilRow 2 1)
        clear K2
        go_wp2
        go_ret2
        exact ⟨_, rfl, KN.out.low, Holds.own1 (l := []) KN.out 0 rfl⟩
      · rw [if_neg hb, if_neg hb]
        have d0 : decide ((16 : Int) < z) = false := decide_eq_false (fun h => hb (z3.1 h))
        clear hb z3 hcl
        go_enter Try.func28, Try.ntmps28
        go_wp2_with fail
        refine (CA'.out).mono ?_
        rintro e w1 ⟨rfl, rfl⟩
        go_wp2_with fail
        refine (CB'.out).mono ?_
        rintro e w1 ⟨rfl, rfl⟩
        go_wp2_with fail
        refine (C0.out).mono ?_
        rintro e w1 ⟨r0, rfl, k1⟩
        go_wp2_with fail
        refine (C1.out w1 k1.low).mono ?_
        rintro e w2 ⟨r1, rfl, k2⟩
        have K2 := k1.joinA k2
        clear k1 k2
        obtain ⟨X, xc, rfl, _⟩ := K2.poForm 1 rfl
        obtain ⟨Y, yc, rfl, _⟩ := K2.poForm 0 rfl
        go_wp2_with fail
        refine (CD.out X (tn l0).length xc (by omega) _).mono ?_
        rintro e w3 ⟨rfl, rfl⟩
        go_wp2_with fail
        refine (CD.out Y (tn l1).length yc (by omega) _).mono ?_
        rintro e w3 ⟨rfl, rfl⟩
        go_wp2_with fail
        refine (CF.out _ _ w2 (K2.poRd 1 rfl) (K2.poRd 0 rfl)).mono ?_
        rintro e w4 ⟨r4, rfl, hr, hb⟩
        have K3 := K2.call hb
        clear hb K2
        have CN := hide (numbers_any r4 (cmpT (tn l0) (tn l1) (tn l0).length) (by omega) _ hr)
        go_wp2_with fail
        refine (CN.out).mono ?_
        rintro e w9 ⟨r9, rfl, k9⟩
        have K9 := (K3.joinA k9).sub (List.cons_sublist_cons.2 (List.nil_sublist _))
        have k10 : Holds w w9 [pInts r9 (cmpT (tn l0) (tn l1) (tn l0).length)] := K9
        have K10 := hide k10; clear k10 K9 k9 K3 hr
        go_wp2
        go_ret2
        exact ⟨_, rfl, K10.out.low, K10.out.own1 0 rfl⟩
    · rw [polB_no p1] at CB
      have e1 : cmpC2 l0 l1 = 1 := cmpC2_bad (fun h => p1 h.2)
      have e2 : cmpR2 l0 l1 = [] := cmpR2_bad (fun h => p1 h.2)
      rw [e1, e2]
      clear e1 e2 p0 p1 h0 h1
      have CA' := hide CA; clear CA
      have CB' := hide CB; clear CB
      go_enter Try.func28, Try.ntmps28
      go_wp2_with fail
      refine (CA'.out).mono ?_
      rintro e w1 ⟨rfl, rfl⟩
      go_wp2_with fail
      refine (CB'.out).mono ?_
      rintro e w1 ⟨rfl, rfl⟩
      go_wp2
      go_ret2
      exact ⟨_, rfl, Below.refl _ _, HNIL.out.own1 0 rfl⟩
  · rw [polB_no p0] at CA
    have e1 : cmpC2 l0 l1 = 1 := cmpC2_bad (fun h => p0 h.1)
    have e2 : cmpR2 l0 l1 = [] := cmpR2_bad (fun h => p0 h.1)
    rw [e1, e2]
    clear e1 e2 p0 h0 h1 CB
    have CA' := hide CA; clear CA
    go_enter Try.func28, Try.ntmps28
    go_wp2_with fail
    refine (CA'.out).mono ?_
    rintro e w1 ⟨rfl, rfl⟩
    go_wp2
    go_ret2
    exact ⟨_, rfl, Below.refl _ _, HNIL.out.own1 0 rfl⟩
set_option maxRecDepth 100000 in
set_option maxHeartbeats 1000000 in
theorem sComposePolynomials_any (u0 u1 : Value) (l0 l1 : List Int) (w : World) (h0 : RdZ w u0 l0) (h1 : RdZ w u1 l1) :
    Calls Try.prog 27 #[u0, u1] w fun e w' => ∃ v, e = .returned (.tuple #[v, .int .i64 (cmpC2 l0 l1)]) ∧ Below w.heap.size w w' ∧ Own1 w.heap.size w' v (cmpR2 l0 l1) := by
  obtain ⟨A, c, rfl, _⟩ := h0.form
  obtain ⟨B, d, rfl, _⟩ := h1.form
  have CA := s06Is_any _ l0 w h0
  have CB := s06Is_any _ l1 w h1
  have HNIL := hide (show Holds w w [pInts (.slice none 0 0) []] from (Holds.start w).nilRow 2 1)
  by_cases p0 : isPol l0
  · rw [polB_yes p0] at CA
    by_cases p1 : isPol l1
    · rw [polB_yes p1] at CB
      have R0 := hide (p0.rd h0)
      have R1 := hide (p1.rd h1)
      have P0 := hide p0; have P1 := hide p1
      have f0 := p0.2.2.1
      have f1 := p1.2.2.1
      rw [cmpC2_ok ⟨p0, p1⟩, cmpR2_ok ⟨p0, p1⟩]
      have n0 := tn_length l0
      have n1 := tn_length l1
      obtain ⟨z, hz, z1, z2, z3⟩ := prodI (tn l0).length (tn l1).length f0 f1
      rw [n0, n1] at hz
      clear p0 p1 h0 h1
      have CA' := hide CA; clear CA
      have CB' := hide CB; clear CB
      have CS := hide (sCompose6_any _ _ (tn l0) (tn l1) P0.out.2.1 f0 P1.out.2.1 P1.out.2.2.2 f1 w R0.out R1.out)
      by_cases hb : 16 < ((tn l0).length - 1) * ((tn l1).length - 1)
      · rw [if_pos hb, if_pos hb]
        have g0 : 1 < l0.length := by
          rcases Nat.lt_or_ge 1 l0.length with c | c
          · exact c
          · rw [n0, n1, show l0.length - 1 = 0 by omega, Nat.zero_mul] at hb; omega
        have g1 : 1 < l1.length := by
          rcases Nat.lt_or_ge 1 l1.length with c | c
          · exact c
          · rw [n0, n1, show l1.length - 1 = 0 by omega, Nat.mul_zero] at hb; omega
        have d0 : decide ((1 : Int) < (l0.length : Int)) = true := decide_eq_true (by omega)
        have d1 : decide ((1 : Int) < (l1.length : Int)) = true := decide_eq_true (by omega)
        have d2 : decide ((16 : Int) < z) = true := decide_eq_true (z3.2 hb)
        have hl0 : l0.length ≤ 17 := by omega
        have hl1 : l1.length ≤ 17 := by omega
        clear hb z3 n0 n1 f0 f1
        go_enter Try.func27, Try.ntmps27
        go_wp2_with fail
        refine (CA'.out).mono ?_
        rintro e w1 ⟨rfl, rfl⟩
        go_wp2_with fail
        refine (CB'.out).mono ?_
        rintro e w1 ⟨rfl, rfl⟩
        go_wp2
        go_ret2
        exact ⟨_, rfl, Below.refl _ _, HNIL.out.own1 0 rfl⟩
      · rw [if_neg hb, if_neg hb]
        have d2 : decide ((16 : Int) < z) = false := decide_eq_false (fun h => hb (z3.1 h))
        have hl0 : l0.length ≤ 17 := by omega
        have hl1 : l1.length ≤ 17 := by omega
        clear hb z3 n0 n1 f0 f1
        by_cases g0 : 1 < l0.length
        · have d0 : decide ((1 : Int) < (l0.length : Int)) = true := decide_eq_true (by omega)
          by_cases g1 : 1 < l1.length
          · have d1 : decide ((1 : Int) < (l1.length : Int)) = true := decide_eq_true (by omega)
            go_enter Try.func27, Try.ntmps27
            go_wp2_with fail
            refine (CA'.out).mono ?_
            rintro e w1 ⟨rfl, rfl⟩
            go_wp2_with fail
            refine (CB'.out).mono ?_
            rintro e w1 ⟨rfl, rfl⟩
            go_wp2_with fail
            refine (CS.out).mono ?_
            rintro e w3 ⟨r1, rfl, k1⟩
            go_wp2
            go_ret2
            exact ⟨_, rfl, k1.low, k1.own1 0 rfl⟩
          · have d1 : decide ((1 : Int) < (l1.length : Int)) = false := decide_eq_false (by omega)
            go_enter Try.func27, Try.ntmps27
            go_wp2_with fail
            refine (CA'.out).mono ?_
            rintro e w1 ⟨rfl, rfl⟩
            go_wp2_with fail
            refine (CB'.out).mono ?_
            rintro e w1 ⟨rfl, rfl⟩
            go_wp2_with fail
            refine (CS.out).mono ?_
            rintro e w3 ⟨r1, rfl, k1⟩
            go_wp2
            go_ret2
            exact ⟨_, rfl, k1.low, k1.own1 0 rfl⟩
        · have d0 : decide ((1 : Int) < (l0.length : Int)) = false := decide_eq_false (by omega)
          go_enter Try.func27, Try.ntmps27
          go_wp2_with fail
          refine (CA'.out).mono ?_
          rintro e w1 ⟨rfl, rfl⟩
          go_wp2_with fail
          refine (CB'.out).mono ?_
          rintro e w1 ⟨rfl, rfl⟩
          go_wp2_with fail
          refine (CS.out).mono ?_
          rintro e w3 ⟨r1, rfl, k1⟩
          go_wp2
          go_ret2
          exact ⟨_, rfl, k1.low, k1.own1 0 rfl⟩
    · rw [polB_no p1] at CB
      rw [cmpC2_bad (fun h => p1 h.2), cmpR2_bad (fun h => p1 h.2)]
      clear p0 p1 h0 h1
      have CA' := hide CA; clear CA
      have CB' := hide CB; clear CB
      go_enter Try.func27, Try.ntmps27
      go_wp2_with fail
      refine (CA'.out).mono ?_
      rintro e w1 ⟨rfl, rfl⟩
      go_wp2_with fail
      refine (CB'.out).mono ?_
      rintro e w1 ⟨rfl, rfl⟩
      go_wp2
      go_ret2
      exact ⟨_, rfl, Below.refl _ _, HNIL.out.own1 0 rfl⟩
  · rw [polB_no p0] at CA
    rw [cmpC2_bad (fun h => p0 h.1), cmpR2_bad (fun h => p0 h.1)]
    clear p0 h0 h1 CB
    have CA' := hide CA; clear CA
    go_enter Try.func27, Try.ntmps27
    go_wp2_with fail
    refine (CA'.out).mono ?_
    rintro e w1 ⟨rfl, rfl⟩
    go_wp2
    go_ret2
    exact ⟨_, rfl, Below.refl _ _, HNIL.out.own1 0 rfl⟩
end Go.Proofs.Ytijgcjpngpifnaa
