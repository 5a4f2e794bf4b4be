/- ValueOf. -/
import Derived.Test.YtijgcjpngpifnaaVal6
import Derived.Test.YtijgcjpngpifnaaBoth6
namespace Go.Proofs.Ytijgcjpngpifnaa
open Go.RowKit

set_option maxRecDepth 100000 in
set_option maxHeartbeats 1000000 in
theorem sVal6_any (u : Value) (l : List Nat) (pl : Po l) (hl : l.length ≤ 1000) (x : Nat) (hx : x < 10007) (w : World) (hu : RdN w u l) :
    Calls Try.prog 46 #[u, .int .i64 (x : Nat)] w fun e w' => e = .returned (.int .i64 (valL l x : Nat)) ∧ w = w' := by
  obtain ⟨A, c, rfl, _⟩ := hu.form
  have HU := hide hu; clear hu
  have PL := hide pl; clear pl
  have CM := hide sMod_any
  have MB := hide mul_bds
  have HL := hide (hornL_lt l x)
  obtain ⟨r, hr⟩ : ∃ r, r = valL l x := ⟨_, rfl⟩
  rw [← hr]
  have HR := hide hr; clear hr
  go_enter Try.func46, Try.ntmps46
  go_wp2
  go_loopw [5, 6] (fun s t wr => ∃ k : Nat, k ≤ l.length ∧ t = .int .i64 ((l.length : Int) - 1 - (k : Int)) ∧ s = .int .i64 (hornL l x k : Nat) ∧ w = wr) (fun _ t _ => (intOf t + 1).toNat)
  case atStart => exact ⟨0, Nat.zero_le _, by simp, rfl, rfl⟩
  case round =>
    obtain ⟨k, hk, rfl, rfl, rfl⟩ := hrel
    by_cases hlt : k < l.length
    · obtain ⟨q, hq⟩ : ∃ q : Nat, q = l.length - 1 - k := ⟨_, rfl⟩
      have hqi : (l.length : Int) - 1 - (k : Int) = (q : Int) := by omega
      have hql : q < l.length := by omega
      obtain ⟨a, rfl, _, c1⟩ := HU.out.at hql
      have hv := HL.out k
      have hy := PL.out.nth q
      have hst : hornL l x (k + 1) = (hornL l x k * x + nth l q) % 10007 := by rw [hq]; rfl
      have HST := hide hst; clear hst
      have HQ := hide hq; clear hq
      obtain ⟨v0, hv0⟩ : ∃ v0, v0 = hornL l x k := ⟨_, rfl⟩
      rw [← hv0] at hv HST ⊢
      clear hv0
      generalize nth l q = y at *
      obtain ⟨b1, b2⟩ := MB.out v0 x hv hx
      have hmod := CM.out ((v0 : Int) * (x : Int) + (y : Int)) (by omega)
      have e : mdZ ((v0 : Int) * (x : Int) + (y : Int)) = hornL l x (k + 1) := by rw [HST.out, ← Int.natCast_mul, ← Int.natCast_add, mdZ_nat]
      rw [e] at hmod
      replace hmod := hide hmod
      clear e
      obtain ⟨v1, hv1⟩ : ∃ v1, v1 = hornL l x (k + 1) := ⟨_, rfl⟩
      rw [← hv1] at hmod
      have HV1 := hide hv1; clear hv1
      rw [hqi]
      go_wp2_with fail
      refine (hmod.out _).mono ?_
      rintro e w1 ⟨rfl, rfl⟩
      go_wp2
      go_roundw
      case rel => exact ⟨k + 1, by omega, by go_num, by rw [HV1.out], by trivial⟩
      case measure => simp [intOf]
    · obtain rfl : k = l.length := by omega
      have e1 : (l.length : Int) - 1 - (l.length : Int) = -1 := by omega
      have e2 : hornL l x l.length = r := HR.out.symm
      rw [e1]
      rw [e2]
      clear e1 e2
      go_wp2
      go_ret
      exact ⟨rfl, rfl⟩
noncomputable def valR (l : List Int) (x : Int) : Value := @ite _ (isPol l) (Classical.propDecidable _) (if 0 ≤ x ∧ x < 10007 then .tuple #[.int .i64 (valL (tn l) x.toNat : Nat), .int .i64 0] else .tuple #[.int .i64 0, .int .i64 2]) (.tuple #[.int .i64 0, .int .i64 1])
theorem valR_pol {l : List Int} {x : Int} (h : ¬ isPol l) : valR l x = .tuple #[.int .i64 0, .int .i64 1] := @if_neg _ (Classical.propDecidable _) h _ _ _
theorem valR_bad {l : List Int} {x : Int} (h : isPol l) (k : ¬ (0 ≤ x ∧ x < 10007)) : valR l x = .tuple #[.int .i64 0, .int .i64 2] := (@if_pos _ (Classical.propDecidable _) h _ _ _).trans (if_neg k)
theorem valR_ok {l : List Int} {x : Int} (h : isPol l) (k : 0 ≤ x ∧ x < 10007) : valR l x = .tuple #[.int .i64 (valL (tn l) x.toNat : Nat), .int .i64 0] := (@if_pos _ (Classical.propDecidable _) h _ _ _).trans (if_pos k)
theorem valR_eq (l : List Int) (x : Int) : ∃ a c, valR l x = .tuple #[.int .i64 a, .int .i64 c] := by
  by_cases h : isPol l
  · by_cases k : 0 ≤ x ∧ x < 10007
    · exact ⟨_, _, valR_ok h k⟩
    · exact ⟨_, _, valR_bad h k⟩
  · exact ⟨_, _, valR_pol h⟩
set_option maxRecDepth 100000 in
set_option maxHeartbeats 1000000 in
theorem valueOf_any (u0 : Value) (l0 : List Int) (x0 : Int) (_hx0 : -9223372036854775808 ≤ x0 ∧ x0 ≤ 9223372036854775807) (w : World) (h0 : RdZ w u0 l0) :
    Calls Try.prog 20 #[u0, .int .i64 x0] w fun e w' => e = .returned (valR l0 x0) ∧ Below w.heap.size w w' := by
  clear _hx0
  obtain ⟨A, c, rfl, _⟩ := h0.form
  have CA := isPolynomial_any _ l0 w h0
  have CR := fun w => isResidue_any x0 w
  skip
  by_cases p : isPol l0
  · rw [polB_yes p] at CA
    by_cases hx : 0 ≤ x0 ∧ x0 < 10007
    · simp only [decide_eq_true hx] at CR
      rw [valR_ok p hx]
      obtain ⟨x, rfl⟩ := Int.eq_ofNat_of_zero_le hx.1
      rw [Int.toNat_natCast]
      have hxx : x < 10007 := by omega
      have R0 := hide (p.rd h0)
      have P0 := hide p
      have f0 := p.2.2.1
      have C0 := hide (polynomialOf_any _ (tn l0) (by omega) w R0.out)
      have C1 := hide fun (r : Value) (w1 : World) (h : RdN w1 r (tn l0)) => at6_any r (tn l0) P0.out.2.1 (by omega) x hxx w1 h
      clear p h0 hx
      have CA' := hide CA; clear CA
      have CR' := hide CR; clear CR
      go_enter Try.func20, Try.ntmps20
      go_wp2_with fail
      refine (CA'.out).mono ?_
      rintro e w1 ⟨rfl, rfl⟩
      go_wp2_with fail
      refine (CR'.out _).mono ?_
      rintro e w1 ⟨rfl, rfl⟩
      go_wp2_with fail
      refine (C0.out).mono ?_
      rintro e w2 ⟨r0, rfl, k1⟩
      go_wp2_with fail
      refine (C1.out r0 w2 (k1.poRd 0 rfl)).mono ?_
      rintro e w3 ⟨rfl, hb⟩
      have hb2 := hide (k1.call hb).low
      clear hb k1
      go_wp2
      go_ret2
      exact ⟨rfl, hb2.out⟩
    · simp only [decide_eq_false hx] at CR
      rw [valR_bad p hx]
      clear p h0 hx
      have CA' := hide CA; clear CA
      have CR' := hide CR; clear CR
      go_enter Try.func20, Try.ntmps20
      go_wp2_with fail
      refine (CA'.out).mono ?_
      rintro e w1 ⟨rfl, rfl⟩
      go_wp2_with fail
      refine (CR'.out _).mono ?_
      rintro e w1 ⟨rfl, rfl⟩
      go_wp2
      go_ret2
      exact ⟨rfl, Below.refl _ _⟩
  · rw [polB_no p] at CA
    rw [valR_pol p]
    clear p h0 CR
    have CA' := hide CA; clear CA
    go_enter Try.func20, Try.ntmps20
    go_wp2_with fail
    refine (CA'.out).mono ?_
    rintro e w1 ⟨rfl, rfl⟩
    go_wp2
    go_ret2
    exact ⟨rfl, Below.refl _ _⟩
set_option maxRecDepth 100000 in
set_option maxHeartbeats 1000000 in
theorem sValueOf_any (u0 : Value) (l0 : List Int) (x0 : Int) (_hx0 : -9223372036854775808 ≤ x0 ∧ x0 ≤ 9223372036854775807) (w : World) (h0 : RdZ w u0 l0) :
    Calls Try.prog 19 #[u0, .int .i64 x0] w fun e w' => e = .returned (valR l0 x0) ∧ Below w.heap.size w w' := by
  clear _hx0
  obtain ⟨A, c, rfl, _⟩ := h0.form
  have CA := s06Is_any _ l0 w h0
  have CR := fun w => in_any x0 0 10006 w
  simp only [show (0 ≤ x0 ∧ x0 ≤ 10006) = (0 ≤ x0 ∧ x0 < 10007) from propext ⟨fun h => ⟨h.1, by omega⟩, fun h => ⟨h.1, by omega⟩⟩] at CR
  by_cases p : isPol l0
  · rw [polB_yes p] at CA
    by_cases hx : 0 ≤ x0 ∧ x0 < 10007
    · simp only [decide_eq_true hx] at CR
      rw [valR_ok p hx]
      obtain ⟨x, rfl⟩ := Int.eq_ofNat_of_zero_le hx.1
      rw [Int.toNat_natCast]
      have hxx : x < 10007 := by omega
      have R0 := hide (p.rd h0)
      have P0 := hide p
      have f0 := p.2.2.1
      have C1 := hide (sVal6_any _ (tn l0) P0.out.2.1 (by omega) x hxx w R0.out)
      clear p h0 hx
      have CA' := hide CA; clear CA
      have CR' := hide CR; clear CR
      go_enter Try.func19, Try.ntmps19
      go_wp2_with fail
      refine (CA'.out).mono ?_
      rintro e w1 ⟨rfl, rfl⟩
      go_wp2_with fail
      refine (CR'.out _).mono ?_
      rintro e w1 ⟨rfl, rfl⟩
      go_wp2_with fail
      refine (C1.out).mono ?_
      rintro e w3 ⟨rfl, rfl⟩
      go_wp2
      go_ret2
      exact ⟨rfl, Below.refl _ _⟩
    · simp only [decide_eq_false hx] at CR
      rw [valR_bad p hx]
      clear p h0 hx
      have CA' := hide CA; clear CA
      have CR' := hide CR; clear CR
      go_enter Try.func19, Try.ntmps19
      go_wp2_with fail
      refine (CA'.out).mono ?_
      rintro e w1 ⟨rfl, rfl⟩
      go_wp2_with fail
      refine (CR'.out _).mono ?_
      rintro e w1 ⟨rfl, rfl⟩
      go_wp2
      go_ret2
      exact ⟨rfl, Below.refl _ _⟩
  · rw [polB_no p] at CA
    rw [valR_pol p]
    clear p h0 CR
    have CA' := hide CA; clear CA
    go_enter Try.func19, Try.ntmps19
    go_wp2_with fail
    refine (CA'.out).mono ?_
    rintro e w1 ⟨rfl, rfl⟩
    go_wp2
    go_ret2
    exact ⟨rfl, Below.refl _ _⟩
end Go.Proofs.Ytijgcjpngpifnaa
