/- Both are polynomials. -/
import Derived.Test.YtijgcjpngpifnaaMp
namespace Go.Proofs.Ytijgcjpngpifnaa
open Go.RowKit

noncomputable def both6 (a b : List Int) : Int := @ite _ (isPol a ∧ isPol b) (Classical.propDecidable _) 0 1
theorem both6_ok {a b : List Int} (h : isPol a ∧ isPol b) : both6 a b = 0 := @if_pos _ (Classical.propDecidable _) h _ _ _
theorem both6_bad {a b : List Int} (h : ¬ (isPol a ∧ isPol b)) : both6 a b = 1 := @if_neg _ (Classical.propDecidable _) h _ _ _
set_option maxRecDepth 100000 in
theorem sBoth6_any (u0 u1 : Value) (l0 l1 : List Int) (w : World) (h0 : RdZ w u0 l0) (h1 : RdZ w u1 l1) :
    Calls Try.prog 49 #[u0, u1] w fun e w' => e = .returned (.int .i64 (both6 l0 l1)) ∧ w = w' := by
  obtain ⟨A, c, rfl, _⟩ := h0.form
  obtain ⟨B, d, rfl, _⟩ := h1.form
  have CA := s06Is_any _ l0 w h0
  have CB := s06Is_any _ l1 w h1
  clear h0 h1
  by_cases p0 : isPol l0
  · rw [polB_yes p0] at CA
    by_cases p1 : isPol l1
    · rw [polB_yes p1] at CB
      rw [both6_ok ⟨p0, p1⟩]
      clear p0 p1
      have CA' := hide CA; clear CA
      have CB' := hide CB; clear CB
      go_enter Try.func49, Try.ntmps49
      go_wp2_with fail
      refine (CA'.out).mono ?_
      rintro e w1 ⟨rfl, rfl⟩
      go_wp2_with fail
      refine (CB'.out).mono ?_
      rintro e w1 ⟨rfl, rfl⟩
      go_wp2
      go_ret
      exact ⟨rfl, rfl⟩
    · rw [polB_no p1] at CB
      rw [both6_bad (fun h => p1 h.2)]
      clear p0 p1
      have CA' := hide CA; clear CA
      have CB' := hide CB; clear CB
      go_enter Try.func49, Try.ntmps49
      go_wp2_with fail
      refine (CA'.out).mono ?_
      rintro e w1 ⟨rfl, rfl⟩
      go_wp2_with fail
      refine (CB'.out).mono ?_
      rintro e w1 ⟨rfl, rfl⟩
      go_wp2
      go_ret
      exact ⟨rfl, rfl⟩
  · rw [polB_no p0] at CA
    rw [both6_bad (fun h => p0 h.1)]
    clear p0 CB
    have CA' := hide CA; clear CA
    go_enter Try.func49, Try.ntmps49
    go_wp2_with fail
    refine (CA'.out).mono ?_
    rintro e w1 ⟨rfl, rfl⟩
    go_wp2
    go_ret
    exact ⟨rfl, rfl⟩
end Go.Proofs.Ytijgcjpngpifnaa
