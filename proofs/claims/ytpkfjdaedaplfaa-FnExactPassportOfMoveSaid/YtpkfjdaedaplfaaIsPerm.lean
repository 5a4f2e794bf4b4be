/- impl.IsPermutation -/
import Derived.Test.YtpkfjdaedaplfaaBase
import Derived.Test.YtpkfjdaedaplfaaPerm
import Derived.BigQuiet
import Derived.Deep.QuietTactic
namespace Go.Proofs.Ytpkfjdaedaplfaa
open Go.RowKit

/-- a permutation of n numbers, as the document has it -/
def PermN (f : Nat → Nat) (n : Nat) : Prop := 1 ≤ n ∧ n ≤ 16 ∧ Bij f n ∧ ∀ i, n ≤ i → i < 16 → f i = 0
open Classical in
@[irreducible] noncomputable def permB (f : Nat → Nat) (n : Int) : Bool := decide (0 ≤ n ∧ PermN f n.toNat)
theorem permB_yes {f : Nat → Nat} {m : Nat} (h : PermN f m) : permB f (m : Int) = true := by unfold permB; simpa using h
theorem permB_no {f : Nat → Nat} {m : Nat} (h : ¬ PermN f m) : permB f (m : Int) = false := by unfold permB; simpa using h
theorem permB_out {f : Nat → Nat} {n : Int} (h : ¬ (1 ≤ n ∧ n ≤ 16)) : permB f n = false := by
  unfold permB; simp only [decide_eq_false_iff_not]
  rintro ⟨h0, h1, h2, _⟩
  omega
theorem permB_true {f : Nat → Nat} {n : Int} (h : permB f n = true) : ∃ m : Nat, n = (m : Int) ∧ PermN f m := by
  unfold permB at h; simp only [decide_eq_true_eq] at h
  exact ⟨n.toNat, by omega, h.2⟩

/-- what the first k entries have met -/
@[irreducible] def metk (f : Nat → Nat) (k : Nat) : Nat → Bool := fun y => (List.range k).any fun i => f i == y
theorem metk_iff (f : Nat → Nat) (k y : Nat) : metk f k y = true ↔ ∃ i, i < k ∧ f i = y := by unfold metk; simp
theorem metk_zero (f : Nat → Nat) : metk f 0 = fun _ => false := by unfold metk; rfl
theorem metk_step (f : Nat → Nat) (k : Nat) : mset (metk f k) (f k) = metk f (k + 1) := by
  funext y
  rw [Bool.eq_iff_iff]
  simp only [mset, Bool.or_eq_true, beq_iff_eq, metk_iff]
  constructor
  · rintro (rfl | ⟨i, hi, rfl⟩)
    · exact ⟨k, by omega, rfl⟩
    · exact ⟨i, by omega, rfl⟩
  · rintro ⟨i, hi, rfl⟩
    by_cases c : i = k
    · subst c; exact .inl rfl
    · exact .inr ⟨i, by omega, rfl⟩


-- left out here: loop.example/g01200/impl.isDartCount
-- left out here: loop.example/g01200/impl.isDartCount
-- left out here: loop.example/g01200/impl.IsPermutation loop.example/g01200/impl.isDartCount
end Go.Proofs.Ytpkfjdaedaplfaa
