/- Lists of numbers in a range (impl.areNumbersIn, spec.l09List); sums of a list's numbers at places (impl.sumAt). -/
import Derived.Test.YtpkfjdaedaplfaaArg
import Derived.Test.YtpkfjdaedaplfaaSPoc
import Derived.Test.YtpkfjdaedaplfaaZZ
import Derived.Test.YtpkfjdaedaplfaaWr
namespace Go.Proofs.Ytpkfjdaedaplfaa
open Go.RowKit

/-- n numbers, all in a range -/
def lstB (l : List Int) (n a b : Int) : Bool := (l.all fun x => decide (a ≤ x ∧ x ≤ b)) && ((l.length : Int) == n)
theorem lstB_true {l : List Int} {n a b : Int} (h : lstB l n a b = true) : (l.length : Int) = n ∧ ∀ x ∈ l, a ≤ x ∧ x ≤ b := by
  unfold lstB at h
  rw [Bool.and_eq_true] at h
  obtain ⟨h1, h2⟩ := h
  rw [List.all_eq_true] at h1
  exact ⟨by simpa using h2, fun x hx => by simpa using h1 x hx⟩
theorem lstB_bad {l : List Int} {n a b : Int} {i : Nat} (hi : i < l.length) (h : ¬ (a ≤ l[i] ∧ l[i] ≤ b)) : lstB l n a b = false := by
  unfold lstB
  have : (l.all fun x => decide (a ≤ x ∧ x ≤ b)) = false := by
    rw [List.all_eq_false]
    exact ⟨l[i], List.getElem_mem _, by simpa using h⟩
  rw [this, Bool.false_and]
theorem lstB_good {l : List Int} {n a b : Int} (h : ∀ i (hi : i < l.length), a ≤ l[i] ∧ l[i] ≤ b) : lstB l n a b = ((l.length : Int) == n) := by
  unfold lstB
  have : (l.all fun x => decide (a ≤ x ∧ x ≤ b)) = true := by
    rw [List.all_eq_true]
    intro x hx
    obtain ⟨i, hi, rfl⟩ := List.getElem_of_mem hx
    simpa using h i hi
  rw [this, Bool.true_and]
-- left out here: loop.example/g01200/impl.areNumbersIn
-- left out here: loop.example/g01200/spec.l09List
/-- the sum of the numbers at some places -/
def sm9 (l : List Int) (c : List Nat) : Int := (c.map fun x => l.getD x 0).sum
theorem sm9_nil (l : List Int) : sm9 l [] = 0 := rfl
theorem sm9_snoc (l : List Int) (c : List Nat) (x : Nat) : sm9 l (c ++ [x]) = sm9 l c + l.getD x 0 := by unfold sm9; simp
theorem sm9_take (l : List Int) (c : List Nat) {i : Nat} (h : i < c.length) : sm9 l (c.take (i + 1)) = sm9 l (c.take i) + l.getD c[i] 0 := by
  rw [List.take_succ_eq_append_getElem h, sm9_snoc]
theorem sm9_bound {l : List Int} {K : Int} (hK : 0 ≤ K) (hs : ∀ x ∈ l, -K ≤ x ∧ x ≤ K) (c : List Nat) : -(K * c.length) ≤ sm9 l c ∧ sm9 l c ≤ K * c.length := by
  have one : ∀ x, -K ≤ l.getD x 0 ∧ l.getD x 0 ≤ K := fun x => by
    rw [List.getD_eq_getElem?_getD]
    rcases h : l[x]? with _ | y
    · simp; omega
    · exact hs y (List.mem_of_getElem? h)
  induction c with
  | nil => simp [sm9]
  | cons x c ih =>
    have h1 := one x
    have : sm9 l (x :: c) = l.getD x 0 + sm9 l c := rfl
    rw [this, List.length_cons, Int.natCast_add, Int.mul_add]
    omega
theorem zs9_get {c : List Nat} {i : Nat} (h : i < c.length) (h' : i < (zs9 c).length) : (zs9 c)[i] = ((c[i] : Nat) : Int) := by simp [zs9]
-- left out here: loop.example/g01200/impl.sumAt
end Go.Proofs.Ytpkfjdaedaplfaa
