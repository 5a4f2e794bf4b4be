/- cmp.Or, impl.compareDessins; spec.l02Less, l02Before -/
import Derived.Test.YtjhpkibeddnbfaaCmp
import Derived.Test.YtjhpkibeddnbfaaReg
import Derived.RegionTactic
namespace Go.Proofs.Ytjhpkibeddnbfaa
open Go.RowKit

-- left out here: cmp.Or[int]
def cmpD (f g f' g' : Nat → Nat) : Int := if Lib.compareBytes (b16 f) (b16 f') = 0 then Lib.compareBytes (b16 g) (b16 g') else Lib.compareBytes (b16 f) (b16 f')
-- left out here: loop.example/g01200/impl.compareDessins
noncomputable def ltB (f g : Nat → Nat) : Bool := @decide (ltF f g) (Classical.propDecidable _)
theorem ltB_iff (f g : Nat → Nat) : ltB f g = true ↔ ltF f g := by unfold ltB; simp
theorem ltB_at {f g : Nat → Nat} {k : Nat} (hk : k < 16) (hpre : ∀ j, j < k → f j = g j) (hne : f k ≠ g k) : ltB f g = decide (f k < g k) := by
  rw [Bool.eq_iff_iff, ltB_iff, decide_eq_true_iff]
  refine ⟨fun ⟨j, h1, h2, h3⟩ => ?_, fun h => ⟨k, hk, h, hpre⟩⟩
  rcases Nat.lt_trichotomy j k with c | c | c
  · have := hpre j c; omega
  · subst c; exact h2
  · exact absurd (h3 k c) hne
theorem ltB_eq {f g : Nat → Nat} (h : ∀ j, j < 16 → f j = g j) : ltB f g = false := by
  rw [Bool.eq_false_iff]
  intro e
  obtain ⟨j, h1, h2, h3⟩ := (ltB_iff f g).1 e
  have := h j h1; omega
noncomputable def befB (f g f' g' : Nat → Nat) : Bool := if sameB f f' = true then ltB g g' else ltB f f'
theorem cmpD_lt (f g f' g' : Nat → Nat) (hf : ∀ i, i < 16 → f i < 256) (hg : ∀ i, i < 16 → g i < 256) (hf' : ∀ i, i < 16 → f' i < 256) (hg' : ∀ i, i < 16 → g' i < 256) : decide (cmpD f g f' g' < 0) = befB f g f' g' := by
  unfold cmpD befB
  have two : ∀ {a b : Nat → Nat}, (∀ i, i < 16 → a i < 256) → (∀ i, i < 16 → b i < 256) → decide (Lib.compareBytes (b16 a) (b16 b) < 0) = ltB a b := by
    intro a b ha hb
    rw [Bool.eq_iff_iff, ltB_iff, decide_eq_true_iff]
    rcases cmp_cases a b ha hb with ⟨e, h⟩ | ⟨e, h, _⟩ | ⟨e, h, _⟩
    · rw [e]
      refine ⟨fun h => by omega, fun ⟨j, h1, h2, _⟩ => ?_⟩
      have := h j h1; omega
    · rw [e]; exact ⟨fun _ => h, fun _ => by omega⟩
    · rw [e]; exact ⟨fun h => by omega, fun k => absurd k h⟩
  rcases cmp_cases f f' hf hf' with ⟨e, h⟩ | ⟨e, _, h⟩ | ⟨e, _, h⟩
  · rw [if_pos e, if_pos ((sameB_iff f f').2 h)]; exact two hg hg'
  · rw [if_neg (by rw [e]; omega), if_neg (fun k => h ((sameB_iff f f').1 k))]; exact two hf hf'
  · rw [if_neg (by rw [e]; omega), if_neg (fun k => h ((sameB_iff f f').1 k))]; exact two hf hf'

-- left out here: loop.example/g01200/spec.l02Less
-- left out here: loop.example/g01200/spec.l02Before
end Go.Proofs.Ytjhpkibeddnbfaa
