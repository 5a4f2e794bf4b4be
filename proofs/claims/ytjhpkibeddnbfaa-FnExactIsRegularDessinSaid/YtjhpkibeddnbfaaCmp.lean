/- bytes.Compare, cmp.Or, impl.compareDessins; spec.l02Less, l02Before -/
import Derived.Test.YtjhpkibeddnbfaaRen
import Derived.Test.YtjhpkibeddnbfaaSame
import Derived.Lib.Bytealg
import Derived.Lib.BytesEntry
import Derived.Laws.Externs
namespace Go.Proofs.Ytjhpkibeddnbfaa
open Go.RowKit

/-- sixteen entries as bytes -/
def b16 (f : Nat → Nat) : List UInt8 := (List.range 16).map fun i => UInt8.ofNat (f i)
theorem b16_length (f : Nat → Nat) : (b16 f).length = 16 := by simp [b16]
theorem b16_get (f : Nat → Nat) {i : Nat} (h : i < 16) : (b16 f).getD i 0 = UInt8.ofNat (f i) := by unfold b16; simp [List.getD, h]
theorem cb_spec : ∀ (a b : List UInt8), a.length = b.length → (Lib.compareBytes a b = 0 ∧ a = b) ∨
    (∃ i, i < a.length ∧ (∀ j, j < i → a.getD j 0 = b.getD j 0) ∧ a.getD i 0 ≠ b.getD i 0 ∧ Lib.compareBytes a b = if a.getD i 0 < b.getD i 0 then -1 else 1)
  | [], [], _ => .inl ⟨rfl, rfl⟩
  | [], _ :: _, h => by simp at h
  | _ :: _, [], h => by simp at h
  | x :: a, y :: b, h => by
    by_cases hxy : x = y
    · subst hxy
      have e : Lib.compareBytes (x :: a) (x :: b) = Lib.compareBytes a b := by simp [Lib.compareBytes]
      rw [e]
      rcases cb_spec a b (by simpa using h) with ⟨h1, h2⟩ | ⟨i, h1, h2, h3, h4⟩
      · exact .inl ⟨h1, by rw [h2]⟩
      · refine .inr ⟨i + 1, by simp; omega, fun j hj => ?_, by simpa using h3, by simpa using h4⟩
        rcases j with _ | j
        · rfl
        · simpa using h2 j (by omega)
    · refine .inr ⟨0, by simp, fun j hj => by omega, by simpa using hxy, ?_⟩
      simp only [Lib.compareBytes, List.getD_cons_zero]
      by_cases hlt : x < y
      · rw [if_pos hlt, if_pos hlt]
      · have : y < x := UInt8.lt_of_le_of_ne (UInt8.not_lt.1 hlt) (Ne.symm hxy)
        rw [if_neg hlt, if_pos this, if_neg hlt]
def eqF (f g : Nat → Nat) : Prop := ∀ i, i < 16 → f i = g i
def ltF (f g : Nat → Nat) : Prop := ∃ i, i < 16 ∧ f i < g i ∧ ∀ j, j < i → f j = g j
theorem ofNat_eq {x y : Nat} (hx : x < 256) (hy : y < 256) : UInt8.ofNat x = UInt8.ofNat y ↔ x = y := by
  refine ⟨fun h => ?_, fun h => by rw [h]⟩
  have := congrArg UInt8.toNat h
  simpa [Nat.mod_eq_of_lt hx, Nat.mod_eq_of_lt hy] using this
theorem ofNat_lt {x y : Nat} (hx : x < 256) (hy : y < 256) : UInt8.ofNat x < UInt8.ofNat y ↔ x < y := by
  rw [UInt8.lt_iff_toNat_lt]
  simp [Nat.mod_eq_of_lt hx, Nat.mod_eq_of_lt hy]
theorem cmp_cases (f g : Nat → Nat) (hf : ∀ i, i < 16 → f i < 256) (hg : ∀ i, i < 16 → g i < 256) :
    (Lib.compareBytes (b16 f) (b16 g) = 0 ∧ eqF f g) ∨ (Lib.compareBytes (b16 f) (b16 g) = -1 ∧ ltF f g ∧ ¬ eqF f g) ∨ (Lib.compareBytes (b16 f) (b16 g) = 1 ∧ ¬ ltF f g ∧ ¬ eqF f g) := by
  rcases cb_spec (b16 f) (b16 g) (by rw [b16_length, b16_length]) with ⟨h1, h2⟩ | ⟨i, h1, h2, h3, h4⟩
  · refine .inl ⟨h1, fun i hi => ?_⟩
    have := congrArg (fun l => l.getD i 0) h2
    simp only [b16_get _ hi] at this
    exact (ofNat_eq (hf i hi) (hg i hi)).1 this
  · rw [b16_length] at h1
    rw [b16_get _ h1, b16_get _ h1] at h3 h4
    have hne : f i ≠ g i := fun e => h3 (by rw [e])
    have hnq : ¬ eqF f g := fun h => hne (h i h1)
    have hpre : ∀ j, j < i → f j = g j := fun j hj => by
      have := h2 j hj
      rw [b16_get _ (by omega), b16_get _ (by omega)] at this
      exact (ofNat_eq (hf j (by omega)) (hg j (by omega))).1 this
    by_cases hlt : f i < g i
    · rw [if_pos ((ofNat_lt (hf i h1) (hg i h1)).2 hlt)] at h4
      exact .inr (.inl ⟨h4, ⟨i, h1, hlt, hpre⟩, hnq⟩)
    · rw [if_neg (fun h => hlt ((ofNat_lt (hf i h1) (hg i h1)).1 h))] at h4
      refine .inr (.inr ⟨h4, fun ⟨j, k1, k2, k3⟩ => ?_, hnq⟩)
      rcases Nat.lt_trichotomy i j with c | c | c
      · exact hne (k3 i c)
      · subst c; exact hlt k2
      · have := hpre j c; omega

def x16 (f : Nat → Nat) : List Int := (List.range 16).map fun i => (f i : Int)
theorem x16_bytes (f : Nat → Nat) : Lib.bytesOf (x16 f) = b16 f := by unfold Lib.bytesOf x16 b16; simp
-- left out here: bytes.Compare internal/bytealg.Compare
end Go.Proofs.Ytjhpkibeddnbfaa
