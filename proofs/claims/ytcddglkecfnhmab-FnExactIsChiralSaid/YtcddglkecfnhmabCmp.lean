/- bytes.Compare, cmp.Or, impl.compareDessins; spec.l02Less, l02Before -/
import Derived.Test.YtcddglkecfnhmabRen
import Derived.Test.YtcddglkecfnhmabSame
import Derived.Lib.Bytealg
import Derived.Lib.BytesEntry
import Derived.Laws.Externs
namespace Go.Proofs.Ytcddglkecfnhmab
open Go.RowKit

/-- sixteen entries as bytes -/
def b16 (f : Nat → Nat) : List UInt8 := (List.range 16).map fun i => UInt8.ofNat (f i)
theorem b16_length (f : Nat → Nat) : (b16 f).length = 16 := by simp [b16]
theorem b16_get (f : Nat → Nat) {i : Nat} (h : i < 16) : (b16 f).getD i 0 = UInt8.ofNat (f i) := by unfold b16; simp [List.getD, h]
theorem cb_spec : ∀ (a b : List UInt8), a.length = b.length → (Lib.compareBytes a b = 0 ∧ a = b) ∨
    (∃ i, i < a.length ∧ (∀ j, j < i → a.getD j 0 = b.getD j 0) ∧ a.getD i 0 ≠ b.getD i 0 ∧ Lib.compareBytes a b = if a.getD i 0 < b.getD i 0 then -1 else 1)
  | [], [], _ => .inl ⟨rfl, rfl⟩
  | [], _ :: _, h => by simp at h
  | _ :: _, [], h => by simp at h
  | x :: a, y :: b, h => by
    by_cases hxy : x = y
    · subst hxy
      have e : Lib.compareBytes (x :: a) (x :: b) = Lib.compareBytes a b := by simp [Lib.compareBytes]
      rw [e]
      rcases cb_spec a b (by simpa using h) with ⟨h1, h2⟩ | ⟨i, h1, h2, h3, h4⟩
      · exact .inl ⟨h1, by rw [h2]⟩
      · refine .inr ⟨i + 1, by simp; omega, fun j hj => ?_, by simpa using h3, by simpa using h4⟩
        rcases j with _ | j
        · rfl
        · simpa using h2 j (by omega)
    · refine .inr ⟨0, by simp, fun j hj => by omega, by simpa using hxy, ?_⟩
      simp only [Lib.compareBytes, List.getD_cons_zero]
      by_cases hlt : x < y
      · rw [if_pos hlt, if_pos hlt]
      · have : y < x := UInt8.lt_of_le_of_ne (UInt8.not_lt.1 hlt) (Ne.symm hxy)
        rw [if_neg hlt, if_pos this, if_neg hlt]
def eqF (f g : Nat → Nat) : Prop := ∀ i, i < 16 → f i = g i
def ltF (f g : Nat → Nat) : Prop := ∃ i, i < 16 ∧ f i < g i ∧ ∀ j, j < i → f j = g j
theorem ofNat_eq {x y : Nat} (hx : x < 256) (hy : y < 256) : UInt8.ofNat x = UInt8.ofNat y ↔ x = y := by
  refine ⟨fun h => ?_, fun h => by rw [h]⟩
  have := congrArg UInt8.toNat h
  simpa [Nat.mod_eq_of_lt hx, Nat.mod_eq_of_lt hy] using this
theorem ofNat_lt {x y : Nat} (hx : x < 256) (hy : y < 256) : UInt8.ofNat x < UInt8.ofNat y ↔ x < y := by
  rw [UInt8.lt_iff_toNat_lt]
  simp [Nat.mod_eq_of_lt hx, Nat.mod_eq_of_lt hy]
theorem cmp_cases (f g : Nat → Nat) (hf : ∀ i, i < 16 → f i < 256) (hg : ∀ i, i < 16 → g i < 256) :
    (Lib.compareBytes (b16 f) (b16 g) = 0 ∧ eqF f g) ∨ (Lib.compareBytes (b16 f) (b16 g) = -1 ∧ ltF f g ∧ ¬ eqF f g) ∨ (Lib.compareBytes (b16 f) (b16 g) = 1 ∧ ¬ ltF f g ∧ ¬ eqF f g) := by
  rcases cb_spec (b16 f) (b16 g) (by rw [b16_length, b16_length]) with ⟨h1, h2⟩ | ⟨i, h1, h2, h3, h4⟩
  · refine .inl ⟨h1, fun i hi => ?_⟩
    have := congrArg (fun l => l.getD i 0) h2
    simp only [b16_get _ hi] at this
    exact (ofNat_eq (hf i hi) (hg i hi)).1 this
  · rw [b16_length] at h1
    rw [b16_get _ h1, b16_get _ h1] at h3 h4
    have hne : f i ≠ g i := fun e => h3 (by rw [e])
    have hnq : ¬ eqF f g := fun h => hne (h i h1)
    have hpre : ∀ j, j < i → f j = g j := fun j hj => by
      have := h2 j hj
      rw [b16_get _ (by omega), b16_get _ (by omega)] at this
      exact (ofNat_eq (hf j (by omega)) (hg j (by omega))).1 this
    by_cases hlt : f i < g i
    · rw [if_pos ((ofNat_lt (hf i h1) (hg i h1)).2 hlt)] at h4
      exact .inr (.inl ⟨h4, ⟨i, h1, hlt, hpre⟩, hnq⟩)
    · rw [if_neg (fun h => hlt ((ofNat_lt (hf i h1) (hg i h1)).1 h))] at h4
      refine .inr (.inr ⟨h4, fun ⟨j, k1, k2, k3⟩ => ?_, hnq⟩)
      rcases Nat.lt_trichotomy i j with c | c | c
      · exact hne (k3 i c)
      · subst c; exact hlt k2
      · have := hpre j c; omega

def x16 (f : Nat → Nat) : List Int := (List.range 16).map fun i => (f i : Int)
theorem x16_bytes (f : Nat → Nat) : Lib.bytesOf (x16 f) = b16 f := by unfold Lib.bytesOf x16 b16; simp
set_option maxRecDepth 100000 in
theorem compare_any (f g : Nat → Nat) (hf : ∀ i, i < 16 → f i < 256) (hg : ∀ i, i < 16 → g i < 256) (a b : Addr) (c d : Nat) (w : World) (h1 : ∀ j, j < 16 → w.cell? (a.add j) = some (.int .u8 (f j))) (h2 : ∀ j, j < 16 → w.cell? (b.add j) = some (.int .u8 (g j))) :
    Calls Try.prog 53 #[.slice (some a) 16 c, .slice (some b) 16 d] w fun e w' => e = .returned (.int .i64 (Lib.compareBytes (b16 f) (b16 g))) ∧ w' = w := by
  have len : ∀ h : Nat → Nat, (x16 h).length = 16 := fun h => by simp [x16]
  have get : ∀ (h : Nat → Nat) (j : Nat) (x : Int), (x16 h)[j]? = some x → j < 16 ∧ x = (h j : Int) := fun h j x hx => by
    have hj : j < 16 := by have := (List.getElem?_eq_some_iff.1 hx).1; rwa [len] at this
    refine ⟨hj, ?_⟩
    unfold x16 at hx
    simp [hj] at hx
    exact hx.symm
  have r1 := Lib.run_loadBytesX (P := Try.prog) w (x16 f) a .empty (fun j x hx => by obtain ⟨hj, rfl⟩ := get f j x hx; exact h1 j hj)
  have r2 := Lib.run_loadBytesX (P := Try.prog) w (x16 g) b .empty (fun j x hx => by obtain ⟨hj, rfl⟩ := get g j x hx; exact h2 j hj)
  rw [len, x16_bytes] at r1 r2
  have e : (Extern.BytealgCompare.compare #[.slice (some a) 16 c, .slice (some b) 16 d]).run Try.prog w = .ok (.int .i64 (Lib.compareBytes (b16 f) (b16 g))) w := by
    change Sem.run Try.prog (do pure (goInt (Extern.BytealgCompare.cmp (← Extern.Bytes.bytesOf (.slice (some a) 16 c)) (← Extern.Bytes.bytesOf (.slice (some b) 16 d))))) w = _
    simp only [Extern.Bytes.bytesOf, Sem.run_bind, Sem.run_pure, r1, r2, Result.andThen]
    rw [Lib.cmp_eq]
    simp [goInt]
  clear r1 r2 h1 h2 get len
  go_enter Try.func53, Try.ntmps53
  go_wp2
  rw [run_callFunc_extern Try.func54 (by kernel_rfl) (by kernel_rfl) (by kernel_rfl) (e := Extern.BytealgCompare.compare) (by kernel_rfl), e]
  simp only [Result.andThen]
  rw [Oper.upon_value]
  go_wp2
  go_ret
  exact ⟨rfl, rfl⟩
end Go.Proofs.Ytcddglkecfnhmab
