/- Permutations as functions: one after the other, back, the face; they are permutations. -/
import Derived.Test.YtmapjjfefjoemaaFace
namespace Go.Proofs.Ytmapjjfefjoemaa
open Go.RowKit

theorem backTo_at {p : Nat → Nat} {n : Nat} (h : Bij p n) : ∀ k, k ≤ n → ∀ x, x < k → backTo p k (p x) = x := by
  intro k
  induction k with
  | zero => intro _ x hx; omega
  | succ k ih =>
    intro hk x hx
    show fset (backTo p k) (p k) k (p x) = x
    unfold fset
    by_cases c : p x = p k
    · rw [if_pos c]; exact (h.2 x k (by omega) (by omega) c).symm
    · rw [if_neg c]
      by_cases d : x = k
      · subst d; exact absurd rfl c
      · exact ih (by omega) x (by omega)
theorem backTo_none {p : Nat → Nat} {y : Nat} : ∀ k, (∀ x, x < k → p x ≠ y) → backTo p k y = 0 := by
  intro k
  induction k with
  | zero => intro _; rfl
  | succ k ih =>
    intro h
    show fset (backTo p k) (p k) k y = 0
    unfold fset
    rw [if_neg (fun e => h k (by omega) e.symm)]
    exact ih fun x hx => h x (by omega)
theorem backF_at {p : Nat → Nat} {m : Nat} (h : Bij p m) {x : Nat} (hx : x < m) : backF p m (p x) = x := backTo_at h m (Nat.le_refl m) x hx
theorem Bij.onto {p : Nat → Nat} {m : Nat} (h : Bij p m) {y : Nat} (hy : y < m) : ∃ x, x < m ∧ p x = y := by
  obtain ⟨L, h0, _, e⟩ := h.period hy
  obtain ⟨k, rfl⟩ : ∃ k, L = k + 1 := ⟨L - 1, by omega⟩
  exact ⟨it p k y, h.it_lt k hy, e⟩
theorem backF_perm {p : Nat → Nat} {m : Nat} (h : PermN p m) : PermN (backF p m) m := by
  obtain ⟨h1, h2, h3, _⟩ := h
  refine ⟨h1, h2, ⟨fun y hy => ?_, fun y z hy hz e => ?_⟩, fun y h4 _ => ?_⟩
  · obtain ⟨x, hx, rfl⟩ := h3.onto hy
    rw [backF_at h3 hx]; exact hx
  · obtain ⟨x, hx, rfl⟩ := h3.onto hy
    obtain ⟨x', hx', rfl⟩ := h3.onto hz
    rw [backF_at h3 hx, backF_at h3 hx'] at e
    rw [e]
  · exact backTo_none m fun x hx e => by have := h3.1 x hx; omega
theorem thenF_at {p q : Nat → Nat} {m x : Nat} (hx : x < m) : thenF p q m x = q (p x) := by unfold thenF upto; rw [if_pos hx]
theorem thenF_out {p q : Nat → Nat} {m x : Nat} (hx : m ≤ x) : thenF p q m x = 0 := by unfold thenF upto; rw [if_neg (by omega)]
theorem thenF_perm {p q : Nat → Nat} {m : Nat} (hp : PermN p m) (hq : PermN q m) : PermN (thenF p q m) m := by
  refine ⟨hp.1, hp.2.1, ⟨fun x hx => ?_, fun x y hx hy e => ?_⟩, fun x hx _ => thenF_out hx⟩
  · rw [thenF_at hx]; exact hq.2.2.1.1 _ (hp.2.2.1.1 x hx)
  · rw [thenF_at hx, thenF_at hy] at e
    exact hp.2.2.1.2 x y hx hy (hq.2.2.1.2 _ _ (hp.2.2.1.1 x hx) (hp.2.2.1.1 y hy) e)
theorem faceF_perm {f g : Nat → Nat} {m : Nat} (hf : PermN f m) (hg : PermN g m) : PermN (faceF f g m) m := backF_perm (thenF_perm hf hg)
theorem faceF_at {f g : Nat → Nat} {m x : Nat} (hf : PermN f m) (hg : PermN g m) (hx : x < m) : faceF f g m (g (f x)) = x := by
  have := backF_at (thenF_perm hf hg).2.2.1 hx
  rwa [thenF_at hx] at this
theorem DesN.face {f g : Nat → Nat} {m : Nat} (h : DesN f g m) : PermN (faceF f g m) m := faceF_perm h.black h.white
/-- the numbers of cycles of a dessin -/
theorem DesN.euler {f g : Nat → Nat} {m : Nat} (h : DesN f g m) : ((cycs f m).length + (cycs g m).length + (cycs (faceF f g m) m).length + m) % 2 = 0 ∧ (cycs f m).length + (cycs g m).length + (cycs (faceF f g m) m).length ≤ m + 2 := by
  rw [cycs_length h.bf h.le, cycs_length h.bg h.le, cycs_length h.face.2.2.1 h.le]
  exact euler_dessin h.bf h.bg h.face.2.2.1 h.pos h.conn fun x hx => faceF_at h.black h.white hx
theorem PermN.lt {f : Nat → Nat} {m : Nat} (h : PermN f m) (i : Nat) (hi : i < 16) : f i < 16 := by
  rcases Nat.lt_or_ge i m with c | c
  · have := h.2.2.1.1 i c; have := h.2.1; omega
  · rw [h.2.2.2 i c hi]; omega
end Go.Proofs.Ytmapjjfefjoemaa
