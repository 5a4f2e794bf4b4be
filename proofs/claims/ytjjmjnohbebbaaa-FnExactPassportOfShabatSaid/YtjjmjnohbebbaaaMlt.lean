/- Multiplicities: mathematics of the turns. -/
import Derived.Test.YtjjmjnohbebbaaaPoG
namespace Go.Proofs.Ytjjmjnohbebbaaa

/-- what is left after some turns -/
def mS (s : List Nat) : Nat → List Nat
  | 0 => s
  | t + 1 => comL (mS s t) (dervL (mS s t))
theorem mS_shift (s : List Nat) : ∀ t, mS (comL s (dervL s)) t = mS s (t + 1)
  | 0 => rfl
  | t + 1 => by show comL _ _ = comL _ _; rw [mS_shift s t]
def mC (s : List Nat) (t : Nat) : Nat := (mS s t).length - (mS s (t + 1)).length
/-- so many turns are taken -/
def isT (s : List Nat) (t : Nat) : Prop := (∀ j, j < t → 2 ≤ (mS s j).length) ∧ (mS s t).length ≤ 1
theorem com_less {s : List Nat} (ps : PL s) (h2 : 2 ≤ s.length) (hl : s.length ≤ 10007) : PL (comL s (dervL s)) ∧ comL s (dervL s) ≠ [] ∧ (comL s (dervL s)).length < s.length := by
  have pD : PL (dervL s) := ⟨dervL_po _, dervL_lz ps.1 ps.2 hl⟩
  have h0 : s ≠ [] := List.length_pos_iff.1 (by omega)
  obtain ⟨c1, c2, c3, c4, _⟩ := com_all ps.1 ps.2 pD.1 pD.2 (.inl h0)
  have dl := dervL_length s
  have c5 := (gcd_all _ s (dervL s) (Nat.le_refl _) ps.1 ps.2 pD.1 pD.2).2.2.2.2 (List.length_pos_iff.1 (by omega))
  exact ⟨⟨c1, c2⟩, c3, by omega⟩
theorem isT_ex : ∀ (n : Nat) (s : List Nat), s.length ≤ n → PL s → s.length ≤ 10007 → ∃ t, isT s t
  | n, s, hn, ps, hl => by
    by_cases h : s.length ≤ 1
    · exact ⟨0, fun j hj => by omega, h⟩
    · obtain ⟨c1, c2, c3⟩ := com_less ps (by omega) hl
      obtain ⟨n, rfl⟩ : ∃ k, n = k + 1 := ⟨n - 1, by omega⟩
      obtain ⟨t, h1, h2⟩ := isT_ex n (comL s (dervL s)) (by omega) c1 (by omega)
      refine ⟨t + 1, fun j hj => ?_, by rw [← mS_shift]; exact h2⟩
      cases j with
      | zero => show 2 ≤ s.length; omega
      | succ j => rw [← mS_shift]; exact h1 j (by omega)
theorem isT_one {s : List Nat} {t u : Nat} (h : isT s t) (k : isT s u) : t = u := by
  rcases Nat.lt_trichotomy t u with c | c | c
  · have := k.1 t c; have := h.2; omega
  · exact c
  · have := h.1 u c; have := k.2; omega
theorem mS_ok {s : List Nat} (ps : PL s) (h0 : s ≠ []) (hl : s.length ≤ 17) : ∀ t, (∀ j, j < t → 2 ≤ (mS s j).length) → PL (mS s t) ∧ mS s t ≠ [] ∧ (mS s t).length + t ≤ s.length
  | 0, _ => ⟨ps, h0, Nat.le_refl _⟩
  | t + 1, h => by
    obtain ⟨h1, h2, h3⟩ := mS_ok ps h0 hl t fun j hj => h j (by omega)
    obtain ⟨c1, c2, c3⟩ := com_less h1 (h t (by omega)) (by omega)
    exact ⟨c1, c2, by show (comL _ _).length + (t + 1) ≤ _; omega⟩
theorem mC_fall {s : List Nat} (ps : PL s) (h0 : s ≠ []) (hl : s.length ≤ 17) {t : Nat} (h : ∀ j, j < t + 2 → 2 ≤ (mS s j).length) : mC s (t + 1) ≤ mC s t := by
  obtain ⟨h1, h2, h3⟩ := mS_ok ps h0 hl t fun j hj => h j (by omega)
  have := counts_fall h1 (h t (by omega)) (by omega) (h (t + 1) (by omega))
  have e1 : mS s (t + 1) = comL (mS s t) (dervL (mS s t)) := rfl
  have e2 : mS s (t + 1 + 1) = comL (mS s (t + 1)) (dervL (mS s (t + 1))) := rfl
  rw [← e1, ← e2] at this
  unfold mC
  omega
theorem mC_mono {s : List Nat} (ps : PL s) (h0 : s ≠ []) (hl : s.length ≤ 17) {t : Nat} (h : ∀ j, j < t → 2 ≤ (mS s j).length) {i : Nat} : ∀ d, i + d < t → mC s (i + d) ≤ mC s i
  | 0, _ => Nat.le_refl _
  | d + 1, hd => Nat.le_trans (mC_fall ps h0 hl (t := i + d) fun j hj => h j (by omega)) (mC_mono ps h0 hl h d (by omega))
theorem mC_pos {s : List Nat} (ps : PL s) (h0 : s ≠ []) (hl : s.length ≤ 17) {t : Nat} (h : ∀ j, j < t + 1 → 2 ≤ (mS s j).length) : 0 < mC s t := by
  obtain ⟨h1, h2, h3⟩ := mS_ok ps h0 hl t fun j hj => h j (by omega)
  obtain ⟨c1, c2, c3⟩ := com_less h1 (h t (by omega)) (by omega)
  have e1 : mS s (t + 1) = comL (mS s t) (dervL (mS s t)) := rfl
  unfold mC
  rw [e1]
  omega
/-- how many of the first t turns take more than i roots -/
def kc (s : List Nat) : Nat → Nat → Nat
  | 0, _ => 0
  | t + 1, i => kc s t i + if i < mC s t then 1 else 0
theorem kc_le (s : List Nat) : ∀ t i, kc s t i ≤ t
  | 0, _ => Nat.le_refl _
  | t + 1, i => by have := kc_le s t i; unfold kc; split <;> omega
theorem kc_eq (s : List Nat) (k i : Nat) : ∀ t, (∀ j, j < t → (i < mC s j ↔ j < k)) → kc s t i = min t k
  | 0, _ => by simp [kc]
  | t + 1, h => by
    have ih := kc_eq s k i t fun j hj => h j (by omega)
    have := h t (by omega)
    unfold kc
    rw [ih]
    split <;> omega
/-- the list while turn t takes root i -/
def ml (s : List Nat) (t i : Nat) : List Nat := (List.range (if t = 0 then i else mC s 0)).map fun k => kc s t k + if k < i then 1 else 0
theorem ml_length (s : List Nat) (t i : Nat) : (ml s t i).length = if t = 0 then i else mC s 0 := by simp [ml]
theorem ml_nth {s : List Nat} {t i n : Nat} (h : n < (ml s t i).length) : nth (ml s t i) n = kc s t n + if n < i then 1 else 0 := by
  rw [ml_length] at h
  unfold ml
  rw [nth_map_range, if_pos h]
/-- the list between turns -/
def mr (s : List Nat) (t : Nat) : List Nat := (List.range (if t = 0 then 0 else mC s 0)).map (kc s t)
theorem mr_start (s : List Nat) (t : Nat) : mr s t = ml s t 0 := by
  unfold mr ml
  by_cases h : t = 0
  · subst h; rfl
  · rw [if_neg h]; simp
theorem mr_end (s : List Nat) (t : Nat) : ml s t (mC s t) = mr s (t + 1) := by
  unfold mr ml
  rw [if_neg (by omega : ¬ t + 1 = 0)]
  by_cases h : t = 0
  · subst h; rfl
  · rw [if_neg h]; rfl
theorem ml_first (s : List Nat) (i : Nat) : ((ml s 0 i ++ [0]).set i (0 + 1)) = ml s 0 (i + 1) := by
  refine nth_ext (by simp [ml_length]) fun n hn => ?_
  have hl : (ml s 0 i).length = i := by rw [ml_length, if_pos rfl]
  have hl2 : (ml s 0 (i + 1)).length = i + 1 := by rw [ml_length, if_pos rfl]
  rw [List.length_set, List.length_append, hl, List.length_singleton] at hn
  rw [nth_set (by rw [List.length_append, hl]; simp), ml_nth (by rw [hl2]; omega)]
  by_cases e : n = i
  · subst e; rw [if_pos rfl, if_pos (by omega)]; rfl
  · rw [if_neg e, nth_append_left _ _ (by rw [hl]; omega), ml_nth (by rw [hl]; omega), if_pos (by omega), if_pos (by omega)]
theorem ml_next {s : List Nat} {t i : Nat} (ht : t ≠ 0) (hi : i < mC s 0) : (ml s t i).set i (nth (ml s t i) i + 1) = ml s t (i + 1) := by
  have hl : ∀ i, (ml s t i).length = mC s 0 := fun i => by rw [ml_length, if_neg ht]
  refine nth_ext (by rw [List.length_set, hl, hl]) fun n hn => ?_
  rw [List.length_set, hl] at hn
  rw [nth_set (by rw [hl]; exact hi), ml_nth (s := s) (t := t) (i := i) (n := i) (by rw [hl]; exact hi), ml_nth (s := s) (t := t) (i := i) (n := n) (by rw [hl]; exact hn), ml_nth (s := s) (t := t) (i := i + 1) (n := n) (by rw [hl]; exact hn)]
  by_cases e : n = i
  · subst e; rw [if_pos rfl, if_neg (by omega), if_pos (by omega)]
  · rw [if_neg e]
    by_cases h : n < i
    · rw [if_pos h, if_pos (by omega)]
    · rw [if_neg h, if_neg (by omega)]
/-- the model's list, m numbers of it -/
def mo (s : List Nat) (t m : Nat) : List Nat := (List.range m).map (kc s t)
theorem mo_succ (s : List Nat) (t m : Nat) : mo s t (m + 1) = mo s t m ++ [kc s t m] := by unfold mo; rw [List.range_succ, List.map_append]; rfl
theorem mo_end {s : List Nat} {t : Nat} (h : t ≠ 0) : mo s t (mC s 0) = mr s t := by unfold mo mr; rw [if_neg h]
/-- the k-th count, 0 behind the last -/
def mCu (s : List Nat) (t k : Nat) : Nat := if k < t then mC s k else 0
theorem kc_val {s : List Nat} (ps : PL s) (h0 : s ≠ []) (hl : s.length ≤ 17) {t : Nat} (h : ∀ j, j < t → 2 ≤ (mS s j).length) {k m : Nat} (hk : k < t) (h1 : mCu s t (k + 1) ≤ m) (h2 : m < mC s k) : kc s t m = k + 1 := by
  have := kc_eq s (k + 1) m t fun j hj => ?_
  · omega
  · constructor
    · intro hm
      rcases Nat.lt_or_ge j (k + 1) with c | c
      · exact c
      · exfalso
        have hk1 : k + 1 < t := by omega
        have := mC_mono ps h0 hl h (i := k + 1) (j - (k + 1)) (by omega)
        rw [show k + 1 + (j - (k + 1)) = j by omega] at this
        unfold mCu at h1
        rw [if_pos hk1] at h1
        omega
    · intro hj2
      have := mC_mono ps h0 hl h (i := j) (k - j) (by omega)
      rw [show j + (k - j) = k by omega] at this
      omega
end Go.Proofs.Ytjjmjnohbebbaaa
