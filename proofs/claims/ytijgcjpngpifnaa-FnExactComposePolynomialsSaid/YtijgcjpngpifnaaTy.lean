/- Types: positive numbers, none greater than the one before, with a sum of at most 16: mathematics. -/
import Derived.Test.YtijgcjpngpifnaaArg
namespace Go.Proofs.Ytijgcjpngpifnaa
open Go.RowKit

/-- the sum of a list -/
def zs : List Int → Int
  | [] => 0
  | x :: l => x + zs l
theorem zs_append : ∀ a b : List Int, zs (a ++ b) = zs a + zs b
  | [], b => by simp [zs]
  | x :: a, b => by simp only [List.cons_append, zs, zs_append a b]; omega
theorem zs_nonneg : ∀ l : List Int, (∀ x ∈ l, 1 ≤ x) → (l.length : Int) ≤ zs l
  | [], _ => by simp [zs]
  | x :: l, h => by
    have := zs_nonneg l fun y hy => h y (List.mem_cons_of_mem _ hy)
    have := h x (by simp)
    simp only [List.length_cons, zs]
    omega
theorem zs_take (l : List Int) (h : ∀ x ∈ l, 1 ≤ x) (i : Nat) : zs (l.take i) ≤ zs l := by
  have e : zs l = zs (l.take i) + zs (l.drop i) := by rw [← zs_append, List.take_append_drop]
  have := zs_nonneg (l.drop i) fun y hy => h y (List.mem_of_mem_drop hy)
  omega
theorem zs_succ (l : List Int) {i : Nat} (hi : i < l.length) : zs (l.take (i + 1)) = zs (l.take i) + l[i] := by
  rw [List.take_succ_eq_append_getElem hi, zs_append]; simp [zs]

/-- a beginning of a type -/
def preT (l : List Int) : Prop := (∀ x ∈ l, 1 ≤ x) ∧ l.Pairwise (fun a b => b ≤ a) ∧ zs l ≤ 16
theorem preT_nil : preT [] := ⟨by simp, List.Pairwise.nil, by simp [zs]⟩
theorem preT.take {l : List Int} (h : preT l) (i : Nat) : preT (l.take i) :=
  ⟨fun x hx => h.1 x (List.mem_of_mem_take hx), h.2.1.sublist (List.take_sublist i l), Int.le_trans (zs_take l h.1 i) h.2.2⟩
theorem preT.succ {l : List Int} {i : Nat} (h : preT (l.take i)) (hi : i < l.length) (h1 : 1 ≤ l[i]) (h2 : zs (l.take i) + l[i] ≤ 16) (h3 : ∀ _ : 0 < i, l[i] ≤ l[i - 1]) : preT (l.take (i + 1)) := by
  refine ⟨fun x hx => ?_, ?_, by rw [zs_succ l hi]; exact h2⟩
  · rw [List.take_succ_eq_append_getElem hi] at hx
    rcases List.mem_append.1 hx with c | c
    · exact h.1 x c
    · rw [List.mem_singleton.1 c]; exact h1
  · rw [List.take_succ_eq_append_getElem hi, List.pairwise_append]
    refine ⟨h.2.1, List.pairwise_singleton _ _, fun a ha b hb => ?_⟩
    rw [List.mem_singleton.1 hb]
    obtain ⟨j, hj, rfl⟩ := List.getElem_of_mem ha
    have hji : j < i := by simp at hj; omega
    have h4 := h3 (by omega)
    rcases Nat.lt_or_ge j (i - 1) with c | c
    · have h5 := List.pairwise_iff_getElem.1 h.2.1 j (i - 1) hj (by simp; omega) c
      simp only [List.getElem_take] at h5 ⊢
      omega
    · obtain rfl : j = i - 1 := by omega
      simp only [List.getElem_take]
      exact h4
theorem preT.at {l : List Int} (h : preT l) {i : Nat} (hi : i < l.length) : 1 ≤ l[i] ∧ zs (l.take i) + l[i] ≤ 16 ∧ ∀ _ : 0 < i, l[i] ≤ l[i - 1] := by
  refine ⟨h.1 _ (List.getElem_mem hi), ?_, fun h0 => List.pairwise_iff_getElem.1 h.2.1 (i - 1) i (by omega) hi (by omega)⟩
  rw [← zs_succ l hi]
  exact (h.take (i + 1)).2.2
/-- a type -/
def isTyp (l : List Int) : Prop := l ≠ [] ∧ preT l
theorem isTyp.len {l : List Int} (h : isTyp l) : 1 ≤ l.length ∧ l.length ≤ 16 := by
  have h1 := zs_nonneg l h.2.1
  have h2 := h.2.2.2
  refine ⟨?_, by omega⟩
  rcases l with _ | ⟨x, l⟩
  · exact absurd rfl h.1
  · simp
theorem isTyp.sum {l : List Int} (h : isTyp l) : 1 ≤ zs l ∧ zs l ≤ 16 := by
  have h1 := zs_nonneg l h.2.1
  have h2 := h.len
  exact ⟨by omega, h.2.2.2⟩
theorem preT.typ {l : List Int} (h : preT l) (h1 : 1 ≤ zs l) : isTyp l := by
  refine ⟨fun e => ?_, h⟩
  subst e
  simp [zs] at h1
theorem preT.low {l : List Int} (h : preT l) : 0 ≤ zs l := by have := zs_nonneg l h.1; omega
open Classical in
noncomputable def typB (l : List Int) : Bool := decide (isTyp l)
open Classical in
theorem typB_true {l : List Int} (h : isTyp l) : typB l = true := by unfold typB; exact decide_eq_true h
open Classical in
theorem typB_false {l : List Int} (h : ¬ isTyp l) : typB l = false := by unfold typB; exact decide_eq_false h
open Classical in
theorem typB_iff {l : List Int} : typB l = true ↔ isTyp l := by unfold typB; exact decide_eq_true_iff
/-- what the model asks of a beginning -/
def preS (l : List Int) : Prop := (∀ x ∈ l, 1 ≤ x ∧ x ≤ 16) ∧ l.Pairwise (fun a b => b ≤ a)
theorem preS_nil : preS [] := ⟨by simp, List.Pairwise.nil⟩
theorem preS.succ {l : List Int} {i : Nat} (h : preS (l.take i)) (hi : i < l.length) (h1 : 1 ≤ l[i]) (h2 : l[i] ≤ 16) (h3 : ∀ _ : 0 < i, l[i] ≤ l[i - 1]) : preS (l.take (i + 1)) := by
  refine ⟨fun x hx => ?_, ?_⟩
  · rw [List.take_succ_eq_append_getElem hi] at hx
    rcases List.mem_append.1 hx with c | c
    · exact h.1 x c
    · rw [List.mem_singleton.1 c]; exact ⟨h1, h2⟩
  · rw [List.take_succ_eq_append_getElem hi, List.pairwise_append]
    refine ⟨h.2, List.pairwise_singleton _ _, fun a ha b hb => ?_⟩
    rw [List.mem_singleton.1 hb]
    obtain ⟨j, hj, rfl⟩ := List.getElem_of_mem ha
    have hji : j < i := by simp at hj; omega
    have h4 := h3 (by omega)
    rcases Nat.lt_or_ge j (i - 1) with c | c
    · have h5 := List.pairwise_iff_getElem.1 h.2 j (i - 1) hj (by simp; omega) c
      simp only [List.getElem_take] at h5 ⊢
      omega
    · obtain rfl : j = i - 1 := by omega
      simp only [List.getElem_take]
      exact h4
theorem isTyp.at {l : List Int} (h : isTyp l) {i : Nat} (hi : i < l.length) : 1 ≤ l[i] ∧ l[i] ≤ 16 ∧ ∀ _ : 0 < i, l[i] ≤ l[i - 1] := by
  have h1 := h.2.at hi
  have h2 := (h.2.take i).low
  exact ⟨h1.1, by omega, h1.2.2⟩
theorem preS.typ {l : List Int} (h : preS l) (h0 : 1 ≤ l.length) (h1 : zs l ≤ 16) : isTyp l := by
  refine ⟨fun e => by subst e; simp at h0, fun x hx => (h.1 x hx).1, h.2, h1⟩
/-- small lists: their sums stay small -/
def smallS (l : List Int) : Prop := (∀ x ∈ l, 0 ≤ x ∧ x ≤ 16) ∧ l.length ≤ 16
theorem smallS.part {l : List Int} (h : smallS l) (i : Nat) (hi : i ≤ l.length) : 0 ≤ zs (l.take i) ∧ zs (l.take i) ≤ 16 * i := by
  induction i with
  | zero => simp [zs]
  | succ i ih =>
    have := ih (by omega)
    have := h.1 l[i] (List.getElem_mem _)
    rw [zs_succ l hi]
    omega
theorem isTyp.small {l : List Int} (h : isTyp l) : smallS l := ⟨fun x hx => by
  obtain ⟨i, hi, rfl⟩ := List.getElem_of_mem hx
  have := h.at hi
  omega, h.len.2⟩
theorem preS.small {l : List Int} (h : preS l) (hl : l.length ≤ 16) : smallS l := ⟨fun x hx => by have := h.1 x hx; omega, hl⟩
end Go.Proofs.Ytijgcjpngpifnaa
