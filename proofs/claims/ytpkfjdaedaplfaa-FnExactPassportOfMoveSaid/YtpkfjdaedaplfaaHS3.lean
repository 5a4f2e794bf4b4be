/- A list of lists that a call has handed back, as parts. -/
import Derived.Test.YtpkfjdaedaplfaaHS2
namespace Go.Proofs.Ytpkfjdaedaplfaa
open Go.RowKit

theorem Holds.joinL {w0 w w' : World} {L A : List Part} (h : Holds w0 w L) (k : Holds w w' A) : Holds w0 w' (L ++ A) := by
  have h' := h.call k.low
  refine ⟨h'.1, fun b hb => ?_, List.pairwise_append.2 ⟨h'.2.2, k.2.2, fun a ha b hb g hg hg' => ?_⟩⟩
  · rcases List.mem_append.1 hb with hb | hb
    · exact h'.2.1 b hb
    · exact ⟨(k.2.1 b hb).1, fun g hg => Nat.le_trans h.size ((k.2.1 b hb).2 g hg)⟩
  · have h1 := a.lt _ _ (h.2.1 a ha).1 hg
    have h2 := (k.2.1 b hb).2 g hg'
    omega
theorem rowsP_length {vs : List Value} {ls : List (List Nat)} (hl : vs.length = ls.length) : (rowsP vs ls).length = ls.length := by
  induction vs generalizing ls with
  | nil => cases ls with
    | nil => rfl
    | cons => simp at hl
  | cons v vs ih => cases ls with
    | nil => simp at hl
    | cons m ls => simp only [rowsP, List.length_cons]; rw [ih (by simpa using hl)]
theorem Holds.ofOwn2 {w w' : World} {v : Value} {vs : List Value} {ls : List (List Nat)} (hb : Below w.heap.size w w') (ho : Own2v w.heap.size w' v vs ls) : Holds w w' (pVals v vs :: rowsP vs ls) := by
  have rl := rowsP_length ho.len
  have each : ∀ (i : Nat) (h : i < (rowsP vs ls).length), ∃ u l, vs[i]? = some u ∧ ls[i]? = some l ∧ (rowsP vs ls)[i] = pInts u l := fun i h => by
    have h1 : i < ls.length := by omega
    have h2 : i < vs.length := by rw [ho.len]; exact h1
    have := rowsP_at (List.getElem?_eq_getElem h2) (List.getElem?_eq_getElem h1)
    rw [List.getElem?_eq_getElem h] at this
    exact ⟨_, _, List.getElem?_eq_getElem h2, List.getElem?_eq_getElem h1, Option.some.inj this⟩
  refine ⟨hb, fun a ha => ?_, List.pairwise_cons.2 ⟨fun a ha g hg hg' => ?_, List.pairwise_iff_getElem.2 fun i j hi hj hij g hg hg' => ?_⟩⟩
  · rcases List.mem_cons.1 ha with rfl | ha
    · exact ⟨row_low ho.row (Nat.zero_le _), fun g hg => (ho.row.lt g hg).1⟩
    · obtain ⟨i, hi, rfl⟩ := List.getElem_of_mem ha
      obtain ⟨u, l, h1, h2, h3⟩ := each i hi
      rw [h3]
      have h4 := ho.each i u l h1 h2
      exact ⟨row_low h4 (Nat.zero_le _), fun g hg => (World.ownsRow.lt h4 g hg).1⟩
  · obtain ⟨i, hi, rfl⟩ := List.getElem_of_mem ha
    obtain ⟨u, l, h1, h2, h3⟩ := each i hi
    rw [h3] at hg'
    have h4 := ho.each i u l h1 h2
    change v.ownBlock = some g at hg
    change u.ownBlock = some g at hg'
    rcases own_ne ho.row h4 (by decide) with c | c
    · rw [c] at hg; cases hg
    · exact c (by rw [hg]; exact hg'.symm)
  · obtain ⟨u, l, h1, h2, h3⟩ := each i hi
    obtain ⟨u', l', h1', h2', h3'⟩ := each j hj
    rw [h3] at hg
    rw [h3'] at hg'
    change u.ownBlock = some g at hg
    change u'.ownBlock = some g at hg'
    rcases ho.dist i j u u' hij h1 h1' with c | c
    · rw [c] at hg; cases hg
    · exact c (by rw [hg]; exact hg'.symm)
/-- the i-th list, and the cell that holds its slice -/
theorem Holds.rowAt {w0 w : World} {L : List Part} {v : Value} {vs : List Value} {ls : List (List Nat)} (h : Holds w0 w L) (hl : vs.length = ls.length) (a : Nat) (ha : L[a]? = some (pVals v vs)) (hr : ∀ i, L[i + (a + 1)]? = (rowsP vs ls)[i]?) {i : Nat} (hi : i < ls.length) :
    ∃ g c A' c', v = .slice (some ⟨g, 0, none⟩) vs.length c ∧ vs[i]? = some (.slice A' ls[i].length c') ∧ w.cell? ⟨g, i, none⟩ = some (.slice A' ls[i].length c') ∧ L[i + (a + 1)]? = some (pInts (.slice A' ls[i].length c') ls[i]) := by
  have hv : i < vs.length := by omega
  have hpart : L[i + (a + 1)]? = some (pInts vs[i] ls[i]) := by rw [hr]; exact rowsP_at (List.getElem?_eq_getElem hv) (List.getElem?_eq_getElem hi)
  obtain ⟨A', c', e⟩ := h.intsForm _ hpart
  obtain ⟨g, c, h1, _, _, _, _, h6, _⟩ := row_at (h.row a ha) (by omega)
  have h7 := h6 i _ (List.getElem?_eq_getElem hv)
  rw [e] at h7 hpart
  exact ⟨g, c, A', c', h1, by rw [List.getElem?_eq_getElem hv, e], h7, hpart⟩
end Go.Proofs.Ytpkfjdaedaplfaa
