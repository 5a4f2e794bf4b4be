/- A list of lists that a call has handed back, as parts. -/
import Derived.Test.YteeideminlcblaaDoorHS2
namespace Go.Proofs.YteeideminlcblaaDoor
open Go.RowKit

theorem Holds.joinL {w0 w w' : World} {L A : List Part} (h : Holds w0 w L) (k : Holds w w' A) : Holds w0 w' (L ++ A) := by
  have h' := h.call k.low
  refine ⟨h'.1, fun b hb => ?_, List.pairwise_append.2 ⟨h'.2.2, k.2.2, fun a ha b hb g hg hg' => ?_⟩⟩
  · rcases List.mem_append.1 hb with hb | hb
    · exact h'.2.1 b hb
    · exact ⟨(k.2.1 b hb).1, fun g hg => Nat.le_trans h.size ((k.2.1 b hb).2 g hg)⟩
  · have h1 := a.lt _ _ (h.2.1 a ha).1 hg
    have h2 := (k.2.1 b hb).2 g hg'
    omega
theorem rowsP_length {vs : List Value} {ls : List (List Nat)} (hl : vs.length = ls.length) : (rowsP vs ls).length = ls.length := by
  induction vs generalizing ls with
  | nil => cases ls with
    | nil => rfl
    | cons => simp at hl
  | cons v vs ih => cases ls with
    | nil => simp at hl
    | cons m ls => simp only [rowsP, List.length_cons]; rw [ih (by simpa using hl)]
-- left out here: Own2v
-- left out here: pVals
end Go.Proofs.YteeideminlcblaaDoor
