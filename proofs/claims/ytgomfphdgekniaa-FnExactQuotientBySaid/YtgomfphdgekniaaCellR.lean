/- Cells of a row that is held. -/
import Derived.Test.YtgomfphdgekniaaHS2
namespace Go.Proofs.Ytgomfphdgekniaa
open Go.RowKit

theorem Holds.cellR {w0 w : World} {L : List Part} (h : Holds w0 w L) (i : Nat) {g n c : Nat} {e : TypeId} {s : Nat} {xs : List Value} (hi : L[i]? = some (pRow (.slice (some ⟨g, 0, none⟩) n c) e s n xs)) {j : Nat} {u : Value} (hj : xs[j]? = some u) : w.cell? ⟨g, j, none⟩ = some u := by
  have hn : 0 < n := by
    have h1 := (h.row i hi).1
    have h2 := (List.getElem?_eq_some_iff.1 hj).1
    rcases Nat.eq_zero_or_pos n with rfl | c
    · simp at h1; subst h1; simp at h2
    · exact c
  obtain ⟨g', c', e1, _, _, _, _, h6, _⟩ := row_at (h.row i hi) hn
  injection e1 with e1
  injection e1 with e1
  injection e1 with e1
  subst e1
  exact h6 j u hj
theorem Holds.frozenR {w0 w : World} {L : List Part} (h : Holds w0 w L) (i : Nat) {g n c : Nat} {e : TypeId} {s : Nat} {xs : List Value} (hi : L[i]? = some (pRow (.slice (some ⟨g, 0, none⟩) n c) e s n xs)) (hn : 0 < n) (j : Nat) : w.frozen? ⟨g, j, none⟩ = false := by
  obtain ⟨g', c', e1, _, _, _, _, _, h7⟩ := row_at (h.row i hi) hn
  injection e1 with e1
  injection e1 with e1
  injection e1 with e1
  subst e1
  exact h7 j
theorem Holds.cellV {w0 w : World} {L : List Part} (h : Holds w0 w L) (i : Nat) {g n c : Nat} {vs : List Value} (hi : L[i]? = some (pVals (.slice (some ⟨g, 0, none⟩) n c) vs)) (hl : vs.length = n) {j : Nat} {u : Value} (hj : vs[j]? = some u) : w.cell? ⟨g, j, none⟩ = some u := by
  subst hl
  exact h.cellR i hi hj
end Go.Proofs.Ytgomfphdgekniaa
