/- Rows of numbers that the call holds. -/
import Derived.Test.YteeideminlcblaaDoorAppH
import Derived.Test.YteeideminlcblaaDoorCycL
namespace Go.Proofs.YteeideminlcblaaDoor
open Go.RowKit

def pInts (v : Value) (l : List Nat) : Part := pRow v 2 1 l.length (nums l)
theorem nums_length (l : List Nat) : (nums l).length = l.length := by unfold nums; simp
theorem nums_at {l : List Nat} {k : Nat} (hk : k < l.length) : (nums l)[k]? = some (.int .i64 (l[k] : Nat)) := by unfold nums; simp [hk]
theorem Holds.ints {w0 w : World} {L : List Part} (h : Holds w0 w L) (i : Nat) {v : Value} {l : List Nat} (hi : L[i]? = some (pInts v l)) {k : Nat} (hk : k < l.length) :
    ∃ g c, v = .slice (some ⟨g, 0, none⟩) l.length c ∧ g < w.heap.size ∧ w.cell? ⟨g, k, none⟩ = some (.int .i64 (l[k] : Nat)) ∧ w.frozen? ⟨g, k, none⟩ = false := by
  obtain ⟨g, c, h1, h2, h3, h4, h5, h6, h7⟩ := row_at (h.row i hi) (by omega : 0 < l.length)
  exact ⟨g, c, h1, h3, h6 _ _ (nums_at hk), h7 k⟩
theorem Holds.intsForm {w0 w : World} {L : List Part} (h : Holds w0 w L) (i : Nat) {v : Value} {l : List Nat} (hi : L[i]? = some (pInts v l)) : ∃ A c, v = .slice A l.length c := own_slice (h.row i hi)
theorem Holds.own1 {w0 w : World} {L : List Part} (h : Holds w0 w L) (i : Nat) {v : Value} {l : List Nat} (hi : L[i]? = some (pInts v l)) : Own1 w0.heap.size w v l := h.row i hi
theorem nums_one {l : List Nat} : ∀ u ∈ nums l, u.oneCell' = true := by
  intro u hu
  obtain ⟨x, _, rfl⟩ := List.mem_map.1 hu
  rfl
-- left out here: None
end Go.Proofs.YteeideminlcblaaDoor
