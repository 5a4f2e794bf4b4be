/- laws.eqInt64S, markInt64S, heldInt64S and those on lists of lists -/
import Derived.Test.YteeideminlcblaaDoorOwn
import Derived.RegionTactic
import Derived.Deep.RegionWith
namespace Go.Proofs.YteeideminlcblaaDoor
open Go.RowKit

theorem Own1.len {B : Nat} {w : World} {A : Option Addr} {n c : Nat} {l : List Nat} (h : Own1 B w (.slice A n c) l) : n = l.length := by
  rcases h.2 with ⟨e, h0⟩ | ⟨g, cap, cur, e, _⟩
  · injection e with _ e _; omega
  · injection e
theorem Own1.at {B : Nat} {w : World} {A : Option Addr} {n c k : Nat} {l : List Nat} (h : Own1 B w (.slice A n c) l) (hk : k < l.length) :
    ∃ g, A = some ⟨g, 0, none⟩ ∧ B ≤ g ∧ g < w.heap.size ∧ w.cell? ⟨g, k, none⟩ = some (.int .i64 (l[k] : Nat)) ∧ w.frozen? ⟨g, k, none⟩ = false := by
  rcases h.2 with ⟨_, h0⟩ | ⟨g, cap, cur, e, hB, hh, h1, h2, h3, h4⟩
  · omega
  · injection e with e1 e2 e3
    have hlt : g < w.heap.size := (Array.getElem?_eq_some_iff.1 hh).1
    refine ⟨g, e1, hB, hlt, ?_, by simp [World.frozen?, hh]⟩
    rw [cell_of_cells, cellsOf_heap hh]
    have : (cur.toList.take (l.length * 1))[k]? = (nums l)[k]? := by rw [h4]
    rw [List.getElem?_take_of_lt (by omega), Array.getElem?_toList] at this
    rw [this]
    simp [nums, hk]

-- left out here: loop.example/g01200/laws.eqInt64S
/-- k, k + 1, .. -/
def marks (k n : Nat) : List Nat := (List.range n).map fun i => k + i
theorem marks_length (k n : Nat) : (marks k n).length = n := by unfold marks; simp
theorem marks_get (k n i : Nat) (h : i < n) : (marks k n)[i]? = some (k + i) := by unfold marks; simp [h]

theorem own_set {B : Nat} {w : World} {g n c k x : Nat} {l : List Nat} (h : Own1 B w (.slice (some ⟨g, 0, none⟩) n c) l) (hk : k < l.length) : Own1 B (w.setCell ⟨g, k, none⟩ (.int .i64 (x : Nat))) (.slice (some ⟨g, 0, none⟩) n c) (l.set k x) := by
  unfold Own1 at *
  rcases h.2 with ⟨e, _⟩ | ⟨g', cap, cur, e, hB, hh, h1, h2, h3, h4⟩
  · cases e
  · injection e with e1 e2 e3
    have : g = g' := by injection e1 with e1; injection e1
    subst this
    refine ⟨by simp [nums], .inr ⟨g, cap, cur.setIfInBounds k (.int .i64 (x : Nat)), by rw [e2, e3, List.length_set], hB, heap_setCell_same w g k cur _ _ hh, by simpa using h1, h2, by simpa using h3, ?_⟩⟩
    simp only [Array.toList_setIfInBounds, List.length_set, List.take_set]
    rw [h4]
    simp [nums, List.map_set]

-- left out here: loop.example/g01200/laws.markInt64S
-- left out here: loop.example/g01200/laws.heldInt64S
-- left out here: None
-- left out here: Own2
-- left out here: Own2v
-- left out here: Own2v
-- left out here: Own2v
-- left out here: Own2v
def total (ls : List (List Nat)) : Nat := (ls.map List.length).sum
/-- all numbers counted through -/
def marksL (k : Nat) : List (List Nat) → List (List Nat)
  | [] => []
  | l :: ls => marks k l.length :: marksL (k + l.length) ls
theorem marksL_length (ls : List (List Nat)) : ∀ k, (marksL k ls).length = ls.length := by
  induction ls with
  | nil => intro k; rfl
  | cons l ls ih => intro k; simp [marksL, ih]
theorem marksL_get (ls : List (List Nat)) : ∀ (k i : Nat) (h : i < ls.length), (marksL k ls)[i]? = some (marks (k + total (ls.take i)) ls[i].length) := by
  induction ls with
  | nil => intro k i h; simp at h
  | cons l ls ih =>
    intro k i h
    rcases i with _ | i
    · simp [marksL, total]
    · simp only [List.length_cons] at h
      simp only [marksL, List.getElem?_cons_succ, List.take_succ_cons, List.getElem_cons_succ]
      rw [ih (k + l.length) i (by omega)]
      simp [total, Nat.add_assoc]
theorem total_take_succ (ls : List (List Nat)) (i : Nat) (h : i < ls.length) : total (ls.take (i + 1)) = total (ls.take i) + ls[i].length := by
  unfold total
  rw [List.take_succ_eq_append_getElem h, List.map_append, List.sum_append]
  simp
theorem total_take_le (ls : List (List Nat)) (i : Nat) : total (ls.take i) ≤ total ls := by
  unfold total
  conv => rhs; rw [← List.take_append_drop i ls, List.map_append, List.sum_append]
  omega
theorem len_le_total (ls : List (List Nat)) (i : Nat) (h : i < ls.length) : ls[i].length ≤ total ls := by
  have := total_take_succ ls i h
  have := total_take_le ls (i + 1)
  omega

-- left out here: loop.example/g01200/laws.markInt64SS
-- left out here: loop.example/g01200/laws.heldInt64SS
-- left out here: loop.example/g01200/laws.eqInt64S loop.example/g01200/laws.eqInt64SS
-- left out here: Own2
-- left out here: Own2v
-- left out here: loop.example/g01200/laws.markInt64SS
-- left out here: loop.example/g01200/laws.heldInt64SS
end Go.Proofs.YteeideminlcblaaDoor
