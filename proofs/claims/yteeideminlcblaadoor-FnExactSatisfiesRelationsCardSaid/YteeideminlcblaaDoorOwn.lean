/- Rows that a call makes: lists of numbers, and lists of such lists. -/
import Derived.Test.YteeideminlcblaaDoorAgg
import Derived.Test.YteeideminlcblaaDoorPerm
import Derived.Laws.OwnMore
namespace Go.Proofs.YteeideminlcblaaDoor
open Go.RowKit

/-- numbers as cells -/
def nums (l : List Nat) : List Value := l.map fun (x : Nat) => Value.int .i64 (x : Int)
/-- a list of numbers in a row of its own from block B on -/
def Own1 (B : Nat) (w : World) (v : Value) (l : List Nat) : Prop := w.ownsRow B 2 1 v l.length (nums l)
-- left out here: None
theorem grown_refl (w : World) (r : Option Nat) : w.grownBy w r := ⟨rfl, rfl, rfl, Nat.le_refl _, fun _ _ _ => rfl⟩
theorem grown_drew {a w : World} {r : Option Nat} (h : a.grownBy w r) : a.grownBy w.drew r := ⟨h.os, h.tape, h.output, h.size, h.block⟩
theorem grown_alloc {a w : World} {r : Option Nat} (h : a.grownBy w r) (o : Obj) : a.grownBy (w.alloc o) r :=
  ⟨h.os, h.tape, h.output, by have := h.size; simp; omega, fun k hk hr => (Below.heap_alloc w o k (by have := h.size; omega)).trans (h.block k hk hr)⟩
/-- one step more, whose row is new or the same -/
theorem grown_step {a w w' : World} {r s : Option Nat} (h : a.grownBy w r) (k : w.grownBy w' s) (hs : ∀ g, s = some g → a.heap.size ≤ g ∨ r = some g) : a.grownBy w' r :=
  ⟨k.os.trans h.os, k.tape.trans h.tape, k.output.trans h.output, Nat.le_trans h.size k.size, fun g hg hr =>
    (k.block g (by have := h.size; omega) (fun e => by rcases hs g e.symm with c | c; omega; exact hr c.symm)).trans (h.block g hg hr)⟩
theorem grown_setCell {a w : World} {g i : Nat} {v : Value} (h : a.grownBy w (some g)) : a.grownBy (w.setCell ⟨g, i, none⟩ v) (some g) :=
  ⟨h.os, h.tape, h.output, by have := h.size; simpa using this, fun k hk hr => (Below.heap_setCell w ⟨g, i, none⟩ v k (fun e => hr (by rw [e]))).trans (h.block k hk hr)⟩
theorem grown_of_below {w w' : World} (h : Below w.heap.size w w') (r : Option Nat) : w.grownBy w' r := ⟨h.os, h.tape, h.output, h.size, fun k hk _ => h.block k hk⟩

theorem grown_cells {a b : World} {r : Option Nat} {g : Nat} (h : a.grownBy b r) (hg : g < a.heap.size) (hr : some g ≠ r) : cellsOf b g = cellsOf a g := by unfold cellsOf; rw [h.block g hg hr]
theorem grown_row {a b : World} {r : Option Nat} {g n : Nat} (h : a.grownBy b r) (hg : g < a.heap.size) (hr : some g ≠ r) : rowOk b g n ↔ rowOk a g n := by unfold rowOk; rw [h.block g hg hr]
theorem below_grown {B : Nat} {w0 a b : World} {r : Option Nat} (h : Below B w0 a) (hg : a.grownBy b r) (hB : B ≤ a.heap.size) (hr : ∀ g, r = some g → B ≤ g) : Below B w0 b := h.grown hg hB hr
/-- the one cell that was made last -/
theorem one_new (w : World) (v : Value) (t : TypeId) (g : Nat) (hg : g = w.heap.size) : ∀ (j : Nat) (u : Value), [v][j]? = some u → (w.alloc (.cells #[v] t)).cell? ((⟨g, 0, none⟩ : Addr).add j) = some u := by
  intro j u h
  rcases j with _ | j
  · simp at h; subst h
    rw [show ((⟨g, 0, none⟩ : Addr).add 0) = ⟨g, 0, none⟩ from rfl, cell_of_cells, cellsOf_at hg]; rfl
  · simp at h
/-- what owns a row is a slice -/
theorem own_slice {w : World} {B : Nat} {e : TypeId} {s n : Nat} {v : Value} {xs : List Value} (h : w.ownsRow B e s v n xs) : ∃ A c, v = .slice A n c := by
  rcases h.2 with ⟨rfl, rfl⟩ | ⟨g, cap, cur, rfl, _⟩
  · exact ⟨_, _, rfl⟩
  · exact ⟨_, _, rfl⟩
theorem Own1.kept {B : Nat} {w w' : World} {v : Value} {l : List Nat} {r : Option Nat} (h : Own1 B w v l) (hg : w.grownBy w' r) (hne : v.ownBlock = none ∨ v.ownBlock ≠ r) : Own1 B w' v l := World.ownsRow.kept h hg hne
theorem Own1.mono {B B' : Nat} {w : World} {v : Value} {l : List Nat} (h : Own1 B w v l) (hB : B' ≤ B) : Own1 B' w v l := by
  refine ⟨h.1, ?_⟩
  rcases h.2 with h | ⟨g, cap, cur, h1, h2, h3⟩
  · exact .inl h
  · exact .inr ⟨g, cap, cur, h1, by omega, h3⟩
theorem Own1.nil (B : Nat) (w : World) : Own1 B w (.slice none 0 0) [] := World.ownsRow_nil _ _ _ _
/-- rows of different elements are different blocks -/
theorem own_ne {B B' : Nat} {w : World} {e e' : TypeId} {s s' n n' : Nat} {v v' : Value} {xs xs' : List Value} (h : w.ownsRow B e s v n xs) (h' : w.ownsRow B' e' s' v' n' xs') (hne : e ≠ e') : v.ownBlock = none ∨ v.ownBlock ≠ v'.ownBlock := by
  rcases h.2 with ⟨rfl, _⟩ | ⟨g, cap, cur, rfl, _, hh, _⟩
  · exact .inl rfl
  · refine .inr fun e => ?_
    rcases h'.2 with ⟨rfl, _⟩ | ⟨g', cap', cur', rfl, _, hh', _⟩
    · cases e
    · have : g = g' := by simpa [Value.ownBlock] using e
      subst this
      rw [hh] at hh'
      simp at hh'
      exact hne hh'.2
-- left out here: Own2
-- left out here: Own2
-- left out here: None
/-- a row is no block of another kind -/
theorem own_ne_blk {B : Nat} {w : World} {e t : TypeId} {s n g : Nat} {v : Value} {xs : List Value} {cs : Array Value} {fr : Nat × Nat} (h : w.ownsRow B e s v n xs) (hg : w.heap[g]? = some (.cells cs t fr)) (hne : e ≠ t) : v.ownBlock = none ∨ v.ownBlock ≠ some g := by
  rcases h.2 with ⟨rfl, _⟩ | ⟨g', cap, cur, rfl, _, hh, _⟩
  · exact .inl rfl
  · refine .inr fun e => ?_
    have : g' = g := by simpa [Value.ownBlock] using e
    subst this
    rw [hh] at hg
    simp at hg
    exact hne hg.2.1
/-- an empty list that is not nil -/
theorem own_empty (w : World) (e : TypeId) (s : Nat) (B : Nat) (hB : B ≤ w.heap.size) : (w.alloc (.cells #[] e)).ownsRow B e s (.slice (some ⟨w.heap.size, 0, none⟩) 0 0) 0 [] :=
  ⟨by simp, .inr ⟨w.heap.size, 0, #[], rfl, hB, heap_at _ _ _ rfl, Nat.le_refl _, by unfold maxLen; omega, by simp, by simp⟩⟩
-- left out here: None
-- left out here: Own2
-- left out here: Own2
end Go.Proofs.YteeideminlcblaaDoor
