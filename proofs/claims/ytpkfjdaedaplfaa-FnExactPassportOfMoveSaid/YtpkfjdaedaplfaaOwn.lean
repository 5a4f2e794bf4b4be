/- Rows that a call makes: lists of numbers, and lists of such lists. -/
import Derived.Test.YtpkfjdaedaplfaaAgg
import Derived.Test.YtpkfjdaedaplfaaPerm
import Derived.Laws.OwnMore
namespace Go.Proofs.Ytpkfjdaedaplfaa
open Go.RowKit

/-- numbers as cells -/
def nums (l : List Nat) : List Value := l.map fun (x : Nat) => Value.int .i64 (x : Int)
/-- a list of numbers in a row of its own from block B on -/
def Own1 (B : Nat) (w : World) (v : Value) (l : List Nat) : Prop := w.ownsRow B 2 1 v l.length (nums l)
/-- a list of such lists, each in a row of its own -/
def Own2 (B : Nat) (w : World) (v : Value) (ls : List (List Nat)) : Prop :=
  ∃ vs : List Value, vs.length = ls.length ∧ w.ownsRow B 79 1 v vs.length vs ∧ (∀ (i : Nat) (u : Value) (l : List Nat), vs[i]? = some u → ls[i]? = some l → Own1 B w u l) ∧
    ∀ (i j : Nat) (u u' : Value), i < j → vs[i]? = some u → vs[j]? = some u' → u.ownBlock = none ∨ u.ownBlock ≠ u'.ownBlock

theorem grown_refl (w : World) (r : Option Nat) : w.grownBy w r := ⟨rfl, rfl, rfl, Nat.le_refl _, fun _ _ _ => rfl⟩
theorem grown_drew {a w : World} {r : Option Nat} (h : a.grownBy w r) : a.grownBy w.drew r := ⟨h.os, h.tape, h.output, h.size, h.block⟩
theorem grown_alloc {a w : World} {r : Option Nat} (h : a.grownBy w r) (o : Obj) : a.grownBy (w.alloc o) r :=
  ⟨h.os, h.tape, h.output, by have := h.size; simp; omega, fun k hk hr => (Below.heap_alloc w o k (by have := h.size; omega)).trans (h.block k hk hr)⟩
/-- one step more, whose row is new or the same -/
theorem grown_step {a w w' : World} {r s : Option Nat} (h : a.grownBy w r) (k : w.grownBy w' s) (hs : ∀ g, s = some g → a.heap.size ≤ g ∨ r = some g) : a.grownBy w' r :=
  ⟨k.os.trans h.os, k.tape.trans h.tape, k.output.trans h.output, Nat.le_trans h.size k.size, fun g hg hr =>
    (k.block g (by have := h.size; omega) (fun e => by rcases hs g e.symm with c | c; omega; exact hr c.symm)).trans (h.block g hg hr)⟩
theorem grown_setCell {a w : World} {g i : Nat} {v : Value} (h : a.grownBy w (some g)) : a.grownBy (w.setCell ⟨g, i, none⟩ v) (some g) :=
  ⟨h.os, h.tape, h.output, by have := h.size; simpa using this, fun k hk hr => (Below.heap_setCell w ⟨g, i, none⟩ v k (fun e => hr (by rw [e]))).trans (h.block k hk hr)⟩
theorem grown_of_below {w w' : World} (h : Below w.heap.size w w') (r : Option Nat) : w.grownBy w' r := ⟨h.os, h.tape, h.output, h.size, fun k hk _ => h.block k hk⟩

theorem grown_cells {a b : World} {r : Option Nat} {g : Nat} (h : a.grownBy b r) (hg : g < a.heap.size) (hr : some g ≠ r) : cellsOf b g = cellsOf a g := by unfold cellsOf; rw [h.block g hg hr]
theorem grown_row {a b : World} {r : Option Nat} {g n : Nat} (h : a.grownBy b r) (hg : g < a.heap.size) (hr : some g ≠ r) : rowOk b g n ↔ rowOk a g n := by unfold rowOk; rw [h.block g hg hr]
theorem below_grown {B : Nat} {w0 a b : World} {r : Option Nat} (h : Below B w0 a) (hg : a.grownBy b r) (hB : B ≤ a.heap.size) (hr : ∀ g, r = some g → B ≤ g) : Below B w0 b := h.grown hg hB hr
/-- the one cell that was made last -/
theorem one_new (w : World) (v : Value) (t : TypeId) (g : Nat) (hg : g = w.heap.size) : ∀ (j : Nat) (u : Value), [v][j]? = some u → (w.alloc (.cells #[v] t)).cell? ((⟨g, 0, none⟩ : Addr).add j) = some u := by
  intro j u h
  rcases j with _ | j
  · simp at h; subst h
    rw [show ((⟨g, 0, none⟩ : Addr).add 0) = ⟨g, 0, none⟩ from rfl, cell_of_cells, cellsOf_at hg]; rfl
  · simp at h
/-- what owns a row is a slice -/
theorem own_slice {w : World} {B : Nat} {e : TypeId} {s n : Nat} {v : Value} {xs : List Value} (h : w.ownsRow B e s v n xs) : ∃ A c, v = .slice A n c := by
  rcases h.2 with ⟨rfl, rfl⟩ | ⟨g, cap, cur, rfl, _⟩
  · exact ⟨_, _, rfl⟩
  · exact ⟨_, _, rfl⟩
theorem Own1.kept {B : Nat} {w w' : World} {v : Value} {l : List Nat} {r : Option Nat} (h : Own1 B w v l) (hg : w.grownBy w' r) (hne : v.ownBlock = none ∨ v.ownBlock ≠ r) : Own1 B w' v l := World.ownsRow.kept h hg hne
theorem Own1.mono {B B' : Nat} {w : World} {v : Value} {l : List Nat} (h : Own1 B w v l) (hB : B' ≤ B) : Own1 B' w v l := by
  refine ⟨h.1, ?_⟩
  rcases h.2 with h | ⟨g, cap, cur, h1, h2, h3⟩
  · exact .inl h
  · exact .inr ⟨g, cap, cur, h1, by omega, h3⟩
theorem Own1.nil (B : Nat) (w : World) : Own1 B w (.slice none 0 0) [] := World.ownsRow_nil _ _ _ _
/-- rows of different elements are different blocks -/
theorem own_ne {B B' : Nat} {w : World} {e e' : TypeId} {s s' n n' : Nat} {v v' : Value} {xs xs' : List Value} (h : w.ownsRow B e s v n xs) (h' : w.ownsRow B' e' s' v' n' xs') (hne : e ≠ e') : v.ownBlock = none ∨ v.ownBlock ≠ v'.ownBlock := by
  rcases h.2 with ⟨rfl, _⟩ | ⟨g, cap, cur, rfl, _, hh, _⟩
  · exact .inl rfl
  · refine .inr fun e => ?_
    rcases h'.2 with ⟨rfl, _⟩ | ⟨g', cap', cur', rfl, _, hh', _⟩
    · cases e
    · have : g = g' := by simpa [Value.ownBlock] using e
      subst this
      rw [hh] at hh'
      simp at hh'
      exact hne hh'.2
theorem Own2.kept {B : Nat} {w w' : World} {v : Value} {ls : List (List Nat)} {r : Option Nat} (h : Own2 B w v ls) (hg : w.grownBy w' r) (hr : ∀ g, r = some g → g < B) : Own2 B w' v ls := by
  obtain ⟨vs, hl, ho, hi, hd⟩ := h
  have far : ∀ {e : TypeId} {s n : Nat} {u : Value} {xs : List Value}, w.ownsRow B e s u n xs → u.ownBlock = none ∨ u.ownBlock ≠ r := by
    intro e s n u xs hu
    rcases hb : u.ownBlock with _ | k
    · exact .inl rfl
    · refine .inr fun e => ?_
      have := hr k e.symm
      have := hu.lt k hb
      omega
  exact ⟨vs, hl, ho.kept hg (far ho), fun i u l h1 h2 => (hi i u l h1 h2).kept hg (far (hi i u l h1 h2)), hd⟩
theorem Own2.nil (B : Nat) (w : World) : Own2 B w (.slice none 0 0) [] := ⟨[], rfl, World.ownsRow_nil _ _ _ _, fun i u l h => by simp at h, fun i j u u' _ h => by simp at h⟩
/-- one list more -/
theorem Own2.add {B C : Nat} {w w' : World} {v v' u : Value} {ls : List (List Nat)} {l : List Nat} {vs : List Value} (hl : vs.length = ls.length) (ho : w.ownsRow B 79 1 v vs.length vs)
    (hi : ∀ (i : Nat) (u : Value) (l : List Nat), vs[i]? = some u → ls[i]? = some l → Own1 B w u l) (hd : ∀ (i j : Nat) (u u' : Value), i < j → vs[i]? = some u → vs[j]? = some u' → u.ownBlock = none ∨ u.ownBlock ≠ u'.ownBlock)
    (hu : Own1 C w u l) (hBC : B ≤ C) (hC : ∀ (i : Nat) (x : Value), vs[i]? = some x → ∀ g, x.ownBlock = some g → g < C)
    (ho' : w'.ownsRow B 79 1 v' (vs.length + 1) (vs ++ [u])) (hg : w.grownBy w' v.ownBlock) : Own2 B w' v' (ls ++ [l]) := by
  have k1 : ∀ (i : Nat) (x : Value) (m : List Nat), vs[i]? = some x → ls[i]? = some m → Own1 B w' x m := fun i x m h1 h2 => (hi i x m h1 h2).kept hg (own_ne (hi i x m h1 h2) ho (by decide))
  have k2 : Own1 C w' u l := hu.kept hg (own_ne hu ho (by decide))
  refine ⟨vs ++ [u], by simp [hl], by simpa using ho', ?_, ?_⟩
  · intro i x m h1 h2
    rcases Nat.lt_or_ge i vs.length with c | c
    · rw [List.getElem?_append_left c] at h1
      rw [List.getElem?_append_left (by omega)] at h2
      exact k1 i x m h1 h2
    · rw [List.getElem?_append_right c] at h1
      rw [List.getElem?_append_right (by omega)] at h2
      rw [hl] at h1
      rcases hz : i - ls.length with _ | z
      · rw [hz] at h1 h2; simp at h1 h2; subst h1 h2; exact k2.mono hBC
      · rw [hz] at h1; simp at h1
  · intro i j x x' hij h1 h2
    rcases Nat.lt_or_ge j vs.length with c | c
    · rw [List.getElem?_append_left (by omega)] at h1
      rw [List.getElem?_append_left c] at h2
      exact hd i j x x' hij h1 h2
    · rw [List.getElem?_append_right c] at h2
      have hj : j - vs.length = 0 := by
        rcases hz : j - vs.length with _ | z
        · rfl
        · rw [hz] at h2; simp at h2
      have hjl : j = vs.length := by omega
      subst hjl
      simp at h2; subst h2
      rw [List.getElem?_append_left hij] at h1
      rcases hx : x.ownBlock with _ | g
      · exact .inl rfl
      · refine .inr fun e => ?_
        have a := hC i x h1 g hx
        have b := World.ownsRow.lt hu g e.symm
        omega
/-- a row is no block of another kind -/
theorem own_ne_blk {B : Nat} {w : World} {e t : TypeId} {s n g : Nat} {v : Value} {xs : List Value} {cs : Array Value} {fr : Nat × Nat} (h : w.ownsRow B e s v n xs) (hg : w.heap[g]? = some (.cells cs t fr)) (hne : e ≠ t) : v.ownBlock = none ∨ v.ownBlock ≠ some g := by
  rcases h.2 with ⟨rfl, _⟩ | ⟨g', cap, cur, rfl, _, hh, _⟩
  · exact .inl rfl
  · refine .inr fun e => ?_
    have : g' = g := by simpa [Value.ownBlock] using e
    subst this
    rw [hh] at hg
    simp at hg
    exact hne hg.2.1
/-- an empty list that is not nil -/
theorem own_empty (w : World) (e : TypeId) (s : Nat) (B : Nat) (hB : B ≤ w.heap.size) : (w.alloc (.cells #[] e)).ownsRow B e s (.slice (some ⟨w.heap.size, 0, none⟩) 0 0) 0 [] :=
  ⟨by simp, .inr ⟨w.heap.size, 0, #[], rfl, hB, heap_at _ _ _ rfl, Nat.le_refl _, by unfold maxLen; omega, by simp, by simp⟩⟩
theorem Own2.keptBlk {B g : Nat} {w w' : World} {v : Value} {ls : List (List Nat)} {cs : Array Value} {t : TypeId} {fr : Nat × Nat} (h : Own2 B w v ls) (hg : w.grownBy w' (some g)) (hb : w.heap[g]? = some (.cells cs t fr)) (h1 : 2 ≠ t) (h2 : 79 ≠ t) : Own2 B w' v ls := by
  obtain ⟨vs, hl, ho, hi, hd⟩ := h
  exact ⟨vs, hl, ho.kept hg (own_ne_blk ho hb h2), fun i u l a b => (hi i u l a b).kept hg (own_ne_blk (hi i u l a b) hb h1), hd⟩
theorem Own2.mono {B B' : Nat} {w : World} {v : Value} {ls : List (List Nat)} (h : Own2 B w v ls) (hB : B' ≤ B) : Own2 B' w v ls := by
  obtain ⟨vs, a, b, c, d⟩ := h
  exact ⟨vs, a, ⟨b.1, b.2.imp id (fun ⟨g, cap, cur, h1, h2, h3⟩ => ⟨g, cap, cur, h1, by omega, h3⟩)⟩, fun i u l h1 h2 => (c i u l h1 h2).mono hB, d⟩
/-- the number of lists is the slice's length -/
theorem Own2.form {B : Nat} {w : World} {v : Value} {ls : List (List Nat)} (h : Own2 B w v ls) : ∃ A c, v = .slice A ls.length c := by
  obtain ⟨vs, a, b, _, _⟩ := h
  obtain ⟨A, c, e⟩ := own_slice b
  exact ⟨A, c, by rw [e, a]⟩
end Go.Proofs.Ytpkfjdaedaplfaa
