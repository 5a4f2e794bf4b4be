/- What a call holds of its own memory: parts with footprints that lie apart; each part is turned alone. -/
import Derived.Test.YtpkfjdaedaplfaaOwn
namespace Go.Proofs.Ytpkfjdaedaplfaa
open Go.RowKit

/-- a part of memory: its blocks, and what holds of them -/
structure Part where
  own : Nat → Prop
  ok : World → Prop
  keep : ∀ w w' : World, ok w → (∀ g, own g → w'.heap[g]? = w.heap[g]?) → ok w'
  lt : ∀ (w : World) (g : Nat), ok w → own g → g < w.heap.size

theorem lt_of_some {w : World} {g : Nat} {o : Obj} (h : w.heap[g]? = some o) : g < w.heap.size := (Array.getElem?_eq_some_iff.1 h).1

/-- a whole block of cells -/
def pBlk (g : Nat) (c : Array Value) (t : TypeId) : Part where
  own k := k = g
  ok w := w.heap[g]? = some (.cells c t (0, 0))
  keep _ _ h k := (k g rfl).trans h
  lt _ _ h k := by subst k; exact lt_of_some h
/-- another object -/
def pObj (g : Nat) (o : Obj) : Part where
  own k := k = g
  ok w := w.heap[g]? = some o
  keep _ _ h k := (k g rfl).trans h
  lt _ _ h k := by subst k; exact lt_of_some h
/-- a row that grows -/
def pRow (v : Value) (e : TypeId) (s n : Nat) (xs : List Value) : Part where
  own k := v.ownBlock = some k
  ok w := w.ownsRow 0 e s v n xs
  keep w w' h k := by
    refine ⟨h.1, ?_⟩
    rcases h.2 with ⟨rfl, rfl⟩ | ⟨g, cap, cur, rfl, hb, hg, h1⟩
    · exact .inl ⟨rfl, rfl⟩
    · exact .inr ⟨g, cap, cur, rfl, hb, (k g rfl).trans hg, h1⟩
  lt w g h k := (World.ownsRow.lt h g k).2
/-- all of some parts -/
def Holds (w0 w : World) (L : List Part) : Prop :=
  Below w0.heap.size w0 w ∧ (∀ a ∈ L, a.ok w ∧ ∀ g, a.own g → w0.heap.size ≤ g) ∧ L.Pairwise (fun a b => ∀ g, a.own g → b.own g → False)

theorem Holds.start (w : World) : Holds w w [] := ⟨Below.refl _ _, by simp, List.Pairwise.nil⟩
theorem Holds.low {w0 w : World} {L : List Part} (h : Holds w0 w L) : Below w0.heap.size w0 w := h.1
theorem Holds.size {w0 w : World} {L : List Part} (h : Holds w0 w L) : w0.heap.size ≤ w.heap.size := h.1.size
theorem Holds.at {w0 w : World} {L : List Part} (h : Holds w0 w L) (i : Nat) {a : Part} (hi : L[i]? = some a) : a.ok w := (h.2.1 a (List.mem_of_getElem? hi)).1
theorem Holds.above {w0 w : World} {L : List Part} (h : Holds w0 w L) (i : Nat) {a : Part} (hi : L[i]? = some a) {g : Nat} (hg : a.own g) : w0.heap.size ≤ g := (h.2.1 a (List.mem_of_getElem? hi)).2 g hg
theorem Holds.apart {w0 w : World} {L : List Part} (h : Holds w0 w L) {i j : Nat} (hij : i ≠ j) {a b : Part} (hi : L[i]? = some a) (hj : L[j]? = some b) {g : Nat} (ha : a.own g) (hb : b.own g) : False := by
  have hp := List.pairwise_iff_getElem.1 h.2.2
  obtain ⟨hi', rfl⟩ := List.getElem?_eq_some_iff.1 hi
  obtain ⟨hj', rfl⟩ := List.getElem?_eq_some_iff.1 hj
  rcases Nat.lt_or_gt_of_ne hij with c | c
  · exact hp i j hi' hj' c g ha hb
  · exact hp j i hj' hi' c g hb ha
theorem Holds.sub {w0 w : World} {L L' : List Part} (h : Holds w0 w L) (hs : L'.Sublist L) : Holds w0 w L' := ⟨h.1, fun a ha => h.2.1 a (hs.subset ha), h.2.2.sublist hs⟩
theorem Holds.tail {w0 w : World} {a : Part} {L : List Part} (h : Holds w0 w (a :: L)) : Holds w0 w L := h.sub (List.sublist_cons_self a L)
/-- nothing that existed has turned -/
theorem Holds.call {w0 w w' : World} {L : List Part} (h : Holds w0 w L) (hb : Below w.heap.size w w') : Holds w0 w' L :=
  ⟨h.1.trans (hb.mono h.1.size), fun a ha => ⟨a.keep _ _ (h.2.1 a ha).1 fun g hg => hb.block g (a.lt _ _ (h.2.1 a ha).1 hg), (h.2.1 a ha).2⟩, h.2.2⟩
theorem Holds.drew {w0 w : World} {L : List Part} (h : Holds w0 w L) : Holds w0 w.drew L :=
  ⟨h.1.drew, fun a ha => ⟨a.keep _ _ (h.2.1 a ha).1 fun _ _ => rfl, (h.2.1 a ha).2⟩, h.2.2⟩
theorem Holds.drewN {w0 w : World} {L : List Part} (h : Holds w0 w L) (n : Nat) : Holds w0 (w.drewN n) L :=
  ⟨⟨h.1.os, h.1.tape, h.1.output, h.1.size, h.1.block⟩, fun a ha => ⟨a.keep _ _ (h.2.1 a ha).1 fun _ _ => rfl, (h.2.1 a ha).2⟩, h.2.2⟩
/-- a part more, all of it new -/
theorem Holds.new {w0 w w' : World} {L : List Part} (h : Holds w0 w L) (hb : Below w.heap.size w w') (a : Part) (ha : a.ok w') (hn : ∀ g, a.own g → w.heap.size ≤ g) : Holds w0 w' (a :: L) := by
  have h' := h.call hb
  refine ⟨h'.1, fun b hb => ?_, List.pairwise_cons.2 ⟨fun b hb' g hg hg' => ?_, h'.2.2⟩⟩
  · rcases List.mem_cons.1 hb with rfl | hb
    · exact ⟨ha, fun g hg => Nat.le_trans h.1.size (hn g hg)⟩
    · exact h'.2.1 b hb
  · have := b.lt _ _ (h.2.1 b hb').1 hg'
    have := hn g hg
    omega
theorem Holds.alloc {w0 w : World} {L : List Part} (h : Holds w0 w L) (o : Obj) : Holds w0 (w.alloc o) L := h.call (below1 w o)
theorem Holds.blk {w0 w : World} {L : List Part} (h : Holds w0 w L) (c : Array Value) (t : TypeId) (g : Nat) (hg : g = w.heap.size) : Holds w0 (w.alloc (.cells c t)) (pBlk g c t :: L) :=
  h.new (below1 w _) _ (heap_at _ _ _ hg) fun k hk => by cases hk; omega
theorem Holds.obj {w0 w : World} {L : List Part} (h : Holds w0 w L) (o : Obj) (g : Nat) (hg : g = w.heap.size) : Holds w0 (w.alloc o) (pObj g o :: L) :=
  h.new (below1 w _) _ (heap_at _ _ _ hg) fun k hk => by cases hk; omega
/-- one part is turned, alone -/
theorem Holds.turn {w0 w w' : World} {L : List Part} (h : Holds w0 w L) (i : Nat) {a : Part} (hi : L[i]? = some a) (a' : Part) (ha' : a'.ok w') (ho : w'.os = w.os) (ht : w'.tape = w.tape) (hu : w'.output = w.output) (hs : w.heap.size ≤ w'.heap.size)
    (hk : ∀ g, g < w.heap.size → ¬ a.own g → w'.heap[g]? = w.heap[g]?) (hn : ∀ g, a'.own g → a.own g ∨ w.heap.size ≤ g) : Holds w0 w' (L.set i a') := by
  obtain ⟨hil, hie⟩ := List.getElem?_eq_some_iff.1 hi
  have low : Below w0.heap.size w0 w' := h.1.trans ⟨ho, ht, hu, hs, fun g hg => hk g (Nat.lt_of_lt_of_le hg h.1.size) fun hg' => by have := h.above i hi hg'; omega⟩
  have old : ∀ j (b : Part), j ≠ i → L[j]? = some b → b.ok w' := fun j b hj hb => b.keep _ _ (h.at j hb) fun g hg => hk g (b.lt _ _ (h.at j hb) hg) fun hg' => h.apart hj hb hi hg hg'
  have ab : ∀ g, a'.own g → w0.heap.size ≤ g := fun g hg => by
    rcases hn g hg with c | c
    · exact h.above i hi c
    · exact Nat.le_trans h.1.size c
  have far : ∀ j (b : Part) g, j ≠ i → L[j]? = some b → b.own g → a'.own g → False := fun j b g hj hb hg hg' => by
    rcases hn g hg' with c | c
    · exact h.apart hj hb hi hg c
    · have := b.lt _ _ (h.at j hb) hg; omega
  refine ⟨low, fun b hb => ?_, List.pairwise_iff_getElem.2 fun j k hj hk' hjk g h1 h2 => ?_⟩
  · obtain ⟨j, hj⟩ := List.getElem?_of_mem hb
    rw [List.getElem?_set] at hj
    by_cases e : i = j
    · rw [if_pos e, if_pos hil] at hj
      cases hj
      exact ⟨ha', ab⟩
    · rw [if_neg e] at hj
      exact ⟨old j b (Ne.symm e) hj, fun g hg => h.above j hj hg⟩
  · rw [List.length_set] at hj hk'
    rw [List.getElem_set] at h1 h2
    by_cases e : i = j
    · rw [if_pos e] at h1
      rw [if_neg (by omega)] at h2
      exact far k _ g (by omega) (List.getElem?_eq_getElem hk') h2 h1
    · rw [if_neg e] at h1
      by_cases e' : i = k
      · rw [if_pos e'] at h2
        exact far j _ g (by omega) (List.getElem?_eq_getElem hj) h1 h2
      · rw [if_neg e'] at h2
        exact h.apart (by omega) (List.getElem?_eq_getElem hj) (List.getElem?_eq_getElem hk') h1 h2
/-- .. by a row of cells of its own that has grown -/
theorem Holds.grow {w0 w w' : World} {L : List Part} (h : Holds w0 w L) (i : Nat) {a : Part} (hi : L[i]? = some a) (a' : Part) (ha' : a'.ok w') {r : Option Nat} (hg : w.grownBy w' r) (hr : ∀ g, r = some g → a.own g) (hn : ∀ g, a'.own g → a.own g ∨ w.heap.size ≤ g) : Holds w0 w' (L.set i a') :=
  h.turn i hi a' ha' hg.os hg.tape hg.output hg.size (fun g hl ho => hg.block g hl fun e => ho (hr g e.symm)) hn
theorem heap_setCell_ne (w : World) (g j k : Nat) (v : Value) (h : k ≠ g) : (w.setCell ⟨g, j, none⟩ v).heap[k]? = w.heap[k]? := Below.heap_setCell w ⟨g, j, none⟩ v k h
/-- a store into a cell of a block -/
theorem Holds.set {w0 w : World} {L : List Part} (h : Holds w0 w L) (i : Nat) {g : Nat} {c : Array Value} {t : TypeId} (hi : L[i]? = some (pBlk g c t)) (j : Nat) (v : Value) : Holds w0 (w.setCell ⟨g, j, none⟩ v) (L.set i (pBlk g (c.setIfInBounds j v) t)) :=
  h.turn i hi _ (heap_setCell_same _ _ _ _ _ _ (h.at i hi)) rfl rfl rfl (by simp) (fun k _ ho => heap_setCell_ne _ _ _ _ _ ho) fun k hk => .inl hk
/-- a store of a whole block -/
theorem Holds.setRow {w0 w : World} {L : List Part} (h : Holds w0 w L) (i : Nat) {g : Nat} {c : Array Value} {t : TypeId} (hi : L[i]? = some (pBlk g c t)) (c' : Array Value) : Holds w0 (w.setRow g c') (L.set i (pBlk g c' t)) :=
  h.turn i hi _ (setRow_heap _ _ _ _ t (0, 0) (h.at i hi)) rfl rfl rfl (by simp) (fun k _ ho => setRow_other _ _ _ _ ho) fun k hk => .inl hk
/-- what the walk asks of a block -/
theorem Holds.cells {w0 w : World} {L : List Part} (h : Holds w0 w L) (i : Nat) {g : Nat} {c : Array Value} {t : TypeId} (hi : L[i]? = some (pBlk g c t)) : cellsOf w g = c := cellsOf_heap (h.at i hi)
theorem Holds.rowOk {w0 w : World} {L : List Part} (h : Holds w0 w L) (i : Nat) {g : Nat} {c : Array Value} {t : TypeId} (hi : L[i]? = some (pBlk g c t)) {n : Nat} (hn : c.size = n) : rowOk w g n := ⟨c, t, h.at i hi, hn⟩
theorem Holds.cell {w0 w : World} {L : List Part} (h : Holds w0 w L) (i : Nat) {g : Nat} {c : Array Value} {t : TypeId} (hi : L[i]? = some (pBlk g c t)) {j : Nat} {v : Value} (hv : c[j]? = some v) : w.cell? ⟨g, j, none⟩ = some v := by rw [cell_of_cells, h.cells i hi]; exact hv
theorem Holds.frozen {w0 w : World} {L : List Part} (h : Holds w0 w L) (i : Nat) {g : Nat} {c : Array Value} {t : TypeId} (hi : L[i]? = some (pBlk g c t)) (j : Nat) : w.frozen? ⟨g, j, none⟩ = false := by
  have := h.at i hi
  simp only [pBlk] at this
  simp [World.frozen?, this]
theorem Holds.lt {w0 w : World} {L : List Part} (h : Holds w0 w L) (i : Nat) {g : Nat} {c : Array Value} {t : TypeId} (hi : L[i]? = some (pBlk g c t)) : g < w.heap.size := lt_of_some (h.at i hi)
/-- a row by its cells -/
theorem row_at {w : World} {B : Nat} {v : Value} {e : TypeId} {s n : Nat} {xs : List Value} (h : w.ownsRow B e s v n xs) (hn : 0 < n) :
    ∃ g c, v = .slice (some ⟨g, 0, none⟩) n c ∧ B ≤ g ∧ g < w.heap.size ∧ n ≤ c ∧ c ≤ maxLen ∧ (∀ j u, xs[j]? = some u → w.cell? ⟨g, j, none⟩ = some u) ∧ ∀ j, w.frozen? ⟨g, j, none⟩ = false := by
  rcases h.2 with ⟨_, e⟩ | ⟨g, cap, cur, rfl, hB, hh, h1, h2, h3, h4⟩
  · omega
  · refine ⟨g, cap, rfl, hB, lt_of_some hh, h1, h2, fun j u hu => ?_, fun j => by simp [World.frozen?, hh]⟩
    rw [cell_of_cells, cellsOf_heap hh]
    have hj : j < xs.length := (List.getElem?_eq_some_iff.1 hu).1
    rw [h.1] at hj
    rw [← h4, List.getElem?_take_of_lt hj, Array.getElem?_toList] at hu
    exact hu
theorem Holds.row {w0 w : World} {L : List Part} (h : Holds w0 w L) (i : Nat) {v : Value} {e : TypeId} {s n : Nat} {xs : List Value} (hi : L[i]? = some (pRow v e s n xs)) : w.ownsRow w0.heap.size e s v n xs := by
  have h1 : w.ownsRow 0 e s v n xs := h.at i hi
  refine ⟨h1.1, ?_⟩
  rcases h1.2 with c | ⟨g, cap, cur, rfl, _, k⟩
  · exact .inl c
  · exact .inr ⟨g, cap, cur, rfl, h.above i hi rfl, k⟩
theorem row_low {w : World} {B B' : Nat} {e : TypeId} {s n : Nat} {v : Value} {xs : List Value} (h : w.ownsRow B e s v n xs) (hB : B' ≤ B) : w.ownsRow B' e s v n xs :=
  ⟨h.1, h.2.imp id fun ⟨g, cap, cur, h1, h2, h3⟩ => ⟨g, cap, cur, h1, by omega, h3⟩⟩
/-- a new row -/
theorem Holds.newRow {w0 w w' : World} {L : List Part} (h : Holds w0 w L) (hb : Below w.heap.size w w') {v : Value} {e : TypeId} {s n : Nat} {xs : List Value} (hr : w'.ownsRow w.heap.size e s v n xs) : Holds w0 w' (pRow v e s n xs :: L) :=
  h.new hb _ (row_low hr (Nat.zero_le _)) fun g hg => (hr.lt g hg).1
/-- a block that is a row -/
theorem Holds.rowNew {w0 w : World} {L : List Part} (h : Holds w0 w L) (cs : Array Value) (e : TypeId) (s n g : Nat) (hg : g = w.heap.size) (hs : cs.size = n * s) (hn : n ≤ maxLen) : Holds w0 (w.alloc (.cells cs e)) (pRow (.slice (some ⟨g, 0, none⟩) n n) e s n cs.toList :: L) :=
by
  have hr : (w.alloc (.cells cs e)).ownsRow 0 e s (.slice (some ⟨g, 0, none⟩) n n) n cs.toList :=
    ⟨by rw [Array.length_toList]; exact hs, .inr ⟨g, n, cs, rfl, Nat.zero_le _, heap_at _ _ _ hg, Nat.le_refl _, hn, hs, by rw [← hs, ← Array.length_toList, List.take_length]⟩⟩
  refine h.new (below1 w _) _ hr fun k hk => ?_
  have : g = k := by simpa [pRow, Value.ownBlock] using hk
  omega
theorem Holds.nilRow {w0 w : World} {L : List Part} (h : Holds w0 w L) (e : TypeId) (s : Nat) : Holds w0 w (pRow (.slice none 0 0) e s 0 [] :: L) :=
  h.new (Below.refl _ _) _ (World.ownsRow_nil _ _ _ _) fun g hg => by cases hg
end Go.Proofs.Ytpkfjdaedaplfaa
