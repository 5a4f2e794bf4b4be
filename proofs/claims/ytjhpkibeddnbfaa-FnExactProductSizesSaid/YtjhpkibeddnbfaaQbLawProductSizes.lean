/- Texts put together: HS, Map, AppH, Des, QTail, Reg, RegC, Pr, Pk -/
import Derived.Test.YtjhpkibeddnbfaaQaLawProductSizes
import Derived.Test.YtjhpkibeddnbfaaChecked
import Derived.WalkKit
import Derived.WalkSpells
import Derived.WalkLawsBesides
import Derived.Deep.LoopGhost
import Derived.Deep.OwnRows
import Derived.Laws.Rows
import Derived.Laws.Tables
import Derived.Laws.CopyOwn
import Derived.ProofKit
import Derived.OpenShut
import Derived.ShutString
import Derived.ChangeOld
import Derived.Below
import Derived.Laws.OwnMore
import Derived.Maps.Keyed
import Derived.DeepKeys4
import Derived.Maps.Own
import Derived.Laws.CopyRow
import Derived.Deep.MidRow
import Derived.Deep.Quiet
import Derived.Deep.QuietTactic
import Derived.BigQuiet
import Derived.StillTail
import Derived.Carry
namespace Go.Proofs.Ytjhpkibeddnbfaa
open Go.RowKit

/-- a part of memory: its blocks, and what holds of them -/
structure Part where
  own : Nat → Prop
  ok : World → Prop
  keep : ∀ w w' : World, ok w → (∀ g, own g → w'.heap[g]? = w.heap[g]?) → ok w'
  lt : ∀ (w : World) (g : Nat), ok w → own g → g < w.heap.size

theorem lt_of_some {w : World} {g : Nat} {o : Obj} (h : w.heap[g]? = some o) : g < w.heap.size := (Array.getElem?_eq_some_iff.1 h).1

/-- a whole block of cells -/
def pBlk (g : Nat) (c : Array Value) (t : TypeId) : Part where
  own k := k = g
  ok w := w.heap[g]? = some (.cells c t (0, 0))
  keep _ _ h k := (k g rfl).trans h
  lt _ _ h k := by subst k; exact lt_of_some h
/-- another object -/
def pObj (g : Nat) (o : Obj) : Part where
  own k := k = g
  ok w := w.heap[g]? = some o
  keep _ _ h k := (k g rfl).trans h
  lt _ _ h k := by subst k; exact lt_of_some h
/-- a row that grows -/
def pRow (v : Value) (e : TypeId) (s n : Nat) (xs : List Value) : Part where
  own k := v.ownBlock = some k
  ok w := w.ownsRow 0 e s v n xs
  keep w w' h k := by
    refine ⟨h.1, ?_⟩
    rcases h.2 with ⟨rfl, rfl⟩ | ⟨g, cap, cur, rfl, hb, hg, h1⟩
    · exact .inl ⟨rfl, rfl⟩
    · exact .inr ⟨g, cap, cur, rfl, hb, (k g rfl).trans hg, h1⟩
  lt w g h k := (World.ownsRow.lt h g k).2
/-- all of some parts -/
def Holds (w0 w : World) (L : List Part) : Prop :=
  Below w0.heap.size w0 w ∧ (∀ a ∈ L, a.ok w ∧ ∀ g, a.own g → w0.heap.size ≤ g) ∧ L.Pairwise (fun a b => ∀ g, a.own g → b.own g → False)

theorem Holds.start (w : World) : Holds w w [] := ⟨Below.refl _ _, by simp, List.Pairwise.nil⟩
theorem Holds.low {w0 w : World} {L : List Part} (h : Holds w0 w L) : Below w0.heap.size w0 w := h.1
theorem Holds.size {w0 w : World} {L : List Part} (h : Holds w0 w L) : w0.heap.size ≤ w.heap.size := h.1.size
theorem Holds.at {w0 w : World} {L : List Part} (h : Holds w0 w L) (i : Nat) {a : Part} (hi : L[i]? = some a) : a.ok w := (h.2.1 a (List.mem_of_getElem? hi)).1
theorem Holds.above {w0 w : World} {L : List Part} (h : Holds w0 w L) (i : Nat) {a : Part} (hi : L[i]? = some a) {g : Nat} (hg : a.own g) : w0.heap.size ≤ g := (h.2.1 a (List.mem_of_getElem? hi)).2 g hg
theorem Holds.apart {w0 w : World} {L : List Part} (h : Holds w0 w L) {i j : Nat} (hij : i ≠ j) {a b : Part} (hi : L[i]? = some a) (hj : L[j]? = some b) {g : Nat} (ha : a.own g) (hb : b.own g) : False := by
  have hp := List.pairwise_iff_getElem.1 h.2.2
  obtain ⟨hi', rfl⟩ := List.getElem?_eq_some_iff.1 hi
  obtain ⟨hj', rfl⟩ := List.getElem?_eq_some_iff.1 hj
  rcases Nat.lt_or_gt_of_ne hij with c | c
  · exact hp i j hi' hj' c g ha hb
  · exact hp j i hj' hi' c g hb ha
theorem Holds.sub {w0 w : World} {L L' : List Part} (h : Holds w0 w L) (hs : L'.Sublist L) : Holds w0 w L' := ⟨h.1, fun a ha => h.2.1 a (hs.subset ha), h.2.2.sublist hs⟩
theorem Holds.tail {w0 w : World} {a : Part} {L : List Part} (h : Holds w0 w (a :: L)) : Holds w0 w L := h.sub (List.sublist_cons_self a L)
/-- nothing that existed has turned -/
theorem Holds.call {w0 w w' : World} {L : List Part} (h : Holds w0 w L) (hb : Below w.heap.size w w') : Holds w0 w' L :=
  ⟨h.1.trans (hb.mono h.1.size), fun a ha => ⟨a.keep _ _ (h.2.1 a ha).1 fun g hg => hb.block g (a.lt _ _ (h.2.1 a ha).1 hg), (h.2.1 a ha).2⟩, h.2.2⟩
theorem Holds.drew {w0 w : World} {L : List Part} (h : Holds w0 w L) : Holds w0 w.drew L :=
  ⟨h.1.drew, fun a ha => ⟨a.keep _ _ (h.2.1 a ha).1 fun _ _ => rfl, (h.2.1 a ha).2⟩, h.2.2⟩
theorem Holds.drewN {w0 w : World} {L : List Part} (h : Holds w0 w L) (n : Nat) : Holds w0 (w.drewN n) L :=
  ⟨⟨h.1.os, h.1.tape, h.1.output, h.1.size, h.1.block⟩, fun a ha => ⟨a.keep _ _ (h.2.1 a ha).1 fun _ _ => rfl, (h.2.1 a ha).2⟩, h.2.2⟩
/-- a part more, all of it new -/
theorem Holds.new {w0 w w' : World} {L : List Part} (h : Holds w0 w L) (hb : Below w.heap.size w w') (a : Part) (ha : a.ok w') (hn : ∀ g, a.own g → w.heap.size ≤ g) : Holds w0 w' (a :: L) := by
  have h' := h.call hb
  refine ⟨h'.1, fun b hb => ?_, List.pairwise_cons.2 ⟨fun b hb' g hg hg' => ?_, h'.2.2⟩⟩
  · rcases List.mem_cons.1 hb with rfl | hb
    · exact ⟨ha, fun g hg => Nat.le_trans h.1.size (hn g hg)⟩
    · exact h'.2.1 b hb
  · have := b.lt _ _ (h.2.1 b hb').1 hg'
    have := hn g hg
    omega
theorem Holds.alloc {w0 w : World} {L : List Part} (h : Holds w0 w L) (o : Obj) : Holds w0 (w.alloc o) L := h.call (below1 w o)
theorem Holds.blk {w0 w : World} {L : List Part} (h : Holds w0 w L) (c : Array Value) (t : TypeId) (g : Nat) (hg : g = w.heap.size) : Holds w0 (w.alloc (.cells c t)) (pBlk g c t :: L) :=
  h.new (below1 w _) _ (heap_at _ _ _ hg) fun k hk => by cases hk; omega
theorem Holds.obj {w0 w : World} {L : List Part} (h : Holds w0 w L) (o : Obj) (g : Nat) (hg : g = w.heap.size) : Holds w0 (w.alloc o) (pObj g o :: L) :=
  h.new (below1 w _) _ (heap_at _ _ _ hg) fun k hk => by cases hk; omega
/-- one part is turned, alone -/
theorem Holds.turn {w0 w w' : World} {L : List Part} (h : Holds w0 w L) (i : Nat) {a : Part} (hi : L[i]? = some a) (a' : Part) (ha' : a'.ok w') (ho : w'.os = w.os) (ht : w'.tape = w.tape) (hu : w'.output = w.output) (hs : w.heap.size ≤ w'.heap.size)
    (hk : ∀ g, g < w.heap.size → ¬ a.own g → w'.heap[g]? = w.heap[g]?) (hn : ∀ g, a'.own g → a.own g ∨ w.heap.size ≤ g) : Holds w0 w' (L.set i a') := by
  obtain ⟨hil, hie⟩ := List.getElem?_eq_some_iff.1 hi
  have low : Below w0.heap.size w0 w' := h.1.trans ⟨ho, ht, hu, hs, fun g hg => hk g (Nat.lt_of_lt_of_le hg h.1.size) fun hg' => by have := h.above i hi hg'; omega⟩
  have old : ∀ j (b : Part), j ≠ i → L[j]? = some b → b.ok w' := fun j b hj hb => b.keep _ _ (h.at j hb) fun g hg => hk g (b.lt _ _ (h.at j hb) hg) fun hg' => h.apart hj hb hi hg hg'
  have ab : ∀ g, a'.own g → w0.heap.size ≤ g := fun g hg => by
    rcases hn g hg with c | c
    · exact h.above i hi c
    · exact Nat.le_trans h.1.size c
  have far : ∀ j (b : Part) g, j ≠ i → L[j]? = some b → b.own g → a'.own g → False := fun j b g hj hb hg hg' => by
    rcases hn g hg' with c | c
    · exact h.apart hj hb hi hg c
    · have := b.lt _ _ (h.at j hb) hg; omega
  refine ⟨low, fun b hb => ?_, List.pairwise_iff_getElem.2 fun j k hj hk' hjk g h1 h2 => ?_⟩
  · obtain ⟨j, hj⟩ := List.getElem?_of_mem hb
    rw [List.getElem?_set] at hj
    by_cases e : i = j
    · rw [if_pos e, if_pos hil] at hj
      cases hj
      exact ⟨ha', ab⟩
    · rw [if_neg e] at hj
      exact ⟨old j b (Ne.symm e) hj, fun g hg => h.above j hj hg⟩
  · rw [List.length_set] at hj hk'
    rw [List.getElem_set] at h1 h2
    by_cases e : i = j
    · rw [if_pos e] at h1
      rw [if_neg (by omega)] at h2
      exact far k _ g (by omega) (List.getElem?_eq_getElem hk') h2 h1
    · rw [if_neg e] at h1
      by_cases e' : i = k
      · rw [if_pos e'] at h2
        exact far j _ g (by omega) (List.getElem?_eq_getElem hj) h1 h2
      · rw [if_neg e'] at h2
        exact h.apart (by omega) (List.getElem?_eq_getElem hj) (List.getElem?_eq_getElem hk') h1 h2
/-- .. by a row of cells of its own that has grown -/
theorem Holds.grow {w0 w w' : World} {L : List Part} (h : Holds w0 w L) (i : Nat) {a : Part} (hi : L[i]? = some a) (a' : Part) (ha' : a'.ok w') {r : Option Nat} (hg : w.grownBy w' r) (hr : ∀ g, r = some g → a.own g) (hn : ∀ g, a'.own g → a.own g ∨ w.heap.size ≤ g) : Holds w0 w' (L.set i a') :=
  h.turn i hi a' ha' hg.os hg.tape hg.output hg.size (fun g hl ho => hg.block g hl fun e => ho (hr g e.symm)) hn
theorem heap_setCell_ne (w : World) (g j k : Nat) (v : Value) (h : k ≠ g) : (w.setCell ⟨g, j, none⟩ v).heap[k]? = w.heap[k]? := Below.heap_setCell w ⟨g, j, none⟩ v k h
/-- a store into a cell of a block -/
theorem Holds.set {w0 w : World} {L : List Part} (h : Holds w0 w L) (i : Nat) {g : Nat} {c : Array Value} {t : TypeId} (hi : L[i]? = some (pBlk g c t)) (j : Nat) (v : Value) : Holds w0 (w.setCell ⟨g, j, none⟩ v) (L.set i (pBlk g (c.setIfInBounds j v) t)) :=
  h.turn i hi _ (heap_setCell_same _ _ _ _ _ _ (h.at i hi)) rfl rfl rfl (by simp) (fun k _ ho => heap_setCell_ne _ _ _ _ _ ho) fun k hk => .inl hk
/-- a store of a whole block -/
theorem Holds.setRow {w0 w : World} {L : List Part} (h : Holds w0 w L) (i : Nat) {g : Nat} {c : Array Value} {t : TypeId} (hi : L[i]? = some (pBlk g c t)) (c' : Array Value) : Holds w0 (w.setRow g c') (L.set i (pBlk g c' t)) :=
  h.turn i hi _ (setRow_heap _ _ _ _ t (0, 0) (h.at i hi)) rfl rfl rfl (by simp) (fun k _ ho => setRow_other _ _ _ _ ho) fun k hk => .inl hk
/-- what the walk asks of a block -/
theorem Holds.cells {w0 w : World} {L : List Part} (h : Holds w0 w L) (i : Nat) {g : Nat} {c : Array Value} {t : TypeId} (hi : L[i]? = some (pBlk g c t)) : cellsOf w g = c := cellsOf_heap (h.at i hi)
theorem Holds.rowOk {w0 w : World} {L : List Part} (h : Holds w0 w L) (i : Nat) {g : Nat} {c : Array Value} {t : TypeId} (hi : L[i]? = some (pBlk g c t)) {n : Nat} (hn : c.size = n) : rowOk w g n := ⟨c, t, h.at i hi, hn⟩
theorem Holds.cell {w0 w : World} {L : List Part} (h : Holds w0 w L) (i : Nat) {g : Nat} {c : Array Value} {t : TypeId} (hi : L[i]? = some (pBlk g c t)) {j : Nat} {v : Value} (hv : c[j]? = some v) : w.cell? ⟨g, j, none⟩ = some v := by rw [cell_of_cells, h.cells i hi]; exact hv
theorem Holds.frozen {w0 w : World} {L : List Part} (h : Holds w0 w L) (i : Nat) {g : Nat} {c : Array Value} {t : TypeId} (hi : L[i]? = some (pBlk g c t)) (j : Nat) : w.frozen? ⟨g, j, none⟩ = false := by
  have := h.at i hi
  simp only [pBlk] at this
  simp [World.frozen?, this]
theorem Holds.lt {w0 w : World} {L : List Part} (h : Holds w0 w L) (i : Nat) {g : Nat} {c : Array Value} {t : TypeId} (hi : L[i]? = some (pBlk g c t)) : g < w.heap.size := lt_of_some (h.at i hi)
/-- a row by its cells -/
theorem row_at {w : World} {B : Nat} {v : Value} {e : TypeId} {s n : Nat} {xs : List Value} (h : w.ownsRow B e s v n xs) (hn : 0 < n) :
    ∃ g c, v = .slice (some ⟨g, 0, none⟩) n c ∧ B ≤ g ∧ g < w.heap.size ∧ n ≤ c ∧ c ≤ maxLen ∧ (∀ j u, xs[j]? = some u → w.cell? ⟨g, j, none⟩ = some u) ∧ ∀ j, w.frozen? ⟨g, j, none⟩ = false := by
  rcases h.2 with ⟨_, e⟩ | ⟨g, cap, cur, rfl, hB, hh, h1, h2, h3, h4⟩
  · omega
  · refine ⟨g, cap, rfl, hB, lt_of_some hh, h1, h2, fun j u hu => ?_, fun j => by simp [World.frozen?, hh]⟩
    rw [cell_of_cells, cellsOf_heap hh]
    have hj : j < xs.length := (List.getElem?_eq_some_iff.1 hu).1
    rw [h.1] at hj
    rw [← h4, List.getElem?_take_of_lt hj, Array.getElem?_toList] at hu
    exact hu
theorem Holds.row {w0 w : World} {L : List Part} (h : Holds w0 w L) (i : Nat) {v : Value} {e : TypeId} {s n : Nat} {xs : List Value} (hi : L[i]? = some (pRow v e s n xs)) : w.ownsRow w0.heap.size e s v n xs := by
  have h1 : w.ownsRow 0 e s v n xs := h.at i hi
  refine ⟨h1.1, ?_⟩
  rcases h1.2 with c | ⟨g, cap, cur, rfl, _, k⟩
  · exact .inl c
  · exact .inr ⟨g, cap, cur, rfl, h.above i hi rfl, k⟩
theorem row_low {w : World} {B B' : Nat} {e : TypeId} {s n : Nat} {v : Value} {xs : List Value} (h : w.ownsRow B e s v n xs) (hB : B' ≤ B) : w.ownsRow B' e s v n xs :=
  ⟨h.1, h.2.imp id fun ⟨g, cap, cur, h1, h2, h3⟩ => ⟨g, cap, cur, h1, by omega, h3⟩⟩
/-- a new row -/
theorem Holds.newRow {w0 w w' : World} {L : List Part} (h : Holds w0 w L) (hb : Below w.heap.size w w') {v : Value} {e : TypeId} {s n : Nat} {xs : List Value} (hr : w'.ownsRow w.heap.size e s v n xs) : Holds w0 w' (pRow v e s n xs :: L) :=
  h.new hb _ (row_low hr (Nat.zero_le _)) fun g hg => (hr.lt g hg).1
/-- a block that is a row -/
theorem Holds.rowNew {w0 w : World} {L : List Part} (h : Holds w0 w L) (cs : Array Value) (e : TypeId) (s n g : Nat) (hg : g = w.heap.size) (hs : cs.size = n * s) (hn : n ≤ maxLen) : Holds w0 (w.alloc (.cells cs e)) (pRow (.slice (some ⟨g, 0, none⟩) n n) e s n cs.toList :: L) :=
by
  have hr : (w.alloc (.cells cs e)).ownsRow 0 e s (.slice (some ⟨g, 0, none⟩) n n) n cs.toList :=
    ⟨by rw [Array.length_toList]; exact hs, .inr ⟨g, n, cs, rfl, Nat.zero_le _, heap_at _ _ _ hg, Nat.le_refl _, hn, hs, by rw [← hs, ← Array.length_toList, List.take_length]⟩⟩
  refine h.new (below1 w _) _ hr fun k hk => ?_
  have : g = k := by simpa [pRow, Value.ownBlock] using hk
  omega
theorem Holds.nilRow {w0 w : World} {L : List Part} (h : Holds w0 w L) (e : TypeId) (s : Nat) : Holds w0 w (pRow (.slice none 0 0) e s 0 [] :: L) :=
  h.new (Below.refl _ _) _ (World.ownsRow_nil _ _ _ _) fun g hg => by cases hg
end Go.Proofs.Ytjhpkibeddnbfaa

namespace Go.Proofs.Ytjhpkibeddnbfaa
open Go.RowKit
open Go.ChangeMaps Go.MapKept
open Go.Maps (Keyed)

open Classical in
/-- what entries give for a key -/
noncomputable def mlook (es : List MapEntry) (k : Value) : Option Value := (es.find? fun e => decide (e.key = k)).map (·.val)
/-- a value that can be a key -/
def IsK (P : Program) (kt : TypeId) (v : Value) : Prop := ∃ l, keyOf P kt v = some l
/-- a map of the call's own -/
structure MapOk (P : Program) (kt : TypeId) (es : List MapEntry) (clock : Nat) (M : Value → Option Value) : Prop where
  keys : ∀ e ∈ es, IsK P kt e.key
  nodup : (es.map (·.key)).Nodup
  born : ∀ e ∈ es, e.born < clock
  births : (es.map (·.born)).Nodup
  look : ∀ k, mlook es k = M k
def pMap (P : Program) (kt : TypeId) (g : Nat) (M : Value → Option Value) : Part where
  own k := k = g
  ok w := ∃ es clock, w.heap[g]? = some (.map es clock) ∧ MapOk P kt es.toList clock M
  keep _ _ := fun ⟨es, clock, h, r⟩ k => ⟨es, clock, (k g rfl).trans h, r⟩
  lt _ _ := fun ⟨_, _, h, _⟩ k => by subst k; exact lt_of_some h
open Classical in
noncomputable def mput (M : Value → Option Value) (k v : Value) : Value → Option Value := fun x => if x = k then some v else M x
theorem mput_same (M : Value → Option Value) (k v : Value) : mput M k v k = some v := by simp [mput]
theorem mput_ne (M : Value → Option Value) {k x : Value} (v : Value) (h : x ≠ k) : mput M k v x = M x := by simp [mput, h]

theorem mlook_nil (k : Value) : mlook [] k = none := rfl
theorem Holds.newMap {w0 w : World} {L : List Part} (h : Holds w0 w L) (P : Program) (kt : TypeId) (g : Nat) (hg : g = w.heap.size) : Holds w0 (w.alloc (.map #[] 0)) (pMap P kt g (fun _ => none) :: L) :=
  h.new (below1 w _) _ ⟨#[], 0, heap_at _ _ _ hg, ⟨by simp, by simp, by simp, by simp, fun k => rfl⟩⟩ fun k hk => by cases hk; omega

section
variable {P : Program} {kt : TypeId}
open Classical in
theorem mlook_at {es : List MapEntry} (hn : (es.map (·.key)).Nodup) {j : Nat} {e : MapEntry} (hj : es[j]? = some e) : mlook es e.key = some e.val := by
  unfold mlook
  have hmem := List.mem_of_getElem? hj
  rcases hf : es.find? (fun x => decide (x.key = e.key)) with _ | x
  · have := List.find?_eq_none.1 hf e hmem
    simp at this
  · have hk : x.key = e.key := by simpa using List.find?_some hf
    have hm := List.mem_of_find?_eq_some hf
    obtain ⟨i, hi⟩ := List.getElem?_of_mem hm
    have e1 : (es.map (·.key))[i]? = some x.key := by simp [hi]
    have e2 : (es.map (·.key))[j]? = some e.key := by simp [hj]
    obtain ⟨hi', e1'⟩ := List.getElem?_eq_some_iff.1 e1
    obtain ⟨hj', e2'⟩ := List.getElem?_eq_some_iff.1 e2
    have : i = j := by
      rcases Nat.lt_trichotomy i j with c | c | c
      · exact absurd (by rw [e1', e2', hk]) (List.pairwise_iff_getElem.1 hn i j hi' hj' c)
      · exact c
      · exact absurd (by rw [e1', e2', hk]) (List.pairwise_iff_getElem.1 hn j i hj' hi' c)
    subst this
    rw [hi] at hj
    cases hj
    simp only [hf, Option.map_some]
open Classical in
theorem mlook_none {es : List MapEntry} {k : Value} (h : ∀ e ∈ es, e.key ≠ k) : mlook es k = none := by
  unfold mlook
  rw [List.find?_eq_none.2 (by simpa using h)]
  rfl
/-- what the search for a key gives -/
theorem find_of (K : Keyed P kt) {es : Array MapEntry} {clock : Nat} {M : Value → Option Value} (h : MapOk P kt es.toList clock M) {k : Value} (hk : IsK P kt k) (w : World) :
    (M k = none ∧ (Instr.findKey kt k es.toList).run P w = .ok none w ∧ ∀ e ∈ es.toList, e.key ≠ k) ∨ ∃ j e, M k = some e.val ∧ (Instr.findKey kt k es.toList).run P w = .ok (some (j, e.val)) w ∧ es.toList[j]? = some e ∧ e.key = k := by
  obtain ⟨l, hl⟩ := hk
  rcases K.find w hl es.toList h.keys with ⟨h1, h2⟩ | ⟨j, e, h1, h2, h3⟩
  · exact .inl ⟨by rw [← h.look]; exact mlook_none h2, h1, h2⟩
  · refine .inr ⟨j, e, ?_, h1, h2, h3⟩
    rw [← h.look, ← h3]
    exact mlook_at h.nodup h2
/-- 'm[k]', 'v, ok := m[k]' -/
theorem run_mlook (K : Keyed P kt) {t et : TypeId} (ht : P.underlying t = some (.map kt et)) {z : Value} (hz : ∀ w, (zeroValue et).run P w = .ok z w) {w : World} {g : Nat} {M : Value → Option Value} (h : (pMap P kt g M).ok w) {k : Value} (hk : IsK P kt k) (c : Bool) :
    (Instr.lookup t (.map (some g)) k c).run P w = .ok (if c then .tuple #[(M k).getD z, .bool (M k).isSome] else (M k).getD z) w := by
  obtain ⟨es, clock, hg, hm⟩ := h
  obtain ⟨l, hl⟩ := id hk
  have hc := K.check w es.isEmpty hl
  have hgo : (getObj g).run P w = .ok (.map es clock) w := by simp [getObj, Sem.run, hg]
  rcases find_of K hm hk w with ⟨h1, h2, _⟩ | ⟨j, e, h1, h2, _, _⟩
  · cases c <;> simp [Instr.lookup, run_underlying ht, hgo, hc, h2, hz, h1]
  · cases c <;> simp [Instr.lookup, run_underlying ht, hgo, hc, h2, h1]
open Classical in
theorem mlook_push {es : List MapEntry} {e : MapEntry} (h : ∀ x ∈ es, x.key ≠ e.key) (k : Value) : mlook (es ++ [e]) k = mput (mlook es) e.key e.val k := by
  unfold mput
  by_cases c : k = e.key
  · subst c
    rw [if_pos rfl]
    unfold mlook
    rw [List.find?_append, List.find?_eq_none.2 (by simpa using h)]
    simp
  · rw [if_neg c]
    unfold mlook
    have e0 : [e].find? (fun x => decide (x.key = k)) = none := by simp [Ne.symm c]
    rw [List.find?_append, e0, Option.or_none]
open Classical in
theorem mlook_modify {es : List MapEntry} (hn : (es.map (·.key)).Nodup) {j : Nat} {e : MapEntry} (hj : es[j]? = some e) (e' : MapEntry) (he : e'.key = e.key) (k : Value) : mlook (es.set j e') k = mput (mlook es) e.key e'.val k := by
  have hn' : ((es.set j e').map (·.key)).Nodup := by
    have : (es.set j e').map (·.key) = es.map (·.key) := by
      rw [List.map_set, he]
      apply List.ext_getElem?
      intro i
      rw [List.getElem?_set]
      split
      · rename_i c; subst c
        obtain ⟨hl, rfl⟩ := List.getElem?_eq_some_iff.1 hj
        simp [hl]
      · rfl
    rw [this]; exact hn
  have hl : j < es.length := (List.getElem?_eq_some_iff.1 hj).1
  unfold mput
  by_cases c : k = e.key
  · rw [if_pos c, c, ← he]
    exact mlook_at (j := j) hn' (by simp [hl])
  · rw [if_neg c]
    rcases hf : es.find? (fun x => decide (x.key = k)) with _ | x
    · have h1 : mlook es k = none := by unfold mlook; rw [hf]; rfl
      rw [h1]
      refine mlook_none fun y hy => ?_
      rcases List.mem_or_eq_of_mem_set hy with hy | rfl
      · simpa using List.find?_eq_none.1 hf y hy
      · rw [he]; exact Ne.symm c
    · have hk : x.key = k := by simpa using List.find?_some hf
      obtain ⟨i, hi⟩ := List.getElem?_of_mem (List.mem_of_find?_eq_some hf)
      have hij : i ≠ j := fun e1 => by subst e1; rw [hi] at hj; cases hj; exact c hk.symm
      rw [← hk, mlook_at hn hi]
      exact mlook_at (j := i) hn' (by rw [List.getElem?_set, if_neg (Ne.symm hij)]; exact hi)
theorem MapOk.push {es : List MapEntry} {clock : Nat} {M : Value → Option Value} (h : MapOk P kt es clock M) {k : Value} (hk : IsK P kt k) (hn : ∀ e ∈ es, e.key ≠ k) (v : Value) : MapOk P kt (es ++ [{ key := k, val := v, born := clock }]) (clock + 1) (mput M k v) where
  keys e he := by
    rcases List.mem_append.1 he with c | c
    · exact h.keys e c
    · rw [List.mem_singleton.1 c]; exact hk
  nodup := by
    rw [List.map_append, List.nodup_append]
    exact ⟨h.nodup, by simp, fun a ha b hb e => by simp at hb; subst hb; subst e; obtain ⟨x, hx, he⟩ := List.mem_map.1 ha; exact hn x hx he⟩
  born e he := by
    rcases List.mem_append.1 he with c | c
    · have := h.born e c; omega
    · rw [List.mem_singleton.1 c]; exact Nat.lt_succ_self _
  births := by
    rw [List.map_append, List.nodup_append]
    exact ⟨h.births, by simp, fun a ha b hb e => by simp at hb; subst hb; subst e; obtain ⟨x, hx, he⟩ := List.mem_map.1 ha; have := h.born x hx; omega⟩
  look x := by
    rw [mlook_push hn]
    unfold mput
    split
    · rfl
    · exact h.look x
theorem map_set_same {α : Type} (f : MapEntry → α) {es : List MapEntry} {j : Nat} {e e' : MapEntry} (hj : es[j]? = some e) (he : f e' = f e) : (es.set j e').map f = es.map f := by
  rw [List.map_set, he]
  apply List.ext_getElem?
  intro i
  rw [List.getElem?_set]
  split
  · rename_i c; subst c
    obtain ⟨hl, rfl⟩ := List.getElem?_eq_some_iff.1 hj
    simp [hl]
  · rfl
theorem MapOk.set {es : List MapEntry} {clock : Nat} {M : Value → Option Value} (h : MapOk P kt es clock M) {j : Nat} {e : MapEntry} (hj : es[j]? = some e) (v : Value) : MapOk P kt (es.set j { e with val := v }) clock (mput M e.key v) where
  keys x hx := by
    rcases List.mem_or_eq_of_mem_set hx with c | rfl
    · exact h.keys x c
    · exact h.keys e (List.mem_of_getElem? hj)
  nodup := by rw [map_set_same (e' := { e with val := v }) (·.key) hj rfl]; exact h.nodup
  born x hx := by
    rcases List.mem_or_eq_of_mem_set hx with c | rfl
    · exact h.born x c
    · exact h.born e (List.mem_of_getElem? hj)
  births := by rw [map_set_same (e' := { e with val := v }) (·.born) hj rfl]; exact h.births
  look x := by
    rw [mlook_modify h.nodup hj { e with val := v } rfl]
    unfold mput
    split
    · rfl
    · exact h.look x
/-- 'm[k] = v' -/
theorem run_mput (K : Keyed P kt) {t et : TypeId} (ht : P.underlying t = some (.map kt et)) {w0 w : World} {L : List Part} (H : Holds w0 w L) (i : Nat) {g : Nat} {M : Value → Option Value} (hi : L[i]? = some (pMap P kt g M)) {k : Value} (hk : IsK P kt k) (v : Value) :
    ∃ w', (Instr.mapUpdate t (.map (some g)) k v).run P w = .ok () w' ∧ Holds w0 w' (L.set i (pMap P kt g (mput M k v))) ∧ w'.heap.size = w.heap.size := by
  obtain ⟨es, clock, hg, hm⟩ := H.at i hi
  obtain ⟨l, hl⟩ := id hk
  have hc := K.check w false hl
  have hgo : (getObj g).run P w = .ok (.map es clock) w := by simp [getObj, Sem.run, hg]
  have hso : ∀ o, (setObj g o).run P w = .ok () { w with heap := w.heap.setIfInBounds g o } := fun o => by simp [setObj, Sem.run, hg]
  have turned : ∀ (o : Obj) (M' : Value → Option Value), (∃ es clock, o = .map es clock ∧ MapOk P kt es.toList clock M') → Holds w0 { w with heap := w.heap.setIfInBounds g o } (L.set i (pMap P kt g M')) := by
    rintro o M' ⟨es', clock', rfl, hm'⟩
    refine H.turn i hi _ ⟨es', clock', ?_, hm'⟩ rfl rfl rfl (by simp) (fun j _ hj => ?_) fun j hj => .inl hj
    · have := lt_of_some hg
      simp [this]
    · have : g ≠ j := fun e => hj e.symm
      simp [this]
  rcases find_of K hm hk w with ⟨h1, h2, h3⟩ | ⟨j, e, h1, h2, h3, h4⟩
  · refine ⟨{ w with heap := w.heap.setIfInBounds g (.map (es.push { key := k, val := v, born := clock }) (clock + 1)) }, by simp [Instr.mapUpdate, run_underlying ht, hgo, hc, h2, hso], turned _ _ ⟨es.push { key := k, val := v, born := clock }, clock + 1, rfl, ?_⟩, by simp⟩
    rw [Array.toList_push]
    exact hm.push hk h3 v
  · have hst := K.stays w hl
    have hej : es[j]? = some e := by simpa using h3
    refine ⟨{ w with heap := w.heap.setIfInBounds g (.map (es.modify j fun e => { e with key := k, val := v }) clock) }, by simp [Instr.mapUpdate, run_underlying ht, hgo, hc, h2, hso, hej, h4, hst], turned _ _ ⟨es.modify j fun e => { e with key := k, val := v }, clock, rfl, ?_⟩, by simp⟩
    have hset : (es.modify j fun e => { e with key := k, val := v }).toList = es.toList.set j { e with val := v } := by
      apply List.ext_getElem?
      intro q
      rw [Array.getElem?_toList, Array.getElem?_modify, List.getElem?_set]
      by_cases c : j = q
      · subst c
        rw [if_pos rfl, if_pos rfl, if_pos (List.getElem?_eq_some_iff.1 h3).1, hej, ← h4]; rfl
      · rw [if_neg c, if_neg c]; simp
    rw [hset, ← h4]
    exact hm.set h3 v
/-- .. as the walk meets it -/
theorem mputH (K : Keyed P kt) {ops : Array Oper} {rest : List Oper} {o : Oper} {a : Act} {Q : Exit → Act → World → Prop} (hgd : o.guard = none) (m x y : Operand) {t et : TypeId} (ho : o.op = .mapUpdate t m x y) (ht : P.underlying t = some (.map kt et))
    {w0 w : World} {L : List Part} (H : Holds w0 w L) (i : Nat) {g : Nat} {M : Value → Option Value} (hi : L[i]? = some (pMap P kt g M)) {k v : Value} (hm : a.eval m = .map (some g)) (hx : a.eval x = k) (hy : a.eval y = v) (hk : IsK P kt k)
    (h : ∀ w', Holds w0 w' (L.set i (pMap P kt g (mput M k v))) → w'.heap.size = w.heap.size → wpList P ops Q rest (a.put o.dst undef) w') : wpList P ops Q (o :: rest) a w := by
  refine wpList_plain hgd fun _ hK => ?_
  obtain ⟨w', hr, h2, h3⟩ := run_mput K ht H i hi hk v
  unfold Oper.wp execOp
  simp only [ho, hm, hx, hy, Sem.run_bind, hr, Sem.run_pure, Result.andThen_ok]
  exact hK _ _ (h w' h2 h3)
/-- .. in a map's literal -/
theorem minsH (K : Keyed P kt) {ops : Array Oper} {rest : List Oper} {o : Oper} {a : Act} {Q : Exit → Act → World → Prop} (hgd : o.guard = none) (m x y : Operand) {t et : TypeId} (ho : o.op = .insert t m x y) (ht : P.underlying t = some (.map kt et))
    {w0 w : World} {L : List Part} (H : Holds w0 w L) (i : Nat) {g : Nat} {M : Value → Option Value} (hi : L[i]? = some (pMap P kt g M)) {k v : Value} (hm : a.eval m = .map (some g)) (hx : a.eval x = k) (hy : a.eval y = v) (hk : IsK P kt k)
    (h : ∀ w', Holds w0 w' (L.set i (pMap P kt g (mput M k v))) → w'.heap.size = w.heap.size → wpList P ops Q rest (a.put o.dst undef) w') : wpList P ops Q (o :: rest) a w := by
  refine wpList_plain hgd fun _ hK => ?_
  obtain ⟨w', hr, h2, h3⟩ := run_mput K ht H i hi hk v
  unfold Oper.wp execOp
  simp only [ho, hm, hx, hy, Sem.run_bind, hr, Sem.run_pure, Result.andThen_ok]
  exact hK _ _ (h w' h2 h3)
theorem run_mk (t : TypeId) (w : World) : (Instr.makeMap t none).run P w = .ok (.map (some w.heap.size)) (w.alloc (.map #[] 0)) := rfl
end
end Go.Proofs.Ytjhpkibeddnbfaa

namespace Go.Proofs.Ytjhpkibeddnbfaa
open Go.RowKit

section
variable {P : Program} {w : World}
/-- where a grown row lies -/
theorem append_lies (B : Nat) (t ty e : TypeId) (i : TypeInfo) (z : Value) (size bytes : Nat) (ht : P.underlying t = some (.slice e)) (hi : P.info? e = some i) (hz : i.zero = some z)
    (hsize : i.size = size) (hby : i.bytes = bytes) (hzs : z.cells.size = size) (hsz : 0 < size)
    (v : Value) (n : Nat) (xs : List Value) (hown : w.ownsRow B e size v n xs)
    (a : Addr) (m c : Nat) (news : List Value) (hl : news.length = m * size) (hnews : ∀ j u, news[j]? = some u → w.cell? (a.add j) = some u) (h1 : ∀ u ∈ news, u.oneCell' = true)
    (h63 : n + m ≤ maxLen) (hbytes : (n + m) * bytes ≤ 140737488355328) (hbase : B ≤ w.heap.size) {v' : Value} {w' : World} (hr : (Builtin.append_ #[t, t] ty #[v, .slice (some a) m c]).run P w = .ok v' w') :
    ∀ g, v'.ownBlock = some g → v.ownBlock = some g ∨ w.heap.size ≤ g := by
  intro g hg
  rcases hown.2 with ⟨rfl, rfl⟩ | ⟨g0, cap, cur, rfl, hbg, hg0, hnc, hcm, hcs, htake⟩
  · have hx : xs = [] := List.eq_nil_of_length_eq_zero (by simpa using hown.1)
    obtain ⟨v2, w2, hr2, ho2, _⟩ := run_append_own (P := P) w w.heap.size t ty e i z size bytes ht hi hz hsize hby hzs hsz (.slice none 0 0) 0 [] (World.ownsRow_nil _ _ _ _) a m c news hl hnews h1 h63 hbytes (Nat.le_refl _)
    rw [hr] at hr2
    cases hr2
    exact .inr (ho2.lt g hg).1
  · by_cases hroom : n + m ≤ cap
    · subst hsize
      have hfit : n * i.size + news.length ≤ cur.size := by rw [hl, hcs, ← Nat.add_mul]; exact Nat.mul_le_mul_right _ hroom
      rw [run_append_room (P := P) w t ty e i ht hi g0 n cap cur hg0 a m c news hl hnews h1 hroom hfit] at hr
      cases hr
      exact .inl hg
    · subst hsize
      subst hby
      have h63' : n + m ≤ 9223372036854775807 := by simp only [maxLen] at h63; omega
      rw [run_append_grow (P := P) w t ty e i z ht hi hz ⟨g0, 0, none⟩ n cap xs hown.1 (hown.cells (g := g0) rfl) a m c news hl hnews (by omega) (by omega) (growslice_fits (by omega) hbytes)] at hr
      cases hr
      refine .inr ?_
      have : w.heap.size = g := by simpa [Value.ownBlock] using hg
      omega

theorem appH {ops : Array Oper} {rest : List Oper} {o : Oper} {a : Act} {Q : Exit → Act → World → Prop} (hgd : o.guard = none) (s x : Operand) (t : TypeId)
    (ho : o.op = .call { callee := .builtin .append, args := #[s, x], argTypes := #[t, t] })
    (e : TypeId) (i : TypeInfo) (z : Value) (size bytes : Nat) (ht : P.underlying t = some (.slice e)) (hi : P.info? e = some i) (hz : i.zero = some z)
    (hsize : i.size = size) (hby : i.bytes = bytes) (hzs : z.cells.size = size) (hsz : 0 < size)
    (v : Value) (n : Nat) (xs : List Value) (hs : a.eval s = v) {w0 : World} {L : List Part} (H : Holds w0 w L) (k : Nat) (hk : L[k]? = some (pRow v e size n xs))
    (ad : Addr) (m c : Nat) (news : List Value) (hx : a.eval x = .slice (some ad) m c) (hl : news.length = m * size) (hnews : ∀ j u, news[j]? = some u → w.cell? (ad.add j) = some u) (h1 : ∀ u ∈ news, u.oneCell' = true)
    (h63 : n + m ≤ maxLen) (hbytes : (n + m) * bytes ≤ 140737488355328)
    (h : ∀ v' w', Holds w0 w' (L.set k (pRow v' e size (n + m) (xs ++ news))) → wpList P ops Q rest (a.put o.dst v') w') : wpList P ops Q (o :: rest) a w := by
  have hown := H.row k hk
  refine wpList_plain hgd fun _ hK => ?_
  obtain ⟨v', w', hr, h2, h3, h4⟩ := run_append_own (P := P) w w0.heap.size t o.type e i z size bytes ht hi hz hsize hby hzs hsz v n xs hown ad m c news hl hnews h1 h63 hbytes H.size
  have h5 := append_lies w0.heap.size t o.type e i z size bytes ht hi hz hsize hby hzs hsz v n xs hown ad m c news hl hnews h1 h63 hbytes H.size hr
  unfold Oper.wp execOp
  simp only [ho, resolve, invoke, builtin, Sem.run_bind, Sem.run_pure, Result.andThen_ok, List.map_toArray, List.map_cons, List.map_nil, hs, hx, hr]
  exact hK _ _ (h v' w' (H.grow k hk _ (row_low h2 (Nat.zero_le _)) h3 (fun g hg => hg) h5))
/-- the same as a run -/
theorem run_appH (t ty : TypeId) (e : TypeId) (i : TypeInfo) (z : Value) (size bytes : Nat) (ht : P.underlying t = some (.slice e)) (hi : P.info? e = some i) (hz : i.zero = some z)
    (hsize : i.size = size) (hby : i.bytes = bytes) (hzs : z.cells.size = size) (hsz : 0 < size)
    (v : Value) (n : Nat) (xs : List Value) {w0 : World} {L : List Part} (H : Holds w0 w L) (k : Nat) (hk : L[k]? = some (pRow v e size n xs))
    (ad : Addr) (m c : Nat) (news : List Value) (hl : news.length = m * size) (hnews : ∀ j u, news[j]? = some u → w.cell? (ad.add j) = some u) (h1 : ∀ u ∈ news, u.oneCell' = true)
    (h63 : n + m ≤ maxLen) (hbytes : (n + m) * bytes ≤ 140737488355328) :
    ∃ v' w', (Builtin.append_ #[t, t] ty #[v, .slice (some ad) m c]).run P w = .ok v' w' ∧ Holds w0 w' (L.set k (pRow v' e size (n + m) (xs ++ news))) ∧ w.heap.size ≤ w'.heap.size := by
  have hown := H.row k hk
  obtain ⟨v', w', hr, h2, h3, h4⟩ := run_append_own (P := P) w w0.heap.size t ty e i z size bytes ht hi hz hsize hby hzs hsz v n xs hown ad m c news hl hnews h1 h63 hbytes H.size
  have h5 := append_lies w0.heap.size t ty e i z size bytes ht hi hz hsize hby hzs hsz v n xs hown ad m c news hl hnews h1 h63 hbytes H.size hr
  exact ⟨v', w', hr, H.grow k hk _ (row_low h2 (Nat.zero_le _)) h3 (fun g hg => hg) h5, h3.size⟩
theorem exec_append {o : Oper} {a : Act} {s x : Operand} {t : TypeId} (ho : o.op = .call { callee := .builtin .append, args := #[s, x], argTypes := #[t, t] }) {v v' u : Value} {w' : World} (hs : a.eval s = v) (hx : a.eval x = u)
    (hr : (Builtin.append_ #[t, t] o.type #[v, u]).run P w = .ok v' w') : (execOp a.eval o).run P w = .ok (.value v') w' := by
  unfold execOp
  simp only [ho, resolve, invoke, builtin, Sem.run_bind, Sem.run_pure, Result.andThen_ok, List.map_toArray, List.map_cons, List.map_nil, hs, hx, hr]
end
end Go.Proofs.Ytjhpkibeddnbfaa

namespace Go.Proofs.Ytjhpkibeddnbfaa
open Go.RowKit

@[irreducible] def dv (n : Int) (f g : Nat → Nat) : Array Value := row 33 fun i => if i = 0 then .int .i64 n else if i < 17 then .int .u8 (f (i - 1)) else .int .u8 (g (i - 17))
theorem dv_size (n : Int) (f g : Nat → Nat) : (dv n f g).size = 33 := by unfold dv; exact row_size _ _
theorem dv_n (n : Int) (f g : Nat → Nat) : (dv n f g)[0]? = some (.int .i64 n) := by unfold dv; rw [row_get _ _ (by omega)]; rfl
theorem dv_b (n : Int) (f g : Nat → Nat) {i : Nat} (h : i < 16) : (dv n f g)[1 + i]? = some (.int .u8 (f i)) := by
  unfold dv; rw [row_get _ _ (by omega), if_neg (by omega), if_pos (by omega), show 1 + i - 1 = i from by omega]
theorem dv_w (n : Int) (f g : Nat → Nat) {i : Nat} (h : i < 16) : (dv n f g)[17 + i]? = some (.int .u8 (g i)) := by
  unfold dv; rw [row_get _ _ (by omega), if_neg (by omega), if_neg (by omega), show 17 + i - 17 = i from by omega]
theorem dv_zero : dv 0 (fun _ => 0) (fun _ => 0) = #[Value.int .i64 0, Value.int .u8 0, Value.int .u8 0, Value.int .u8 0, Value.int .u8 0, Value.int .u8 0, Value.int .u8 0, Value.int .u8 0, Value.int .u8 0, Value.int .u8 0, Value.int .u8 0, Value.int .u8 0, Value.int .u8 0, Value.int .u8 0, Value.int .u8 0, Value.int .u8 0, Value.int .u8 0, Value.int .u8 0, Value.int .u8 0, Value.int .u8 0, Value.int .u8 0, Value.int .u8 0, Value.int .u8 0, Value.int .u8 0, Value.int .u8 0, Value.int .u8 0, Value.int .u8 0, Value.int .u8 0, Value.int .u8 0, Value.int .u8 0, Value.int .u8 0, Value.int .u8 0, Value.int .u8 0] := by unfold dv row; rfl
theorem dv_lit (n : Int) : dv n (fun _ => 0) (fun _ => 0) = #[Value.int .i64 n, Value.int .u8 0, Value.int .u8 0, Value.int .u8 0, Value.int .u8 0, Value.int .u8 0, Value.int .u8 0, Value.int .u8 0, Value.int .u8 0, Value.int .u8 0, Value.int .u8 0, Value.int .u8 0, Value.int .u8 0, Value.int .u8 0, Value.int .u8 0, Value.int .u8 0, Value.int .u8 0, Value.int .u8 0, Value.int .u8 0, Value.int .u8 0, Value.int .u8 0, Value.int .u8 0, Value.int .u8 0, Value.int .u8 0, Value.int .u8 0, Value.int .u8 0, Value.int .u8 0, Value.int .u8 0, Value.int .u8 0, Value.int .u8 0, Value.int .u8 0, Value.int .u8 0, Value.int .u8 0] := by unfold dv row; rfl
theorem dv_cells (n : Int) (f g : Nat → Nat) : (dv n f g).all (·.oneCell') = true := by
  unfold dv row
  simp only [List.all_toArray, List.all_map, List.all_eq_true, Function.comp]
  intro i _
  split
  · rfl
  · split <;> rfl

def Is33 (c : Array Value) : Prop := c.size = 33
@[go_sem] theorem is33_dv (n : Int) (f g : Nat → Nat) : Is33 (dv n f g) ↔ True := ⟨fun _ => trivial, fun _ => dv_size n f g⟩
@[go_sem] theorem is33_lit (x0 x1 x2 x3 x4 x5 x6 x7 x8 x9 x10 x11 x12 x13 x14 x15 x16 x17 x18 x19 x20 x21 x22 x23 x24 x25 x26 x27 x28 x29 x30 x31 x32 : Value) : Is33 #[x0, x1, x2, x3, x4, x5, x6, x7, x8, x9, x10, x11, x12, x13, x14, x15, x16, x17, x18, x19, x20, x21, x22, x23, x24, x25, x26, x27, x28, x29, x30, x31, x32] ↔ True := ⟨fun _ => trivial, fun _ => rfl⟩
@[go_sem] theorem ones_dv (n : Int) (f g : Nat → Nat) : Ones (dv n f g) ↔ True := ⟨fun _ => trivial, fun _ => dv_cells n f g⟩
@[go_sem] theorem ones_z33 : Ones #[Value.int .i64 0, Value.int .u8 0, Value.int .u8 0, Value.int .u8 0, Value.int .u8 0, Value.int .u8 0, Value.int .u8 0, Value.int .u8 0, Value.int .u8 0, Value.int .u8 0, Value.int .u8 0, Value.int .u8 0, Value.int .u8 0, Value.int .u8 0, Value.int .u8 0, Value.int .u8 0, Value.int .u8 0, Value.int .u8 0, Value.int .u8 0, Value.int .u8 0, Value.int .u8 0, Value.int .u8 0, Value.int .u8 0, Value.int .u8 0, Value.int .u8 0, Value.int .u8 0, Value.int .u8 0, Value.int .u8 0, Value.int .u8 0, Value.int .u8 0, Value.int .u8 0, Value.int .u8 0, Value.int .u8 0] ↔ True := ⟨fun _ => trivial, fun _ => by unfold Ones; simp [Value.oneCell']⟩
@[go_sem] theorem rowOk_at33 {w : World} {g : Nat} {c : Array Value} {t : TypeId} (h : g = w.heap.size) (hc : Is33 c) : rowOk (w.alloc (.cells c t)) g 33 ↔ True := ⟨fun _ => trivial, fun _ => ⟨c, t, heap_at _ _ _ h, hc⟩⟩

@[go_sem] theorem cellsOf_ne {w : World} {g g' : Nat} {c' : Array Value} (h : g ≠ g') : cellsOf (w.setRow g' c') g = cellsOf w g := cellsOf_setRow_ne h
@[go_sem] theorem cellsOf_same33 {w : World} {g : Nat} {c' : Array Value} (h : rowOk w g 33) : cellsOf (w.setRow g c') g = c' := cellsOf_setRow h
@[go_sem] theorem cellsOf_same16 {w : World} {g : Nat} {c' : Array Value} (h : rowOk w g 16) : cellsOf (w.setRow g c') g = c' := cellsOf_setRow h
@[go_sem] theorem rowOk_ne {w : World} {g g' n : Nat} {c' : Array Value} (h : g ≠ g') : rowOk (w.setRow g' c') g n ↔ rowOk w g n := rowOk_setRow_ne h
@[go_sem] theorem rowOk_same33 {w : World} {g : Nat} {c' : Array Value} (h : rowOk w g 33) (hc : Is33 c') : rowOk (w.setRow g c') g 33 ↔ True := ⟨fun _ => trivial, fun _ => rowOk_setRow h hc⟩
@[go_sem] theorem rowOk_same16 {w : World} {g : Nat} {c' : Array Value} (h : rowOk w g 16) (hc : Is16 c') : rowOk (w.setRow g c') g 16 ↔ True := ⟨fun _ => trivial, fun _ => rowOk_setRow h hc⟩
/-- Black and White of thirty-three cells -/
def blackOf (c : Array Value) : Array Value := c.extract 1 17
def whiteOf (c : Array Value) : Array Value := c.extract 17 33
def setBlack (c b : Array Value) : Array Value := (c.toList.take 1 ++ b.toList ++ c.toList.drop 17).toArray
def setWhite (c b : Array Value) : Array Value := (c.toList.take 17 ++ b.toList ++ c.toList.drop 33).toArray
theorem get_cases (n : Int) (f g : Nat → Nat) (i : Nat) : (dv n f g)[i]? = if i < 33 then some (if i = 0 then .int .i64 n else if i < 17 then .int .u8 (f (i - 1)) else .int .u8 (g (i - 17))) else none := by
  unfold dv
  by_cases h : i < 33
  · rw [row_get _ _ h, if_pos h]
  · rw [row_none _ _ h, if_neg h]
theorem av_cases (f : Nat → Nat) (i : Nat) : (av f)[i]? = if i < 16 then some (.int .u8 (f i)) else none := by
  by_cases h : i < 16
  · rw [av_get _ h, if_pos h]
  · rw [if_neg h, Array.getElem?_eq_none]; rw [av_size]; omega
@[go_sem] theorem blackOf_dv (n : Int) (f g : Nat → Nat) : blackOf (dv n f g) = av f := by
  apply Array.ext_getElem?
  intro i
  unfold blackOf
  rw [Array.getElem?_extract, get_cases, av_cases, dv_size]
  by_cases h : i < 16
  · rw [if_pos (by omega), if_pos (by omega), if_neg (by omega), if_pos (by omega), if_pos h, show 1 + i - 1 = i from by omega]
  · rw [if_neg (by omega), if_neg h]
@[go_sem] theorem whiteOf_dv (n : Int) (f g : Nat → Nat) : whiteOf (dv n f g) = av g := by
  apply Array.ext_getElem?
  intro i
  unfold whiteOf
  rw [Array.getElem?_extract, get_cases, av_cases, dv_size]
  by_cases h : i < 16
  · rw [if_pos (by omega), if_pos (by omega), if_neg (by omega), if_neg (by omega), if_pos h, show 17 + i - 17 = i from by omega]
  · rw [if_neg (by omega), if_neg h]
@[go_sem] theorem setBlack_dv (n : Int) (f g b : Nat → Nat) : setBlack (dv n f g) (av b) = dv n b g := by
  apply Array.ext_getElem?
  intro i
  have l1 : (dv n f g).toList.length = 33 := by simpa using dv_size n f g
  have l2 : (av b).toList.length = 16 := by simpa using av_size b
  unfold setBlack
  rw [List.getElem?_toArray, get_cases]
  by_cases h0 : i < 1
  · rw [List.getElem?_append_left (by simp [l1]; omega), List.getElem?_append_left (by simp [l1]; omega), List.getElem?_take_of_lt (by omega), Array.getElem?_toList, get_cases]
    rw [if_pos (by omega), if_pos (by omega), if_pos (by omega), if_pos (by omega)]
  · by_cases h1 : i < 17
    · rw [List.getElem?_append_left (by simp [l1, l2, av_size]; omega), List.getElem?_append_right (by simp [l1]; omega), Array.getElem?_toList, av_cases]
      have e : i - (List.take 1 (dv n f g).toList).length = i - 1 := by simp [l1, dv_size]
      rw [e, if_pos (by omega), if_pos (by omega), if_neg (by omega), if_pos h1]
    · rw [List.getElem?_append_right (by simp [l1, l2, av_size, dv_size]; omega), List.getElem?_drop, Array.getElem?_toList, get_cases]
      have e : 17 + (i - (List.take 1 (dv n f g).toList ++ (av b).toList).length) = i := by simp [l1, l2, av_size, dv_size]; omega
      rw [e]
      by_cases h2 : i < 33
      · rw [if_pos h2, if_pos h2, if_neg (by omega), if_neg (by omega), if_neg (by omega), if_neg (by omega)]
      · rw [if_neg h2, if_neg h2]
@[go_sem] theorem setWhite_dv (n : Int) (f g b : Nat → Nat) : setWhite (dv n f g) (av b) = dv n f b := by
  apply Array.ext_getElem?
  intro i
  have l1 : (dv n f g).toList.length = 33 := by simpa using dv_size n f g
  have l2 : (av b).toList.length = 16 := by simpa using av_size b
  unfold setWhite
  rw [List.getElem?_toArray, get_cases]
  by_cases h0 : i < 17
  · rw [List.getElem?_append_left (by simp [l1, dv_size, av_size]; omega), List.getElem?_append_left (by simp [l1, dv_size]; omega), List.getElem?_take_of_lt (by omega), Array.getElem?_toList, get_cases]
    by_cases h : i = 0
    · simp [h]
    · simp [h, h0, show i < 33 from by omega]
  · by_cases h1 : i < 33
    · rw [List.getElem?_append_left (by simp [l1, l2, av_size, dv_size]; omega), List.getElem?_append_right (by simp [l1, dv_size]; omega), Array.getElem?_toList, av_cases]
      have e : i - (List.take 17 (dv n f g).toList).length = i - 17 := by simp [l1, dv_size]
      rw [e, if_pos (by omega), if_pos (by omega), if_neg (by omega), if_neg (by omega)]
    · rw [List.getElem?_append_right (by simp [l1, l2, av_size, dv_size]; omega), List.getElem?_drop, Array.getElem?_toList, get_cases, if_neg (by omega), if_neg h1]

theorem aggD : AggT 30 33 := ⟨⟨_, Try.underlying30, rfl⟩, by kernel_rfl⟩
theorem aggL : AggT 24 33 := ⟨⟨_, Try.underlying24, rfl⟩, by kernel_rfl⟩

/-- sixteen cells out of the midst of a block, and into it -/
theorem run_load_mid {T n : Nat} (hT : AggT T n) {w : World} {g o : Nat} {cs : Array Value} (h : (cellsOf w g).extract o (o + n) = cs) (hs : cs.size = n) :
    (loadT T (.pointer (some ⟨g, o, none⟩))).run Try.prog w = .ok (.value (.agg cs)) w := by
  obtain ⟨d, hd, hd'⟩ := hT.und
  have := run_loadVar_mid (P := Try.prog) w g o T cs.toList d (fun j v hv => by
    rw [cell_of_cells]
    rw [← h] at hv
    simp only [Array.getElem?_toList, Array.getElem?_extract] at hv
    split at hv
    · exact hv
    · cases hv) hd (by cases d <;> first | rfl | simp at hd') (by rw [Array.length_toList, hs]; exact hT.siz)
  simp only [loadT, Instr.loadAt, Instr.sureAddr, Sem.run_bind, Sem.run_pure, Result.andThen_ok, this]
theorem run_store_mid {T n m : Nat} (hT : AggT T n) {w : World} {g o : Nat} {cs : Array Value} (h : rowOk w g m) (hm : o + n ≤ m) (hs : cs.size = n) (hc : cs.all (·.oneCell') = true) :
    (storeT T (.pointer (some ⟨g, o, none⟩)) (.agg cs)).run Try.prog w = .ok .skip (w.setRow g ((cellsOf w g).toList.take o ++ cs.toList ++ (cellsOf w g).toList.drop (o + n)).toArray) := by
  obtain ⟨t, h1, h2⟩ := h.heap
  have := run_storeCells_at (P := Try.prog) g o t cs.toList 0 (cellsOf w g) w h1 (by simp [hs, h2]; omega) (fun v hv => (Array.all_eq_true_iff_forall_mem.1 hc) v (by simpa using hv))
  rcases hq : Try.prog.info? T with _ | i
  · have := hT.siz; rw [hq] at this; cases this
  · have hi : i.size = n := by have := hT.siz; rw [hq] at this; simpa using this
    simp only [Nat.add_zero, Array.length_toList, hs] at this
    simp only [storeT, Instr.storeAt, Instr.sureAddr, storeVar, sizeOf, typeInfo, hq, Value.cells, Sem.run_bind, Sem.run_pure, Result.andThen_ok, run_program, hs, hi, ne_eq, not_true_eq_false, if_false, this]

section
variable (ρ : Operand → Value) (dst : Option Tmp) (x y : Operand) (ty : TypeId) (pos : String) (after : Array Edge) (guard : Option (Nat × Bool))
@[go_sem ↓] theorem exec_loadD : execOp ρ { dst, op := .load 30 x, type := ty, pos, after, guard } = loadT 30 (ρ x) := rfl
@[go_sem ↓] theorem exec_storeD : execOp ρ { dst, op := .store 30 x y, type := ty, pos, after, guard } = storeT 30 (ρ x) (ρ y) := rfl
@[go_sem ↓] theorem exec_loadL : execOp ρ { dst, op := .load 24 x, type := ty, pos, after, guard } = loadT 24 (ρ x) := rfl
end
section
variable {w : World} {g : Nat} {cs : Array Value}
@[go_sem] theorem run_loadD (h : Is33 (cellsOf w g)) : (loadT 30 (.pointer (some ⟨g, 0, none⟩))).run Try.prog w = .ok (.value (.agg (cellsOf w g))) w := run_loadT aggD h (by decide)
@[go_sem] theorem run_loadL (h : Is33 (cellsOf w g)) : (loadT 24 (.pointer (some ⟨g, 0, none⟩))).run Try.prog w = .ok (.value (.agg (cellsOf w g))) w := run_loadT aggL h (by decide)
@[go_sem] theorem run_storeD (h : rowOk w g 33) (hs : Is33 cs) (hc : Ones cs) :
    (storeT 30 (.pointer (some ⟨g, 0, none⟩)) (.agg cs)).run Try.prog w = .ok .skip (w.setRow g cs) := run_storeT aggD h hs hc
@[go_sem] theorem run_loadPb (h : Is16 (blackOf (cellsOf w g))) : (loadT 28 (.pointer (some ⟨g, 1, none⟩))).run Try.prog w = .ok (.value (.agg (blackOf (cellsOf w g)))) w := run_load_mid aggP rfl h
@[go_sem] theorem run_loadPw (h : Is16 (whiteOf (cellsOf w g))) : (loadT 28 (.pointer (some ⟨g, 17, none⟩))).run Try.prog w = .ok (.value (.agg (whiteOf (cellsOf w g)))) w := run_load_mid aggP rfl h
@[go_sem] theorem run_loadAb (h : Is16 (blackOf (cellsOf w g))) : (loadT 22 (.pointer (some ⟨g, 1, none⟩))).run Try.prog w = .ok (.value (.agg (blackOf (cellsOf w g)))) w := run_load_mid aggA rfl h
@[go_sem] theorem run_loadAw (h : Is16 (whiteOf (cellsOf w g))) : (loadT 22 (.pointer (some ⟨g, 17, none⟩))).run Try.prog w = .ok (.value (.agg (whiteOf (cellsOf w g)))) w := run_load_mid aggA rfl h
@[go_sem] theorem run_storePb (h : rowOk w g 33) (hs : Is16 cs) (hc : Ones cs) :
    (storeT 28 (.pointer (some ⟨g, 1, none⟩)) (.agg cs)).run Try.prog w = .ok .skip (w.setRow g (setBlack (cellsOf w g) cs)) := run_store_mid aggP h (by decide) hs hc
@[go_sem] theorem run_storePw (h : rowOk w g 33) (hs : Is16 cs) (hc : Ones cs) :
    (storeT 28 (.pointer (some ⟨g, 17, none⟩)) (.agg cs)).run Try.prog w = .ok .skip (w.setRow g (setWhite (cellsOf w g) cs)) := run_store_mid aggP h (by decide) hs hc
end

end Go.Proofs.Ytjhpkibeddnbfaa

namespace Go.Proofs.Ytjhpkibeddnbfaa
open Go.RowKit

section
variable {P : Program} {ops : Array Oper} {md : Region.Mode} {C : World → Prop}

/-- k operations more, all below n, whichever comes up; then L -/
def headQ (P : Program) (md : Region.Mode) (ops : Array Oper) (C : World → Prop) (n : Nat) (L : Array Bool → Act → Prop) : Nat → Array Bool → Act → Prop
  | 0, done, a => L done a
  | k + 1, done, a => Region.ready md ops done ≠ [] ∧ ∀ i ∈ Region.ready md ops done, i < n ∧ qOp P ops C i (headQ P md ops C n L k (done.setIfInBounds i true)) a

theorem headQ_any {n g : Nat} {L : Array Bool → Act → Prop} {Q : Exit → Act → World → Prop} (hL : ∀ done a w, C w → L done a → wpAny P md ops Q g done a w) (k : Nat) :
    ∀ (done : Array Bool) (a : Act) (w : World), C w → headQ P md ops C n L k done a → wpAny P md ops Q (k + g) done a w := by
  induction k with
  | zero => intro done a w hw h; rw [Nat.zero_add]; exact hL _ _ _ hw h
  | succ k ih =>
    intro done a w hw h
    rw [show k + 1 + g = (k + g) + 1 by omega]
    exact ⟨fun e => absurd e h.1, fun i hi => wpOp_of_qOp hw (fun a' w' hw' h' => ih _ a' w' hw' h') (h.2 i hi).2⟩

/-- an operation of the head may be taken first -/
theorem headQ_first {n i : Nat} {o : Oper} {v : Value} {L : Array Bool → Act → Prop} (hi : ops[i]? = some o) (hsel : ∀ (j : Nat) (o : Oper) cs b, ops[j]? = some o → o.op ≠ .select cs b)
    (hs : Region.sinkB md ops n = true) (hc : Region.chainB md ops n = true) (hn : n < ops.size) (hin : i < n) (hdone : ∀ done a, L done a → ∀ j ∈ Region.ready md ops done, n ≤ j) (k : Nat) :
    ∀ (done : Array Bool) (a : Act), HeadInv md ops n done →
      (∀ j oj, ops[j]? = some oj → j ≠ i → done.getD j true = false → (∀ e ∈ oj.after, Region.binds md e = true → e.on ≠ i) → o.apart ops oj = true) →
      i ∈ Region.ready md ops done → YieldsIn P ops C o v a →
      headQ P md ops C n L k (done.setIfInBounds i true) (a.put o.dst v) → headQ P md ops C n L (k + 1) done a := by
  have low : ∀ (done : Array Bool), HeadInv md ops n done → i ∈ Region.ready md ops done → ∀ j ∈ Region.ready md ops done, j < n := by
    intro done inv hr j hj
    rcases Nat.lt_or_ge j n with h | h
    · exact h
    · exact absurd hj (tail_waits hs hc hn inv _ i rfl hin (mem_ready.1 hr).1 j h)
  have some_ready : ∀ (done : Array Bool), i ∈ Region.ready md ops done → Region.ready md ops done ≠ [] := fun done hr e => by rw [e] at hr; cases hr
  induction k with
  | zero =>
    intro done a inv _ hr hy H
    refine ⟨some_ready done hr, fun j hj => ⟨low done inv hr j hj, ?_⟩⟩
    by_cases e : j = i
    · subst e; exact hy.qOp hi H
    · have := hdone _ _ H j (ready_mono hj e)
      have := low done inv hr j hj
      omega
  | succ k ih =>
    intro done a inv hfree hr hy H
    refine ⟨some_ready done hr, fun j hj => ⟨low done inv hr j hj, ?_⟩⟩
    by_cases e : j = i
    · subst e; exact hy.qOp hi H
    · obtain ⟨hjun, oj, hoj, hall⟩ := mem_ready.1 hj
      have hun := (mem_ready.1 hr).1
      have hno : ∀ e ∈ oj.after, Region.binds md e = true → e.on ≠ i := fun e he hb h => by
        have := hall e he hb
        rw [h, getD_both hun] at this
        cases this
      refine qOp_mono (fun a' h3 => ih (done.setIfInBounds j true) a' (inv.set hj (low done inv hr j hj)) (fun k' ok hk hki hk' hnk => hfree k' ok hk hki ?_ hnk) (ready_mono hr (Ne.symm e)) h3.1 ?_)
        (qOp_put hoj (hfree j oj hoj e hjun hno) (fun cs b => hsel i o cs b hi) (fun cs b => hsel j oj cs b hoj) hy (H.2 j (ready_mono hj e)).2)
      · by_cases e' : j = k'
        · subst e'; exact hjun
        · rw [getD_set_ne true e'] at hk'; exact hk'
      · rw [Array.setIfInBounds_comm _ _ e]; exact h3.2

theorem headQ_lex {n g : Nat} {K : Act → Prop} (hsel : Region.noSelect ops = true) (hs : Region.sinkB md ops n = true) (hc : Region.chainB md ops n = true) (hn : n < ops.size) (l : List Oper) :
    ∀ (k : Nat) (done : Array Bool) (a : Act), (∀ j, j < l.length → l[j]? = ops[k + j]?) → k + l.length = n → HeadInv md ops n done → Region.lexHead md ops g l.length k done = true →
    wpQuiet P ops C K l a → headQ P md ops C n (fun done' a' => Region.seqB md ops g n done' = true ∧ K a') l.length done a := by
  induction l with
  | nil =>
    intro k done a _ hk _ hB h
    obtain rfl : k = n := by simpa using hk
    exact ⟨by simpa [Region.lexHead] using hB, h⟩
  | cons o l ih =>
    intro k done a hl hk inv hB h
    have h0 : ops[k]? = some o := by simpa using (hl 0 (by simp)).symm
    simp only [List.length_cons] at hk
    simp only [List.length_cons, Region.lexHead, Bool.and_eq_true] at hB
    have hr : k ∈ Region.ready md ops done := by simpa using hB.1.1
    obtain ⟨v, hy, hK⟩ := yieldsIn_of_qOp (C := C) (K := wpQuiet P ops C K l) h0 (by unfold qOp; simp only [h0]; exact h)
    exact headQ_first h0 (Region.noSelect_spec hsel) hs hc hn (by omega) (fun done' a' hL => seqB_ready hL.1) l.length done a inv (Region.free_spec h0 hB.1.2) hr hy
      (ih (k + 1) _ _ (fun j hj => by have := hl (j + 1) (by simp; omega); simpa [Nat.add_assoc, Nat.add_comm 1 j] using this) (by omega) (inv.set hr (by omega)) hB.2 hK)

theorem region_tail {id : Nat} {Q : Exit → Act → World → Prop} {a : Act} {w : World} {l : List Oper} (C : World → Prop) (n : Nat) (hm : P.follows .mixedOrders = true) (hB : Region.lexTailB .any l.toArray n = true) (hC : C w.drew)
    (h : wpQuiet P l.toArray C (fun a' => ∀ w', C w' → wpList P l.toArray Q (l.drop n) a' w') (l.take n) a) : (Code.region id l.toArray true).wp P Q a w := by
  simp only [Region.lexTailB, Bool.and_eq_true, decide_eq_true_eq] at hB
  obtain ⟨⟨⟨⟨hsel, hn⟩, hs⟩, hc⟩, hlex⟩ := hB
  have hl : n < l.length := by simpa using hn
  have ht : (l.take n).length = n := by simp; omega
  have hd : (l.drop n).length = l.toArray.size - n := by simp
  have H := headQ_lex (md := .any) (g := l.toArray.size - n) hsel hs hc hn (l.take n) 0 (Array.replicate l.toArray.size false) a (fun j hj => by
    have hj' : j < n := by rw [ht] at hj; exact hj
    simp [hj']) (by simpa using ht) ⟨by simp, fun j oj _ e => (by rw [getD_replicate_false] at e; cases e), fun t _ e => getD_in (by simpa using e) (getD_replicate_false _ _)⟩ (by rw [ht]; exact hlex) h
  refine wp_region_any hm ?_
  have := headQ_any (Q := Q) (g := l.toArray.size - n) (fun done a' w' hw' hL => by
    have := wpAny_of_seq (md := .any) (Q' := Q) (l.drop n) n done a' w' (fun j => by simp [List.getElem?_drop]) (by rw [hd]; exact hL.1) (hL.2 w' hw')
    rwa [hd] at this) _ _ _ _ hC H
  rw [ht, show n + (l.toArray.size - n) = l.toArray.size by omega] at this
  exact this

/-- one operation of the head -/
theorem q_step {o : Oper} {rest : List Oper} {a : Act} {K : Act → Prop} (hw : Region.wanted o (yielded ops a.tmps) = true) (v : Value) (h1 : ∀ w, C w → o.quietAt P a C w v) (h2 : wpQuiet P ops C K rest (a.put o.dst v)) :
    wpQuiet P ops C K (o :: rest) a := by
  unfold wpQuiet; rw [if_pos hw]; exact ⟨v, h1, h2⟩
end

/-- the class: what has been made before stands, and new blocks may have come -/
def Grown (w0 w : World) : Prop := Below w0.heap.size w0 w
theorem Grown.drew (w : World) : Grown w w.drew := ⟨rfl, rfl, rfl, Nat.le_refl _, fun _ _ => rfl⟩
theorem Grown.cells {w0 w : World} {g : Nat} {c : Array Value} (h : Grown w0 w) (hc : cellsOf w0 g = c) (hg : g < w0.heap.size) : cellsOf w g = c := (below_cells h hg).trans hc
theorem Grown.row {w0 w : World} {g n : Nat} (h : Grown w0 w) (hr : rowOk w0 g n) : rowOk w g n := (below_row h hr.lt).2 hr
theorem Grown.call {w0 w w' : World} (h : Grown w0 w) (hb : Below w.heap.size w w') : Grown w0 w' := Below.trans h (hb.mono h.size)
end Go.Proofs.Ytjhpkibeddnbfaa

namespace Go.Proofs.Ytjhpkibeddnbfaa
open Go.RowKit

theorem Grown.trans {a b c : World} (h : Grown a b) (k : Grown b c) : Grown a c := Below.trans h (Below.mono k h.size)
theorem grown_below {w w' : World} (h : Below w.heap.size w w') : Grown w w' := h

section
variable (P : Program) (md : Region.Mode) (ops : Array Oper) (W : World) (E : Nat → Option (World → Value → World → Prop)) (S : Nat → Bool) (K : Act → World → Prop)

def uponG (w : World) (v : Value) : Result Next → Prop
  | .ok (.value u) w' => w' = w ∧ u = v
  | .ok .skip w' => w' = w ∧ v = undef
  | .ok (.enter f args) w' => w' = w ∧ Calls P f args w (fun e w'' => e = .returned v ∧ Below w.heap.size w w'')
  | _ => False
def uponE (R : Value → World → Prop) (w : World) : Result Next → Prop
  | .ok (.value u) w' => Below w.heap.size w w' ∧ R u w'
  | .ok (.enter f args) w' => w' = w ∧ Calls P f args w (fun e w'' => ∃ v, e = .returned v ∧ Below w.heap.size w w'' ∧ R v w'')
  | _ => False
def atG (o : Oper) (a : Act) (w : World) (v : Value) : Prop := uponG P w v ((execOp a.eval o).run P w)
def Stable (R : World → Prop) : Prop := ∀ w w', R w → Below w.heap.size w w' → R w'

/-- one operation, and what follows -/
def opV (i : Nat) (N : Act → (World → Prop) → Prop) (a : Act) (D : World → Prop) : Prop :=
  match ops[i]? with
  | none => N a D
  | some o =>
    if Region.wanted o (yielded ops a.tmps) then
      match E i with
      | some R => (∀ w, Grown W w → D w → uponE P (R w) w ((execOp a.eval o).run P w)) ∧ ∀ v, (∃ w w', Grown W w ∧ R w v w') → N (a.put o.dst v) (fun w => ∃ w0 w1, D w0 ∧ Grown W w0 ∧ Grown w0 w1 ∧ R w0 v w1 ∧ Grown w1 w)
      | none =>
        if S i then ∃ (g n : Nat) (cs : Array Value), (∀ w, D w → rowOk w g n) ∧ W.heap.size ≤ g ∧ (∀ w, Grown W w → rowOk w g n → (execOp a.eval o).run P w = .ok .skip (w.setRow g cs)) ∧
          N (a.put o.dst undef) (fun w => ∃ w1, D w1 ∧ Grown W w1 ∧ Grown (w1.setRow g cs) w)
        else ∃ v, (∀ w, Grown W w → atG P o a w v) ∧ N (a.put o.dst v) D
    else N (a.put o.dst undef) D

theorem opV_mono {i : Nat} {N N' : Act → (World → Prop) → Prop} {a : Act} {D : World → Prop} (h : ∀ a D, N a D → N' a D) (hh : opV P ops W E S i N a D) : opV P ops W E S i N' a D := by
  unfold opV at *
  split
  · rename_i ho; simp only [ho] at hh; exact h _ _ hh
  · rename_i o ho
    simp only [ho] at hh
    split
    · rename_i hw
      rw [if_pos hw] at hh
      split
      · rename_i R hR; simp only [hR] at hh; exact ⟨hh.1, fun v hv => h _ _ (hh.2 v hv)⟩
      · rename_i hR
        simp only [hR] at hh
        split
        · rename_i hS; rw [if_pos hS] at hh; obtain ⟨g, n, cs, h1, h2, h3, h4⟩ := hh; exact ⟨g, n, cs, h1, h2, h3, h _ _ h4⟩
        · rename_i hS; rw [if_neg hS] at hh; obtain ⟨v, h1, h2⟩ := hh; exact ⟨v, h1, h _ _ h2⟩
    · rename_i hw; rw [if_neg hw] at hh; exact h _ _ hh

/-- whatever order is picked -/
def anyV : Nat → Array Bool → Act → (World → Prop) → Prop
  | 0, done, a, D => Region.ready md ops done = [] ∧ ∀ w, Grown W w → D w → K a w
  | f + 1, done, a, D => (Region.ready md ops done = [] → ∀ w, Grown W w → D w → K a w) ∧ ∀ i ∈ Region.ready md ops done, opV P ops W E S i (anyV f (done.setIfInBounds i true)) a D

theorem op_sound {i : Nat} {N : Act → (World → Prop) → Prop} {K' : Act → World → Prop} {Q : Exit → Act → World → Prop} {a : Act} {D : World → Prop} {w : World} (hD : Stable D) (hw : Grown W w) (hDw : D w)
    (hN : ∀ a D w, Stable D → Grown W w → D w → N a D → K' a w) (h : opV P ops W E S i N a D) : wpOp P ops Q i K' a w := by
  unfold opV at h
  unfold wpOp
  split
  · rename_i ho; simp only [ho] at h; exact hN _ _ _ hD hw hDw h
  · rename_i o ho
    simp only [ho] at h
    split
    · rename_i hwa
      rw [if_pos hwa] at h
      refine .inl ?_
      unfold Oper.wp
      rcases hE : E i with _ | R
      · simp only [hE] at h
        by_cases hS : S i = true
        · rw [if_pos hS] at h
          obtain ⟨g, n, cs, h1, h2, h3, h4⟩ := h
          rw [h3 w hw (h1 w hDw)]
          simp only [Oper.upon]
          have hg : Grown W (w.setRow g cs) := below_setRow hw h2 cs
          refine hN _ _ _ ?_ hg ⟨w, hDw, hw, Below.refl _ _⟩ h4
          rintro x x' ⟨w1, k1, k2, k3⟩ hb
          exact ⟨w1, k1, k2, k3.call hb⟩
        · rw [if_neg hS] at h
          obtain ⟨v, h1, h2⟩ := h
          have h3 := h1 w hw
          unfold atG at h3
          generalize (execOp a.eval o).run P w = r at *
          cases r with
          | ok n w' =>
            cases n <;> simp only [uponG] at h3 <;> simp only [Oper.upon]
            case value u => obtain ⟨e1, e2⟩ := h3; rw [e1, e2]; exact hN _ _ _ hD hw hDw h2
            case skip => obtain ⟨e1, e2⟩ := h3; rw [e1, ← e2]; exact hN _ _ _ hD hw hDw h2
            case enter f args => obtain ⟨e1, hc⟩ := h3; rw [e1]; exact hc.mono fun e w'' ⟨he, hb⟩ => by subst he; exact hN _ _ _ hD (hw.call hb) (hD _ _ hDw hb) h2
          | halt x w' => simp only [uponG] at h3
      · simp only [hE] at h
        have h3 := h.1 w hw hDw
        generalize (execOp a.eval o).run P w = r at *
        cases r with
        | ok n w' =>
          cases n <;> simp only [uponE] at h3 <;> simp only [Oper.upon]
          case value u => obtain ⟨e1, e2⟩ := h3; exact hN _ _ _ (fun x x' ⟨y0, y1, k1, k2, k3, k4, k5⟩ hb => ⟨y0, y1, k1, k2, k3, k4, k5.call hb⟩) (hw.call e1) ⟨w, w', hDw, hw, e1, e2, Below.refl _ _⟩ (h.2 u ⟨w, w', hw, e2⟩)
          case enter f args =>
            obtain ⟨e1, hc⟩ := h3
            rw [e1]
            refine hc.mono ?_
            rintro e w'' ⟨v, he, hb, hr⟩
            subst he
            exact hN _ _ _ (fun x x' ⟨y0, y1, k1, k2, k3, k4, k5⟩ hb => ⟨y0, y1, k1, k2, k3, k4, k5.call hb⟩) (hw.call hb) ⟨w, w'', hDw, hw, hb, hr, Below.refl _ _⟩ (h.2 v ⟨w, w'', hw, hr⟩)
        | halt x w' => simp only [uponE] at h3
    · rename_i hwa; rw [if_neg hwa] at h; exact hN _ _ _ hD hw hDw h

theorem anyV_any {Q : Exit → Act → World → Prop} (hQ : ∀ a w, K a w → Q .normal a w) (f : Nat) : ∀ (done : Array Bool) (a : Act) (D : World → Prop) (w : World), Stable D → Grown W w → D w →
    anyV P md ops W E S K f done a D → wpAny P md ops Q f done a w := by
  induction f with
  | zero => intro done a D w _ hw hDw h; exact ⟨h.1, hQ _ _ (h.2 w hw hDw)⟩
  | succ f ih =>
    intro done a D w hD hw hDw h
    exact ⟨fun e => hQ _ _ (h.1 e w hw hDw), fun i hi => op_sound P ops W E S hD hw hDw (fun a' D' w' h1 h2 h3 h4 => ih _ a' D' w' h1 h2 h3 h4) (h.2 i hi)⟩

def YieldsG (o : Oper) (v : Value) (a : Act) : Prop :=
  (Region.wanted o (yielded ops a.tmps) = true ∧ ∀ w, Grown W w → atG P o a w v) ∨ (Region.wanted o (yielded ops a.tmps) = false ∧ v = undef)

theorem YieldsG.op {i : Nat} {o : Oper} {v : Value} {a : Act} {D : World → Prop} (hi : ops[i]? = some o) (hE : E i = none) (hS : S i = false) (hy : YieldsG P ops W o v a) {N : Act → (World → Prop) → Prop} (h : N (a.put o.dst v) D) : opV P ops W E S i N a D := by
  unfold opV
  simp only [hi, hE, hS]
  rcases hy with ⟨hw, hv⟩ | ⟨hw, rfl⟩
  · rw [if_pos hw]; exact ⟨v, hv, h⟩
  · rw [if_neg (by simp [hw])]; exact h

theorem yieldsG_of {i : Nat} {o : Oper} {a : Act} {D : World → Prop} {N : Act → (World → Prop) → Prop} (hi : ops[i]? = some o) (hE : E i = none) (hS : S i = false) (h : opV P ops W E S i N a D) : ∃ v, YieldsG P ops W o v a ∧ N (a.put o.dst v) D := by
  unfold opV at h
  simp only [hi, hE, hS] at h
  by_cases hw : Region.wanted o (yielded ops a.tmps) = true
  · rw [if_pos hw] at h
    obtain ⟨v, h1, h2⟩ := h
    exact ⟨v, .inl ⟨hw, h1⟩, h2⟩
  · rw [if_neg hw] at h
    exact ⟨undef, .inr ⟨by simpa using hw, rfl⟩, h⟩

theorem opV_put {j : Nat} {oi oj : Oper} {v : Value} (hj : ops[j]? = some oj) (hap : oi.apart ops oj = true) (hsi : ∀ cs b, oi.op ≠ .select cs b) (hsj : ∀ cs b, oj.op ≠ .select cs b)
    {N : Act → (World → Prop) → Prop} {a : Act} {D : World → Prop} (hy : YieldsG P ops W oi v a) (h : opV P ops W E S j N (a.put oi.dst v) D) :
    opV P ops W E S j (fun a' D' => YieldsG P ops W oi v a' ∧ N (a'.put oi.dst v) D') a D := by
  obtain ⟨h1, h2, h3⟩ := Oper.apart_spec hap
  have keep : ∀ u, YieldsG P ops W oi v (a.put oj.dst u) := fun u => by
    have e1 := execOp_put oi hsi a oj.dst u h3
    have e2 := wanted_put oi a oj.dst u h3
    unfold YieldsG atG at *
    rw [e1, e2]; exact hy
  unfold opV at *
  simp only [hj] at *
  rw [wanted_put oj a oi.dst v h1, execOp_put oj hsj a oi.dst v h1] at h
  have ep : ∀ u, (a.put oj.dst u).put oi.dst v = (a.put oi.dst v).put oj.dst u := fun u => (Act.put_comm a v u h2).symm
  by_cases hw : Region.wanted oj (yielded ops a.tmps) = true
  · rw [if_pos hw] at h ⊢
    rcases hE : E j with _ | R
    · simp only [hE] at h ⊢
      by_cases hS : S j = true
      · rw [if_pos hS] at h ⊢
        obtain ⟨g, n, cs, k1, k2, k3, k4⟩ := h
        exact ⟨g, n, cs, k1, k2, k3, keep _, by rw [ep]; exact k4⟩
      · rw [if_neg hS] at h ⊢
        obtain ⟨u, k1, k2⟩ := h
        refine ⟨u, fun w hg => ?_, keep _, by rw [ep]; exact k2⟩
        have := k1 w hg
        unfold atG at *
        rwa [execOp_put oj hsj a oi.dst v h1] at this
    · simp only [hE] at h ⊢
      exact ⟨h.1, fun u hu => ⟨keep _, by rw [ep]; exact h.2 u hu⟩⟩
  · rw [if_neg hw] at h ⊢
    exact ⟨keep _, by rw [ep]; exact h⟩

theorem anyV_first {i : Nat} {o : Oper} {v : Value} (hi : ops[i]? = some o) (hE : E i = none) (hS : S i = false) (hsel : ∀ (j : Nat) (o : Oper) cs b, ops[j]? = some o → o.op ≠ .select cs b) (f : Nat) :
    ∀ (done : Array Bool) (a : Act) (D : World → Prop),
      (∀ j oj, ops[j]? = some oj → j ≠ i → done.getD j true = false → (∀ e ∈ oj.after, Region.binds md e = true → e.on ≠ i) → o.apart ops oj = true) →
      i ∈ Region.ready md ops done → YieldsG P ops W o v a →
      anyV P md ops W E S K f (done.setIfInBounds i true) (a.put o.dst v) D → anyV P md ops W E S K (f + 1) done a D := by
  induction f with
  | zero =>
    intro done a D _ hr hy H
    refine ⟨fun e => (by rw [e] at hr; cases hr), fun j hj => ?_⟩
    by_cases e : j = i
    · subst e; exact hy.op P ops W E S hi hE hS H
    · have := ready_mono hj e
      rw [H.1] at this; cases this
  | succ f ih =>
    intro done a D hfree hr hy H
    refine ⟨fun e => (by rw [e] at hr; cases hr), fun j hj => ?_⟩
    by_cases e : j = i
    · subst e; exact hy.op P ops W E S hi hE hS H
    · obtain ⟨hjun, oj, hoj, hall⟩ := mem_ready.1 hj
      have hun := (mem_ready.1 hr).1
      have hno : ∀ e ∈ oj.after, Region.binds md e = true → e.on ≠ i := fun e he hb h => by
        have := hall e he hb
        rw [h, getD_both hun] at this
        cases this
      refine opV_mono P ops W E S (fun a' D' h3 => ih (done.setIfInBounds j true) a' D' (fun k' ok hk hki hk' hnk => hfree k' ok hk hki ?_ hnk) (ready_mono hr (Ne.symm e)) h3.1 ?_)
        (opV_put P ops W E S hoj (hfree j oj hoj e hjun hno) (fun cs b => hsel i o cs b hi) (fun cs b => hsel j oj cs b hoj) hy (H.2 j (ready_mono hj e)))
      · by_cases e' : j = k'
        · subst e'; exact hjun
        · rw [getD_set_ne true e'] at hk'; exact hk'
      · rw [Array.setIfInBounds_comm _ _ e]; exact h3.2

/-- how a region is walked: operations that may be taken first; special ones alone; two or three special ones in either order -/
inductive Plan where
  | fin
  | q (k : Nat) (p : Plan)
  | s1 (k : Nat) (p : Plan)
  | s2 (k1 : Nat) (p1 : Plan) (k2 : Nat) (p2 : Plan)
  | s3 (k1 : Nat) (p1 : Plan) (k2 : Nat) (p2 : Plan) (k3 : Nat) (p3 : Plan)

def planB (sp : List Nat) : Nat → Plan → Array Bool → Bool
  | _, .fin, done => (Region.ready md ops done).isEmpty
  | 0, _, _ => false
  | f + 1, .q k p, done => !sp.contains k && ((Region.ready md ops done).contains k && Region.free md ops done k && (decide (k < ops.size) && planB sp f p (done.setIfInBounds k true)))
  | f + 1, .s1 k p, done => decide (Region.ready md ops done = [k]) && planB sp f p (done.setIfInBounds k true)
  | f + 1, .s2 k1 p1 k2 p2, done => decide (Region.ready md ops done = [k1, k2]) && (planB sp f p1 (done.setIfInBounds k1 true) && planB sp f p2 (done.setIfInBounds k2 true))
  | f + 1, .s3 k1 p1 k2 p2 k3 p3, done => decide (Region.ready md ops done = [k1, k2, k3]) && (planB sp f p1 (done.setIfInBounds k1 true) && (planB sp f p2 (done.setIfInBounds k2 true) && planB sp f p3 (done.setIfInBounds k3 true)))

def walkV : Plan → Act → (World → Prop) → Prop
  | .fin, a, D => ∀ w, Grown W w → D w → K a w
  | .q k p, a, D => opV P ops W E S k (walkV p) a D
  | .s1 k p, a, D => opV P ops W E S k (walkV p) a D
  | .s2 k1 p1 k2 p2, a, D => opV P ops W E S k1 (walkV p1) a D ∧ opV P ops W E S k2 (walkV p2) a D
  | .s3 k1 p1 k2 p2 k3 p3, a, D => opV P ops W E S k1 (walkV p1) a D ∧ opV P ops W E S k2 (walkV p2) a D ∧ opV P ops W E S k3 (walkV p3) a D

theorem anyV_walk (hsel : Region.noSelect ops = true) (sp : List Nat) (hsp : ∀ k, sp.contains k = false → E k = none ∧ S k = false) (p : Plan) :
    ∀ (f : Nat) (done : Array Bool) (a : Act) (D : World → Prop), planB md ops sp f p done = true → walkV P ops W E S K p a D → anyV P md ops W E S K f done a D := by
  induction p with
  | fin =>
    intro f done a D hB h
    cases f with
    | zero => exact ⟨by simpa [planB] using hB, h⟩
    | succ f =>
      have e : Region.ready md ops done = [] := by simpa [planB] using hB
      exact ⟨fun _ => h, fun i hi => by rw [e] at hi; cases hi⟩
  | q k p ih =>
    intro f done a D hB h
    cases f with
    | zero => simp [planB] at hB
    | succ f =>
      simp only [planB, Bool.and_eq_true, decide_eq_true_eq, Bool.not_eq_true'] at hB
      obtain ⟨hc, ⟨hr, hfree⟩, hk, hB'⟩ := hB
      obtain ⟨hE, hS⟩ := hsp k hc
      have hi : ops[k]? = some ops[k] := Array.getElem?_eq_getElem hk
      obtain ⟨v, hy, hK⟩ := yieldsG_of P ops W E S hi hE hS h
      exact anyV_first P md ops W E S K hi hE hS (Region.noSelect_spec hsel) f done a D (Region.free_spec hi hfree) (by simpa using hr) hy (ih _ _ _ _ hB' hK)
  | s1 k p ih =>
    intro f done a D hB h
    cases f with
    | zero => simp [planB] at hB
    | succ f =>
      simp only [planB, Bool.and_eq_true, decide_eq_true_eq] at hB
      obtain ⟨hr, hB'⟩ := hB
      refine ⟨fun e => (by rw [hr] at e; cases e), fun i hi => ?_⟩
      rw [hr] at hi
      obtain rfl : i = k := by simpa using hi
      exact opV_mono P ops W E S (fun a' D' h' => ih _ _ _ _ hB' h') h
  | s2 k1 p1 k2 p2 ih1 ih2 =>
    intro f done a D hB h
    cases f with
    | zero => simp [planB] at hB
    | succ f =>
      simp only [planB, Bool.and_eq_true, decide_eq_true_eq] at hB
      obtain ⟨hr, hB1, hB2⟩ := hB
      refine ⟨fun e => (by rw [hr] at e; cases e), fun i hi => ?_⟩
      rw [hr] at hi
      simp only [List.mem_cons, List.not_mem_nil, or_false] at hi
      rcases hi with rfl | rfl
      · exact opV_mono P ops W E S (fun a' D' h' => ih1 _ _ _ _ hB1 h') h.1
      · exact opV_mono P ops W E S (fun a' D' h' => ih2 _ _ _ _ hB2 h') h.2
  | s3 k1 p1 k2 p2 k3 p3 ih1 ih2 ih3 =>
    intro f done a D hB h
    cases f with
    | zero => simp [planB] at hB
    | succ f =>
      simp only [planB, Bool.and_eq_true, decide_eq_true_eq] at hB
      obtain ⟨hr, hB1, hB2, hB3⟩ := hB
      refine ⟨fun e => (by rw [hr] at e; cases e), fun i hi => ?_⟩
      rw [hr] at hi
      simp only [List.mem_cons, List.not_mem_nil, or_false] at hi
      rcases hi with rfl | rfl | rfl
      · exact opV_mono P ops W E S (fun a' D' h' => ih1 _ _ _ _ hB1 h') h.1
      · exact opV_mono P ops W E S (fun a' D' h' => ih2 _ _ _ _ hB2 h') h.2.1
      · exact opV_mono P ops W E S (fun a' D' h' => ih3 _ _ _ _ hB3 h') h.2.2
end

theorem region_V {P : Program} {id : Nat} {Q : Exit → Act → World → Prop} {a : Act} {w : World} {l : List Oper} (E : Nat → Option (World → Value → World → Prop)) (S : Nat → Bool) (sp : List Nat) (p : Plan) (hm : P.follows .mixedOrders = true)
    (hsel : Region.noSelect l.toArray = true) (hB : planB .any l.toArray sp l.toArray.size p (Array.replicate l.toArray.size false) = true) (hsp : ∀ k, sp.contains k = false → E k = none ∧ S k = false)
    (h : walkV P l.toArray w E S (fun a' w' => Q .normal a' w') p a (fun _ => True)) : (Code.region id l.toArray true).wp P Q a w := by
  refine wp_region_any hm ?_
  exact anyV_any (Q := Q) P .any l.toArray w E S (fun a' w' => Q .normal a' w') (fun _ _ h => h) _ _ _ _ w.drew (fun _ _ _ _ => trivial) (Grown.drew w) trivial (anyV_walk P .any l.toArray w E S _ hsel sp hsp p _ _ a _ hB h)

section
variable {P : Program} {ops : Array Oper} {W : World} {E : Nat → Option (World → Value → World → Prop)} {S : Nat → Bool} {k : Nat} {a : Act} {D : World → Prop} {N : Act → (World → Prop) → Prop}
theorem v_other {o : Oper} (ho : ops[k]? = some o) (hE : E k = none) (hS : S k = false) (hw : Region.wanted o (yielded ops a.tmps) = true) {v : Value} (h1 : ∀ w, Grown W w → atG P o a w v) (h2 : N (a.put o.dst v) D) :
    opV P ops W E S k N a D := by
  unfold opV
  simp only [ho, hE, hS]
  rw [if_pos hw]
  exact ⟨v, h1, h2⟩
theorem v_E {o : Oper} {R : World → Value → World → Prop} (ho : ops[k]? = some o) (hE : E k = some R) (hw : Region.wanted o (yielded ops a.tmps) = true) (h1 : ∀ w, Grown W w → D w → uponE P (R w) w ((execOp a.eval o).run P w))
    (h2 : ∀ v, (∃ w w', Grown W w ∧ R w v w') → N (a.put o.dst v) (fun w => ∃ w0 w1, D w0 ∧ Grown W w0 ∧ Grown w0 w1 ∧ R w0 v w1 ∧ Grown w1 w)) : opV P ops W E S k N a D := by
  unfold opV
  simp only [ho, hE]
  rw [if_pos hw]
  exact ⟨h1, h2⟩
theorem v_S {o : Oper} (g n : Nat) (cs : Array Value) (ho : ops[k]? = some o) (hE : E k = none) (hS : S k = true) (hw : Region.wanted o (yielded ops a.tmps) = true) (h1 : ∀ w, D w → rowOk w g n) (h2 : W.heap.size ≤ g)
    (h3 : ∀ w, Grown W w → rowOk w g n → (execOp a.eval o).run P w = .ok .skip (w.setRow g cs)) (h4 : N (a.put o.dst undef) (fun w => ∃ w1, D w1 ∧ Grown W w1 ∧ Grown (w1.setRow g cs) w)) :
    opV P ops W E S k N a D := by
  unfold opV
  simp only [ho, hE, hS]
  rw [if_pos hw]
  exact ⟨g, n, cs, h1, h2, h3, h4⟩
end
/-- a new block of n cells, not below B -/
def newR (B n : Nat) : Value → World → Prop := fun v w => ∃ g, v = .pointer (some ⟨g, 0, none⟩) ∧ B ≤ g ∧ rowOk w g n
/-- .. and where it stands later -/
theorem newR.at {B n g : Nat} {D : World → Prop} {W w : World} (h : ∃ w0 w1, D w0 ∧ Grown W w0 ∧ Grown w0 w1 ∧ newR B n (.pointer (some ⟨g, 0, none⟩)) w1 ∧ Grown w1 w) : B ≤ g ∧ rowOk w g n := by
  obtain ⟨_, w1, _, _, _, ⟨g', e, h1, h2⟩, h3⟩ := h
  injection e with e
  injection e with e
  injection e with e
  subst e
  exact ⟨h1, h3.row h2⟩
/-- behind the store -/
theorem stored {w1 w : World} {g n : Nat} {cs : Array Value} (h : rowOk w1 g n) (hs : cs.size = n) (k : Grown (w1.setRow g cs) w) : cellsOf w g = cs ∧ rowOk w g n ∧ g < w.heap.size := by
  have hr : rowOk (w1.setRow g cs) g n := rowOk_setRow h hs
  exact ⟨k.cells (cellsOf_setRow h) hr.lt, k.row hr, (k.row hr).lt⟩
end Go.Proofs.Ytjhpkibeddnbfaa

namespace Go.Proofs.Ytjhpkibeddnbfaa.Rc
open Go.RowKit

section
variable (P : Program) (md : Region.Mode) (ops : Array Oper) (C : World → Prop) (E : Nat → Option (Value → World → Prop)) (K : Act → World → Prop)

def uponE (R : Value → World → Prop) (w : World) : Result Next → Prop
  | .ok (.value u) w' => C w' ∧ R u w'
  | .ok .skip w' => C w' ∧ R undef w'
  | .ok (.enter f args) w' => w' = w ∧ Calls P f args w (fun e w'' => ∃ v, e = .returned v ∧ C w'' ∧ R v w'')
  | _ => False

/-- one operation, and what follows -/
def opV (i : Nat) (N : Act → (World → Prop) → Prop) (a : Act) (D : World → Prop) : Prop :=
  match ops[i]? with
  | none => N a D
  | some o =>
    if Region.wanted o (yielded ops a.tmps) then
      match E i with
      | some R => (∀ w, C w → D w → uponE P C R w ((execOp a.eval o).run P w)) ∧ ∀ v, (∃ w, C w ∧ R v w) → N (a.put o.dst v) (R v)
      | none => ∃ v, (∀ w, C w → atG P o a w v) ∧ N (a.put o.dst v) D
    else N (a.put o.dst undef) D

theorem opV_mono {i : Nat} {N N' : Act → (World → Prop) → Prop} {a : Act} {D : World → Prop} (h : ∀ a D, N a D → N' a D) (hh : opV P ops C E i N a D) : opV P ops C E i N' a D := by
  unfold opV at *
  split
  · rename_i ho; simp only [ho] at hh; exact h _ _ hh
  · rename_i o ho
    simp only [ho] at hh
    split
    · rename_i hw
      rw [if_pos hw] at hh
      split
      · rename_i R hR; simp only [hR] at hh; exact ⟨hh.1, fun v hv => h _ _ (hh.2 v hv)⟩
      · rename_i hR
        simp only [hR] at hh
        obtain ⟨v, h1, h2⟩ := hh; exact ⟨v, h1, h _ _ h2⟩
    · rename_i hw; rw [if_neg hw] at hh; exact h _ _ hh

/-- whatever order is picked -/
def anyV : Nat → Array Bool → Act → (World → Prop) → Prop
  | 0, done, a, D => Region.ready md ops done = [] ∧ ∀ w, C w → D w → K a w
  | f + 1, done, a, D => (Region.ready md ops done = [] → ∀ w, C w → D w → K a w) ∧ ∀ i ∈ Region.ready md ops done, opV P ops C E i (anyV f (done.setIfInBounds i true)) a D

theorem op_sound (hC : ∀ w w', C w → Below w.heap.size w w' → C w') (hE : ∀ i R, E i = some R → ∀ v, Stable (R v)) {i : Nat} {N : Act → (World → Prop) → Prop} {K' : Act → World → Prop} {Q : Exit → Act → World → Prop} {a : Act} {D : World → Prop} {w : World} (hD : Stable D) (hw : C w) (hDw : D w)
    (hN : ∀ a D w, Stable D → C w → D w → N a D → K' a w) (h : opV P ops C E i N a D) : wpOp P ops Q i K' a w := by
  unfold opV at h
  unfold wpOp
  split
  · rename_i ho; simp only [ho] at h; exact hN _ _ _ hD hw hDw h
  · rename_i o ho
    simp only [ho] at h
    split
    · rename_i hwa
      rw [if_pos hwa] at h
      refine .inl ?_
      unfold Oper.wp
      rcases hEi : E i with _ | R
      · simp only [hEi] at h
        obtain ⟨v, h1, h2⟩ := h
        have h3 := h1 w hw
        unfold atG at h3
        generalize (execOp a.eval o).run P w = r at *
        cases r with
        | ok n w' =>
          cases n <;> simp only [uponG] at h3 <;> simp only [Oper.upon]
          case value u => obtain ⟨e1, e2⟩ := h3; rw [e1, e2]; exact hN _ _ _ hD hw hDw h2
          case skip => obtain ⟨e1, e2⟩ := h3; rw [e1, ← e2]; exact hN _ _ _ hD hw hDw h2
          case enter f args => obtain ⟨e1, hc⟩ := h3; rw [e1]; exact hc.mono fun e w'' ⟨he, hb⟩ => by subst he; exact hN _ _ _ hD (hC _ _ hw hb) (hD _ _ hDw hb) h2
        | halt x w' => simp only [uponG] at h3
      · simp only [hEi] at h
        have h3 := h.1 w hw hDw
        generalize (execOp a.eval o).run P w = r at *
        cases r with
        | ok n w' =>
          cases n <;> simp only [uponE] at h3 <;> simp only [Oper.upon]
          case value u => exact hN _ _ _ (hE _ _ hEi u) h3.1 h3.2 (h.2 u ⟨_, h3⟩)
          case skip => exact hN _ _ _ (hE _ _ hEi undef) h3.1 h3.2 (h.2 undef ⟨_, h3⟩)
          case enter f args =>
            obtain ⟨e1, hc⟩ := h3
            rw [e1]
            refine hc.mono ?_
            rintro e w'' ⟨v, he, hb, hr⟩
            subst he
            exact hN _ _ _ (hE _ _ hEi v) hb hr (h.2 v ⟨_, hb, hr⟩)
        | halt x w' => simp only [uponE] at h3
    · rename_i hwa; rw [if_neg hwa] at h; exact hN _ _ _ hD hw hDw h

theorem anyV_any (hC : ∀ w w', C w → Below w.heap.size w w' → C w') (hE : ∀ i R, E i = some R → ∀ v, Stable (R v)) {Q : Exit → Act → World → Prop} (hQ : ∀ a w, K a w → Q .normal a w) (f : Nat) : ∀ (done : Array Bool) (a : Act) (D : World → Prop) (w : World), Stable D → C w → D w →
    anyV P md ops C E K f done a D → wpAny P md ops Q f done a w := by
  induction f with
  | zero => intro done a D w _ hw hDw h; exact ⟨h.1, hQ _ _ (h.2 w hw hDw)⟩
  | succ f ih =>
    intro done a D w hD hw hDw h
    exact ⟨fun e => hQ _ _ (h.1 e w hw hDw), fun i hi => op_sound P ops C E hC hE hD hw hDw (fun a' D' w' h1 h2 h3 h4 => ih _ a' D' w' h1 h2 h3 h4) (h.2 i hi)⟩

def YieldsG (o : Oper) (v : Value) (a : Act) : Prop :=
  (Region.wanted o (yielded ops a.tmps) = true ∧ ∀ w, C w → atG P o a w v) ∨ (Region.wanted o (yielded ops a.tmps) = false ∧ v = undef)

theorem YieldsG.op {i : Nat} {o : Oper} {v : Value} {a : Act} {D : World → Prop} (hi : ops[i]? = some o) (hE : E i = none) (hy : YieldsG P ops C o v a) {N : Act → (World → Prop) → Prop} (h : N (a.put o.dst v) D) : opV P ops C E i N a D := by
  unfold opV
  simp only [hi, hE]
  rcases hy with ⟨hw, hv⟩ | ⟨hw, rfl⟩
  · rw [if_pos hw]; exact ⟨v, hv, h⟩
  · rw [if_neg (by simp [hw])]; exact h

theorem yieldsG_of {i : Nat} {o : Oper} {a : Act} {D : World → Prop} {N : Act → (World → Prop) → Prop} (hi : ops[i]? = some o) (hE : E i = none) (h : opV P ops C E i N a D) : ∃ v, YieldsG P ops C o v a ∧ N (a.put o.dst v) D := by
  unfold opV at h
  simp only [hi, hE] at h
  by_cases hw : Region.wanted o (yielded ops a.tmps) = true
  · rw [if_pos hw] at h
    obtain ⟨v, h1, h2⟩ := h
    exact ⟨v, .inl ⟨hw, h1⟩, h2⟩
  · rw [if_neg hw] at h
    exact ⟨undef, .inr ⟨by simpa using hw, rfl⟩, h⟩

theorem opV_put {j : Nat} {oi oj : Oper} {v : Value} (hj : ops[j]? = some oj) (hap : oi.apart ops oj = true) (hsi : ∀ cs b, oi.op ≠ .select cs b) (hsj : ∀ cs b, oj.op ≠ .select cs b)
    {N : Act → (World → Prop) → Prop} {a : Act} {D : World → Prop} (hy : YieldsG P ops C oi v a) (h : opV P ops C E j N (a.put oi.dst v) D) :
    opV P ops C E j (fun a' D' => YieldsG P ops C oi v a' ∧ N (a'.put oi.dst v) D') a D := by
  obtain ⟨h1, h2, h3⟩ := Oper.apart_spec hap
  have keep : ∀ u, YieldsG P ops C oi v (a.put oj.dst u) := fun u => by
    have e1 := execOp_put oi hsi a oj.dst u h3
    have e2 := wanted_put oi a oj.dst u h3
    unfold YieldsG atG at *
    rw [e1, e2]; exact hy
  unfold opV at *
  simp only [hj] at *
  rw [wanted_put oj a oi.dst v h1, execOp_put oj hsj a oi.dst v h1] at h
  have ep : ∀ u, (a.put oj.dst u).put oi.dst v = (a.put oi.dst v).put oj.dst u := fun u => (Act.put_comm a v u h2).symm
  by_cases hw : Region.wanted oj (yielded ops a.tmps) = true
  · rw [if_pos hw] at h ⊢
    rcases hE : E j with _ | R
    · simp only [hE] at h ⊢
      obtain ⟨u, k1, k2⟩ := h
      refine ⟨u, fun w hg => ?_, keep _, by rw [ep]; exact k2⟩
      have := k1 w hg
      unfold atG at *
      rwa [execOp_put oj hsj a oi.dst v h1] at this
    · simp only [hE] at h ⊢
      exact ⟨h.1, fun u hu => ⟨keep _, by rw [ep]; exact h.2 u hu⟩⟩
  · rw [if_neg hw] at h ⊢
    exact ⟨keep _, by rw [ep]; exact h⟩

theorem anyV_first {i : Nat} {o : Oper} {v : Value} (hi : ops[i]? = some o) (hE : E i = none) (hsel : ∀ (j : Nat) (o : Oper) cs b, ops[j]? = some o → o.op ≠ .select cs b) (f : Nat) :
    ∀ (done : Array Bool) (a : Act) (D : World → Prop),
      (∀ j oj, ops[j]? = some oj → j ≠ i → done.getD j true = false → (∀ e ∈ oj.after, Region.binds md e = true → e.on ≠ i) → o.apart ops oj = true) →
      i ∈ Region.ready md ops done → YieldsG P ops C o v a →
      anyV P md ops C E K f (done.setIfInBounds i true) (a.put o.dst v) D → anyV P md ops C E K (f + 1) done a D := by
  induction f with
  | zero =>
    intro done a D _ hr hy H
    refine ⟨fun e => (by rw [e] at hr; cases hr), fun j hj => ?_⟩
    by_cases e : j = i
    · subst e; exact hy.op P ops C E hi hE H
    · have := ready_mono hj e
      rw [H.1] at this; cases this
  | succ f ih =>
    intro done a D hfree hr hy H
    refine ⟨fun e => (by rw [e] at hr; cases hr), fun j hj => ?_⟩
    by_cases e : j = i
    · subst e; exact hy.op P ops C E hi hE H
    · obtain ⟨hjun, oj, hoj, hall⟩ := mem_ready.1 hj
      have hun := (mem_ready.1 hr).1
      have hno : ∀ e ∈ oj.after, Region.binds md e = true → e.on ≠ i := fun e he hb h => by
        have := hall e he hb
        rw [h, getD_both hun] at this
        cases this
      refine opV_mono P ops C E (fun a' D' h3 => ih (done.setIfInBounds j true) a' D' (fun k' ok hk hki hk' hnk => hfree k' ok hk hki ?_ hnk) (ready_mono hr (Ne.symm e)) h3.1 ?_)
        (opV_put P ops C E hoj (hfree j oj hoj e hjun hno) (fun cs b => hsel i o cs b hi) (fun cs b => hsel j oj cs b hoj) hy (H.2 j (ready_mono hj e)))
      · by_cases e' : j = k'
        · subst e'; exact hjun
        · rw [getD_set_ne true e'] at hk'; exact hk'
      · rw [Array.setIfInBounds_comm _ _ e]; exact h3.2

def walkV : Plan → Act → (World → Prop) → Prop
  | .fin, a, D => ∀ w, C w → D w → K a w
  | .q k p, a, D => opV P ops C E k (walkV p) a D
  | .s1 k p, a, D => opV P ops C E k (walkV p) a D
  | .s2 k1 p1 k2 p2, a, D => opV P ops C E k1 (walkV p1) a D ∧ opV P ops C E k2 (walkV p2) a D
  | .s3 k1 p1 k2 p2 k3 p3, a, D => opV P ops C E k1 (walkV p1) a D ∧ opV P ops C E k2 (walkV p2) a D ∧ opV P ops C E k3 (walkV p3) a D

theorem anyV_walk (hsel : Region.noSelect ops = true) (sp : List Nat) (hsp : ∀ k, sp.contains k = false → E k = none) (p : Plan) :
    ∀ (f : Nat) (done : Array Bool) (a : Act) (D : World → Prop), planB md ops sp f p done = true → walkV P ops C E K p a D → anyV P md ops C E K f done a D := by
  induction p with
  | fin =>
    intro f done a D hB h
    cases f with
    | zero => exact ⟨by simpa [planB] using hB, h⟩
    | succ f =>
      have e : Region.ready md ops done = [] := by simpa [planB] using hB
      exact ⟨fun _ => h, fun i hi => by rw [e] at hi; cases hi⟩
  | q k p ih =>
    intro f done a D hB h
    cases f with
    | zero => simp [planB] at hB
    | succ f =>
      simp only [planB, Bool.and_eq_true, decide_eq_true_eq, Bool.not_eq_true'] at hB
      obtain ⟨hc, ⟨hr, hfree⟩, hk, hB'⟩ := hB
      have hE := hsp k hc
      have hi : ops[k]? = some ops[k] := Array.getElem?_eq_getElem hk
      obtain ⟨v, hy, hK⟩ := yieldsG_of P ops C E hi hE h
      exact anyV_first P md ops C E K hi hE (Region.noSelect_spec hsel) f done a D (Region.free_spec hi hfree) (by simpa using hr) hy (ih _ _ _ _ hB' hK)
  | s1 k p ih =>
    intro f done a D hB h
    cases f with
    | zero => simp [planB] at hB
    | succ f =>
      simp only [planB, Bool.and_eq_true, decide_eq_true_eq] at hB
      obtain ⟨hr, hB'⟩ := hB
      refine ⟨fun e => (by rw [hr] at e; cases e), fun i hi => ?_⟩
      rw [hr] at hi
      obtain rfl : i = k := by simpa using hi
      exact opV_mono P ops C E (fun a' D' h' => ih _ _ _ _ hB' h') h
  | s2 k1 p1 k2 p2 ih1 ih2 =>
    intro f done a D hB h
    cases f with
    | zero => simp [planB] at hB
    | succ f =>
      simp only [planB, Bool.and_eq_true, decide_eq_true_eq] at hB
      obtain ⟨hr, hB1, hB2⟩ := hB
      refine ⟨fun e => (by rw [hr] at e; cases e), fun i hi => ?_⟩
      rw [hr] at hi
      simp only [List.mem_cons, List.not_mem_nil, or_false] at hi
      rcases hi with rfl | rfl
      · exact opV_mono P ops C E (fun a' D' h' => ih1 _ _ _ _ hB1 h') h.1
      · exact opV_mono P ops C E (fun a' D' h' => ih2 _ _ _ _ hB2 h') h.2
  | s3 k1 p1 k2 p2 k3 p3 ih1 ih2 ih3 =>
    intro f done a D hB h
    cases f with
    | zero => simp [planB] at hB
    | succ f =>
      simp only [planB, Bool.and_eq_true, decide_eq_true_eq] at hB
      obtain ⟨hr, hB1, hB2, hB3⟩ := hB
      refine ⟨fun e => (by rw [hr] at e; cases e), fun i hi => ?_⟩
      rw [hr] at hi
      simp only [List.mem_cons, List.not_mem_nil, or_false] at hi
      rcases hi with rfl | rfl | rfl
      · exact opV_mono P ops C E (fun a' D' h' => ih1 _ _ _ _ hB1 h') h.1
      · exact opV_mono P ops C E (fun a' D' h' => ih2 _ _ _ _ hB2 h') h.2.1
      · exact opV_mono P ops C E (fun a' D' h' => ih3 _ _ _ _ hB3 h') h.2.2
end

/-- a region by parts of memory: w0, L what the class holds; L1 what stands at the start beside it -/
theorem region_P {P : Program} {id : Nat} {Q : Exit → Act → World → Prop} {a : Act} {w w0 : World} {l : List Oper} (L : List Part) (L1 : List Part) (E : Nat → Option (Value → World → Prop)) (sp : List Nat) (p : Plan) (H : Holds w0 w L1) (hL : L.Sublist L1)
    (hE : ∀ i R, E i = some R → ∀ v, Stable (R v)) (hm : P.follows .mixedOrders = true)
    (hsel : Region.noSelect l.toArray = true) (hB : planB .any l.toArray sp l.toArray.size p (Array.replicate l.toArray.size false) = true) (hsp : ∀ k, sp.contains k = false → E k = none)
    (h : walkV P l.toArray (fun wx => Holds w0 wx L) E (fun a' w' => Q .normal a' w') p a (fun wx => Holds w0 wx L1)) : (Code.region id l.toArray true).wp P Q a w := by
  refine wp_region_any hm ?_
  exact anyV_any (Q := Q) P .any l.toArray (fun wx => Holds w0 wx L) E (fun a' w' => Q .normal a' w') (fun _ _ h hb => h.call hb) hE (fun _ _ h => h) _ _ _ _ w.drew (fun _ _ h hb => h.call hb) (H.drew.sub hL) H.drew
    (anyV_walk P .any l.toArray (fun wx => Holds w0 wx L) E (fun a' w' => Q .normal a' w') hsel sp hsp p _ _ a _ hB h)

section
variable {P : Program} {ops : Array Oper} {C : World → Prop} {E : Nat → Option (Value → World → Prop)} {k : Nat} {a : Act} {D : World → Prop} {N : Act → (World → Prop) → Prop}
theorem v_q {o : Oper} (ho : ops[k]? = some o) (hE : E k = none) (hw : Region.wanted o (yielded ops a.tmps) = true) {v : Value} (h1 : ∀ w, C w → atG P o a w v) (h2 : N (a.put o.dst v) D) : opV P ops C E k N a D := by
  unfold opV
  simp only [ho, hE]
  rw [if_pos hw]
  exact ⟨v, h1, h2⟩
theorem v_s {o : Oper} {R : Value → World → Prop} (ho : ops[k]? = some o) (hE : E k = some R) (hw : Region.wanted o (yielded ops a.tmps) = true) (h1 : ∀ w, C w → D w → uponE P C R w ((execOp a.eval o).run P w))
    (h2 : ∀ v, (∃ w, C w ∧ R v w) → N (a.put o.dst v) (R v)) : opV P ops C E k N a D := by
  unfold opV
  simp only [ho, hE]
  rw [if_pos hw]
  exact ⟨h1, h2⟩
end
/-- a list of cells laid for an append -/
def rBuild (w0 : World) (cells : Array Value) (t : TypeId) (k : Nat) (L : List Part) : Value → World → Prop := fun v w => ∃ g, v = .slice (some ⟨g, 0, none⟩) k k ∧ Holds w0 w (pBlk g cells t :: L)
theorem rBuild_stable {w0 : World} {cells : Array Value} {t : TypeId} {k : Nat} {L : List Part} (v : Value) : Stable (rBuild w0 cells t k L v) := fun _ _ ⟨g, e, h⟩ hb => ⟨g, e, h.call hb⟩
/-- a relation of one value that is told by parts -/
def rHolds (w0 : World) (L : Value → List Part) : Value → World → Prop := fun v w => Holds w0 w (L v)
theorem rHolds_stable {w0 : World} {L : Value → List Part} (v : Value) : Stable (rHolds w0 L v) := fun _ _ h hb => h.call hb
end Go.Proofs.Ytjhpkibeddnbfaa.Rc

namespace Go.Proofs.Ytjhpkibeddnbfaa
open Go.RowKit

def pairB (l : List (Nat × Nat)) : List Value := l.flatMap fun p => [Value.int .u8 (p.1 : Int), Value.int .u8 (p.2 : Int)]
theorem pairB_length (l : List (Nat × Nat)) : (pairB l).length = l.length * 2 := by unfold pairB; induction l <;> simp_all <;> omega
theorem pairB_append (l l' : List (Nat × Nat)) : pairB (l ++ l') = pairB l ++ pairB l' := by unfold pairB; simp
theorem pairB_at {l : List (Nat × Nat)} {k : Nat} (hk : k < l.length) : (pairB l)[k * 2]? = some (.int .u8 (l[k].1 : Int)) ∧ (pairB l)[k * 2 + 1]? = some (.int .u8 (l[k].2 : Int)) := by
  induction l generalizing k with
  | nil => simp at hk
  | cons p l ih =>
    rcases k with _ | k
    · exact ⟨rfl, rfl⟩
    · have := ih (k := k) (by simpa using hk)
      have e : pairB (p :: l) = [Value.int .u8 (p.1 : Int), Value.int .u8 (p.2 : Int)] ++ pairB l := rfl
      rw [e, List.getElem?_append_right (by simp; omega), List.getElem?_append_right (by simp; omega)]
      simp only [List.length_cons, List.length_nil, List.getElem_cons_succ]
      rw [show (k + 1) * 2 - (0 + 1 + 1) = k * 2 by omega, show (k + 1) * 2 + 1 - (0 + 1 + 1) = k * 2 + 1 by omega]
      exact this
theorem pairB_one {l : List (Nat × Nat)} : ∀ u ∈ pairB l, u.oneCell' = true := by
  intro u hu
  unfold pairB at hu
  obtain ⟨p, _, hp⟩ := List.mem_flatMap.1 hu
  simp at hp
  rcases hp with rfl | rfl <;> rfl
theorem infoPr : (Try.prog.info? 68).map (fun i => (i.zero, i.size, i.bytes)) = some (some (.agg #[.int .u8 0, .int .u8 0]), 2, 2) := by kernel_rfl
theorem aggPr : AggT 68 2 := ⟨⟨_, Try.underlying68, rfl⟩, by kernel_rfl⟩
/-- a row of pairs, its part -/
def pPairs (v : Value) (l : List (Nat × Nat)) : Part := pRow v 68 2 l.length (pairB l)
theorem Holds.pairs {w0 w : World} {L : List Part} (h : Holds w0 w L) (i : Nat) {v : Value} {l : List (Nat × Nat)} (hi : L[i]? = some (pPairs v l)) {k : Nat} (hk : k < l.length) :
    ∃ g c, v = .slice (some ⟨g, 0, none⟩) l.length c ∧ g < w.heap.size ∧ w.cell? ⟨g, k * 2, none⟩ = some (.int .u8 (l[k].1 : Int)) ∧ w.cell? ⟨g, k * 2 + 1, none⟩ = some (.int .u8 (l[k].2 : Int)) := by
  obtain ⟨g, c, h1, h2, h3, h4, h5, h6, h7⟩ := row_at (h.row i hi) (by omega : 0 < l.length)
  exact ⟨g, c, h1, h3, h6 _ _ (pairB_at hk).1, h6 _ _ (pairB_at hk).2⟩
theorem Holds.pairsForm {w0 w : World} {L : List Part} (h : Holds w0 w L) (i : Nat) {v : Value} {l : List (Nat × Nat)} (hi : L[i]? = some (pPairs v l)) : ∃ A c, v = .slice A l.length c := own_slice (h.row i hi)
/-- pairs more at the end of such a row -/
theorem appP {ops : Array Oper} {rest : List Oper} {o : Oper} {a : Act} {Q : Exit → Act → World → Prop} {w0 w : World} {L : List Part} (H : Holds w0 w L) (k : Nat) {v : Value} {l : List (Nat × Nat)} (hk : L[k]? = some (pPairs v l))
    (g : Nat) (news : List (Nat × Nat)) (t : TypeId) (hc : w.heap[g]? = some (.cells (pairB news).toArray t (0, 0))) (hb : l.length + news.length ≤ 1000000)
    (hgd : o.guard = none) (s x : Operand)
    (ho : o.op = .call { callee := .builtin .append, args := #[s, x], argTypes := #[65, 65] })
    (hs : a.eval s = v) (hx : a.eval x = .slice (some ⟨g, 0, none⟩) news.length news.length)
    (h : ∀ v' w', Holds w0 w' (L.set k (pPairs v' (l ++ news))) → wpList Try.prog ops Q rest (a.put o.dst v') w') : wpList Try.prog ops Q (o :: rest) a w := by
  obtain ⟨i0, hi, hz0, hz1, hz2⟩ := info_parts infoPr
  refine appH (P := Try.prog) hgd s x 65 ho 68 i0 (.agg #[.int .u8 0, .int .u8 0]) 2 2 Try.underlying65 hi hz0 hz1 hz2 rfl (by decide) v l.length (pairB l) hs H k hk ⟨g, 0, none⟩ news.length news.length (pairB news) hx
    (pairB_length _) (fun j u hu => ?_) pairB_one (by unfold maxLen; omega) (by omega) fun v' w' h1 => h v' w' ?_
  · have : ((⟨g, 0, none⟩ : Addr).add j) = ⟨g, j, none⟩ := by simp [Addr.add]; exact Eq.symm
    rw [this, cell_of_cells, cellsOf_heap hc]
    simpa using hu
  · unfold pPairs at *
    rw [List.length_append, pairB_append]
    exact h1
theorem run_appP {o : Oper} {a : Act} {w0 w : World} {L : List Part} (H : Holds w0 w L) (k : Nat) {v : Value} {l : List (Nat × Nat)} (hk : L[k]? = some (pPairs v l))
    (g : Nat) (news : List (Nat × Nat)) (t : TypeId) (hc : w.heap[g]? = some (.cells (pairB news).toArray t (0, 0))) (hb : l.length + news.length ≤ 1000000) (s x : Operand)
    (ho : o.op = .call { callee := .builtin .append, args := #[s, x], argTypes := #[65, 65] })
    (hs : a.eval s = v) (hx : a.eval x = .slice (some ⟨g, 0, none⟩) news.length news.length) :
    ∃ v' w', (execOp a.eval o).run Try.prog w = .ok (.value v') w' ∧ Holds w0 w' (L.set k (pPairs v' (l ++ news))) := by
  obtain ⟨i0, hi, hz0, hz1, hz2⟩ := info_parts infoPr
  obtain ⟨v', w', h1, h2, _⟩ := run_appH (P := Try.prog) (w := w) 65 o.type 68 i0 (.agg #[.int .u8 0, .int .u8 0]) 2 2 Try.underlying65 hi hz0 hz1 hz2 rfl (by decide) v l.length (pairB l) H k hk ⟨g, 0, none⟩ news.length news.length (pairB news)
    (pairB_length _) (fun j u hu => by
      have : ((⟨g, 0, none⟩ : Addr).add j) = ⟨g, j, none⟩ := by simp [Addr.add]; exact Eq.symm
      rw [this, cell_of_cells, cellsOf_heap hc]
      simpa using hu) pairB_one (by unfold maxLen; omega) (by omega)
  refine ⟨v', w', exec_append ho hs hx h1, ?_⟩
  unfold pPairs at *
  rw [List.length_append, pairB_append]
  exact h2
theorem upon_appP {o : Oper} {a : Act} {w0 w : World} {L : List Part} (H : Holds w0 w L) (k : Nat) {v : Value} {l : List (Nat × Nat)} (hk : L[k]? = some (pPairs v l))
    (g : Nat) (news : List (Nat × Nat)) (t : TypeId) (hc : w.heap[g]? = some (.cells (pairB news).toArray t (0, 0))) (hb : l.length + news.length ≤ 1000000) {C : World → Prop} {R : Value → World → Prop}
    (h : ∀ v' w', Holds w0 w' (L.set k (pPairs v' (l ++ news))) → C w' ∧ R v' w') (s x : Operand)
    (ho : o.op = .call { callee := .builtin .append, args := #[s, x], argTypes := #[65, 65] })
    (hs : a.eval s = v) (hx : a.eval x = .slice (some ⟨g, 0, none⟩) news.length news.length) : Rc.uponE Try.prog C R w ((execOp a.eval o).run Try.prog w) := by
  obtain ⟨v', w', h1, h2⟩ := run_appP H k hk g news t hc hb s x ho hs hx
  rw [h1]
  exact h v' w' h2

set_option maxRecDepth 100000 in
set_option maxHeartbeats 400000 in
theorem pairAfter_any (p q : Nat → Nat) (a b : Nat) (ha : a < 16) (hb : b < 16) (w : World) :
    Calls Try.prog 92 #[.agg #[.int .u8 a, .int .u8 b], .agg (av p), .agg (av q)] w fun e w' => e = .returned (.agg #[.int .u8 (p a), .int .u8 (q b)]) ∧ Below w.heap.size w w' := by
  go_enter Try.func92, Try.ntmps92
  go_wp2
  have ha' : (a : Int) < 16 := by omega
  have hb' : (b : Int) < 16 := by omega
  have HH := ((((Holds.start w).blk #[.int .u8 a, .int .u8 b] 68 w.heap.size rfl).blk (av p) 28 (w.heap.size + 1) (by simp)).blk (av q) 28 (w.heap.size + 1 + 1) (by simp)).blk #[.int .u8 0, .int .u8 0] 68 (w.heap.size + 1 + 1 + 1) (by simp)
  refine region_tail (fun wx => Holds w wx _) 9 (by kernel_rfl) (by kernel_rfl) HH.drew ?_
  simp only [List.take_succ_cons, List.take_zero, List.drop_succ_cons, List.drop_zero]
  iterate 9
    apply q_step
    · go_simp
    · intro wx hx
      have c1 : wx.cell? ⟨w.heap.size, 0, none⟩ = some (.int .u8 a) := hx.cell 3 rfl rfl
      have c2 : wx.cell? ⟨w.heap.size, 1, none⟩ = some (.int .u8 b) := hx.cell 3 rfl rfl
      have c3 : wx.cell? ⟨w.heap.size + 1, a, none⟩ = some (.int .u8 (p a)) := hx.cell 2 rfl (av_get p ha)
      have c4 : wx.cell? ⟨w.heap.size + 1 + 1, b, none⟩ = some (.int .u8 (q b)) := hx.cell 1 rfl (av_get q hb)
      go_simp
      try exact rfl
  refine wpQuiet_nil ?_
  intro w1 hx
  have c1 := hx.cell 0 (j := 0) rfl rfl
  have c2 := hx.cell 0 (j := 1) rfl rfl
  have f1 := hx.frozen 0 rfl 0
  have f2 := hx.frozen 0 rfl 1
  go_wp2
  have H2 := (hx.set 0 rfl 0 (.int .u8 (p a))).set 0 rfl 1 (.int .u8 (q b))
  exact res_agg (p := 6) (g := w.heap.size + 1 + 1 + 1) (cs := #[.int .u8 (p a), .int .u8 (q b)]) aggPr rfl rfl rfl rfl (H2.at 0 rfl) ⟨rfl, H2.low⟩
end Go.Proofs.Ytjhpkibeddnbfaa

namespace Go.Proofs.Ytjhpkibeddnbfaa
open Go.RowKit
open Go.Maps (Keyed)

theorem laidPk : laidOutB Try.prog = true := by kernel_rfl
theorem keyedPr : Keyed Try.prog 68 := Keyed.of_law (deep_law_laid laidPk (m := 3) (by omega) (of_decide_eq_true (by kernel_rfl)) (by kernel_rfl) (by kernel_rfl))
theorem isK_pair (a b : Nat) (ha : a < 256) (hb : b < 256) : IsK Try.prog 68 (.agg #[.int .u8 (a : Int), .int .u8 (b : Int)]) := by
  have h1 : Try.prog.keyType 68 = true := by kernel_rfl
  obtain ⟨n, hn⟩ : ∃ n, Try.prog.types.size + 1 = n + 2 := ⟨Try.prog.types.size - 1, by
    have : 1 ≤ Try.prog.types.size := of_decide_eq_true (by kernel_rfl)
    omega⟩
  have h2 : Try.prog.cellsOf 68 = 2 := by kernel_rfl
  have h3 : Try.prog.cellsOf 5 = 1 := by kernel_rfl
  unfold IsK keyOf
  rw [Try.underlying68, hn]
  have h4 : Value.formed Try.prog 68 (.agg #[.int .u8 (a : Int), .int .u8 (b : Int)]) = true := by
    unfold Value.formed
    rw [Try.underlying68]
    simp [h2]
  have w1 : (Lit.int .u8 (a : Int)).wf = true := by unfold Lit.wf; simp [IntKind.min, IntKind.max, IntKind.signed, IntKind.bits]; omega
  have w2 : (Lit.int .u8 (b : Int)).wf = true := by unfold Lit.wf; simp [IntKind.min, IntKind.max, IntKind.signed, IntKind.bits]; omega
  have k1 : ∀ x : Nat, (Lit.int .u8 (x : Int)).wf = true → Try.prog.keyLits (n + 1) 5 [.int .u8 (x : Int)] = some [.int .u8 (x : Int)] := fun x hx => by
    unfold Program.keyLits
    simp only [Try.underlying5, hx]
    simp
  have k2 : Try.prog.keyLits (n + 2) 68 [.int .u8 (a : Int), .int .u8 (b : Int)] = some [.int .u8 (a : Int), .int .u8 (b : Int)] := by
    unfold Program.keyLits
    simp only [Try.underlying68, h2]
    simp [h3, k1 a w1, k1 b w2]
  simp only [h1, h4, Bool.and_self, if_true]
  simp only [Value.cells, k2]
  exact ⟨_, rfl⟩
end Go.Proofs.Ytjhpkibeddnbfaa
