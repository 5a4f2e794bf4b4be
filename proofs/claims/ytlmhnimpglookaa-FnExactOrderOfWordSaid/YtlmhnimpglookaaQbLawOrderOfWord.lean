/- Texts put together: HS, AppH, Des, Bld, Cyc, IsPerm, CycL, Ints, Mark, HS2, PlR, Map -/
import Derived.Test.YtlmhnimpglookaaQaLawOrderOfWord
import Derived.Test.YtlmhnimpglookaaChecked
import Derived.WalkKit
import Derived.WalkSpells
import Derived.WalkLawsBesides
import Derived.Deep.LoopGhost
import Derived.Deep.OwnRows
import Derived.Laws.Rows
import Derived.Laws.Tables
import Derived.Laws.CopyOwn
import Derived.ProofKit
import Derived.OpenShut
import Derived.ShutString
import Derived.ChangeOld
import Derived.Below
import Derived.Laws.OwnMore
import Derived.Laws.CopyRow
import Derived.Deep.MidRow
import Derived.BigQuiet
import Derived.Deep.QuietTactic
import Derived.RegionTactic
import Derived.Deep.RegionWith
import Derived.Maps.Keyed
import Derived.DeepKeys4
import Derived.Maps.Own
namespace Go.Proofs.Ytlmhnimpglookaa
open Go.RowKit

/-- a part of memory: its blocks, and what holds of them -/
structure Part where
  own : Nat → Prop
  ok : World → Prop
  keep : ∀ w w' : World, ok w → (∀ g, own g → w'.heap[g]? = w.heap[g]?) → ok w'
  lt : ∀ (w : World) (g : Nat), ok w → own g → g < w.heap.size

theorem lt_of_some {w : World} {g : Nat} {o : Obj} (h : w.heap[g]? = some o) : g < w.heap.size := (Array.getElem?_eq_some_iff.1 h).1

/-- a whole block of cells -/
def pBlk (g : Nat) (c : Array Value) (t : TypeId) : Part where
  own k := k = g
  ok w := w.heap[g]? = some (.cells c t (0, 0))
  keep _ _ h k := (k g rfl).trans h
  lt _ _ h k := by subst k; exact lt_of_some h
/-- another object -/
def pObj (g : Nat) (o : Obj) : Part where
  own k := k = g
  ok w := w.heap[g]? = some o
  keep _ _ h k := (k g rfl).trans h
  lt _ _ h k := by subst k; exact lt_of_some h
/-- a row that grows -/
def pRow (v : Value) (e : TypeId) (s n : Nat) (xs : List Value) : Part where
  own k := v.ownBlock = some k
  ok w := w.ownsRow 0 e s v n xs
  keep w w' h k := by
    refine ⟨h.1, ?_⟩
    rcases h.2 with ⟨rfl, rfl⟩ | ⟨g, cap, cur, rfl, hb, hg, h1⟩
    · exact .inl ⟨rfl, rfl⟩
    · exact .inr ⟨g, cap, cur, rfl, hb, (k g rfl).trans hg, h1⟩
  lt w g h k := (World.ownsRow.lt h g k).2
/-- all of some parts -/
def Holds (w0 w : World) (L : List Part) : Prop :=
  Below w0.heap.size w0 w ∧ (∀ a ∈ L, a.ok w ∧ ∀ g, a.own g → w0.heap.size ≤ g) ∧ L.Pairwise (fun a b => ∀ g, a.own g → b.own g → False)

theorem Holds.start (w : World) : Holds w w [] := ⟨Below.refl _ _, by simp, List.Pairwise.nil⟩
theorem Holds.low {w0 w : World} {L : List Part} (h : Holds w0 w L) : Below w0.heap.size w0 w := h.1
theorem Holds.size {w0 w : World} {L : List Part} (h : Holds w0 w L) : w0.heap.size ≤ w.heap.size := h.1.size
theorem Holds.at {w0 w : World} {L : List Part} (h : Holds w0 w L) (i : Nat) {a : Part} (hi : L[i]? = some a) : a.ok w := (h.2.1 a (List.mem_of_getElem? hi)).1
theorem Holds.above {w0 w : World} {L : List Part} (h : Holds w0 w L) (i : Nat) {a : Part} (hi : L[i]? = some a) {g : Nat} (hg : a.own g) : w0.heap.size ≤ g := (h.2.1 a (List.mem_of_getElem? hi)).2 g hg
theorem Holds.apart {w0 w : World} {L : List Part} (h : Holds w0 w L) {i j : Nat} (hij : i ≠ j) {a b : Part} (hi : L[i]? = some a) (hj : L[j]? = some b) {g : Nat} (ha : a.own g) (hb : b.own g) : False := by
  have hp := List.pairwise_iff_getElem.1 h.2.2
  obtain ⟨hi', rfl⟩ := List.getElem?_eq_some_iff.1 hi
  obtain ⟨hj', rfl⟩ := List.getElem?_eq_some_iff.1 hj
  rcases Nat.lt_or_gt_of_ne hij with c | c
  · exact hp i j hi' hj' c g ha hb
  · exact hp j i hj' hi' c g hb ha
theorem Holds.sub {w0 w : World} {L L' : List Part} (h : Holds w0 w L) (hs : L'.Sublist L) : Holds w0 w L' := ⟨h.1, fun a ha => h.2.1 a (hs.subset ha), h.2.2.sublist hs⟩
theorem Holds.tail {w0 w : World} {a : Part} {L : List Part} (h : Holds w0 w (a :: L)) : Holds w0 w L := h.sub (List.sublist_cons_self a L)
/-- nothing that existed has turned -/
theorem Holds.call {w0 w w' : World} {L : List Part} (h : Holds w0 w L) (hb : Below w.heap.size w w') : Holds w0 w' L :=
  ⟨h.1.trans (hb.mono h.1.size), fun a ha => ⟨a.keep _ _ (h.2.1 a ha).1 fun g hg => hb.block g (a.lt _ _ (h.2.1 a ha).1 hg), (h.2.1 a ha).2⟩, h.2.2⟩
theorem Holds.drew {w0 w : World} {L : List Part} (h : Holds w0 w L) : Holds w0 w.drew L :=
  ⟨h.1.drew, fun a ha => ⟨a.keep _ _ (h.2.1 a ha).1 fun _ _ => rfl, (h.2.1 a ha).2⟩, h.2.2⟩
theorem Holds.drewN {w0 w : World} {L : List Part} (h : Holds w0 w L) (n : Nat) : Holds w0 (w.drewN n) L :=
  ⟨⟨h.1.os, h.1.tape, h.1.output, h.1.size, h.1.block⟩, fun a ha => ⟨a.keep _ _ (h.2.1 a ha).1 fun _ _ => rfl, (h.2.1 a ha).2⟩, h.2.2⟩
/-- a part more, all of it new -/
theorem Holds.new {w0 w w' : World} {L : List Part} (h : Holds w0 w L) (hb : Below w.heap.size w w') (a : Part) (ha : a.ok w') (hn : ∀ g, a.own g → w.heap.size ≤ g) : Holds w0 w' (a :: L) := by
  have h' := h.call hb
  refine ⟨h'.1, fun b hb => ?_, List.pairwise_cons.2 ⟨fun b hb' g hg hg' => ?_, h'.2.2⟩⟩
  · rcases List.mem_cons.1 hb with rfl | hb
    · exact ⟨ha, fun g hg => Nat.le_trans h.1.size (hn g hg)⟩
    · exact h'.2.1 b hb
  · have := b.lt _ _ (h.2.1 b hb').1 hg'
    have := hn g hg
    omega
theorem Holds.alloc {w0 w : World} {L : List Part} (h : Holds w0 w L) (o : Obj) : Holds w0 (w.alloc o) L := h.call (below1 w o)
theorem Holds.blk {w0 w : World} {L : List Part} (h : Holds w0 w L) (c : Array Value) (t : TypeId) (g : Nat) (hg : g = w.heap.size) : Holds w0 (w.alloc (.cells c t)) (pBlk g c t :: L) :=
  h.new (below1 w _) _ (heap_at _ _ _ hg) fun k hk => by cases hk; omega
theorem Holds.obj {w0 w : World} {L : List Part} (h : Holds w0 w L) (o : Obj) (g : Nat) (hg : g = w.heap.size) : Holds w0 (w.alloc o) (pObj g o :: L) :=
  h.new (below1 w _) _ (heap_at _ _ _ hg) fun k hk => by cases hk; omega
/-- one part is turned, alone -/
theorem Holds.turn {w0 w w' : World} {L : List Part} (h : Holds w0 w L) (i : Nat) {a : Part} (hi : L[i]? = some a) (a' : Part) (ha' : a'.ok w') (ho : w'.os = w.os) (ht : w'.tape = w.tape) (hu : w'.output = w.output) (hs : w.heap.size ≤ w'.heap.size)
    (hk : ∀ g, g < w.heap.size → ¬ a.own g → w'.heap[g]? = w.heap[g]?) (hn : ∀ g, a'.own g → a.own g ∨ w.heap.size ≤ g) : Holds w0 w' (L.set i a') := by
  obtain ⟨hil, hie⟩ := List.getElem?_eq_some_iff.1 hi
  have low : Below w0.heap.size w0 w' := h.1.trans ⟨ho, ht, hu, hs, fun g hg => hk g (Nat.lt_of_lt_of_le hg h.1.size) fun hg' => by have := h.above i hi hg'; omega⟩
  have old : ∀ j (b : Part), j ≠ i → L[j]? = some b → b.ok w' := fun j b hj hb => b.keep _ _ (h.at j hb) fun g hg => hk g (b.lt _ _ (h.at j hb) hg) fun hg' => h.apart hj hb hi hg hg'
  have ab : ∀ g, a'.own g → w0.heap.size ≤ g := fun g hg => by
    rcases hn g hg with c | c
    · exact h.above i hi c
    · exact Nat.le_trans h.1.size c
  have far : ∀ j (b : Part) g, j ≠ i → L[j]? = some b → b.own g → a'.own g → False := fun j b g hj hb hg hg' => by
    rcases hn g hg' with c | c
    · exact h.apart hj hb hi hg c
    · have := b.lt _ _ (h.at j hb) hg; omega
  refine ⟨low, fun b hb => ?_, List.pairwise_iff_getElem.2 fun j k hj hk' hjk g h1 h2 => ?_⟩
  · obtain ⟨j, hj⟩ := List.getElem?_of_mem hb
    rw [List.getElem?_set] at hj
    by_cases e : i = j
    · rw [if_pos e, if_pos hil] at hj
      cases hj
      exact ⟨ha', ab⟩
    · rw [if_neg e] at hj
      exact ⟨old j b (Ne.symm e) hj, fun g hg => h.above j hj hg⟩
  · rw [List.length_set] at hj hk'
    rw [List.getElem_set] at h1 h2
    by_cases e : i = j
    · rw [if_pos e] at h1
      rw [if_neg (by omega)] at h2
      exact far k _ g (by omega) (List.getElem?_eq_getElem hk') h2 h1
    · rw [if_neg e] at h1
      by_cases e' : i = k
      · rw [if_pos e'] at h2
        exact far j _ g (by omega) (List.getElem?_eq_getElem hj) h1 h2
      · rw [if_neg e'] at h2
        exact h.apart (by omega) (List.getElem?_eq_getElem hj) (List.getElem?_eq_getElem hk') h1 h2
/-- .. by a row of cells of its own that has grown -/
theorem Holds.grow {w0 w w' : World} {L : List Part} (h : Holds w0 w L) (i : Nat) {a : Part} (hi : L[i]? = some a) (a' : Part) (ha' : a'.ok w') {r : Option Nat} (hg : w.grownBy w' r) (hr : ∀ g, r = some g → a.own g) (hn : ∀ g, a'.own g → a.own g ∨ w.heap.size ≤ g) : Holds w0 w' (L.set i a') :=
  h.turn i hi a' ha' hg.os hg.tape hg.output hg.size (fun g hl ho => hg.block g hl fun e => ho (hr g e.symm)) hn
theorem heap_setCell_ne (w : World) (g j k : Nat) (v : Value) (h : k ≠ g) : (w.setCell ⟨g, j, none⟩ v).heap[k]? = w.heap[k]? := Below.heap_setCell w ⟨g, j, none⟩ v k h
/-- a store into a cell of a block -/
theorem Holds.set {w0 w : World} {L : List Part} (h : Holds w0 w L) (i : Nat) {g : Nat} {c : Array Value} {t : TypeId} (hi : L[i]? = some (pBlk g c t)) (j : Nat) (v : Value) : Holds w0 (w.setCell ⟨g, j, none⟩ v) (L.set i (pBlk g (c.setIfInBounds j v) t)) :=
  h.turn i hi _ (heap_setCell_same _ _ _ _ _ _ (h.at i hi)) rfl rfl rfl (by simp) (fun k _ ho => heap_setCell_ne _ _ _ _ _ ho) fun k hk => .inl hk
/-- a store of a whole block -/
theorem Holds.setRow {w0 w : World} {L : List Part} (h : Holds w0 w L) (i : Nat) {g : Nat} {c : Array Value} {t : TypeId} (hi : L[i]? = some (pBlk g c t)) (c' : Array Value) : Holds w0 (w.setRow g c') (L.set i (pBlk g c' t)) :=
  h.turn i hi _ (setRow_heap _ _ _ _ t (0, 0) (h.at i hi)) rfl rfl rfl (by simp) (fun k _ ho => setRow_other _ _ _ _ ho) fun k hk => .inl hk
/-- what the walk asks of a block -/
theorem Holds.cells {w0 w : World} {L : List Part} (h : Holds w0 w L) (i : Nat) {g : Nat} {c : Array Value} {t : TypeId} (hi : L[i]? = some (pBlk g c t)) : cellsOf w g = c := cellsOf_heap (h.at i hi)
theorem Holds.rowOk {w0 w : World} {L : List Part} (h : Holds w0 w L) (i : Nat) {g : Nat} {c : Array Value} {t : TypeId} (hi : L[i]? = some (pBlk g c t)) {n : Nat} (hn : c.size = n) : rowOk w g n := ⟨c, t, h.at i hi, hn⟩
theorem Holds.cell {w0 w : World} {L : List Part} (h : Holds w0 w L) (i : Nat) {g : Nat} {c : Array Value} {t : TypeId} (hi : L[i]? = some (pBlk g c t)) {j : Nat} {v : Value} (hv : c[j]? = some v) : w.cell? ⟨g, j, none⟩ = some v := by rw [cell_of_cells, h.cells i hi]; exact hv
theorem Holds.frozen {w0 w : World} {L : List Part} (h : Holds w0 w L) (i : Nat) {g : Nat} {c : Array Value} {t : TypeId} (hi : L[i]? = some (pBlk g c t)) (j : Nat) : w.frozen? ⟨g, j, none⟩ = false := by
  have := h.at i hi
  simp only [pBlk] at this
  simp [World.frozen?, this]
theorem Holds.lt {w0 w : World} {L : List Part} (h : Holds w0 w L) (i : Nat) {g : Nat} {c : Array Value} {t : TypeId} (hi : L[i]? = some (pBlk g c t)) : g < w.heap.size := lt_of_some (h.at i hi)
/-- a row by its cells -/
theorem row_at {w : World} {B : Nat} {v : Value} {e : TypeId} {s n : Nat} {xs : List Value} (h : w.ownsRow B e s v n xs) (hn : 0 < n) :
    ∃ g c, v = .slice (some ⟨g, 0, none⟩) n c ∧ B ≤ g ∧ g < w.heap.size ∧ n ≤ c ∧ c ≤ maxLen ∧ (∀ j u, xs[j]? = some u → w.cell? ⟨g, j, none⟩ = some u) ∧ ∀ j, w.frozen? ⟨g, j, none⟩ = false := by
  rcases h.2 with ⟨_, e⟩ | ⟨g, cap, cur, rfl, hB, hh, h1, h2, h3, h4⟩
  · omega
  · refine ⟨g, cap, rfl, hB, lt_of_some hh, h1, h2, fun j u hu => ?_, fun j => by simp [World.frozen?, hh]⟩
    rw [cell_of_cells, cellsOf_heap hh]
    have hj : j < xs.length := (List.getElem?_eq_some_iff.1 hu).1
    rw [h.1] at hj
    rw [← h4, List.getElem?_take_of_lt hj, Array.getElem?_toList] at hu
    exact hu
theorem Holds.row {w0 w : World} {L : List Part} (h : Holds w0 w L) (i : Nat) {v : Value} {e : TypeId} {s n : Nat} {xs : List Value} (hi : L[i]? = some (pRow v e s n xs)) : w.ownsRow w0.heap.size e s v n xs := by
  have h1 : w.ownsRow 0 e s v n xs := h.at i hi
  refine ⟨h1.1, ?_⟩
  rcases h1.2 with c | ⟨g, cap, cur, rfl, _, k⟩
  · exact .inl c
  · exact .inr ⟨g, cap, cur, rfl, h.above i hi rfl, k⟩
theorem row_low {w : World} {B B' : Nat} {e : TypeId} {s n : Nat} {v : Value} {xs : List Value} (h : w.ownsRow B e s v n xs) (hB : B' ≤ B) : w.ownsRow B' e s v n xs :=
  ⟨h.1, h.2.imp id fun ⟨g, cap, cur, h1, h2, h3⟩ => ⟨g, cap, cur, h1, by omega, h3⟩⟩
/-- a new row -/
theorem Holds.newRow {w0 w w' : World} {L : List Part} (h : Holds w0 w L) (hb : Below w.heap.size w w') {v : Value} {e : TypeId} {s n : Nat} {xs : List Value} (hr : w'.ownsRow w.heap.size e s v n xs) : Holds w0 w' (pRow v e s n xs :: L) :=
  h.new hb _ (row_low hr (Nat.zero_le _)) fun g hg => (hr.lt g hg).1
/-- a block that is a row -/
theorem Holds.rowNew {w0 w : World} {L : List Part} (h : Holds w0 w L) (cs : Array Value) (e : TypeId) (s n g : Nat) (hg : g = w.heap.size) (hs : cs.size = n * s) (hn : n ≤ maxLen) : Holds w0 (w.alloc (.cells cs e)) (pRow (.slice (some ⟨g, 0, none⟩) n n) e s n cs.toList :: L) :=
by
  have hr : (w.alloc (.cells cs e)).ownsRow 0 e s (.slice (some ⟨g, 0, none⟩) n n) n cs.toList :=
    ⟨by rw [Array.length_toList]; exact hs, .inr ⟨g, n, cs, rfl, Nat.zero_le _, heap_at _ _ _ hg, Nat.le_refl _, hn, hs, by rw [← hs, ← Array.length_toList, List.take_length]⟩⟩
  refine h.new (below1 w _) _ hr fun k hk => ?_
  have : g = k := by simpa [pRow, Value.ownBlock] using hk
  omega
theorem Holds.nilRow {w0 w : World} {L : List Part} (h : Holds w0 w L) (e : TypeId) (s : Nat) : Holds w0 w (pRow (.slice none 0 0) e s 0 [] :: L) :=
  h.new (Below.refl _ _) _ (World.ownsRow_nil _ _ _ _) fun g hg => by cases hg
end Go.Proofs.Ytlmhnimpglookaa

namespace Go.Proofs.Ytlmhnimpglookaa
open Go.RowKit

section
variable {P : Program} {w : World}
/-- where a grown row lies -/
theorem append_lies (B : Nat) (t ty e : TypeId) (i : TypeInfo) (z : Value) (size bytes : Nat) (ht : P.underlying t = some (.slice e)) (hi : P.info? e = some i) (hz : i.zero = some z)
    (hsize : i.size = size) (hby : i.bytes = bytes) (hzs : z.cells.size = size) (hsz : 0 < size)
    (v : Value) (n : Nat) (xs : List Value) (hown : w.ownsRow B e size v n xs)
    (a : Addr) (m c : Nat) (news : List Value) (hl : news.length = m * size) (hnews : ∀ j u, news[j]? = some u → w.cell? (a.add j) = some u) (h1 : ∀ u ∈ news, u.oneCell' = true)
    (h63 : n + m ≤ maxLen) (hbytes : (n + m) * bytes ≤ 140737488355328) (hbase : B ≤ w.heap.size) {v' : Value} {w' : World} (hr : (Builtin.append_ #[t, t] ty #[v, .slice (some a) m c]).run P w = .ok v' w') :
    ∀ g, v'.ownBlock = some g → v.ownBlock = some g ∨ w.heap.size ≤ g := by
  intro g hg
  rcases hown.2 with ⟨rfl, rfl⟩ | ⟨g0, cap, cur, rfl, hbg, hg0, hnc, hcm, hcs, htake⟩
  · have hx : xs = [] := List.eq_nil_of_length_eq_zero (by simpa using hown.1)
    obtain ⟨v2, w2, hr2, ho2, _⟩ := run_append_own (P := P) w w.heap.size t ty e i z size bytes ht hi hz hsize hby hzs hsz (.slice none 0 0) 0 [] (World.ownsRow_nil _ _ _ _) a m c news hl hnews h1 h63 hbytes (Nat.le_refl _)
    rw [hr] at hr2
    cases hr2
    exact .inr (ho2.lt g hg).1
  · by_cases hroom : n + m ≤ cap
    · subst hsize
      have hfit : n * i.size + news.length ≤ cur.size := by rw [hl, hcs, ← Nat.add_mul]; exact Nat.mul_le_mul_right _ hroom
      rw [run_append_room (P := P) w t ty e i ht hi g0 n cap cur hg0 a m c news hl hnews h1 hroom hfit] at hr
      cases hr
      exact .inl hg
    · subst hsize
      subst hby
      have h63' : n + m ≤ 9223372036854775807 := by simp only [maxLen] at h63; omega
      rw [run_append_grow (P := P) w t ty e i z ht hi hz ⟨g0, 0, none⟩ n cap xs hown.1 (hown.cells (g := g0) rfl) a m c news hl hnews (by omega) (by omega) (growslice_fits (by omega) hbytes)] at hr
      cases hr
      refine .inr ?_
      have : w.heap.size = g := by simpa [Value.ownBlock] using hg
      omega

theorem appH {ops : Array Oper} {rest : List Oper} {o : Oper} {a : Act} {Q : Exit → Act → World → Prop} (hgd : o.guard = none) (s x : Operand) (t : TypeId)
    (ho : o.op = .call { callee := .builtin .append, args := #[s, x], argTypes := #[t, t] })
    (e : TypeId) (i : TypeInfo) (z : Value) (size bytes : Nat) (ht : P.underlying t = some (.slice e)) (hi : P.info? e = some i) (hz : i.zero = some z)
    (hsize : i.size = size) (hby : i.bytes = bytes) (hzs : z.cells.size = size) (hsz : 0 < size)
    (v : Value) (n : Nat) (xs : List Value) (hs : a.eval s = v) {w0 : World} {L : List Part} (H : Holds w0 w L) (k : Nat) (hk : L[k]? = some (pRow v e size n xs))
    (ad : Addr) (m c : Nat) (news : List Value) (hx : a.eval x = .slice (some ad) m c) (hl : news.length = m * size) (hnews : ∀ j u, news[j]? = some u → w.cell? (ad.add j) = some u) (h1 : ∀ u ∈ news, u.oneCell' = true)
    (h63 : n + m ≤ maxLen) (hbytes : (n + m) * bytes ≤ 140737488355328)
    (h : ∀ v' w', Holds w0 w' (L.set k (pRow v' e size (n + m) (xs ++ news))) → wpList P ops Q rest (a.put o.dst v') w') : wpList P ops Q (o :: rest) a w := by
  have hown := H.row k hk
  refine wpList_plain hgd fun _ hK => ?_
  obtain ⟨v', w', hr, h2, h3, h4⟩ := run_append_own (P := P) w w0.heap.size t o.type e i z size bytes ht hi hz hsize hby hzs hsz v n xs hown ad m c news hl hnews h1 h63 hbytes H.size
  have h5 := append_lies w0.heap.size t o.type e i z size bytes ht hi hz hsize hby hzs hsz v n xs hown ad m c news hl hnews h1 h63 hbytes H.size hr
  unfold Oper.wp execOp
  simp only [ho, resolve, invoke, builtin, Sem.run_bind, Sem.run_pure, Result.andThen_ok, List.map_toArray, List.map_cons, List.map_nil, hs, hx, hr]
  exact hK _ _ (h v' w' (H.grow k hk _ (row_low h2 (Nat.zero_le _)) h3 (fun g hg => hg) h5))
/-- the same as a run -/
theorem run_appH (t ty : TypeId) (e : TypeId) (i : TypeInfo) (z : Value) (size bytes : Nat) (ht : P.underlying t = some (.slice e)) (hi : P.info? e = some i) (hz : i.zero = some z)
    (hsize : i.size = size) (hby : i.bytes = bytes) (hzs : z.cells.size = size) (hsz : 0 < size)
    (v : Value) (n : Nat) (xs : List Value) {w0 : World} {L : List Part} (H : Holds w0 w L) (k : Nat) (hk : L[k]? = some (pRow v e size n xs))
    (ad : Addr) (m c : Nat) (news : List Value) (hl : news.length = m * size) (hnews : ∀ j u, news[j]? = some u → w.cell? (ad.add j) = some u) (h1 : ∀ u ∈ news, u.oneCell' = true)
    (h63 : n + m ≤ maxLen) (hbytes : (n + m) * bytes ≤ 140737488355328) :
    ∃ v' w', (Builtin.append_ #[t, t] ty #[v, .slice (some ad) m c]).run P w = .ok v' w' ∧ Holds w0 w' (L.set k (pRow v' e size (n + m) (xs ++ news))) ∧ w.heap.size ≤ w'.heap.size := by
  have hown := H.row k hk
  obtain ⟨v', w', hr, h2, h3, h4⟩ := run_append_own (P := P) w w0.heap.size t ty e i z size bytes ht hi hz hsize hby hzs hsz v n xs hown ad m c news hl hnews h1 h63 hbytes H.size
  have h5 := append_lies w0.heap.size t ty e i z size bytes ht hi hz hsize hby hzs hsz v n xs hown ad m c news hl hnews h1 h63 hbytes H.size hr
  exact ⟨v', w', hr, H.grow k hk _ (row_low h2 (Nat.zero_le _)) h3 (fun g hg => hg) h5, h3.size⟩
theorem exec_append {o : Oper} {a : Act} {s x : Operand} {t : TypeId} (ho : o.op = .call { callee := .builtin .append, args := #[s, x], argTypes := #[t, t] }) {v v' u : Value} {w' : World} (hs : a.eval s = v) (hx : a.eval x = u)
    (hr : (Builtin.append_ #[t, t] o.type #[v, u]).run P w = .ok v' w') : (execOp a.eval o).run P w = .ok (.value v') w' := by
  unfold execOp
  simp only [ho, resolve, invoke, builtin, Sem.run_bind, Sem.run_pure, Result.andThen_ok, List.map_toArray, List.map_cons, List.map_nil, hs, hx, hr]
end
end Go.Proofs.Ytlmhnimpglookaa

namespace Go.Proofs.Ytlmhnimpglookaa
open Go.RowKit

@[irreducible] def dv (n : Int) (f g : Nat → Nat) : Array Value := row 33 fun i => if i = 0 then .int .i64 n else if i < 17 then .int .u8 (f (i - 1)) else .int .u8 (g (i - 17))
theorem dv_size (n : Int) (f g : Nat → Nat) : (dv n f g).size = 33 := by unfold dv; exact row_size _ _
theorem dv_n (n : Int) (f g : Nat → Nat) : (dv n f g)[0]? = some (.int .i64 n) := by unfold dv; rw [row_get _ _ (by omega)]; rfl
theorem dv_b (n : Int) (f g : Nat → Nat) {i : Nat} (h : i < 16) : (dv n f g)[1 + i]? = some (.int .u8 (f i)) := by
  unfold dv; rw [row_get _ _ (by omega), if_neg (by omega), if_pos (by omega), show 1 + i - 1 = i from by omega]
theorem dv_w (n : Int) (f g : Nat → Nat) {i : Nat} (h : i < 16) : (dv n f g)[17 + i]? = some (.int .u8 (g i)) := by
  unfold dv; rw [row_get _ _ (by omega), if_neg (by omega), if_neg (by omega), show 17 + i - 17 = i from by omega]
theorem dv_zero : dv 0 (fun _ => 0) (fun _ => 0) = #[Value.int .i64 0, Value.int .u8 0, Value.int .u8 0, Value.int .u8 0, Value.int .u8 0, Value.int .u8 0, Value.int .u8 0, Value.int .u8 0, Value.int .u8 0, Value.int .u8 0, Value.int .u8 0, Value.int .u8 0, Value.int .u8 0, Value.int .u8 0, Value.int .u8 0, Value.int .u8 0, Value.int .u8 0, Value.int .u8 0, Value.int .u8 0, Value.int .u8 0, Value.int .u8 0, Value.int .u8 0, Value.int .u8 0, Value.int .u8 0, Value.int .u8 0, Value.int .u8 0, Value.int .u8 0, Value.int .u8 0, Value.int .u8 0, Value.int .u8 0, Value.int .u8 0, Value.int .u8 0, Value.int .u8 0] := by unfold dv row; rfl
theorem dv_lit (n : Int) : dv n (fun _ => 0) (fun _ => 0) = #[Value.int .i64 n, Value.int .u8 0, Value.int .u8 0, Value.int .u8 0, Value.int .u8 0, Value.int .u8 0, Value.int .u8 0, Value.int .u8 0, Value.int .u8 0, Value.int .u8 0, Value.int .u8 0, Value.int .u8 0, Value.int .u8 0, Value.int .u8 0, Value.int .u8 0, Value.int .u8 0, Value.int .u8 0, Value.int .u8 0, Value.int .u8 0, Value.int .u8 0, Value.int .u8 0, Value.int .u8 0, Value.int .u8 0, Value.int .u8 0, Value.int .u8 0, Value.int .u8 0, Value.int .u8 0, Value.int .u8 0, Value.int .u8 0, Value.int .u8 0, Value.int .u8 0, Value.int .u8 0, Value.int .u8 0] := by unfold dv row; rfl
theorem dv_cells (n : Int) (f g : Nat → Nat) : (dv n f g).all (·.oneCell') = true := by
  unfold dv row
  simp only [List.all_toArray, List.all_map, List.all_eq_true, Function.comp]
  intro i _
  split
  · rfl
  · split <;> rfl

def Is33 (c : Array Value) : Prop := c.size = 33
@[go_sem] theorem is33_dv (n : Int) (f g : Nat → Nat) : Is33 (dv n f g) ↔ True := ⟨fun _ => trivial, fun _ => dv_size n f g⟩
@[go_sem] theorem is33_lit (x0 x1 x2 x3 x4 x5 x6 x7 x8 x9 x10 x11 x12 x13 x14 x15 x16 x17 x18 x19 x20 x21 x22 x23 x24 x25 x26 x27 x28 x29 x30 x31 x32 : Value) : Is33 #[x0, x1, x2, x3, x4, x5, x6, x7, x8, x9, x10, x11, x12, x13, x14, x15, x16, x17, x18, x19, x20, x21, x22, x23, x24, x25, x26, x27, x28, x29, x30, x31, x32] ↔ True := ⟨fun _ => trivial, fun _ => rfl⟩
@[go_sem] theorem ones_dv (n : Int) (f g : Nat → Nat) : Ones (dv n f g) ↔ True := ⟨fun _ => trivial, fun _ => dv_cells n f g⟩
@[go_sem] theorem ones_z33 : Ones #[Value.int .i64 0, Value.int .u8 0, Value.int .u8 0, Value.int .u8 0, Value.int .u8 0, Value.int .u8 0, Value.int .u8 0, Value.int .u8 0, Value.int .u8 0, Value.int .u8 0, Value.int .u8 0, Value.int .u8 0, Value.int .u8 0, Value.int .u8 0, Value.int .u8 0, Value.int .u8 0, Value.int .u8 0, Value.int .u8 0, Value.int .u8 0, Value.int .u8 0, Value.int .u8 0, Value.int .u8 0, Value.int .u8 0, Value.int .u8 0, Value.int .u8 0, Value.int .u8 0, Value.int .u8 0, Value.int .u8 0, Value.int .u8 0, Value.int .u8 0, Value.int .u8 0, Value.int .u8 0, Value.int .u8 0] ↔ True := ⟨fun _ => trivial, fun _ => by unfold Ones; simp [Value.oneCell']⟩
@[go_sem] theorem rowOk_at33 {w : World} {g : Nat} {c : Array Value} {t : TypeId} (h : g = w.heap.size) (hc : Is33 c) : rowOk (w.alloc (.cells c t)) g 33 ↔ True := ⟨fun _ => trivial, fun _ => ⟨c, t, heap_at _ _ _ h, hc⟩⟩

@[go_sem] theorem cellsOf_ne {w : World} {g g' : Nat} {c' : Array Value} (h : g ≠ g') : cellsOf (w.setRow g' c') g = cellsOf w g := cellsOf_setRow_ne h
@[go_sem] theorem cellsOf_same33 {w : World} {g : Nat} {c' : Array Value} (h : rowOk w g 33) : cellsOf (w.setRow g c') g = c' := cellsOf_setRow h
@[go_sem] theorem cellsOf_same16 {w : World} {g : Nat} {c' : Array Value} (h : rowOk w g 16) : cellsOf (w.setRow g c') g = c' := cellsOf_setRow h
@[go_sem] theorem rowOk_ne {w : World} {g g' n : Nat} {c' : Array Value} (h : g ≠ g') : rowOk (w.setRow g' c') g n ↔ rowOk w g n := rowOk_setRow_ne h
@[go_sem] theorem rowOk_same33 {w : World} {g : Nat} {c' : Array Value} (h : rowOk w g 33) (hc : Is33 c') : rowOk (w.setRow g c') g 33 ↔ True := ⟨fun _ => trivial, fun _ => rowOk_setRow h hc⟩
@[go_sem] theorem rowOk_same16 {w : World} {g : Nat} {c' : Array Value} (h : rowOk w g 16) (hc : Is16 c') : rowOk (w.setRow g c') g 16 ↔ True := ⟨fun _ => trivial, fun _ => rowOk_setRow h hc⟩
/-- Black and White of thirty-three cells -/
def blackOf (c : Array Value) : Array Value := c.extract 1 17
def whiteOf (c : Array Value) : Array Value := c.extract 17 33
def setBlack (c b : Array Value) : Array Value := (c.toList.take 1 ++ b.toList ++ c.toList.drop 17).toArray
def setWhite (c b : Array Value) : Array Value := (c.toList.take 17 ++ b.toList ++ c.toList.drop 33).toArray
theorem get_cases (n : Int) (f g : Nat → Nat) (i : Nat) : (dv n f g)[i]? = if i < 33 then some (if i = 0 then .int .i64 n else if i < 17 then .int .u8 (f (i - 1)) else .int .u8 (g (i - 17))) else none := by
  unfold dv
  by_cases h : i < 33
  · rw [row_get _ _ h, if_pos h]
  · rw [row_none _ _ h, if_neg h]
theorem av_cases (f : Nat → Nat) (i : Nat) : (av f)[i]? = if i < 16 then some (.int .u8 (f i)) else none := by
  by_cases h : i < 16
  · rw [av_get _ h, if_pos h]
  · rw [if_neg h, Array.getElem?_eq_none]; rw [av_size]; omega
@[go_sem] theorem blackOf_dv (n : Int) (f g : Nat → Nat) : blackOf (dv n f g) = av f := by
  apply Array.ext_getElem?
  intro i
  unfold blackOf
  rw [Array.getElem?_extract, get_cases, av_cases, dv_size]
  by_cases h : i < 16
  · rw [if_pos (by omega), if_pos (by omega), if_neg (by omega), if_pos (by omega), if_pos h, show 1 + i - 1 = i from by omega]
  · rw [if_neg (by omega), if_neg h]
@[go_sem] theorem whiteOf_dv (n : Int) (f g : Nat → Nat) : whiteOf (dv n f g) = av g := by
  apply Array.ext_getElem?
  intro i
  unfold whiteOf
  rw [Array.getElem?_extract, get_cases, av_cases, dv_size]
  by_cases h : i < 16
  · rw [if_pos (by omega), if_pos (by omega), if_neg (by omega), if_neg (by omega), if_pos h, show 17 + i - 17 = i from by omega]
  · rw [if_neg (by omega), if_neg h]
@[go_sem] theorem setBlack_dv (n : Int) (f g b : Nat → Nat) : setBlack (dv n f g) (av b) = dv n b g := by
  apply Array.ext_getElem?
  intro i
  have l1 : (dv n f g).toList.length = 33 := by simpa using dv_size n f g
  have l2 : (av b).toList.length = 16 := by simpa using av_size b
  unfold setBlack
  rw [List.getElem?_toArray, get_cases]
  by_cases h0 : i < 1
  · rw [List.getElem?_append_left (by simp [l1]; omega), List.getElem?_append_left (by simp [l1]; omega), List.getElem?_take_of_lt (by omega), Array.getElem?_toList, get_cases]
    rw [if_pos (by omega), if_pos (by omega), if_pos (by omega), if_pos (by omega)]
  · by_cases h1 : i < 17
    · rw [List.getElem?_append_left (by simp [l1, l2, av_size]; omega), List.getElem?_append_right (by simp [l1]; omega), Array.getElem?_toList, av_cases]
      have e : i - (List.take 1 (dv n f g).toList).length = i - 1 := by simp [l1, dv_size]
      rw [e, if_pos (by omega), if_pos (by omega), if_neg (by omega), if_pos h1]
    · rw [List.getElem?_append_right (by simp [l1, l2, av_size, dv_size]; omega), List.getElem?_drop, Array.getElem?_toList, get_cases]
      have e : 17 + (i - (List.take 1 (dv n f g).toList ++ (av b).toList).length) = i := by simp [l1, l2, av_size, dv_size]; omega
      rw [e]
      by_cases h2 : i < 33
      · rw [if_pos h2, if_pos h2, if_neg (by omega), if_neg (by omega), if_neg (by omega), if_neg (by omega)]
      · rw [if_neg h2, if_neg h2]
@[go_sem] theorem setWhite_dv (n : Int) (f g b : Nat → Nat) : setWhite (dv n f g) (av b) = dv n f b := by
  apply Array.ext_getElem?
  intro i
  have l1 : (dv n f g).toList.length = 33 := by simpa using dv_size n f g
  have l2 : (av b).toList.length = 16 := by simpa using av_size b
  unfold setWhite
  rw [List.getElem?_toArray, get_cases]
  by_cases h0 : i < 17
  · rw [List.getElem?_append_left (by simp [l1, dv_size, av_size]; omega), List.getElem?_append_left (by simp [l1, dv_size]; omega), List.getElem?_take_of_lt (by omega), Array.getElem?_toList, get_cases]
    by_cases h : i = 0
    · simp [h]
    · simp [h, h0, show i < 33 from by omega]
  · by_cases h1 : i < 33
    · rw [List.getElem?_append_left (by simp [l1, l2, av_size, dv_size]; omega), List.getElem?_append_right (by simp [l1, dv_size]; omega), Array.getElem?_toList, av_cases]
      have e : i - (List.take 17 (dv n f g).toList).length = i - 17 := by simp [l1, dv_size]
      rw [e, if_pos (by omega), if_pos (by omega), if_neg (by omega), if_neg (by omega)]
    · rw [List.getElem?_append_right (by simp [l1, l2, av_size, dv_size]; omega), List.getElem?_drop, Array.getElem?_toList, get_cases, if_neg (by omega), if_neg h1]

theorem aggD : AggT 44 33 := ⟨⟨_, Try.underlying44, rfl⟩, by kernel_rfl⟩
theorem aggL : AggT 40 33 := ⟨⟨_, Try.underlying40, rfl⟩, by kernel_rfl⟩

/-- sixteen cells out of the midst of a block, and into it -/
theorem run_load_mid {T n : Nat} (hT : AggT T n) {w : World} {g o : Nat} {cs : Array Value} (h : (cellsOf w g).extract o (o + n) = cs) (hs : cs.size = n) :
    (loadT T (.pointer (some ⟨g, o, none⟩))).run Try.prog w = .ok (.value (.agg cs)) w := by
  obtain ⟨d, hd, hd'⟩ := hT.und
  have := run_loadVar_mid (P := Try.prog) w g o T cs.toList d (fun j v hv => by
    rw [cell_of_cells]
    rw [← h] at hv
    simp only [Array.getElem?_toList, Array.getElem?_extract] at hv
    split at hv
    · exact hv
    · cases hv) hd (by cases d <;> first | rfl | simp at hd') (by rw [Array.length_toList, hs]; exact hT.siz)
  simp only [loadT, Instr.loadAt, Instr.sureAddr, Sem.run_bind, Sem.run_pure, Result.andThen_ok, this]
theorem run_store_mid {T n m : Nat} (hT : AggT T n) {w : World} {g o : Nat} {cs : Array Value} (h : rowOk w g m) (hm : o + n ≤ m) (hs : cs.size = n) (hc : cs.all (·.oneCell') = true) :
    (storeT T (.pointer (some ⟨g, o, none⟩)) (.agg cs)).run Try.prog w = .ok .skip (w.setRow g ((cellsOf w g).toList.take o ++ cs.toList ++ (cellsOf w g).toList.drop (o + n)).toArray) := by
  obtain ⟨t, h1, h2⟩ := h.heap
  have := run_storeCells_at (P := Try.prog) g o t cs.toList 0 (cellsOf w g) w h1 (by simp [hs, h2]; omega) (fun v hv => (Array.all_eq_true_iff_forall_mem.1 hc) v (by simpa using hv))
  rcases hq : Try.prog.info? T with _ | i
  · have := hT.siz; rw [hq] at this; cases this
  · have hi : i.size = n := by have := hT.siz; rw [hq] at this; simpa using this
    simp only [Nat.add_zero, Array.length_toList, hs] at this
    simp only [storeT, Instr.storeAt, Instr.sureAddr, storeVar, sizeOf, typeInfo, hq, Value.cells, Sem.run_bind, Sem.run_pure, Result.andThen_ok, run_program, hs, hi, ne_eq, not_true_eq_false, if_false, this]

section
variable (ρ : Operand → Value) (dst : Option Tmp) (x y : Operand) (ty : TypeId) (pos : String) (after : Array Edge) (guard : Option (Nat × Bool))
@[go_sem ↓] theorem exec_loadD : execOp ρ { dst, op := .load 44 x, type := ty, pos, after, guard } = loadT 44 (ρ x) := rfl
@[go_sem ↓] theorem exec_storeD : execOp ρ { dst, op := .store 44 x y, type := ty, pos, after, guard } = storeT 44 (ρ x) (ρ y) := rfl
@[go_sem ↓] theorem exec_loadL : execOp ρ { dst, op := .load 40 x, type := ty, pos, after, guard } = loadT 40 (ρ x) := rfl
end
section
variable {w : World} {g : Nat} {cs : Array Value}
@[go_sem] theorem run_loadD (h : Is33 (cellsOf w g)) : (loadT 44 (.pointer (some ⟨g, 0, none⟩))).run Try.prog w = .ok (.value (.agg (cellsOf w g))) w := run_loadT aggD h (by decide)
@[go_sem] theorem run_loadL (h : Is33 (cellsOf w g)) : (loadT 40 (.pointer (some ⟨g, 0, none⟩))).run Try.prog w = .ok (.value (.agg (cellsOf w g))) w := run_loadT aggL h (by decide)
@[go_sem] theorem run_storeD (h : rowOk w g 33) (hs : Is33 cs) (hc : Ones cs) :
    (storeT 44 (.pointer (some ⟨g, 0, none⟩)) (.agg cs)).run Try.prog w = .ok .skip (w.setRow g cs) := run_storeT aggD h hs hc
@[go_sem] theorem run_loadPb (h : Is16 (blackOf (cellsOf w g))) : (loadT 42 (.pointer (some ⟨g, 1, none⟩))).run Try.prog w = .ok (.value (.agg (blackOf (cellsOf w g)))) w := run_load_mid aggP rfl h
@[go_sem] theorem run_loadPw (h : Is16 (whiteOf (cellsOf w g))) : (loadT 42 (.pointer (some ⟨g, 17, none⟩))).run Try.prog w = .ok (.value (.agg (whiteOf (cellsOf w g)))) w := run_load_mid aggP rfl h
@[go_sem] theorem run_loadAb (h : Is16 (blackOf (cellsOf w g))) : (loadT 38 (.pointer (some ⟨g, 1, none⟩))).run Try.prog w = .ok (.value (.agg (blackOf (cellsOf w g)))) w := run_load_mid aggA rfl h
@[go_sem] theorem run_loadAw (h : Is16 (whiteOf (cellsOf w g))) : (loadT 38 (.pointer (some ⟨g, 17, none⟩))).run Try.prog w = .ok (.value (.agg (whiteOf (cellsOf w g)))) w := run_load_mid aggA rfl h
@[go_sem] theorem run_storePb (h : rowOk w g 33) (hs : Is16 cs) (hc : Ones cs) :
    (storeT 42 (.pointer (some ⟨g, 1, none⟩)) (.agg cs)).run Try.prog w = .ok .skip (w.setRow g (setBlack (cellsOf w g) cs)) := run_store_mid aggP h (by decide) hs hc
@[go_sem] theorem run_storePw (h : rowOk w g 33) (hs : Is16 cs) (hc : Ones cs) :
    (storeT 42 (.pointer (some ⟨g, 17, none⟩)) (.agg cs)).run Try.prog w = .ok .skip (w.setRow g (setWhite (cellsOf w g) cs)) := run_store_mid aggP h (by decide) hs hc
end

end Go.Proofs.Ytlmhnimpglookaa

namespace Go.Proofs.Ytlmhnimpglookaa
open Go.RowKit

theorem foldset (off : Nat) : ∀ (l : List Value) (k : Nat) (cs : Array Value) (i : Nat),
    ((l.zipIdx k).foldl (fun cs (p : Value × Nat) => cs.setIfInBounds (off + p.2) p.1) cs)[i]? = if off + k ≤ i ∧ i < off + k + l.length ∧ i < cs.size then l[i - (off + k)]? else cs[i]? := by
  intro l
  induction l with
  | nil => intro k cs i; simp; omega
  | cons x l ih =>
    intro k cs i
    rw [List.zipIdx_cons, List.foldl_cons, ih]
    simp only [Array.size_setIfInBounds, List.length_cons, Array.getElem?_setIfInBounds]
    by_cases h : off + k = i
    · subst h
      rw [if_neg (by omega), if_pos rfl]
      by_cases h2 : off + k < cs.size
      · rw [if_pos h2, if_pos ⟨by omega, by omega, h2⟩]; simp
      · rw [if_neg h2, if_neg (by omega), Array.getElem?_eq_none (by omega)]
    · rw [if_neg h]
      by_cases h2 : off + k ≤ i ∧ i < off + k + (l.length + 1) ∧ i < cs.size
      · rw [if_pos h2, if_pos (by omega), show i - (off + k) = (i - (off + (k + 1))) + 1 from by omega, List.getElem?_cons_succ]
      · rw [if_neg h2, if_neg (by omega)]

theorem splice_eq (off : Nat) (cs c : Array Value) : Array.foldl (fun cs (x : Value × Nat) => cs.setIfInBounds (off + x.snd) x.fst) cs c.zipIdx = (c.toList.zipIdx 0).foldl (fun cs (p : Value × Nat) => cs.setIfInBounds (off + p.2) p.1) cs := by
  rw [← Array.foldl_toList, Array.toList_zipIdx]
theorem splice_size (off : Nat) : ∀ (l : List Value) (k : Nat) (cs : Array Value), ((l.zipIdx k).foldl (fun cs (p : Value × Nat) => cs.setIfInBounds (off + p.2) p.1) cs).size = cs.size := by
  intro l
  induction l with
  | nil => intro k cs; rfl
  | cons x l ih => intro k cs; rw [List.zipIdx_cons, List.foldl_cons, ih, Array.size_setIfInBounds]

set_option maxRecDepth 100000 in
theorem builtD (n : Int) (f g : Nat → Nat) : Try.prog.built 44 [(0, .int .i64 n), (1, .agg (av f)), (2, .agg (av g))] = some (dv n f g) := by
  have hu : Try.prog.underlying 44 = some (.struct _) := Try.underlying44
  have hz : (Try.prog.info? 44).map (·.zero) = some (some (.agg (dv 0 (fun _ => 0) (fun _ => 0)))) := by rw [dv_zero]; kernel_rfl
  unfold Program.built
  rcases hi : Try.prog.info? 44 with _ | it
  · rw [hi] at hz; cases hz
  · rw [hi] at hz
    have hz' : it.zero = some (.agg (dv 0 (fun _ => 0) (fun _ => 0))) := by simpa using hz
    rw [hu]
    simp only [hz']
    generalize he : List.mapM (fun (f : Field) => Option.map (fun i => (f.offset, i.size)) (Try.prog.info? f.type)) _ = z
    have hz2 : z = some [(0, 1), (1, 16), (17, 16)] := he.symm.trans (by kernel_rfl)
    subst hz2
    simp only [Instr.fill, Value.cells, List.getElem?_toArray, List.getElem?_cons_zero, List.getElem?_cons_succ, av_size, splice_eq, splice_size, dv_size]
    rw [if_neg (by simp), if_neg (by simp), if_neg (by simp)]
    congr 1
    apply Array.ext_getElem?
    intro i
    have l1 : (av f).toList.length = 16 := by simpa using av_size f
    have l2 : (av g).toList.length = 16 := by simpa using av_size g
    rw [foldset, foldset, foldset, get_cases, get_cases, splice_size, splice_size, dv_size, l1, l2, Array.getElem?_toList, Array.getElem?_toList, av_cases, av_cases]
    simp only [List.length_cons, List.length_nil, Nat.zero_add, Nat.add_zero, Nat.sub_zero]
    by_cases h0 : i = 0
    · subst h0; simp
    · by_cases h1 : i < 17
      · rw [if_neg (by omega), if_pos (by omega), if_pos (by omega), if_pos (by omega), if_neg h0, if_pos h1]
      · by_cases h2 : i < 33
        · rw [if_pos (by omega), if_pos (by omega), if_pos h2, if_neg h0, if_neg h1]
        · rw [if_neg (by omega), if_neg (by omega), if_neg (by omega), if_neg h2, if_neg h2]
theorem builtD0 : Try.prog.built 44 [] = some (dv 0 (fun _ => 0) (fun _ => 0)) := by rw [dv_zero]; kernel_rfl

/-- what the operation 'build a dessin' does -/
def buildD (ps : Array (Nat × Value)) : Sem Next := do pure (.value (← Instr.build 44 ps))
@[go_sem ↓] theorem exec_buildD (ρ : Operand → Value) (dst : Option Tmp) (parts : Array (Nat × Operand)) (ty : TypeId) (pos : String) (after : Array Edge) (guard : Option (Nat × Bool)) :
    execOp ρ { dst, op := .build 44 parts, type := ty, pos, after, guard } = buildD (parts.map fun (i, x) => (i, ρ x)) := rfl
@[go_sem] theorem run_buildD (n : Int) (f g : Nat → Nat) (w : World) : (buildD #[(0, .int .i64 n), (1, .agg (av f)), (2, .agg (av g))]).run Try.prog w = .ok (.value (.agg (dv n f g))) w := by
  simp only [buildD, Sem.run_bind, run_build (P := Try.prog) w 44 #[(0, .int .i64 n), (1, .agg (av f)), (2, .agg (av g))] _ (builtD n f g), Result.andThen_ok, Sem.run_pure]
@[go_sem] theorem run_buildD0 (w : World) : (buildD #[]).run Try.prog w = .ok (.value (.agg (dv 0 (fun _ => 0) (fun _ => 0)))) w := by
  simp only [buildD, Sem.run_bind, run_build (P := Try.prog) w 44 #[] _ builtD0, Result.andThen_ok, Sem.run_pure]
set_option maxRecDepth 100000 in
theorem builtD1 (n : Int) : Try.prog.built 44 [(0, .int .i64 n)] = some (dv n (fun _ => 0) (fun _ => 0)) := by
  have hu : Try.prog.underlying 44 = some (.struct _) := Try.underlying44
  have hz : (Try.prog.info? 44).map (·.zero) = some (some (.agg (dv 0 (fun _ => 0) (fun _ => 0)))) := by rw [dv_zero]; kernel_rfl
  unfold Program.built
  rcases hi : Try.prog.info? 44 with _ | it
  · rw [hi] at hz; cases hz
  · rw [hi] at hz
    have hz' : it.zero = some (.agg (dv 0 (fun _ => 0) (fun _ => 0))) := by simpa using hz
    rw [hu]
    simp only [hz']
    generalize he : List.mapM (fun (f : Field) => Option.map (fun i => (f.offset, i.size)) (Try.prog.info? f.type)) _ = z
    have hz2 : z = some [(0, 1), (1, 16), (17, 16)] := he.symm.trans (by kernel_rfl)
    subst hz2
    simp only [Instr.fill, Value.cells, List.getElem?_toArray, List.getElem?_cons_zero, splice_eq, dv_size]
    rw [if_neg (by simp)]
    congr 1
    apply Array.ext_getElem?
    intro i
    rw [foldset, get_cases, get_cases, dv_size]
    by_cases h0 : i = 0
    · subst h0; simp
    · rw [if_neg (by simp; omega)]
      by_cases h2 : i < 33
      · rw [if_pos h2, if_pos h2, if_neg h0, if_neg h0]
      · rw [if_neg h2, if_neg h2]
@[go_sem] theorem run_buildD1 (n : Int) (w : World) : (buildD #[(0, .int .i64 n)]).run Try.prog w = .ok (.value (.agg (dv n (fun _ => 0) (fun _ => 0)))) w := by
  simp only [buildD, Sem.run_bind, run_build (P := Try.prog) w 44 #[(0, .int .i64 n)] _ (builtD1 n), Result.andThen_ok, Sem.run_pure]
end Go.Proofs.Ytlmhnimpglookaa

namespace Go.Proofs.Ytlmhnimpglookaa

/-- what has been met behind j steps from i -/
@[irreducible] def Mj (p : Nat → Nat) (m0 : Nat → Bool) (i j : Nat) : Nat → Bool := fun y => m0 y || ((List.range j).map fun a => it p a i).contains y
theorem Mj_zero (p : Nat → Nat) (m0 : Nat → Bool) (i : Nat) : Mj p m0 i 0 = m0 := by unfold Mj; funext y; simp
theorem Mj_step (p : Nat → Nat) (m0 : Nat → Bool) (i j : Nat) : mset (Mj p m0 i j) (it p j i) = Mj p m0 i (j + 1) := by
  unfold Mj
  funext y
  simp only [mset, List.range_succ, List.map_append, List.map_cons, List.map_nil, List.contains_eq_mem, List.mem_append, List.mem_singleton]
  rw [Bool.eq_iff_iff]; simp only [Bool.or_eq_true, beq_iff_eq, decide_eq_true_eq]
  constructor
  · rintro (a | b | c); exact .inr (.inr a); exact .inl b; exact .inr (.inl c)
  · rintro (b | c | a); exact .inr (.inl b); exact .inr (.inr c); exact .inl a
section
variable {p : Nat → Nat} {n k : Nat}
theorem met_closed (h : Bij p n) (hn : n ≤ 16) (hk : k < n) : ∀ y, y < n → cycs.met p k (p y) = true → cycs.met p k y = true := by
  intro y hy hmy
  obtain ⟨_, h2⟩ := cycs_spec h hn k (by omega)
  obtain ⟨x, hx, r⟩ := (h2 _).1 hmy
  exact (h2 _).2 ⟨x, hx, r.trans (R.symm h hy (R.step y))⟩
theorem met_it (h : Bij p n) (hn : n ≤ 16) (hk : k < n) (hb : cycs.met p k k = false) (j : Nat) : cycs.met p k (it p j k) = false := by
  induction j with
  | zero => exact hb
  | succ j ih =>
    rcases hc : cycs.met p k (it p (j + 1) k) with _ | _
    · rfl
    · have := met_closed h hn hk _ (h.it_lt j hk) hc; rw [ih] at this; cases this
theorem Mj_false (h : Bij p n) (hn : n ≤ 16) (hk : k < n) (hb : cycs.met p k k = false) {j : Nat} (hj : j < per p k) : Mj p (cycs.met p k) k j (it p j k) = false := by
  unfold Mj
  rw [met_it h hn hk hb, Bool.false_or, Bool.eq_false_iff]
  simp only [ne_eq, List.contains_iff_mem, List.mem_map, List.mem_range, not_exists, not_and]
  exact fun i hi e => it_distinct h hk hi hj e
theorem Mj_true (h : Bij p n) (hk : k < n) : Mj p (cycs.met p k) k (per p k) (it p (per p k) k) = true := by
  unfold Mj
  rw [(per_spec h hk).2.2.1]
  have : ((List.range (per p k)).map fun a => it p a k).contains k = true := by
    simp only [List.contains_iff_mem]
    exact (mem_orbit h hk).2 (R.refl k)
  rw [this, Bool.or_true]
theorem cycs_new (h : Bij p n) (hn : n ≤ 16) (hk : k < n) (hb : cycs.met p k k = false) : cycs p (k + 1) = cycs p k ++ [orbit p k] ∧ cycs.met p (k + 1) = Mj p (cycs.met p k) k (per p k) := by
  obtain ⟨e1, e2⟩ := cyc_orbit h hk (f := 17) (by omega) _ (met_closed h hn hk) hb
  have hne : orbit p k ≠ [] := by
    intro e
    have : k ∈ orbit p k := (mem_orbit h hk).2 (R.refl k)
    rw [e] at this; cases this
  refine ⟨by simp only [cycs, e1, if_neg hne], ?_⟩
  show cycMet p 17 (cycs.met p k) k = _
  rw [e2]
  unfold Mj orbit
  rfl
theorem cycs_old (hb : cycs.met p k k = true) : cycs p (k + 1) = cycs p k ∧ cycs.met p (k + 1) = cycs.met p k := by
  have ec : cyc p 17 (cycs.met p k) k = [] := by simp [cyc, hb]
  have em : cycMet p 17 (cycs.met p k) k = cycs.met p k := by simp [cycMet, hb]
  exact ⟨by simp only [cycs, ec, if_true], em⟩
/-- the first j numbers of the cycle of k -/
def orbTo (p : Nat → Nat) (k j : Nat) : List Nat := (List.range j).map fun a => it p a k
theorem orbTo_zero (p : Nat → Nat) (k : Nat) : orbTo p k 0 = [] := rfl
theorem orbTo_step (p : Nat → Nat) (k j : Nat) : orbTo p k (j + 1) = orbTo p k j ++ [it p j k] := by unfold orbTo; rw [List.range_succ, List.map_append]; rfl
theorem orbTo_length (p : Nat → Nat) (k j : Nat) : (orbTo p k j).length = j := by unfold orbTo; simp
theorem orbTo_per (p : Nat → Nat) (k : Nat) : orbTo p k (per p k) = orbit p k := rfl
theorem cycs_len_le (h : Bij p n) (hn : n ≤ 16) (hk : k ≤ n) : (cycs p k).length ≤ 16 := by
  rw [(cycs_spec h hn k hk).1, List.length_map]
  exact Nat.le_trans (List.length_filter_le _ _) (by simp; omega)
/-- both ways at once: how many steps the walk from k takes -/
theorem cyc_J (h : Bij p n) (hn : n ≤ 16) (hk : k < n) : ∃ J, J ≤ 16 ∧ (∀ j, j < J → Mj p (cycs.met p k) k j (it p j k) = false) ∧ Mj p (cycs.met p k) k J (it p J k) = true ∧
    cycs p (k + 1) = (if J = 0 then cycs p k else cycs p k ++ [orbTo p k J]) ∧ cycs.met p (k + 1) = Mj p (cycs.met p k) k J := by
  rcases hb : cycs.met p k k with _ | _
  · obtain ⟨e1, e2⟩ := cycs_new h hn hk hb
    have hp := per_spec h hk
    exact ⟨per p k, by omega, fun j hj => Mj_false h hn hk hb hj, Mj_true h hk, by rw [e1, if_neg (by omega), orbTo_per], e2⟩
  · obtain ⟨e1, e2⟩ := cycs_old hb
    exact ⟨0, by omega, by omega, by rw [Mj_zero]; exact hb, by rw [e1, if_pos rfl], by rw [e2, Mj_zero]⟩
end
end Go.Proofs.Ytlmhnimpglookaa

namespace Go.Proofs.Ytlmhnimpglookaa
open Go.RowKit

/-- a permutation of n numbers, as the document has it -/
def PermN (f : Nat → Nat) (n : Nat) : Prop := 1 ≤ n ∧ n ≤ 16 ∧ Bij f n ∧ ∀ i, n ≤ i → i < 16 → f i = 0
open Classical in
@[irreducible] noncomputable def permB (f : Nat → Nat) (n : Int) : Bool := decide (0 ≤ n ∧ PermN f n.toNat)
theorem permB_yes {f : Nat → Nat} {m : Nat} (h : PermN f m) : permB f (m : Int) = true := by unfold permB; simpa using h
theorem permB_no {f : Nat → Nat} {m : Nat} (h : ¬ PermN f m) : permB f (m : Int) = false := by unfold permB; simpa using h
theorem permB_out {f : Nat → Nat} {n : Int} (h : ¬ (1 ≤ n ∧ n ≤ 16)) : permB f n = false := by
  unfold permB; simp only [decide_eq_false_iff_not]
  rintro ⟨h0, h1, h2, _⟩
  omega
theorem permB_true {f : Nat → Nat} {n : Int} (h : permB f n = true) : ∃ m : Nat, n = (m : Int) ∧ PermN f m := by
  unfold permB at h; simp only [decide_eq_true_eq] at h
  exact ⟨n.toNat, by omega, h.2⟩

/-- what the first k entries have met -/
@[irreducible] def metk (f : Nat → Nat) (k : Nat) : Nat → Bool := fun y => (List.range k).any fun i => f i == y
theorem metk_iff (f : Nat → Nat) (k y : Nat) : metk f k y = true ↔ ∃ i, i < k ∧ f i = y := by unfold metk; simp
theorem metk_zero (f : Nat → Nat) : metk f 0 = fun _ => false := by unfold metk; rfl
theorem metk_step (f : Nat → Nat) (k : Nat) : mset (metk f k) (f k) = metk f (k + 1) := by
  funext y
  rw [Bool.eq_iff_iff]
  simp only [mset, Bool.or_eq_true, beq_iff_eq, metk_iff]
  constructor
  · rintro (rfl | ⟨i, hi, rfl⟩)
    · exact ⟨k, by omega, rfl⟩
    · exact ⟨i, by omega, rfl⟩
  · rintro ⟨i, hi, rfl⟩
    by_cases c : i = k
    · subst c; exact .inl rfl
    · exact .inr ⟨i, by omega, rfl⟩


theorem dart_yes (n : Int) (w : World) (h1 : 1 ≤ n) (h2 : n ≤ 16) : Calls Try.prog 50 #[.int .i64 n] w fun e w' => e = .returned (.bool true) ∧ w = w' := by
  go_enter Try.func50, Try.ntmps50
  go_wp2
  go_ret
  exact ⟨by simp, rfl⟩
theorem dart_no (n : Int) (w : World) (h : ¬ (1 ≤ n ∧ n ≤ 16)) : Calls Try.prog 50 #[.int .i64 n] w fun e w' => e = .returned (.bool false) ∧ w = w' := by
  by_cases h1 : 1 ≤ n
  · have h2 : ¬ n ≤ 16 := fun c => h ⟨h1, c⟩
    clear h
    go_enter Try.func50, Try.ntmps50
    go_wp2
    go_ret
    exact ⟨by simp, rfl⟩
  · clear h
    go_enter Try.func50, Try.ntmps50
    go_wp2
    go_ret
    exact ⟨by simp, rfl⟩

set_option maxRecDepth 100000 in
set_option maxHeartbeats 400000 in
theorem isPerm_any (f : Nat → Nat) (hf : ∀ i, f i < 256) (n : Int) (w : World) : Calls Try.prog 72 #[.agg (av f), .int .i64 n] w fun e w' => e = .returned (.bool (permB f n)) ∧ Below w.heap.size w w' := by
  by_cases hn : 1 ≤ n ∧ n ≤ 16
  · obtain ⟨m, rfl⟩ := Int.eq_ofNat_of_zero_le (show 0 ≤ n by omega)
    have hm1 : 1 ≤ m := by omega
    have hm2 : m ≤ 16 := by omega
    clear hn
    have hsl := slice_hi w.heap.size m hm2
    obtain ⟨o, ho, hsr⟩ := slice_lo w.heap.size m hm2
    have HO := hide ho; clear ho
    go_enter Try.func72, Try.ntmps72
    go_wp2_with (go_at_call 50; refine (dart_yes _ _ (by omega) (by omega)).mono ?_; rintro e w' ⟨rfl, rfl⟩)
    clear hsl
    rw [← bv_false]
    go_loopw [16] (fun i wr => ∃ k : Nat, k ≤ m ∧ i = .int .i64 k ∧ wr = (w.alloc (.cells (av f) 42)).alloc (.cells (bv (metk f k)) 88) ∧ (∀ i, i < k → f i < m) ∧ (∀ i j, i < j → j < k → f i ≠ f j))
      (fun i _ => m - (intOf i).toNat)
    case atStart => exact ⟨0, by omega, rfl, by rw [metk_zero], by omega, by omega⟩
    case round =>
      obtain ⟨k, hk, rfl, rfl, hb, hd⟩ := hrel
      have HB := hide hb; clear hb
      have HD := hide hd; clear hd
      by_cases hlt : k < m
      · have h1 := av_get f (i := k) (by omega)
        have h256 := hf k
        have HF := hide hf; clear hf
        by_cases hfm : f k < m
        · have h2 := bv_get (metk f k) (i := f k) (by omega)
          rcases hmk : metk f k (f k) with _ | _
          · rw [hmk] at h2
            have h3 := bv_set (metk f k) (f k)
            rw [metk_step] at h3
            have HM := hide hmk; clear hmk
            go_wp2
            go_roundw
            case rel =>
              refine ⟨k + 1, by omega, by go_num, rfl, fun i hi => ?_, fun i j hij hj e => ?_⟩
              · by_cases c : i = k
                · subst c; exact hfm
                · exact HB.out i (by omega)
              · by_cases c : j = k
                · subst c
                  have : metk f j (f j) = true := (metk_iff f j (f j)).2 ⟨i, hij, e⟩
                  rw [HM.out] at this; cases this
                · exact HD.out i j hij (by omega) e
            case measure => simp [intOf]; omega
          · rw [hmk] at h2
            have HM := hide hmk; clear hmk
            have hno : ¬ PermN f m := by
              rintro ⟨_, _, hbj, _⟩
              obtain ⟨i, hi, e⟩ := (metk_iff f k (f k)).1 HM.out
              have := hbj.2 i k (by omega) (by omega) e
              omega
            have HN := hide (permB_no hno); clear hno
            go_wp2
            go_ret
            exact ⟨by rw [HN.out]; rfl, ((Below.refl _ _).alloc (Nat.le_refl _) _).alloc (by simp) _⟩
        · have hno : ¬ PermN f m := by
            rintro ⟨_, _, hbj, _⟩
            exact hfm (hbj.1 k (by omega))
          have hd : decide (m ≤ f k) = true := by simp; omega
          have HN := hide (permB_no hno); clear hno
          go_wp2
          go_ret
          exact ⟨by rw [HN.out]; rfl, ((Below.refl _ _).alloc (Nat.le_refl _) _).alloc (by simp) _⟩
      · obtain rfl : k = m := by omega
        clear hlt hk
        go_wp2
        clear hsr
        go_loopw [35] (fun i wr => ∃ j : Nat, j ≤ 16 - k ∧ i = .int .i64 j ∧ wr = (w.alloc (.cells (av f) 42)).alloc (.cells (bv (metk f k)) 88) ∧ (∀ i, i < j → f (k + i) = 0))
          (fun i _ => 16 - k - (intOf i).toNat)
        case atStart => exact ⟨0, by omega, rfl, rfl, by omega⟩
        case round =>
          obtain ⟨j, hj, rfl, rfl, hz⟩ := hrel
          have HZ := hide hz; clear hz
          by_cases hlt : j < 16 - k
          · have hk16 : ¬ k = 16 := by omega
            obtain rfl : k = o := (HO.out (by omega)).symm
            have h1 := av_get f (i := k + j) (by omega)
            have h256 := hf (k + j)
            clear hf
            have hw : ((16 - k : Nat) : Int) = 16 - (k : Int) := by omega
            by_cases hf0 : f (k + j) = 0
            · have h0 : ((f (k + j) : Int) != 0) = false := by simp [hf0]
              have H0 := hide hf0; clear hf0
              go_wp2
              go_roundw
              case rel =>
                refine ⟨j + 1, by omega, by go_num, by first | rfl | trivial, fun i hi => ?_⟩
                by_cases c : i = j
                · subst c; exact H0.out
                · exact HZ.out i (by omega)
              case measure => simp [intOf]; omega
            · have h0 : ((f (k + j) : Int) != 0) = true := by simp [hf0]
              have hno : ¬ PermN f k := by
                rintro ⟨_, _, _, hz0⟩
                exact hf0 (hz0 (k + j) (by omega) (by omega))
              have HN := hide (permB_no hno); clear hno hf0
              go_wp2
              go_ret
              exact ⟨by rw [HN.out]; rfl, ((Below.refl _ _).alloc (Nat.le_refl _) _).alloc (by simp) _⟩
          · obtain rfl : j = 16 - k := by omega
            have hyes : PermN f k := by
              refine ⟨hm1, hm2, ⟨HB.out, fun x y hx hy e => ?_⟩, fun i h1 h2 => ?_⟩
              · rcases Nat.lt_trichotomy x y with c | c | c
                · exact absurd e (HD.out x y c hy)
                · exact c
                · exact absurd e.symm (HD.out y x c hx)
              · have := HZ.out (i - k) (by omega)
                rwa [show k + (i - k) = i from by omega] at this
            have HN := hide (permB_yes hyes); clear hyes
            go_wp2
            go_ret
            exact ⟨by rw [HN.out]; rfl, ((Below.refl _ _).alloc (Nat.le_refl _) _).alloc (by simp) _⟩
  · rw [permB_out hn]
    go_enter Try.func72, Try.ntmps72
    go_wp2_with (go_at_call 50; refine (dart_no _ _ hn).mono ?_; rintro e w' ⟨rfl, rfl⟩)
    go_ret
    exact ⟨rfl, (Below.refl _ _).alloc (Nat.le_refl _) _⟩

end Go.Proofs.Ytlmhnimpglookaa

namespace Go.Proofs.Ytlmhnimpglookaa
open Go.RowKit

theorem info64 : (Try.prog.info? 2).map (fun i => (i.zero, i.size, i.bytes)) = some (some (.int .i64 0), 1, 8) := by kernel_rfl
theorem infoSl : (Try.prog.info? 22).map (fun i => (i.zero, i.size, i.bytes)) = some (some (.slice none 0 0), 1, 24) := by kernel_rfl

-- left out here: loop.example/g01200/impl.cycleList
end Go.Proofs.Ytlmhnimpglookaa

namespace Go.Proofs.Ytlmhnimpglookaa
open Go.RowKit

def pInts (v : Value) (l : List Nat) : Part := pRow v 2 1 l.length (nums l)
theorem nums_length (l : List Nat) : (nums l).length = l.length := by unfold nums; simp
theorem nums_at {l : List Nat} {k : Nat} (hk : k < l.length) : (nums l)[k]? = some (.int .i64 (l[k] : Nat)) := by unfold nums; simp [hk]
theorem Holds.ints {w0 w : World} {L : List Part} (h : Holds w0 w L) (i : Nat) {v : Value} {l : List Nat} (hi : L[i]? = some (pInts v l)) {k : Nat} (hk : k < l.length) :
    ∃ g c, v = .slice (some ⟨g, 0, none⟩) l.length c ∧ g < w.heap.size ∧ w.cell? ⟨g, k, none⟩ = some (.int .i64 (l[k] : Nat)) ∧ w.frozen? ⟨g, k, none⟩ = false := by
  obtain ⟨g, c, h1, h2, h3, h4, h5, h6, h7⟩ := row_at (h.row i hi) (by omega : 0 < l.length)
  exact ⟨g, c, h1, h3, h6 _ _ (nums_at hk), h7 k⟩
theorem Holds.intsForm {w0 w : World} {L : List Part} (h : Holds w0 w L) (i : Nat) {v : Value} {l : List Nat} (hi : L[i]? = some (pInts v l)) : ∃ A c, v = .slice A l.length c := own_slice (h.row i hi)
theorem Holds.own1 {w0 w : World} {L : List Part} (h : Holds w0 w L) (i : Nat) {v : Value} {l : List Nat} (hi : L[i]? = some (pInts v l)) : Own1 w0.heap.size w v l := h.row i hi
theorem nums_one {l : List Nat} : ∀ u ∈ nums l, u.oneCell' = true := by
  intro u hu
  obtain ⟨x, _, rfl⟩ := List.mem_map.1 hu
  rfl
/-- one number more -/
theorem appI {ops : Array Oper} {rest : List Oper} {o : Oper} {a : Act} {Q : Exit → Act → World → Prop} {w0 w : World} {L : List Part} (H : Holds w0 w L) (k : Nat) {v : Value} {l : List Nat} (hk : L[k]? = some (pInts v l))
    (g : Nat) (news : List Nat) (t : TypeId) (hc : w.heap[g]? = some (.cells (nums news).toArray t (0, 0))) (hb : l.length + news.length ≤ 1000000)
    (hgd : o.guard = none) (s x : Operand)
    (ho : o.op = .call { callee := .builtin .append, args := #[s, x], argTypes := #[22, 22] })
    (hs : a.eval s = v) (hx : a.eval x = .slice (some ⟨g, 0, none⟩) news.length news.length)
    (h : ∀ v' w', Holds w0 w' (L.set k (pInts v' (l ++ news))) → wpList Try.prog ops Q rest (a.put o.dst v') w') : wpList Try.prog ops Q (o :: rest) a w := by
  obtain ⟨i0, hi, hz0, hz1, hz2⟩ := info_parts info64
  refine appH (P := Try.prog) hgd s x 22 ho 2 i0 (.int .i64 0) 1 8 Try.underlying22 hi hz0 hz1 hz2 rfl (by decide) v l.length (nums l) hs H k hk ⟨g, 0, none⟩ news.length news.length (nums news) hx
    (by rw [nums_length]; omega) (fun j u hu => ?_) nums_one (by unfold maxLen; omega) (by omega) fun v' w' h1 => h v' w' ?_
  · have : ((⟨g, 0, none⟩ : Addr).add j) = ⟨g, j, none⟩ := by simp [Addr.add]; exact Eq.symm
    rw [this, cell_of_cells, cellsOf_heap hc]
    simpa using hu
  · unfold pInts at *
    have e : nums (l ++ news) = nums l ++ nums news := by unfold nums; simp
    rw [List.length_append, e]
    exact h1
end Go.Proofs.Ytlmhnimpglookaa

namespace Go.Proofs.Ytlmhnimpglookaa
open Go.RowKit

theorem Own1.len {B : Nat} {w : World} {A : Option Addr} {n c : Nat} {l : List Nat} (h : Own1 B w (.slice A n c) l) : n = l.length := by
  rcases h.2 with ⟨e, h0⟩ | ⟨g, cap, cur, e, _⟩
  · injection e with _ e _; omega
  · injection e
theorem Own1.at {B : Nat} {w : World} {A : Option Addr} {n c k : Nat} {l : List Nat} (h : Own1 B w (.slice A n c) l) (hk : k < l.length) :
    ∃ g, A = some ⟨g, 0, none⟩ ∧ B ≤ g ∧ g < w.heap.size ∧ w.cell? ⟨g, k, none⟩ = some (.int .i64 (l[k] : Nat)) ∧ w.frozen? ⟨g, k, none⟩ = false := by
  rcases h.2 with ⟨_, h0⟩ | ⟨g, cap, cur, e, hB, hh, h1, h2, h3, h4⟩
  · omega
  · injection e with e1 e2 e3
    have hlt : g < w.heap.size := (Array.getElem?_eq_some_iff.1 hh).1
    refine ⟨g, e1, hB, hlt, ?_, by simp [World.frozen?, hh]⟩
    rw [cell_of_cells, cellsOf_heap hh]
    have : (cur.toList.take (l.length * 1))[k]? = (nums l)[k]? := by rw [h4]
    rw [List.getElem?_take_of_lt (by omega), Array.getElem?_toList] at this
    rw [this]
    simp [nums, hk]

set_option maxRecDepth 100000 in
set_option maxHeartbeats 400000 in
theorem eqInt64S_same (l : List Nat) (A A' : Option Addr) (c c' B B' : Nat) (hl : l.length ≤ 140737488351232) (w : World) (h : Own1 B w (.slice A l.length c) l) (h' : Own1 B' w (.slice A' l.length c') l) :
    Calls Try.prog 18 #[.slice A l.length c, .slice A' l.length c'] w fun e w' => e = .returned (.bool true) ∧ Below w.heap.size w w' := by
  have H := hide h; clear h
  have H' := hide h'; clear h'
  have hne : ((l.length : Int) != (l.length : Int)) = false := by simp
  go_enter Try.func18, Try.ntmps18
  go_wp2
  go_loopw [5] (fun i wr => ∃ k : Nat, k ≤ l.length ∧ i = .int .i64 k ∧ Below w.heap.size w wr) (fun i _ => l.length - (intOf i).toNat)
  case atStart => exact ⟨0, by omega, rfl, Below.refl _ _⟩
  case round =>
    obtain ⟨k, hk, rfl, hb⟩ := hrel
    by_cases hlt : k < l.length
    · obtain ⟨g, rfl, _, hg, h1, _⟩ := H.out.at hlt
      obtain ⟨g', rfl, _, hg', h1', _⟩ := H'.out.at hlt
      have c1 : wr.cell? ⟨g, k, none⟩ = some (.int .i64 (l[k] : Nat)) := (hb.cell (p := ⟨g, k, none⟩) hg).trans h1
      have c1' : wr.cell? ⟨g', k, none⟩ = some (.int .i64 (l[k] : Nat)) := (hb.cell (p := ⟨g', k, none⟩) hg').trans h1'
      clear h1 h1'
      generalize l[k] = x at *
      have hx : ((x : Int) != (x : Int)) = false := by simp
      go_wp2
      go_region
      all_goals go_wp2
      all_goals go_roundw
      case rel => exact ⟨k + 1, by omega, by go_num, hb.drew⟩
      case measure => simp [intOf]; omega
    · go_wp2
      go_ret
      exact ⟨rfl, hb⟩

/-- k, k + 1, .. -/
def marks (k n : Nat) : List Nat := (List.range n).map fun i => k + i
theorem marks_length (k n : Nat) : (marks k n).length = n := by unfold marks; simp
theorem marks_get (k n i : Nat) (h : i < n) : (marks k n)[i]? = some (k + i) := by unfold marks; simp [h]

theorem own_set {B : Nat} {w : World} {g n c k x : Nat} {l : List Nat} (h : Own1 B w (.slice (some ⟨g, 0, none⟩) n c) l) (hk : k < l.length) : Own1 B (w.setCell ⟨g, k, none⟩ (.int .i64 (x : Nat))) (.slice (some ⟨g, 0, none⟩) n c) (l.set k x) := by
  unfold Own1 at *
  rcases h.2 with ⟨e, _⟩ | ⟨g', cap, cur, e, hB, hh, h1, h2, h3, h4⟩
  · cases e
  · injection e with e1 e2 e3
    have : g = g' := by injection e1 with e1; injection e1
    subst this
    refine ⟨by simp [nums], .inr ⟨g, cap, cur.setIfInBounds k (.int .i64 (x : Nat)), by rw [e2, e3, List.length_set], hB, heap_setCell_same w g k cur _ _ hh, by simpa using h1, h2, by simpa using h3, ?_⟩⟩
    simp only [Array.toList_setIfInBounds, List.length_set, List.take_set]
    rw [h4]
    simp [nums, List.map_set]

set_option maxRecDepth 100000 in
set_option maxHeartbeats 400000 in
theorem markInt64S_any (l : List Nat) (A : Option Addr) (c B k0 : Nat) (hl : l.length ≤ 140737488351232) (hk0 : k0 ≤ 140737488351232) (w : World) (h : Own1 B w (.slice A l.length c) l) :
    Calls Try.prog 54 #[.slice A l.length c, .int .i64 k0] w fun e w' => e = .returned (.int .i64 (k0 + l.length : Nat)) ∧ w.grownBy w' (Value.slice A l.length c).ownBlock ∧ Own1 B w' (.slice A l.length c) (marks k0 l.length) := by
  go_enter Try.func54, Try.ntmps54
  go_wp2
  go_loopw [1, 5] (fun q i wr => ∃ k : Nat, k ≤ l.length ∧ i = .int .i64 k ∧ q = .int .i64 (k0 + k : Nat) ∧ w.grownBy wr (Value.slice A l.length c).ownBlock ∧ Own1 B wr (.slice A l.length c) (marks k0 k ++ l.drop k)) (fun _ i _ => l.length - (intOf i).toNat)
  case atStart => exact ⟨0, by omega, rfl, by simp, grown_refl _ _, by simpa [marks] using h⟩
  case round =>
    obtain ⟨k, hk, rfl, rfl, hg, ho⟩ := hrel
    by_cases hlt : k < l.length
    · have hlen : (marks k0 k ++ l.drop k).length = l.length := by rw [List.length_append, marks_length, List.length_drop]; omega
      obtain ⟨g, hA, hgB, hglt, h1, h2⟩ := ho.at (k := k) (by omega)
      have hs := own_set (x := k0 + k) (hA ▸ ho) (k := k) (by omega)
      have hset : (marks k0 k ++ l.drop k).set k (k0 + k) = marks k0 (k + 1) ++ l.drop (k + 1) := by
        rw [List.set_append_right _ _ (by rw [marks_length]; omega), marks_length, Nat.sub_self, List.drop_eq_getElem_cons hlt, List.set_cons_zero]
        unfold marks
        rw [List.range_succ, List.map_append, List.append_assoc]; rfl
      rw [hset] at hs
      generalize (marks k0 k ++ l.drop k)[k] = y at h1
      have hg2 : w.grownBy (wr.setCell ⟨g, k, none⟩ (.int .i64 (k0 + k : Nat))) (Value.slice A l.length c).ownBlock := by rw [hA]; rw [hA] at hg; exact grown_setCell hg
      subst hA
      have HS := hide hs; clear hs
      have HG := hide hg2; clear hg2
      clear hset hlen ho hg
      have hcast : ((k0 + k : Nat) : Int) = (k0 : Int) + (k : Int) := by omega
      rw [hcast] at HS HG
      rw [hcast]
      clear hcast
      go_wp2
      go_roundw
      case rel => exact ⟨k + 1, by omega, by go_num, by go_num, HG.out, HS.out⟩
      case measure => simp [intOf]; omega
    · obtain rfl : k = l.length := by omega
      go_wp2
      go_ret
      exact ⟨rfl, hg, by simpa using ho⟩

set_option maxRecDepth 100000 in
set_option maxHeartbeats 400000 in
theorem heldInt64S_any (n : Nat) (A : Option Addr) (c B k0 : Nat) (hl : n ≤ 140737488351232) (hk0 : k0 ≤ 140737488351232) (w : World) (h : Own1 B w (.slice A n c) (marks k0 n)) :
    Calls Try.prog 55 #[.slice A n c, .int .i64 k0] w fun e w' => e = .returned (.int .i64 (k0 + n : Nat)) ∧ Below w.heap.size w w' := by
  have H := hide h; clear h
  go_enter Try.func55, Try.ntmps55
  go_wp2
  go_loopw [1, 5] (fun q i wr => ∃ k : Nat, k ≤ n ∧ i = .int .i64 k ∧ q = .int .i64 (k0 + k : Nat) ∧ wr = w) (fun _ i _ => n - (intOf i).toNat)
  case atStart => exact ⟨0, by omega, rfl, by simp, rfl⟩
  case round =>
    obtain ⟨k, hk, rfl, rfl, rfl⟩ := hrel
    have hcast : ((k0 + k : Nat) : Int) = (k0 : Int) + (k : Int) := by omega
    by_cases hlt : k < n
    · have hlen : k < (marks k0 n).length := by rw [marks_length]; exact hlt
      obtain ⟨g, rfl, _, _, h1, _⟩ := H.out.at hlen
      have hv : (marks k0 n)[k] = k0 + k := by have := marks_get k0 n k hlt; rw [List.getElem?_eq_getElem hlen] at this; exact Option.some.inj this
      rw [hv, hcast] at h1
      rw [hcast]
      clear hv hcast hlen
      have hne : (((k0 : Int) + (k : Int)) != ((k0 : Int) + (k : Int))) = false := by simp
      go_wp2
      go_roundw
      case rel => exact ⟨k + 1, by omega, by go_num, by go_num, by first | rfl | trivial⟩
      case measure => simp [intOf]; omega
    · obtain rfl : k = n := by omega
      clear hcast
      go_wp2
      go_ret
      exact ⟨rfl, Below.refl _ _⟩

/-- a list of lists whose slices are known -/
structure Own2v (B : Nat) (w : World) (v : Value) (vs : List Value) (ls : List (List Nat)) : Prop where
  len : vs.length = ls.length
  row : w.ownsRow B 22 1 v vs.length vs
  each : ∀ (i : Nat) (u : Value) (l : List Nat), vs[i]? = some u → ls[i]? = some l → Own1 B w u l
  dist : ∀ (i j : Nat) (u u' : Value), i < j → vs[i]? = some u → vs[j]? = some u' → u.ownBlock = none ∨ u.ownBlock ≠ u'.ownBlock
theorem own2v {B : Nat} {w : World} {v : Value} {ls : List (List Nat)} : Own2 B w v ls ↔ ∃ vs, Own2v B w v vs ls := ⟨fun ⟨vs, a, b, c, d⟩ => ⟨vs, a, b, c, d⟩, fun ⟨vs, h⟩ => ⟨vs, h.len, h.row, h.each, h.dist⟩⟩
theorem Own2v.below {B C : Nat} {w w' : World} {v : Value} {vs : List Value} {ls : List (List Nat)} (h : Own2v B w v vs ls) (hb : Below C w w') (hC : w.heap.size ≤ C) : Own2v B w' v vs ls := by
  have hg := grown_of_below (hb.mono hC) none
  have far : ∀ u : Value, u.ownBlock = none ∨ u.ownBlock ≠ none := fun u => Classical.em _
  exact ⟨h.len, h.row.kept hg (far _), fun i u l a b => (h.each i u l a b).kept hg (far _), h.dist⟩
/-- what lies below C stays, whatever is written from C on -/
theorem Own2v.lower {B C : Nat} {w w' : World} {v : Value} {vs : List Value} {ls : List (List Nat)} (h : Own2v B w v vs ls) (hb : Below C w w') (hC : ∀ k, v.ownBlock = some k → k < C) (hC' : ∀ (i : Nat) (u : Value), vs[i]? = some u → ∀ k, u.ownBlock = some k → k < C) : Own2v B w' v vs ls := by
  have key : ∀ {e : TypeId} {s n : Nat} {u : Value} {xs : List Value}, w.ownsRow B e s u n xs → (∀ k, u.ownBlock = some k → k < C) → w'.ownsRow B e s u n xs := by
    intro e s n u xs hu hk
    refine ⟨hu.1, ?_⟩
    rcases hu.2 with c | ⟨g, cap, cur, rfl, h1, h2, h3⟩
    · exact .inl c
    · exact .inr ⟨g, cap, cur, rfl, h1, by rw [hb.block g (hk g rfl)]; exact h2, h3⟩
  exact ⟨h.len, key h.row hC, fun i u l a b => key (h.each i u l a b) (hC' i u a), h.dist⟩
/-- the i-th slice out of the row -/
theorem Own2v.at {B : Nat} {w : World} {A : Option Addr} {n c i : Nat} {vs : List Value} {ls : List (List Nat)} (h : Own2v B w (.slice A n c) vs ls) (hi : i < ls.length) :
    ∃ g A' c', A = some ⟨g, 0, none⟩ ∧ g < w.heap.size ∧ vs[i]? = some (.slice A' ls[i].length c') ∧ w.cell? ⟨g, i, none⟩ = some (.slice A' ls[i].length c') ∧ Own1 B w (.slice A' ls[i].length c') ls[i] := by
  have hv : i < vs.length := by rw [h.len]; exact hi
  have h1 := h.each i _ _ (List.getElem?_eq_getElem hv) (List.getElem?_eq_getElem hi)
  obtain ⟨A', c', e⟩ := own_slice h1
  rcases h.row.2 with ⟨_, h0⟩ | ⟨g, cap, cur, e', hB, hh, h2, h3, h4, h5⟩
  · omega
  · injection e' with e1 e2 e3
    have hlt : g < w.heap.size := (Array.getElem?_eq_some_iff.1 hh).1
    refine ⟨g, A', c', e1, hlt, by rw [List.getElem?_eq_getElem hv, e], ?_, by rw [← e]; exact h1⟩
    rw [cell_of_cells, cellsOf_heap hh]
    have : (cur.toList.take (vs.length * 1))[i]? = vs[i]? := by rw [h5]
    rw [List.getElem?_take_of_lt (by omega), Array.getElem?_toList] at this
    rw [this, List.getElem?_eq_getElem hv, e]
/-- one row is turned -/
theorem Own2v.upd {B i : Nat} {w w' : World} {v u : Value} {l : List Nat} {vs : List Value} {ls : List (List Nat)} (h : Own2v B w v vs ls) (hi : i < ls.length) (hu : vs[i]? = some u) (hg : w.grownBy w' u.ownBlock) (hn : Own1 B w' u l) : Own2v B w' v vs (ls.set i l) := by
  have hiu := h.each i u _ hu (List.getElem?_eq_getElem hi)
  refine ⟨by rw [List.length_set]; exact h.len, h.row.kept hg (own_ne h.row hiu (by decide)), ?_, h.dist⟩
  intro j x m hx hm
  by_cases e : i = j
  · subst e
    rw [hu] at hx
    simp only [Option.some.injEq] at hx
    subst hx
    rw [List.getElem?_set_self hi] at hm
    simp only [Option.some.injEq] at hm
    subst hm
    exact hn
  · rw [List.getElem?_set_ne e] at hm
    refine (h.each j x m hx hm).kept hg ?_
    rcases Nat.lt_or_ge i j with c | c
    · rcases hb : x.ownBlock with _ | k
      · exact .inl rfl
      · refine .inr fun e' => ?_
        rcases h.dist i j u x c hu hx with d | d
        · rw [d] at e'; cases e'
        · exact d (by rw [hb, e'])
    · exact h.dist j i x u (by omega) hx hu

def total (ls : List (List Nat)) : Nat := (ls.map List.length).sum
/-- all numbers counted through -/
def marksL (k : Nat) : List (List Nat) → List (List Nat)
  | [] => []
  | l :: ls => marks k l.length :: marksL (k + l.length) ls
theorem marksL_length (ls : List (List Nat)) : ∀ k, (marksL k ls).length = ls.length := by
  induction ls with
  | nil => intro k; rfl
  | cons l ls ih => intro k; simp [marksL, ih]
theorem marksL_get (ls : List (List Nat)) : ∀ (k i : Nat) (h : i < ls.length), (marksL k ls)[i]? = some (marks (k + total (ls.take i)) ls[i].length) := by
  induction ls with
  | nil => intro k i h; simp at h
  | cons l ls ih =>
    intro k i h
    rcases i with _ | i
    · simp [marksL, total]
    · simp only [List.length_cons] at h
      simp only [marksL, List.getElem?_cons_succ, List.take_succ_cons, List.getElem_cons_succ]
      rw [ih (k + l.length) i (by omega)]
      simp [total, Nat.add_assoc]
theorem total_take_succ (ls : List (List Nat)) (i : Nat) (h : i < ls.length) : total (ls.take (i + 1)) = total (ls.take i) + ls[i].length := by
  unfold total
  rw [List.take_succ_eq_append_getElem h, List.map_append, List.sum_append]
  simp
theorem total_take_le (ls : List (List Nat)) (i : Nat) : total (ls.take i) ≤ total ls := by
  unfold total
  conv => rhs; rw [← List.take_append_drop i ls, List.map_append, List.sum_append]
  omega
theorem len_le_total (ls : List (List Nat)) (i : Nat) (h : i < ls.length) : ls[i].length ≤ total ls := by
  have := total_take_succ ls i h
  have := total_take_le ls (i + 1)
  omega

set_option maxRecDepth 100000 in
set_option maxHeartbeats 400000 in
theorem markInt64SS_any (ls : List (List Nat)) (A : Option Addr) (c B k0 : Nat) (vs : List Value) (hl : total ls ≤ 1000000) (hl2 : ls.length ≤ 1000000) (hk0 : k0 ≤ 1000000) (w : World) (hBw : B ≤ w.heap.size) (h : Own2v B w (.slice A ls.length c) vs ls) :
    Calls Try.prog 22 #[.slice A ls.length c, .int .i64 k0] w fun e w' => e = .returned (.int .i64 (k0 + total ls : Nat)) ∧ Below B w w' ∧ w.heap.size ≤ w'.heap.size ∧ Own2v B w' (.slice A ls.length c) vs (marksL k0 ls) := by
  go_enter Try.func22, Try.ntmps22
  go_wp2
  go_loopw [1, 5] (fun q i wr => ∃ k : Nat, k ≤ ls.length ∧ i = .int .i64 k ∧ q = .int .i64 (k0 + total (ls.take k) : Nat) ∧ Below B w wr ∧ Own2v B wr (.slice A ls.length c) vs ((marksL k0 ls).take k ++ ls.drop k)) (fun _ i _ => ls.length - (intOf i).toNat)
  case atStart => exact ⟨0, by omega, rfl, by simp [total], Below.refl _ _, by simpa using h⟩
  case round =>
    obtain ⟨k, hk, rfl, rfl, hb, ho⟩ := hrel
    have ht := total_take_le ls k
    by_cases hlt : k < ls.length
    · have hml : ((marksL k0 ls).take k).length = k := by rw [List.length_take, marksL_length]; omega
      have hlen : k < ((marksL k0 ls).take k ++ ls.drop k).length := by rw [List.length_append, hml, List.length_drop]; omega
      have hge : ((marksL k0 ls).take k ++ ls.drop k)[k] = ls[k] := by
        rw [List.getElem_append_right (by omega)]
        simp only [hml, Nat.sub_self, List.getElem_drop, Nat.add_zero]
      obtain ⟨g, A', c', rfl, hg, hv, hc, h1⟩ := ho.at hlen
      rw [hge] at hv hc h1
      have hle := len_le_total ls k hlt
      have hts := total_take_succ ls k hlt
      have hset : ((marksL k0 ls).take k ++ ls.drop k).set k (marks (k0 + total (ls.take k)) ls[k].length) = (marksL k0 ls).take (k + 1) ++ ls.drop (k + 1) := by
        have hkm : k < (marksL k0 ls).length := by rw [marksL_length]; exact hlt
        have e : (marksL k0 ls)[k] = marks (k0 + total (ls.take k)) ls[k].length := by
          have := marksL_get ls k0 k hlt
          rw [List.getElem?_eq_getElem hkm] at this
          exact Option.some.inj this
        rw [List.set_append_right _ _ (by omega), hml, Nat.sub_self, List.drop_eq_getElem_cons hlt, List.set_cons_zero, List.take_succ_eq_append_getElem hkm, e, List.append_assoc]
        rfl
      have C := hide (markInt64S_any ls[k] A' c' B (k0 + total (ls.take k)) (by omega) (by omega) wr h1)
      have hrow : ∀ x, (Value.slice A' ls[k].length c').ownBlock = some x → B ≤ x := fun x hx => (World.ownsRow.lt h1 x hx).1
      have hBr : B ≤ wr.heap.size := Nat.le_trans hBw hb.size
      clear hge
      have HSET := hide hset; clear hset
      have HV := hide hv; clear hv
      have HO := hide ho; clear ho
      have HT := hide hts; clear hts
      have H1 := hide h1; clear h1
      have HR := hide hrow; clear hrow
      have HLEN := hide hlen; clear hlen
      clear hml
      go_wp2_with fail
      refine C.out.mono ?_
      rintro e w1 ⟨rfl, hg1, hn⟩
      have hO := HO.out.upd HLEN.out HV.out hg1 hn
      rw [HSET.out] at hO
      have hbw : Below B w w1 := below_grown hb hg1 hBr HR.out
      have HOO := hide hO; clear hO
      clear hn hg1 hc
      go_wp2
      go_roundw
      case rel => exact ⟨k + 1, by omega, by go_num, by rw [HT.out]; go_num, hbw, HOO.out⟩
      case measure => simp [intOf]; omega
    · obtain rfl : k = ls.length := by omega
      go_wp2
      go_ret
      exact ⟨by simp, hb, hb.size, by have := ho; rwa [List.drop_length, List.append_nil, List.take_of_length_le (by rw [marksL_length]; omega)] at this⟩

set_option maxRecDepth 100000 in
set_option maxHeartbeats 400000 in
theorem heldInt64SS_any (ls : List (List Nat)) (A : Option Addr) (c B k0 : Nat) (vs : List Value) (hl : total ls ≤ 1000000) (hl2 : ls.length ≤ 1000000) (hk0 : k0 ≤ 1000000) (w : World) (h : Own2v B w (.slice A ls.length c) vs (marksL k0 ls)) :
    Calls Try.prog 23 #[.slice A ls.length c, .int .i64 k0] w fun e w' => e = .returned (.int .i64 (k0 + total ls : Nat)) ∧ Below w.heap.size w w' := by
  have H := hide h; clear h
  go_enter Try.func23, Try.ntmps23
  go_wp2
  go_loopw [1, 5] (fun q i wr => ∃ k : Nat, k ≤ ls.length ∧ i = .int .i64 k ∧ q = .int .i64 (k0 + total (ls.take k) : Nat) ∧ Below w.heap.size w wr) (fun _ i _ => ls.length - (intOf i).toNat)
  case atStart => exact ⟨0, by omega, rfl, by simp [total], Below.refl _ _⟩
  case round =>
    obtain ⟨k, hk, rfl, rfl, hb⟩ := hrel
    have ht := total_take_le ls k
    by_cases hlt : k < ls.length
    · have hmk : k < (marksL k0 ls).length := by rw [marksL_length]; exact hlt
      have e : (marksL k0 ls)[k] = marks (k0 + total (ls.take k)) ls[k].length := by
        have := marksL_get ls k0 k hlt
        rw [List.getElem?_eq_getElem hmk] at this
        exact Option.some.inj this
      obtain ⟨g, A', c', rfl, hg, hv, hc, h1⟩ := (H.out.below hb (Nat.le_refl _)).at hmk
      rw [e, marks_length] at hc h1
      clear hv
      have hle := len_le_total ls k hlt
      have hts := total_take_succ ls k hlt
      have C := hide (heldInt64S_any ls[k].length A' c' B (k0 + total (ls.take k)) (by omega) (by omega) wr h1)
      have HT := hide hts; clear hts
      clear e hmk h1
      have hneg : decide (((k0 + total (ls.take k) + ls[k].length : Nat) : Int) < 0) = false := by simp; omega
      go_wp2_with fail
      refine C.out.mono ?_
      rintro e w1 ⟨rfl, hb1⟩
      have hbb := hb.trans (hb1.mono hb.size)
      clear hc hb1
      go_wp2
      go_roundw
      case rel => exact ⟨k + 1, by omega, by go_num, by rw [HT.out]; go_num, hbb⟩
      case measure => simp [intOf]; omega
    · obtain rfl : k = ls.length := by omega
      go_wp2
      go_ret
      exact ⟨by simp, hb⟩

set_option maxRecDepth 100000 in
set_option maxHeartbeats 400000 in
theorem eqInt64SS_same (ls : List (List Nat)) (A A' : Option Addr) (c c' B B' : Nat) (vs vs' : List Value) (hl : total ls ≤ 1000000) (hl2 : ls.length ≤ 1000000) (w : World)
    (h : Own2v B w (.slice A ls.length c) vs ls) (h' : Own2v B' w (.slice A' ls.length c') vs' ls) :
    Calls Try.prog 21 #[.slice A ls.length c, .slice A' ls.length c'] w fun e w' => e = .returned (.bool true) ∧ Below w.heap.size w w' := by
  have H := hide h; clear h
  have H' := hide h'; clear h'
  have hne : ((ls.length : Int) != (ls.length : Int)) = false := by simp
  go_enter Try.func21, Try.ntmps21
  go_wp2
  go_loopw [5] (fun i wr => ∃ k : Nat, k ≤ ls.length ∧ i = .int .i64 k ∧ Below w.heap.size w wr) (fun i _ => ls.length - (intOf i).toNat)
  case atStart => exact ⟨0, by omega, rfl, Below.refl _ _⟩
  case round =>
    obtain ⟨k, hk, rfl, hb⟩ := hrel
    by_cases hlt : k < ls.length
    · obtain ⟨g, B1, b1, rfl, hg, _, hc, h1⟩ := H.out.at hlt
      obtain ⟨g', B2, b2, rfl, hg', _, hc', h1'⟩ := H'.out.at hlt
      have c1 : wr.cell? ⟨g, k, none⟩ = some (.slice B1 ls[k].length b1) := (hb.cell (p := ⟨g, k, none⟩) hg).trans hc
      have c2 : wr.cell? ⟨g', k, none⟩ = some (.slice B2 ls[k].length b2) := (hb.cell (p := ⟨g', k, none⟩) hg').trans hc'
      have hle := len_le_total ls k hlt
      have far : ∀ u : Value, u.ownBlock = none ∨ u.ownBlock ≠ none := fun u => Classical.em _
      have o1 := h1.kept (grown_of_below hb none) (far _)
      have o2 := h1'.kept (grown_of_below hb none) (far _)
      have C := hide fun W (e : W.heap = wr.heap) => eqInt64S_same ls[k] B1 B2 b1 b2 B B' (by omega) W (show W.ownsRow _ _ _ _ _ _ by unfold Own1 World.ownsRow at o1; unfold World.ownsRow; rw [e]; exact o1) (show W.ownsRow _ _ _ _ _ _ by unfold Own1 World.ownsRow at o2; unfold World.ownsRow; rw [e]; exact o2)
      clear hc hc' h1 h1' far o1 o2
      go_wp2
      go_region_with (go_at_call 18; refine (C.out _ ?_).mono ?_; rfl; rintro e w1 ⟨rfl, hb1⟩)
      all_goals
        have hbb : Below w.heap.size w w1 := hb.drew.trans (hb1.mono hb.size)
        clear hb1 c1 c2
        go_wp2
        go_roundw
        case rel => exact ⟨k + 1, by omega, by go_num, hbb⟩
        case measure => simp [intOf]; omega
    · go_wp2
      go_ret
      exact ⟨rfl, hb⟩
theorem own2_form {B : Nat} {w : World} {v : Value} {ls : List (List Nat)} (h : Own2 B w v ls) : ∃ A c vs, v = .slice A ls.length c ∧ Own2v B w (.slice A ls.length c) vs ls := by
  obtain ⟨A, c, rfl⟩ := h.form
  obtain ⟨vs, hv⟩ := own2v.1 h
  exact ⟨A, c, vs, rfl, hv⟩
theorem Own2v.lt {B : Nat} {w : World} {v : Value} {vs : List Value} {ls : List (List Nat)} (h : Own2v B w v vs ls) : (∀ k, v.ownBlock = some k → k < w.heap.size) ∧ ∀ (i : Nat) (u : Value), vs[i]? = some u → ∀ k, u.ownBlock = some k → k < w.heap.size := by
  refine ⟨fun k hk => (h.row.lt k hk).2, fun i u hu k hk => ?_⟩
  have hi : i < ls.length := by rw [← h.len]; exact (List.getElem?_eq_some_iff.1 hu).1
  exact (World.ownsRow.lt (h.each i u _ hu (List.getElem?_eq_getElem hi)) k hk).2
theorem mark1 (ls : List (List Nat)) (A : Option Addr) (c B : Nat) (vs : List Value) (hl : total ls ≤ 1000000) (hl2 : ls.length ≤ 1000000) (w : World) (hBw : B ≤ w.heap.size) (h : Own2v B w (.slice A ls.length c) vs ls) :
    Calls Try.prog 22 #[.slice A ls.length c, .int .i64 1] w fun e w' => e = .returned (.int .i64 (1 + total ls : Nat)) ∧ Below B w w' ∧ w.heap.size ≤ w'.heap.size ∧ Own2v B w' (.slice A ls.length c) vs (marksL 1 ls) :=
  markInt64SS_any ls A c B 1 vs hl hl2 (by omega) w hBw h
theorem held1 (ls : List (List Nat)) (A : Option Addr) (c B : Nat) (vs : List Value) (hl : total ls ≤ 1000000) (hl2 : ls.length ≤ 1000000) (w : World) (h : Own2v B w (.slice A ls.length c) vs (marksL 1 ls)) :
    Calls Try.prog 23 #[.slice A ls.length c, .int .i64 1] w fun e w' => e = .returned (.int .i64 (1 + total ls : Nat)) ∧ Below w.heap.size w w' :=
  heldInt64SS_any ls A c B 1 vs hl hl2 (by omega) w h

end Go.Proofs.Ytlmhnimpglookaa

namespace Go.Proofs.Ytlmhnimpglookaa
open Go.RowKit

theorem Holds.perm {w0 w : World} {L L' : List Part} (h : Holds w0 w L) (hp : L.Perm L') : Holds w0 w L' :=
  ⟨h.1, fun a ha => h.2.1 a (hp.mem_iff.2 ha), (hp.pairwise_iff (R := fun a b : Part => ∀ g, a.own g → b.own g → False) (fun {a b} hab g hb ha => hab g ha hb)).1 h.2.2⟩
theorem Holds.third {w0 w : World} {a b c : Part} {L : List Part} (h : Holds w0 w (a :: b :: c :: L)) : Holds w0 w (b :: c :: a :: L) :=
  h.perm ((List.Perm.swap b a (c :: L)).trans ((List.Perm.swap c a L).cons b))
/-- a store into a cell of a row -/
theorem Holds.put {w0 w : World} {L : List Part} (h : Holds w0 w L) (i : Nat) {g n c : Nat} {e : TypeId} {s : Nat} {xs : List Value} (hi : L[i]? = some (pRow (.slice (some ⟨g, 0, none⟩) n c) e s n xs)) (j : Nat) (u : Value) :
    Holds w0 (w.setCell ⟨g, j, none⟩ u) (L.set i (pRow (.slice (some ⟨g, 0, none⟩) n c) e s n (xs.set j u))) := by
  have h1 : w.ownsRow 0 e s (.slice (some ⟨g, 0, none⟩) n c) n xs := h.at i hi
  have h2 := World.ownsRow.stored h1 j u
  exact h.grow i hi _ h2.1 h2.2 (fun k hk => by cases hk; rfl) fun k hk => .inl hk
section
variable {P : Program} {ops : Array Oper} {rest : List Oper} {o : Oper} {a : Act} {Q : Exit → Act → World → Prop} {w : World}
/-- make([]T, n) -/
theorem makeH (hgd : o.guard = none) (t : TypeId) (x y : Operand) (ho : o.op = .makeSlice t x y) (e : TypeId) (i : TypeInfo) (z : Value) (bytes : Nat) (ht : P.underlying t = some (.slice e)) (hi : P.info? e = some i) (hz : i.zero = some z)
    (hsize : i.size = 1) (hby : i.bytes = bytes) (hzs : z.cells = #[z]) (n : Nat) (kx ky : IntKind) (hx : a.eval x = .int kx (n : Int)) (hy : a.eval y = .int ky (n : Int)) (hn : n ≤ 1000000) (hb : bytes ≤ 64)
    {w0 : World} {L : List Part} (H : Holds w0 w L)
    (h : ∀ w', Holds w0 w' (pRow (.slice (some ⟨w.heap.size, 0, none⟩) n n) e 1 n (List.replicate n z) :: L) → wpList P ops Q rest (a.put o.dst (.slice (some ⟨w.heap.size, 0, none⟩) n n)) w') : wpList P ops Q (o :: rest) a w := by
  refine wpList_plain hgd fun _ hK => ?_
  have h1 : bytes * n ≤ 64 * 1000000 := Nat.mul_le_mul hb hn
  obtain ⟨w', hr, ho', hg⟩ := run_makeSlice_full (P := P) w w.heap.size t e i z 1 ht hi hz hsize kx ky n (by omega) (by rw [hby]; omega) (by unfold maxLen; omega) (Nat.le_refl _)
  rw [hzs, Nat.mul_one, toList_madeCells_one] at ho'
  unfold Oper.wp execOp
  simp only [ho, hx, hy, Sem.run_bind, Sem.run_pure, Result.andThen_ok, hr]
  refine hK _ _ (h w' (H.newRow ⟨hg.os, hg.tape, hg.output, hg.size, fun g hl => hg.block g hl (by simp)⟩ ho'))
end
/-- the rows of a list of lists, a part each -/
def rowsP : List Value → List (List Nat) → List Part
  | v :: vs, l :: ls => pInts v l :: rowsP vs ls
  | _, _ => []
theorem rowsP_snoc {vs : List Value} {ls : List (List Nat)} (hl : vs.length = ls.length) (u : Value) (l : List Nat) : rowsP (vs ++ [u]) (ls ++ [l]) = rowsP vs ls ++ [pInts u l] := by
  induction vs generalizing ls with
  | nil => cases ls with
    | nil => rfl
    | cons => simp at hl
  | cons v vs ih => cases ls with
    | nil => simp at hl
    | cons m ls => simp only [List.cons_append, rowsP]; rw [ih (by simpa using hl)]
theorem rowsP_at {vs : List Value} {ls : List (List Nat)} {i : Nat} {u : Value} {l : List Nat} (h1 : vs[i]? = some u) (h2 : ls[i]? = some l) : (rowsP vs ls)[i]? = some (pInts u l) := by
  induction vs generalizing ls i with
  | nil => simp at h1
  | cons v vs ih => cases ls with
    | nil => simp at h2
    | cons m ls =>
      cases i with
      | zero => simp at h1 h2; subst h1 h2; rfl
      | succ i => simp at h1 h2; simp only [rowsP, List.getElem?_cons_succ]; exact ih h1 h2
theorem Holds.rowEnd {w0 w : World} {u : Value} {l : List Nat} {A : List Part} {vs : List Value} {ls : List (List Nat)} (hl : vs.length = ls.length) (h : Holds w0 w (pInts u l :: (A ++ rowsP vs ls))) : Holds w0 w (A ++ rowsP (vs ++ [u]) (ls ++ [l])) := by
  refine h.perm ?_
  rw [rowsP_snoc hl, ← List.append_assoc]
  exact (List.perm_append_comm (l₁ := [pInts u l]) (l₂ := A ++ rowsP vs ls))
/-- a row of slices, its part -/
def pVals (v : Value) (vs : List Value) : Part := pRow v 22 1 vs.length vs
theorem Holds.own2 {w0 w : World} {v : Value} {A : List Part} {vs : List Value} {ls : List (List Nat)} (hl : vs.length = ls.length) (h : Holds w0 w (A ++ pVals v vs :: rowsP vs ls)) : Own2 w0.heap.size w v ls := by
  have h' : Holds w0 w (pVals v vs :: rowsP vs ls) := h.sub (List.sublist_append_right _ _)
  have at_ : ∀ (i : Nat) (u : Value) (l : List Nat), vs[i]? = some u → ls[i]? = some l → (pVals v vs :: rowsP vs ls)[i + 1]? = some (pInts u l) := fun i u l h1 h2 => by rw [List.getElem?_cons_succ]; exact rowsP_at h1 h2
  refine ⟨vs, hl, h'.row 0 rfl, fun i u l h1 h2 => h'.own1 (i + 1) (at_ i u l h1 h2), fun i j u u' hij h1 h2 => ?_⟩
  rcases hb : u.ownBlock with _ | g
  · exact .inl rfl
  · refine .inr fun e => ?_
    have li : i < ls.length := by rw [← hl]; exact (List.getElem?_eq_some_iff.1 h1).1
    have lj : j < ls.length := by rw [← hl]; exact (List.getElem?_eq_some_iff.1 h2).1
    exact h'.apart (i := i + 1) (j := j + 1) (by omega) (at_ i u _ h1 (List.getElem?_eq_getElem li)) (at_ j u' _ h2 (List.getElem?_eq_getElem lj)) (g := g) hb e.symm
theorem Holds.valsForm {w0 w : World} {L : List Part} (h : Holds w0 w L) (i : Nat) {v : Value} {vs : List Value} (hi : L[i]? = some (pVals v vs)) : ∃ A c, v = .slice A vs.length c := own_slice (h.row i hi)
/-- one list more -/
theorem appRow {ops : Array Oper} {rest : List Oper} {o : Oper} {a : Act} {Q : Exit → Act → World → Prop} {w0 w : World} {L : List Part} (H : Holds w0 w L) (k : Nat) {v : Value} {vs : List Value} (hk : L[k]? = some (pVals v vs))
    (g : Nat) (u : Value) (hu : u.oneCell' = true) (t : TypeId) (hc : w.heap[g]? = some (.cells #[u] t (0, 0))) (hb : vs.length ≤ 1000000)
    (hgd : o.guard = none) (s x : Operand)
    (ho : o.op = .call { callee := .builtin .append, args := #[s, x], argTypes := #[26, 26] })
    (hs : a.eval s = v) (hx : a.eval x = .slice (some ⟨g, 0, none⟩) 1 1)
    (h : ∀ v' w', Holds w0 w' (L.set k (pVals v' (vs ++ [u]))) → wpList Try.prog ops Q rest (a.put o.dst v') w') : wpList Try.prog ops Q (o :: rest) a w := by
  obtain ⟨i0, hi, hz0, hz1, hz2⟩ := info_parts infoSl
  refine appH (P := Try.prog) hgd s x 26 ho 22 i0 (.slice none 0 0) 1 24 Try.underlying26 hi hz0 hz1 hz2 rfl (by decide) v vs.length vs hs H k hk ⟨g, 0, none⟩ 1 1 [u] hx
    rfl (fun j x hj => ?_) (fun x hx => by simp at hx; subst hx; exact hu) (by unfold maxLen; omega) (by omega) fun v' w' h1 => h v' w' ?_
  · have : ((⟨g, 0, none⟩ : Addr).add j) = ⟨g, j, none⟩ := by simp [Addr.add]; exact Eq.symm
    rw [this, cell_of_cells, cellsOf_heap hc]
    simpa using hj
  · unfold pVals
    rw [List.length_append]
    exact h1
end Go.Proofs.Ytlmhnimpglookaa

namespace Go.Proofs.Ytlmhnimpglookaa
open Go.RowKit

def plB (l : List (Nat → Nat)) : List Value := l.flatMap fun p => (av p).toList
theorem av_len (p : Nat → Nat) : (av p).toList.length = 16 := by rw [Array.length_toList, av_size]
theorem plB_cons (p : Nat → Nat) (l : List (Nat → Nat)) : plB (p :: l) = (av p).toList ++ plB l := rfl
theorem plB_length (l : List (Nat → Nat)) : (plB l).length = l.length * 16 := by
  induction l with
  | nil => rfl
  | cons p l ih => rw [plB_cons, List.length_append, ih, av_len, List.length_cons, Nat.succ_mul]; omega
theorem plB_append (l l' : List (Nat → Nat)) : plB (l ++ l') = plB l ++ plB l' := by unfold plB; simp
theorem plB_one {l : List (Nat → Nat)} : ∀ u ∈ plB l, u.oneCell' = true := by
  intro u hu
  unfold plB at hu
  obtain ⟨p, _, hp⟩ := List.mem_flatMap.1 hu
  have := Array.all_eq_true_iff_forall_mem.1 (av_cells p) u (by simpa using hp)
  exact this
theorem plB_at {l : List (Nat → Nat)} {k : Nat} (hk : k < l.length) {i : Nat} (hi : i < 16) : (plB l)[k * 16 + i]? = some (.int .u8 (l[k] i : Nat)) := by
  induction l generalizing k with
  | nil => simp at hk
  | cons p l ih =>
    rw [plB_cons]
    rcases k with _ | k
    · rw [Nat.zero_mul, Nat.zero_add, List.getElem?_append_left (by rw [av_len]; exact hi), Array.getElem?_toList, av_get _ hi]; rfl
    · rw [List.getElem?_append_right (by rw [av_len]; omega), av_len, show (k + 1) * 16 + i - 16 = k * 16 + i by omega]
      exact ih (k := k) (by simpa using hk)
theorem plB_ext {l : List (Nat → Nat)} {cur : Array Value} (h : cur.toList.take (l.length * 16) = plB l) {k : Nat} (hk : k < l.length) : cur.extract (k * 16) (k * 16 + 16) = av l[k] := by
  have hlen : l.length * 16 ≤ cur.size := by
    have h1 := congrArg List.length h
    rw [plB_length, List.length_take] at h1
    have h2 : cur.toList.length = cur.size := Array.length_toList
    rw [← h2, ← h1]
    exact Nat.min_le_right _ _
  have hk16 : k * 16 + 16 ≤ l.length * 16 := by omega
  apply Array.ext_getElem?
  intro i
  rw [Array.getElem?_extract]
  by_cases c : i < 16
  · rw [if_pos (by omega), av_get _ c]
    have h1 := plB_at hk c
    rw [← h, List.getElem?_take_of_lt (by omega), Array.getElem?_toList] at h1
    exact h1
  · rw [if_neg (by omega), Array.getElem?_eq_none (by rw [av_size]; omega)]
theorem infoPlc : (Try.prog.info? 42).map (fun i => (i.zero, i.size, i.bytes)) = some (some (.agg #[.int .u8 0, .int .u8 0, .int .u8 0, .int .u8 0, .int .u8 0, .int .u8 0, .int .u8 0, .int .u8 0, .int .u8 0, .int .u8 0, .int .u8 0, .int .u8 0, .int .u8 0, .int .u8 0, .int .u8 0, .int .u8 0]), 16, 16) := by kernel_rfl
/-- a row of permutations, its part -/
def pPl (v : Value) (l : List (Nat → Nat)) : Part := pRow v 42 16 l.length (plB l)
theorem Holds.plForm {w0 w : World} {L : List Part} (h : Holds w0 w L) (i : Nat) {v : Value} {l : List (Nat → Nat)} (hi : L[i]? = some (pPl v l)) : ∃ A c, v = .slice A l.length c := own_slice (h.row i hi)
theorem row_extract {w : World} {B : Nat} {v : Value} {l : List (Nat → Nat)} (h : w.ownsRow B 42 16 v l.length (plB l)) {k : Nat} (hk : k < l.length) :
    ∃ g c, v = .slice (some ⟨g, 0, none⟩) l.length c ∧ B ≤ g ∧ g < w.heap.size ∧ (cellsOf w g).extract (k * 16) (k * 16 + 16) = av l[k] := by
  rcases h.2 with ⟨_, e⟩ | ⟨g, cap, cur, rfl, hB, hh, h1, h2, h3, h4⟩
  · omega
  · exact ⟨g, cap, rfl, hB, lt_of_some hh, by rw [cellsOf_heap hh]; exact plB_ext h4 hk⟩
theorem run_loadR {w : World} {g o : Nat} {p : Nat → Nat} (h : (cellsOf w g).extract o (o + 16) = av p) : (loadT 42 (.pointer (some ⟨g, o, none⟩))).run Try.prog w = .ok (.value (.agg (av p))) w := run_load_mid aggP h (av_size _)
theorem Holds.plAt {w0 w : World} {L : List Part} (h : Holds w0 w L) (i : Nat) {v : Value} {l : List (Nat → Nat)} (hi : L[i]? = some (pPl v l)) {k : Nat} (hk : k < l.length) :
    ∃ g c, v = .slice (some ⟨g, 0, none⟩) l.length c ∧ g < w.heap.size ∧ (loadT 42 (.pointer (some ⟨g, k * 16, none⟩))).run Try.prog w = .ok (.value (.agg (av l[k]))) w := by
  obtain ⟨g, c, h1, _, h2, h3⟩ := row_extract (h.row i hi) hk
  exact ⟨g, c, h1, h2, run_loadR h3⟩
/-- one permutation laid for an append -/
def buildSlP (n : Nat) (ps : Array (Nat × Value)) : Sem Next := do pure (.value (← Instr.buildSlice 86 n ps))
@[go_sem ↓] theorem exec_buildSlP (ρ : Operand → Value) (dst : Option Tmp) (n : Nat) (parts : Array (Nat × Operand)) (ty : TypeId) (pos : String) (after : Array Edge) (guard : Option (Nat × Bool)) :
    execOp ρ { dst, op := .buildSlice 86 n parts, type := ty, pos, after, guard } = buildSlP n (parts.map fun (i, x) => (i, ρ x)) := rfl
theorem fillP (p : Nat → Nat) (cs : Array Value) (hcs : cs.size = 16) : Instr.fill (fun i => some (i * 16, 16)) cs [(0, .agg (av p))] = some (av p) := by
  simp only [Instr.fill, Value.cells, av_size, hcs, splice_eq]
  rw [if_neg (by simp)]
  congr 1
  apply Array.ext_getElem?
  intro i
  rw [foldset, hcs, av_len, Array.getElem?_toList]
  by_cases c : i < 16
  · rw [if_pos (by omega)]; congr 1
  · rw [if_neg (by omega), Array.getElem?_eq_none (by rw [hcs]; omega), Array.getElem?_eq_none (by rw [av_size]; omega)]
@[go_sem] theorem run_bslP (p : Nat → Nat) (w : World) : (buildSlP 1 #[(0, .agg (av p))]).run Try.prog w = .ok (.value (.slice (some ⟨w.heap.size, 0, none⟩) 1 1)) (w.alloc (.cells (av p) 42)) := by
  obtain ⟨i0, hi, hz0, hz1, _⟩ := info_parts infoPlc
  have hsz : ¬ (1 * i0.size > 2 ^ 24) := by rw [hz1]; decide
  have hnz : ¬ (1 * i0.size = 0) := by rw [hz1]; decide
  have hff : ∀ cs : Array Value, cs.size = 16 → Instr.fill (fun i => some (i * i0.size, i0.size)) cs [(0, .agg (av p))] = some (av p) := fun cs h => by rw [hz1]; exact fillP p cs h
  simp only [buildSlP, Instr.buildSlice, run_underlying Try.underlying86, sizeOf, typeInfo, hi, zeroValue, hz0, Sem.run_bind, Sem.run_pure, Result.andThen_ok, run_program, hsz, hnz, if_false]
  rw [hff _ (by simp [hz1])]
  rfl
@[go_sem] theorem run_bslP0 (w : World) : (buildSlP 0 #[]).run Try.prog w = .ok (.value (.slice (some ⟨w.heap.size, 0, none⟩) 0 0)) (w.alloc (.cells #[] 42)) := by
  obtain ⟨i0, hi, hz0, hz1, _⟩ := info_parts infoPlc
  simp [buildSlP, Instr.buildSlice, run_underlying Try.underlying86, sizeOf, typeInfo, hi, Instr.fill, newRow, Array.range_zero']
/-- one permutation more -/
theorem appPl {ops : Array Oper} {rest : List Oper} {o : Oper} {a : Act} {Q : Exit → Act → World → Prop} {w0 w : World} {L : List Part} (H : Holds w0 w L) (k : Nat) {v : Value} {l : List (Nat → Nat)} (hk : L[k]? = some (pPl v l))
    (g : Nat) (p : Nat → Nat) (t : TypeId) (hc : w.heap[g]? = some (.cells (av p) t (0, 0))) (hb : l.length ≤ 100000)
    (hgd : o.guard = none) (s x : Operand)
    (ho : o.op = .call { callee := .builtin .append, args := #[s, x], argTypes := #[86, 86] })
    (hs : a.eval s = v) (hx : a.eval x = .slice (some ⟨g, 0, none⟩) 1 1)
    (h : ∀ v' w', Holds w0 w' (L.set k (pPl v' (l ++ [p]))) → wpList Try.prog ops Q rest (a.put o.dst v') w') : wpList Try.prog ops Q (o :: rest) a w := by
  obtain ⟨i0, hi, hz0, hz1, hz2⟩ := info_parts infoPlc
  refine appH (P := Try.prog) hgd s x 86 ho 42 i0 _ 16 16 Try.underlying86 hi hz0 hz1 hz2 rfl (by decide) v l.length (plB l) hs H k hk ⟨g, 0, none⟩ 1 1 (av p).toList hx
    (by rw [av_len]) (fun j u hu => ?_) (fun u hu => plB_one (l := [p]) u (by unfold plB; simpa using hu)) (by unfold maxLen; omega) (by omega) fun v' w' h1 => h v' w' ?_
  · have : ((⟨g, 0, none⟩ : Addr).add j) = ⟨g, j, none⟩ := by simp [Addr.add]; exact Eq.symm
    rw [this, cell_of_cells, cellsOf_heap hc]
    simpa using hu
  · unfold pPl at *
    have e : plB (l ++ [p]) = plB l ++ (av p).toList := by rw [plB_append]; unfold plB; simp
    rw [List.length_append, e]
    exact h1
theorem run_appPl {o : Oper} {a : Act} {w0 w : World} {L : List Part} (H : Holds w0 w L) (k : Nat) {v : Value} {l : List (Nat → Nat)} (hk : L[k]? = some (pPl v l))
    (g : Nat) (p : Nat → Nat) (t : TypeId) (hc : w.heap[g]? = some (.cells (av p) t (0, 0))) (hb : l.length ≤ 100000) (s x : Operand)
    (ho : o.op = .call { callee := .builtin .append, args := #[s, x], argTypes := #[86, 86] })
    (hs : a.eval s = v) (hx : a.eval x = .slice (some ⟨g, 0, none⟩) 1 1) :
    ∃ v' w', (execOp a.eval o).run Try.prog w = .ok (.value v') w' ∧ Holds w0 w' (L.set k (pPl v' (l ++ [p]))) := by
  obtain ⟨i0, hi, hz0, hz1, hz2⟩ := info_parts infoPlc
  obtain ⟨v', w', h1, h2, _⟩ := run_appH (P := Try.prog) (w := w) 86 o.type 42 i0 _ 16 16 Try.underlying86 hi hz0 hz1 hz2 rfl (by decide) v l.length (plB l) H k hk ⟨g, 0, none⟩ 1 1 (av p).toList
    (by rw [av_len]) (fun j u hu => by
      have : ((⟨g, 0, none⟩ : Addr).add j) = ⟨g, j, none⟩ := by simp [Addr.add]; exact Eq.symm
      rw [this, cell_of_cells, cellsOf_heap hc]
      simpa using hu) (fun u hu => plB_one (l := [p]) u (by unfold plB; simpa using hu)) (by unfold maxLen; omega) (by omega)
  refine ⟨v', w', exec_append ho hs hx h1, ?_⟩
  unfold pPl at *
  have e : plB (l ++ [p]) = plB l ++ (av p).toList := by rw [plB_append]; unfold plB; simp
  rw [List.length_append, e]
  exact h2
end Go.Proofs.Ytlmhnimpglookaa

namespace Go.Proofs.Ytlmhnimpglookaa
open Go.RowKit
open Go.ChangeMaps Go.MapKept
open Go.Maps (Keyed)

open Classical in
/-- what entries give for a key -/
noncomputable def mlook (es : List MapEntry) (k : Value) : Option Value := (es.find? fun e => decide (e.key = k)).map (·.val)
/-- a value that can be a key -/
def IsK (P : Program) (kt : TypeId) (v : Value) : Prop := ∃ l, keyOf P kt v = some l
/-- a map of the call's own -/
structure MapOk (P : Program) (kt : TypeId) (es : List MapEntry) (clock : Nat) (M : Value → Option Value) : Prop where
  keys : ∀ e ∈ es, IsK P kt e.key
  nodup : (es.map (·.key)).Nodup
  born : ∀ e ∈ es, e.born < clock
  births : (es.map (·.born)).Nodup
  look : ∀ k, mlook es k = M k
def pMap (P : Program) (kt : TypeId) (g : Nat) (M : Value → Option Value) : Part where
  own k := k = g
  ok w := ∃ es clock, w.heap[g]? = some (.map es clock) ∧ MapOk P kt es.toList clock M
  keep _ _ := fun ⟨es, clock, h, r⟩ k => ⟨es, clock, (k g rfl).trans h, r⟩
  lt _ _ := fun ⟨_, _, h, _⟩ k => by subst k; exact lt_of_some h
open Classical in
noncomputable def mput (M : Value → Option Value) (k v : Value) : Value → Option Value := fun x => if x = k then some v else M x
theorem mput_same (M : Value → Option Value) (k v : Value) : mput M k v k = some v := by simp [mput]
theorem mput_ne (M : Value → Option Value) {k x : Value} (v : Value) (h : x ≠ k) : mput M k v x = M x := by simp [mput, h]

theorem mlook_nil (k : Value) : mlook [] k = none := rfl
theorem Holds.newMap {w0 w : World} {L : List Part} (h : Holds w0 w L) (P : Program) (kt : TypeId) (g : Nat) (hg : g = w.heap.size) : Holds w0 (w.alloc (.map #[] 0)) (pMap P kt g (fun _ => none) :: L) :=
  h.new (below1 w _) _ ⟨#[], 0, heap_at _ _ _ hg, ⟨by simp, by simp, by simp, by simp, fun k => rfl⟩⟩ fun k hk => by cases hk; omega

section
variable {P : Program} {kt : TypeId}
open Classical in
theorem mlook_at {es : List MapEntry} (hn : (es.map (·.key)).Nodup) {j : Nat} {e : MapEntry} (hj : es[j]? = some e) : mlook es e.key = some e.val := by
  unfold mlook
  have hmem := List.mem_of_getElem? hj
  rcases hf : es.find? (fun x => decide (x.key = e.key)) with _ | x
  · have := List.find?_eq_none.1 hf e hmem
    simp at this
  · have hk : x.key = e.key := by simpa using List.find?_some hf
    have hm := List.mem_of_find?_eq_some hf
    obtain ⟨i, hi⟩ := List.getElem?_of_mem hm
    have e1 : (es.map (·.key))[i]? = some x.key := by simp [hi]
    have e2 : (es.map (·.key))[j]? = some e.key := by simp [hj]
    obtain ⟨hi', e1'⟩ := List.getElem?_eq_some_iff.1 e1
    obtain ⟨hj', e2'⟩ := List.getElem?_eq_some_iff.1 e2
    have : i = j := by
      rcases Nat.lt_trichotomy i j with c | c | c
      · exact absurd (by rw [e1', e2', hk]) (List.pairwise_iff_getElem.1 hn i j hi' hj' c)
      · exact c
      · exact absurd (by rw [e1', e2', hk]) (List.pairwise_iff_getElem.1 hn j i hj' hi' c)
    subst this
    rw [hi] at hj
    cases hj
    simp only [hf, Option.map_some]
open Classical in
theorem mlook_none {es : List MapEntry} {k : Value} (h : ∀ e ∈ es, e.key ≠ k) : mlook es k = none := by
  unfold mlook
  rw [List.find?_eq_none.2 (by simpa using h)]
  rfl
/-- what the search for a key gives -/
theorem find_of (K : Keyed P kt) {es : Array MapEntry} {clock : Nat} {M : Value → Option Value} (h : MapOk P kt es.toList clock M) {k : Value} (hk : IsK P kt k) (w : World) :
    (M k = none ∧ (Instr.findKey kt k es.toList).run P w = .ok none w ∧ ∀ e ∈ es.toList, e.key ≠ k) ∨ ∃ j e, M k = some e.val ∧ (Instr.findKey kt k es.toList).run P w = .ok (some (j, e.val)) w ∧ es.toList[j]? = some e ∧ e.key = k := by
  obtain ⟨l, hl⟩ := hk
  rcases K.find w hl es.toList h.keys with ⟨h1, h2⟩ | ⟨j, e, h1, h2, h3⟩
  · exact .inl ⟨by rw [← h.look]; exact mlook_none h2, h1, h2⟩
  · refine .inr ⟨j, e, ?_, h1, h2, h3⟩
    rw [← h.look, ← h3]
    exact mlook_at h.nodup h2
/-- 'm[k]', 'v, ok := m[k]' -/
theorem run_mlook (K : Keyed P kt) {t et : TypeId} (ht : P.underlying t = some (.map kt et)) {z : Value} (hz : ∀ w, (zeroValue et).run P w = .ok z w) {w : World} {g : Nat} {M : Value → Option Value} (h : (pMap P kt g M).ok w) {k : Value} (hk : IsK P kt k) (c : Bool) :
    (Instr.lookup t (.map (some g)) k c).run P w = .ok (if c then .tuple #[(M k).getD z, .bool (M k).isSome] else (M k).getD z) w := by
  obtain ⟨es, clock, hg, hm⟩ := h
  obtain ⟨l, hl⟩ := id hk
  have hc := K.check w es.isEmpty hl
  have hgo : (getObj g).run P w = .ok (.map es clock) w := by simp [getObj, Sem.run, hg]
  rcases find_of K hm hk w with ⟨h1, h2, _⟩ | ⟨j, e, h1, h2, _, _⟩
  · cases c <;> simp [Instr.lookup, run_underlying ht, hgo, hc, h2, hz, h1]
  · cases c <;> simp [Instr.lookup, run_underlying ht, hgo, hc, h2, h1]
open Classical in
theorem mlook_push {es : List MapEntry} {e : MapEntry} (h : ∀ x ∈ es, x.key ≠ e.key) (k : Value) : mlook (es ++ [e]) k = mput (mlook es) e.key e.val k := by
  unfold mput
  by_cases c : k = e.key
  · subst c
    rw [if_pos rfl]
    unfold mlook
    rw [List.find?_append, List.find?_eq_none.2 (by simpa using h)]
    simp
  · rw [if_neg c]
    unfold mlook
    have e0 : [e].find? (fun x => decide (x.key = k)) = none := by simp [Ne.symm c]
    rw [List.find?_append, e0, Option.or_none]
open Classical in
theorem mlook_modify {es : List MapEntry} (hn : (es.map (·.key)).Nodup) {j : Nat} {e : MapEntry} (hj : es[j]? = some e) (e' : MapEntry) (he : e'.key = e.key) (k : Value) : mlook (es.set j e') k = mput (mlook es) e.key e'.val k := by
  have hn' : ((es.set j e').map (·.key)).Nodup := by
    have : (es.set j e').map (·.key) = es.map (·.key) := by
      rw [List.map_set, he]
      apply List.ext_getElem?
      intro i
      rw [List.getElem?_set]
      split
      · rename_i c; subst c
        obtain ⟨hl, rfl⟩ := List.getElem?_eq_some_iff.1 hj
        simp [hl]
      · rfl
    rw [this]; exact hn
  have hl : j < es.length := (List.getElem?_eq_some_iff.1 hj).1
  unfold mput
  by_cases c : k = e.key
  · rw [if_pos c, c, ← he]
    exact mlook_at (j := j) hn' (by simp [hl])
  · rw [if_neg c]
    rcases hf : es.find? (fun x => decide (x.key = k)) with _ | x
    · have h1 : mlook es k = none := by unfold mlook; rw [hf]; rfl
      rw [h1]
      refine mlook_none fun y hy => ?_
      rcases List.mem_or_eq_of_mem_set hy with hy | rfl
      · simpa using List.find?_eq_none.1 hf y hy
      · rw [he]; exact Ne.symm c
    · have hk : x.key = k := by simpa using List.find?_some hf
      obtain ⟨i, hi⟩ := List.getElem?_of_mem (List.mem_of_find?_eq_some hf)
      have hij : i ≠ j := fun e1 => by subst e1; rw [hi] at hj; cases hj; exact c hk.symm
      rw [← hk, mlook_at hn hi]
      exact mlook_at (j := i) hn' (by rw [List.getElem?_set, if_neg (Ne.symm hij)]; exact hi)
theorem MapOk.push {es : List MapEntry} {clock : Nat} {M : Value → Option Value} (h : MapOk P kt es clock M) {k : Value} (hk : IsK P kt k) (hn : ∀ e ∈ es, e.key ≠ k) (v : Value) : MapOk P kt (es ++ [{ key := k, val := v, born := clock }]) (clock + 1) (mput M k v) where
  keys e he := by
    rcases List.mem_append.1 he with c | c
    · exact h.keys e c
    · rw [List.mem_singleton.1 c]; exact hk
  nodup := by
    rw [List.map_append, List.nodup_append]
    exact ⟨h.nodup, by simp, fun a ha b hb e => by simp at hb; subst hb; subst e; obtain ⟨x, hx, he⟩ := List.mem_map.1 ha; exact hn x hx he⟩
  born e he := by
    rcases List.mem_append.1 he with c | c
    · have := h.born e c; omega
    · rw [List.mem_singleton.1 c]; exact Nat.lt_succ_self _
  births := by
    rw [List.map_append, List.nodup_append]
    exact ⟨h.births, by simp, fun a ha b hb e => by simp at hb; subst hb; subst e; obtain ⟨x, hx, he⟩ := List.mem_map.1 ha; have := h.born x hx; omega⟩
  look x := by
    rw [mlook_push hn]
    unfold mput
    split
    · rfl
    · exact h.look x
theorem map_set_same {α : Type} (f : MapEntry → α) {es : List MapEntry} {j : Nat} {e e' : MapEntry} (hj : es[j]? = some e) (he : f e' = f e) : (es.set j e').map f = es.map f := by
  rw [List.map_set, he]
  apply List.ext_getElem?
  intro i
  rw [List.getElem?_set]
  split
  · rename_i c; subst c
    obtain ⟨hl, rfl⟩ := List.getElem?_eq_some_iff.1 hj
    simp [hl]
  · rfl
theorem MapOk.set {es : List MapEntry} {clock : Nat} {M : Value → Option Value} (h : MapOk P kt es clock M) {j : Nat} {e : MapEntry} (hj : es[j]? = some e) (v : Value) : MapOk P kt (es.set j { e with val := v }) clock (mput M e.key v) where
  keys x hx := by
    rcases List.mem_or_eq_of_mem_set hx with c | rfl
    · exact h.keys x c
    · exact h.keys e (List.mem_of_getElem? hj)
  nodup := by rw [map_set_same (e' := { e with val := v }) (·.key) hj rfl]; exact h.nodup
  born x hx := by
    rcases List.mem_or_eq_of_mem_set hx with c | rfl
    · exact h.born x c
    · exact h.born e (List.mem_of_getElem? hj)
  births := by rw [map_set_same (e' := { e with val := v }) (·.born) hj rfl]; exact h.births
  look x := by
    rw [mlook_modify h.nodup hj { e with val := v } rfl]
    unfold mput
    split
    · rfl
    · exact h.look x
/-- 'm[k] = v' -/
theorem run_mput (K : Keyed P kt) {t et : TypeId} (ht : P.underlying t = some (.map kt et)) {w0 w : World} {L : List Part} (H : Holds w0 w L) (i : Nat) {g : Nat} {M : Value → Option Value} (hi : L[i]? = some (pMap P kt g M)) {k : Value} (hk : IsK P kt k) (v : Value) :
    ∃ w', (Instr.mapUpdate t (.map (some g)) k v).run P w = .ok () w' ∧ Holds w0 w' (L.set i (pMap P kt g (mput M k v))) ∧ w'.heap.size = w.heap.size := by
  obtain ⟨es, clock, hg, hm⟩ := H.at i hi
  obtain ⟨l, hl⟩ := id hk
  have hc := K.check w false hl
  have hgo : (getObj g).run P w = .ok (.map es clock) w := by simp [getObj, Sem.run, hg]
  have hso : ∀ o, (setObj g o).run P w = .ok () { w with heap := w.heap.setIfInBounds g o } := fun o => by simp [setObj, Sem.run, hg]
  have turned : ∀ (o : Obj) (M' : Value → Option Value), (∃ es clock, o = .map es clock ∧ MapOk P kt es.toList clock M') → Holds w0 { w with heap := w.heap.setIfInBounds g o } (L.set i (pMap P kt g M')) := by
    rintro o M' ⟨es', clock', rfl, hm'⟩
    refine H.turn i hi _ ⟨es', clock', ?_, hm'⟩ rfl rfl rfl (by simp) (fun j _ hj => ?_) fun j hj => .inl hj
    · have := lt_of_some hg
      simp [this]
    · have : g ≠ j := fun e => hj e.symm
      simp [this]
  rcases find_of K hm hk w with ⟨h1, h2, h3⟩ | ⟨j, e, h1, h2, h3, h4⟩
  · refine ⟨{ w with heap := w.heap.setIfInBounds g (.map (es.push { key := k, val := v, born := clock }) (clock + 1)) }, by simp [Instr.mapUpdate, run_underlying ht, hgo, hc, h2, hso], turned _ _ ⟨es.push { key := k, val := v, born := clock }, clock + 1, rfl, ?_⟩, by simp⟩
    rw [Array.toList_push]
    exact hm.push hk h3 v
  · have hst := K.stays w hl
    have hej : es[j]? = some e := by simpa using h3
    refine ⟨{ w with heap := w.heap.setIfInBounds g (.map (es.modify j fun e => { e with key := k, val := v }) clock) }, by simp [Instr.mapUpdate, run_underlying ht, hgo, hc, h2, hso, hej, h4, hst], turned _ _ ⟨es.modify j fun e => { e with key := k, val := v }, clock, rfl, ?_⟩, by simp⟩
    have hset : (es.modify j fun e => { e with key := k, val := v }).toList = es.toList.set j { e with val := v } := by
      apply List.ext_getElem?
      intro q
      rw [Array.getElem?_toList, Array.getElem?_modify, List.getElem?_set]
      by_cases c : j = q
      · subst c
        rw [if_pos rfl, if_pos rfl, if_pos (List.getElem?_eq_some_iff.1 h3).1, hej, ← h4]; rfl
      · rw [if_neg c, if_neg c]; simp
    rw [hset, ← h4]
    exact hm.set h3 v
/-- .. as the walk meets it -/
theorem mputH (K : Keyed P kt) {ops : Array Oper} {rest : List Oper} {o : Oper} {a : Act} {Q : Exit → Act → World → Prop} (hgd : o.guard = none) (m x y : Operand) {t et : TypeId} (ho : o.op = .mapUpdate t m x y) (ht : P.underlying t = some (.map kt et))
    {w0 w : World} {L : List Part} (H : Holds w0 w L) (i : Nat) {g : Nat} {M : Value → Option Value} (hi : L[i]? = some (pMap P kt g M)) {k v : Value} (hm : a.eval m = .map (some g)) (hx : a.eval x = k) (hy : a.eval y = v) (hk : IsK P kt k)
    (h : ∀ w', Holds w0 w' (L.set i (pMap P kt g (mput M k v))) → w'.heap.size = w.heap.size → wpList P ops Q rest (a.put o.dst undef) w') : wpList P ops Q (o :: rest) a w := by
  refine wpList_plain hgd fun _ hK => ?_
  obtain ⟨w', hr, h2, h3⟩ := run_mput K ht H i hi hk v
  unfold Oper.wp execOp
  simp only [ho, hm, hx, hy, Sem.run_bind, hr, Sem.run_pure, Result.andThen_ok]
  exact hK _ _ (h w' h2 h3)
/-- .. in a map's literal -/
theorem minsH (K : Keyed P kt) {ops : Array Oper} {rest : List Oper} {o : Oper} {a : Act} {Q : Exit → Act → World → Prop} (hgd : o.guard = none) (m x y : Operand) {t et : TypeId} (ho : o.op = .insert t m x y) (ht : P.underlying t = some (.map kt et))
    {w0 w : World} {L : List Part} (H : Holds w0 w L) (i : Nat) {g : Nat} {M : Value → Option Value} (hi : L[i]? = some (pMap P kt g M)) {k v : Value} (hm : a.eval m = .map (some g)) (hx : a.eval x = k) (hy : a.eval y = v) (hk : IsK P kt k)
    (h : ∀ w', Holds w0 w' (L.set i (pMap P kt g (mput M k v))) → w'.heap.size = w.heap.size → wpList P ops Q rest (a.put o.dst undef) w') : wpList P ops Q (o :: rest) a w := by
  refine wpList_plain hgd fun _ hK => ?_
  obtain ⟨w', hr, h2, h3⟩ := run_mput K ht H i hi hk v
  unfold Oper.wp execOp
  simp only [ho, hm, hx, hy, Sem.run_bind, hr, Sem.run_pure, Result.andThen_ok]
  exact hK _ _ (h w' h2 h3)
theorem run_mk (t : TypeId) (w : World) : (Instr.makeMap t none).run P w = .ok (.map (some w.heap.size)) (w.alloc (.map #[] 0)) := rfl
end
end Go.Proofs.Ytlmhnimpglookaa
