/- Maps that the call makes: what they give for each key; lookups and stores. -/
import Derived.Test.YtjhpkibeddnbfaaHS
import Derived.Maps.Keyed
import Derived.DeepKeys4
import Derived.Maps.Own
namespace Go.Proofs.Ytjhpkibeddnbfaa
open Go.RowKit
open Go.ChangeMaps Go.MapKept
open Go.Maps (Keyed)

open Classical in
/-- what entries give for a key -/
noncomputable def mlook (es : List MapEntry) (k : Value) : Option Value := (es.find? fun e => decide (e.key = k)).map (·.val)
/-- a value that can be a key -/
def IsK (P : Program) (kt : TypeId) (v : Value) : Prop := ∃ l, keyOf P kt v = some l
/-- a map of the call's own -/
structure MapOk (P : Program) (kt : TypeId) (es : List MapEntry) (clock : Nat) (M : Value → Option Value) : Prop where
  keys : ∀ e ∈ es, IsK P kt e.key
  nodup : (es.map (·.key)).Nodup
  born : ∀ e ∈ es, e.born < clock
  births : (es.map (·.born)).Nodup
  look : ∀ k, mlook es k = M k
def pMap (P : Program) (kt : TypeId) (g : Nat) (M : Value → Option Value) : Part where
  own k := k = g
  ok w := ∃ es clock, w.heap[g]? = some (.map es clock) ∧ MapOk P kt es.toList clock M
  keep _ _ := fun ⟨es, clock, h, r⟩ k => ⟨es, clock, (k g rfl).trans h, r⟩
  lt _ _ := fun ⟨_, _, h, _⟩ k => by subst k; exact lt_of_some h
open Classical in
noncomputable def mput (M : Value → Option Value) (k v : Value) : Value → Option Value := fun x => if x = k then some v else M x
theorem mput_same (M : Value → Option Value) (k v : Value) : mput M k v k = some v := by simp [mput]
theorem mput_ne (M : Value → Option Value) {k x : Value} (v : Value) (h : x ≠ k) : mput M k v x = M x := by simp [mput, h]

theorem mlook_nil (k : Value) : mlook [] k = none := rfl
theorem Holds.newMap {w0 w : World} {L : List Part} (h : Holds w0 w L) (P : Program) (kt : TypeId) (g : Nat) (hg : g = w.heap.size) : Holds w0 (w.alloc (.map #[] 0)) (pMap P kt g (fun _ => none) :: L) :=
  h.new (below1 w _) _ ⟨#[], 0, heap_at _ _ _ hg, ⟨by simp, by simp, by simp, by simp, fun k => rfl⟩⟩ fun k hk => by cases hk; omega

section
variable {P : Program} {kt : TypeId}
open Classical in
theorem mlook_at {es : List MapEntry} (hn : (es.map (·.key)).Nodup) {j : Nat} {e : MapEntry} (hj : es[j]? = some e) : mlook es e.key = some e.val := by
  unfold mlook
  have hmem := List.mem_of_getElem? hj
  rcases hf : es.find? (fun x => decide (x.key = e.key)) with _ | x
  · have := List.find?_eq_none.1 hf e hmem
    simp at this
  · have hk : x.key = e.key := by simpa using List.find?_some hf
    have hm := List.mem_of_find?_eq_some hf
    obtain ⟨i, hi⟩ := List.getElem?_of_mem hm
    have e1 : (es.map (·.key))[i]? = some x.key := by simp [hi]
    have e2 : (es.map (·.key))[j]? = some e.key := by simp [hj]
    obtain ⟨hi', e1'⟩ := List.getElem?_eq_some_iff.1 e1
    obtain ⟨hj', e2'⟩ := List.getElem?_eq_some_iff.1 e2
    have : i = j := by
      rcases Nat.lt_trichotomy i j with c | c | c
      · exact absurd (by rw [e1', e2', hk]) (List.pairwise_iff_getElem.1 hn i j hi' hj' c)
      · exact c
      · exact absurd (by rw [e1', e2', hk]) (List.pairwise_iff_getElem.1 hn j i hj' hi' c)
    subst this
    rw [hi] at hj
    cases hj
    simp only [hf, Option.map_some]
open Classical in
theorem mlook_none {es : List MapEntry} {k : Value} (h : ∀ e ∈ es, e.key ≠ k) : mlook es k = none := by
  unfold mlook
  rw [List.find?_eq_none.2 (by simpa using h)]
  rfl
/-- what the search for a key gives -/
theorem find_of (K : Keyed P kt) {es : Array MapEntry} {clock : Nat} {M : Value → Option Value} (h : MapOk P kt es.toList clock M) {k : Value} (hk : IsK P kt k) (w : World) :
    (M k = none ∧ (Instr.findKey kt k es.toList).run P w = .ok none w ∧ ∀ e ∈ es.toList, e.key ≠ k) ∨ ∃ j e, M k = some e.val ∧ (Instr.findKey kt k es.toList).run P w = .ok (some (j, e.val)) w ∧ es.toList[j]? = some e ∧ e.key = k := by
  obtain ⟨l, hl⟩ := hk
  rcases K.find w hl es.toList h.keys with ⟨h1, h2⟩ | ⟨j, e, h1, h2, h3⟩
  · exact .inl ⟨by rw [← h.look]; exact mlook_none h2, h1, h2⟩
  · refine .inr ⟨j, e, ?_, h1, h2, h3⟩
    rw [← h.look, ← h3]
    exact mlook_at h.nodup h2
/-- 'm[k]', 'v, ok := m[k]' -/
theorem run_mlook (K : Keyed P kt) {t et : TypeId} (ht : P.underlying t = some (.map kt et)) {z : Value} (hz : ∀ w, (zeroValue et).run P w = .ok z w) {w : World} {g : Nat} {M : Value → Option Value} (h : (pMap P kt g M).ok w) {k : Value} (hk : IsK P kt k) (c : Bool) :
    (Instr.lookup t (.map (some g)) k c).run P w = .ok (if c then .tuple #[(M k).getD z, .bool (M k).isSome] else (M k).getD z) w := by
  obtain ⟨es, clock, hg, hm⟩ := h
  obtain ⟨l, hl⟩ := id hk
  have hc := K.check w es.isEmpty hl
  have hgo : (getObj g).run P w = .ok (.map es clock) w := by simp [getObj, Sem.run, hg]
  rcases find_of K hm hk w with ⟨h1, h2, _⟩ | ⟨j, e, h1, h2, _, _⟩
  · cases c <;> simp [Instr.lookup, run_underlying ht, hgo, hc, h2, hz, h1]
  · cases c <;> simp [Instr.lookup, run_underlying ht, hgo, hc, h2, h1]
open Classical in
theorem mlook_push {es : List MapEntry} {e : MapEntry} (h : ∀ x ∈ es, x.key ≠ e.key) (k : Value) : mlook (es ++ [e]) k = mput (mlook es) e.key e.val k := by
  unfold mput
  by_cases c : k = e.key
  · subst c
    rw [if_pos rfl]
    unfold mlook
    rw [List.find?_append, List.find?_eq_none.2 (by simpa using h)]
    simp
  · rw [if_neg c]
    unfold mlook
    have e0 : [e].find? (fun x => decide (x.key = k)) = none := by simp [Ne.symm c]
    rw [List.find?_append, e0, Option.or_none]
open Classical in
theorem mlook_modify {es : List MapEntry} (hn : (es.map (·.key)).Nodup) {j : Nat} {e : MapEntry} (hj : es[j]? = some e) (e' : MapEntry) (he : e'.key = e.key) (k : Value) : mlook (es.set j e') k = mput (mlook es) e.key e'.val k := by
  have hn' : ((es.set j e').map (·.key)).Nodup := by
    have : (es.set j e').map (·.key) = es.map (·.key) := by
      rw [List.map_set, he]
      apply List.ext_getElem?
      intro i
      rw [List.getElem?_set]
      split
      · rename_i c; subst c
        obtain ⟨hl, rfl⟩ := List.getElem?_eq_some_iff.1 hj
        simp [hl]
      · rfl
    rw [this]; exact hn
  have hl : j < es.length := (List.getElem?_eq_some_iff.1 hj).1
  unfold mput
  by_cases c : k = e.key
  · rw [if_pos c, c, ← he]
    exact mlook_at (j := j) hn' (by simp [hl])
  · rw [if_neg c]
    rcases hf : es.find? (fun x => decide (x.key = k)) with _ | x
    · have h1 : mlook es k = none := by unfold mlook; rw [hf]; rfl
      rw [h1]
      refine mlook_none fun y hy => ?_
      rcases List.mem_or_eq_of_mem_set hy with hy | rfl
      · simpa using List.find?_eq_none.1 hf y hy
      · rw [he]; exact Ne.symm c
    · have hk : x.key = k := by simpa using List.find?_some hf
      obtain ⟨i, hi⟩ := List.getElem?_of_mem (List.mem_of_find?_eq_some hf)
      have hij : i ≠ j := fun e1 => by subst e1; rw [hi] at hj; cases hj; exact c hk.symm
      rw [← hk, mlook_at hn hi]
      exact mlook_at (j := i) hn' (by rw [List.getElem?_set, if_neg (Ne.symm hij)]; exact hi)
theorem MapOk.push {es : List MapEntry} {clock : Nat} {M : Value → Option Value} (h : MapOk P kt es clock M) {k : Value} (hk : IsK P kt k) (hn : ∀ e ∈ es, e.key ≠ k) (v : Value) : MapOk P kt (es ++ [{ key := k, val := v, born := clock }]) (clock + 1) (mput M k v) where
  keys e he := by
    rcases List.mem_append.1 he with c | c
    · exact h.keys e c
    · rw [List.mem_singleton.1 c]; exact hk
  nodup := by
    rw [List.map_append, List.nodup_append]
    exact ⟨h.nodup, by simp, fun a ha b hb e => by simp at hb; subst hb; subst e; obtain ⟨x, hx, he⟩ := List.mem_map.1 ha; exact hn x hx he⟩
  born e he := by
    rcases List.mem_append.1 he with c | c
    · have := h.born e c; omega
    · rw [List.mem_singleton.1 c]; exact Nat.lt_succ_self _
  births := by
    rw [List.map_append, List.nodup_append]
    exact ⟨h.births, by simp, fun a ha b hb e => by simp at hb; subst hb; subst e; obtain ⟨x, hx, he⟩ := List.mem_map.1 ha; have := h.born x hx; omega⟩
  look x := by
    rw [mlook_push hn]
    unfold mput
    split
    · rfl
    · exact h.look x
theorem map_set_same {α : Type} (f : MapEntry → α) {es : List MapEntry} {j : Nat} {e e' : MapEntry} (hj : es[j]? = some e) (he : f e' = f e) : (es.set j e').map f = es.map f := by
  rw [List.map_set, he]
  apply List.ext_getElem?
  intro i
  rw [List.getElem?_set]
  split
  · rename_i c; subst c
    obtain ⟨hl, rfl⟩ := List.getElem?_eq_some_iff.1 hj
    simp [hl]
  · rfl
theorem MapOk.set {es : List MapEntry} {clock : Nat} {M : Value → Option Value} (h : MapOk P kt es clock M) {j : Nat} {e : MapEntry} (hj : es[j]? = some e) (v : Value) : MapOk P kt (es.set j { e with val := v }) clock (mput M e.key v) where
  keys x hx := by
    rcases List.mem_or_eq_of_mem_set hx with c | rfl
    · exact h.keys x c
    · exact h.keys e (List.mem_of_getElem? hj)
  nodup := by rw [map_set_same (e' := { e with val := v }) (·.key) hj rfl]; exact h.nodup
  born x hx := by
    rcases List.mem_or_eq_of_mem_set hx with c | rfl
    · exact h.born x c
    · exact h.born e (List.mem_of_getElem? hj)
  births := by rw [map_set_same (e' := { e with val := v }) (·.born) hj rfl]; exact h.births
  look x := by
    rw [mlook_modify h.nodup hj { e with val := v } rfl]
    unfold mput
    split
    · rfl
    · exact h.look x
/-- 'm[k] = v' -/
theorem run_mput (K : Keyed P kt) {t et : TypeId} (ht : P.underlying t = some (.map kt et)) {w0 w : World} {L : List Part} (H : Holds w0 w L) (i : Nat) {g : Nat} {M : Value → Option Value} (hi : L[i]? = some (pMap P kt g M)) {k : Value} (hk : IsK P kt k) (v : Value) :
    ∃ w', (Instr.mapUpdate t (.map (some g)) k v).run P w = .ok () w' ∧ Holds w0 w' (L.set i (pMap P kt g (mput M k v))) ∧ w'.heap.size = w.heap.size := by
  obtain ⟨es, clock, hg, hm⟩ := H.at i hi
  obtain ⟨l, hl⟩ := id hk
  have hc := K.check w false hl
  have hgo : (getObj g).run P w = .ok (.map es clock) w := by simp [getObj, Sem.run, hg]
  have hso : ∀ o, (setObj g o).run P w = .ok () { w with heap := w.heap.setIfInBounds g o } := fun o => by simp [setObj, Sem.run, hg]
  have turned : ∀ (o : Obj) (M' : Value → Option Value), (∃ es clock, o = .map es clock ∧ MapOk P kt es.toList clock M') → Holds w0 { w with heap := w.heap.setIfInBounds g o } (L.set i (pMap P kt g M')) := by
    rintro o M' ⟨es', clock', rfl, hm'⟩
    refine H.turn i hi _ ⟨es', clock', ?_, hm'⟩ rfl rfl rfl (by simp) (fun j _ hj => ?_) fun j hj => .inl hj
    · have := lt_of_some hg
      simp [this]
    · have : g ≠ j := fun e => hj e.symm
      simp [this]
  rcases find_of K hm hk w with ⟨h1, h2, h3⟩ | ⟨j, e, h1, h2, h3, h4⟩
  · refine ⟨{ w with heap := w.heap.setIfInBounds g (.map (es.push { key := k, val := v, born := clock }) (clock + 1)) }, by simp [Instr.mapUpdate, run_underlying ht, hgo, hc, h2, hso], turned _ _ ⟨es.push { key := k, val := v, born := clock }, clock + 1, rfl, ?_⟩, by simp⟩
    rw [Array.toList_push]
    exact hm.push hk h3 v
  · have hst := K.stays w hl
    have hej : es[j]? = some e := by simpa using h3
    refine ⟨{ w with heap := w.heap.setIfInBounds g (.map (es.modify j fun e => { e with key := k, val := v }) clock) }, by simp [Instr.mapUpdate, run_underlying ht, hgo, hc, h2, hso, hej, h4, hst], turned _ _ ⟨es.modify j fun e => { e with key := k, val := v }, clock, rfl, ?_⟩, by simp⟩
    have hset : (es.modify j fun e => { e with key := k, val := v }).toList = es.toList.set j { e with val := v } := by
      apply List.ext_getElem?
      intro q
      rw [Array.getElem?_toList, Array.getElem?_modify, List.getElem?_set]
      by_cases c : j = q
      · subst c
        rw [if_pos rfl, if_pos rfl, if_pos (List.getElem?_eq_some_iff.1 h3).1, hej, ← h4]; rfl
      · rw [if_neg c, if_neg c]; simp
    rw [hset, ← h4]
    exact hm.set h3 v
/-- .. as the walk meets it -/
theorem mputH (K : Keyed P kt) {ops : Array Oper} {rest : List Oper} {o : Oper} {a : Act} {Q : Exit → Act → World → Prop} (hgd : o.guard = none) (m x y : Operand) {t et : TypeId} (ho : o.op = .mapUpdate t m x y) (ht : P.underlying t = some (.map kt et))
    {w0 w : World} {L : List Part} (H : Holds w0 w L) (i : Nat) {g : Nat} {M : Value → Option Value} (hi : L[i]? = some (pMap P kt g M)) {k v : Value} (hm : a.eval m = .map (some g)) (hx : a.eval x = k) (hy : a.eval y = v) (hk : IsK P kt k)
    (h : ∀ w', Holds w0 w' (L.set i (pMap P kt g (mput M k v))) → w'.heap.size = w.heap.size → wpList P ops Q rest (a.put o.dst undef) w') : wpList P ops Q (o :: rest) a w := by
  refine wpList_plain hgd fun _ hK => ?_
  obtain ⟨w', hr, h2, h3⟩ := run_mput K ht H i hi hk v
  unfold Oper.wp execOp
  simp only [ho, hm, hx, hy, Sem.run_bind, hr, Sem.run_pure, Result.andThen_ok]
  exact hK _ _ (h w' h2 h3)
/-- .. in a map's literal -/
theorem minsH (K : Keyed P kt) {ops : Array Oper} {rest : List Oper} {o : Oper} {a : Act} {Q : Exit → Act → World → Prop} (hgd : o.guard = none) (m x y : Operand) {t et : TypeId} (ho : o.op = .insert t m x y) (ht : P.underlying t = some (.map kt et))
    {w0 w : World} {L : List Part} (H : Holds w0 w L) (i : Nat) {g : Nat} {M : Value → Option Value} (hi : L[i]? = some (pMap P kt g M)) {k v : Value} (hm : a.eval m = .map (some g)) (hx : a.eval x = k) (hy : a.eval y = v) (hk : IsK P kt k)
    (h : ∀ w', Holds w0 w' (L.set i (pMap P kt g (mput M k v))) → w'.heap.size = w.heap.size → wpList P ops Q rest (a.put o.dst undef) w') : wpList P ops Q (o :: rest) a w := by
  refine wpList_plain hgd fun _ hK => ?_
  obtain ⟨w', hr, h2, h3⟩ := run_mput K ht H i hi hk v
  unfold Oper.wp execOp
  simp only [ho, hm, hx, hy, Sem.run_bind, hr, Sem.run_pure, Result.andThen_ok]
  exact hK _ _ (h w' h2 h3)
theorem run_mk (t : TypeId) (w : World) : (Instr.makeMap t none).run P w = .ok (.map (some w.heap.size)) (w.alloc (.map #[] 0)) := rfl
end
end Go.Proofs.Ytjhpkibeddnbfaa
