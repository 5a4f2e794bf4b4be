/- 'm[k] = f(m[k])': the entry is taken, and stored into later. -/
import Derived.Test.YtjhpkibeddnbfaaMap
namespace Go.Proofs.Ytjhpkibeddnbfaa
open Go.RowKit
open Go.ChangeMaps Go.MapKept
open Go.Maps (Keyed)

/-- a map whose entry of a key bears a stamp -/
def pMapAt (P : Program) (kt : TypeId) (g : Nat) (M : Value → Option Value) (key : Value) (s : Int) : Part where
  own k := k = g
  ok w := ∃ es clock, w.heap[g]? = some (.map es clock) ∧ MapOk P kt es.toList clock M ∧ ∃ (j : Nat) (e : MapEntry), es.toList[j]? = some e ∧ e.key = key ∧ ((e.born : Nat) : Int) = s
  keep _ _ := fun ⟨es, clock, h, r⟩ k => ⟨es, clock, (k g rfl).trans h, r⟩
  lt _ _ := fun ⟨_, _, h, _⟩ k => by subst k; exact lt_of_some h
section
variable {P : Program} {kt : TypeId}
theorem born_inj {es : List MapEntry} (hn : (es.map (·.born)).Nodup) {i j : Nat} {a b : MapEntry} (hi : es[i]? = some a) (hj : es[j]? = some b) (h : a.born = b.born) : i = j := by
  have e1 : (es.map (·.born))[i]? = some a.born := by simp [hi]
  have e2 : (es.map (·.born))[j]? = some b.born := by simp [hj]
  obtain ⟨hi', e1'⟩ := List.getElem?_eq_some_iff.1 e1
  obtain ⟨hj', e2'⟩ := List.getElem?_eq_some_iff.1 e2
  rcases Nat.lt_trichotomy i j with c | c | c
  · exact absurd (by rw [e1', e2', h]) (List.pairwise_iff_getElem.1 hn i j hi' hj' c)
  · exact c
  · exact absurd (by rw [e1', e2', h]) (List.pairwise_iff_getElem.1 hn j i hj' hi' c)
theorem set_same_val {es : List MapEntry} {j : Nat} {e : MapEntry} (h : es[j]? = some e) : es.set j { e with val := e.val } = es := by
  apply List.ext_getElem?
  intro i
  rw [List.getElem?_set]
  split
  · rename_i c; subst c
    obtain ⟨hl, rfl⟩ := List.getElem?_eq_some_iff.1 h
    simp [hl]
  · rfl
theorem run_mentry (K : Keyed P kt) {t et : TypeId} (ht : P.underlying t = some (.map kt et)) {z : Value} (hz : ∀ w, (zeroValue et).run P w = .ok z w) {w0 w : World} {L : List Part} (H : Holds w0 w L) (i : Nat) {g : Nat} {M : Value → Option Value} (hi : L[i]? = some (pMap P kt g M)) {k : Value} (hk : IsK P kt k) :
    ∃ w' s, (Instr.mapEntry t (.map (some g)) k).run P w = .ok (.tuple #[(M k).getD z, .int .i64 s]) w' ∧ Holds w0 w' (L.set i (pMapAt P kt g (mput M k ((M k).getD z)) k s)) ∧ w'.heap.size = w.heap.size := by
  obtain ⟨es, clock, hg, hm⟩ := H.at i hi
  obtain ⟨l, hl⟩ := id hk
  have hc := K.check w false hl
  have hgo : (getObj g).run P w = .ok (.map es clock) w := by simp [getObj, Sem.run, hg]
  have hso : ∀ o, (setObj g o).run P w = .ok () { w with heap := w.heap.setIfInBounds g o } := fun o => by simp [setObj, Sem.run, hg]
  have turned : ∀ (o : Obj) (M' : Value → Option Value) (s : Int), (∃ es clock, o = .map es clock ∧ MapOk P kt es.toList clock M' ∧ ∃ (j : Nat) (e : MapEntry), es.toList[j]? = some e ∧ e.key = k ∧ ((e.born : Nat) : Int) = s) → Holds w0 { w with heap := w.heap.setIfInBounds g o } (L.set i (pMapAt P kt g M' k s)) := by
    rintro o M' s ⟨es', clock', rfl, hm'⟩
    refine H.turn i hi _ ⟨es', clock', ?_, hm'⟩ rfl rfl rfl (by simp) (fun j _ hj => ?_) fun j hj => .inl hj
    · have := lt_of_some hg
      simp [this]
    · have : g ≠ j := fun e => hj e.symm
      simp [this]
  rcases find_of K hm hk w with ⟨h1, h2, h3⟩ | ⟨j, e, h1, h2, h3, h4⟩
  · rw [h1]
    refine ⟨{ w with heap := w.heap.setIfInBounds g (.map (es.push { key := k, val := z, born := clock }) (clock + 1)) }, clock, by simp [Instr.mapEntry, run_underlying ht, hgo, hc, h2, hso, hz, goInt], turned _ _ _ ⟨es.push { key := k, val := z, born := clock }, clock + 1, rfl, ?_, es.size, { key := k, val := z, born := clock }, by simp, rfl, rfl⟩, by simp⟩
    rw [Array.toList_push]
    exact hm.push hk h3 z
  · have hst := K.stays w hl
    have hej : es[j]? = some e := by simpa using h3
    have hset : (es.modify j fun e => { e with key := k }).toList = es.toList.set j { e with val := e.val } := by
      apply List.ext_getElem?
      intro q
      rw [Array.getElem?_toList, Array.getElem?_modify, List.getElem?_set]
      by_cases c : j = q
      · subst c
        rw [if_pos rfl, if_pos rfl, if_pos (List.getElem?_eq_some_iff.1 h3).1, hej, ← h4]; rfl
      · rw [if_neg c, if_neg c]; simp
    refine ⟨{ w with heap := w.heap.setIfInBounds g (.map (es.modify j fun e => { e with key := k }) clock) }, e.born, by simp [Instr.mapEntry, run_underlying ht, hgo, hc, h2, hso, hej, h4, hst, h1, goInt], turned _ _ _ ⟨es.modify j fun e => { e with key := k }, clock, rfl, ?_, j, e, ?_, h4, rfl⟩, by simp⟩
    · rw [hset, h1, ← h4]
      exact hm.set h3 e.val
    · rw [hset, set_same_val h3]; exact h3
theorem run_estore {t : TypeId} {w0 w : World} {L : List Part} (H : Holds w0 w L) (i : Nat) {g : Nat} {M : Value → Option Value} {k : Value} {s : Int} (hi : L[i]? = some (pMapAt P kt g M k s)) (v : Value) :
    ∃ w', (Instr.entryStore t (.map (some g)) (.int .i64 s) v).run P w = .ok () w' ∧ Holds w0 w' (L.set i (pMap P kt g (mput M k v))) ∧ w'.heap.size = w.heap.size := by
  obtain ⟨es, clock, hg, hm, j, e, hj, hk, hs⟩ := H.at i hi
  have hgo : (getObj g).run P w = .ok (.map es clock) w := by simp [getObj, Sem.run, hg]
  have hso : ∀ o, (setObj g o).run P w = .ok () { w with heap := w.heap.setIfInBounds g o } := fun o => by simp [setObj, Sem.run, hg]
  have hf : es.findIdx? (fun e => ((e.born : Nat) : Int) == s) = some j := by
    obtain ⟨hl, he⟩ := List.getElem?_eq_some_iff.1 hj
    have hl' : j < es.size := by simpa using hl
    have he' : es[j] = e := by simpa using he
    rw [Array.findIdx?_eq_some_iff_getElem]
    refine ⟨hl', by rw [he', hs]; simp, fun q hq => ?_⟩
    have hql : q < es.toList.length := by omega
    simp only [beq_iff_eq]
    intro c
    have hb : (es.toList[q]).born = e.born := by
      have c' : ((es.toList[q].born : Nat) : Int) = s := by simpa using c
      omega
    have := born_inj hm.births (List.getElem?_eq_getElem hql) hj hb
    omega
  refine ⟨{ w with heap := w.heap.setIfInBounds g (.map (es.modify j fun e => { e with val := v }) clock) }, by simp [Instr.entryStore, hgo, asInt, asIntOf, hf, hso], ?_, by simp⟩
  refine H.turn i hi _ ⟨es.modify j fun e => { e with val := v }, clock, ?_, ?_⟩ rfl rfl rfl (by simp) (fun q _ hq => ?_) fun q hq => .inl hq
  · have := lt_of_some hg
    simp [this]
  · have hset : (es.modify j fun e => { e with val := v }).toList = es.toList.set j { e with val := v } := by
      apply List.ext_getElem?
      intro q
      rw [Array.getElem?_toList, Array.getElem?_modify, List.getElem?_set]
      have hej : es[j]? = some e := by simpa using hj
      by_cases c : j = q
      · subst c
        rw [if_pos rfl, if_pos rfl, if_pos (List.getElem?_eq_some_iff.1 hj).1, hej]; rfl
      · rw [if_neg c, if_neg c]; simp
    rw [hset, ← hk]
    exact hm.set hj v
  · have : g ≠ q := fun e => hq e.symm
    simp [this]
/-- .. as the walk meets them -/
theorem mentH (K : Keyed P kt) {ops : Array Oper} {rest : List Oper} {o : Oper} {a : Act} {Q : Exit → Act → World → Prop} (hgd : o.guard = none) (m x : Operand) {t et : TypeId} (ho : o.op = .mapEntry t m x) (ht : P.underlying t = some (.map kt et)) {z : Value} (hz : ∀ w, (zeroValue et).run P w = .ok z w)
    {w0 w : World} {L : List Part} (H : Holds w0 w L) (i : Nat) {g : Nat} {M : Value → Option Value} (hi : L[i]? = some (pMap P kt g M)) {k : Value} (hm : a.eval m = .map (some g)) (hx : a.eval x = k) (hk : IsK P kt k)
    (h : ∀ w' s, Holds w0 w' (L.set i (pMapAt P kt g (mput M k ((M k).getD z)) k s)) → w'.heap.size = w.heap.size → wpList P ops Q rest (a.put o.dst (.tuple #[(M k).getD z, .int .i64 s])) w') : wpList P ops Q (o :: rest) a w := by
  refine wpList_plain hgd fun _ hK => ?_
  obtain ⟨w', s, hr, h2, h3⟩ := run_mentry K ht hz H i hi hk
  unfold Oper.wp execOp
  simp only [ho, hm, hx, Sem.run_bind, hr, Sem.run_pure, Result.andThen_ok]
  exact hK _ _ (h w' s h2 h3)
theorem estH {ops : Array Oper} {rest : List Oper} {o : Oper} {a : Act} {Q : Exit → Act → World → Prop} (hgd : o.guard = none) (m x y : Operand) {t : TypeId} (ho : o.op = .entryStore t m x y)
    {w0 w : World} {L : List Part} (H : Holds w0 w L) (i : Nat) {g : Nat} {M : Value → Option Value} {k v : Value} {s : Int} (hi : L[i]? = some (pMapAt P kt g M k s)) (hm : a.eval m = .map (some g)) (hx : a.eval x = .int .i64 s) (hy : a.eval y = v)
    (h : ∀ w', Holds w0 w' (L.set i (pMap P kt g (mput M k v))) → w'.heap.size = w.heap.size → wpList P ops Q rest (a.put o.dst undef) w') : wpList P ops Q (o :: rest) a w := by
  refine wpList_plain hgd fun _ hK => ?_
  obtain ⟨w', hr, h2, h3⟩ := run_estore (t := t) H i hi v
  unfold Oper.wp execOp
  simp only [ho, hm, hx, hy, Sem.run_bind, hr, Sem.run_pure, Result.andThen_ok]
  exact hK _ _ (h w' h2 h3)
theorem mput_twice (M : Value → Option Value) (k v u : Value) : mput (mput M k v) k u = mput M k u := by
  funext x
  unfold mput
  split <;> rfl
end
end Go.Proofs.Ytjhpkibeddnbfaa
