/- Texts put together: Map2, KeyD, QTail, Bfs, Con, SPerm, IsDes, Pl1, Face, PF, Cell, ToPl, EqPl, ToDs -/
import Derived.Test.YtlmhnimpglookaaQbLawOrderOfWord
import Derived.Test.YtlmhnimpglookaaChecked
import Derived.WalkKit
import Derived.WalkSpells
import Derived.WalkLawsBesides
import Derived.Deep.LoopGhost
import Derived.Deep.OwnRows
import Derived.Laws.Rows
import Derived.Laws.Tables
import Derived.Laws.CopyOwn
import Derived.ProofKit
import Derived.OpenShut
import Derived.ShutString
import Derived.ChangeOld
import Derived.Below
import Derived.Laws.OwnMore
import Derived.Laws.CopyRow
import Derived.Deep.MidRow
import Derived.BigQuiet
import Derived.Deep.QuietTactic
import Derived.RegionTactic
import Derived.Deep.RegionWith
import Derived.Maps.Keyed
import Derived.DeepKeys4
import Derived.Maps.Own
import Derived.Carry
import Derived.Deep.Quiet
import Derived.StillTail
import Derived.ChangeKeysEq
import Derived.StillTailTactics
import Derived.Deep.RegionHeld3
namespace Go.Proofs.Ytlmhnimpglookaa
open Go.RowKit
open Go.ChangeMaps Go.MapKept
open Go.Maps (Keyed)

/-- a map whose entry of a key bears a stamp -/
def pMapAt (P : Program) (kt : TypeId) (g : Nat) (M : Value → Option Value) (key : Value) (s : Int) : Part where
  own k := k = g
  ok w := ∃ es clock, w.heap[g]? = some (.map es clock) ∧ MapOk P kt es.toList clock M ∧ ∃ (j : Nat) (e : MapEntry), es.toList[j]? = some e ∧ e.key = key ∧ ((e.born : Nat) : Int) = s
  keep _ _ := fun ⟨es, clock, h, r⟩ k => ⟨es, clock, (k g rfl).trans h, r⟩
  lt _ _ := fun ⟨_, _, h, _⟩ k => by subst k; exact lt_of_some h
section
variable {P : Program} {kt : TypeId}
theorem born_inj {es : List MapEntry} (hn : (es.map (·.born)).Nodup) {i j : Nat} {a b : MapEntry} (hi : es[i]? = some a) (hj : es[j]? = some b) (h : a.born = b.born) : i = j := by
  have e1 : (es.map (·.born))[i]? = some a.born := by simp [hi]
  have e2 : (es.map (·.born))[j]? = some b.born := by simp [hj]
  obtain ⟨hi', e1'⟩ := List.getElem?_eq_some_iff.1 e1
  obtain ⟨hj', e2'⟩ := List.getElem?_eq_some_iff.1 e2
  rcases Nat.lt_trichotomy i j with c | c | c
  · exact absurd (by rw [e1', e2', h]) (List.pairwise_iff_getElem.1 hn i j hi' hj' c)
  · exact c
  · exact absurd (by rw [e1', e2', h]) (List.pairwise_iff_getElem.1 hn j i hj' hi' c)
theorem set_same_val {es : List MapEntry} {j : Nat} {e : MapEntry} (h : es[j]? = some e) : es.set j { e with val := e.val } = es := by
  apply List.ext_getElem?
  intro i
  rw [List.getElem?_set]
  split
  · rename_i c; subst c
    obtain ⟨hl, rfl⟩ := List.getElem?_eq_some_iff.1 h
    simp [hl]
  · rfl
theorem run_mentry (K : Keyed P kt) {t et : TypeId} (ht : P.underlying t = some (.map kt et)) {z : Value} (hz : ∀ w, (zeroValue et).run P w = .ok z w) {w0 w : World} {L : List Part} (H : Holds w0 w L) (i : Nat) {g : Nat} {M : Value → Option Value} (hi : L[i]? = some (pMap P kt g M)) {k : Value} (hk : IsK P kt k) :
    ∃ w' s, (Instr.mapEntry t (.map (some g)) k).run P w = .ok (.tuple #[(M k).getD z, .int .i64 s]) w' ∧ Holds w0 w' (L.set i (pMapAt P kt g (mput M k ((M k).getD z)) k s)) ∧ w'.heap.size = w.heap.size := by
  obtain ⟨es, clock, hg, hm⟩ := H.at i hi
  obtain ⟨l, hl⟩ := id hk
  have hc := K.check w false hl
  have hgo : (getObj g).run P w = .ok (.map es clock) w := by simp [getObj, Sem.run, hg]
  have hso : ∀ o, (setObj g o).run P w = .ok () { w with heap := w.heap.setIfInBounds g o } := fun o => by simp [setObj, Sem.run, hg]
  have turned : ∀ (o : Obj) (M' : Value → Option Value) (s : Int), (∃ es clock, o = .map es clock ∧ MapOk P kt es.toList clock M' ∧ ∃ (j : Nat) (e : MapEntry), es.toList[j]? = some e ∧ e.key = k ∧ ((e.born : Nat) : Int) = s) → Holds w0 { w with heap := w.heap.setIfInBounds g o } (L.set i (pMapAt P kt g M' k s)) := by
    rintro o M' s ⟨es', clock', rfl, hm'⟩
    refine H.turn i hi _ ⟨es', clock', ?_, hm'⟩ rfl rfl rfl (by simp) (fun j _ hj => ?_) fun j hj => .inl hj
    · have := lt_of_some hg
      simp [this]
    · have : g ≠ j := fun e => hj e.symm
      simp [this]
  rcases find_of K hm hk w with ⟨h1, h2, h3⟩ | ⟨j, e, h1, h2, h3, h4⟩
  · rw [h1]
    refine ⟨{ w with heap := w.heap.setIfInBounds g (.map (es.push { key := k, val := z, born := clock }) (clock + 1)) }, clock, by simp [Instr.mapEntry, run_underlying ht, hgo, hc, h2, hso, hz, goInt], turned _ _ _ ⟨es.push { key := k, val := z, born := clock }, clock + 1, rfl, ?_, es.size, { key := k, val := z, born := clock }, by simp, rfl, rfl⟩, by simp⟩
    rw [Array.toList_push]
    exact hm.push hk h3 z
  · have hst := K.stays w hl
    have hej : es[j]? = some e := by simpa using h3
    have hset : (es.modify j fun e => { e with key := k }).toList = es.toList.set j { e with val := e.val } := by
      apply List.ext_getElem?
      intro q
      rw [Array.getElem?_toList, Array.getElem?_modify, List.getElem?_set]
      by_cases c : j = q
      · subst c
        rw [if_pos rfl, if_pos rfl, if_pos (List.getElem?_eq_some_iff.1 h3).1, hej, ← h4]; rfl
      · rw [if_neg c, if_neg c]; simp
    refine ⟨{ w with heap := w.heap.setIfInBounds g (.map (es.modify j fun e => { e with key := k }) clock) }, e.born, by simp [Instr.mapEntry, run_underlying ht, hgo, hc, h2, hso, hej, h4, hst, h1, goInt], turned _ _ _ ⟨es.modify j fun e => { e with key := k }, clock, rfl, ?_, j, e, ?_, h4, rfl⟩, by simp⟩
    · rw [hset, h1, ← h4]
      exact hm.set h3 e.val
    · rw [hset, set_same_val h3]; exact h3
theorem run_estore {t : TypeId} {w0 w : World} {L : List Part} (H : Holds w0 w L) (i : Nat) {g : Nat} {M : Value → Option Value} {k : Value} {s : Int} (hi : L[i]? = some (pMapAt P kt g M k s)) (v : Value) :
    ∃ w', (Instr.entryStore t (.map (some g)) (.int .i64 s) v).run P w = .ok () w' ∧ Holds w0 w' (L.set i (pMap P kt g (mput M k v))) ∧ w'.heap.size = w.heap.size := by
  obtain ⟨es, clock, hg, hm, j, e, hj, hk, hs⟩ := H.at i hi
  have hgo : (getObj g).run P w = .ok (.map es clock) w := by simp [getObj, Sem.run, hg]
  have hso : ∀ o, (setObj g o).run P w = .ok () { w with heap := w.heap.setIfInBounds g o } := fun o => by simp [setObj, Sem.run, hg]
  have hf : es.findIdx? (fun e => ((e.born : Nat) : Int) == s) = some j := by
    obtain ⟨hl, he⟩ := List.getElem?_eq_some_iff.1 hj
    have hl' : j < es.size := by simpa using hl
    have he' : es[j] = e := by simpa using he
    rw [Array.findIdx?_eq_some_iff_getElem]
    refine ⟨hl', by rw [he', hs]; simp, fun q hq => ?_⟩
    have hql : q < es.toList.length := by omega
    simp only [beq_iff_eq]
    intro c
    have hb : (es.toList[q]).born = e.born := by
      have c' : ((es.toList[q].born : Nat) : Int) = s := by simpa using c
      omega
    have := born_inj hm.births (List.getElem?_eq_getElem hql) hj hb
    omega
  refine ⟨{ w with heap := w.heap.setIfInBounds g (.map (es.modify j fun e => { e with val := v }) clock) }, by simp [Instr.entryStore, hgo, asInt, asIntOf, hf, hso], ?_, by simp⟩
  refine H.turn i hi _ ⟨es.modify j fun e => { e with val := v }, clock, ?_, ?_⟩ rfl rfl rfl (by simp) (fun q _ hq => ?_) fun q hq => .inl hq
  · have := lt_of_some hg
    simp [this]
  · have hset : (es.modify j fun e => { e with val := v }).toList = es.toList.set j { e with val := v } := by
      apply List.ext_getElem?
      intro q
      rw [Array.getElem?_toList, Array.getElem?_modify, List.getElem?_set]
      have hej : es[j]? = some e := by simpa using hj
      by_cases c : j = q
      · subst c
        rw [if_pos rfl, if_pos rfl, if_pos (List.getElem?_eq_some_iff.1 hj).1, hej]; rfl
      · rw [if_neg c, if_neg c]; simp
    rw [hset, ← hk]
    exact hm.set hj v
  · have : g ≠ q := fun e => hq e.symm
    simp [this]
/-- .. as the walk meets them -/
theorem mentH (K : Keyed P kt) {ops : Array Oper} {rest : List Oper} {o : Oper} {a : Act} {Q : Exit → Act → World → Prop} (hgd : o.guard = none) (m x : Operand) {t et : TypeId} (ho : o.op = .mapEntry t m x) (ht : P.underlying t = some (.map kt et)) {z : Value} (hz : ∀ w, (zeroValue et).run P w = .ok z w)
    {w0 w : World} {L : List Part} (H : Holds w0 w L) (i : Nat) {g : Nat} {M : Value → Option Value} (hi : L[i]? = some (pMap P kt g M)) {k : Value} (hm : a.eval m = .map (some g)) (hx : a.eval x = k) (hk : IsK P kt k)
    (h : ∀ w' s, Holds w0 w' (L.set i (pMapAt P kt g (mput M k ((M k).getD z)) k s)) → w'.heap.size = w.heap.size → wpList P ops Q rest (a.put o.dst (.tuple #[(M k).getD z, .int .i64 s])) w') : wpList P ops Q (o :: rest) a w := by
  refine wpList_plain hgd fun _ hK => ?_
  obtain ⟨w', s, hr, h2, h3⟩ := run_mentry K ht hz H i hi hk
  unfold Oper.wp execOp
  simp only [ho, hm, hx, Sem.run_bind, hr, Sem.run_pure, Result.andThen_ok]
  exact hK _ _ (h w' s h2 h3)
theorem estH {ops : Array Oper} {rest : List Oper} {o : Oper} {a : Act} {Q : Exit → Act → World → Prop} (hgd : o.guard = none) (m x y : Operand) {t : TypeId} (ho : o.op = .entryStore t m x y)
    {w0 w : World} {L : List Part} (H : Holds w0 w L) (i : Nat) {g : Nat} {M : Value → Option Value} {k v : Value} {s : Int} (hi : L[i]? = some (pMapAt P kt g M k s)) (hm : a.eval m = .map (some g)) (hx : a.eval x = .int .i64 s) (hy : a.eval y = v)
    (h : ∀ w', Holds w0 w' (L.set i (pMap P kt g (mput M k v))) → w'.heap.size = w.heap.size → wpList P ops Q rest (a.put o.dst undef) w') : wpList P ops Q (o :: rest) a w := by
  refine wpList_plain hgd fun _ hK => ?_
  obtain ⟨w', hr, h2, h3⟩ := run_estore (t := t) H i hi v
  unfold Oper.wp execOp
  simp only [ho, hm, hx, hy, Sem.run_bind, hr, Sem.run_pure, Result.andThen_ok]
  exact hK _ _ (h w' h2 h3)
theorem mput_twice (M : Value → Option Value) (k v u : Value) : mput (mput M k v) k u = mput M k u := by
  funext x
  unfold mput
  split <;> rfl
end
end Go.Proofs.Ytlmhnimpglookaa

namespace Go.Proofs.Ytlmhnimpglookaa
open Go.RowKit
open Go.Maps (Keyed)

theorem laidDk : laidOutB Try.prog = true := by kernel_rfl
theorem keyedD : Keyed Try.prog 44 := Keyed.of_law (deep_law_laid laidDk (m := 4) (by omega) (of_decide_eq_true (by kernel_rfl)) (by kernel_rfl) (by kernel_rfl))
theorem mapM_some {α β : Type} {f : α → Option β} : ∀ {l : List α}, (∀ x ∈ l, ∃ y, f x = some y) → ∃ ys, l.mapM f = some ys := by
  intro l
  induction l with
  | nil => intro _; exact ⟨[], rfl⟩
  | cons a l ih =>
    intro h
    obtain ⟨y, hy⟩ := h a (by simp)
    obtain ⟨ys, hys⟩ := ih fun x hx => h x (by simp [hx])
    exact ⟨y :: ys, by simp [List.mapM_cons, hy, hys]⟩
theorem isK_des (m : Nat) (F G : Nat → Nat) (hm : m ≤ 16) (hF : ∀ i, i < 16 → F i < 256) (hG : ∀ i, i < 16 → G i < 256) : IsK Try.prog 44 (.agg (dv m F G)) := by
  have h1 : Try.prog.keyType 44 = true := by kernel_rfl
  obtain ⟨n, hn⟩ : ∃ n, Try.prog.types.size + 1 = n + 3 := ⟨Try.prog.types.size - 2, by
    have : 2 ≤ Try.prog.types.size := of_decide_eq_true (by kernel_rfl)
    omega⟩
  have h2 : Try.prog.cellsOf 44 = 33 := by kernel_rfl
  have h3 : Try.prog.cellsOf 5 = 1 := by kernel_rfl
  have h4 : Try.prog.cellsOf 2 = 1 := by kernel_rfl
  have h5 : Try.prog.cellsOf 42 = 16 := by kernel_rfl
  have hlen : (dv m F G).toList.length = 33 := by rw [Array.length_toList, dv_size]
  have k8 : ∀ x : Nat, x < 256 → Try.prog.keyLits (n + 1) 5 [.int .u8 (x : Int)] = some [.int .u8 (x : Int)] := fun x hx => by
    have hw : (Lit.int .u8 (x : Int)).wf = true := by unfold Lit.wf; simp [IntKind.min, IntKind.max, IntKind.signed, IntKind.bits]; omega
    unfold Program.keyLits
    simp only [Try.underlying5, hw]
    simp
  have k64 : Try.prog.keyLits (n + 2) 2 [.int .i64 (m : Int)] = some [.int .i64 (m : Int)] := by
    have hw : (Lit.int .i64 (m : Int)).wf = true := by unfold Lit.wf; simp [IntKind.min, IntKind.max, IntKind.signed, IntKind.bits]; omega
    unfold Program.keyLits
    simp only [Try.underlying2, hw]
    simp
  have kP : ∀ p : Nat → Nat, (∀ i, i < 16 → p i < 256) → ∃ l, Try.prog.keyLits (n + 2) 42 (av p).toList = some l := fun p hp => by
    have hl : (av p).toList.length = 16 := by rw [Array.length_toList, av_size]
    obtain ⟨ys, hys⟩ := mapM_some (l := List.range 16) (f := fun i => Try.prog.keyLits (n + 1) 5 (((av p).toList.drop (i * 1)).take 1)) fun i hi => by
      have hi' := List.mem_range.1 hi
      have e : ((av p).toList.drop (i * 1)).take 1 = [.int .u8 ((p i : Nat) : Int)] := by
        have h0 : (av p).toList[i]? = some (.int .u8 ((p i : Nat) : Int)) := by rw [Array.getElem?_toList]; exact av_get _ hi'
        rw [Nat.mul_one, List.drop_eq_getElem_cons (by omega)]
        have : (av p).toList[i]'(by omega) = .int .u8 ((p i : Nat) : Int) := by
          rw [List.getElem?_eq_getElem (by omega)] at h0; exact Option.some.inj h0
        rw [this]; rfl
      exact ⟨_, by rw [e]; exact k8 _ (hp i hi')⟩
    refine ⟨ys.flatten, ?_⟩
    unfold Program.keyLits
    simp only [Try.underlying42, h5, h3, hl, if_true]
    rw [hys]; rfl
  have eb : ((dv m F G).toList.drop 1).take 16 = (av F).toList := by
    have := congrArg Array.toList (blackOf_dv (m : Int) F G)
    unfold blackOf at this
    rw [Array.toList_extract] at this
    exact this
  have ew : ((dv m F G).toList.drop 17).take 16 = (av G).toList := by
    have := congrArg Array.toList (whiteOf_dv (m : Int) F G)
    unfold whiteOf at this
    rw [Array.toList_extract] at this
    exact this
  have en : ((dv m F G).toList.drop 0).take 1 = [.int .i64 (m : Int)] := by
    have h0 : (dv m F G).toList[0]? = some (.int .i64 (m : Int)) := by rw [Array.getElem?_toList]; exact dv_n _ _ _
    rw [List.drop_eq_getElem_cons (by omega)]
    have : (dv m F G).toList[0]'(by omega) = .int .i64 (m : Int) := by
      rw [List.getElem?_eq_getElem (by omega)] at h0; exact Option.some.inj h0
    rw [this]; rfl
  obtain ⟨lF, hlF⟩ := kP F hF
  obtain ⟨lG, hlG⟩ := kP G hG
  have kD : ∃ l, Try.prog.keyLits (n + 3) 44 (dv m F G).toList = some l := by
    refine ⟨[[.int .i64 (m : Int)], lF, lG].flatten, ?_⟩
    unfold Program.keyLits
    simp only [Try.underlying44, h2, hlen]
    have eb' := eb
    rw [List.drop_one] at eb'
    have en' := en
    rw [List.drop_zero] at en'
    simp [h4, h5, eb', ew, en', hlF, hlG, k64]
  unfold IsK keyOf
  rw [Try.underlying44, hn]
  have hfm : Value.formed Try.prog 44 (.agg (dv m F G)) = true := by
    unfold Value.formed
    rw [Try.underlying44]
    simp [h2, dv_size]
  obtain ⟨l, hl⟩ := kD
  simp only [h1, hfm, Bool.and_self, if_true, Value.cells, hl]
  exact ⟨_, rfl⟩
end Go.Proofs.Ytlmhnimpglookaa

namespace Go.Proofs.Ytlmhnimpglookaa
open Go.RowKit

section
variable {P : Program} {ops : Array Oper} {md : Region.Mode} {C : World → Prop}

/-- k operations more, all below n, whichever comes up; then L -/
def headQ (P : Program) (md : Region.Mode) (ops : Array Oper) (C : World → Prop) (n : Nat) (L : Array Bool → Act → Prop) : Nat → Array Bool → Act → Prop
  | 0, done, a => L done a
  | k + 1, done, a => Region.ready md ops done ≠ [] ∧ ∀ i ∈ Region.ready md ops done, i < n ∧ qOp P ops C i (headQ P md ops C n L k (done.setIfInBounds i true)) a

theorem headQ_any {n g : Nat} {L : Array Bool → Act → Prop} {Q : Exit → Act → World → Prop} (hL : ∀ done a w, C w → L done a → wpAny P md ops Q g done a w) (k : Nat) :
    ∀ (done : Array Bool) (a : Act) (w : World), C w → headQ P md ops C n L k done a → wpAny P md ops Q (k + g) done a w := by
  induction k with
  | zero => intro done a w hw h; rw [Nat.zero_add]; exact hL _ _ _ hw h
  | succ k ih =>
    intro done a w hw h
    rw [show k + 1 + g = (k + g) + 1 by omega]
    exact ⟨fun e => absurd e h.1, fun i hi => wpOp_of_qOp hw (fun a' w' hw' h' => ih _ a' w' hw' h') (h.2 i hi).2⟩

/-- an operation of the head may be taken first -/
theorem headQ_first {n i : Nat} {o : Oper} {v : Value} {L : Array Bool → Act → Prop} (hi : ops[i]? = some o) (hsel : ∀ (j : Nat) (o : Oper) cs b, ops[j]? = some o → o.op ≠ .select cs b)
    (hs : Region.sinkB md ops n = true) (hc : Region.chainB md ops n = true) (hn : n < ops.size) (hin : i < n) (hdone : ∀ done a, L done a → ∀ j ∈ Region.ready md ops done, n ≤ j) (k : Nat) :
    ∀ (done : Array Bool) (a : Act), HeadInv md ops n done →
      (∀ j oj, ops[j]? = some oj → j ≠ i → done.getD j true = false → (∀ e ∈ oj.after, Region.binds md e = true → e.on ≠ i) → o.apart ops oj = true) →
      i ∈ Region.ready md ops done → YieldsIn P ops C o v a →
      headQ P md ops C n L k (done.setIfInBounds i true) (a.put o.dst v) → headQ P md ops C n L (k + 1) done a := by
  have low : ∀ (done : Array Bool), HeadInv md ops n done → i ∈ Region.ready md ops done → ∀ j ∈ Region.ready md ops done, j < n := by
    intro done inv hr j hj
    rcases Nat.lt_or_ge j n with h | h
    · exact h
    · exact absurd hj (tail_waits hs hc hn inv _ i rfl hin (mem_ready.1 hr).1 j h)
  have some_ready : ∀ (done : Array Bool), i ∈ Region.ready md ops done → Region.ready md ops done ≠ [] := fun done hr e => by rw [e] at hr; cases hr
  induction k with
  | zero =>
    intro done a inv _ hr hy H
    refine ⟨some_ready done hr, fun j hj => ⟨low done inv hr j hj, ?_⟩⟩
    by_cases e : j = i
    · subst e; exact hy.qOp hi H
    · have := hdone _ _ H j (ready_mono hj e)
      have := low done inv hr j hj
      omega
  | succ k ih =>
    intro done a inv hfree hr hy H
    refine ⟨some_ready done hr, fun j hj => ⟨low done inv hr j hj, ?_⟩⟩
    by_cases e : j = i
    · subst e; exact hy.qOp hi H
    · obtain ⟨hjun, oj, hoj, hall⟩ := mem_ready.1 hj
      have hun := (mem_ready.1 hr).1
      have hno : ∀ e ∈ oj.after, Region.binds md e = true → e.on ≠ i := fun e he hb h => by
        have := hall e he hb
        rw [h, getD_both hun] at this
        cases this
      refine qOp_mono (fun a' h3 => ih (done.setIfInBounds j true) a' (inv.set hj (low done inv hr j hj)) (fun k' ok hk hki hk' hnk => hfree k' ok hk hki ?_ hnk) (ready_mono hr (Ne.symm e)) h3.1 ?_)
        (qOp_put hoj (hfree j oj hoj e hjun hno) (fun cs b => hsel i o cs b hi) (fun cs b => hsel j oj cs b hoj) hy (H.2 j (ready_mono hj e)).2)
      · by_cases e' : j = k'
        · subst e'; exact hjun
        · rw [getD_set_ne true e'] at hk'; exact hk'
      · rw [Array.setIfInBounds_comm _ _ e]; exact h3.2

theorem headQ_lex {n g : Nat} {K : Act → Prop} (hsel : Region.noSelect ops = true) (hs : Region.sinkB md ops n = true) (hc : Region.chainB md ops n = true) (hn : n < ops.size) (l : List Oper) :
    ∀ (k : Nat) (done : Array Bool) (a : Act), (∀ j, j < l.length → l[j]? = ops[k + j]?) → k + l.length = n → HeadInv md ops n done → Region.lexHead md ops g l.length k done = true →
    wpQuiet P ops C K l a → headQ P md ops C n (fun done' a' => Region.seqB md ops g n done' = true ∧ K a') l.length done a := by
  induction l with
  | nil =>
    intro k done a _ hk _ hB h
    obtain rfl : k = n := by simpa using hk
    exact ⟨by simpa [Region.lexHead] using hB, h⟩
  | cons o l ih =>
    intro k done a hl hk inv hB h
    have h0 : ops[k]? = some o := by simpa using (hl 0 (by simp)).symm
    simp only [List.length_cons] at hk
    simp only [List.length_cons, Region.lexHead, Bool.and_eq_true] at hB
    have hr : k ∈ Region.ready md ops done := by simpa using hB.1.1
    obtain ⟨v, hy, hK⟩ := yieldsIn_of_qOp (C := C) (K := wpQuiet P ops C K l) h0 (by unfold qOp; simp only [h0]; exact h)
    exact headQ_first h0 (Region.noSelect_spec hsel) hs hc hn (by omega) (fun done' a' hL => seqB_ready hL.1) l.length done a inv (Region.free_spec h0 hB.1.2) hr hy
      (ih (k + 1) _ _ (fun j hj => by have := hl (j + 1) (by simp; omega); simpa [Nat.add_assoc, Nat.add_comm 1 j] using this) (by omega) (inv.set hr (by omega)) hB.2 hK)

theorem region_tail {id : Nat} {Q : Exit → Act → World → Prop} {a : Act} {w : World} {l : List Oper} (C : World → Prop) (n : Nat) (hm : P.follows .mixedOrders = true) (hB : Region.lexTailB .any l.toArray n = true) (hC : C w.drew)
    (h : wpQuiet P l.toArray C (fun a' => ∀ w', C w' → wpList P l.toArray Q (l.drop n) a' w') (l.take n) a) : (Code.region id l.toArray true).wp P Q a w := by
  simp only [Region.lexTailB, Bool.and_eq_true, decide_eq_true_eq] at hB
  obtain ⟨⟨⟨⟨hsel, hn⟩, hs⟩, hc⟩, hlex⟩ := hB
  have hl : n < l.length := by simpa using hn
  have ht : (l.take n).length = n := by simp; omega
  have hd : (l.drop n).length = l.toArray.size - n := by simp
  have H := headQ_lex (md := .any) (g := l.toArray.size - n) hsel hs hc hn (l.take n) 0 (Array.replicate l.toArray.size false) a (fun j hj => by
    have hj' : j < n := by rw [ht] at hj; exact hj
    simp [hj']) (by simpa using ht) ⟨by simp, fun j oj _ e => (by rw [getD_replicate_false] at e; cases e), fun t _ e => getD_in (by simpa using e) (getD_replicate_false _ _)⟩ (by rw [ht]; exact hlex) h
  refine wp_region_any hm ?_
  have := headQ_any (Q := Q) (g := l.toArray.size - n) (fun done a' w' hw' hL => by
    have := wpAny_of_seq (md := .any) (Q' := Q) (l.drop n) n done a' w' (fun j => by simp [List.getElem?_drop]) (by rw [hd]; exact hL.1) (hL.2 w' hw')
    rwa [hd] at this) _ _ _ _ hC H
  rw [ht, show n + (l.toArray.size - n) = l.toArray.size by omega] at this
  exact this

/-- one operation of the head -/
theorem q_step {o : Oper} {rest : List Oper} {a : Act} {K : Act → Prop} (hw : Region.wanted o (yielded ops a.tmps) = true) (v : Value) (h1 : ∀ w, C w → o.quietAt P a C w v) (h2 : wpQuiet P ops C K rest (a.put o.dst v)) :
    wpQuiet P ops C K (o :: rest) a := by
  unfold wpQuiet; rw [if_pos hw]; exact ⟨v, h1, h2⟩
end

/-- the class: what has been made before stands, and new blocks may have come -/
def Grown (w0 w : World) : Prop := Below w0.heap.size w0 w
theorem Grown.drew (w : World) : Grown w w.drew := ⟨rfl, rfl, rfl, Nat.le_refl _, fun _ _ => rfl⟩
theorem Grown.cells {w0 w : World} {g : Nat} {c : Array Value} (h : Grown w0 w) (hc : cellsOf w0 g = c) (hg : g < w0.heap.size) : cellsOf w g = c := (below_cells h hg).trans hc
theorem Grown.row {w0 w : World} {g n : Nat} (h : Grown w0 w) (hr : rowOk w0 g n) : rowOk w g n := (below_row h hr.lt).2 hr
theorem Grown.call {w0 w w' : World} (h : Grown w0 w) (hb : Below w.heap.size w w') : Grown w0 w' := Below.trans h (hb.mono h.size)
end Go.Proofs.Ytlmhnimpglookaa

namespace Go.Proofs.Ytlmhnimpglookaa
open Go.RowKit

/-- bytes as cells; a list of bytes in a row of its own -/
def bytesL (l : List Nat) : List Value := l.map fun (x : Nat) => Value.int .u8 (x : Int)
def OwnB (B : Nat) (w : World) (v : Value) (l : List Nat) : Prop := w.ownsRow B 5 1 v l.length (bytesL l)
theorem infoU8 : (Try.prog.info? 5).map (fun i => (i.zero, i.size, i.bytes)) = some (some (.int .u8 0), 1, 1) := by kernel_rfl
theorem plainU8 : Try.prog.plainKey 5 = true := by kernel_rfl
/-- an element of an array of bytes that is a value -/
theorem run_index8 {T : TypeId} {n : Nat} (hT : Try.prog.underlying T = some (.array n 5)) {cs : Array Value} {j v : Nat} (hj : j < n) (h : cs[j]? = some (.int .u8 v)) (w : World) :
    (Instr.index T (.agg cs) (.int .i64 j)).run Try.prog w = .ok (.int .u8 v) w := by
  obtain ⟨i0, hi, hz0, hz1, hz2⟩ := info_parts infoU8
  simp [Instr.index, run_underlying hT, asIntOf, hj, go_sem, sizeOf, typeInfo, hi, hz1, h]
theorem OwnB.at {B : Nat} {w : World} {v : Value} {l : List Nat} (h : OwnB B w v l) {k : Nat} (hk : k < l.length) :
    ∃ g c, v = .slice (some ⟨g, 0, none⟩) l.length c ∧ B ≤ g ∧ g < w.heap.size ∧ l.length ≤ c ∧ c ≤ maxLen ∧ w.cell? ⟨g, k, none⟩ = some (.int .u8 (l[k] : Nat)) := by
  rcases h.2 with ⟨_, e⟩ | ⟨g, cap, cur, rfl, hB, hh, h1, h2, h3, h4⟩
  · omega
  · refine ⟨g, cap, rfl, hB, ?_, h1, h2, ?_⟩
    · rcases Nat.lt_or_ge g w.heap.size with c | c
      · exact c
      · rw [Array.getElem?_eq_none c] at hh; cases hh
    · rw [cell_of_cells, cellsOf_heap hh]
      have := congrArg (·[k]?) h4
      simp only [Nat.mul_one, List.getElem?_take_of_lt hk, Array.getElem?_toList] at this
      rw [this]
      unfold bytesL
      rw [List.getElem?_map, List.getElem?_eq_getElem hk]; rfl
theorem ownB_form {B : Nat} {w : World} {v : Value} {l : List Nat} (h : OwnB B w v l) : ∃ A c, v = .slice A l.length c := own_slice h

/-- the search, j of the two steps from X -/
def bst (f g : Nat → Nat) (S : List Nat × (Nat → Bool)) (X : Nat) : Nat → List Nat × (Nat → Bool)
  | 0 => S
  | 1 => badd S (f X)
  | _ + 2 => badd (badd S (f X)) (g X)
def stepY (f g : Nat → Nat) (X j : Nat) : Nat := if j = 0 then f X else g X
theorem bst_step (f g : Nat → Nat) (S : List Nat × (Nat → Bool)) (X : Nat) {j : Nat} (hj : j < 2) : bst f g S X (j + 1) = badd (bst f g S X j) (stepY f g X j) := by
  rcases j with _ | _ | j
  · rfl
  · rfl
  · omega
theorem stepY_lt {f g : Nat → Nat} {X m : Nat} (hf : f X < m) (hg : g X < m) (j : Nat) : stepY f g X j < m := by unfold stepY; split <;> assumption
theorem bst_inv {f g : Nat → Nat} {S : List Nat × (Nat → Bool)} {X m : Nat} (hS : BInv m S) (hf : f X < m) (hg : g X < m) (j : Nat) : BInv m (bst f g S X j) := by
  rcases j with _ | _ | j
  · exact hS
  · exact hS.add hf
  · exact (hS.add hf).add hg
theorem bfs_start (f g : Nat → Nat) (x : Nat) : bfs f g x 0 = ([x], mset (fun _ => false) x) := by rw [bfs]; rfl
theorem bfs_next {f g : Nat → Nat} {x k : Nat} (hk : k < (bfs f g x k).1.length) : bfs f g x (k + 1) = bst f g (bfs f g x k) (bfs f g x k).1[k] 2 := by
  rw [bfs, List.getElem?_eq_getElem hk]; rfl
theorem bst_pre (f g : Nat → Nat) (S : List Nat × (Nat → Bool)) (X j : Nat) : S.1 <+: (bst f g S X j).1 := by
  rcases j with _ | _ | j
  · exact List.prefix_refl _
  · exact badd_le _ _
  · exact (badd_le _ _).trans (badd_le _ _)
theorem badd_old {S : List Nat × (Nat → Bool)} {y : Nat} (h : S.2 y = true) : badd S y = S := by unfold badd; rw [if_pos h]
theorem badd_new {S : List Nat × (Nat → Bool)} {y : Nat} (h : S.2 y = false) : badd S y = (S.1 ++ [y], mset S.2 y) := by unfold badd; rw [if_neg (by simp [h])]; rfl

set_option maxRecDepth 100000 in
set_option maxHeartbeats 1000000 in
theorem dartsFrom_any (f g : Nat → Nat) (m : Nat) (hm : m ≤ 16) (hf : ∀ i, i < m → f i < m) (hg : ∀ i, i < m → g i < m) (x : Nat) (hx : x < m) (n : Int) (w : World) :
    Calls Try.prog 107 #[.agg (dv n f g), .int .u8 x] w fun e w' => ∃ v, e = .returned v ∧ Below w.heap.size w w' ∧ OwnB w.heap.size w' v (bfs f g x 16).1 := by
  have HI := hide fun k => bfs_inv hf hg hx k
  have HF := hide hf; clear hf
  have HG := hide hg; clear hg
  obtain ⟨i0, hi, hz0, hz1, hz2⟩ := info_parts infoU8
  have I0 := hide (And.intro hi (And.intro hz0 (And.intro hz1 hz2))); clear hi hz0 hz1 hz2
  have hx16 : x < 16 := by omega
  have h0 := bv_set (fun _ => false) x
  rw [bv_false] at h0
  go_enter Try.func107, Try.ntmps107
  go_wp2
  go_loopw [5, 7] (fun out i wr => ∃ k : Nat, k ≤ 16 ∧ i = .int .i64 k ∧ Below w.heap.size w wr ∧ cellsOf wr w.heap.size = dv n f g ∧ wr.heap[w.heap.size + 1 + 1]? = some (.cells (bv (bfs f g x k).2) 88 (0, 0)) ∧ OwnB (w.heap.size + 1) wr out (bfs f g x k).1)
    (fun _ i _ => 16 - (intOf i).toNat)
  case atStart => exact ⟨0, by omega, rfl, below3 _ _ _ _, cellsOf_heap (heap2 rfl), by rw [bfs_start]; exact heap_at _ _ _ (by simp), by rw [bfs_start]; exact ⟨by simp [bytesL], .inr ⟨w.heap.size + 1, 1, #[.int .u8 x], rfl, Nat.le_refl _, heap1 (by simp), Nat.le_refl _, by unfold maxLen; omega, by simp, by simp [bytesL]⟩⟩⟩
  case round =>
    obtain ⟨k, hk, rfl, hb, hcd, hhm, hown⟩ := hrel
    have hI := HI.out k
    have hl16 : (bfs f g x k).1.length ≤ 16 := by have := hI.length_le; omega
    by_cases hlt : k < (bfs f g x k).1.length
    · have hnext := bfs_next hlt
      have hX := hI.lt _ (List.getElem_mem hlt)
      obtain ⟨g0, c, rfl, hB0, hg0, hc1, hc2, hcell⟩ := hown.at hlt
      have hsz := hb.size
      have hk16 : k < 16 := by omega
      generalize hS : bfs f g x k = S at *
      generalize S.1[k] = X at *
      have HS := hide hS; clear hS
      have HN := hide hnext; clear hnext
      have hX16 : X < 16 := by omega
      have hfX := HF.out X hX
      have hgX := HG.out X hX
      have cb : wr.cell? ⟨w.heap.size, 1 + X, none⟩ = some (.int .u8 (f X)) := by rw [cell_of_cells, hcd, dv_b _ _ _ hX16]
      have cw : wr.cell? ⟨w.heap.size, 17 + X, none⟩ = some (.int .u8 (g X)) := by rw [cell_of_cells, hcd, dv_w _ _ _ hX16]
      have HCD := hide hcd; clear hcd
      have HM := hide hhm; clear hhm
      have HO := hide hown; clear hown
      have HIV := hide hI; clear hI
      go_wp2
      go_quiet (fail)
      go_wp2
      have hbz : Below w.heap.size w (wr.drewN nq) := ⟨hb.os, hb.tape, hb.output, hb.size, hb.block⟩
      have hcz : cellsOf (wr.drewN nq) w.heap.size = dv n f g := HCD.out
      have hmz : (wr.drewN nq).heap[w.heap.size + 1 + 1]? = some (.cells (bv S.2) 88 (0, 0)) := HM.out
      have hoz : OwnB (w.heap.size + 1) (wr.drewN nq) (.slice (some ⟨g0, 0, none⟩) S.1.length c) S.1 := HO.out
      clear hcell cb cw HCD HM HO hb hg0 hc1 hc2 hlt hsz
      generalize wr.drewN nq = wz at *
      clear wr
      go_loopw [5, 35] (fun out j wr => ∃ jj : Nat, jj ≤ 2 ∧ j = .int .i64 jj ∧ Below w.heap.size w wr ∧ cellsOf wr w.heap.size = dv n f g ∧ wr.heap[w.heap.size + 1 + 1]? = some (.cells (bv (bst f g S X jj).2) 88 (0, 0)) ∧ OwnB (w.heap.size + 1) wr out (bst f g S X jj).1)
        (fun _ j _ => 2 - (intOf j).toNat)
      case atStart => exact ⟨0, by omega, rfl, hbz, hcz, hmz, hoz⟩
      case round =>
        obtain ⟨j, hj, rfl, hb, hcd, hhm, hown⟩ := hrel
        clear hbz hcz hmz hoz
        have hsz := hb.size
        by_cases hj2 : j < 2
        · have hst := bst_step f g S X hj2
          have hYl := stepY_lt hfX hgX j
          have hidx : (#[Value.int .u8 (f X), Value.int .u8 (g X)] : Array Value)[j]? = some (.int .u8 (stepY f g X j)) := by
            rcases j with _ | _ | j
            · rfl
            · rfl
            · omega
          have hrun := run_index8 Try.underlying135 hj2 hidx
          have hIT := bst_inv HIV.out hfX hgX j
          generalize bst f g S X j = T at *
          generalize stepY f g X j = Y at *
          have hTl : T.1.length ≤ 16 := by have := hIT.length_le; omega
          have hY16 : Y < 16 := by omega
          have hlw : w.heap.size + 1 + 1 < wr.heap.size := by
            rcases Nat.lt_or_ge (w.heap.size + 1 + 1) wr.heap.size with e | e
            · exact e
            · rw [Array.getElem?_eq_none e] at hhm; cases hhm
          have hcm : cellsOf wr (w.heap.size + 1 + 1) = bv T.2 := cellsOf_heap hhm
          have HCD := hide hcd; clear hcd
          rcases hTY : T.2 Y with _ | _
          · have c0 : wr.cell? ⟨w.heap.size + 1 + 1, Y, none⟩ = some (.bool false) := by rw [cell_of_cells, hcm, bv_get _ hY16, hTY]
            have f0 : wr.frozen? ⟨w.heap.size + 1 + 1, Y, none⟩ = false := by simp [World.frozen?, hhm]
            have hS : World.grownBy wr (wr.setCell ⟨w.heap.size + 1 + 1, Y, none⟩ (.bool true)) (some (w.heap.size + 1 + 1)) := grown_setCell (grown_refl _ _)
            have hownA : (wr.setCell ⟨w.heap.size + 1 + 1, Y, none⟩ (.bool true)).ownsRow (w.heap.size + 1) 5 1 u5 T.1.length (bytesL T.1) := World.ownsRow.kept hown hS (own_ne_blk hown hhm (by decide))
            have hnb := own_ne_blk hown hhm (by decide)
            have hhs : (wr.setCell ⟨w.heap.size + 1 + 1, Y, none⟩ (.bool true)).heap[w.heap.size + 1 + 1]? = some (.cells (bv (mset T.2 Y)) 88 (0, 0)) := by rw [heap_setCell_same _ _ _ _ _ _ hhm, bv_set]
            have hbs : Below w.heap.size w (wr.setCell ⟨w.heap.size + 1 + 1, Y, none⟩ (.bool true)) := hb.grown hS hsz (fun g hg => by simp at hg; omega)
            have HH := hide hhm; clear hhm hcm
            have HS2 := hide hhs; clear hhs
            have HNB := hide hnb; clear hnb
            have HST := hide hst; clear hst
            have HTY := hide hTY; clear hTY
            have HBS := hide hbs; clear hbs
            have HOA := hide hownA; clear hownA
            go_wp2_with (at_builtin; refine wpList_append_own _ rfl _ _ 105 rfl (w.heap.size + 1) 5 i0 (.int .u8 0) 1 1 Try.underlying105 I0.out.1 I0.out.2.1 I0.out.2.2.1 I0.out.2.2.2 rfl (by decide) _ _ _ rfl (HOA.out.alloc _) ⟨wr.heap.size, 0, none⟩ 1 1 [.int .u8 Y] rfl rfl ?c1 ?c2 ?c3 ?c4 ?c5 ?_)
            case c1 => exact one_new _ _ _ _ (by simp)
            case c2 => intro u hu; simp at hu; subst hu; rfl
            case c3 => unfold maxLen; omega
            case c4 => omega
            case c5 => simp; omega
            intro v' w1 hown' hg' _
            have hrow : ∀ g, u5.ownBlock = some g → w.heap.size + 1 ≤ g := fun g hg => (HOA.out.lt g hg).1
            have hslt : w.heap.size + 1 + 1 < ((wr.setCell ⟨w.heap.size + 1 + 1, Y, none⟩ (.bool true)).alloc (.cells #[.int .u8 Y] 5)).heap.size := by simp; omega
            have hpc : cellsOf w1 w.heap.size = dv n f g := by
              rw [grown_cells hg' (by simp; omega) (fun e => by have := hrow _ e.symm; omega), cellsOf_past (by simp; omega), cellsOf_setCell_ne (by omega)]; exact HCD.out
            have hmc : w1.heap[w.heap.size + 1 + 1]? = some (.cells (bv (mset T.2 Y)) 88 (0, 0)) := by
              rw [hg'.block _ hslt (fun e => by rcases HNB.out with c | c; rw [c] at e; cases e; exact c e.symm), heap_past _ _ _ (by simp; omega)]; exact HS2.out
            have hbw : Below w.heap.size w w1 := (HBS.out.alloc (by simp; omega) _).grown hg' (by simp; omega) (fun g hg => by have := hrow g hg; omega)
            have hO : OwnB (w.heap.size + 1) w1 v' (badd T Y).1 := by
              rw [badd_new HTY.out]
              unfold OwnB bytesL at *
              simpa using hown'
            have H1 := hide hpc; clear hpc
            have H2 := hide hmc; clear hmc
            have H3 := hide hO; clear hO
            clear hown' hg' hrow c0 f0 hS HS2 HBS HOA HH HNB hslt hown
            go_wp2
            go_roundw
            case rel => exact ⟨j + 1, by omega, by go_num, hbw, H1.out, by rw [HST.out, badd_new HTY.out]; exact H2.out, by rw [HST.out]; exact H3.out⟩
            case measure => simp [intOf]; omega
          · have c0 : wr.cell? ⟨w.heap.size + 1 + 1, Y, none⟩ = some (.bool true) := by rw [cell_of_cells, hcm, bv_get _ hY16, hTY]
            have HH := hide hhm; clear hhm hcm
            have HST := hide hst; clear hst
            have HTY := hide hTY; clear hTY
            have HO := hide hown; clear hown
            go_wp2
            go_roundw
            case rel => exact ⟨j + 1, by omega, by go_num, hb, HCD.out, by rw [HST.out, badd_old HTY.out]; exact HH.out, by rw [HST.out, badd_old HTY.out]; exact HO.out⟩
            case measure => simp [intOf]; omega
        · obtain rfl : j = 2 := by omega
          have HH := hide hhm; clear hhm
          have HO := hide hown; clear hown
          have HCD := hide hcd; clear hcd
          go_wp2
          go_roundw
          case rel => exact ⟨k + 1, by omega, by go_num, hb, HCD.out, by rw [HN.out]; exact HH.out, by rw [HN.out]; exact HO.out⟩
          case measure => simp [intOf]; omega
    · obtain ⟨A, c, rfl⟩ := ownB_form hown
      have hst := bfs_stop (p := f) (q := g) (z := x) (i := k) (by omega) (j := 16) hk
      clear hhm hcd hI
      have HST := hide hst; clear hst
      have HO := hide hown; clear hown
      generalize bfs f g x k = S at *
      go_wp2
      go_ret
      exact ⟨_, rfl, hb, by rw [HST.out]; exact ⟨HO.out.1, HO.out.2.imp id (fun ⟨g, cap, cur, h1, h2, h3⟩ => ⟨g, cap, cur, h1, by omega, h3⟩)⟩⟩
end Go.Proofs.Ytlmhnimpglookaa

namespace Go.Proofs.Ytlmhnimpglookaa
open Go.RowKit

open Classical in
noncomputable def connB (f g : Nat → Nat) (m : Nat) : Bool := decide (conn f g m)
theorem connB_int (f g : Nat → Nat) (m : Nat) : ((((bfs f g 0 16).1.length : Nat) : Int) == (m : Int)) = connB f g m := by
  unfold connB conn
  generalize (bfs f g 0 16).1.length = a
  by_cases h : a = m
  · subst h; simp
  · have : ¬ (a : Int) = (m : Int) := by omega
    rw [beq_eq_false_iff_ne.2 this]; simp [h]

set_option maxRecDepth 100000 in
set_option maxHeartbeats 1000000 in
theorem isConn_any (f g : Nat → Nat) (m : Nat) (h0 : 0 < m) (hm : m ≤ 16) (hf : ∀ i, i < m → f i < m) (hg : ∀ i, i < m → g i < m) (w : World) :
    Calls Try.prog 85 #[.agg (dv m f g)] w fun e w' => e = .returned (.bool (connB f g m)) ∧ Below w.heap.size w w' := by
  have C : ∀ w1 : World, (cellsOf w1 w.heap.size = dv m f g ∧ w1.cell? ⟨w.heap.size, 0, none⟩ = some (.int .i64 m) ∧ w.heap.size < w1.heap.size ∧ Below w.heap.size w w1) →
      Calls Try.prog 107 #[.agg (dv m f g), .int .u8 0] w1 fun e w' => ∃ A c, e = .returned (.slice A (bfs f g 0 16).1.length c) ∧
        (cellsOf w' w.heap.size = dv m f g ∧ w'.cell? ⟨w.heap.size, 0, none⟩ = some (.int .i64 m) ∧ w.heap.size < w'.heap.size ∧ Below w.heap.size w w') := fun w1 ⟨h1, h2, h3, h4⟩ => by
    have := dartsFrom_any f g m hm hf hg 0 h0 m w1
    rw [show ((0 : Nat) : Int) = 0 from rfl] at this
    refine Calls.mono this ?_
    rintro e w' ⟨v, rfl, hb, ho⟩
    obtain ⟨A, c, rfl⟩ := ownB_form ho
    exact ⟨A, c, rfl, (below_cells hb h3).trans h1, (hb.cell (p := ⟨w.heap.size, 0, none⟩) h3).trans h2, Nat.lt_of_lt_of_le h3 hb.size, h4.trans (hb.mono (Nat.le_of_lt h3))⟩
  have C := hide C
  have hl := (bfs_inv hf hg h0 16).length_le
  have hb := connB_int f g m
  generalize bfs f g 0 16 = S at *
  generalize connB f g m = B at *
  clear hf hg
  have hn : cellsOf (w.alloc (.cells (dv m f g) 44)) w.heap.size = dv m f g := cellsOf_at rfl
  have hn2 : (w.alloc (.cells (dv m f g) 44)).cell? ⟨w.heap.size, 0, none⟩ = some (.int .i64 m) := by rw [cell_of_cells, hn]; exact dv_n m f g
  have hb1 := below1 w (.cells (dv m f g) 44)
  go_enter Try.func85, Try.ntmps85
  go_wp2
  go_region_held3 (fun w' => cellsOf w' w.heap.size = dv m f g ∧ w'.cell? ⟨w.heap.size, 0, none⟩ = some (.int .i64 m) ∧ w.heap.size < w'.heap.size ∧ Below w.heap.size w w') (first | assumption | exact ⟨hn, hn2, by simp, hb1.drew⟩) (first | (go_at_call 107; refine Calls.mono (C.out _ (by assumption)) ?_; rintro e w1 ⟨A, c, rfl, hS1⟩))
  all_goals go_wp2
  all_goals go_ret
  all_goals exact ⟨rfl, hS1.2.2.2⟩

set_option maxRecDepth 100000 in
set_option maxHeartbeats 1000000 in
theorem sConn_any (f g : Nat → Nat) (m : Nat) (h0 : 0 < m) (hm : m ≤ 16) (hf : ∀ i, i < m → f i < m) (hg : ∀ i, i < m → g i < m) (w : World) :
    Calls Try.prog 83 #[.int .i64 m, .agg (av f), .agg (av g)] w fun e w' => e = .returned (.bool (connB f g m)) ∧ Below w.heap.size w w' := by
  obtain ⟨F, FI, F0, FN, FS, FB⟩ : ∃ F : Nat → List Nat × (Nat → Bool), Hid (∀ k, BInv m (F k)) ∧ Hid (F 0 = ([0], mset (fun _ => false) 0)) ∧ Hid (∀ k (hk : k < (F k).1.length), F (k + 1) = bst f g (F k) ((F k).1[k]) 2) ∧
      Hid (∀ k, k ≤ 16 → (F k).1.length ≤ k → F 16 = F k) ∧ Hid ((((F 16).1.length : Nat) == (m : Int)) = connB f g m) :=
    ⟨bfs f g 0, hide fun k => bfs_inv hf hg h0 k, hide (bfs_start f g 0), hide fun k hk => bfs_next hk, hide fun k h1 h2 => bfs_stop h2 h1, hide (connB_int f g m)⟩
  have HF := hide hf; clear hf
  have HG := hide hg; clear hg
  generalize connB f g m = B at *
  obtain ⟨i0, hi, hz0, hz1, hz2⟩ := info_parts infoU8
  have I0 := hide (And.intro hi (And.intro hz0 (And.intro hz1 hz2))); clear hi hz0 hz1 hz2
  have h00 := bv_set (fun _ => false) 0
  rw [bv_false] at h00
  go_enter Try.func83, Try.ntmps83
  go_wp2
  have hlit : bv (mset (fun _ => false) 0) = #[.bool true, .bool false, .bool false, .bool false, .bool false, .bool false, .bool false, .bool false, .bool false, .bool false, .bool false, .bool false, .bool false, .bool false, .bool false, .bool false] := by unfold bv row; rfl
  go_loopw [8, 9] (fun out i wr => ∃ k : Nat, k ≤ 16 ∧ i = .int .i64 k ∧ Below w.heap.size w wr ∧ cellsOf wr w.heap.size = av f ∧ cellsOf wr (w.heap.size + 1) = av g ∧ wr.heap[w.heap.size + 1 + 1 + 1]? = some (.cells (bv (F k).2) 88 (0, 0)) ∧ OwnB (w.heap.size + 2) wr out (F k).1)
    (fun _ i _ => 16 - (intOf i).toNat)
  case atStart => exact ⟨0, by omega, rfl, below4 _ _ _ _ _, cellsOf_heap (heap3 rfl), cellsOf_heap (heap2 (by simp)), by rw [F0.out]; show _ = some (Obj.cells (bv (mset (fun _ => false) 0)) _ _); rw [hlit]; exact heap_at _ _ _ (by simp), by rw [F0.out]; exact ⟨by simp [bytesL], .inr ⟨w.heap.size + 1 + 1, 1, #[.int .u8 0], rfl, Nat.le_refl _, heap1 (by simp), Nat.le_refl _, by unfold maxLen; omega, by simp, by simp [bytesL]⟩⟩⟩
  case round =>
    clear hlit h00
    obtain ⟨k, hk, rfl, hb, hcf, hcg, hhm, hown⟩ := hrel
    have hI := FI.out k
    have hl16 : (F k).1.length ≤ 16 := by have := hI.length_le; omega
    by_cases hlt : k < (F k).1.length
    · have hnext := FN.out k hlt
      have hX := hI.lt _ (List.getElem_mem hlt)
      obtain ⟨g0, c, rfl, hB0, hg0, hc1, hc2, hcell⟩ := hown.at hlt
      have hsz := hb.size
      have hk16 : k < 16 := by omega
      generalize hS : F k = S at *
      generalize S.1[k] = X at *
      have HS := hide hS; clear hS
      have HN := hide hnext; clear hnext
      have hX16 : X < 16 := by omega
      have hfX := HF.out X hX
      have hgX := HG.out X hX
      have cb : wr.cell? ⟨w.heap.size, X, none⟩ = some (.int .u8 (f X)) := by rw [cell_of_cells, hcf, av_get _ hX16]
      have cw : wr.cell? ⟨w.heap.size + 1, X, none⟩ = some (.int .u8 (g X)) := by rw [cell_of_cells, hcg, av_get _ hX16]
      have HCF := hide hcf; clear hcf
      have HCG := hide hcg; clear hcg
      have HM := hide hhm; clear hhm
      have HO := hide hown; clear hown
      have HIV := hide hI; clear hI
      have hlw : w.heap.size + 1 + 1 + 1 < wr.heap.size := by
        rcases Nat.lt_or_ge (w.heap.size + 1 + 1 + 1) wr.heap.size with e | e
        · exact e
        · have := HM.out; rw [Array.getElem?_eq_none e] at this; cases this
      go_wp2
      go_region
      go_wp2
      have hz : World.grownBy wr ((wr.alloc (.cells #[.int .u8 (f X), .int .u8 (g X)] 5)).drew) none := grown_drew (grown_alloc (grown_refl _ _) _)
      have hbz : Below w.heap.size w ((wr.alloc (.cells #[.int .u8 (f X), .int .u8 (g X)] 5)).drew) := hb.grown hz hsz (fun g hg => by cases hg)
      have hcz : cellsOf ((wr.alloc (.cells #[.int .u8 (f X), .int .u8 (g X)] 5)).drew) w.heap.size = av f := by rw [grown_cells hz (by omega) (by simp)]; exact HCF.out
      have hcz' : cellsOf ((wr.alloc (.cells #[.int .u8 (f X), .int .u8 (g X)] 5)).drew) (w.heap.size + 1) = av g := by rw [grown_cells hz (by omega) (by simp)]; exact HCG.out
      have hmz : ((wr.alloc (.cells #[.int .u8 (f X), .int .u8 (g X)] 5)).drew).heap[w.heap.size + 1 + 1 + 1]? = some (.cells (bv S.2) 88 (0, 0)) := by rw [hz.block _ hlw (by simp)]; exact HM.out
      have hoz : OwnB (w.heap.size + 2) ((wr.alloc (.cells #[.int .u8 (f X), .int .u8 (g X)] 5)).drew) (.slice (some ⟨g0, 0, none⟩) S.1.length c) S.1 := World.ownsRow.kept HO.out hz (.inr (by simp [Value.ownBlock]))
      have hnz : ((wr.alloc (.cells #[.int .u8 (f X), .int .u8 (g X)] 5)).drew).heap[wr.heap.size]? = some (.cells #[.int .u8 (f X), .int .u8 (g X)] 5 (0, 0)) := heap_at wr (.cells #[.int .u8 (f X), .int .u8 (g X)] 5) _ rfl
      have hnb : wr.heap.size < ((wr.alloc (.cells #[.int .u8 (f X), .int .u8 (g X)] 5)).drew).heap.size := by simp
      obtain ⟨b, hbeq⟩ : ∃ b, b = wr.heap.size := ⟨_, rfl⟩
      rw [← hbeq] at hnz hnb hlw hg0 ⊢
      have hgne : g0 ≠ b := by omega
      clear hcell cb cw HCF HCG HM HO hb hg0 hc1 hc2 hlt hsz hz hbeq
      generalize (wr.alloc (.cells #[.int .u8 (f X), .int .u8 (g X)] 5)).drew = wz at *
      clear wr
      go_loopw [8, 11] (fun out j wr => ∃ jj : Nat, jj ≤ 2 ∧ j = .int .i64 jj ∧ Below w.heap.size w wr ∧ cellsOf wr w.heap.size = av f ∧ cellsOf wr (w.heap.size + 1) = av g ∧ wr.heap[w.heap.size + 1 + 1 + 1]? = some (.cells (bv (bst f g S X jj).2) 88 (0, 0)) ∧ OwnB (w.heap.size + 2) wr out (bst f g S X jj).1 ∧
          b < wr.heap.size ∧ (jj < 2 → wr.heap[b]? = some (.cells #[.int .u8 (f X), .int .u8 (g X)] 5 (0, 0))) ∧ (jj = 0 → out.ownBlock ≠ some b))
        (fun _ j _ => 2 - (intOf j).toNat)
      case atStart => exact ⟨0, by omega, rfl, hbz, hcz, hcz', hmz, hoz, hnb, fun _ => hnz, fun _ e => hgne (by injection e)⟩
      case round =>
        clear hbz hcz hcz' hmz hoz hnb hnz hgne
        obtain ⟨j, hj, rfl, hb, hcf, hcg, hhm, hown, hbl, hbb, hbn⟩ := hrel
        have hsz := hb.size
        have HCF := hide hcf; clear hcf
        have HCG := hide hcg; clear hcg
        by_cases hj2 : j < 2
        · have hst := bst_step f g S X hj2
          have hYl := stepY_lt hfX hgX j
          have hidx : (#[Value.int .u8 (f X), Value.int .u8 (g X)] : Array Value)[j]? = some (.int .u8 (stepY f g X j)) := by
            rcases j with _ | _ | j
            · rfl
            · rfl
            · omega
          have hcY : wr.cell? ⟨b, j, none⟩ = some (.int .u8 (stepY f g X j)) := by rw [cell_of_cells, cellsOf_heap (hbb hj2)]; exact hidx
          have hIT := bst_inv HIV.out hfX hgX j
          generalize bst f g S X j = T at *
          generalize stepY f g X j = Y at *
          clear hidx
          have hTl : T.1.length ≤ 16 := by have := hIT.length_le; omega
          have hY16 : Y < 16 := by omega
          have hcm : cellsOf wr (w.heap.size + 1 + 1 + 1) = bv T.2 := cellsOf_heap hhm
          have HBB := hide (hbb hj2); clear hbb
          rcases hTY : T.2 Y with _ | _
          · have c0 : wr.cell? ⟨w.heap.size + 1 + 1 + 1, Y, none⟩ = some (.bool false) := by rw [cell_of_cells, hcm, bv_get _ hY16, hTY]
            have f0 : wr.frozen? ⟨w.heap.size + 1 + 1 + 1, Y, none⟩ = false := by simp [World.frozen?, hhm]
            have hS : World.grownBy wr (wr.setCell ⟨w.heap.size + 1 + 1 + 1, Y, none⟩ (.bool true)) (some (w.heap.size + 1 + 1 + 1)) := grown_setCell (grown_refl _ _)
            have hcY2 : (wr.setCell ⟨w.heap.size + 1 + 1 + 1, Y, none⟩ (.bool true)).cell? ⟨b, j, none⟩ = some (.int .u8 Y) := by rw [cell_of_cells, cellsOf_setCell_ne (by omega), ← cell_of_cells]; exact hcY
            have hownA : (wr.setCell ⟨w.heap.size + 1 + 1 + 1, Y, none⟩ (.bool true)).ownsRow (w.heap.size + 2) 5 1 u8 T.1.length (bytesL T.1) := World.ownsRow.kept hown hS (own_ne_blk hown hhm (by decide))
            have hnb := own_ne_blk hown hhm (by decide)
            have hhs : (wr.setCell ⟨w.heap.size + 1 + 1 + 1, Y, none⟩ (.bool true)).heap[w.heap.size + 1 + 1 + 1]? = some (.cells (bv (mset T.2 Y)) 88 (0, 0)) := by rw [heap_setCell_same _ _ _ _ _ _ hhm, bv_set]
            have hbs : Below w.heap.size w (wr.setCell ⟨w.heap.size + 1 + 1 + 1, Y, none⟩ (.bool true)) := hb.grown hS hsz (fun g hg => by simp at hg; omega)
            have hhb : (wr.setCell ⟨w.heap.size + 1 + 1 + 1, Y, none⟩ (.bool true)).heap[b]? = some (.cells #[.int .u8 (f X), .int .u8 (g X)] 5 (0, 0)) := by rw [Below.heap_setCell wr ⟨w.heap.size + 1 + 1 + 1, Y, none⟩ _ b (show b ≠ w.heap.size + 1 + 1 + 1 by omega)]; exact HBB.out
            have hl3 : w.heap.size + 1 + 1 + 1 < wr.heap.size := by omega
            have HH := hide hhm; clear hhm hcm
            have HHB := hide hhb; clear hhb HBB
            have HS2 := hide hhs; clear hhs
            have HNB := hide hnb; clear hnb
            have HBN := hide hbn; clear hbn
            have HST := hide hst; clear hst
            have HTY := hide hTY; clear hTY
            have HBS := hide hbs; clear hbs
            have HOA := hide hownA; clear hownA
            have HCY2 := hide hcY2
            go_wp2_with (at_builtin; refine wpList_append_own _ rfl _ _ 105 rfl (w.heap.size + 2) 5 i0 (.int .u8 0) 1 1 Try.underlying105 I0.out.1 I0.out.2.1 I0.out.2.2.1 I0.out.2.2.2 rfl (by decide) _ _ _ rfl (HOA.out.alloc _) ⟨wr.heap.size, 0, none⟩ 1 1 [.int .u8 Y] rfl rfl ?c1 ?c2 ?c3 ?c4 ?c5 ?_)
            case c1 => exact one_new _ _ _ _ (by simp)
            case c2 => intro u hu; simp at hu; subst hu; rfl
            case c3 => unfold maxLen; omega
            case c4 => omega
            case c5 => simp; omega
            intro v' w1 hown' hg' _
            have hrow : ∀ g, u8.ownBlock = some g → w.heap.size + 2 ≤ g := fun g hg => (HOA.out.lt g hg).1
            have hslt : w.heap.size + 1 + 1 + 1 < ((wr.setCell ⟨w.heap.size + 1 + 1 + 1, Y, none⟩ (.bool true)).alloc (.cells #[.int .u8 Y] 5)).heap.size := by simp; omega
            have hpf : cellsOf w1 w.heap.size = av f := by
              rw [grown_cells hg' (by simp; omega) (fun e => by have := hrow _ e.symm; omega), cellsOf_past (by simp; omega), cellsOf_setCell_ne (by omega)]; exact HCF.out
            have hpg : cellsOf w1 (w.heap.size + 1) = av g := by
              rw [grown_cells hg' (by simp; omega) (fun e => by have := hrow _ e.symm; omega), cellsOf_past (by simp; omega), cellsOf_setCell_ne (by omega)]; exact HCG.out
            have hmc : w1.heap[w.heap.size + 1 + 1 + 1]? = some (.cells (bv (mset T.2 Y)) 88 (0, 0)) := by
              rw [hg'.block _ hslt (fun e => by rcases HNB.out with c | c; rw [c] at e; cases e; exact c e.symm), heap_past _ _ _ (by simp; omega)]; exact HS2.out
            have hbw : Below w.heap.size w w1 := (HBS.out.alloc (by simp; omega) _).grown hg' (by simp; omega) (fun g hg => by have := hrow g hg; omega)
            have hbl1 : b < w1.heap.size := by have := hg'.size; simp at this; omega
            have hbb1 : j + 1 < 2 → w1.heap[b]? = some (.cells #[.int .u8 (f X), .int .u8 (g X)] 5 (0, 0)) := fun h => by
              rw [hg'.block _ (by simp; omega) (fun e => HBN.out (by omega) e.symm), heap_past _ _ _ (by simp; omega)]; exact HHB.out
            have hO : OwnB (w.heap.size + 2) w1 v' (badd T Y).1 := by
              rw [badd_new HTY.out]
              unfold OwnB bytesL at *
              simpa using hown'
            have H1 := hide hpf; clear hpf
            have H2 := hide hmc; clear hmc
            have H3 := hide hO; clear hO
            have H4 := hide hpg; clear hpg
            have H5 := hide hbb1; clear hbb1
            clear hown' hg' hrow c0 f0 hS HS2 HBS HOA HH HNB hslt hown hcY hcY2 HCY2 HHB HBN
            go_wp2
            go_roundw
            case rel => exact ⟨j + 1, by omega, by go_num, hbw, H1.out, H4.out, by rw [HST.out, badd_new HTY.out]; exact H2.out, by rw [HST.out]; exact H3.out, hbl1, H5.out, fun e => by omega⟩
            case measure => simp [intOf]; omega
          · have c0 : wr.cell? ⟨w.heap.size + 1 + 1 + 1, Y, none⟩ = some (.bool true) := by rw [cell_of_cells, hcm, bv_get _ hY16, hTY]
            have HH := hide hhm; clear hhm hcm
            have HST := hide hst; clear hst
            have HTY := hide hTY; clear hTY
            have HO := hide hown; clear hown
            clear hbn
            go_wp2
            go_roundw
            case rel => exact ⟨j + 1, by omega, by go_num, hb, HCF.out, HCG.out, by rw [HST.out, badd_old HTY.out]; exact HH.out, by rw [HST.out, badd_old HTY.out]; exact HO.out, hbl, fun _ => HBB.out, fun e => by omega⟩
            case measure => simp [intOf]; omega
        · obtain rfl : j = 2 := by omega
          have HH := hide hhm; clear hhm
          have HO := hide hown; clear hown
          clear hbb hbn
          go_wp2
          go_roundw
          case rel => exact ⟨k + 1, by omega, by go_num, hb, HCF.out, HCG.out, by rw [HN.out]; exact HH.out, by rw [HN.out]; exact HO.out⟩
          case measure => simp [intOf]; omega
    · obtain ⟨A, c, rfl⟩ := ownB_form hown
      have hst := FS.out k hk (by omega)
      clear hhm hcf hcg hI hown
      rw [hst] at FB
      clear hst
      generalize F k = S at *
      have hcb := FB.out
      go_wp2
      go_ret
      exact ⟨rfl, hb⟩
end Go.Proofs.Ytlmhnimpglookaa

namespace Go.Proofs.Ytlmhnimpglookaa
open Go.RowKit

theorem in_yes (n a b : Int) (w : World) (h1 : a ≤ n) (h2 : n ≤ b) : Calls Try.prog 51 #[.int .i64 n, .int .i64 a, .int .i64 b] w fun e w' => e = .returned (.bool true) ∧ w = w' := by
  go_enter Try.func51, Try.ntmps51
  go_wp2
  go_ret
  exact ⟨by simp, rfl⟩
theorem in_no (n a b : Int) (w : World) (h : ¬ (a ≤ n ∧ n ≤ b)) : Calls Try.prog 51 #[.int .i64 n, .int .i64 a, .int .i64 b] w fun e w' => e = .returned (.bool false) ∧ w = w' := by
  by_cases h1 : a ≤ n
  · have h2 : ¬ n ≤ b := fun c => h ⟨h1, c⟩
    clear h
    go_enter Try.func51, Try.ntmps51
    go_wp2
    go_ret
    exact ⟨by simp, rfl⟩
  · clear h
    go_enter Try.func51, Try.ntmps51
    go_wp2
    go_ret
    exact ⟨by simp, rfl⟩

set_option maxRecDepth 100000 in
set_option maxHeartbeats 400000 in
theorem sPerm_any (f : Nat → Nat) (hf : ∀ i, f i < 256) (n : Int) (w : World) : Calls Try.prog 70 #[.agg (av f), .int .i64 n] w fun e w' => e = .returned (.bool (permB f n)) ∧ Below w.heap.size w w' := by
  by_cases hn : 1 ≤ n ∧ n ≤ 16
  · obtain ⟨m, rfl⟩ := Int.eq_ofNat_of_zero_le (show 0 ≤ n by omega)
    have hm1 : 1 ≤ m := by omega
    have hm2 : m ≤ 16 := by omega
    clear hn
    go_enter Try.func70, Try.ntmps70
    go_wp2_with (go_at_call 51; refine (in_yes _ _ _ _ (by omega) (by omega)).mono ?_; rintro e w' ⟨rfl, rfl⟩)
    rw [← bv_false]
    go_loopw [6] (fun i wr => ∃ k : Nat, k ≤ 16 ∧ i = .int .i64 k ∧ wr = (w.alloc (.cells (av f) 42)).alloc (.cells (bv (metk f (min k m))) 88) ∧ (∀ i, i < k → i < m → f i < m) ∧ (∀ i j, i < j → j < k → j < m → f i ≠ f j) ∧ (∀ i, m ≤ i → i < k → f i = 0))
      (fun i _ => 16 - (intOf i).toNat)
    case atStart => exact ⟨0, by omega, rfl, by rw [Nat.zero_min, metk_zero], by omega, by omega, by omega⟩
    case round =>
      obtain ⟨k, hk, rfl, rfl, hb, hd, hz⟩ := hrel
      have HB := hide hb; clear hb
      have HD := hide hd; clear hd
      have HZ := hide hz; clear hz
      have h256 := hf k
      have HF := hide hf; clear hf
      by_cases hlt : k < 16
      · have h1 := av_get f (i := k) (by omega)
        by_cases hkm : k < m
        · have hmin : min k m = k := by omega
          have hmin' : min (k + 1) m = k + 1 := by omega
          rw [hmin]
          clear hmin
          by_cases hfm : f k < m
          · have h2 := bv_get (metk f k) (i := f k) (by omega)
            rcases hmk : metk f k (f k) with _ | _
            · rw [hmk] at h2
              have h3 := bv_set (metk f k) (f k)
              rw [metk_step] at h3
              have HM := hide hmk; clear hmk
              have HI := hide hmin'; clear hmin'
              go_wp2
              go_roundw
              case rel =>
                refine ⟨k + 1, by omega, by go_num, by rw [HI.out], fun i hi _ => ?_, fun i j hij hj _ e => ?_, by omega⟩
                · by_cases c : i = k
                  · subst c; exact hfm
                  · exact HB.out i (by omega) (by omega)
                · by_cases c : j = k
                  · subst c
                    have : metk f j (f j) = true := (metk_iff f j (f j)).2 ⟨i, hij, e⟩
                    rw [HM.out] at this; cases this
                  · exact HD.out i j hij (by omega) (by omega) e
              case measure => simp [intOf]; omega
            · rw [hmk] at h2
              have HM := hide hmk; clear hmk hmin'
              have hno : ¬ PermN f m := by
                rintro ⟨_, _, hbj, _⟩
                obtain ⟨i, hi, e⟩ := (metk_iff f k (f k)).1 HM.out
                have := hbj.2 i k (by omega) (by omega) e
                omega
              have HN := hide (permB_no hno); clear hno
              go_wp2
              go_ret
              exact ⟨by rw [HN.out]; rfl, below2 _ _ _⟩
          · have hno : ¬ PermN f m := by
              rintro ⟨_, _, hbj, _⟩
              exact hfm (hbj.1 k (by omega))
            have hd : decide (m ≤ f k) = true := by simp; omega
            have HN := hide (permB_no hno); clear hno hmin'
            go_wp2
            go_ret
            exact ⟨by rw [HN.out]; rfl, below2 _ _ _⟩
        · have hmin : min k m = m := by omega
          have hmin' : min (k + 1) m = m := by omega
          rw [hmin]
          have HI := hide hmin'; clear hmin hmin'
          by_cases hf0 : f k = 0
          · have h0 : ((f k : Int) != 0) = false := by simp [hf0]
            have H0 := hide hf0; clear hf0
            go_wp2
            go_roundw
            case rel =>
              refine ⟨k + 1, by omega, by go_num, by rw [HI.out], fun i hi h => HB.out i (by omega) h, fun i j hij hj h => HD.out i j hij (by omega) h, fun i hi h => ?_⟩
              by_cases c : i = k
              · subst c; exact H0.out
              · exact HZ.out i hi (by omega)
            case measure => simp [intOf]; omega
          · have h0 : ((f k : Int) != 0) = true := by simp [hf0]
            have hno : ¬ PermN f m := by
              rintro ⟨_, _, _, hz0⟩
              exact hf0 (hz0 k (by omega) (by omega))
            have HN := hide (permB_no hno); clear hno hf0
            go_wp2
            go_ret
            exact ⟨by rw [HN.out]; rfl, below2 _ _ _⟩
      · obtain rfl : k = 16 := by omega
        clear hlt hk
        have hyes : PermN f m := by
          refine ⟨hm1, hm2, ⟨fun x hx => HB.out x (by omega) hx, fun x y hx hy e => ?_⟩, fun i h1 h2 => HZ.out i h1 h2⟩
          rcases Nat.lt_trichotomy x y with c | c | c
          · exact absurd e (HD.out x y c (by omega) hy)
          · exact c
          · exact absurd e.symm (HD.out y x c (by omega) hx)
        have HN := hide (permB_yes hyes); clear hyes
        go_wp2
        go_ret
        exact ⟨by rw [HN.out]; rfl, below2 _ _ _⟩
  · rw [permB_out hn]
    go_enter Try.func70, Try.ntmps70
    go_wp2_with (go_at_call 51; refine (in_no _ _ _ _ hn).mono ?_; rintro e w' ⟨rfl, rfl⟩)
    go_ret
    exact ⟨rfl, below1 _ _⟩

end Go.Proofs.Ytlmhnimpglookaa

namespace Go.Proofs.Ytlmhnimpglookaa
open Go.RowKit

/-- a dessin of n darts, as the document has it -/
noncomputable def desB (n : Int) (f g : Nat → Nat) : Bool := permB f n && (permB g n && connB f g n.toNat)
/-- what is known of a dessin -/
structure DesN (f g : Nat → Nat) (m : Nat) : Prop where
  pos : 0 < m
  le : m ≤ 16
  black : PermN f m
  white : PermN g m
  conn : conn f g m
theorem DesN.bf {f g : Nat → Nat} {m : Nat} (h : DesN f g m) : Bij f m := h.black.2.2.1
theorem DesN.bg {f g : Nat → Nat} {m : Nat} (h : DesN f g m) : Bij g m := h.white.2.2.1
theorem desB_true {n : Int} {f g : Nat → Nat} (h : desB n f g = true) : ∃ m : Nat, n = (m : Int) ∧ DesN f g m := by
  unfold desB at h
  simp only [Bool.and_eq_true] at h
  obtain ⟨h1, h2, h3⟩ := h
  obtain ⟨m, rfl, hp⟩ := permB_true h1
  obtain ⟨m', e, hq⟩ := permB_true h2
  obtain rfl : m = m' := by omega
  rw [Int.toNat_natCast] at h3
  unfold connB at h3
  exact ⟨m, rfl, hp.1, hp.2.1, hp, hq, by simpa using h3⟩

set_option maxRecDepth 100000 in
set_option maxHeartbeats 1000000 in
theorem isDessin_any (n : Int) (f g : Nat → Nat) (hf : ∀ i, f i < 256) (hg : ∀ i, g i < 256) (w : World) :
    Calls Try.prog 67 #[.agg (dv n f g)] w fun e w' => e = .returned (.bool (desB n f g)) ∧ Below w.heap.size w w' := by
  have hn := dv_n n f g
  have C1 := hide fun w => isPerm_any f hf n w
  have C2 := hide fun w => isPerm_any g hg n w
  clear hf hg
  have hD : desB n f g = (permB f n && (permB g n && connB f g n.toNat)) := rfl
  rcases h1 : permB f n with _ | _
  · rw [h1] at C1 hD
    rw [Bool.false_and] at hD
    rw [hD]
    clear hD h1 C2
    go_enter Try.func67, Try.ntmps67
    go_wp2_with fail
    refine (C1.out _).mono ?_
    rintro e w1 ⟨rfl, hb⟩
    have b1 := (below1 w _).trans (hb.mono (by simp))
    clear hb
    go_wp2
    go_ret
    exact ⟨rfl, b1⟩
  · rcases h2 : permB g n with _ | _
    · rw [h1, h2] at hD
      rw [h1] at C1
      rw [h2] at C2
      rw [Bool.false_and, Bool.and_false] at hD
      rw [hD]
      clear hD h1 h2
      go_enter Try.func67, Try.ntmps67
      go_wp2_with fail
      refine (C1.out _).mono ?_
      rintro e w1 ⟨rfl, hb⟩
      have c1 : cellsOf w1 w.heap.size = dv n f g := (below_cells hb (by simp)).trans (cellsOf_heap (heap_at _ _ _ rfl))
      have n1 : w1.cell? ⟨w.heap.size, 0, none⟩ = some (.int .i64 n) := by rw [cell_of_cells, c1]; exact hn
      have b1 := (below1 w _).trans (hb.mono (by simp))
      clear hb
      go_wp2_with fail
      refine (C2.out _).mono ?_
      rintro e w2 ⟨rfl, hb⟩
      have b2 := b1.trans (hb.mono b1.size)
      clear hb b1 c1 n1
      go_wp2
      go_ret
      exact ⟨rfl, b2⟩
    · obtain ⟨m, rfl, hp⟩ := permB_true h1
      obtain ⟨m', e, hq⟩ := permB_true h2
      obtain rfl : m = m' := by omega
      rw [h1, h2, Bool.true_and, Bool.true_and, Int.toNat_natCast] at hD
      rw [h1] at C1
      rw [h2] at C2
      rw [hD]
      have C3 := hide fun w => isConn_any f g m hp.1 hp.2.1 hp.2.2.1.1 hq.2.2.1.1 w
      generalize connB f g m = B at *
      clear hD h1 h2 e hp hq
      go_enter Try.func67, Try.ntmps67
      go_wp2_with fail
      refine (C1.out _).mono ?_
      rintro e w1 ⟨rfl, hb⟩
      have c1 : cellsOf w1 w.heap.size = dv m f g := (below_cells hb (by simp)).trans (cellsOf_heap (heap_at _ _ _ rfl))
      have n1 : w1.cell? ⟨w.heap.size, 0, none⟩ = some (.int .i64 m) := by rw [cell_of_cells, c1]; exact hn
      have b1 := (below1 w _).trans (hb.mono (by simp))
      have l1 : w.heap.size < w1.heap.size := by have := hb.size; simp at this; omega
      clear hb
      go_wp2_with fail
      refine (C2.out _).mono ?_
      rintro e w2 ⟨rfl, hb⟩
      have c2 : cellsOf w2 w.heap.size = dv m f g := (below_cells hb l1).trans c1
      have b2 := b1.trans (hb.mono b1.size)
      clear hb b1 c1 n1 l1
      go_wp2_with fail
      refine (C3.out _).mono ?_
      rintro e w3 ⟨rfl, hb⟩
      have b3 := b2.trans (hb.mono b2.size)
      clear hb b2 c2
      go_wp2
      go_ret
      exact ⟨rfl, b3⟩

set_option maxRecDepth 100000 in
set_option maxHeartbeats 1000000 in
theorem sIs_any (n : Int) (f g : Nat → Nat) (hf : ∀ i, f i < 256) (hg : ∀ i, g i < 256) (w : World) :
    Calls Try.prog 64 #[.agg (dv n f g)] w fun e w' => e = .returned (.bool (desB n f g)) ∧ Below w.heap.size w w' := by
  have hn := dv_n n f g
  have C1 := hide fun w => sPerm_any f hf n w
  have C2 := hide fun w => sPerm_any g hg n w
  clear hf hg
  have hD : desB n f g = (permB f n && (permB g n && connB f g n.toNat)) := rfl
  rcases h1 : permB f n with _ | _
  · rw [h1] at C1 hD
    rw [Bool.false_and] at hD
    rw [hD]
    clear hD h1 C2
    go_enter Try.func64, Try.ntmps64
    go_wp2_with fail
    refine (C1.out _).mono ?_
    rintro e w1 ⟨rfl, hb⟩
    have b1 := (below1 w _).trans (hb.mono (by simp))
    clear hb
    go_wp2
    go_ret
    exact ⟨rfl, b1⟩
  · rcases h2 : permB g n with _ | _
    · rw [h1, h2] at hD
      rw [h1] at C1
      rw [h2] at C2
      rw [Bool.false_and, Bool.and_false] at hD
      rw [hD]
      clear hD h1 h2
      go_enter Try.func64, Try.ntmps64
      go_wp2_with fail
      refine (C1.out _).mono ?_
      rintro e w1 ⟨rfl, hb⟩
      have c1 : cellsOf w1 w.heap.size = dv n f g := (below_cells hb (by simp)).trans (cellsOf_heap (heap_at _ _ _ rfl))
      have n1 : w1.cell? ⟨w.heap.size, 0, none⟩ = some (.int .i64 n) := by rw [cell_of_cells, c1]; exact hn
      have b1 := (below1 w _).trans (hb.mono (by simp))
      clear hb
      go_wp2_with fail
      refine (C2.out _).mono ?_
      rintro e w2 ⟨rfl, hb⟩
      have b2 := b1.trans (hb.mono b1.size)
      clear hb b1 c1 n1
      go_wp2
      go_ret
      exact ⟨rfl, b2⟩
    · obtain ⟨m, rfl, hp⟩ := permB_true h1
      obtain ⟨m', e, hq⟩ := permB_true h2
      obtain rfl : m = m' := by omega
      rw [h1, h2, Bool.true_and, Bool.true_and, Int.toNat_natCast] at hD
      rw [h1] at C1
      rw [h2] at C2
      rw [hD]
      have C3 := hide fun w => sConn_any f g m hp.1 hp.2.1 hp.2.2.1.1 hq.2.2.1.1 w
      generalize connB f g m = B at *
      clear hD h1 h2 e hp hq
      go_enter Try.func64, Try.ntmps64
      go_wp2_with fail
      refine (C1.out _).mono ?_
      rintro e w1 ⟨rfl, hb⟩
      have c1 : cellsOf w1 w.heap.size = dv m f g := (below_cells hb (by simp)).trans (cellsOf_heap (heap_at _ _ _ rfl))
      have n1 : w1.cell? ⟨w.heap.size, 0, none⟩ = some (.int .i64 m) := by rw [cell_of_cells, c1]; exact hn
      have b1 := (below1 w _).trans (hb.mono (by simp))
      have l1 : w.heap.size < w1.heap.size := by have := hb.size; simp at this; omega
      clear hb
      go_wp2_with fail
      refine (C2.out _).mono ?_
      rintro e w2 ⟨rfl, hb⟩
      have c2 : cellsOf w2 w.heap.size = dv m f g := (below_cells hb l1).trans c1
      have n2 : w2.cell? ⟨w.heap.size, 0, none⟩ = some (.int .i64 m) := by rw [cell_of_cells, c2]; exact hn
      have b2 := b1.trans (hb.mono b1.size)
      clear hb b1 c1 n1 l1
      go_wp2_with fail
      refine (C3.out _).mono ?_
      rintro e w3 ⟨rfl, hb⟩
      have b3 := b2.trans (hb.mono b2.size)
      clear hb b2 c2 n2
      go_wp2
      go_ret
      exact ⟨rfl, b3⟩
end Go.Proofs.Ytlmhnimpglookaa

namespace Go.Proofs.Ytlmhnimpglookaa
open Go.RowKit

def thenF (p q : Nat → Nat) (n : Nat) : Nat → Nat := upto (fun i => q (p i)) n
def backTo (p : Nat → Nat) : Nat → Nat → Nat
  | 0 => fun _ => 0
  | k + 1 => fset (backTo p k) (p k) k
def sameF (n : Nat) : Nat → Nat := upto (fun i => i) n
def backF (p : Nat → Nat) (n : Nat) : Nat → Nat := backTo p n
theorem backTo_step (p : Nat → Nat) (k : Nat) : fset (backTo p k) (p k) k = backTo p (k + 1) := rfl

set_option maxHeartbeats 400000 in
theorem follow_any (p q : Nat → Nat) (m : Nat) (hm : m ≤ 16) (hp : ∀ i, i < m → p i < 16) (w : World) :
    Calls Try.prog 97 #[.agg (av p), .agg (av q), .int .i64 m] w fun e w' => e = .returned (.agg (av (thenF p q m))) ∧ Below w.heap.size w w' := by
  have HP := hide hp; clear hp
  go_enter Try.func97, Try.ntmps97
  go_wp2
  rw [← av_zero]
  go_loopw [10] (fun i wr => ∃ k : Nat, k ≤ m ∧ i = .int .i64 k ∧ wr = (((w.alloc (.cells (av p) 42)).alloc (.cells (av q) 42)).alloc (.cells (av fun _ => 0) 42)).alloc (.cells (av (upto (fun i => q (p i)) k)) 42)) (fun i _ => m - (intOf i).toNat)
  case atStart => exact ⟨0, by omega, rfl, by rw [upto_zero]⟩
  case round =>
    obtain ⟨k, hk, rfl, rfl⟩ := hrel
    by_cases hlt : k < m
    · have hp16 := HP.out k hlt
      have h1 := av_get p (i := k) (by omega)
      have h2 := av_get q (i := p k) hp16
      have h4 := av_get (upto (fun i => q (p i)) k) (i := k) (by omega)
      have h3 := av_set (upto (fun i => q (p i)) k) k (q (p k))
      rw [upto_step (fun i => q (p i))] at h3
      go_wp2
      go_roundw
      case rel => exact ⟨k + 1, by omega, by go_num, rfl⟩
      case measure => simp [intOf]; omega
    · obtain rfl : k = m := by omega
      clear hlt hk
      go_wp2
      exact res_agg (p := 6) (g := w.heap.size + 1 + 1) aggP (av_size (thenF p q k)) rfl rfl rfl (heap1 (by simp)) ⟨rfl, below4 _ _ _ _ _⟩

set_option maxHeartbeats 400000 in
theorem sThen_any (p q : Nat → Nat) (m : Nat) (hm : m ≤ 16) (hp : ∀ i, i < m → p i < 16) (w : World) :
    Calls Try.prog 88 #[.agg (av p), .agg (av q), .int .i64 m] w fun e w' => e = .returned (.agg (av (thenF p q m))) ∧ Below w.heap.size w w' := by
  have HP := hide hp; clear hp
  go_enter Try.func88, Try.ntmps88
  go_wp2
  rw [← av_zero]
  go_loopw [8] (fun i wr => ∃ k : Nat, k ≤ m ∧ i = .int .i64 k ∧ wr = (((w.alloc (.cells (av p) 42)).alloc (.cells (av q) 42)).alloc (.cells (av fun _ => 0) 42)).alloc (.cells (av (upto (fun i => q (p i)) k)) 42)) (fun i _ => m - (intOf i).toNat)
  case atStart => exact ⟨0, by omega, rfl, by rw [upto_zero]⟩
  case round =>
    obtain ⟨k, hk, rfl, rfl⟩ := hrel
    by_cases hlt : k < m
    · have hp16 := HP.out k hlt
      have h1 := av_get p (i := k) (by omega)
      have h2 := av_get q (i := p k) hp16
      have h4 := av_get (upto (fun i => q (p i)) k) (i := k) (by omega)
      have h3 := av_set (upto (fun i => q (p i)) k) k (q (p k))
      rw [upto_step (fun i => q (p i))] at h3
      go_wp2
      go_roundw
      case rel => exact ⟨k + 1, by omega, by go_num, rfl⟩
      case measure => simp [intOf]; omega
    · obtain rfl : k = m := by omega
      clear hlt hk
      go_wp2
      exact res_agg (p := 6) (g := w.heap.size + 1 + 1) aggP (av_size (thenF p q k)) rfl rfl rfl (heap1 (by simp)) ⟨rfl, below4 _ _ _ _ _⟩

set_option maxHeartbeats 400000 in
theorem undo_any (p : Nat → Nat) (m : Nat) (hm : m ≤ 16) (hp : ∀ i, i < m → p i < 16) (w : World) :
    Calls Try.prog 109 #[.agg (av p), .int .i64 m] w fun e w' => e = .returned (.agg (av (backF p m))) ∧ Below w.heap.size w w' := by
  have HP := hide hp; clear hp
  go_enter Try.func109, Try.ntmps109
  go_wp2
  rw [← av_zero]
  go_loopw [8] (fun i wr => ∃ k : Nat, k ≤ m ∧ i = .int .i64 k ∧ wr = ((w.alloc (.cells (av p) 42)).alloc (.cells (av fun _ => 0) 42)).alloc (.cells (av (backTo p k)) 42)) (fun i _ => m - (intOf i).toNat)
  case atStart => exact ⟨0, by omega, rfl, rfl⟩
  case round =>
    obtain ⟨k, hk, rfl, rfl⟩ := hrel
    by_cases hlt : k < m
    · have hp16 := HP.out k hlt
      have h1 := av_get p (i := k) (by omega)
      have h4 := av_get (backTo p k) (i := p k) hp16
      have h3 := av_set (backTo p k) (p k) k
      rw [backTo_step] at h3
      go_wp2
      go_roundw
      case rel => exact ⟨k + 1, by omega, by go_num, rfl⟩
      case measure => simp [intOf]; omega
    · obtain rfl : k = m := by omega
      clear hlt hk
      go_wp2
      exact res_agg (p := 4) (g := w.heap.size + 1) aggP (av_size (backF p k)) rfl rfl rfl (heap1 (by simp)) ⟨rfl, below3 _ _ _ _⟩

set_option maxHeartbeats 400000 in
theorem sBack_any (p : Nat → Nat) (m : Nat) (hm : m ≤ 16) (hp : ∀ i, i < m → p i < 16) (w : World) :
    Calls Try.prog 89 #[.agg (av p), .int .i64 m] w fun e w' => e = .returned (.agg (av (backF p m))) ∧ Below w.heap.size w w' := by
  have HP := hide hp; clear hp
  go_enter Try.func89, Try.ntmps89
  go_wp2
  rw [← av_zero]
  go_loopw [6] (fun i wr => ∃ k : Nat, k ≤ m ∧ i = .int .i64 k ∧ wr = ((w.alloc (.cells (av p) 42)).alloc (.cells (av fun _ => 0) 42)).alloc (.cells (av (backTo p k)) 42)) (fun i _ => m - (intOf i).toNat)
  case atStart => exact ⟨0, by omega, rfl, rfl⟩
  case round =>
    obtain ⟨k, hk, rfl, rfl⟩ := hrel
    by_cases hlt : k < m
    · have hp16 := HP.out k hlt
      have h1 := av_get p (i := k) (by omega)
      have h4 := av_get (backTo p k) (i := p k) hp16
      have h3 := av_set (backTo p k) (p k) k
      rw [backTo_step] at h3
      go_wp2
      go_roundw
      case rel => exact ⟨k + 1, by omega, by go_num, rfl⟩
      case measure => simp [intOf]; omega
    · obtain rfl : k = m := by omega
      clear hlt hk
      go_wp2
      exact res_agg (p := 4) (g := w.heap.size + 1) aggP (av_size (backF p k)) rfl rfl rfl (heap1 (by simp)) ⟨rfl, below3 _ _ _ _⟩

set_option maxHeartbeats 400000 in
theorem stay_any (m : Nat) (hm : m ≤ 16) (w : World) :
    Calls Try.prog 76 #[.int .i64 m] w fun e w' => e = .returned (.agg (av (sameF m))) ∧ Below w.heap.size w w' := by
  go_enter Try.func76, Try.ntmps76
  go_wp2
  rw [← av_zero]
  go_loopw [6] (fun i wr => ∃ k : Nat, k ≤ m ∧ i = .int .i64 k ∧ wr = (w.alloc (.cells (av fun _ => 0) 42)).alloc (.cells (av (upto (fun i => i) k)) 42)) (fun i _ => m - (intOf i).toNat)
  case atStart => exact ⟨0, by omega, rfl, by rw [upto_zero]⟩
  case round =>
    obtain ⟨k, hk, rfl, rfl⟩ := hrel
    by_cases hlt : k < m
    · have h4 := av_get (upto (fun i => i) k) (i := k) (by omega)
      have h3 := av_set (upto (fun i => i) k) k k
      rw [upto_step (fun i => i)] at h3
      go_wp2
      go_roundw
      case rel => exact ⟨k + 1, by omega, by go_num, rfl⟩
      case measure => simp [intOf]; omega
    · obtain rfl : k = m := by omega
      clear hlt hk
      go_wp2
      exact res_agg (p := 2) (g := w.heap.size) aggP (av_size (sameF k)) rfl rfl rfl (heap1 (by simp)) ⟨rfl, below2 _ _ _⟩

set_option maxHeartbeats 400000 in
theorem sSame_any (m : Nat) (hm : m ≤ 16) (w : World) :
    Calls Try.prog 92 #[.int .i64 m] w fun e w' => e = .returned (.agg (av (sameF m))) ∧ Below w.heap.size w w' := by
  go_enter Try.func92, Try.ntmps92
  go_wp2
  rw [← av_zero]
  go_loopw [4] (fun i wr => ∃ k : Nat, k ≤ m ∧ i = .int .i64 k ∧ wr = (w.alloc (.cells (av fun _ => 0) 42)).alloc (.cells (av (upto (fun i => i) k)) 42)) (fun i _ => m - (intOf i).toNat)
  case atStart => exact ⟨0, by omega, rfl, by rw [upto_zero]⟩
  case round =>
    obtain ⟨k, hk, rfl, rfl⟩ := hrel
    by_cases hlt : k < m
    · have h4 := av_get (upto (fun i => i) k) (i := k) (by omega)
      have h3 := av_set (upto (fun i => i) k) k k
      rw [upto_step (fun i => i)] at h3
      go_wp2
      go_roundw
      case rel => exact ⟨k + 1, by omega, by go_num, rfl⟩
      case measure => simp [intOf]; omega
    · obtain rfl : k = m := by omega
      clear hlt hk
      go_wp2
      exact res_agg (p := 2) (g := w.heap.size) aggP (av_size (sameF k)) rfl rfl rfl (heap1 (by simp)) ⟨rfl, below2 _ _ _⟩

end Go.Proofs.Ytlmhnimpglookaa
namespace Go.Proofs.Ytlmhnimpglookaa
open Go.RowKit

/-- what is held of a boxed dessin, in worlds that only grow -/
theorem keepD {B b : Nat} {w w1 w' : World} {cs : Array Value} {v : Value} (hB : B ≤ b) (h : cellsOf w1 b = cs ∧ w1.cell? ⟨b, 0, none⟩ = some v ∧ b < w1.heap.size ∧ Below B w w1) (hb : Below w1.heap.size w1 w') :
    cellsOf w' b = cs ∧ w'.cell? ⟨b, 0, none⟩ = some v ∧ b < w'.heap.size ∧ Below B w w' :=
  ⟨(below_cells hb h.2.2.1).trans h.1, (hb.cell (p := ⟨b, 0, none⟩) h.2.2.1).trans h.2.1, Nat.lt_of_lt_of_le h.2.2.1 hb.size, h.2.2.2.trans (hb.mono (by have := h.2.2.1; omega))⟩

def faceF (f g : Nat → Nat) (m : Nat) : Nat → Nat := backF (thenF f g m) m

theorem thenF_lt {f g : Nat → Nat} {m : Nat} (hm : m ≤ 16) (hf : ∀ i, i < m → f i < m) (hg : ∀ i, i < m → g i < m) (i : Nat) (hi : i < m) : thenF f g m i < 16 := by
  unfold thenF upto
  rw [if_pos hi]
  have := hg _ (hf i hi)
  show g (f i) < 16
  omega

set_option maxRecDepth 100000 in
set_option maxHeartbeats 1000000 in
theorem face_any (f g : Nat → Nat) (m : Nat) (hm : m ≤ 16) (hf : ∀ i, i < m → f i < m) (hg : ∀ i, i < m → g i < m) (w : World) :
    Calls Try.prog 93 #[.agg (dv m f g)] w fun e w' => e = .returned (.agg (av (faceF f g m))) ∧ Below w.heap.size w w' := by
  have C1 := hide fun w => follow_any f g m hm (fun i hi => by have := hf i hi; omega) w
  have C2 := hide fun w => undo_any (thenF f g m) m hm (thenF_lt hm hf hg) w
  have hF : faceF f g m = backF (thenF f g m) m := rfl
  rw [hF]
  generalize thenF f g m = T at *
  generalize backF T m = F at *
  clear hf hg hF
  have hn := dv_n m f g
  go_enter Try.func93, Try.ntmps93
  go_wp2
  rw [← av_zero]
  generalize hW : (w.alloc (.cells (dv m f g) 44)).alloc (.cells (av fun _ => 0) 42) = W
  have c0 : cellsOf W w.heap.size = dv m f g := by rw [← hW]; exact cellsOf_heap (heap1 rfl)
  have r1 : rowOk W (w.heap.size + 1) 16 := by rw [← hW]; exact ⟨_, _, heap_at _ _ _ (by simp), av_size _⟩
  have b0 : Below w.heap.size w W := by rw [← hW]; exact below2 _ _ _
  have l0 : w.heap.size < W.heap.size := by rw [← hW]; simp <;> omega
  clear hW
  refine region_tail (Grown W) 10 (by kernel_rfl) (by kernel_rfl) (Grown.drew W) ?_
  simp only [List.take_succ_cons, List.take_zero, List.drop_succ_cons, List.drop_zero]
  iterate 10
    apply q_step
    · go_simp
    · intro wx hx
      have e0 := hx.cells c0 l0
      have n0 : wx.cell? ⟨w.heap.size, 0, none⟩ = some (.int .i64 m) := by rw [cell_of_cells, e0]; exact hn
      first
        | (go_simp; exact rfl)
        | (go_simp; go_at_call 97; exact Calls.mono (C1.out wx) fun e w' h => ⟨h.1, hx.call h.2⟩)
        | (go_simp; go_at_call 109; exact Calls.mono (C2.out wx) fun e w' h => ⟨h.1, hx.call h.2⟩)
  refine wpQuiet_nil ?_
  intro w1 hx
  have r2 := hx.row r1
  have b2 : Below w.heap.size w w1 := b0.trans (Below.mono hx b0.size)
  clear c0 r1 b0 l0 hx
  go_wp2
  obtain ⟨t, ht, _⟩ := r2.heap
  exact res_agg (p := 2) (g := w.heap.size + 1) aggP (av_size F) rfl rfl rfl (setRow_heap _ _ _ _ t (0, 0) ht) ⟨rfl, below_setRow b2 (by omega) _⟩

set_option maxRecDepth 100000 in
set_option maxHeartbeats 1000000 in
theorem sFace_any (f g : Nat → Nat) (m : Nat) (hm : m ≤ 16) (hf : ∀ i, i < m → f i < m) (hg : ∀ i, i < m → g i < m) (w : World) :
    Calls Try.prog 91 #[.agg (dv m f g)] w fun e w' => e = .returned (.agg (av (faceF f g m))) ∧ Below w.heap.size w w' := by
  have C1 := hide fun w => sThen_any f g m hm (fun i hi => by have := hf i hi; omega) w
  have C2 := hide fun w => sBack_any (thenF f g m) m hm (thenF_lt hm hf hg) w
  have hF : faceF f g m = backF (thenF f g m) m := rfl
  rw [hF]
  generalize thenF f g m = T at *
  generalize backF T m = F at *
  clear hf hg hF
  have hn := dv_n m f g
  go_enter Try.func91, Try.ntmps91
  go_wp2
  rw [← av_zero]
  generalize hW : (w.alloc (.cells (dv m f g) 44)).alloc (.cells (av fun _ => 0) 42) = W
  have c0 : cellsOf W w.heap.size = dv m f g := by rw [← hW]; exact cellsOf_heap (heap1 rfl)
  have r1 : rowOk W (w.heap.size + 1) 16 := by rw [← hW]; exact ⟨_, _, heap_at _ _ _ (by simp), av_size _⟩
  have b0 : Below w.heap.size w W := by rw [← hW]; exact below2 _ _ _
  have l0 : w.heap.size < W.heap.size := by rw [← hW]; simp <;> omega
  clear hW
  refine region_tail (Grown W) 10 (by kernel_rfl) (by kernel_rfl) (Grown.drew W) ?_
  simp only [List.take_succ_cons, List.take_zero, List.drop_succ_cons, List.drop_zero]
  iterate 10
    apply q_step
    · go_simp
    · intro wx hx
      have e0 := hx.cells c0 l0
      have n0 : wx.cell? ⟨w.heap.size, 0, none⟩ = some (.int .i64 m) := by rw [cell_of_cells, e0]; exact hn
      first
        | (go_simp; exact rfl)
        | (go_simp; go_at_call 88; exact Calls.mono (C1.out wx) fun e w' h => ⟨h.1, hx.call h.2⟩)
        | (go_simp; go_at_call 89; exact Calls.mono (C2.out wx) fun e w' h => ⟨h.1, hx.call h.2⟩)
  refine wpQuiet_nil ?_
  intro w1 hx
  have r2 := hx.row r1
  have b2 : Below w.heap.size w w1 := b0.trans (Below.mono hx b0.size)
  clear c0 r1 b0 l0 hx
  go_wp2
  obtain ⟨t, ht, _⟩ := r2.heap
  exact res_agg (p := 2) (g := w.heap.size + 1) aggP (av_size F) rfl rfl rfl (setRow_heap _ _ _ _ t (0, 0) ht) ⟨rfl, below_setRow b2 (by omega) _⟩
end Go.Proofs.Ytlmhnimpglookaa

namespace Go.Proofs.Ytlmhnimpglookaa
open Go.RowKit

theorem backTo_at {p : Nat → Nat} {n : Nat} (h : Bij p n) : ∀ k, k ≤ n → ∀ x, x < k → backTo p k (p x) = x := by
  intro k
  induction k with
  | zero => intro _ x hx; omega
  | succ k ih =>
    intro hk x hx
    show fset (backTo p k) (p k) k (p x) = x
    unfold fset
    by_cases c : p x = p k
    · rw [if_pos c]; exact (h.2 x k (by omega) (by omega) c).symm
    · rw [if_neg c]
      by_cases d : x = k
      · subst d; exact absurd rfl c
      · exact ih (by omega) x (by omega)
theorem backTo_none {p : Nat → Nat} {y : Nat} : ∀ k, (∀ x, x < k → p x ≠ y) → backTo p k y = 0 := by
  intro k
  induction k with
  | zero => intro _; rfl
  | succ k ih =>
    intro h
    show fset (backTo p k) (p k) k y = 0
    unfold fset
    rw [if_neg (fun e => h k (by omega) e.symm)]
    exact ih fun x hx => h x (by omega)
theorem backF_at {p : Nat → Nat} {m : Nat} (h : Bij p m) {x : Nat} (hx : x < m) : backF p m (p x) = x := backTo_at h m (Nat.le_refl m) x hx
theorem Bij.onto {p : Nat → Nat} {m : Nat} (h : Bij p m) {y : Nat} (hy : y < m) : ∃ x, x < m ∧ p x = y := by
  obtain ⟨L, h0, _, e⟩ := h.period hy
  obtain ⟨k, rfl⟩ : ∃ k, L = k + 1 := ⟨L - 1, by omega⟩
  exact ⟨it p k y, h.it_lt k hy, e⟩
theorem backF_perm {p : Nat → Nat} {m : Nat} (h : PermN p m) : PermN (backF p m) m := by
  obtain ⟨h1, h2, h3, _⟩ := h
  refine ⟨h1, h2, ⟨fun y hy => ?_, fun y z hy hz e => ?_⟩, fun y h4 _ => ?_⟩
  · obtain ⟨x, hx, rfl⟩ := h3.onto hy
    rw [backF_at h3 hx]; exact hx
  · obtain ⟨x, hx, rfl⟩ := h3.onto hy
    obtain ⟨x', hx', rfl⟩ := h3.onto hz
    rw [backF_at h3 hx, backF_at h3 hx'] at e
    rw [e]
  · exact backTo_none m fun x hx e => by have := h3.1 x hx; omega
theorem thenF_at {p q : Nat → Nat} {m x : Nat} (hx : x < m) : thenF p q m x = q (p x) := by unfold thenF upto; rw [if_pos hx]
theorem thenF_out {p q : Nat → Nat} {m x : Nat} (hx : m ≤ x) : thenF p q m x = 0 := by unfold thenF upto; rw [if_neg (by omega)]
theorem thenF_perm {p q : Nat → Nat} {m : Nat} (hp : PermN p m) (hq : PermN q m) : PermN (thenF p q m) m := by
  refine ⟨hp.1, hp.2.1, ⟨fun x hx => ?_, fun x y hx hy e => ?_⟩, fun x hx _ => thenF_out hx⟩
  · rw [thenF_at hx]; exact hq.2.2.1.1 _ (hp.2.2.1.1 x hx)
  · rw [thenF_at hx, thenF_at hy] at e
    exact hp.2.2.1.2 x y hx hy (hq.2.2.1.2 _ _ (hp.2.2.1.1 x hx) (hp.2.2.1.1 y hy) e)
theorem faceF_perm {f g : Nat → Nat} {m : Nat} (hf : PermN f m) (hg : PermN g m) : PermN (faceF f g m) m := backF_perm (thenF_perm hf hg)
theorem faceF_at {f g : Nat → Nat} {m x : Nat} (hf : PermN f m) (hg : PermN g m) (hx : x < m) : faceF f g m (g (f x)) = x := by
  have := backF_at (thenF_perm hf hg).2.2.1 hx
  rwa [thenF_at hx] at this
theorem DesN.face {f g : Nat → Nat} {m : Nat} (h : DesN f g m) : PermN (faceF f g m) m := faceF_perm h.black h.white
/-- the numbers of cycles of a dessin -/
theorem DesN.euler {f g : Nat → Nat} {m : Nat} (h : DesN f g m) : ((cycs f m).length + (cycs g m).length + (cycs (faceF f g m) m).length + m) % 2 = 0 ∧ (cycs f m).length + (cycs g m).length + (cycs (faceF f g m) m).length ≤ m + 2 := by
  rw [cycs_length h.bf h.le, cycs_length h.bg h.le, cycs_length h.face.2.2.1 h.le]
  exact euler_dessin h.bf h.bg h.face.2.2.1 h.pos h.conn fun x hx => faceF_at h.black h.white hx
theorem PermN.lt {f : Nat → Nat} {m : Nat} (h : PermN f m) (i : Nat) (hi : i < 16) : f i < 16 := by
  rcases Nat.lt_or_ge i m with c | c
  · have := h.2.2.1.1 i c; have := h.2.1; omega
  · rw [h.2.2.2 i c hi]; omega
end Go.Proofs.Ytlmhnimpglookaa

namespace Go.Proofs.Ytlmhnimpglookaa
open Go.RowKit

theorem below_setCell {B g : Nat} {w0 w : World} (h : Below B w0 w) (hg : B ≤ g) (i : Nat) (v : Value) : Below B w0 (w.setCell ⟨g, i, none⟩ v) :=
  ⟨h.os, h.tape, h.output, by have := h.size; simpa using this, fun k hk => (Below.heap_setCell w ⟨g, i, none⟩ v k (fun e => by have : k = g := e; omega)).trans (h.block k hk)⟩
theorem dv_setb (n : Int) (f g : Nat → Nat) {i : Nat} (v : Nat) (h : i < 16) : (dv n f g).setIfInBounds (1 + i) (.int .u8 v) = dv n (fset f i v) g := by
  unfold dv
  rw [row_set]
  apply row_congr
  intro j _
  unfold fset
  by_cases c : j = 1 + i
  · rw [if_pos c, if_neg (by omega), if_pos (by omega), if_pos (by omega)]
  · rw [if_neg c]
    by_cases d : j = 0
    · rw [if_pos d, if_pos d]
    · rw [if_neg d, if_neg d]
      by_cases e : j < 17
      · rw [if_pos e, if_pos e, if_neg (by omega)]
      · rw [if_neg e, if_neg e]
theorem dv_setw (n : Int) (f g : Nat → Nat) {i : Nat} (v : Nat) (h : i < 16) : (dv n f g).setIfInBounds (17 + i) (.int .u8 v) = dv n f (fset g i v) := by
  unfold dv
  rw [row_set]
  apply row_congr
  intro j _
  unfold fset
  by_cases c : j = 17 + i
  · rw [if_pos c, if_neg (by omega), if_neg (by omega), if_pos (by omega)]
  · rw [if_neg c]
    by_cases d : j = 0
    · rw [if_pos d, if_pos d]
    · rw [if_neg d, if_neg d]
      by_cases e : j < 17
      · rw [if_pos e, if_pos e]
      · rw [if_neg e, if_neg e, if_neg (by omega)]

end Go.Proofs.Ytlmhnimpglookaa

namespace Go.Proofs.Ytlmhnimpglookaa
open Go.RowKit

set_option maxHeartbeats 400000 in
theorem toPlaces_any (f : Nat → Nat) (w : World) : Calls Try.prog 38 #[.agg (av f)] w fun e w' => e = .returned (.agg (av f)) ∧ Below w.heap.size w w' := by
  go_enter Try.func38, Try.ntmps38
  go_wp2
  rw [← av_zero]
  go_loopw [4] (fun i wr => ∃ k : Nat, k ≤ 16 ∧ i = .int .i64 k ∧ wr = ((w.alloc (.cells (av f) 38)).alloc (.cells (av fun _ => 0) 42)).alloc (.cells (av (upto f k)) 42)) (fun i _ => 16 - (intOf i).toNat)
  case atStart => exact ⟨0, by omega, rfl, by rw [upto_zero]⟩
  case round =>
    obtain ⟨k, hk, rfl, rfl⟩ := hrel
    by_cases hlt : k < 16
    · have h1 := av_get f hlt
      have h2 := av_get (upto f k) hlt
      have h3 := av_set (upto f k) k (f k)
      rw [upto_step] at h3
      go_wp2
      go_roundw
      case rel => exact ⟨k + 1, by omega, by go_num, rfl⟩
      case measure => simp [intOf]; omega
    · obtain rfl : k = 16 := by omega
      clear hlt hk
      rw [av_congr (f := upto f 16) (g := f) (fun i h => by simp [upto, h])]
      go_wp2_with (first
        | (refine ld0 aggP (av_size _) rfl _ rfl _ rfl (by simp) ?_)
        | (refine st1 aggP (av_size f) (av_size _) (av_cells f) rfl _ _ rfl (w.heap.size + 1) rfl rfl (by simp) ?_))
      exact res_agg (p := 2) (g := w.heap.size + 1) aggP (av_size f) rfl rfl rfl (heap1 (by simp)) ⟨rfl, below3 _ _ _ _⟩

end Go.Proofs.Ytlmhnimpglookaa

namespace Go.Proofs.Ytlmhnimpglookaa
open Go.RowKit
set_option maxHeartbeats 400000 in
theorem eqPlaces_same (f : Nat → Nat) (w : World) : Calls Try.prog 44 #[.agg (av f), .agg (av f)] w fun e w' => e = .returned (.bool true) ∧ Below w.heap.size w w' := by
  go_enter Try.func44, Try.ntmps44
  go_wp2
  go_loopw [5] (fun i wr => ∃ k : Nat, k ≤ 16 ∧ i = .int .i64 k ∧ Below w.heap.size w wr ∧ cellsOf wr w.heap.size = av f ∧ cellsOf wr (w.heap.size + 1) = av f) (fun i _ => 16 - (intOf i).toNat)
  case atStart => exact ⟨0, by omega, rfl, below2 _ _ _, cellsOf_heap (heap1 rfl), cellsOf_heap (heap_at _ _ _ (by simp))⟩
  case round =>
    obtain ⟨k, hk, rfl, hb, h0, h1⟩ := hrel
    by_cases hlt : k < 16
    · have c0 : wr.cell? ⟨w.heap.size, k, none⟩ = some (.int .u8 (f k)) := by rw [cell_of_cells, h0, av_get f hlt]
      have c1 : wr.cell? ⟨w.heap.size + 1, k, none⟩ = some (.int .u8 (f k)) := by rw [cell_of_cells, h1, av_get f hlt]
      have H0 := hide h0; clear h0
      have H1 := hide h1; clear h1
      go_wp2
      go_region
      all_goals go_wp2
      all_goals go_roundw
      case rel => exact ⟨k + 1, by omega, by go_num, hb.drew, H0.out, H1.out⟩
      case measure => simp [intOf]; omega
    · obtain rfl : k = 16 := by omega
      clear hlt hk h0 h1
      go_wp2
      go_ret
      exact ⟨rfl, hb⟩
end Go.Proofs.Ytlmhnimpglookaa

namespace Go.Proofs.Ytlmhnimpglookaa
open Go.RowKit Go.ChangeShapes Go.WideShapes

set_option maxRecDepth 100000 in
set_option maxHeartbeats 400000 in
theorem toDessin_any (n : Int) (f g : Nat → Nat) (w : World) : Calls Try.prog 35 #[.agg (dv n f g)] w fun e w' => e = .returned (.agg (dv n f g)) ∧ Below w.heap.size w w' := by
  have hn := dv_n n f g
  go_enter Try.func35, Try.ntmps35
  go_wp2_with fail
  rw [← dv_lit n, ← dv_lit 0]
  refine (toPlaces_any f _).mono ?_
  rintro e w1 ⟨rfl, h1⟩
  have c0 : cellsOf w1 w.heap.size = dv n f g := (below_cells h1 (by simp <;> omega)).trans (cellsOf_heap (heap2 rfl))
  have r1 : rowOk w1 (w.heap.size + 1) 33 := (below_row h1 (by simp <;> omega)).2 ⟨_, _, heap1 (by simp), dv_size _ _ _⟩
  have c2 : cellsOf w1 (w.heap.size + 1 + 1) = dv n (fun _ => 0) (fun _ => 0) := (below_cells h1 (by simp)).trans (cellsOf_heap (heap_at _ _ _ (by simp)))
  have r2 : rowOk w1 (w.heap.size + 1 + 1) 33 := (below_row h1 (by simp)).2 ⟨_, _, heap_at _ _ _ (by simp), dv_size _ _ _⟩
  have b1 := (below3 w (.cells (dv n f g) 40) (.cells (dv 0 (fun _ => 0) (fun _ => 0)) 44) (.cells (dv n (fun _ => 0) (fun _ => 0)) 44)).trans (h1.mono (by simp <;> omega))
  clear h1
  go_wp2_with fail
  refine (toPlaces_any g _).mono ?_
  rintro e w2 ⟨rfl, h2⟩
  have l1 := r1.lt
  have l2 := r2.lt
  have s1 : rowOk (w1.setRow (w.heap.size + 1 + 1) (dv n f fun _ => 0)) (w.heap.size + 1) 33 := (rowOk_setRow_ne (by omega)).2 r1
  have s2 : rowOk (w1.setRow (w.heap.size + 1 + 1) (dv n f fun _ => 0)) (w.heap.size + 1 + 1) 33 := rowOk_setRow r2 (dv_size _ _ _)
  have q1 : rowOk w2 (w.heap.size + 1) 33 := (below_row h2 (by simp; omega)).2 s1
  have q2 : rowOk w2 (w.heap.size + 1 + 1) 33 := (below_row h2 (by simp; omega)).2 s2
  have k2 : cellsOf w2 (w.heap.size + 1 + 1) = dv n f (fun _ => 0) := (below_cells h2 (by simp; omega)).trans (cellsOf_setRow r2)
  have b2 := (below_setRow b1 (show w.heap.size ≤ w.heap.size + 1 + 1 by omega) (dv n f fun _ => 0)).trans (h2.mono (by simp; omega))
  clear h2 b1 r1 r2 c0 c2 s1 s2 l1 l2
  go_wp2
  obtain ⟨t, ht, _⟩ := ((rowOk_setRow_ne (c' := dv n f g) (show w.heap.size + 1 ≠ w.heap.size + 1 + 1 by omega)).2 q1).heap
  exact res_agg (p := 2) (g := w.heap.size + 1) aggD (dv_size n f g) rfl rfl rfl (setRow_heap _ _ _ _ t (0, 0) ht) ⟨rfl, below_setRow (below_setRow b2 (by omega) _) (by omega) _⟩

section
variable {H : Type} {enc : TypeId × Value → H} {w : World} {base : Nat} {spare : Nat → Bool} {held : Bool}
set_option maxRecDepth 100000 in
/-- a dessin that came in -/
theorem open_dessin {r : Reach} {b0 : Nat} {v : Value} {d : DataW H} {ps : List MemPlace}
    (hval : Value.okWide Try.prog w r b0 40 v) (hd : DataW.Trod enc Try.prog w base spare held 40 v d ps) :
    ∃ (n : Int) (f g : Nat → Nat), (-9223372036854775808 ≤ n ∧ n ≤ 9223372036854775807) ∧ (∀ i, f i < 256) ∧ (∀ i, g i < 256) ∧ v = .agg (dv n f g) := by
  obtain ⟨cs, rfl, hs⟩ := okWide_struct Try.underlying40 hval
  have h33 : cs.size = 33 := hs.trans (by kernel_rfl)
  obtain ⟨fuel, hf⟩ := hd
  obtain ⟨xs, m, _, hx, _, hlen, hfl⟩ := DataW.trod_struct Try.underlying40 hf
  have hx3 : xs.length = 3 := hlen
  have h0 : DataW.trod enc Try.prog w base spare held m 2 (List.take (Try.prog.cellsOf 2) (List.drop 0 cs.toList)) = xs[0]? := hfl 0 _ rfl
  have h1 : DataW.trod enc Try.prog w base spare held m 38 (List.take (Try.prog.cellsOf 38) (List.drop 1 cs.toList)) = xs[1]? := hfl 1 _ rfl
  have h2 : DataW.trod enc Try.prog w base spare held m 38 (List.take (Try.prog.cellsOf 38) (List.drop 17 cs.toList)) = xs[2]? := hfl 2 _ rfl
  rw [List.getElem?_eq_getElem (by omega)] at h0 h1 h2
  have e2 : Try.prog.cellsOf 2 = 1 := by kernel_rfl
  have e16 : Try.prog.cellsOf 38 = 16 := by kernel_rfl
  have e1 : Try.prog.cellsOf 5 = 1 := by kernel_rfl
  rw [e2] at h0
  rw [e16] at h1 h2
  obtain ⟨n, hn, _, hw⟩ := DataW.trod_int Try.underlying2 h0
  have part : ∀ (o : Nat), o + 16 ≤ 33 → ∀ y, DataW.trod enc Try.prog w base spare held m 38 (List.take 16 (List.drop o cs.toList)) = some y → ∃ f : Nat → Nat, (∀ i, f i < 256) ∧ ∀ i, i < 16 → cs[o + i]? = some (.int .u8 (f i)) := by
    intro o ho y hy
    obtain ⟨ys, m', _, _, _, hl, hi⟩ := DataW.trod_array Try.underlying38 hy
    obtain ⟨f, hf, e⟩ := bytes_of (l := List.take 16 (List.drop o cs.toList)) Try.underlying5 (by simp; omega) hl (fun i h => by have := hi i h; rw [e1, Nat.mul_one] at this; exact this)
    refine ⟨f, hf, fun i h => ?_⟩
    have := congrArg (·[i]?) e
    simp only [List.getElem?_toArray, List.getElem?_take_of_lt h, List.getElem?_drop, Array.getElem?_toList, av_get f h] at this
    exact this
  obtain ⟨f, hf, hfc⟩ := part 1 (by omega) _ h1
  obtain ⟨g, hg, hgc⟩ := part 17 (by omega) _ h2
  refine ⟨n, f, g, bounds_i64 hw, hf, hg, ?_⟩
  congr 1
  apply Array.ext_getElem?
  intro i
  rw [get_cases]
  by_cases hi : i < 33
  · rw [if_pos hi]
    by_cases h0 : i = 0
    · subst h0
      rw [if_pos rfl]
      have := congrArg (·[0]?) hn
      simpa [List.getElem?_take] using this
    · rw [if_neg h0]
      by_cases h17 : i < 17
      · have := hfc (i - 1) (by omega)
        rw [show 1 + (i - 1) = i from by omega] at this
        rw [if_pos h17, this]
      · have := hgc (i - 17) (by omega)
        rw [show 17 + (i - 17) = i from by omega] at this
        rw [if_neg h17, this]
  · rw [if_neg hi, Array.getElem?_eq_none]; omega
end

end Go.Proofs.Ytlmhnimpglookaa
