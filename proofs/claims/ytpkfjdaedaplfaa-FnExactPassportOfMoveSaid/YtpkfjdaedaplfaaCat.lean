/- slices.Concat at []int64; appends of lists of whole numbers. -/
import Derived.Test.YtpkfjdaedaplfaaZZ
import Derived.Test.YtpkfjdaedaplfaaNin
namespace Go.Proofs.Ytpkfjdaedaplfaa
open Go.RowKit

def pZ9 (v : Value) (l : List Int) : Part := pRow v 2 1 l.length (zc l)
theorem Holds.ownZ9 {w0 w : World} {L : List Part} (h : Holds w0 w L) (i : Nat) {v : Value} {l : List Int} (hi : L[i]? = some (pZ9 v l)) : OwnZ w0.heap.size w v l := h.row i hi
theorem Holds.rdZ9 {w0 w : World} {L : List Part} (h : Holds w0 w L) (i : Nat) {v : Value} {l : List Int} (hi : L[i]? = some (pZ9 v l)) (hl : l.length ≤ 1000000) : RdZ w v l := OwnZ.rd (h.ownZ9 i hi) (by omega)
theorem zc_one {l : List Int} : ∀ u ∈ zc l, u.oneCell' = true := by
  intro u hu
  obtain ⟨x, _, rfl⟩ := List.mem_map.1 hu
  rfl
theorem pInts_pZ9 (v : Value) (l : List Nat) : pInts v l = pZ9 v (zs9 l) := by unfold pInts pZ9; rw [zs9_length, zc_zs9]
theorem set_same9 {α : Type _} {l : List α} {i : Nat} {a : α} (h : l[i]? = some a) : l.set i a = l := by
  apply List.ext_getElem?
  intro j
  rw [List.getElem?_set]
  split
  · rename_i e; subst e
    obtain ⟨h1, h2⟩ := List.getElem?_eq_some_iff.1 h
    rw [if_pos h1, h]
  · rfl
theorem run_append_none9 {w : World} (t ty e : TypeId) (i : TypeInfo) (ht : Try.prog.underlying t = some (.slice e)) (hi : Try.prog.info? e = some i) (A : Option Addr) (n c m : Nat) (h : n ≤ c) :
    (Builtin.append_ #[t, t] ty #[.slice A n c, .slice none 0 m]).run Try.prog w = .ok (.slice A n c) w := by
  cases A <;> simp [Builtin.append_, run_underlying ht, sizeOf, typeInfo, hi, Builtin.lenOf, Builtin.firstCells, h, storeCells]
/-- the numbers of a list that reads, behind a list of one's own -/
theorem run_appZ9 {w0 w : World} {L : List Part} (ty : TypeId) (H : Holds w0 w L) (k : Nat) {v : Value} {l : List Int} (hk : L[k]? = some (pZ9 v l)) {u : Value} {m : List Int} (hu : RdZ w u m) (hb : l.length + m.length ≤ 100000) :
    ∃ v' w', (Builtin.append_ #[79, 79] ty #[v, u]).run Try.prog w = .ok v' w' ∧ Holds w0 w' (L.set k (pZ9 v' (l ++ m))) := by
  obtain ⟨i0, hi, hz0, hz1, hz2⟩ := info_parts info64
  obtain ⟨A, c, rfl, _, hc⟩ := hu
  rcases A with _ | a
  · have hm : m = [] := by
      rcases m with _ | ⟨x, m⟩
      · rfl
      · obtain ⟨a, e, _⟩ := hc 0 x rfl; cases e
    subst hm
    have hv : ∃ A c, v = .slice A l.length c ∧ l.length ≤ c := by
      rcases (H.row k hk).2 with ⟨rfl, e⟩ | ⟨g, cap, cur, rfl, _, _, h1, _⟩
      · exact ⟨none, 0, by rw [e], by omega⟩
      · exact ⟨_, cap, rfl, h1⟩
    obtain ⟨A, c', rfl, hc'⟩ := hv
    refine ⟨_, w, run_append_none9 _ _ _ i0 Try.underlying79 hi A l.length c' c hc', ?_⟩
    rw [List.append_nil, set_same9 hk]
    exact H
  · obtain ⟨v', w', hr, h2, _⟩ := run_appH (P := Try.prog) 79 ty 2 i0 (.int .i64 0) 1 8 Try.underlying79 hi hz0 hz1 hz2 rfl (by decide) v l.length (zc l) H k hk a m.length c (zc m) (by rw [zc_length]; omega) (fun j y hj => by
      rw [zc_get] at hj
      rcases hm : m[j]? with _ | x
      · rw [hm] at hj; cases hj
      · rw [hm] at hj
        obtain ⟨a', e, _, h3⟩ := hc j x hm
        obtain rfl : a = a' := Option.some.inj e
        simp only [Option.map_some, Option.some.injEq] at hj
        rw [← hj]; exact h3) zc_one (by unfold maxLen; omega) (by omega)
    refine ⟨v', w', hr, ?_⟩
    unfold pZ9 at *
    have e : zc (l ++ m) = zc l ++ zc m := by unfold zc; simp
    rw [List.length_append, e]
    exact h2
theorem appZ9 {ops : Array Oper} {rest : List Oper} {o : Oper} {a : Act} {Q : Exit → Act → World → Prop} {w0 w : World} {L : List Part} (H : Holds w0 w L) (k : Nat) {v : Value} {l : List Int} (hk : L[k]? = some (pZ9 v l)) {u : Value} {m : List Int} (hu : RdZ w u m) (hb : l.length + m.length ≤ 100000)
    (hgd : o.guard = none) (s x : Operand) (ho : o.op = .call { callee := .builtin .append, args := #[s, x], argTypes := #[79, 79] }) (hs : a.eval s = v) (hx : a.eval x = u)
    (h : ∀ v' w', Holds w0 w' (L.set k (pZ9 v' (l ++ m))) → wpList Try.prog ops Q rest (a.put o.dst v') w') : wpList Try.prog ops Q (o :: rest) a w := by
  obtain ⟨v', w', hr, h2⟩ := run_appZ9 o.type H k hk hu hb
  refine wpList_plain hgd fun _ hK => ?_
  unfold Oper.wp
  rw [exec_append ho hs hx hr]
  exact hK _ _ (h _ _ h2)
/-- zeros behind nothing -/
theorem run_app0_9 {w : World} (ty : TypeId) (n : Nat) (h0 : 0 < n) (hn : n ≤ 100000) :
    ∃ g c cur, (Builtin.append_ #[79, 3] ty #[.slice none 0 0, .int .i64 n]).run Try.prog w = .ok (.slice (some ⟨g, 0, none⟩) n c) (w.drew.alloc (.cells cur 2)) ∧ g = w.heap.size ∧ n ≤ c ∧ c ≤ maxLen ∧ cur.size = c := by
  obtain ⟨i0, hi, hz0, hz1, hz2⟩ := info_parts info64
  have h63 : ¬ (9223372036854775807 < (n : Int)) := by omega
  have hw : IntKind.i64.wrap (n : Int) = n := wr64k (by omega) (by omega)
  have h48 : ¬ (281474976710656 < Builtin.nextslicecap n 0 * 8) := by rw [nextslicecap_zero h0]; omega
  have hge := grownCap_ge w n 0 2
  have hcm := grownCap_le_maxLen w n 0 2 (by unfold maxLen; omega)
  have hz : (Value.int .i64 0).cells = #[Value.int .i64 0] := rfl
  refine ⟨w.heap.size, grownCap w n 0 2, Builtin.zeroCells #[Value.int .i64 0] n ++ Builtin.zeroCells #[Value.int .i64 0] (grownCap w n 0 2 - n), ?_, rfl, hge, hcm, ?_⟩
  · have hn0 : ¬ (n = 0) := by omega
    have hneg : ¬ ((n : Int) < 0) := by omega
    have h48' : ¬ (281474976710656 < (n : Int) * 8) := by omega
    simp [Builtin.append_, run_underlying Try.underlying79, run_underlying Try.underlying3, sizeOf, typeInfo, zeroValue, hi, hz0, hz1, hz2, h63, h48, h48', hn0, hneg, hw, asInt, asIntOf, hz, Question.forced, newRow, grownCap, Builtin.firstCells]
  · simp [size_zeroCells]; omega
theorem exec_append2 {P : Program} {w : World} {o : Oper} {a : Act} {s x : Operand} {t t' : TypeId} (ho : o.op = .call { callee := .builtin .append, args := #[s, x], argTypes := #[t, t'] }) {v v' u : Value} {w' : World} (hs : a.eval s = v) (hx : a.eval x = u)
    (hr : (Builtin.append_ #[t, t'] o.type #[v, u]).run P w = .ok v' w') : (execOp a.eval o).run P w = .ok (.value v') w' := by
  unfold execOp
  simp only [ho, resolve, invoke, builtin, Sem.run_bind, Sem.run_pure, Result.andThen_ok, List.map_toArray, List.map_cons, List.map_nil, hs, hx, hr]
theorem app0_9 {ops : Array Oper} {rest : List Oper} {o : Oper} {a : Act} {Q : Exit → Act → World → Prop} {w : World} (n : Nat) (h0 : 0 < n) (hn : n ≤ 100000)
    (hgd : o.guard = none) (s x : Operand) (ho : o.op = .call { callee := .builtin .append, args := #[s, x], argTypes := #[79, 3] }) (hs : a.eval s = .slice none 0 0) (hx : a.eval x = .int .i64 n)
    (h : ∀ c w', n ≤ c → Holds w w' [pZ9 (.slice (some ⟨w.heap.size, 0, none⟩) 0 c) []] → wpList Try.prog ops Q rest (a.put o.dst (.slice (some ⟨w.heap.size, 0, none⟩) n c)) w') : wpList Try.prog ops Q (o :: rest) a w := by
  obtain ⟨g, c, cur, hr, rfl, h1, h2, h3⟩ := run_app0_9 (w := w) o.type n h0 hn
  refine wpList_plain hgd fun _ hK => ?_
  unfold Oper.wp
  rw [exec_append2 ho hs hx hr]
  have HB : Below w.heap.size w (w.drew.alloc (.cells cur 2)) := ⟨rfl, rfl, rfl, by simp, fun k hk => heap_past w.drew _ k hk⟩
  refine hK _ _ (h c (w.drew.alloc (.cells cur 2)) h1 ?_)
  refine (Holds.start w).new HB _ ?_ fun k hk => ?_
  · exact ⟨rfl, .inr ⟨w.heap.size, c, cur, rfl, Nat.zero_le _, heap_alloc_new w.drew _, Nat.zero_le _, h2, by omega, by simp [zc]⟩⟩
  · have : w.heap.size = k := by simpa [pZ9, pRow, Value.ownBlock] using hk
    omega
set_option maxRecDepth 100000 in
set_option maxHeartbeats 1000000 in
theorem grow_any9 (n : Nat) (hn : n ≤ 100000) (w : World) :
    Calls Try.prog 140 #[.slice none 0 0, .int .i64 n] w fun e w' => ∃ v, e = .returned v ∧ Holds w w' [pZ9 v []] := by
  have hneg : ¬ ((n : Int) < 0) := by omega
  rcases Nat.eq_zero_or_pos n with rfl | h0
  · go_enter Try.func140, Try.ntmps140
    go_wp2
    go_ret
    exact ⟨_, rfl, (Holds.start w).nilRow 2 1⟩
  · have hpos : (0 : Int) < (n : Int) := by omega
    have w1 : wrap64 (n : Int) = n := wr64 (by omega) (by omega)
    go_enter Try.func140, Try.ntmps140
    go_wp2_with (at_builtin; refine app0_9 n h0 hn rfl _ _ rfl rfl rfl ?_)
    intro c w' hc h1
    have hc0 : (0 : Int) ≤ c := by omega
    have hc1 : ¬ ((c : Int) < 0) := by omega
    go_wp2
    go_ret
    exact ⟨_, rfl, h1⟩
def flat9 (ls : List (List Int)) : List Int := ls.flatten
theorem flat9_take (ls : List (List Int)) {i : Nat} (h : i < ls.length) : flat9 (ls.take (i + 1)) = flat9 (ls.take i) ++ ls[i] := by
  unfold flat9
  rw [List.take_succ_eq_append_getElem h, List.flatten_append]
  simp
theorem flat9_len (ls : List (List Int)) : (flat9 ls).length = totZ ls := by unfold flat9 totZ; rw [List.length_flatten]
set_option maxRecDepth 100000 in
set_option maxHeartbeats 2000000 in
theorem concat_any9 (v : Value) (ls : List (List Int)) (hn : totZ ls ≤ 10000) (hl : ls.length ≤ 10000) (w : World) (hv : RdZ2 w v ls) :
    Calls Try.prog 138 #[v] w fun e w' => ∃ u, e = .returned u ∧ Holds w w' [pZ9 u (flat9 ls)] := by
  obtain ⟨A, c, rfl, _⟩ := hv.form
  have HV := hide hv; clear hv
  have hbig : totZ ls < 9223372036854775807 := by omega
  go_enter Try.func138, Try.ntmps138
  go_wp2
  go_loopw [3, 11] (fun s t wr => ∃ i : Nat, i ≤ ls.length ∧ t = .int .i64 i ∧ s = .int .i64 (totZ (ls.take i) : Nat) ∧ w = wr) (fun _ t _ => ls.length - (intOf t).toNat)
  case atStart => exact ⟨0, Nat.zero_le _, rfl, rfl, rfl⟩
  case round =>
    obtain ⟨i, hi, rfl, rfl, rfl⟩ := hrel
    have ht := totZ_take_le ls i
    by_cases hlt : i < ls.length
    · obtain ⟨g, A', c', rfl, h1, h2⟩ := HV.out.at hlt
      have hts := totZ_take_succ ls i hlt
      have htl := totZ_take_le ls (i + 1)
      rw [hts] at htl
      have HT := hide hts; clear hts h2
      generalize totZ (ls.take i) = t0 at *
      generalize ls[i].length = n1 at *
      have hng : ¬ (((t0 : Int) + (n1 : Int)) < 0) := by omega
      go_wp2
      go_roundw
      case rel => exact ⟨i + 1, by omega, by go_num, by rw [HT.out]; go_num, by trivial⟩
      case measure => simp [intOf]; omega
    · obtain rfl : i = ls.length := by omega
      rw [List.take_length] at ht ⊢
      have CG := hide fun w => grow_any9 (totZ ls) (by omega) w
      have hfl := fun k => flat9_len (ls.take k)
      have HFL := hide hfl; clear hfl hlt hi ht
      go_wp2_with fail
      refine (CG.out _).mono ?_
      rintro e w1 ⟨u1, rfl, H1⟩
      clear CG
      go_wp2
      go_loopw [6, 27] (fun q t wr => ∃ i : Nat, i ≤ ls.length ∧ t = .int .i64 i ∧ Holds w wr [pZ9 q (flat9 (ls.take i))]) (fun _ t _ => ls.length - (intOf t).toNat)
      case atStart => exact ⟨0, Nat.zero_le _, rfl, H1⟩
      case round =>
        clear H1
        obtain ⟨i, hi, rfl, hH⟩ := hrel
        by_cases hlt : i < ls.length
        · obtain ⟨g, A', c', rfl, h1, h2⟩ := (HV.out.below hH.low (Nat.le_refl _)).at hlt
          have hfl := flat9_take ls hlt
          have hle := HFL.out i
          have hle2 := HFL.out (i + 1)
          have hle3 := totZ_take_le ls (i + 1)
          rw [hfl, List.length_append] at hle2
          have HF := hide hfl; clear hfl
          have HB := hide (show (flat9 (ls.take i)).length + ls[i].length ≤ 100000 by omega)
          clear hle hle2 hle3
          obtain ⟨A2, c2, rfl⟩ := own_slice (hH.row 0 rfl)
          generalize flat9 (ls.take i) = fl at *
          have RD := hide h2; clear h2
          generalize ls[i] = li at *
          go_wp2_with (at_builtin; refine appZ9 hH 0 rfl RD.out HB.out rfl _ _ rfl rfl rfl ?_)
          intro v' w' h5
          have HQ := hide h5
          clear h5 hH h1
          go_wp2
          go_roundw
          case rel => exact ⟨i + 1, by omega, by go_num, by rw [HF.out]; exact HQ.out⟩
          case measure => simp [intOf]; omega
        · obtain rfl : i = ls.length := by omega
          rw [List.take_length] at hH
          clear hlt hi
          go_wp2
          go_ret
          exact ⟨_, rfl, hH⟩
end Go.Proofs.Ytpkfjdaedaplfaa
