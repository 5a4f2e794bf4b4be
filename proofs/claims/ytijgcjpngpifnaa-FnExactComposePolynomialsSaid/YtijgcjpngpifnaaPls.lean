/- Lists of the field: copies, cuts, ends, sums in place. -/
import Derived.Test.YtijgcjpngpifnaaPck
import Derived.Test.YtijgcjpngpifnaaTys
import Derived.Test.YtijgcjpngpifnaaQTail
import Derived.Lib.BufferMore
namespace Go.Proofs.Ytijgcjpngpifnaa
open Go.RowKit

@[go_sem] theorem eqlPo_some (a : Addr) (n c : Nat) (w : World) : (binOp .eql 44 (.slice (some a) n c) (.slice none 0 0)).run Try.prog w = .ok (.bool false) w := Lib.run_eql_slice_some_nil w a n c Try.underlying44
@[go_sem] theorem eqlPo_none (n c : Nat) (w : World) : (binOp .eql 44 (.slice none n c) (.slice none 0 0)).run Try.prog w = .ok (.bool true) w := Lib.run_eql_slice_nil_nil w n c Try.underlying44
theorem run_append_none2 {w : World} (t ty e : TypeId) (i : TypeInfo) (ht : Try.prog.underlying t = some (.slice e)) (hi : Try.prog.info? e = some i) (A : Option Addr) (n c c2 : Nat) (h : n ≤ c) :
    (Builtin.append_ #[t, t] ty #[.slice A n c, .slice none 0 c2]).run Try.prog w = .ok (.slice A n c) w := by
  cases A <;> simp [Builtin.append_, run_underlying ht, sizeOf, typeInfo, hi, Builtin.lenOf, Builtin.firstCells, h, storeCells]
/-- what reads as numbers, at the end of a row -/
theorem appRd {ops : Array Oper} {rest : List Oper} {o : Oper} {a : Act} {Q : Exit → Act → World → Prop} {w0 w : World} {L : List Part} (t e : TypeId) (ht : Try.prog.underlying t = some (.slice e)) (hinf : (Try.prog.info? e).map (fun i => (i.zero, i.size, i.bytes)) = some (some (.int .i64 0), 1, 8))
    (H : Holds w0 w L) (k : Nat) {v : Value} {l : List Nat} (hk : L[k]? = some (pRow v e 1 l.length (nums l)))
    {u : Value} {l2 : List Nat} (hu : RdN w u l2) (hb : l.length + l2.length ≤ 1000000) (hgd : o.guard = none) (s x : Operand)
    (ho : o.op = .call { callee := .builtin .append, args := #[s, x], argTypes := #[t, t] })
    (hs : a.eval s = v) (hx : a.eval x = u)
    (h : ∀ v' w', Holds w0 w' (L.set k (pRow v' e 1 (l ++ l2).length (nums (l ++ l2)))) → wpList Try.prog ops Q rest (a.put o.dst v') w') : wpList Try.prog ops Q (o :: rest) a w := by
  obtain ⟨i0, hi, hz0, hz1, hz2⟩ := info_parts hinf
  obtain ⟨A, c, rfl, _⟩ := hu.form
  cases A with
  | none =>
    have e2 : l2 = [] := by
      rcases Nat.eq_zero_or_pos l2.length with c | c
      · exact List.eq_nil_of_length_eq_zero c
      · obtain ⟨a, e, _⟩ := hu.at c
        cases e
    subst e2
    have hv : ∃ A c, v = .slice A l.length c ∧ l.length ≤ c := by
      rcases (H.row k hk).2 with ⟨rfl, e⟩ | ⟨g, cap, cur, rfl, _, _, h1, _⟩
      · exact ⟨none, 0, by rw [e], by omega⟩
      · exact ⟨_, cap, rfl, h1⟩
    obtain ⟨A, c', rfl, hc⟩ := hv
    have hr := exec_append (w := w) (t := t) ho hs hx (run_append_none2 (w := w) _ _ _ i0 ht hi A l.length c' c hc)
    refine wpList_plain hgd fun _ hK => ?_
    unfold Oper.wp
    rw [hr]
    refine hK _ _ (h _ _ ?_)
    rw [List.append_nil, set_same' hk]
    exact H
  | some ad =>
    refine appH (P := Try.prog) hgd s x t ho e i0 (.int .i64 0) 1 8 ht hi hz0 hz1 hz2 rfl (by decide) v l.length (nums l) hs H k hk ad l2.length c (nums l2) hx
      (by rw [nums_length]; omega) (fun j u hj => ?_) nums_one (by unfold maxLen; omega) (by omega) fun v' w' h1 => h v' w' ?_
    · have hj2 : j < l2.length := by have := (List.getElem?_eq_some_iff.1 hj).1; rw [nums_length] at this; exact this
      obtain ⟨a', e', _, h3⟩ := hu.at hj2
      cases e'
      rw [h3, nth_lt hj2]
      rw [nums_at hj2] at hj
      exact hj
    · have e : nums (l ++ l2) = nums l ++ nums l2 := by unfold nums; simp
      rw [List.length_append, e]
      exact h1
/-- a new block of numbers, at the end of a row -/
theorem appBl {ops : Array Oper} {rest : List Oper} {o : Oper} {a : Act} {Q : Exit → Act → World → Prop} {w0 w : World} {L : List Part} (t e : TypeId) (ht : Try.prog.underlying t = some (.slice e)) (hinf : (Try.prog.info? e).map (fun i => (i.zero, i.size, i.bytes)) = some (some (.int .i64 0), 1, 8))
    (H : Holds w0 w L) (k : Nat) {v : Value} {l : List Nat} (hk : L[k]? = some (pRow v e 1 l.length (nums l)))
    (g : Nat) (news : List Nat) (t2 : TypeId) (hc : w.heap[g]? = some (.cells (nums news).toArray t2 (0, 0))) (hb : l.length + news.length ≤ 1000000) (hgd : o.guard = none) (s x : Operand)
    (ho : o.op = .call { callee := .builtin .append, args := #[s, x], argTypes := #[t, t] })
    (hs : a.eval s = v) (hx : a.eval x = .slice (some ⟨g, 0, none⟩) news.length news.length)
    (h : ∀ v' w', Holds w0 w' (L.set k (pRow v' e 1 (l ++ news).length (nums (l ++ news)))) → wpList Try.prog ops Q rest (a.put o.dst v') w') : wpList Try.prog ops Q (o :: rest) a w := by
  obtain ⟨i0, hi, hz0, hz1, hz2⟩ := info_parts hinf
  refine appH (P := Try.prog) hgd s x t ho e i0 (.int .i64 0) 1 8 ht hi hz0 hz1 hz2 rfl (by decide) v l.length (nums l) hs H k hk ⟨g, 0, none⟩ news.length news.length (nums news) hx
    (by rw [nums_length]; omega) (fun j u hu => ?_) nums_one (by unfold maxLen; omega) (by omega) fun v' w' h1 => h v' w' ?_
  · have : ((⟨g, 0, none⟩ : Addr).add j) = ⟨g, j, none⟩ := by simp [Addr.add]; exact Eq.symm
    rw [this, cell_of_cells, cellsOf_heap hc]
    simpa using hu
  · have e : nums (l ++ news) = nums l ++ nums news := by unfold nums; simp
    rw [List.length_append, e]
    exact h1

theorem RdN.takeN {w : World} {A : Option Addr} {c : Nat} {l : List Nat} (h : RdN w (.slice A l.length c) l) {n : Nat} (hn : n ≤ l.length) : RdN w (.slice A n c) (l.take n) := by
  obtain ⟨A', c', e, h2, h3⟩ := h
  rw [List.length_map] at h2
  injection e with e1 e2 e3
  subst e1 e3
  have hlt : (l.take n).length = n := by rw [List.length_take]; omega
  refine ⟨A, c, by rw [List.length_map, hlt], by rw [List.length_map]; omega, fun i x hx => h3 i x ?_⟩
  have hi := (List.getElem?_eq_some_iff.1 hx).1
  rw [List.length_map] at hi
  rw [List.getElem?_map] at hx ⊢
  rw [List.getElem?_take_of_lt (by omega)] at hx
  exact hx
set_option maxRecDepth 100000 in
set_option maxHeartbeats 1000000 in
theorem own6_any (v : Value) (l : List Nat) (hl : l.length ≤ 100000) (w : World) (hv : RdN w v l) :
    Calls Try.prog 89 #[v] w fun e w' => ∃ u, e = .returned u ∧ Holds w w' [pInts u l] := by
  obtain ⟨A, c, rfl, _⟩ := hv.form
  have H1 := (Holds.start w).rowNew #[] 2 1 0 w.heap.size rfl rfl (by decide)
  have hv2 := hv.below (below1 w (.cells #[] 2)) (Nat.le_refl _)
  have HV := hide hv2; clear hv hv2
  go_enter Try.func89, Try.ntmps89
  go_wp2_with (at_builtin; refine appRd 22 2 Try.underlying22 info64 (l := []) H1 0 rfl HV.out (by simp; omega) rfl _ _ rfl rfl rfl ?_)
  intro v' w' h2
  have h3 : Holds w w' [pInts v' l] := h2
  go_wp2
  go_ret
  exact ⟨_, rfl, h3⟩
set_option maxRecDepth 100000 in
set_option maxHeartbeats 1000000 in
theorem clone6_any (v : Value) (l : List Nat) (hl : l.length ≤ 100000) (w : World) (hv : RdN w v l) :
    Calls Try.prog 79 #[v] w fun e w' => ∃ u, e = .returned u ∧ Holds w w' [pPo u l] := by
  obtain ⟨A, c, rfl, _⟩ := hv.form
  cases A with
  | none =>
    have e2 : l = [] := by
      rcases Nat.eq_zero_or_pos l.length with c | c
      · exact List.eq_nil_of_length_eq_zero c
      · obtain ⟨a, e, _⟩ := hv.at c
        cases e
    subst e2
    have H1 := (Holds.start w).poNil none 0
    clear hv
    go_enter Try.func79, Try.ntmps79
    go_wp2
    go_ret
    exact ⟨_, rfl, H1⟩
  | some ad =>
    have H1 := (Holds.start w).rowNew #[] 42 1 0 w.heap.size rfl rfl (by decide)
    have hv2 := hv.below (below1 w (.cells #[] 42)) (Nat.le_refl _)
    have HV := hide hv2; clear hv hv2
    go_enter Try.func79, Try.ntmps79
    go_wp2_with (at_builtin; refine appRd 44 42 Try.underlying44 infoRes (l := []) H1 0 rfl HV.out (by simp; omega) rfl _ _ rfl rfl rfl ?_)
    intro v' w' h2
    have h3 : Holds w w' [pPo v' l] := Holds.poRow (l := l) h2 0 rfl (by omega)
    go_wp2
    go_ret
    exact ⟨_, rfl, h3⟩

set_option maxRecDepth 100000 in
set_option maxHeartbeats 1000000 in
theorem last6_any (v : Value) (l : List Nat) (h0 : 0 < l.length) (w : World) (hv : RdN w v l) :
    Calls Try.prog 87 #[v] w fun e w' => e = .returned (.int .i64 ((lastN l : Nat) : Int)) ∧ w = w' := by
  obtain ⟨A, c, rfl, hlen⟩ := hv.form
  obtain ⟨m, hm⟩ : ∃ m, l.length = m + 1 := ⟨l.length - 1, by omega⟩
  have hml : m < l.length := by omega
  obtain ⟨a, rfl, _, c1⟩ := hv.at hml
  have hmi : (l.length : Int) - 1 = (m : Int) := by omega
  have e : lastN l = nth l m := by unfold lastN; rw [hm]; rfl
  rw [e]
  clear hv e h0
  replace hm := hide hm
  generalize nth l m = x at *
  go_enter Try.func87, Try.ntmps87
  go_wp2
  go_ret
  exact ⟨rfl, rfl⟩
set_option maxRecDepth 100000 in
set_option maxHeartbeats 400000 in
theorem degree6_any (A : Option Addr) (n c : Nat) (hn : n ≤ 1000000) (w : World) :
    Calls Try.prog 55 #[.slice A n c] w fun e w' => e = .returned (.int .i64 ((n : Int) - 1)) ∧ w = w' := by
  go_enter Try.func55, Try.ntmps55
  go_wp2
  go_ret
  exact ⟨rfl, rfl⟩

set_option maxRecDepth 100000 in
set_option maxHeartbeats 1000000 in
theorem cut6_any (A : Option Addr) (c : Nat) (l : List Nat) (hc : l.length ≤ c) (hc2 : l.length ≤ 1000000) (w : World) (hv : RdN w (.slice A l.length c) l) :
    Calls Try.prog 81 #[.slice A l.length c] w fun e w' => e = .returned (.slice A (tl l l.length) (tl l l.length)) ∧ w = w' := by
  have HV := hide hv; clear hv
  go_enter Try.func81, Try.ntmps81
  go_wp2
  go_loopw [3] (fun t wr => ∃ n : Nat, n ≤ l.length ∧ t = .int .i64 n ∧ tl l n = tl l l.length ∧ w = wr) (fun t _ => (intOf t).toNat)
  case atStart => exact ⟨l.length, Nat.le_refl _, rfl, rfl, rfl⟩
  case round =>
    obtain ⟨n, hn, rfl, ht, rfl⟩ := hrel
    cases n with
    | zero =>
      have d0 : decide ((0 : Int) < ((0 : Nat) : Int)) = false := rfl
      have e0 : tl l l.length = 0 := ht.symm
      clear ht
      replace e0 := hide e0
      have hqc : 0 ≤ c := by omega
      go_wp2
      go_ret
      exact ⟨by rw [e0.out]; exact rfl, rfl⟩
    | succ m =>
      have d0 : decide ((0 : Int) < ((m + 1 : Nat) : Int)) = true := decide_eq_true (by omega)
      have hml : m < l.length := by omega
      have hmi : ((m + 1 : Nat) : Int) - 1 = (m : Int) := by omega
      obtain ⟨a, rfl, _, c1⟩ := HV.out.at hml
      by_cases hz : nth l m = 0
      · have hnx := ht
        rw [tl_zero hz] at hnx
        rw [hz] at c1
        have HN := hide hnx; clear hnx ht hz
        obtain ⟨q, hq⟩ : ∃ q, q = m + 1 := ⟨_, rfl⟩
        rw [← hq] at d0 hmi hn ⊢
        have HQ := hide hq; clear hq
        go_wp2
        go_roundw
        case rel => exact ⟨m, by omega, by go_num, HN.out, by trivial⟩
        case measure => have := HQ.out; simp [intOf]; omega
      · have e0 := ht
        rw [tl_stop hz] at e0
        replace e0 := e0.symm
        clear ht
        have d1 : (((nth l m : Nat) : Int) == 0) = false := by simpa using hz
        clear hz
        generalize nth l m = x at *
        obtain ⟨q, hq⟩ : ∃ q, q = m + 1 := ⟨_, rfl⟩
        rw [← hq] at d0 hmi hn e0 ⊢
        have HQ := hide hq; clear hq
        replace e0 := hide e0
        have hqc : q ≤ c := by omega
        go_wp2
        go_ret
        exact ⟨by rw [e0.out]; exact rfl, rfl⟩

set_option maxRecDepth 100000 in
set_option maxHeartbeats 1000000 in
theorem strim6_any (A : Option Addr) (c : Nat) (l : List Nat) (hc : l.length ≤ c) (hc2 : l.length ≤ 100000) (w : World) (hv : RdN w (.slice A l.length c) l) :
    Calls Try.prog 78 #[.slice A l.length c] w fun e w' => ∃ u, e = .returned u ∧ Holds w w' [pInts u (trimN l)] := by
  have HV := hide hv; clear hv
  have CO := hide (fun (n : Nat) (A' : Option Addr) (hn : n ≤ l.length) (e : tl l l.length = n) (h : A' = A) => (show Calls Try.prog 89 #[.slice A' n c] w fun e w' => ∃ u, e = .returned u ∧ Holds w w' [pInts u (trimN l)] from by
    subst h
    have ht : trimN l = l.take n := by unfold trimN; rw [e]
    have hlt : (l.take n).length = n := by rw [List.length_take]; omega
    rw [ht]
    refine own6_any _ _ (by omega) w (HV.out.takeN hn)))
  go_enter Try.func78, Try.ntmps78
  go_wp2
  go_loopw [3] (fun t wr => ∃ n : Nat, n ≤ l.length ∧ t = .int .i64 n ∧ tl l n = tl l l.length ∧ w = wr) (fun t _ => (intOf t).toNat)
  case atStart => exact ⟨l.length, Nat.le_refl _, rfl, rfl, rfl⟩
  case round =>
    obtain ⟨n, hn, rfl, ht, rfl⟩ := hrel
    cases n with
    | zero =>
      have d0 : decide ((0 : Int) < ((0 : Nat) : Int)) = false := rfl
      have e0 : tl l l.length = 0 := ht.symm
      clear ht
      have hqc : 0 ≤ c := by omega
      have hC := fun (A' : Option Addr) (h : A' = _) => CO.out 0 A' (by omega) e0 h
      replace hC := hC _ rfl
      have HC := hide hC; clear hC CO e0
      go_wp2_with fail
      refine HC.out.mono ?_
      rintro e w1 ⟨u, rfl, h1⟩
      go_wp2
      go_ret
      exact ⟨_, rfl, h1⟩
    | succ m =>
      have d0 : decide ((0 : Int) < ((m + 1 : Nat) : Int)) = true := decide_eq_true (by omega)
      have hml : m < l.length := by omega
      have hmi : ((m + 1 : Nat) : Int) - 1 = (m : Int) := by omega
      obtain ⟨a, rfl, _, c1⟩ := HV.out.at hml
      by_cases hz : nth l m = 0
      · have hnx := ht
        rw [tl_zero hz] at hnx
        rw [hz] at c1
        have HN := hide hnx; clear hnx ht hz
        obtain ⟨q, hq⟩ : ∃ q, q = m + 1 := ⟨_, rfl⟩
        rw [← hq] at d0 hmi hn ⊢
        have HQ := hide hq; clear hq
        go_wp2
        go_roundw
        case rel => exact ⟨m, by omega, by go_num, HN.out, by trivial⟩
        case measure => have := HQ.out; simp [intOf]; omega
      · have e0 := ht
        rw [tl_stop hz] at e0
        replace e0 := e0.symm
        clear ht
        have d1 : (((nth l m : Nat) : Int) == 0) = false := by simpa using hz
        clear hz
        generalize nth l m = x at *
        obtain ⟨q, hq⟩ : ∃ q, q = m + 1 := ⟨_, rfl⟩
        rw [← hq] at d0 hmi hn e0 ⊢
        have HQ := hide hq; clear hq
        have hqc : q ≤ c := by omega
        have hC := fun (A' : Option Addr) (h : A' = _) => CO.out q A' (by omega) e0 h
        replace hC := hC _ rfl
        have HC := hide hC; clear hC CO e0
        go_wp2_with fail
        refine HC.out.mono ?_
        rintro e w1 ⟨u, rfl, h1⟩
        go_wp2
        go_ret
        exact ⟨_, rfl, h1⟩

end Go.Proofs.Ytijgcjpngpifnaa
