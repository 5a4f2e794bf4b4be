/- Lists of moves, wherever they lie: read, measured, compared, copied. -/
import Derived.Test.YtpkfjdaedaplfaaFrl
import Derived.Test.YtpkfjdaedaplfaaFrv
namespace Go.Proofs.Ytpkfjdaedaplfaa
open Go.RowKit

/-- the cells of a list of moves -/
def mc (l : List (Int × Int × Int)) : List Value := l.flatMap fun x => [Value.int .i64 x.1, Value.int .i64 x.2.1, Value.int .i64 x.2.2]
theorem mc_length (l : List (Int × Int × Int)) : (mc l).length = l.length * 3 := by unfold mc; induction l with
  | nil => rfl
  | cons x l ih => rw [List.flatMap_cons, List.length_append, ih, List.length_cons]; simp; omega
theorem mc_cons (x : Int × Int × Int) (l : List (Int × Int × Int)) : mc (x :: l) = .int .i64 x.1 :: .int .i64 x.2.1 :: .int .i64 x.2.2 :: mc l := rfl
theorem mc_append (l m : List (Int × Int × Int)) : mc (l ++ m) = mc l ++ mc m := by unfold mc; rw [List.flatMap_append]
theorem mc_get (l : List (Int × Int × Int)) (i : Nat) (x : Int × Int × Int) (h : l[i]? = some x) : (mc l)[i * 3]? = some (.int .i64 x.1) ∧ (mc l)[i * 3 + 1]? = some (.int .i64 x.2.1) ∧ (mc l)[i * 3 + 2]? = some (.int .i64 x.2.2) := by
  induction l generalizing i with
  | nil => simp at h
  | cons y l ih =>
    cases i with
    | zero => simp only [List.getElem?_cons_zero, Option.some.injEq] at h; subst h; rw [mc_cons]; exact ⟨rfl, rfl, rfl⟩
    | succ i =>
      rw [List.getElem?_cons_succ] at h
      rw [mc_cons, show (i + 1) * 3 = (i * 3) + 1 + 1 + 1 by omega]
      exact ih i h
theorem mc_set (l : List (Int × Int × Int)) (i : Nat) (x : Int × Int × Int) : (((mc l).set (i * 3) (.int .i64 x.1)).set (i * 3 + 1) (.int .i64 x.2.1)).set (i * 3 + 2) (.int .i64 x.2.2) = mc (l.set i x) := by
  induction l generalizing i with
  | nil => simp [mc]
  | cons y l ih =>
    cases i with
    | zero => rfl
    | succ i =>
      rw [List.set_cons_succ, mc_cons, mc_cons, ← ih, show (i + 1) * 3 = (i * 3) + 1 + 1 + 1 by omega]
      rfl
def OwnM (B : Nat) (w : World) (v : Value) (l : List (Int × Int × Int)) : Prop := w.ownsRow B 38 3 v l.length (mc l)
/-- a slice whose cells read as the list -/
def RdM (w : World) (v : Value) (l : List (Int × Int × Int)) : Prop :=
  ∃ (A : Option Addr) (c : Nat), v = .slice A l.length c ∧ l.length ≤ 9223372036854775807 ∧ ∀ (i : Nat) (x : Int × Int × Int), l[i]? = some x → ∃ a, A = some a ∧ a.block < w.heap.size ∧ w.cell? (a.add (i * 3)) = some (.int .i64 x.1) ∧ w.cell? ⟨(a.add (i * 3)).block, (a.add (i * 3)).off + 1, none⟩ = some (.int .i64 x.2.1) ∧ w.cell? ⟨(a.add (i * 3)).block, (a.add (i * 3)).off + 2, none⟩ = some (.int .i64 x.2.2)
theorem RdM.form {w : World} {v : Value} {l : List (Int × Int × Int)} (h : RdM w v l) : ∃ A c, v = .slice A l.length c ∧ l.length ≤ 9223372036854775807 := by
  obtain ⟨A, c, h1, h2, _⟩ := h; exact ⟨A, c, h1, h2⟩
theorem RdM.at {w : World} {A : Option Addr} {n c k : Nat} {l : List (Int × Int × Int)} (h : RdM w (.slice A n c) l) (hk : k < l.length) :
    ∃ a, A = some a ∧ a.block < w.heap.size ∧ w.cell? (a.add (k * 3)) = some (.int .i64 l[k].1) ∧ w.cell? ⟨(a.add (k * 3)).block, (a.add (k * 3)).off + 1, none⟩ = some (.int .i64 l[k].2.1) ∧ w.cell? ⟨(a.add (k * 3)).block, (a.add (k * 3)).off + 2, none⟩ = some (.int .i64 l[k].2.2) := by
  obtain ⟨A', c', e, _, h3⟩ := h
  injection e with e1 _ _
  subst e1
  exact h3 k _ (List.getElem?_eq_getElem hk)
theorem RdM.atC {w w' : World} {a : Addr} {C n c k : Nat} {l : List (Int × Int × Int)} (h : RdM w (.slice (some a) n c) l) (hb : Below C w w') (hC : w.heap.size ≤ C) (hk : k < l.length) :
    w'.cell? (a.add (k * 3)) = some (.int .i64 l[k].1) ∧ w'.cell? ⟨(a.add (k * 3)).block, (a.add (k * 3)).off + 1, none⟩ = some (.int .i64 l[k].2.1) ∧ w'.cell? ⟨(a.add (k * 3)).block, (a.add (k * 3)).off + 2, none⟩ = some (.int .i64 l[k].2.2) := by
  obtain ⟨a', e, h4, h5, h6, h7⟩ := h.at hk
  obtain rfl := Option.some.inj e
  have hq := add_block a (k * 3)
  exact ⟨by rw [← h5]; exact hb.cell (p := a.add (k * 3)) (by rw [hq]; omega), by rw [← h6]; exact hb.cell (p := ⟨(a.add (k * 3)).block, (a.add (k * 3)).off + 1, none⟩) (by show (a.add (k * 3)).block < _; rw [hq]; omega), by rw [← h7]; exact hb.cell (p := ⟨(a.add (k * 3)).block, (a.add (k * 3)).off + 2, none⟩) (by show (a.add (k * 3)).block < _; rw [hq]; omega)⟩
theorem RdM.below {C : Nat} {w w' : World} {v : Value} {l : List (Int × Int × Int)} (h : RdM w v l) (hb : Below C w w') (hC : w.heap.size ≤ C) : RdM w' v l := by
  obtain ⟨A, c, rfl, h2, h3⟩ := h
  refine ⟨A, c, rfl, h2, fun i x hx => ?_⟩
  obtain ⟨a, e, h4, _⟩ := h3 i x hx
  subst e
  have hi := (List.getElem?_eq_some_iff.1 hx).1
  have hx' : l[i] = x := (List.getElem?_eq_some_iff.1 hx).2
  refine ⟨a, rfl, Nat.lt_of_lt_of_le h4 hb.size, ?_⟩
  have := RdM.atC (w := w) (w' := w') (a := a) (C := C) (n := l.length) (c := c) (k := i) (l := l) ⟨some a, c, rfl, h2, h3⟩ hb hC hi
  rw [hx'] at this
  exact this
theorem OwnM.rd {B : Nat} {w : World} {v : Value} {l : List (Int × Int × Int)} (h : OwnM B w v l) (hl : l.length ≤ 9223372036854775807) : RdM w v l := by
  rcases h.2 with ⟨e, h0⟩ | ⟨g, cap, cur, e, hB, hh, h1, h2, h3, h4⟩
  · exact ⟨none, 0, by rw [e, h0], hl, fun i x hx => by have := (List.getElem?_eq_some_iff.1 hx).1; omega⟩
  · refine ⟨_, _, e, hl, fun i x hx => ⟨_, rfl, (Array.getElem?_eq_some_iff.1 hh).1, ?_⟩⟩
    have hadd : ∀ j, (⟨g, 0, none⟩ : Addr).add j = ⟨g, j, none⟩ := fun j => by unfold Addr.add; split <;> simp_all
    rw [hadd, cell_of_cells, cell_of_cells, cell_of_cells, cellsOf_heap hh]
    have hi := (List.getElem?_eq_some_iff.1 hx).1
    have e2 : ∀ j : Nat, (cur.toList.take (l.length * 3))[j]? = (mc l)[j]? := fun j => by rw [h4]
    have e3 := e2 (i * 3)
    have e4 := e2 (i * 3 + 1)
    have e5 := e2 (i * 3 + 2)
    rw [List.getElem?_take_of_lt (by omega), Array.getElem?_toList, (mc_get l i x hx).1] at e3
    rw [List.getElem?_take_of_lt (by omega), Array.getElem?_toList, (mc_get l i x hx).2.1] at e4
    rw [List.getElem?_take_of_lt (by omega), Array.getElem?_toList, (mc_get l i x hx).2.2] at e5
    exact ⟨e3, e4, e5⟩
set_option maxRecDepth 100000 in
set_option maxHeartbeats 400000 in
theorem szMoveS_any (A : Option Addr) (n c : Nat) (hn : n ≤ 9223372036854775807) (w : World) :
    Calls Try.prog 45 #[.slice A n c, .int .i64 1048576] w fun e w' => e = .returned (.int .i64 (if 1048576 < n then -1 else 1048576 - n)) ∧ w' = w := by
  by_cases hlt : 1048576 < n
  · rw [if_pos hlt]
    have hd : decide ((1048576 : Int) - (n : Int) < 0) = true := by simp; omega
    go_enter Try.func45, Try.ntmps45
    go_wp2
    go_ret
    exact ⟨rfl, rfl⟩
  · rw [if_neg hlt]
    have hd : decide ((1048576 : Int) - (n : Int) < 0) = false := decide_eq_false (by omega)
    go_enter Try.func45, Try.ntmps45
    go_wp2
    go_ret
    exact ⟨rfl, rfl⟩
set_option maxRecDepth 100000 in
set_option maxHeartbeats 2000000 in
theorem eqMoveS_rd (l : List (Int × Int × Int)) (v v' : Value) (w : World) (h : RdM w v l) (h' : RdM w v' l) :
    Calls Try.prog 42 #[v, v'] w fun e w' => e = .returned (.bool true) ∧ Below w.heap.size w w' := by
  obtain ⟨A, c, rfl, hl⟩ := h.form
  obtain ⟨A', c', rfl, _⟩ := h'.form
  have H := hide h; clear h
  have H' := hide h'; clear h'
  have hne : ((l.length : Int) != (l.length : Int)) = false := by simp
  go_enter Try.func42, Try.ntmps42
  go_wp2
  go_loopw [5] (fun i wr => ∃ k : Nat, k ≤ l.length ∧ i = .int .i64 k ∧ Below w.heap.size w wr) (fun i _ => l.length - (intOf i).toNat)
  case atStart => exact ⟨0, by omega, rfl, Below.refl _ _⟩
  case round =>
    obtain ⟨k, hk, rfl, hb⟩ := hrel
    by_cases hlt : k < l.length
    · obtain ⟨a, rfl, _, _, _⟩ := (H.out.below hb (Nat.le_refl _)).at hlt
      obtain ⟨a', rfl, _, _, _⟩ := (H'.out.below hb (Nat.le_refl _)).at hlt
      have CA := hide fun (wx : World) (hx : Holds w wx []) => And.intro (H.out.atC hx.low (Nat.le_refl _) hlt) (H'.out.atC hx.low (Nat.le_refl _) hlt)
      have C := hide fun w => eqMove_same l[k].1 l[k].2.1 l[k].2.2 w
      generalize l[k].1 = x at *
      generalize l[k].2.1 = y at *
      generalize l[k].2.2 = z at *
      go_wp2_with fail
      refine region_HW (w0 := w) (L := []) (by kernel_rfl) (by kernel_rfl) ⟨hb, by simp, List.Pairwise.nil⟩ ?_
      iterate 8 (
        apply wq_step
        · go_simp
        · intro wx hx
          have c1 := (CA.out wx hx).1.1
          have c2 := (CA.out wx hx).1.2.1
          have c3 := (CA.out wx hx).1.2.2
          have d1 := (CA.out wx hx).2.1
          have d2 := (CA.out wx hx).2.2.1
          have d3 := (CA.out wx hx).2.2.2
          go_simp
          exact rfl)
      apply wq_step
      · go_simp
      · intro wx hx
        go_simp
        go_at_call 39
        exact Calls.mono (C.out wx) fun e w' h => ⟨h.1, hx.call h.2⟩
      apply wq_step
      · go_simp
      · intro wx hx
        go_simp
        exact rfl
      refine wq_nil ?_
      intro w2 hx
      have hb2 := hx.low
      clear hx CA C
      go_simp
      go_wp2
      go_roundw
      case rel => exact ⟨k + 1, by omega, by go_num, hb2⟩
      case measure => simp [intOf]; omega
    · obtain rfl : k = l.length := by omega
      clear hlt hk
      go_wp2
      go_ret
      exact ⟨rfl, hb⟩
def pMv (v : Value) (l : List (Int × Int × Int)) : Part := pRow v 38 3 l.length (mc l)
theorem Holds.ownM {w0 w : World} {L : List Part} (h : Holds w0 w L) (i : Nat) {v : Value} {l : List (Int × Int × Int)} (hi : L[i]? = some (pMv v l)) : OwnM w0.heap.size w v l := h.row i hi
theorem Holds.rdM {w0 w : World} {L : List Part} (h : Holds w0 w L) (i : Nat) {v : Value} {l : List (Int × Int × Int)} (hi : L[i]? = some (pMv v l)) (hl : l.length ≤ 9223372036854775807) : RdM w v l := OwnM.rd (h.ownM i hi) hl
theorem Holds.newM {w0 w w' : World} {L : List Part} (h : Holds w0 w L) (hb : Below w.heap.size w w') {v : Value} {l : List (Int × Int × Int)} (hr : OwnM w.heap.size w' v l) : Holds w0 w' (pMv v l :: L) := h.newRow hb hr
theorem pMv_len {w : World} {A : Option Addr} {n c : Nat} {l : List (Int × Int × Int)} (h : (pMv (.slice A n c) l).ok w) : n = l.length := by
  rcases (show w.ownsRow 0 38 3 (.slice A n c) l.length (mc l) from h).2 with ⟨e, h0⟩ | ⟨_, _, _, e, _⟩
  · injection e with _ e _; omega
  · injection e with _ e _
theorem Holds.setM {w0 w : World} {L : List Part} (h : Holds w0 w L) (i : Nat) {g n c : Nat} {l : List (Int × Int × Int)} (hi : L[i]? = some (pMv (.slice (some ⟨g, 0, none⟩) n c) l)) (k : Nat) (x : Int × Int × Int) :
    Holds w0 (((w.setCell ⟨g, k * 3, none⟩ (.int .i64 x.1)).setCell ⟨g, k * 3 + 1, none⟩ (.int .i64 x.2.1)).setCell ⟨g, k * 3 + 2, none⟩ (.int .i64 x.2.2)) (L.set i (pMv (.slice (some ⟨g, 0, none⟩) n c) (l.set k x))) := by
  obtain rfl := pMv_len (h.at i hi)
  have hil := (List.getElem?_eq_some_iff.1 hi).1
  have h1 := h.put i hi (k * 3) (.int .i64 x.1)
  have h2 := h1.put i (g := g) (n := l.length) (c := c) (e := 38) (s := 3) (xs := (mc l).set (k * 3) (.int .i64 x.1)) (by rw [List.getElem?_set, if_pos rfl, if_pos hil]) (k * 3 + 1) (.int .i64 x.2.1)
  have h3 := h2.put i (g := g) (n := l.length) (c := c) (e := 38) (s := 3) (xs := ((mc l).set (k * 3) (.int .i64 x.1)).set (k * 3 + 1) (.int .i64 x.2.1)) (by rw [List.getElem?_set, List.length_set, if_pos rfl, if_pos hil]) (k * 3 + 2) (.int .i64 x.2.2)
  rw [mc_set, List.set_set, List.set_set] at h3
  unfold pMv
  rw [List.length_set]
  exact h3
theorem Holds.cellM {w0 w : World} {L : List Part} (h : Holds w0 w L) (i : Nat) {g n c : Nat} {l : List (Int × Int × Int)} (hi : L[i]? = some (pMv (.slice (some ⟨g, 0, none⟩) n c) l)) {k : Nat} (hk : k < l.length) :
    (w.cell? ⟨g, k * 3, none⟩ = some (.int .i64 l[k].1) ∧ w.cell? ⟨g, k * 3 + 1, none⟩ = some (.int .i64 l[k].2.1) ∧ w.cell? ⟨g, k * 3 + 2, none⟩ = some (.int .i64 l[k].2.2)) ∧ w.frozen? ⟨g, k * 3, none⟩ = false ∧ w.frozen? ⟨g, k * 3 + 1, none⟩ = false ∧ w.frozen? ⟨g, k * 3 + 2, none⟩ = false := by
  obtain rfl := pMv_len (h.at i hi)
  have hr : w.ownsRow 0 38 3 (.slice (some ⟨g, 0, none⟩) l.length c) l.length (mc l) := h.at i hi
  obtain ⟨g', c', e, _, _, _, _, h1, h2⟩ := row_at hr (by omega)
  injection e with e1 _ _
  injection e1 with e1
  injection e1 with e1 _ _
  subst e1
  have e2 := mc_get l k l[k] (List.getElem?_eq_getElem hk)
  exact ⟨⟨h1 _ _ e2.1, h1 _ _ e2.2.1, h1 _ _ e2.2.2⟩, h2 _, h2 _, h2 _⟩
theorem infoMv : (Try.prog.info? 38).map (fun i => (i.zero, i.size, i.bytes)) = some (some (.agg #[.int .i64 0, .int .i64 0, .int .i64 0]), 3, 24) := by kernel_rfl
theorem madeM (n : Nat) : (madeCells #[Value.int .i64 0, Value.int .i64 0, Value.int .i64 0] (n * 3)).toList = mc (List.replicate n (0, 0, 0)) := by
  apply List.ext_getElem?
  intro j
  by_cases hj : j < n * 3
  · have hq : j / 3 < n := by omega
    have e := mc_get (List.replicate n ((0 : Int), (0 : Int), (0 : Int))) (j / 3) (0, 0, 0) (by rw [List.getElem?_replicate, if_pos hq])
    have hm : (madeCells #[Value.int .i64 0, Value.int .i64 0, Value.int .i64 0] (n * 3)).toList[j]? = some (.int .i64 0) := by
      rw [Array.getElem?_toList]
      unfold madeCells
      rw [Array.getElem?_map, Array.getElem?_range, if_pos hj]
      have h3 : j % 3 = 0 ∨ j % 3 = 1 ∨ j % 3 = 2 := by omega
      rcases h3 with h | h | h <;> simp [h]
    rw [hm]
    have h3 : j % 3 = 0 ∨ j % 3 = 1 ∨ j % 3 = 2 := by omega
    rcases h3 with h | h | h
    · rw [show j = j / 3 * 3 by omega, e.1]
    · rw [show j = j / 3 * 3 + 1 by omega, e.2.1]
    · rw [show j = j / 3 * 3 + 2 by omega, e.2.2]
  · rw [List.getElem?_eq_none (by rw [Array.length_toList, size_madeCells]; omega), List.getElem?_eq_none (by rw [mc_length, List.length_replicate]; omega)]
/-- the first k, zeros behind them -/
def upM (l : List (Int × Int × Int)) (k : Nat) : List (Int × Int × Int) := l.take k ++ List.replicate (l.length - k) (0, 0, 0)
theorem upM_length (l : List (Int × Int × Int)) {k : Nat} (h : k ≤ l.length) : (upM l k).length = l.length := by unfold upM; simp; omega
theorem upM_set (l : List (Int × Int × Int)) {k : Nat} (h : k < l.length) : (upM l k).set k l[k] = upM l (k + 1) := by
  unfold upM
  rw [List.set_append_right _ _ (by simp; omega), List.take_succ_eq_append_getElem h]
  have e : k - (l.take k).length = 0 := by simp; omega
  rw [e, show l.length - k = (l.length - (k + 1)) + 1 from by omega, List.replicate_succ, List.set_cons_zero, List.append_assoc]
  rfl
set_option maxRecDepth 100000 in
set_option maxHeartbeats 1000000 in
theorem toMoveS_any (l : List (Int × Int × Int)) (v : Value) (w : World) (h : RdM w v l) (hl : l.length ≤ 1048576) :
    Calls Try.prog 47 #[v] w fun e w' => ∃ u, e = .returned u ∧ Below w.heap.size w w' ∧ OwnM w.heap.size w' u l := by
  obtain ⟨A, c, rfl, _⟩ := h.form
  obtain ⟨i0, hi, hz0, hz1, hz2⟩ := info_parts infoMv
  have I0 := hide (And.intro hi (And.intro hz0 (And.intro hz1 hz2))); clear hi hz0 hz1 hz2
  have H := hide h; clear h
  have hb8 := I0.out.2.2.2
  have hbb : i0.bytes * l.length ≤ 281474976710656 := by rw [hb8]; omega
  clear hb8
  go_enter Try.func47, Try.ntmps47
  go_wp2_with (refine wpList_make_full _ rfl _ _ 57 rfl w.heap.size 38 i0 (.agg #[.int .i64 0, .int .i64 0, .int .i64 0]) 3 Try.underlying57 I0.out.1 I0.out.2.1 I0.out.2.2.1 .i64 .i64 _ _ l.length rfl rfl rfl rfl hbb (by unfold maxLen; omega) (Nat.le_refl _) ?_)
  intro w1 ho hg
  have b1 : Below w.heap.size w w1 := (Below.refl _ _).grown hg (Nat.le_refl _) (fun k hk => by cases hk)
  have hz : (madeCells #[Value.int .i64 0, Value.int .i64 0, Value.int .i64 0] (l.length * 3)).toList = mc (upM l 0) := by rw [madeM]; unfold upM; simp
  rw [hz] at ho
  clear hz hbb
  have ho' : OwnM w.heap.size w1 (.slice (some ⟨w.heap.size, 0, none⟩) l.length l.length) (upM l 0) := by
    unfold OwnM; rw [upM_length l (Nat.zero_le _)]; exact ho
  have HO := hide ((Holds.start w).newM b1 ho'); clear ho ho' hg b1
  go_wp2
  go_loopw [4] (fun i wr => ∃ k : Nat, k ≤ l.length ∧ i = .int .i64 k ∧ Holds w wr [pMv (.slice (some ⟨w.heap.size, 0, none⟩) l.length l.length) (upM l k)]) (fun i _ => l.length - (intOf i).toNat)
  case atStart => exact ⟨0, by omega, rfl, HO.out⟩
  case round =>
    clear HO
    obtain ⟨k, hk, rfl, ho⟩ := hrel
    by_cases hlt : k < l.length
    · obtain ⟨a, rfl, _, _⟩ := (H.out.below ho.low (Nat.le_refl _)).at hlt
      have c1 := (H.out.atC ho.low (Nat.le_refl _) hlt).1
      have c2 := (H.out.atC ho.low (Nat.le_refl _) hlt).2.1
      have c3 := (H.out.atC ho.low (Nat.le_refl _) hlt).2.2
      have C := hide fun w => toMove_any l[k].1 l[k].2.1 l[k].2.2 w
      have hup := upM_set l hlt
      have HS := hide fun (wx : World) (hx : Holds w wx [pMv (.slice (some ⟨w.heap.size, 0, none⟩) l.length l.length) (upM l k)]) => (show Holds w (((wx.setCell ⟨w.heap.size, k * 3, none⟩ (.int .i64 l[k].1)).setCell ⟨w.heap.size, k * 3 + 1, none⟩ (.int .i64 l[k].2.1)).setCell ⟨w.heap.size, k * 3 + 2, none⟩ (.int .i64 l[k].2.2)) [pMv (.slice (some ⟨w.heap.size, 0, none⟩) l.length l.length) (upM l (k + 1))] from by
        have := hx.setM 0 rfl k l[k]
        rw [hup] at this
        exact this)
      have hkl : k < (upM l k).length := by rw [upM_length l hk]; exact hlt
      have HC := hide fun (wx : World) (hx : Holds w wx [pMv (.slice (some ⟨w.heap.size, 0, none⟩) l.length l.length) (upM l k)]) => hx.cellM 0 rfl hkl
      clear hup
      generalize l[k].1 = x at *
      generalize l[k].2.1 = y at *
      generalize l[k].2.2 = z at *
      generalize (upM l k)[k].1 = p at *
      generalize (upM l k)[k].2.1 = q at *
      generalize (upM l k)[k].2.2 = r at *
      clear hkl
      go_wp2_with fail
      refine (C.out _).mono ?_
      rintro e w2 ⟨rfl, hb⟩
      have H2 := ho.call hb
      clear ho hb c1 c2 c3
      have d1 := (HC.out _ H2).1.1
      have d2 := (HC.out _ H2).1.2.1
      have d3 := (HC.out _ H2).1.2.2
      have d4 := (HC.out _ H2).2.1
      have d5 := (HC.out _ H2).2.2.1
      have d6 := (HC.out _ H2).2.2.2
      have H3 := hide (HS.out _ H2)
      clear H2
      go_wp2
      go_roundw
      case rel => exact ⟨k + 1, by omega, by go_num, H3.out⟩
      case measure => simp [intOf]; omega
    · obtain rfl : k = l.length := by omega
      have hul : upM l l.length = l := by unfold upM; simp
      rw [hul] at ho
      have HO := hide ho; clear ho hul hlt hk
      go_wp2
      go_ret
      exact ⟨_, rfl, HO.out.low, HO.out.ownM 0 rfl⟩
section
open Go.ChangeShapes Go.WideShapes Go.Deep
variable {H : Type} {enc : TypeId × Value → H} {w : World} {base : Nat} {spare : Nat → Bool} {held : Bool}
theorem next_cell2 (a : Addr) (hs : a.spot = none) : (⟨a.block, a.off + 2, none⟩ : Addr) = a.add 2 := by unfold Addr.add; simp
set_option maxRecDepth 100000 in
theorem open_mvs {r : Reach} {b0 : Nat} {v : Value} {d : DataW H} {ps : List MemPlace}
    (hval : Value.okWide Try.prog w r b0 62 v) (hd : DataW.Trod enc Try.prog w base spare held 62 v d ps) : ∃ l : List (Int × Int × Int), RdM w v l ∧ True := by
  obtain ⟨a0, len0, cap0, rfl⟩ := okWide_slice Try.underlying62 hval
  obtain ⟨fuel, hf⟩ := hd
  rcases Go.Deep.open_slice Try.underlying62 hf with ⟨e1, _⟩ | ⟨a, len, cap, m, n, D, Pl, e1, _, hl, hm, hmm, _, hV⟩
  · injection e1 with e1
    rw [e1]
    exact ⟨[], ⟨none, 0, rfl, by simp, fun i x hx => by simp at hx⟩, trivial⟩
  · injection e1 with e1
    rw [e1]
    have hlm : len ≤ m := by rw [hmm]; split <;> omega
    have hC : Try.prog.cellsOf 36 = 3 := by kernel_rfl
    have h1 : Try.prog.cellsOf 2 = 1 := by kernel_rfl
    rw [hC] at hV
    have key : ∀ i, i < len → ∃ x : Int × Int × Int, w.cell? (a.add (i * 3)) = some (.int .i64 x.1) ∧ w.cell? ⟨(a.add (i * 3)).block, (a.add (i * 3)).off + 1, none⟩ = some (.int .i64 x.2.1) ∧ w.cell? ⟨(a.add (i * 3)).block, (a.add (i * 3)).off + 2, none⟩ = some (.int .i64 x.2.2) := by
      intro i hi
      obtain ⟨cs', hc, ht⟩ := hV i (by omega)
      obtain ⟨_, hcl, hat⟩ := World.cells?_some hc
      obtain ⟨xs, k, _, hx, _, hlen, hfl⟩ := DataW.trod_struct Try.underlying36 ht
      have hx2 : xs.length = 3 := hlen
      have g0 : DataW.trod enc Try.prog w base spare held k 2 (List.take (Try.prog.cellsOf 2) (List.drop 0 cs')) = xs[0]? := hfl 0 _ rfl
      have g1 : DataW.trod enc Try.prog w base spare held k 2 (List.take (Try.prog.cellsOf 2) (List.drop 1 cs')) = xs[1]? := hfl 1 _ rfl
      have g2 : DataW.trod enc Try.prog w base spare held k 2 (List.take (Try.prog.cellsOf 2) (List.drop 2 cs')) = xs[2]? := hfl 2 _ rfl
      rw [List.getElem?_eq_getElem (by omega), h1] at g0 g1 g2
      obtain ⟨x, ex, _, _⟩ := DataW.trod_int Try.underlying2 g0
      obtain ⟨y, ey, _, _⟩ := DataW.trod_int Try.underlying2 g1
      obtain ⟨z, ez, _, _⟩ := DataW.trod_int Try.underlying2 g2
      have c0 := hat 0 (by omega)
      have c1 := hat 1 (by omega)
      have c2 := hat 2 (by omega)
      have e0 : cs'[0]? = some (.int .i64 x) := by have := congrArg (·[0]?) ex; simpa [List.getElem?_take] using this
      have e1 : cs'[1]? = some (.int .i64 y) := by have := congrArg (·[0]?) ey; simpa [List.getElem?_take] using this
      have e2 : cs'[2]? = some (.int .i64 z) := by have := congrArg (·[0]?) ez; simpa [List.getElem?_take] using this
      rw [e0] at c0
      rw [e1] at c1
      rw [e2] at c2
      have c0' : w.cell? (a.add (i * 3)) = some (.int .i64 x) := by rw [← c0]; unfold Addr.add; simp
      exact ⟨(x, y, z), c0', by rw [next_cell _ (spot_none c0')]; exact c1, by rw [next_cell2 _ (spot_none c0')]; exact c2⟩
    obtain ⟨L, hL⟩ : ∃ L : Nat → Int × Int × Int, ∀ i, i < len → w.cell? (a.add (i * 3)) = some (.int .i64 (L i).1) ∧ w.cell? ⟨(a.add (i * 3)).block, (a.add (i * 3)).off + 1, none⟩ = some (.int .i64 (L i).2.1) ∧ w.cell? ⟨(a.add (i * 3)).block, (a.add (i * 3)).off + 2, none⟩ = some (.int .i64 (L i).2.2) := by
      refine ⟨fun i => if h : i < len then (key i h).choose else (0, 0, 0), fun i hi => ?_⟩
      simp only [hi, dif_pos]
      exact (key i hi).choose_spec
    refine ⟨(List.range len).map L, ⟨some a, cap, by simp, ?_, fun i x hx => ?_⟩, trivial⟩
    · have : maxLen = 9223372036854775807 := rfl
      simp; omega
    · have hi : i < len := by have := (List.getElem?_eq_some_iff.1 hx).1; simpa using this
      simp [hi] at hx
      subst hx
      refine ⟨a, rfl, ?_, hL i hi⟩
      rw [← add_block a (i * 3)]
      have hc' := (hL i hi).1
      rcases Nat.lt_or_ge (a.add (i * 3)).block w.heap.size with c | c
      · exact c
      · unfold World.cell? at hc'
        rw [Array.getElem?_eq_none c] at hc'
        simp at hc'
end
end Go.Proofs.Ytpkfjdaedaplfaa
