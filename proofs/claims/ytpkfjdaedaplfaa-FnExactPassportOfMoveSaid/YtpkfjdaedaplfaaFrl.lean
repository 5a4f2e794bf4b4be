/- Lists of fractions, wherever they lie: read, measured, compared, copied. -/
import Derived.Test.YtpkfjdaedaplfaaFra
import Derived.Test.YtpkfjdaedaplfaaFrb
import Derived.Test.YtpkfjdaedaplfaaHS2
import Derived.Test.YtpkfjdaedaplfaaReg
import Derived.Deep.Slices
import Derived.Deep.Fields
import Derived.ChangeSame
import Derived.WideShapes
import Derived.OpenShut
namespace Go.Proofs.Ytpkfjdaedaplfaa
open Go.RowKit

/-- the cells of a list of fractions -/
def fc (l : List (Int × Int)) : List Value := l.flatMap fun x => [Value.int .i64 x.1, Value.int .i64 x.2]
theorem fc_length (l : List (Int × Int)) : (fc l).length = l.length * 2 := by unfold fc; induction l with
  | nil => rfl
  | cons x l ih => rw [List.flatMap_cons, List.length_append, ih, List.length_cons]; simp; omega
theorem fc_cons (x : Int × Int) (l : List (Int × Int)) : fc (x :: l) = .int .i64 x.1 :: .int .i64 x.2 :: fc l := rfl
theorem fc_append (l m : List (Int × Int)) : fc (l ++ m) = fc l ++ fc m := by unfold fc; rw [List.flatMap_append]
theorem fc_get (l : List (Int × Int)) (i : Nat) (x : Int × Int) (h : l[i]? = some x) : (fc l)[i * 2]? = some (.int .i64 x.1) ∧ (fc l)[i * 2 + 1]? = some (.int .i64 x.2) := by
  induction l generalizing i with
  | nil => simp at h
  | cons y l ih =>
    cases i with
    | zero => simp only [List.getElem?_cons_zero, Option.some.injEq] at h; subst h; rw [fc_cons]; exact ⟨rfl, rfl⟩
    | succ i =>
      rw [List.getElem?_cons_succ] at h
      rw [fc_cons, show (i + 1) * 2 = (i * 2) + 1 + 1 by omega]
      exact ih i h
theorem fc_set (l : List (Int × Int)) (i : Nat) (x : Int × Int) : ((fc l).set (i * 2) (.int .i64 x.1)).set (i * 2 + 1) (.int .i64 x.2) = fc (l.set i x) := by
  induction l generalizing i with
  | nil => simp [fc]
  | cons y l ih =>
    cases i with
    | zero => rfl
    | succ i =>
      rw [List.set_cons_succ, fc_cons, fc_cons, ← ih, show (i + 1) * 2 = (i * 2) + 1 + 1 by omega]
      rfl
def OwnF (B : Nat) (w : World) (v : Value) (l : List (Int × Int)) : Prop := w.ownsRow B 25 2 v l.length (fc l)
/-- a slice whose cells read as the list -/
def RdF (w : World) (v : Value) (l : List (Int × Int)) : Prop :=
  ∃ (A : Option Addr) (c : Nat), v = .slice A l.length c ∧ l.length ≤ 9223372036854775807 ∧ ∀ (i : Nat) (x : Int × Int), l[i]? = some x → ∃ a, A = some a ∧ a.block < w.heap.size ∧ w.cell? (a.add (i * 2)) = some (.int .i64 x.1) ∧ w.cell? ⟨(a.add (i * 2)).block, (a.add (i * 2)).off + 1, none⟩ = some (.int .i64 x.2)
theorem RdF.form {w : World} {v : Value} {l : List (Int × Int)} (h : RdF w v l) : ∃ A c, v = .slice A l.length c ∧ l.length ≤ 9223372036854775807 := by
  obtain ⟨A, c, h1, h2, _⟩ := h; exact ⟨A, c, h1, h2⟩
theorem RdF.at {w : World} {A : Option Addr} {n c k : Nat} {l : List (Int × Int)} (h : RdF w (.slice A n c) l) (hk : k < l.length) :
    ∃ a, A = some a ∧ a.block < w.heap.size ∧ w.cell? (a.add (k * 2)) = some (.int .i64 l[k].1) ∧ w.cell? ⟨(a.add (k * 2)).block, (a.add (k * 2)).off + 1, none⟩ = some (.int .i64 l[k].2) := by
  obtain ⟨A', c', e, _, h3⟩ := h
  injection e with e1 _ _
  subst e1
  exact h3 k _ (List.getElem?_eq_getElem hk)
theorem RdF.atC {w w' : World} {a : Addr} {C n c k : Nat} {l : List (Int × Int)} (h : RdF w (.slice (some a) n c) l) (hb : Below C w w') (hC : w.heap.size ≤ C) (hk : k < l.length) :
    w'.cell? (a.add (k * 2)) = some (.int .i64 l[k].1) ∧ w'.cell? ⟨(a.add (k * 2)).block, (a.add (k * 2)).off + 1, none⟩ = some (.int .i64 l[k].2) := by
  obtain ⟨a', e, h4, h5, h6⟩ := h.at hk
  obtain rfl := Option.some.inj e
  have hq : ∀ i, (a.add i).block = a.block := fun i => by unfold Addr.add; split <;> rfl
  exact ⟨by rw [← h5]; exact hb.cell (p := a.add (k * 2)) (by rw [hq]; omega), by rw [← h6]; exact hb.cell (p := ⟨(a.add (k * 2)).block, (a.add (k * 2)).off + 1, none⟩) (by show (a.add (k * 2)).block < _; rw [hq]; omega)⟩
theorem RdF.below {C : Nat} {w w' : World} {v : Value} {l : List (Int × Int)} (h : RdF w v l) (hb : Below C w w') (hC : w.heap.size ≤ C) : RdF w' v l := by
  obtain ⟨A, c, h1, h2, h3⟩ := h
  refine ⟨A, c, h1, h2, fun i x hx => ?_⟩
  obtain ⟨a, e, h4, h5, h6⟩ := h3 i x hx
  have hq : ∀ i, (a.add i).block = a.block := fun i => by unfold Addr.add; split <;> rfl
  refine ⟨a, e, Nat.lt_of_lt_of_le h4 hb.size, ?_, ?_⟩
  · rw [← h5]; exact hb.cell (p := a.add (i * 2)) (by rw [hq]; omega)
  · rw [← h6]; exact hb.cell (p := ⟨(a.add (i * 2)).block, (a.add (i * 2)).off + 1, none⟩) (by show (a.add (i * 2)).block < _; rw [hq]; omega)
theorem OwnF.rd {B : Nat} {w : World} {v : Value} {l : List (Int × Int)} (h : OwnF B w v l) (hl : l.length ≤ 9223372036854775807) : RdF w v l := by
  rcases h.2 with ⟨e, h0⟩ | ⟨g, cap, cur, e, hB, hh, h1, h2, h3, h4⟩
  · exact ⟨none, 0, by rw [e, h0], hl, fun i x hx => by have := (List.getElem?_eq_some_iff.1 hx).1; omega⟩
  · refine ⟨_, _, e, hl, fun i x hx => ⟨_, rfl, (Array.getElem?_eq_some_iff.1 hh).1, ?_⟩⟩
    have hadd : ∀ j, (⟨g, 0, none⟩ : Addr).add j = ⟨g, j, none⟩ := fun j => by unfold Addr.add; split <;> simp_all
    rw [hadd, cell_of_cells, cell_of_cells, cellsOf_heap hh]
    have hi := (List.getElem?_eq_some_iff.1 hx).1
    have e2 : ∀ j : Nat, (cur.toList.take (l.length * 2))[j]? = (fc l)[j]? := fun j => by rw [h4]
    have e3 := e2 (i * 2)
    have e4 := e2 (i * 2 + 1)
    rw [List.getElem?_take_of_lt (by omega), Array.getElem?_toList, (fc_get l i x hx).1] at e3
    rw [List.getElem?_take_of_lt (by omega), Array.getElem?_toList, (fc_get l i x hx).2] at e4
    exact ⟨e3, e4⟩
set_option maxRecDepth 100000 in
set_option maxHeartbeats 400000 in
theorem szFractionS_any (A : Option Addr) (n c : Nat) (hn : n ≤ 9223372036854775807) (w : World) :
    Calls Try.prog 28 #[.slice A n c, .int .i64 1048576] w fun e w' => e = .returned (.int .i64 (if 1048576 < n then -1 else 1048576 - n)) ∧ w' = w := by
  by_cases hlt : 1048576 < n
  · rw [if_pos hlt]
    have hd : decide ((1048576 : Int) - (n : Int) < 0) = true := by simp; omega
    go_enter Try.func28, Try.ntmps28
    go_wp2
    go_ret
    exact ⟨rfl, rfl⟩
  · rw [if_neg hlt]
    have hd : decide ((1048576 : Int) - (n : Int) < 0) = false := decide_eq_false (by omega)
    go_enter Try.func28, Try.ntmps28
    go_wp2
    go_ret
    exact ⟨rfl, rfl⟩
set_option maxRecDepth 100000 in
set_option maxHeartbeats 2000000 in
theorem eqFractionS_rd (l : List (Int × Int)) (v v' : Value) (w : World) (h : RdF w v l) (h' : RdF w v' l) :
    Calls Try.prog 32 #[v, v'] w fun e w' => e = .returned (.bool true) ∧ Below w.heap.size w w' := by
  obtain ⟨A, c, rfl, hl⟩ := h.form
  obtain ⟨A', c', rfl, _⟩ := h'.form
  have H := hide h; clear h
  have H' := hide h'; clear h'
  have hne : ((l.length : Int) != (l.length : Int)) = false := by simp
  go_enter Try.func32, Try.ntmps32
  go_wp2
  go_loopw [5] (fun i wr => ∃ k : Nat, k ≤ l.length ∧ i = .int .i64 k ∧ Below w.heap.size w wr) (fun i _ => l.length - (intOf i).toNat)
  case atStart => exact ⟨0, by omega, rfl, Below.refl _ _⟩
  case round =>
    obtain ⟨k, hk, rfl, hb⟩ := hrel
    by_cases hlt : k < l.length
    · obtain ⟨a, rfl, _, _, _⟩ := (H.out.below hb (Nat.le_refl _)).at hlt
      obtain ⟨a', rfl, _, _, _⟩ := (H'.out.below hb (Nat.le_refl _)).at hlt
      have CA := hide fun (wx : World) (hx : Holds w wx []) => And.intro (H.out.atC hx.low (Nat.le_refl _) hlt) (H'.out.atC hx.low (Nat.le_refl _) hlt)
      have C := hide fun w => eqFraction_same l[k].1 l[k].2 w
      generalize l[k].1 = x at *
      generalize l[k].2 = y at *
      go_wp2_with fail
      refine region_H (w0 := w) (L := []) (by kernel_rfl) (by kernel_rfl) ⟨hb, by simp, List.Pairwise.nil⟩ ?_
      iterate 8 (
        apply q_step
        · go_simp
        · intro wx hx
          have c1 := (CA.out wx hx).1.1
          have c2 := (CA.out wx hx).1.2
          have d1 := (CA.out wx hx).2.1
          have d2 := (CA.out wx hx).2.2
          go_simp
          exact rfl)
      apply q_step
      · go_simp
      · intro wx hx
        go_simp
        go_at_call 20
        exact Calls.mono (C.out wx) fun e w' h => ⟨h.1, hx.call h.2⟩
      apply q_step
      · go_simp
      · intro wx hx
        go_simp
        exact rfl
      refine wpQuiet_nil ?_
      intro w2 hx
      have hb2 := hx.low
      clear hx CA C
      go_simp
      go_wp2
      go_roundw
      case rel => exact ⟨k + 1, by omega, by go_num, hb2⟩
      case measure => simp [intOf]; omega
    · obtain rfl : k = l.length := by omega
      clear hlt hk
      go_wp2
      go_ret
      exact ⟨rfl, hb⟩
def pFr (v : Value) (l : List (Int × Int)) : Part := pRow v 25 2 l.length (fc l)
theorem Holds.ownF {w0 w : World} {L : List Part} (h : Holds w0 w L) (i : Nat) {v : Value} {l : List (Int × Int)} (hi : L[i]? = some (pFr v l)) : OwnF w0.heap.size w v l := h.row i hi
theorem Holds.rdF {w0 w : World} {L : List Part} (h : Holds w0 w L) (i : Nat) {v : Value} {l : List (Int × Int)} (hi : L[i]? = some (pFr v l)) (hl : l.length ≤ 9223372036854775807) : RdF w v l := OwnF.rd (h.ownF i hi) hl
theorem Holds.newF {w0 w w' : World} {L : List Part} (h : Holds w0 w L) (hb : Below w.heap.size w w') {v : Value} {l : List (Int × Int)} (hr : OwnF w.heap.size w' v l) : Holds w0 w' (pFr v l :: L) := h.newRow hb hr
theorem pFr_len {w : World} {A : Option Addr} {n c : Nat} {l : List (Int × Int)} (h : (pFr (.slice A n c) l).ok w) : n = l.length := by
  rcases (show w.ownsRow 0 25 2 (.slice A n c) l.length (fc l) from h).2 with ⟨e, h0⟩ | ⟨_, _, _, e, _⟩
  · injection e with _ e _; omega
  · injection e with _ e _
theorem Holds.setF {w0 w : World} {L : List Part} (h : Holds w0 w L) (i : Nat) {g n c : Nat} {l : List (Int × Int)} (hi : L[i]? = some (pFr (.slice (some ⟨g, 0, none⟩) n c) l)) (k : Nat) (x : Int × Int) :
    Holds w0 ((w.setCell ⟨g, k * 2, none⟩ (.int .i64 x.1)).setCell ⟨g, k * 2 + 1, none⟩ (.int .i64 x.2)) (L.set i (pFr (.slice (some ⟨g, 0, none⟩) n c) (l.set k x))) := by
  obtain rfl := pFr_len (h.at i hi)
  have h1 := h.put i hi (k * 2) (.int .i64 x.1)
  have h2 := h1.put i (g := g) (n := l.length) (c := c) (e := 25) (s := 2) (xs := (fc l).set (k * 2) (.int .i64 x.1)) (by rw [List.getElem?_set, if_pos rfl, if_pos (List.getElem?_eq_some_iff.1 hi).1]) (k * 2 + 1) (.int .i64 x.2)
  rw [fc_set, List.set_set] at h2
  unfold pFr
  rw [List.length_set]
  exact h2
theorem Holds.cellF {w0 w : World} {L : List Part} (h : Holds w0 w L) (i : Nat) {g n c : Nat} {l : List (Int × Int)} (hi : L[i]? = some (pFr (.slice (some ⟨g, 0, none⟩) n c) l)) {k : Nat} (hk : k < l.length) :
    w.cell? ⟨g, k * 2, none⟩ = some (.int .i64 l[k].1) ∧ w.cell? ⟨g, k * 2 + 1, none⟩ = some (.int .i64 l[k].2) ∧ w.frozen? ⟨g, k * 2, none⟩ = false ∧ w.frozen? ⟨g, k * 2 + 1, none⟩ = false := by
  obtain rfl := pFr_len (h.at i hi)
  have hr : w.ownsRow 0 25 2 (.slice (some ⟨g, 0, none⟩) l.length c) l.length (fc l) := h.at i hi
  obtain ⟨g', c', e, _, _, _, _, h1, h2⟩ := row_at hr (by omega)
  injection e with e1 _ _
  injection e1 with e1
  injection e1 with e1 _ _
  subst e1
  have e2 := fc_get l k l[k] (List.getElem?_eq_getElem hk)
  exact ⟨h1 _ _ e2.1, h1 _ _ e2.2, h2 _, h2 _⟩
theorem infoFr : (Try.prog.info? 25).map (fun i => (i.zero, i.size, i.bytes)) = some (some (.agg #[.int .i64 0, .int .i64 0]), 2, 16) := by kernel_rfl
theorem madeF (n : Nat) : (madeCells #[Value.int .i64 0, Value.int .i64 0] (n * 2)).toList = fc (List.replicate n (0, 0)) := by
  apply List.ext_getElem?
  intro j
  by_cases hj : j < n * 2
  · have hq : j / 2 < n := by omega
    have e := fc_get (List.replicate n ((0 : Int), (0 : Int))) (j / 2) (0, 0) (by rw [List.getElem?_replicate, if_pos hq])
    have hm : (madeCells #[Value.int .i64 0, Value.int .i64 0] (n * 2)).toList[j]? = some (.int .i64 0) := by
      rw [Array.getElem?_toList]
      unfold madeCells
      rw [Array.getElem?_map, Array.getElem?_range, if_pos hj]
      rcases Nat.mod_two_eq_zero_or_one j with h | h <;> simp [h]
    rw [hm]
    rcases Nat.mod_two_eq_zero_or_one j with h | h
    · rw [show j = j / 2 * 2 by omega, e.1]
    · rw [show j = j / 2 * 2 + 1 by omega, e.2]
  · rw [List.getElem?_eq_none (by rw [Array.length_toList, size_madeCells]; omega), List.getElem?_eq_none (by rw [fc_length, List.length_replicate]; omega)]
/-- the first k, zeros behind them -/
def upF (l : List (Int × Int)) (k : Nat) : List (Int × Int) := l.take k ++ List.replicate (l.length - k) (0, 0)
theorem upF_length (l : List (Int × Int)) {k : Nat} (h : k ≤ l.length) : (upF l k).length = l.length := by unfold upF; simp; omega
theorem upF_set (l : List (Int × Int)) {k : Nat} (h : k < l.length) : (upF l k).set k l[k] = upF l (k + 1) := by
  unfold upF
  rw [List.set_append_right _ _ (by simp; omega), List.take_succ_eq_append_getElem h]
  have e : k - (l.take k).length = 0 := by simp; omega
  rw [e, show l.length - k = (l.length - (k + 1)) + 1 from by omega, List.replicate_succ, List.set_cons_zero, List.append_assoc]
  rfl
set_option maxRecDepth 100000 in
set_option maxHeartbeats 1000000 in
theorem toFractionS_any (l : List (Int × Int)) (v : Value) (w : World) (h : RdF w v l) (hl : l.length ≤ 1048576) :
    Calls Try.prog 30 #[v] w fun e w' => ∃ u, e = .returned u ∧ Below w.heap.size w w' ∧ OwnF w.heap.size w' u l := by
  obtain ⟨A, c, rfl, _⟩ := h.form
  obtain ⟨i0, hi, hz0, hz1, hz2⟩ := info_parts infoFr
  have I0 := hide (And.intro hi (And.intro hz0 (And.intro hz1 hz2))); clear hi hz0 hz1 hz2
  have H := hide h; clear h
  have hb8 := I0.out.2.2.2
  have hbb : i0.bytes * l.length ≤ 281474976710656 := by rw [hb8]; omega
  clear hb8
  go_enter Try.func30, Try.ntmps30
  go_wp2_with (refine wpList_make_full _ rfl _ _ 46 rfl w.heap.size 25 i0 (.agg #[.int .i64 0, .int .i64 0]) 2 Try.underlying46 I0.out.1 I0.out.2.1 I0.out.2.2.1 .i64 .i64 _ _ l.length rfl rfl rfl rfl hbb (by unfold maxLen; omega) (Nat.le_refl _) ?_)
  intro w1 ho hg
  have b1 : Below w.heap.size w w1 := (Below.refl _ _).grown hg (Nat.le_refl _) (fun k hk => by cases hk)
  have hz : (madeCells #[Value.int .i64 0, Value.int .i64 0] (l.length * 2)).toList = fc (upF l 0) := by rw [madeF]; unfold upF; simp
  rw [hz] at ho
  clear hz hbb
  have ho' : OwnF w.heap.size w1 (.slice (some ⟨w.heap.size, 0, none⟩) l.length l.length) (upF l 0) := by
    unfold OwnF; rw [upF_length l (Nat.zero_le _)]; exact ho
  have HO := hide ((Holds.start w).newF b1 ho'); clear ho ho' hg b1
  go_wp2
  go_loopw [4] (fun i wr => ∃ k : Nat, k ≤ l.length ∧ i = .int .i64 k ∧ Holds w wr [pFr (.slice (some ⟨w.heap.size, 0, none⟩) l.length l.length) (upF l k)]) (fun i _ => l.length - (intOf i).toNat)
  case atStart => exact ⟨0, by omega, rfl, HO.out⟩
  case round =>
    clear HO
    obtain ⟨k, hk, rfl, ho⟩ := hrel
    by_cases hlt : k < l.length
    · obtain ⟨a, rfl, _, _⟩ := (H.out.below ho.low (Nat.le_refl _)).at hlt
      have c1 := (H.out.atC ho.low (Nat.le_refl _) hlt).1
      have c2 := (H.out.atC ho.low (Nat.le_refl _) hlt).2
      have C := hide fun w => toFraction_any l[k].1 l[k].2 w
      have hup := upF_set l hlt
      have HS := hide fun (wx : World) (hx : Holds w wx [pFr (.slice (some ⟨w.heap.size, 0, none⟩) l.length l.length) (upF l k)]) => (show Holds w ((wx.setCell ⟨w.heap.size, k * 2, none⟩ (.int .i64 l[k].1)).setCell ⟨w.heap.size, k * 2 + 1, none⟩ (.int .i64 l[k].2)) [pFr (.slice (some ⟨w.heap.size, 0, none⟩) l.length l.length) (upF l (k + 1))] from by
        have := hx.setF 0 rfl k l[k]
        rw [hup] at this
        exact this)
      have hkl : k < (upF l k).length := by rw [upF_length l hk]; exact hlt
      have HC := hide fun (wx : World) (hx : Holds w wx [pFr (.slice (some ⟨w.heap.size, 0, none⟩) l.length l.length) (upF l k)]) => hx.cellF 0 rfl hkl
      clear hup
      generalize l[k].1 = x at *
      generalize l[k].2 = y at *
      generalize (upF l k)[k].1 = p at *
      generalize (upF l k)[k].2 = q at *
      clear hkl
      go_wp2_with fail
      refine (C.out _).mono ?_
      rintro e w2 ⟨rfl, hb⟩
      have H2 := ho.call hb
      clear ho hb c1 c2
      have d1 := (HC.out _ H2).1
      have d2 := (HC.out _ H2).2.1
      have d3 := (HC.out _ H2).2.2.1
      have d4 := (HC.out _ H2).2.2.2
      have H3 := hide (HS.out _ H2)
      clear H2
      go_wp2
      go_roundw
      case rel => exact ⟨k + 1, by omega, by go_num, H3.out⟩
      case measure => simp [intOf]; omega
    · obtain rfl : k = l.length := by omega
      have hul : upF l l.length = l := by unfold upF; simp
      rw [hul] at ho
      have HO := hide ho; clear ho hul hlt hk
      go_wp2
      go_ret
      exact ⟨_, rfl, HO.out.low, HO.out.ownF 0 rfl⟩
section
open Go.ChangeShapes Go.WideShapes Go.Deep
variable {H : Type} {enc : TypeId × Value → H} {w : World} {base : Nat} {spare : Nat → Bool} {held : Bool}
theorem next_cell (a : Addr) (hs : a.spot = none) : (⟨a.block, a.off + 1, none⟩ : Addr) = a.add 1 := by unfold Addr.add; simp
theorem spot_none {w : World} {a : Addr} {v : Value} (h : w.cell? a = some v) : a.spot = none := by
  unfold World.cell? at h
  split at h
  · split at h
    · cases h
    · rename_i k; simpa using k
  · cases h
theorem add_block (a : Addr) (i : Nat) : (a.add i).block = a.block := by unfold Addr.add; split <;> rfl
set_option maxRecDepth 100000 in
theorem open_frs {r : Reach} {b0 : Nat} {v : Value} {d : DataW H} {ps : List MemPlace}
    (hval : Value.okWide Try.prog w r b0 43 v) (hd : DataW.Trod enc Try.prog w base spare held 43 v d ps) : ∃ l : List (Int × Int), RdF w v l ∧ True := by
  obtain ⟨a0, len0, cap0, rfl⟩ := okWide_slice Try.underlying43 hval
  obtain ⟨fuel, hf⟩ := hd
  rcases Go.Deep.open_slice Try.underlying43 hf with ⟨e1, _⟩ | ⟨a, len, cap, m, n, D, Pl, e1, _, hl, hm, hmm, _, hV⟩
  · injection e1 with e1
    rw [e1]
    exact ⟨[], ⟨none, 0, rfl, by simp, fun i x hx => by simp at hx⟩, trivial⟩
  · injection e1 with e1
    rw [e1]
    have hlm : len ≤ m := by rw [hmm]; split <;> omega
    have hC : Try.prog.cellsOf 23 = 2 := by kernel_rfl
    have h1 : Try.prog.cellsOf 2 = 1 := by kernel_rfl
    rw [hC] at hV
    have key : ∀ i, i < len → ∃ x : Int × Int, w.cell? (a.add (i * 2)) = some (.int .i64 x.1) ∧ w.cell? ⟨(a.add (i * 2)).block, (a.add (i * 2)).off + 1, none⟩ = some (.int .i64 x.2) := by
      intro i hi
      obtain ⟨cs', hc, ht⟩ := hV i (by omega)
      obtain ⟨_, hcl, hat⟩ := World.cells?_some hc
      obtain ⟨xs, k, _, hx, _, hlen, hfl⟩ := DataW.trod_struct Try.underlying23 ht
      have hx2 : xs.length = 2 := hlen
      have g0 : DataW.trod enc Try.prog w base spare held k 2 (List.take (Try.prog.cellsOf 2) (List.drop 0 cs')) = xs[0]? := hfl 0 _ rfl
      have g1 : DataW.trod enc Try.prog w base spare held k 2 (List.take (Try.prog.cellsOf 2) (List.drop 1 cs')) = xs[1]? := hfl 1 _ rfl
      rw [List.getElem?_eq_getElem (by omega), h1] at g0 g1
      obtain ⟨x, ex, _, _⟩ := DataW.trod_int Try.underlying2 g0
      obtain ⟨y, ey, _, _⟩ := DataW.trod_int Try.underlying2 g1
      have c0 := hat 0 (by omega)
      have c1 := hat 1 (by omega)
      have e0 : cs'[0]? = some (.int .i64 x) := by have := congrArg (·[0]?) ex; simpa [List.getElem?_take] using this
      have e1 : cs'[1]? = some (.int .i64 y) := by have := congrArg (·[0]?) ey; simpa [List.getElem?_take] using this
      rw [e0] at c0
      rw [e1] at c1
      have c0' : w.cell? (a.add (i * 2)) = some (.int .i64 x) := by rw [← c0]; unfold Addr.add; simp
      exact ⟨(x, y), c0', by rw [next_cell _ (spot_none c0')]; exact c1⟩
    obtain ⟨L, hL⟩ : ∃ L : Nat → Int × Int, ∀ i, i < len → w.cell? (a.add (i * 2)) = some (.int .i64 (L i).1) ∧ w.cell? ⟨(a.add (i * 2)).block, (a.add (i * 2)).off + 1, none⟩ = some (.int .i64 (L i).2) := by
      refine ⟨fun i => if h : i < len then (key i h).choose else (0, 0), fun i hi => ?_⟩
      simp only [hi, dif_pos]
      exact (key i hi).choose_spec
    refine ⟨(List.range len).map L, ⟨some a, cap, by simp, ?_, fun i x hx => ?_⟩, trivial⟩
    · have : maxLen = 9223372036854775807 := rfl
      simp; omega
    · have hi : i < len := by have := (List.getElem?_eq_some_iff.1 hx).1; simpa using this
      simp [hi] at hx
      subst hx
      refine ⟨a, rfl, ?_, hL i hi⟩
      rw [← add_block a (i * 2)]
      have hc' := (hL i hi).1
      rcases Nat.lt_or_ge (a.add (i * 2)).block w.heap.size with c | c
      · exact c
      · unfold World.cell? at hc'
        rw [Array.getElem?_eq_none c] at hc'
        simp at hc'
end
end Go.Proofs.Ytpkfjdaedaplfaa
