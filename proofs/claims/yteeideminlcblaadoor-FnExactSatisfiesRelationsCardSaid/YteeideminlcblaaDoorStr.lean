/- Lists of strings, wherever they lie: read, measured, compared, copied; how they are opened among the arguments. -/
import Derived.Test.YteeideminlcblaaDoorHS2
import Derived.Deep.Slices
import Derived.WideShapes
import Derived.OpenShut
import Derived.SliceStrings
namespace Go.Proofs.YteeideminlcblaaDoor
open Go.RowKit

/-- a slice whose cells read as the list of strings -/
def RdS (w : World) (v : Value) (l : List ByteArray) : Prop :=
  ∃ (A : Option Addr) (c : Nat), v = .slice A l.length c ∧ l.length ≤ 9223372036854775807 ∧ ∀ (i : Nat) (x : ByteArray), l[i]? = some x → ∃ a, A = some a ∧ a.block < w.heap.size ∧ w.cell? (a.add i) = some (.string x)
theorem rdS_form {w : World} {v : Value} {l : List ByteArray} (h : RdS w v l) : ∃ A c, v = .slice A l.length c ∧ l.length ≤ 9223372036854775807 := by
  obtain ⟨A, c, h1, h2, _⟩ := h; exact ⟨A, c, h1, h2⟩
theorem rdS_at {w : World} {A : Option Addr} {n c k : Nat} {l : List ByteArray} (h : RdS w (.slice A n c) l) (hk : k < l.length) :
    ∃ a, A = some a ∧ a.block < w.heap.size ∧ w.cell? (a.add k) = some (.string l[k]) := by
  obtain ⟨A', c', e, _, h3⟩ := h
  injection e with e1 _ _
  subst e1
  exact h3 k _ (List.getElem?_eq_getElem hk)
theorem rdS_below {C : Nat} {w w' : World} {v : Value} {l : List ByteArray} (h : RdS w v l) (hb : Below C w w') (hC : w.heap.size ≤ C) : RdS w' v l := by
  obtain ⟨A, c, h1, h2, h3⟩ := h
  refine ⟨A, c, h1, h2, fun i x hx => ?_⟩
  obtain ⟨a, e, h4, h5⟩ := h3 i x hx
  refine ⟨a, e, Nat.lt_of_lt_of_le h4 hb.size, ?_⟩
  rw [← h5]
  have hq : (a.add i).block = a.block := by unfold Addr.add; split <;> rfl
  exact hb.cell (p := a.add i) (by omega)
theorem blockOf8 {w : World} {p : Addr} {u : Value} (h : w.cell? p = some u) : p.block < w.heap.size := by
  rcases Nat.lt_or_ge p.block w.heap.size with c | c
  · exact c
  · unfold World.cell? at h
    rw [Array.getElem?_eq_none c] at h
    simp at h
def strC (l : List ByteArray) : List Value := l.map Value.string
theorem strC_length (l : List ByteArray) : (strC l).length = l.length := by simp [strC]
theorem strC_at {l : List ByteArray} {k : Nat} (h : k < l.length) : (strC l)[k]? = some (.string l[k]) := by simp [strC, h]
/-- a list of strings that the call holds -/
def pStr (v : Value) (l : List ByteArray) : Part := pRow v 9 1 l.length (strC l)
theorem Holds.strForm {w0 w : World} {L : List Part} (h : Holds w0 w L) (i : Nat) {v : Value} {l : List ByteArray} (hi : L[i]? = some (pStr v l)) : ∃ A c, v = .slice A l.length c := own_slice (h.row i hi)
theorem Holds.strRd {w0 w : World} {L : List Part} (h : Holds w0 w L) (i : Nat) {v : Value} {l : List ByteArray} (hi : L[i]? = some (pStr v l)) (hl : l.length ≤ 1000000000) : RdS w v l := by
  obtain ⟨A, c, e⟩ := h.strForm i hi
  refine ⟨A, c, e, by omega, fun j x hx => ?_⟩
  have hj := (List.getElem?_eq_some_iff.1 hx).1
  obtain ⟨g, c', e', h2, h3, h4, h5, h6, h7⟩ := row_at (h.row i hi) (by omega : 0 < l.length)
  rw [e] at e'
  injection e' with e1
  refine ⟨_, e1, h3, ?_⟩
  have hadd : (⟨g, 0, none⟩ : Addr).add j = ⟨g, j, none⟩ := by unfold Addr.add; split <;> simp_all
  rw [hadd]
  exact h6 j _ (by rw [strC_at hj, (List.getElem?_eq_some_iff.1 hx).2])
set_option maxRecDepth 100000 in
set_option maxHeartbeats 400000 in
theorem szStringS_any (v : Value) (l : List ByteArray) (hl : ∀ x ∈ l, x.size ≤ 9223372036854775807) (w : World) (h : RdS w v l) :
    Calls Tryd.prog 18 #[v, .int .i64 1048576] w fun e w' => ∃ z : Int, e = .returned (.int .i64 z) ∧ w' = w ∧ (z < 0 ∨ (l.length ≤ 1048576 ∧ ∀ x ∈ l, x.size ≤ 1048576)) := by
  obtain ⟨A, c, rfl, hle⟩ := rdS_form h
  have H := hide h; clear h
  have HL := hide hl; clear hl
  by_cases hbig : (1048576 : Int) < l.length
  · have hd : decide ((1048576 : Int) - (l.length : Int) < 0) = true := decide_eq_true (by omega)
    go_enter Tryd.func18, Tryd.ntmps18
    go_wp2
    go_ret
    exact ⟨-1, rfl, by first | rfl | trivial, .inl (by decide)⟩
  · have hd : decide ((1048576 : Int) - (l.length : Int) < 0) = false := decide_eq_false (by omega)
    have hll : l.length ≤ 1048576 := by omega
    clear hbig
    go_enter Tryd.func18, Tryd.ntmps18
    go_wp2
    go_loopw [1, 5] (fun t i wr => ∃ (k : Nat) (z : Int), k ≤ l.length ∧ i = .int .i64 k ∧ t = .int .i64 z ∧ 0 ≤ z ∧ z ≤ 1048576 ∧ wr = w ∧ ∀ j (hj : j < l.length), j < k → (l[j]).size ≤ 1048576) (fun _ i _ => l.length - (intOf i).toNat)
    case atStart => exact ⟨0, (1048576 : Int) - (l.length : Int), Nat.zero_le _, rfl, rfl, by omega, by omega, rfl, fun j hj h => absurd h (Nat.not_lt_zero j)⟩
    case round =>
      obtain ⟨k, z, hk, rfl, rfl, z0, z1, rfl, hsm⟩ := hrel
      have HSM := hide hsm; clear hsm
      by_cases hlt : k < l.length
      · have hlti : (k : Int) < (l.length : Int) := by omega
        obtain ⟨a, rfl, _, c1⟩ := rdS_at H.out hlt
        have hx := HL.out _ (List.getElem_mem hlt)
        obtain ⟨x, hxe⟩ : ∃ x, x = l[k] := ⟨_, rfl⟩
        rw [← hxe] at c1 hx
        have HXE := hide hxe; clear hxe
        have wz : wrap64 (z - (x.size : Int)) = z - (x.size : Int) := by unfold wrap64; omega
        by_cases hs : z < (x.size : Int)
        · have d1 : decide (z - (x.size : Int) < 0) = true := decide_eq_true (by omega)
          go_wp2
          go_ret
          exact ⟨-1, rfl, by first | rfl | trivial, .inl (by decide)⟩
        · have d1 : decide (z - (x.size : Int) < 0) = false := decide_eq_false (by omega)
          have hz0 : 0 ≤ z - (x.size : Int) := by omega
          have hz1 : z - (x.size : Int) ≤ 1048576 := by omega
          have hxs : x.size ≤ 1048576 := by omega
          go_wp2
          go_roundw
          case rel => exact ⟨k + 1, z - (x.size : Int), by omega, by go_num, rfl, hz0, hz1, by first | rfl | trivial, fun j hj hjk => by
            rcases Nat.lt_or_ge j k with q | q
            · exact HSM.out j hj q
            · obtain rfl : j = k := by omega
              rw [← HXE.out]; exact hxs⟩
          case measure => simp [intOf]; omega
      · obtain rfl : k = l.length := by omega
        clear hlt hk
        go_wp2
        go_ret
        refine ⟨z, rfl, by first | rfl | trivial, .inr ⟨hll, fun x hx => ?_⟩⟩
        obtain ⟨i, hi, rfl⟩ := List.getElem_of_mem hx
        exact HSM.out i hi hi
set_option maxRecDepth 100000 in
set_option maxHeartbeats 400000 in
theorem eqStringS_rd (l : List ByteArray) (v v' : Value) (w : World) (h : RdS w v l) (h' : RdS w v' l) :
    Calls Tryd.prog 22 #[v, v'] w fun e w' => e = .returned (.bool true) ∧ Below w.heap.size w w' := by
  obtain ⟨A, c, rfl, hl⟩ := rdS_form h
  obtain ⟨A', c', rfl, _⟩ := rdS_form h'
  have H := hide h; clear h
  have H' := hide h'; clear h'
  have hne : ((l.length : Int) != (l.length : Int)) = false := by simp
  go_enter Tryd.func22, Tryd.ntmps22
  go_wp2
  go_loopw [5] (fun i wr => ∃ k : Nat, k ≤ l.length ∧ i = .int .i64 k ∧ Below w.heap.size w wr) (fun i _ => l.length - (intOf i).toNat)
  case atStart => exact ⟨0, by omega, rfl, Below.refl _ _⟩
  case round =>
    obtain ⟨k, hk, rfl, hb⟩ := hrel
    by_cases hlt : k < l.length
    · obtain ⟨a, rfl, _, c1⟩ := rdS_at (rdS_below H.out hb (Nat.le_refl _)) hlt
      obtain ⟨a', rfl, _, c2⟩ := rdS_at (rdS_below H'.out hb (Nat.le_refl _)) hlt
      generalize l[k] = x at *
      have hx : (x.toList == x.toList) = true := by simp
      have hb2 := fun n => Below.drew (Below.refl w.heap.size (wr.drewN n))
      go_wp2
      go_quiet (fail)
      go_wp2
      go_roundw
      case rel => exact ⟨k + 1, by omega, by go_num, ⟨hb.os, hb.tape, hb.output, hb.size, hb.block⟩⟩
      case measure => simp [intOf]; omega
    · obtain rfl : k = l.length := by omega
      clear hlt hk
      go_wp2
      go_ret
      exact ⟨rfl, hb⟩
theorem infoStr : (Tryd.prog.info? 9).map (fun i => (i.zero, i.size, i.bytes)) = some (some (.string ByteArray.empty), 1, 16) := by kernel_rfl
def upS (l : List ByteArray) (k : Nat) : List ByteArray := l.take k ++ List.replicate (l.length - k) ByteArray.empty
theorem upS_length (l : List ByteArray) {k : Nat} (h : k ≤ l.length) : (upS l k).length = l.length := by unfold upS; simp; omega
theorem upS_set (l : List ByteArray) {k : Nat} (h : k < l.length) : (strC (upS l k)).set k (.string l[k]) = strC (upS l (k + 1)) := by
  unfold upS strC
  have e : ((l.take k).map Value.string).length = k := by simp; omega
  rw [List.map_append, List.map_append, List.set_append_right _ _ (by omega), e, Nat.sub_self, show l.length - k = (l.length - (k + 1)) + 1 from by omega, List.replicate_succ, List.map_cons, List.set_cons_zero, List.take_succ_eq_append_getElem h, List.map_append, List.append_assoc]
  rfl
set_option maxRecDepth 100000 in
set_option maxHeartbeats 400000 in
theorem toStringS_any (l : List ByteArray) (v : Value) (w : World) (h : RdS w v l) (hl : l.length ≤ 1048576) :
    Calls Tryd.prog 20 #[v] w fun e w' => ∃ u, e = .returned u ∧ Below w.heap.size w w' ∧ RdS w' u l := by
  obtain ⟨A, c, rfl, _⟩ := rdS_form h
  obtain ⟨i0, hi, hz0, hz1, hz2⟩ := info_parts infoStr
  have I0 := hide (And.intro hi (And.intro hz0 (And.intro hz1 hz2))); clear hi hz0 hz1 hz2
  have H := hide h; clear h
  have hb8 := I0.out.2.2.2
  have hbb : i0.bytes * l.length ≤ 281474976710656 := by rw [hb8]; omega
  clear hb8
  have H0 := Holds.start w
  go_enter Tryd.func20, Tryd.ntmps20
  go_wp2_with (refine wpList_make_full _ rfl _ _ 36 rfl w.heap.size 9 i0 (.string ByteArray.empty) 1 Tryd.underlying36 I0.out.1 I0.out.2.1 I0.out.2.2.1 .i64 .i64 _ _ l.length rfl rfl rfl rfl hbb (by unfold maxLen; omega) (Nat.le_refl _) ?_)
  intro w1 ho hg
  have hz : (madeCells #[Value.string ByteArray.empty] l.length).toList = strC (upS l 0) := by rw [toList_madeCells_one]; unfold upS strC; simp
  have ho2 : w1.ownsRow w.heap.size 9 1 (.slice (some ⟨w.heap.size, 0, none⟩) l.length l.length) l.length (strC (upS l 0)) := by rw [← hz]; exact ho
  have H1 := H0.newRow ⟨hg.os, hg.tape, hg.output, hg.size, fun g hl => hg.block g hl (by simp)⟩ ho2
  clear hz hg hbb ho ho2 H0
  generalize hG : w.heap.size = G at *
  go_wp2
  go_loopw [4] (fun i wr => ∃ k : Nat, k ≤ l.length ∧ i = .int .i64 k ∧ Holds w wr [pRow (.slice (some ⟨G, 0, none⟩) l.length l.length) 9 1 l.length (strC (upS l k))]) (fun i _ => l.length - (intOf i).toNat)
  case atStart => exact ⟨0, by omega, rfl, H1⟩
  case round =>
    clear H1
    obtain ⟨k, hk, rfl, hH⟩ := hrel
    by_cases hlt : k < l.length
    · obtain ⟨a, rfl, ha, c1⟩ := rdS_at (rdS_below H.out hH.low (by rw [hG]; exact Nat.le_refl _)) hlt
      have hxl : k < (upS l k).length := by rw [upS_length _ hk]; exact hlt
      have hfr : wr.frozen? ⟨G, k, none⟩ = false ∧ ∃ u, wr.cell? ⟨G, k, none⟩ = some u := by
        obtain ⟨g', c', e, _, _, _, _, h6, h7⟩ := row_at (hH.row 0 rfl) (by omega : 0 < l.length)
        simp only [Value.slice.injEq, Option.some.injEq, Addr.mk.injEq] at e
        obtain ⟨⟨rfl, _, _⟩, _, _⟩ := e
        exact ⟨h7 k, _, h6 k _ (strC_at hxl)⟩
      obtain ⟨f1, u1, c0⟩ := hfr
      have hst := hH.put 0 rfl k (.string l[k])
      rw [upS_set l hlt] at hst
      have HST := hide hst; clear hst hH hxl
      generalize l[k] = x at *
      go_wp2
      go_roundw
      case rel => exact ⟨k + 1, by omega, by go_num, HST.out⟩
      case measure => simp [intOf]; omega
    · obtain rfl : k = l.length := by omega
      have hul : upS l l.length = l := by unfold upS; simp
      rw [hul] at hH
      have lo := hH.low
      have hrd := Holds.strRd (l := l) hH 0 rfl (by omega)
      have HRD := hide hrd; clear hrd hul hlt hk hH
      go_wp2
      go_ret
      exact ⟨_, rfl, lo, HRD.out⟩
section
open Go.ChangeShapes Go.WideShapes
variable {H : Type} {enc : TypeId × Value → H} {P : Program} {w : World} {base : Nat} {spare : Nat → Bool} {held : Bool}
theorem open_ss {r : Reach} {b0 : Nat} {t e : TypeId} {v : Value} {d : DataW H} {ps : List MemPlace} (ht : P.underlying t = some (.slice e)) (he : P.underlying e = some .string) (hc : P.cellsOf e = 1)
    (hval : Value.okWide P w r b0 t v) (hd : DataW.Trod enc P w base spare held t v d ps) : ∃ l, RdS w v l ∧ ∀ s ∈ l, s.size ≤ maxLen := by
  obtain ⟨a0, len0, cap0, rfl⟩ := okWide_slice ht hval
  obtain ⟨fuel, hf⟩ := hd
  rcases open_strings ht he hc hf with ⟨e1, _⟩ | ⟨a, len, cap, ss, e1, _, hl, hm, hz, _, hcell, hw⟩
  · injection e1 with e1
    rw [e1]
    exact ⟨[], ⟨none, 0, rfl, by simp, fun i x hx => by simp at hx⟩, fun x hx => by simp at hx⟩
  · injection e1 with e1
    rw [e1]
    have hlz : len ≤ ss.length := by rw [hz]; split <;> omega
    refine ⟨ss.take len, ⟨some a, cap, by simp [Nat.min_eq_left hlz], ?_, fun i x hx => ?_⟩, fun x hx => hw x (List.mem_of_mem_take hx)⟩
    · have : maxLen = 9223372036854775807 := rfl
      simp; omega
    · have hi : i < len := by have := (List.getElem?_eq_some_iff.1 hx).1; simp at this; omega
      rw [List.getElem?_take_of_lt hi] at hx
      have hc' := hcell i (by omega)
      have hg : ss.getD i ByteArray.empty = x := by rw [List.getD_eq_getElem?_getD, hx]; rfl
      rw [hg] at hc'
      refine ⟨a, rfl, ?_, hc'⟩
      have hq : (a.add i).block = a.block := by unfold Addr.add; split <;> rfl
      rw [← hq]
      exact blockOf8 hc'
end
end Go.Proofs.YteeideminlcblaaDoor
