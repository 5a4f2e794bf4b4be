/- Lists of whole numbers, wherever they lie: read, measured, compared, copied. -/
import Derived.Test.YtpkfjdaedaplfaaOwn
import Derived.Test.YtpkfjdaedaplfaaCycL
import Derived.OwnWalk
import Derived.ChangeSlices
import Derived.RegionTactic
namespace Go.Proofs.Ytpkfjdaedaplfaa
open Go.RowKit

def zc (l : List Int) : List Value := l.map fun x => Value.int .i64 x
theorem zc_length (l : List Int) : (zc l).length = l.length := by simp [zc]
theorem zc_get (l : List Int) (i : Nat) : (zc l)[i]? = l[i]?.map (Value.int .i64) := by simp [zc]
/-- a list of numbers in a row of the call's own -/
def OwnZ (B : Nat) (w : World) (v : Value) (l : List Int) : Prop := w.ownsRow B 2 1 v l.length (zc l)
/-- a slice whose cells read as the list -/
def RdZ (w : World) (v : Value) (l : List Int) : Prop :=
  ∃ (A : Option Addr) (c : Nat), v = .slice A l.length c ∧ l.length ≤ 9223372036854775807 ∧ ∀ (i : Nat) (x : Int), l[i]? = some x → ∃ a, A = some a ∧ a.block < w.heap.size ∧ w.cell? (a.add i) = some (.int .i64 x)
theorem RdZ.form {w : World} {v : Value} {l : List Int} (h : RdZ w v l) : ∃ A c, v = .slice A l.length c ∧ l.length ≤ 9223372036854775807 := by
  obtain ⟨A, c, h1, h2, _⟩ := h; exact ⟨A, c, h1, h2⟩
theorem RdZ.at {w : World} {A : Option Addr} {n c k : Nat} {l : List Int} (h : RdZ w (.slice A n c) l) (hk : k < l.length) :
    ∃ a, A = some a ∧ a.block < w.heap.size ∧ w.cell? (a.add k) = some (.int .i64 l[k]) := by
  obtain ⟨A', c', e, _, h3⟩ := h
  injection e with e1 _ _
  subst e1
  exact h3 k _ (List.getElem?_eq_getElem hk)
theorem RdZ.below {C : Nat} {w w' : World} {v : Value} {l : List Int} (h : RdZ w v l) (hb : Below C w w') (hC : w.heap.size ≤ C) : RdZ w' v l := by
  obtain ⟨A, c, h1, h2, h3⟩ := h
  refine ⟨A, c, h1, h2, fun i x hx => ?_⟩
  obtain ⟨a, e, h4, h5⟩ := h3 i x hx
  refine ⟨a, e, Nat.lt_of_lt_of_le h4 hb.size, ?_⟩
  rw [← h5]
  have hq : (a.add i).block = a.block := by unfold Addr.add; split <;> rfl
  exact hb.cell (p := a.add i) (by omega)
theorem OwnZ.rd {B : Nat} {w : World} {v : Value} {l : List Int} (h : OwnZ B w v l) (hl : l.length ≤ 9223372036854775807) : RdZ w v l := by
  rcases h.2 with ⟨e, h0⟩ | ⟨g, cap, cur, e, hB, hh, h1, h2, h3, h4⟩
  · exact ⟨none, 0, by rw [e, h0], hl, fun i x hx => by have := (List.getElem?_eq_some_iff.1 hx).1; omega⟩
  · refine ⟨_, _, e, hl, fun i x hx => ⟨_, rfl, (Array.getElem?_eq_some_iff.1 hh).1, ?_⟩⟩
    have hadd : (⟨g, 0, none⟩ : Addr).add i = ⟨g, i, none⟩ := by unfold Addr.add; split <;> simp_all
    rw [hadd, cell_of_cells, cellsOf_heap hh]
    have hi := (List.getElem?_eq_some_iff.1 hx).1
    have e2 : (cur.toList.take (l.length * 1))[i]? = (zc l)[i]? := by rw [h4]
    rw [List.getElem?_take_of_lt (by omega), Array.getElem?_toList, zc_get, hx] at e2
    exact e2
theorem OwnZ.kept {B : Nat} {w w' : World} {v : Value} {l : List Int} {r : Option Nat} (h : OwnZ B w v l) (hg : w.grownBy w' r) (hne : v.ownBlock = none ∨ v.ownBlock ≠ r) : OwnZ B w' v l := World.ownsRow.kept h hg hne
theorem OwnZ.below {B C : Nat} {w w' : World} {v : Value} {l : List Int} (h : OwnZ B w v l) (hb : Below C w w') (hC : w.heap.size ≤ C) : OwnZ B w' v l := h.kept (grown_of_below (hb.mono hC) none) (Classical.em _)

-- left out here: loop.example/g01200/laws.szInt64S
set_option maxRecDepth 100000 in
set_option maxHeartbeats 400000 in
theorem eqInt64S_rd (l : List Int) (v v' : Value) (w : World) (h : RdZ w v l) (h' : RdZ w v' l) :
    Calls Try.prog 79 #[v, v'] w fun e w' => e = .returned (.bool true) ∧ Below w.heap.size w w' := by
  obtain ⟨A, c, rfl, hl⟩ := h.form
  obtain ⟨A', c', rfl, _⟩ := h'.form
  have H := hide h; clear h
  have H' := hide h'; clear h'
  have hne : ((l.length : Int) != (l.length : Int)) = false := by simp
  go_enter Try.func79, Try.ntmps79
  go_wp2
  go_loopw [5] (fun i wr => ∃ k : Nat, k ≤ l.length ∧ i = .int .i64 k ∧ Below w.heap.size w wr) (fun i _ => l.length - (intOf i).toNat)
  case atStart => exact ⟨0, by omega, rfl, Below.refl _ _⟩
  case round =>
    obtain ⟨k, hk, rfl, hb⟩ := hrel
    by_cases hlt : k < l.length
    · obtain ⟨a, rfl, _, c1⟩ := (H.out.below hb (Nat.le_refl _)).at hlt
      obtain ⟨a', rfl, _, c2⟩ := (H'.out.below hb (Nat.le_refl _)).at hlt
      generalize l[k] = x at *
      have hx : (x != x) = false := by simp
      go_wp2
      go_region
      all_goals go_wp2
      all_goals go_roundw
      case rel => exact ⟨k + 1, by omega, by go_num, hb.drew⟩
      case measure => simp [intOf]; omega
    · obtain rfl : k = l.length := by omega
      clear hlt hk
      go_wp2
      go_ret
      exact ⟨rfl, hb⟩

/-- the first k numbers, zeros behind them -/
def upZ (l : List Int) (k : Nat) : List Int := l.take k ++ List.replicate (l.length - k) 0
theorem upZ_length (l : List Int) {k : Nat} (h : k ≤ l.length) : (upZ l k).length = l.length := by unfold upZ; simp; omega
theorem upZ_set (l : List Int) {k : Nat} (h : k < l.length) : (upZ l k).set k l[k] = upZ l (k + 1) := by
  unfold upZ
  rw [List.set_append_right _ _ (by simp; omega), List.take_succ_eq_append_getElem h]
  have e : k - (l.take k).length = 0 := by simp; omega
  rw [e, show l.length - k = (l.length - (k + 1)) + 1 from by omega, List.replicate_succ, List.set_cons_zero, List.append_assoc]
  rfl

-- left out here: loop.example/g01200/laws.toInt64S
end Go.Proofs.Ytpkfjdaedaplfaa
