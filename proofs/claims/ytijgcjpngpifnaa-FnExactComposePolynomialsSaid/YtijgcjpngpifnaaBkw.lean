/- slices.Backward of the program's polynomials: its closure, ranged over. -/
import Derived.RangeFuncNested
import Derived.RangeFuncBound
import Derived.RangeFuncCalls
import Derived.RangeFuncLeaves
import Derived.RangeFuncWrites
import Derived.Shelf.Abstract
import Derived.Shelf.RegionOpen
import Derived.WalkKit
import Derived.OwnWalkIn
import Derived.TacticsInMore
import Derived.LoopNIn
import Derived.LoopIn
import Derived.Test.YtijgcjpngpifnaaMp
namespace Go.Proofs.Ytijgcjpngpifnaa
open Go.RowKit Go.Shelf

attribute [local go_sem] Oper.semAt_some

/-- a number of the field -/
def fN (l : List Nat) (i : Nat) : Fin 10007 := Fin.ofNat 10007 (nth l i)
theorem fN_val {l : List Nat} (h : Po l) (i : Nat) : (fN l i).val = nth l i := Nat.mod_eq_of_lt (h.nth i)
/-- what comes at round k -/
def bkF (l : List Nat) (k : Nat) : Nat × Fin 10007 := (l.length - 1 - k, fN l (l.length - 1 - k))
def upB (l : List Nat) (k : Nat) : List (Nat × Fin 10007) := (List.range k).map (bkF l)
theorem upB_succ (l : List Nat) (k : Nat) : upB l (k + 1) = upB l k ++ [bkF l k] := by simp [upB, List.range_succ]
theorem upB_length (l : List Nat) (k : Nat) : (upB l k).length = k := by simp [upB]
/-- what a round keeps -/
def KpB (n₀ Bs : Nat) (W W' : World) : Prop := Below n₀ W W' ∧ W'.heap[Bs]? = W.heap[Bs]?
theorem kpB_t {n₀ Bs : Nat} {A B C : World} (h : KpB n₀ Bs A B) (k : KpB n₀ Bs B C) : KpB n₀ Bs A C := ⟨h.1.trans k.1, k.2.trans h.2⟩
theorem kpB_b {n₀ Bs : Nat} {w : World} (hn : n₀ ≤ w.heap.size) (hB : Bs < w.heap.size) (W : World) (l : Nat) (o o' : Obj) (hl : w.heap.size ≤ l) (h : W.heap[l]? = some o) (h1 : o.isCells = false) (h2 : o.isWalk = false) : KpB n₀ Bs W (W.putObj l o') :=
  ⟨belowK_b hn W l o o' hl h h1 h2, World.putObj_heap_other (by omega)⟩

set_option maxRecDepth 100000 in
set_option maxHeartbeats 2000000 in
theorem back1_in (F : Fence) (n : Nat) (hF : F.fn 88) (hro : F.round = none) (hn : 1 ≤ n) (l Bs n₀ : Nat) (A : Option Addr) (cap : Nat) (ls : List Nat) (hl : ls.length ≤ 1000) (pl : Po ls) (J Jx : List (Nat × Fin 10007) → World → Prop)
    (hY : ∀ pre x W, J pre W → pre.length < ls.length → YieldAt F (n - 1) Try.prog l #[.int .i64 (x.1 : Nat), .int .i64 (x.2.val : Nat)] W fun e W' =>
      (e = .returned (.bool true) ∧ J (pre ++ [x]) W' ∧ KpB n₀ Bs W W') ∨ (e = .returned (.bool false) ∧ Jx (pre ++ [x]) W'))
    (W : World) (hBs : W.cell? ⟨Bs, 0, none⟩ = some (.slice A ls.length cap)) (hc : ∀ k, k < ls.length → ∃ a, A = some a ∧ a.block < n₀ ∧ W.cell? (a.add k) = some (.int .i64 (nth ls k : Nat))) (h0 : J [] W) :
    CallsIn F n Try.prog 88 #[.func (.yield l) #[] #[], .pointer (some ⟨Bs, 0, none⟩)] W fun e W' => (∃ v, e = .returned v) ∧
      ((∃ ys, ys = upB ls ls.length ∧ J ys W') ∨ (∃ pre, (∃ k, k ≤ ls.length ∧ pre = upB ls k) ∧ Jx pre W')) := by
  refine callsIn_of_wp Try.func88 rfl hF ?_ hro
  simp only [Try.ntmps88, List.size_toArray, List.length_cons, List.length_nil, Nat.reduceAdd, Nat.reduceSub, Array.replicate_succ, Array.replicate_zero, List.push_toArray, List.append_toArray, List.nil_append, List.cons_append]
  have HC := hide hc; clear hc
  have PL := hide pl; clear pl
  gi_wp2
  gi_loopw [3] (fun i wr => ∃ k : Nat, k ≤ ls.length ∧ i = .int .i64 ((ls.length : Int) - 1 - (k : Int)) ∧ J (upB ls k) wr ∧ KpB n₀ Bs W wr)
    (fun i _ => (intOf i + 1).toNat)
  case atStart => exact ⟨0, Nat.zero_le _, by simp, h0, Below.refl _ _, rfl⟩
  case round =>
    obtain ⟨k, hk, rfl, hJs, hnx⟩ := hrel
    have hbx : wr.cell? ⟨Bs, 0, none⟩ = some (.slice A ls.length cap) := by
      rw [← hBs, cell_of_cells, cell_of_cells]
      unfold cellsOf
      rw [hnx.2]
    by_cases hlt : k < ls.length
    · obtain ⟨q, hq⟩ : ∃ q : Nat, q = ls.length - 1 - k := ⟨_, rfl⟩
      have hqi : (ls.length : Int) - 1 - (k : Int) = (q : Int) := by omega
      have hql : q < ls.length := by omega
      obtain ⟨a, rfl, hab, c1⟩ := HC.out q hql
      have c2 := (hnx.1.cell (p := a.add q) (by have hb : (a.add q).block = a.block := by unfold Addr.add; split <;> rfl
                                                rw [hb]; exact hab)).trans c1
      obtain ⟨fn, tmps, assign, body, hy, hR⟩ := hY _ (q, fN ls q) wr hJs (by rw [upB_length]; exact hlt)
      dsimp only at hy
      rw [fN_val PL.out] at hy
      have hst : upB ls k ++ [(q, fN ls q)] = upB ls (k + 1) := by rw [upB_succ]; unfold bkF; rw [hq]
      rw [hst] at hR
      have HQ := hide hq; clear hq c1 hst
      rw [hqi]
      gi_wp2
      refine hR.mono ?_
      rintro e W3 (⟨rfl, hJ3, hk3⟩ | ⟨rfl, hJx3⟩)
      · gi_wp2
        go_roundw
        case rel => exact ⟨k + 1, by omega, by go_num, hJ3, kpB_t hnx hk3⟩
        case measure => simp [intOf]
      · gi_wp2
        refine bodyPost_ret (results_none rfl _ _ _) rfl ?_
        exact ⟨⟨_, rfl⟩, .inr ⟨_, ⟨k + 1, by omega, rfl⟩, hJx3⟩⟩
    · obtain rfl : k = ls.length := by omega
      have e1 : (ls.length : Int) - 1 - (ls.length : Int) = -1 := by omega
      rw [e1]
      gi_wp2
      go_end0
      exact ⟨⟨_, rfl⟩, .inl ⟨_, rfl, hJs⟩⟩

set_option maxHeartbeats 1000000 in
/-- slices.Backward(s): the slice value is boxed; the function value captures the box -/
theorem back_in (F : Fence) (n : Nat) (hF : F.fn 76) (hro : F.round = none) (a : Option Addr) (len cap : Nat) (w : World) :
    CallsIn F n Try.prog 76 #[.slice a len cap] w fun e w' => e = .returned (.func (.func 88) #[] #[.pointer (some ⟨w.heap.size, 0, none⟩)]) ∧ w' = w.alloc (.cells #[.slice a len cap] 44) := by
  refine callsIn_of_wp Try.func76 rfl hF ?_ hro
  simp only [Try.ntmps76, List.size_toArray, List.length_cons, List.length_nil, Nat.reduceAdd, Nat.reduceSub, Array.replicate_succ, Array.replicate_zero, List.push_toArray, List.append_toArray, List.nil_append, List.cons_append]
  gi_wp2
  go_ret
  exact ⟨rfl, rfl⟩

theorem back_stops (F : Fence) (n : Nat) (hF : F.fn 88) (hro : F.round = none) (hn : 1 ≤ n) (Bs n₀ : Nat) (A : Option Addr) (cap : Nat) (ls : List Nat) (hl : ls.length ≤ 1000) (pl : Po ls) (w : World) (hBsl : Bs < w.heap.size) (hn₀ : n₀ ≤ w.heap.size)
    (hBs : w.cell? ⟨Bs, 0, none⟩ = some (.slice A ls.length cap)) (hc : ∀ k, k < ls.length → ∃ a, A = some a ∧ a.block < n₀ ∧ w.cell? (a.add k) = some (.int .i64 (nth ls k : Nat))) :
    SeqStopsK F n Try.prog 88 #[.pointer (some ⟨Bs, 0, none⟩)] (fun x : Nat × Fin 10007 => #[Value.int .i64 (x.1 : Nat), Value.int .i64 (x.2.val : Nat)]) (KpB n₀ Bs) (fun ys => ys = upB ls ls.length)
      (fun pre => ∃ k, k ≤ ls.length ∧ pre = upB ls k) ls.length w := fun l J Jx W hW _ _ hY h0 =>
  back1_in F n hF hro hn l Bs n₀ A cap ls hl pl J Jx hY W ((hW.cell (p := ⟨Bs, 0, none⟩) hBsl).trans hBs) (fun k hk => by
    obtain ⟨a, e, h1, h2⟩ := hc k hk
    have hb : (a.add k).block = a.block := by unfold Addr.add; split <;> rfl
    exact ⟨a, e, h1, (hW.cell (p := a.add k) (by rw [hb]; omega)).trans h2⟩) h0
end Go.Proofs.Ytijgcjpngpifnaa
