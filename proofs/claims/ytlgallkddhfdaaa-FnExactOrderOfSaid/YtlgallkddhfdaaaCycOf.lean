/- CyclesOf of the program and of the model -/
import Derived.Test.YtlgallkddhfdaaaSCyc
import Derived.Test.YtlgallkddhfdaaaSPerm
import Derived.Test.YtlgallkddhfdaaaToPl
import Derived.Test.YtlgallkddhfdaaaMark
namespace Go.Proofs.Ytlgallkddhfdaaa
open Go.RowKit

noncomputable def cycsR (p : Nat → Nat) (n : Int) : List (List Nat) := if permB p n = true then cycs p n.toNat else []
noncomputable def cycsC (p : Nat → Nat) (n : Int) : Int := if permB p n = true then 0 else 1
theorem cycsR_bounds (p : Nat → Nat) (n : Int) : total (cycsR p n) ≤ 16 ∧ (cycsR p n).length ≤ 16 := by
  unfold cycsR
  split
  · rename_i h
    obtain ⟨m, rfl, hp⟩ := permB_true h
    rw [Int.toNat_natCast]
    have h1 := cycs_sum hp.2.2.1 hp.2.1
    have h2 := cycs_length hp.2.2.1 hp.2.1
    have h3 := orb_le p m
    have h4 := hp.2.1
    unfold total
    omega
  · simp [total]

set_option maxRecDepth 100000 in
set_option maxHeartbeats 400000 in
theorem cyclesOf_any (p : Nat → Nat) (hp : ∀ i, p i < 256) (n : Int) (w : World) :
    Calls Try.prog 20 #[.agg (av p), .int .i64 n] w fun e w' => ∃ v, e = .returned (.tuple #[v, .int .i64 (cycsC p n)]) ∧ Below w.heap.size w w' ∧ Own2 w.heap.size w' v (cycsR p n) := by
  have C1 := hide fun w => isPerm_any p hp n w
  clear hp
  rcases h1 : permB p n with _ | _
  · rw [h1] at C1
    have hr : cycsR p n = [] := by unfold cycsR; rw [if_neg (by simp [h1])]
    have hc : cycsC p n = 1 := by unfold cycsC; rw [if_neg (by simp [h1])]
    rw [hr, hc]
    clear h1 hr hc
    go_enter Try.func20, Try.ntmps20
    go_wp2_with fail
    refine (C1.out _).mono ?_
    rintro e w1 ⟨rfl, hb⟩
    go_wp2
    go_ret2
    exact ⟨.slice none 0 0, rfl, (below1 w _).trans (hb.mono (by simp)), Own2.nil _ _⟩
  · rw [h1] at C1
    obtain ⟨m, rfl, hpm⟩ := permB_true h1
    have hr : cycsR p (m : Int) = cycs p m := by unfold cycsR; rw [if_pos h1, Int.toNat_natCast]
    have hc : cycsC p (m : Int) = 0 := by unfold cycsC; rw [if_pos h1]
    rw [hr, hc]
    clear h1 hr hc
    have C2 := hide fun w => cycleList_any p m hpm w
    clear hpm
    go_enter Try.func20, Try.ntmps20
    go_wp2_with fail
    refine (C1.out _).mono ?_
    rintro e w1 ⟨rfl, hb⟩
    have c1 : cellsOf w1 w.heap.size = av p := (below_cells hb (by simp)).trans (cellsOf_heap (heap_at _ _ _ rfl))
    go_wp2_with fail
    refine (C2.out _).mono ?_
    rintro e w2 ⟨v, rfl, hb2, ho⟩
    have s1 : w.heap.size ≤ w1.heap.size := by have := hb.size; simp at this; omega
    have b2 := (below1 w _).trans ((hb.trans (hb2.mono hb.size)).mono (by simp))
    clear hb hb2 c1
    have HO := hide ho; clear ho
    go_wp2
    go_ret2
    exact ⟨v, rfl, b2, HO.out.mono s1⟩

set_option maxRecDepth 100000 in
set_option maxHeartbeats 400000 in
theorem sCyclesOf_any (p : Nat → Nat) (hp : ∀ i, p i < 256) (n : Int) (w : World) :
    Calls Try.prog 21 #[.agg (av p), .int .i64 n] w fun e w' => ∃ v, e = .returned (.tuple #[v, .int .i64 (cycsC p n)]) ∧ Below w.heap.size w w' ∧ Own2 w.heap.size w' v (cycsR p n) := by
  have C1 := hide fun w => sPerm_any p hp n w
  clear hp
  rcases h1 : permB p n with _ | _
  · rw [h1] at C1
    have hr : cycsR p n = [] := by unfold cycsR; rw [if_neg (by simp [h1])]
    have hc : cycsC p n = 1 := by unfold cycsC; rw [if_neg (by simp [h1])]
    rw [hr, hc]
    clear h1 hr hc
    go_enter Try.func21, Try.ntmps21
    go_wp2_with fail
    refine (C1.out _).mono ?_
    rintro e w1 ⟨rfl, hb⟩
    go_wp2
    go_ret2
    exact ⟨.slice none 0 0, rfl, (below1 w _).trans (hb.mono (by simp)), Own2.nil _ _⟩
  · rw [h1] at C1
    obtain ⟨m, rfl, hpm⟩ := permB_true h1
    have hr : cycsR p (m : Int) = cycs p m := by unfold cycsR; rw [if_pos h1, Int.toNat_natCast]
    have hc : cycsC p (m : Int) = 0 := by unfold cycsC; rw [if_pos h1]
    rw [hr, hc]
    clear h1 hr hc
    have C2 := hide fun w => sCycles_any p m hpm w
    clear hpm
    go_enter Try.func21, Try.ntmps21
    go_wp2_with fail
    refine (C1.out _).mono ?_
    rintro e w1 ⟨rfl, hb⟩
    have c1 : cellsOf w1 w.heap.size = av p := (below_cells hb (by simp)).trans (cellsOf_heap (heap_at _ _ _ rfl))
    go_wp2_with fail
    refine (C2.out _).mono ?_
    rintro e w2 ⟨v, rfl, hb2, ho⟩
    have s1 : w.heap.size ≤ w1.heap.size := by have := hb.size; simp at this; omega
    have b2 := (below1 w _).trans ((hb.trans (hb2.mono hb.size)).mono (by simp))
    clear hb hb2 c1
    have HO := hide ho; clear ho
    go_wp2
    go_ret2
    exact ⟨v, rfl, b2, HO.out.mono s1⟩

end Go.Proofs.Ytlgallkddhfdaaa
