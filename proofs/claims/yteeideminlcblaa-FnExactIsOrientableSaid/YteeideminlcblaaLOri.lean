/- The walk of the law FnExactIsOrientable. -/
import Derived.Test.YteeideminlcblaaOri
import Derived.Test.YteeideminlcblaaToFl
namespace Go.Proofs.Yteeideminlcblaa
open Go.RowKit

set_option maxRecDepth 100000 in
set_option maxHeartbeats 2000000 in
theorem fnExactIsOrientable_walk (n : Int) (c t s : Nat → Nat) (_hn : -9223372036854775808 ≤ n ∧ n ≤ 9223372036854775807) (hc : ∀ i, c i < 256) (ht : ∀ i, t i < 256) (hs : ∀ i, s i < 256) (w : World) :
    Calls Try.prog 8 #[.agg (fv n c t s)] w fun e w' => e = .returned (.bool true) ∧ Below w.heap.size w w' := by
  clear _hn
  have C1 := hide fun w => isOri_any n c t s hc ht hs w
  have C2 := hide fun w => sIsOri_any n c t s hc ht hs w
  generalize oriB n c t s = a at *
  generalize oriC n c t s = b at *
  clear hc ht hs
  have hna : (a != a) = false := by simp
  have hnb : (b != b) = false := by simp
  have HH0 := (Holds.start w).blk (fv n c t s) 50 w.heap.size rfl
  go_enter Try.func8, Try.ntmps8
  go_wp2_with fail
  refine (toFlags_any n c t s _).mono ?_
  rintro e1 w1 ⟨rfl, hb1⟩
  have HH1 := HH0.call hb1
  have cd1 := HH1.cells 0 rfl
  have l1 := HH1.lt 0 rfl
  clear hb1
  go_wp2_with fail
  refine (C2.out _).mono ?_
  rintro e2 w2 ⟨rfl, hb2⟩
  have HH2 := HH1.call hb2
  have cd2 := HH2.cells 0 rfl
  have l2 := HH2.lt 0 rfl
  clear hb2 cd1 l1
  go_wp2_with fail
  refine (toFlags_any n c t s _).mono ?_
  rintro e3 w3 ⟨rfl, hb3⟩
  have HH3 := HH2.call hb3
  have cd3 := HH3.cells 0 rfl
  have l3 := HH3.lt 0 rfl
  clear hb3
  go_wp2_with fail
  refine (C1.out _).mono ?_
  rintro e4 w4 ⟨rfl, hb4⟩
  have HH4 := HH3.call hb4
  have cd4 := HH4.cells 0 rfl
  have l4 := HH4.lt 0 rfl
  clear hb4 cd3 l3
  go_wp2
  go_ret
  exact ⟨rfl, HH4.low⟩
end Go.Proofs.Yteeideminlcblaa
