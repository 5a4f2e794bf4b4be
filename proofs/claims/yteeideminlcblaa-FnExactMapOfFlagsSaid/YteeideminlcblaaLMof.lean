/- The walk of the law FnExactMapOfFlags. -/
import Derived.Test.YteeideminlcblaaMofP
import Derived.Test.YteeideminlcblaaMofS
import Derived.Test.YteeideminlcblaaEqDs
import Derived.Test.YteeideminlcblaaToDs
import Derived.Test.YteeideminlcblaaToFl
namespace Go.Proofs.Yteeideminlcblaa
open Go.RowKit

set_option maxRecDepth 100000 in
set_option maxHeartbeats 2000000 in
theorem fnExactMapOfFlags_walk (n : Int) (c t s : Nat → Nat) (_hn : -9223372036854775808 ≤ n ∧ n ≤ 9223372036854775807) (hc : ∀ i, c i < 256) (ht : ∀ i, t i < 256) (hs : ∀ i, s i < 256) (w : World) :
    Calls Try.prog 9 #[.agg (fv n c t s)] w fun e w' => e = .returned (.bool true) ∧ Below w.heap.size w w' := by
  clear _hn
  obtain ⟨a, r, q, k, hR⟩ := mfR_eq n c t s
  have c1 := fun w => mapOf_any n c t s hc ht hs w
  have c2 := fun w => sMapOf_any n c t s hc ht hs w
  rw [hR] at c1 c2
  have C1 := hide c1; clear c1
  have C2 := hide c2; clear c2
  clear hR hc ht hs
  have hne : (k != k) = false := by simp
  have HH0 := (Holds.start w).blk (fv n c t s) 50 w.heap.size rfl
  go_enter Try.func9, Try.ntmps9
  go_wp2_with fail
  refine (toFlags_any n c t s _).mono ?_
  rintro e1 w1 ⟨rfl, hb1⟩
  have HH1 := HH0.call hb1
  have cd1 := HH1.cells 0 rfl
  have l1 := HH1.lt 0 rfl
  clear hb1
  go_wp2_with fail
  refine (C2.out _).mono ?_
  rintro e2 w2 ⟨rfl, hb2⟩
  have HH2 := HH1.call hb2
  have cd2 := HH2.cells 0 rfl
  have l2 := HH2.lt 0 rfl
  clear hb2 cd1 l1
  have HB2 := HH2.blk (dv a r q) 36 w2.heap.size rfl
  go_wp2_with fail
  refine (toFlags_any n c t s _).mono ?_
  rintro e3 w3 ⟨rfl, hb3⟩
  have HH3 := HB2.call hb3
  have cd3 := HH3.cells 0 rfl
  have l3 := HH3.lt 0 rfl
  clear hb3 cd2 l2
  go_wp2_with fail
  refine (C1.out _).mono ?_
  rintro e4 w4 ⟨rfl, hb4⟩
  have HH4 := HH3.call hb4
  have cd4 := HH4.cells 0 rfl
  have l4 := HH4.lt 0 rfl
  clear hb4 cd3 l3
  have HB4 := HH4.blk (dv a r q) 36 w4.heap.size rfl
  go_wp2_with fail
  refine (eqDessin_same a r q _).mono ?_
  rintro e5 w5 ⟨rfl, hb5⟩
  have HH5 := HB4.call hb5
  clear hb5 cd4
  go_wp2
  go_ret
  exact ⟨rfl, HH5.low⟩
end Go.Proofs.Yteeideminlcblaa
