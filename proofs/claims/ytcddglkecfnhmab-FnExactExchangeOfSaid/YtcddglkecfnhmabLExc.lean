/- The walk of the law FnExactExchangeOf. -/
import Derived.Test.YtcddglkecfnhmabExc
import Derived.Test.YtcddglkecfnhmabToDs
import Derived.Test.YtcddglkecfnhmabEqDs
import Derived.Test.YtcddglkecfnhmabHS
namespace Go.Proofs.Ytcddglkecfnhmab
open Go.RowKit

set_option maxRecDepth 100000 in
set_option maxHeartbeats 1000000 in
theorem fnExactExchangeOf_walk (n : Int) (f g : Nat → Nat) (_hn : -9223372036854775808 ≤ n ∧ n ≤ 9223372036854775807) (hf : ∀ i, f i < 256) (hg : ∀ i, g i < 256) (x : Int) (_hx : -9223372036854775808 ≤ x ∧ x ≤ 9223372036854775807) (w : World) :
    Calls Try.prog 4 #[.agg (dv n f g), .int .i64 x] w fun e w' => e = .returned (.bool true) ∧ Below w.heap.size w w' := by
  clear _hn _hx
  obtain ⟨a, r, s, c, hR⟩ := excR_eq n f g x
  have c1 := fun w => exchangeOf_any n f g hf hg x w
  have c2 := fun w => sExchangeOf_any n f g hf hg x w
  rw [hR] at c1 c2
  have C1 := hide c1; clear c1
  have C2 := hide c2; clear c2
  clear hR hf hg
  have hne : (c != c) = false := by simp
  have HH0 := (Holds.start w).blk (dv n f g) 24 w.heap.size rfl
  go_enter Try.func4, Try.ntmps4
  go_wp2_with fail
  refine (toDessin_any n f g _).mono ?_
  rintro e w1 ⟨rfl, hb1⟩
  have HH1 := HH0.call hb1
  clear hb1
  go_wp2_with fail
  refine (C2.out _).mono ?_
  rintro e w2 ⟨rfl, hb2⟩
  have HH2 := HH1.call hb2
  clear hb2
  have HB2 := HH2.blk (dv a r s) 29 w2.heap.size rfl
  have cd2 := HH2.cells 0 rfl
  have s2 := HH2.lt 0 rfl
  go_wp2_with fail
  refine (toDessin_any n f g _).mono ?_
  rintro e w3 ⟨rfl, hb3⟩
  have HH3 := HB2.call hb3
  clear hb3
  go_wp2_with fail
  refine (C1.out _).mono ?_
  rintro e w4 ⟨rfl, hb4⟩
  have HH4 := HH3.call hb4
  clear hb4
  have HB4 := HH4.blk (dv a r s) 29 w4.heap.size rfl
  have e4 := HH4.cells 0 rfl
  have l4 := HH4.lt 0 rfl
  clear cd2
  go_wp2_with fail
  refine (eqDessin_same a r s _).mono ?_
  rintro e w5 ⟨rfl, hb5⟩
  have HH5 := HB4.call hb5
  clear hb5 e4
  go_wp2
  go_ret
  exact ⟨rfl, HH5.low⟩
end Go.Proofs.Ytcddglkecfnhmab
