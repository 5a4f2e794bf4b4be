/- FlagsOf: the law's walk -/
import Derived.Test.YtcddglkecfnhmaaFloP
import Derived.Test.YtcddglkecfnhmaaFloS
import Derived.Test.YtcddglkecfnhmaaToFl
import Derived.Test.YtcddglkecfnhmaaToDs
import Derived.Test.YtcddglkecfnhmaaEqDs
import Derived.Test.YtcddglkecfnhmaaHS
namespace Go.Proofs.Ytcddglkecfnhmaa
open Go.RowKit
attribute [local irreducible] IntKind.wrap

set_option maxRecDepth 100000 in
set_option maxHeartbeats 1000000 in
theorem fnExactFlagsOf_walk (n : Int) (f g : Nat → Nat) (_hn : -9223372036854775808 ≤ n ∧ n ≤ 9223372036854775807) (hf : ∀ i, f i < 256) (hg : ∀ i, g i < 256) (w : World) :
    Calls Try.prog 3 #[.agg (dv n f g)] w fun e w' => e = .returned (.bool true) ∧ Below w.heap.size w w' := by
  clear _hn
  obtain ⟨a, r, s, q, c, hR⟩ := floR_eq n f g
  have c1 := fun w => flagsOf_any n f g hf hg w
  have c2 := fun w => sFlagsOf_any n f g hf hg w
  rw [hR] at c1 c2
  have C1 := hide c1; clear c1
  have C2 := hide c2; clear c2
  clear hR hf hg
  have hne : (c != c) = false := by simp
  have HH0 := (Holds.start w).blk (dv n f g) 24 w.heap.size rfl
  go_enter Try.func3, Try.ntmps3
  go_wp2_with fail
  refine (toDessin_any n f g _).mono ?_
  rintro e w1 ⟨rfl, hb1⟩
  have HH1 := HH0.call hb1
  clear hb1
  go_wp2_with fail
  refine (C2.out _).mono ?_
  rintro e w2 ⟨rfl, hb2⟩
  have HH2 := HH1.call hb2
  clear hb2
  have HB2 := HH2.blk (fv a r s q) 27 w2.heap.size rfl
  have cd2 := HH2.cells 0 rfl
  have s2 := HH2.lt 0 rfl
  go_wp2_with fail
  refine (toDessin_any n f g _).mono ?_
  rintro e w3 ⟨rfl, hb3⟩
  have HH3 := HB2.call hb3
  clear hb3
  go_wp2_with fail
  refine (C1.out _).mono ?_
  rintro e w4 ⟨rfl, hb4⟩
  have HH4 := HH3.call hb4
  clear hb4
  have HB4 := HH4.blk (fv a r s q) 27 w4.heap.size rfl
  have e4 := HH4.cells 0 rfl
  have l4 := HH4.lt 0 rfl
  clear cd2
  go_wp2_with fail
  refine (eqFlags_same a r s q _).mono ?_
  rintro e w5 ⟨rfl, hb5⟩
  have HH5 := HB4.call hb5
  clear hb5 e4
  go_wp2
  go_ret
  exact ⟨rfl, HH5.low⟩
end Go.Proofs.Ytcddglkecfnhmaa
