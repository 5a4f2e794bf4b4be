/- The walk of the law FnExactCountSubgroups. -/
import Derived.Test.YtlmhnimpglookaaSub
namespace Go.Proofs.Ytlmhnimpglookaa
open Go.RowKit

set_option maxRecDepth 100000 in
set_option maxHeartbeats 1000000 in
theorem fnExactCountSubgroups_walk (n : Int) (_hn : -9223372036854775808 ≤ n ∧ n ≤ 9223372036854775807) (w : World) :
    Calls Try.prog 8 #[.int .i64 n] w fun e w' => e = .returned (.bool true) ∧ Below w.heap.size w w' := by
  clear _hn
  have c1 := fun w => countSubgroups_any n w
  have c2 := fun w => sCountSubgroups_any n w
  obtain ⟨a, c, hR⟩ := subR_eq n
  rw [hR] at c1 c2
  have C1 := hide c1; clear c1
  have C2 := hide c2; clear c2
  clear hR
  have hne : (a != a) = false := by simp
  have hne2 : (c != c) = false := by simp
  go_enter Try.func8, Try.ntmps8
  go_wp2_with fail
  refine (C2.out _).mono ?_
  rintro e w1 ⟨rfl, b1⟩
  go_wp2_with fail
  refine (C1.out _).mono ?_
  rintro e w2 ⟨rfl, h2⟩
  have b2 := b1.trans (h2.mono b1.size)
  clear h2 b1
  go_wp2
  go_ret
  exact ⟨rfl, b2⟩
end Go.Proofs.Ytlmhnimpglookaa
