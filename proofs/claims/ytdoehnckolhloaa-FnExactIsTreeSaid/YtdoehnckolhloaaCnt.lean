/- impl.countCycles -/
import Derived.Test.YtdoehnckolhloaaCycL
namespace Go.Proofs.Ytdoehnckolhloaa
open Go.RowKit

theorem tuple2 {a b c d : Value} (h1 : a = c) (h2 : b = d) : Ending.returned (.tuple #[a, b]) = .returned (.tuple #[c, d]) := by rw [h1, h2]
theorem cycs_le {p : Nat → Nat} {m : Nat} (hp : PermN p m) : (cycs p m).length ≤ m := by
  rw [cycs_length hp.2.2.1 hp.2.1]; exact orb_le p m

set_option maxRecDepth 100000 in
set_option maxHeartbeats 400000 in
theorem countCycles_any (p : Nat → Nat) (m : Nat) (hp : PermN p m) (w : World) :
    Calls Try.prog 76 #[.agg (av p), .int .i64 m] w fun e w' => e = .returned (.int .i64 (cycs p m).length) ∧ Below w.heap.size w w' := by
  have C := hide fun w => cycleList_any p m hp w
  have hle := cycs_le hp
  have h16 := hp.2.1
  clear hp
  go_enter Try.func76, Try.ntmps76
  go_wp2_with fail
  refine (C.out _).mono ?_
  rintro e w1 ⟨v, rfl, hb, ho⟩
  obtain ⟨A, c, rfl⟩ := ho.form
  clear ho C
  go_wp2
  go_ret
  exact ⟨rfl, (below1 w _).trans (hb.mono (by simp))⟩

end Go.Proofs.Ytdoehnckolhloaa
