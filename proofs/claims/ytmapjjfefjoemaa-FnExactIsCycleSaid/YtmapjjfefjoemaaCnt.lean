/- impl.countCycles -/
import Derived.Test.YtmapjjfefjoemaaCycL
namespace Go.Proofs.Ytmapjjfefjoemaa
open Go.RowKit

theorem tuple2 {a b c d : Value} (h1 : a = c) (h2 : b = d) : Ending.returned (.tuple #[a, b]) = .returned (.tuple #[c, d]) := by rw [h1, h2]
theorem cycs_le {p : Nat → Nat} {m : Nat} (hp : PermN p m) : (cycs p m).length ≤ m := by
  rw [cycs_length hp.2.2.1 hp.2.1]; exact orb_le p m

-- left out here: loop.example/g01200/impl.countCycles
end Go.Proofs.Ytmapjjfefjoemaa
