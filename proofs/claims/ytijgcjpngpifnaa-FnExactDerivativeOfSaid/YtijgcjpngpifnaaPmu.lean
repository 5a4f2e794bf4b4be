/- The program's sums, products, remainders, divisors. -/
import Derived.Test.YtijgcjpngpifnaaPad
namespace Go.Proofs.Ytijgcjpngpifnaa
open Go.RowKit

theorem plus_low {f g : List Nat} (pf : Po f) (hl : g.length ≤ f.length) : rowL f 1 g 0 g.length = addR f g 1 :=
  rowL_addR (k := 1) pf (by decide) (by omega) hl fun n => by rw [if_pos (Nat.zero_le _), Nat.sub_zero]
-- left out here: add6_any
-- left out here: add6_any
-- left out here: times6_any
-- left out here: times6_any
end Go.Proofs.Ytijgcjpngpifnaa
