/- Both are polynomials. -/
import Derived.Test.YtjjmjnohbebbaaaMp
namespace Go.Proofs.Ytjjmjnohbebbaaa
open Go.RowKit

noncomputable def both6 (a b : List Int) : Int := @ite _ (isPol a ∧ isPol b) (Classical.propDecidable _) 0 1
theorem both6_ok {a b : List Int} (h : isPol a ∧ isPol b) : both6 a b = 0 := @if_pos _ (Classical.propDecidable _) h _ _ _
theorem both6_bad {a b : List Int} (h : ¬ (isPol a ∧ isPol b)) : both6 a b = 1 := @if_neg _ (Classical.propDecidable _) h _ _ _
-- left out here: loop.example/g01200/spec.l06Both
end Go.Proofs.Ytjjmjnohbebbaaa
