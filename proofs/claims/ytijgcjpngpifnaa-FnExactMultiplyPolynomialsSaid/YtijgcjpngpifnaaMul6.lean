/- Products. -/
import Derived.Test.YtijgcjpngpifnaaBoth6
namespace Go.Proofs.Ytijgcjpngpifnaa
open Go.RowKit

noncomputable def mulR2 (a b : List Int) : List Nat := @ite _ (isPol a ∧ isPol b) (Classical.propDecidable _) (if (timesL (tn a) (tn b)).length ≤ 17 then timesL (tn a) (tn b) else []) []
theorem mulR2_ok {a b : List Int} (h : isPol a ∧ isPol b) : mulR2 a b = if (timesL (tn a) (tn b)).length ≤ 17 then timesL (tn a) (tn b) else [] := @if_pos _ (Classical.propDecidable _) h _ _ _
theorem mulR2_bad {a b : List Int} (h : ¬ (isPol a ∧ isPol b)) : mulR2 a b = [] := @if_neg _ (Classical.propDecidable _) h _ _ _
theorem mulR2_bd (a b : List Int) : (mulR2 a b).length ≤ 1000000 := by
  by_cases h : isPol a ∧ isPol b
  · rw [mulR2_ok h]
    have f0 := h.1.2.2.1
    have f1 := h.2.2.2.1
    split
    · omega
    · decide
  · rw [mulR2_bad h]; decide
noncomputable def mulC2 (a b : List Int) : Int := @ite _ (isPol a ∧ isPol b) (Classical.propDecidable _) (if (timesL (tn a) (tn b)).length ≤ 17 then 0 else 3) 1
theorem mulC2_ok {a b : List Int} (h : isPol a ∧ isPol b) : mulC2 a b = if (timesL (tn a) (tn b)).length ≤ 17 then 0 else 3 := @if_pos _ (Classical.propDecidable _) h _ _ _
theorem mulC2_bad {a b : List Int} (h : ¬ (isPol a ∧ isPol b)) : mulC2 a b = 1 := @if_neg _ (Classical.propDecidable _) h _ _ _
-- left out here: times6_any
-- left out here: sTimes6_any
end Go.Proofs.Ytijgcjpngpifnaa
