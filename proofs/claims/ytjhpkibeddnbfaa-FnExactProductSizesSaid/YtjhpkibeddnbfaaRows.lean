/-
  No cell of these rows narrows 'for every input' (looked for: loops, veiled, ifaces, maps, wideKeys, modest, calm, conditions, laid).
  DERIVED. THE GIVEN ROWS OF THIS SEAT. 10 by the template 'for every input the law returns true; each argument reads behind the call as it read before'; 0 by the template 'total and deterministic' (their statements: YtjhpkibeddnbfaaTotals.lean).
  GIVEN WITH THE SEED: the statements are not yours to turn. If you find one false, say at which input.
  Laid BY PROGRAM, IN A SANDBOX (cutbox-rows.mjs): the forced cells as the released guide's own fill.sh prints them over the translation 4fe78044627b0ae2… (all of the seat's roots in one cut). By AI agents, Wed Nov 11 2026. No macro, syntax, notation, axiom, sorry.
-/
import Derived.Test.YtjhpkibeddnbfaaChecked
import GoSem.Claim
import GoSem.ClaimJoined
import GoSem.ClaimMapViews
import Derived.JoinedTies
import Derived.KernelRfl
namespace Go.Proofs.Ytjhpkibeddnbfaa
/- THE CELL 'sum', in the pinned program and in every row, IS THE sha256 OF THE DUMP (.gsa) THAT YtjhpkibeddnbfaaProg.lean LOADS. Nothing in Lean hashes anything: it is a label: what it is worth is what the hold of that sum in a sandbox is worth. -/
noncomputable def Try.pinned : Pinned := { name := "ytjhpkibeddnbfaa", sum := "4fe78044627b0ae2ca708d25b6d9cc9935b398a3cee3d5b8c43e36c6bd8be800", checked := Try.checked }
namespace Rows
def none {H : Type} : Left H := { results := [], args := [] }

/-- 'laws.FnExactIsomorphismsOf': WHATEVER THE INPUT: true; the input reads as it did. -/
def fnExactIsomorphismsOfSpec : ChangeSpec := { name := "fnExactIsomorphismsOf", fn := fun _ => fun
  | [d1, d2] => { results := [.lit (.bool true)], args := [d1, d2] }
  | _ => none }
def fnExactIsomorphismsOfRow : OpenClaim := { program := "ytjhpkibeddnbfaa", sum := "4fe78044627b0ae2ca708d25b6d9cc9935b398a3cee3d5b8c43e36c6bd8be800", func := "loop.example/g01200/laws.FnExactIsomorphismsOf", spec := "fnExactIsomorphismsOf", plainKeys := false, apart := false }
def FnExactIsomorphismsOfSaid : Prop := fnExactIsomorphismsOfRow.holds Try.pinned (OpenSpec.ofChange fnExactIsomorphismsOfSpec)

/-- ITS FALSE NEIGHBOUR: 'it returns false'. Refute it at one input. -/
def fnExactIsomorphismsOfWrong : ChangeSpec := { name := "fnExactIsomorphismsOf", fn := fun _ => fun
  | [d1, d2] => { results := [.lit (.bool false)], args := [d1, d2] }
  | _ => none }
def FnExactIsomorphismsOfWrongFalsely : Prop := fnExactIsomorphismsOfRow.holds Try.pinned (OpenSpec.ofChange fnExactIsomorphismsOfWrong)

/-- 'laws.FnExactAutomorphismsOf': WHATEVER THE INPUT: true; the input reads as it did. -/
def fnExactAutomorphismsOfSpec : ChangeSpec := { name := "fnExactAutomorphismsOf", fn := fun _ => fun
  | [d] => { results := [.lit (.bool true)], args := [d] }
  | _ => none }
def fnExactAutomorphismsOfRow : OpenClaim := { program := "ytjhpkibeddnbfaa", sum := "4fe78044627b0ae2ca708d25b6d9cc9935b398a3cee3d5b8c43e36c6bd8be800", func := "loop.example/g01200/laws.FnExactAutomorphismsOf", spec := "fnExactAutomorphismsOf", plainKeys := false, apart := false }
def FnExactAutomorphismsOfSaid : Prop := fnExactAutomorphismsOfRow.holds Try.pinned (OpenSpec.ofChange fnExactAutomorphismsOfSpec)

/-- ITS FALSE NEIGHBOUR: 'it returns false'. Refute it at one input. -/
def fnExactAutomorphismsOfWrong : ChangeSpec := { name := "fnExactAutomorphismsOf", fn := fun _ => fun
  | [d] => { results := [.lit (.bool false)], args := [d] }
  | _ => none }
def FnExactAutomorphismsOfWrongFalsely : Prop := fnExactAutomorphismsOfRow.holds Try.pinned (OpenSpec.ofChange fnExactAutomorphismsOfWrong)

/-- 'laws.FnExactIsRegularDessin': WHATEVER THE INPUT: true; the input reads as it did. -/
def fnExactIsRegularDessinSpec : ChangeSpec := { name := "fnExactIsRegularDessin", fn := fun _ => fun
  | [d] => { results := [.lit (.bool true)], args := [d] }
  | _ => none }
def fnExactIsRegularDessinRow : OpenClaim := { program := "ytjhpkibeddnbfaa", sum := "4fe78044627b0ae2ca708d25b6d9cc9935b398a3cee3d5b8c43e36c6bd8be800", func := "loop.example/g01200/laws.FnExactIsRegularDessin", spec := "fnExactIsRegularDessin", plainKeys := false, apart := false }
def FnExactIsRegularDessinSaid : Prop := fnExactIsRegularDessinRow.holds Try.pinned (OpenSpec.ofChange fnExactIsRegularDessinSpec)

/-- ITS FALSE NEIGHBOUR: 'it returns false'. Refute it at one input. -/
def fnExactIsRegularDessinWrong : ChangeSpec := { name := "fnExactIsRegularDessin", fn := fun _ => fun
  | [d] => { results := [.lit (.bool false)], args := [d] }
  | _ => none }
def FnExactIsRegularDessinWrongFalsely : Prop := fnExactIsRegularDessinRow.holds Try.pinned (OpenSpec.ofChange fnExactIsRegularDessinWrong)

/-- 'laws.FnExactMorphismsOf': WHATEVER THE INPUT: true; the input reads as it did. -/
def fnExactMorphismsOfSpec : ChangeSpec := { name := "fnExactMorphismsOf", fn := fun _ => fun
  | [d1, d2] => { results := [.lit (.bool true)], args := [d1, d2] }
  | _ => none }
def fnExactMorphismsOfRow : OpenClaim := { program := "ytjhpkibeddnbfaa", sum := "4fe78044627b0ae2ca708d25b6d9cc9935b398a3cee3d5b8c43e36c6bd8be800", func := "loop.example/g01200/laws.FnExactMorphismsOf", spec := "fnExactMorphismsOf", plainKeys := false, apart := false }
def FnExactMorphismsOfSaid : Prop := fnExactMorphismsOfRow.holds Try.pinned (OpenSpec.ofChange fnExactMorphismsOfSpec)

/-- ITS FALSE NEIGHBOUR: 'it returns false'. Refute it at one input. -/
def fnExactMorphismsOfWrong : ChangeSpec := { name := "fnExactMorphismsOf", fn := fun _ => fun
  | [d1, d2] => { results := [.lit (.bool false)], args := [d1, d2] }
  | _ => none }
def FnExactMorphismsOfWrongFalsely : Prop := fnExactMorphismsOfRow.holds Try.pinned (OpenSpec.ofChange fnExactMorphismsOfWrong)

/-- 'laws.FnExactProductAt': WHATEVER THE INPUT: true; the input reads as it did. -/
def fnExactProductAtSpec : ChangeSpec := { name := "fnExactProductAt", fn := fun _ => fun
  | [d1, d2, d3, d4] => { results := [.lit (.bool true)], args := [d1, d2, d3, d4] }
  | _ => none }
def fnExactProductAtRow : OpenClaim := { program := "ytjhpkibeddnbfaa", sum := "4fe78044627b0ae2ca708d25b6d9cc9935b398a3cee3d5b8c43e36c6bd8be800", func := "loop.example/g01200/laws.FnExactProductAt", spec := "fnExactProductAt", plainKeys := false, apart := false }
def FnExactProductAtSaid : Prop := fnExactProductAtRow.holds Try.pinned (OpenSpec.ofChange fnExactProductAtSpec)

/-- ITS FALSE NEIGHBOUR: 'it returns false'. Refute it at one input. -/
def fnExactProductAtWrong : ChangeSpec := { name := "fnExactProductAt", fn := fun _ => fun
  | [d1, d2, d3, d4] => { results := [.lit (.bool false)], args := [d1, d2, d3, d4] }
  | _ => none }
def FnExactProductAtWrongFalsely : Prop := fnExactProductAtRow.holds Try.pinned (OpenSpec.ofChange fnExactProductAtWrong)

/-- 'laws.FnExactProductSizes': WHATEVER THE INPUT: true; the input reads as it did. -/
def fnExactProductSizesSpec : ChangeSpec := { name := "fnExactProductSizes", fn := fun _ => fun
  | [d1, d2] => { results := [.lit (.bool true)], args := [d1, d2] }
  | _ => none }
def fnExactProductSizesRow : OpenClaim := { program := "ytjhpkibeddnbfaa", sum := "4fe78044627b0ae2ca708d25b6d9cc9935b398a3cee3d5b8c43e36c6bd8be800", func := "loop.example/g01200/laws.FnExactProductSizes", spec := "fnExactProductSizes", recurses := true, plainKeys := false, apart := false }
def FnExactProductSizesSaid : Prop := fnExactProductSizesRow.holds Try.pinned (OpenSpec.ofChange fnExactProductSizesSpec)

/-- ITS FALSE NEIGHBOUR: 'it returns false'. Refute it at one input. -/
def fnExactProductSizesWrong : ChangeSpec := { name := "fnExactProductSizes", fn := fun _ => fun
  | [d1, d2] => { results := [.lit (.bool false)], args := [d1, d2] }
  | _ => none }
def FnExactProductSizesWrongFalsely : Prop := fnExactProductSizesRow.holds Try.pinned (OpenSpec.ofChange fnExactProductSizesWrong)

/-- 'laws.FnExactClosureGenus': WHATEVER THE INPUT: true; the input reads as it did. -/
def fnExactClosureGenusSpec : ChangeSpec := { name := "fnExactClosureGenus", fn := fun _ => fun
  | [d] => { results := [.lit (.bool true)], args := [d] }
  | _ => none }
def fnExactClosureGenusRow : OpenClaim := { program := "ytjhpkibeddnbfaa", sum := "4fe78044627b0ae2ca708d25b6d9cc9935b398a3cee3d5b8c43e36c6bd8be800", func := "loop.example/g01200/laws.FnExactClosureGenus", spec := "fnExactClosureGenus", recurses := true, plainKeys := false, apart := false }
def FnExactClosureGenusSaid : Prop := fnExactClosureGenusRow.holds Try.pinned (OpenSpec.ofChange fnExactClosureGenusSpec)

/-- ITS FALSE NEIGHBOUR: 'it returns false'. Refute it at one input. -/
def fnExactClosureGenusWrong : ChangeSpec := { name := "fnExactClosureGenus", fn := fun _ => fun
  | [d] => { results := [.lit (.bool false)], args := [d] }
  | _ => none }
def FnExactClosureGenusWrongFalsely : Prop := fnExactClosureGenusRow.holds Try.pinned (OpenSpec.ofChange fnExactClosureGenusWrong)

/-- 'laws.FnExactDerivedSeries': WHATEVER THE INPUT: true; the input reads as it did. -/
def fnExactDerivedSeriesSpec : ChangeSpec := { name := "fnExactDerivedSeries", fn := fun _ => fun
  | [d] => { results := [.lit (.bool true)], args := [d] }
  | _ => none }
def fnExactDerivedSeriesRow : OpenClaim := { program := "ytjhpkibeddnbfaa", sum := "4fe78044627b0ae2ca708d25b6d9cc9935b398a3cee3d5b8c43e36c6bd8be800", func := "loop.example/g01200/laws.FnExactDerivedSeries", spec := "fnExactDerivedSeries", recurses := true, plainKeys := false, apart := false }
def FnExactDerivedSeriesSaid : Prop := fnExactDerivedSeriesRow.holds Try.pinned (OpenSpec.ofChange fnExactDerivedSeriesSpec)

/-- ITS FALSE NEIGHBOUR: 'it returns false'. Refute it at one input. -/
def fnExactDerivedSeriesWrong : ChangeSpec := { name := "fnExactDerivedSeries", fn := fun _ => fun
  | [d] => { results := [.lit (.bool false)], args := [d] }
  | _ => none }
def FnExactDerivedSeriesWrongFalsely : Prop := fnExactDerivedSeriesRow.holds Try.pinned (OpenSpec.ofChange fnExactDerivedSeriesWrong)

/-- 'laws.FnExactIsSolvable': WHATEVER THE INPUT: true; the input reads as it did. -/
def fnExactIsSolvableSpec : ChangeSpec := { name := "fnExactIsSolvable", fn := fun _ => fun
  | [d] => { results := [.lit (.bool true)], args := [d] }
  | _ => none }
def fnExactIsSolvableRow : OpenClaim := { program := "ytjhpkibeddnbfaa", sum := "4fe78044627b0ae2ca708d25b6d9cc9935b398a3cee3d5b8c43e36c6bd8be800", func := "loop.example/g01200/laws.FnExactIsSolvable", spec := "fnExactIsSolvable", recurses := true, plainKeys := false, apart := false }
def FnExactIsSolvableSaid : Prop := fnExactIsSolvableRow.holds Try.pinned (OpenSpec.ofChange fnExactIsSolvableSpec)

/-- ITS FALSE NEIGHBOUR: 'it returns false'. Refute it at one input. -/
def fnExactIsSolvableWrong : ChangeSpec := { name := "fnExactIsSolvable", fn := fun _ => fun
  | [d] => { results := [.lit (.bool false)], args := [d] }
  | _ => none }
def FnExactIsSolvableWrongFalsely : Prop := fnExactIsSolvableRow.holds Try.pinned (OpenSpec.ofChange fnExactIsSolvableWrong)

/-- 'laws.FnExactElementTypes': WHATEVER THE INPUT: true; the input reads as it did. -/
def fnExactElementTypesSpec : ChangeSpec := { name := "fnExactElementTypes", fn := fun _ => fun
  | [d] => { results := [.lit (.bool true)], args := [d] }
  | _ => none }
def fnExactElementTypesRow : OpenClaim := { program := "ytjhpkibeddnbfaa", sum := "4fe78044627b0ae2ca708d25b6d9cc9935b398a3cee3d5b8c43e36c6bd8be800", func := "loop.example/g01200/laws.FnExactElementTypes", spec := "fnExactElementTypes", unfollowed := true, recurses := true, plainKeys := false, apart := false }
def FnExactElementTypesSaid : Prop := fnExactElementTypesRow.holds Try.pinned (OpenSpec.ofChange fnExactElementTypesSpec)

/-- ITS FALSE NEIGHBOUR: 'it returns false'. Refute it at one input. -/
def fnExactElementTypesWrong : ChangeSpec := { name := "fnExactElementTypes", fn := fun _ => fun
  | [d] => { results := [.lit (.bool false)], args := [d] }
  | _ => none }
def FnExactElementTypesWrongFalsely : Prop := fnExactElementTypesRow.holds Try.pinned (OpenSpec.ofChange fnExactElementTypesWrong)

/- THE SECOND FORM. 'bulk': how many values and letters a reading holds, each counted each time it is reached (what is shared counts as often as it is met; a slice's spare places count too). A statement '..UptoSaid' is the law's where the arguments, and the package variables that the reading takes, are together of bulk at most 1048576: NARROWER than '..Said'. Prove '..Said' where nothing that the law and all that it calls make is longer than what came in: it says more and counts as full. Else prove '..UptoSaid'. A law counts once. -/
mutual
def uptoBulk {H : Type} : DataW H → Nat
  | .lit (.string bytes) => bytes.length + 1
  | .lit _ => 1
  | .nil => 1
  | .ptr d => uptoBulk d + 1
  | .slice elems spare => uptoBulkAll elems + uptoBulkAll spare + 1
  | .agg parts => uptoBulkAll parts + 1
  | .iface _ d => uptoBulk d + 1
  | .map entries => uptoBulkEntries entries + 1
  | .held _ => 1
def uptoBulkAll {H : Type} : List (DataW H) → Nat
  | [] => 0
  | d :: r => uptoBulk d + uptoBulkAll r
def uptoBulkEntries {H : Type} : List (Lit × DataW H) → Nat
  | [] => 0
  | x :: r => uptoBulkEntry x + uptoBulkEntries r
def uptoBulkEntry {H : Type} : Lit × DataW H → Nat
  | (.string bytes, d) => bytes.length + uptoBulk d + 1
  | (_, d) => uptoBulk d + 1
 end
def uptoSmall : (H : Type) → List (DataW H) → Bool := fun _ ds => decide (uptoBulkAll ds ≤ 1048576)
def OpenSpec.upto (s : _root_.Go.ChangeSpec) : _root_.Go.OpenSpec := { _root_.Go.OpenSpec.ofChange s with cond := some uptoSmall }

/-- 'laws.FnExactIsomorphismsOf', WHERE WHAT IT READS IS OF BULK AT MOST 1048576: true; the input reads as it did. -/
def fnExactIsomorphismsOfUptoRow : OpenClaim := { program := "ytjhpkibeddnbfaa", sum := "4fe78044627b0ae2ca708d25b6d9cc9935b398a3cee3d5b8c43e36c6bd8be800", func := "loop.example/g01200/laws.FnExactIsomorphismsOf", spec := "fnExactIsomorphismsOf", plainKeys := false, apart := false, narrowed := true }
def FnExactIsomorphismsOfUptoSaid : Prop := fnExactIsomorphismsOfUptoRow.holds Try.pinned (OpenSpec.upto fnExactIsomorphismsOfSpec)

/-- 'laws.FnExactAutomorphismsOf', WHERE WHAT IT READS IS OF BULK AT MOST 1048576: true; the input reads as it did. -/
def fnExactAutomorphismsOfUptoRow : OpenClaim := { program := "ytjhpkibeddnbfaa", sum := "4fe78044627b0ae2ca708d25b6d9cc9935b398a3cee3d5b8c43e36c6bd8be800", func := "loop.example/g01200/laws.FnExactAutomorphismsOf", spec := "fnExactAutomorphismsOf", plainKeys := false, apart := false, narrowed := true }
def FnExactAutomorphismsOfUptoSaid : Prop := fnExactAutomorphismsOfUptoRow.holds Try.pinned (OpenSpec.upto fnExactAutomorphismsOfSpec)

/-- 'laws.FnExactIsRegularDessin', WHERE WHAT IT READS IS OF BULK AT MOST 1048576: true; the input reads as it did. -/
def fnExactIsRegularDessinUptoRow : OpenClaim := { program := "ytjhpkibeddnbfaa", sum := "4fe78044627b0ae2ca708d25b6d9cc9935b398a3cee3d5b8c43e36c6bd8be800", func := "loop.example/g01200/laws.FnExactIsRegularDessin", spec := "fnExactIsRegularDessin", plainKeys := false, apart := false, narrowed := true }
def FnExactIsRegularDessinUptoSaid : Prop := fnExactIsRegularDessinUptoRow.holds Try.pinned (OpenSpec.upto fnExactIsRegularDessinSpec)

/-- 'laws.FnExactMorphismsOf', WHERE WHAT IT READS IS OF BULK AT MOST 1048576: true; the input reads as it did. -/
def fnExactMorphismsOfUptoRow : OpenClaim := { program := "ytjhpkibeddnbfaa", sum := "4fe78044627b0ae2ca708d25b6d9cc9935b398a3cee3d5b8c43e36c6bd8be800", func := "loop.example/g01200/laws.FnExactMorphismsOf", spec := "fnExactMorphismsOf", plainKeys := false, apart := false, narrowed := true }
def FnExactMorphismsOfUptoSaid : Prop := fnExactMorphismsOfUptoRow.holds Try.pinned (OpenSpec.upto fnExactMorphismsOfSpec)

/-- 'laws.FnExactProductAt', WHERE WHAT IT READS IS OF BULK AT MOST 1048576: true; the input reads as it did. -/
def fnExactProductAtUptoRow : OpenClaim := { program := "ytjhpkibeddnbfaa", sum := "4fe78044627b0ae2ca708d25b6d9cc9935b398a3cee3d5b8c43e36c6bd8be800", func := "loop.example/g01200/laws.FnExactProductAt", spec := "fnExactProductAt", plainKeys := false, apart := false, narrowed := true }
def FnExactProductAtUptoSaid : Prop := fnExactProductAtUptoRow.holds Try.pinned (OpenSpec.upto fnExactProductAtSpec)

/-- 'laws.FnExactProductSizes', WHERE WHAT IT READS IS OF BULK AT MOST 1048576: true; the input reads as it did. -/
def fnExactProductSizesUptoRow : OpenClaim := { program := "ytjhpkibeddnbfaa", sum := "4fe78044627b0ae2ca708d25b6d9cc9935b398a3cee3d5b8c43e36c6bd8be800", func := "loop.example/g01200/laws.FnExactProductSizes", spec := "fnExactProductSizes", recurses := true, plainKeys := false, apart := false, narrowed := true }
def FnExactProductSizesUptoSaid : Prop := fnExactProductSizesUptoRow.holds Try.pinned (OpenSpec.upto fnExactProductSizesSpec)

/-- 'laws.FnExactClosureGenus', WHERE WHAT IT READS IS OF BULK AT MOST 1048576: true; the input reads as it did. -/
def fnExactClosureGenusUptoRow : OpenClaim := { program := "ytjhpkibeddnbfaa", sum := "4fe78044627b0ae2ca708d25b6d9cc9935b398a3cee3d5b8c43e36c6bd8be800", func := "loop.example/g01200/laws.FnExactClosureGenus", spec := "fnExactClosureGenus", recurses := true, plainKeys := false, apart := false, narrowed := true }
def FnExactClosureGenusUptoSaid : Prop := fnExactClosureGenusUptoRow.holds Try.pinned (OpenSpec.upto fnExactClosureGenusSpec)

/-- 'laws.FnExactDerivedSeries', WHERE WHAT IT READS IS OF BULK AT MOST 1048576: true; the input reads as it did. -/
def fnExactDerivedSeriesUptoRow : OpenClaim := { program := "ytjhpkibeddnbfaa", sum := "4fe78044627b0ae2ca708d25b6d9cc9935b398a3cee3d5b8c43e36c6bd8be800", func := "loop.example/g01200/laws.FnExactDerivedSeries", spec := "fnExactDerivedSeries", recurses := true, plainKeys := false, apart := false, narrowed := true }
def FnExactDerivedSeriesUptoSaid : Prop := fnExactDerivedSeriesUptoRow.holds Try.pinned (OpenSpec.upto fnExactDerivedSeriesSpec)

/-- 'laws.FnExactIsSolvable', WHERE WHAT IT READS IS OF BULK AT MOST 1048576: true; the input reads as it did. -/
def fnExactIsSolvableUptoRow : OpenClaim := { program := "ytjhpkibeddnbfaa", sum := "4fe78044627b0ae2ca708d25b6d9cc9935b398a3cee3d5b8c43e36c6bd8be800", func := "loop.example/g01200/laws.FnExactIsSolvable", spec := "fnExactIsSolvable", recurses := true, plainKeys := false, apart := false, narrowed := true }
def FnExactIsSolvableUptoSaid : Prop := fnExactIsSolvableUptoRow.holds Try.pinned (OpenSpec.upto fnExactIsSolvableSpec)

/-- 'laws.FnExactElementTypes', WHERE WHAT IT READS IS OF BULK AT MOST 1048576: true; the input reads as it did. -/
def fnExactElementTypesUptoRow : OpenClaim := { program := "ytjhpkibeddnbfaa", sum := "4fe78044627b0ae2ca708d25b6d9cc9935b398a3cee3d5b8c43e36c6bd8be800", func := "loop.example/g01200/laws.FnExactElementTypes", spec := "fnExactElementTypes", unfollowed := true, recurses := true, plainKeys := false, apart := false, narrowed := true }
def FnExactElementTypesUptoSaid : Prop := fnExactElementTypesUptoRow.holds Try.pinned (OpenSpec.upto fnExactElementTypesSpec)

end Rows
end Go.Proofs.Ytjhpkibeddnbfaa
