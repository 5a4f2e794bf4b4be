/-
  No cell of these rows narrows 'for every input' (looked for: loops, veiled, ifaces, maps, wideKeys, modest, calm, conditions, laid).
  DERIVED. THE GIVEN ROWS OF THIS SEAT. 9 by the template 'for every input the law returns true; each argument reads behind the call as it read before'; 0 by the template 'total and deterministic' (their statements: YteadlpbplcpmaaaTotals.lean).
  GIVEN WITH THE SEED: the statements are not yours to turn. If you find one false, say at which input.
  Laid BY PROGRAM, IN A SANDBOX (cutbox-rows.mjs): the forced cells as the released guide's own fill.sh prints them over the translation 4904939868279988… (all of the seat's roots in one cut). By AI agents, Wed Nov 11 2026. No macro, syntax, notation, axiom, sorry.
-/
import Derived.Test.YteadlpbplcpmaaaChecked
import GoSem.Claim
import GoSem.ClaimJoined
import GoSem.ClaimMapViews
import Derived.JoinedTies
import Derived.KernelRfl
namespace Go.Proofs.Yteadlpbplcpmaaa
/- THE CELL 'sum', in the pinned program and in every row, IS THE sha256 OF THE DUMP (.gsa) THAT YteadlpbplcpmaaaProg.lean LOADS. Nothing in Lean hashes anything: it is a label: what it is worth is what the hold of that sum in a sandbox is worth. -/
noncomputable def Try.pinned : Pinned := { name := "yteadlpbplcpmaaa", sum := "4904939868279988e91c493a4baf3833b720ed9a215b9268c1b7de0e451fd791", checked := Try.checked }
namespace Rows
def none {H : Type} : Left H := { results := [], args := [] }

/-- 'laws.FnPermutations': WHATEVER THE INPUT: true; the input reads as it did. -/
def fnPermutationsSpec : ChangeSpec := { name := "fnPermutations", fn := fun _ => fun
  | [d] => { results := [.lit (.bool true)], args := [d] }
  | _ => none }
def fnPermutationsRow : OpenClaim := { program := "yteadlpbplcpmaaa", sum := "4904939868279988e91c493a4baf3833b720ed9a215b9268c1b7de0e451fd791", func := "loop.example/g01200/laws.FnPermutations", spec := "fnPermutations", recurses := true, plainKeys := false, apart := false }
def FnPermutationsSaid : Prop := fnPermutationsRow.holds Try.pinned (OpenSpec.ofChange fnPermutationsSpec)

/-- ITS FALSE NEIGHBOUR: 'it returns false'. Refute it at one input. -/
def fnPermutationsWrong : ChangeSpec := { name := "fnPermutations", fn := fun _ => fun
  | [d] => { results := [.lit (.bool false)], args := [d] }
  | _ => none }
def FnPermutationsWrongFalsely : Prop := fnPermutationsRow.holds Try.pinned (OpenSpec.ofChange fnPermutationsWrong)

/-- 'laws.FnExactPlacesOfCycles': WHATEVER THE INPUT: true; the input reads as it did. -/
def fnExactPlacesOfCyclesSpec : ChangeSpec := { name := "fnExactPlacesOfCycles", fn := fun _ => fun
  | [d1, d2] => { results := [.lit (.bool true)], args := [d1, d2] }
  | _ => none }
def fnExactPlacesOfCyclesRow : OpenClaim := { program := "yteadlpbplcpmaaa", sum := "4904939868279988e91c493a4baf3833b720ed9a215b9268c1b7de0e451fd791", func := "loop.example/g01200/laws.FnExactPlacesOfCycles", spec := "fnExactPlacesOfCycles", plainKeys := false, apart := false }
def FnExactPlacesOfCyclesSaid : Prop := fnExactPlacesOfCyclesRow.holds Try.pinned (OpenSpec.ofChange fnExactPlacesOfCyclesSpec)

/-- ITS FALSE NEIGHBOUR: 'it returns false'. Refute it at one input. -/
def fnExactPlacesOfCyclesWrong : ChangeSpec := { name := "fnExactPlacesOfCycles", fn := fun _ => fun
  | [d1, d2] => { results := [.lit (.bool false)], args := [d1, d2] }
  | _ => none }
def FnExactPlacesOfCyclesWrongFalsely : Prop := fnExactPlacesOfCyclesRow.holds Try.pinned (OpenSpec.ofChange fnExactPlacesOfCyclesWrong)

/-- 'laws.FnMorphisms': WHATEVER THE INPUT: true; the input reads as it did. -/
def fnMorphismsSpec : ChangeSpec := { name := "fnMorphisms", fn := fun _ => fun
  | [d] => { results := [.lit (.bool true)], args := [d] }
  | _ => none }
def fnMorphismsRow : OpenClaim := { program := "yteadlpbplcpmaaa", sum := "4904939868279988e91c493a4baf3833b720ed9a215b9268c1b7de0e451fd791", func := "loop.example/g01200/laws.FnMorphisms", spec := "fnMorphisms", recurses := true, plainKeys := false, apart := false }
def FnMorphismsSaid : Prop := fnMorphismsRow.holds Try.pinned (OpenSpec.ofChange fnMorphismsSpec)

/-- ITS FALSE NEIGHBOUR: 'it returns false'. Refute it at one input. -/
def fnMorphismsWrong : ChangeSpec := { name := "fnMorphisms", fn := fun _ => fun
  | [d] => { results := [.lit (.bool false)], args := [d] }
  | _ => none }
def FnMorphismsWrongFalsely : Prop := fnMorphismsRow.holds Try.pinned (OpenSpec.ofChange fnMorphismsWrong)

/-- 'laws.FnExactIsomorphismsOf': WHATEVER THE INPUT: true; the input reads as it did. -/
def fnExactIsomorphismsOfSpec : ChangeSpec := { name := "fnExactIsomorphismsOf", fn := fun _ => fun
  | [d1, d2] => { results := [.lit (.bool true)], args := [d1, d2] }
  | _ => none }
def fnExactIsomorphismsOfRow : OpenClaim := { program := "yteadlpbplcpmaaa", sum := "4904939868279988e91c493a4baf3833b720ed9a215b9268c1b7de0e451fd791", func := "loop.example/g01200/laws.FnExactIsomorphismsOf", spec := "fnExactIsomorphismsOf", plainKeys := false, apart := false }
def FnExactIsomorphismsOfSaid : Prop := fnExactIsomorphismsOfRow.holds Try.pinned (OpenSpec.ofChange fnExactIsomorphismsOfSpec)

/-- ITS FALSE NEIGHBOUR: 'it returns false'. Refute it at one input. -/
def fnExactIsomorphismsOfWrong : ChangeSpec := { name := "fnExactIsomorphismsOf", fn := fun _ => fun
  | [d1, d2] => { results := [.lit (.bool false)], args := [d1, d2] }
  | _ => none }
def FnExactIsomorphismsOfWrongFalsely : Prop := fnExactIsomorphismsOfRow.holds Try.pinned (OpenSpec.ofChange fnExactIsomorphismsOfWrong)

/-- 'laws.FnExactAutomorphismsOf': WHATEVER THE INPUT: true; the input reads as it did. -/
def fnExactAutomorphismsOfSpec : ChangeSpec := { name := "fnExactAutomorphismsOf", fn := fun _ => fun
  | [d] => { results := [.lit (.bool true)], args := [d] }
  | _ => none }
def fnExactAutomorphismsOfRow : OpenClaim := { program := "yteadlpbplcpmaaa", sum := "4904939868279988e91c493a4baf3833b720ed9a215b9268c1b7de0e451fd791", func := "loop.example/g01200/laws.FnExactAutomorphismsOf", spec := "fnExactAutomorphismsOf", plainKeys := false, apart := false }
def FnExactAutomorphismsOfSaid : Prop := fnExactAutomorphismsOfRow.holds Try.pinned (OpenSpec.ofChange fnExactAutomorphismsOfSpec)

/-- ITS FALSE NEIGHBOUR: 'it returns false'. Refute it at one input. -/
def fnExactAutomorphismsOfWrong : ChangeSpec := { name := "fnExactAutomorphismsOf", fn := fun _ => fun
  | [d] => { results := [.lit (.bool false)], args := [d] }
  | _ => none }
def FnExactAutomorphismsOfWrongFalsely : Prop := fnExactAutomorphismsOfRow.holds Try.pinned (OpenSpec.ofChange fnExactAutomorphismsOfWrong)

/-- 'laws.FnExactIsRegularDessin': WHATEVER THE INPUT: true; the input reads as it did. -/
def fnExactIsRegularDessinSpec : ChangeSpec := { name := "fnExactIsRegularDessin", fn := fun _ => fun
  | [d] => { results := [.lit (.bool true)], args := [d] }
  | _ => none }
def fnExactIsRegularDessinRow : OpenClaim := { program := "yteadlpbplcpmaaa", sum := "4904939868279988e91c493a4baf3833b720ed9a215b9268c1b7de0e451fd791", func := "loop.example/g01200/laws.FnExactIsRegularDessin", spec := "fnExactIsRegularDessin", plainKeys := false, apart := false }
def FnExactIsRegularDessinSaid : Prop := fnExactIsRegularDessinRow.holds Try.pinned (OpenSpec.ofChange fnExactIsRegularDessinSpec)

/-- ITS FALSE NEIGHBOUR: 'it returns false'. Refute it at one input. -/
def fnExactIsRegularDessinWrong : ChangeSpec := { name := "fnExactIsRegularDessin", fn := fun _ => fun
  | [d] => { results := [.lit (.bool false)], args := [d] }
  | _ => none }
def FnExactIsRegularDessinWrongFalsely : Prop := fnExactIsRegularDessinRow.holds Try.pinned (OpenSpec.ofChange fnExactIsRegularDessinWrong)

/-- 'laws.FnExactMorphismsOf': WHATEVER THE INPUT: true; the input reads as it did. -/
def fnExactMorphismsOfSpec : ChangeSpec := { name := "fnExactMorphismsOf", fn := fun _ => fun
  | [d1, d2] => { results := [.lit (.bool true)], args := [d1, d2] }
  | _ => none }
def fnExactMorphismsOfRow : OpenClaim := { program := "yteadlpbplcpmaaa", sum := "4904939868279988e91c493a4baf3833b720ed9a215b9268c1b7de0e451fd791", func := "loop.example/g01200/laws.FnExactMorphismsOf", spec := "fnExactMorphismsOf", plainKeys := false, apart := false }
def FnExactMorphismsOfSaid : Prop := fnExactMorphismsOfRow.holds Try.pinned (OpenSpec.ofChange fnExactMorphismsOfSpec)

/-- ITS FALSE NEIGHBOUR: 'it returns false'. Refute it at one input. -/
def fnExactMorphismsOfWrong : ChangeSpec := { name := "fnExactMorphismsOf", fn := fun _ => fun
  | [d1, d2] => { results := [.lit (.bool false)], args := [d1, d2] }
  | _ => none }
def FnExactMorphismsOfWrongFalsely : Prop := fnExactMorphismsOfRow.holds Try.pinned (OpenSpec.ofChange fnExactMorphismsOfWrong)

/-- 'laws.FnExactQuotientBy': WHATEVER THE INPUT: true; the input reads as it did. -/
def fnExactQuotientBySpec : ChangeSpec := { name := "fnExactQuotientBy", fn := fun _ => fun
  | [d1, d2] => { results := [.lit (.bool true)], args := [d1, d2] }
  | _ => none }
def fnExactQuotientByRow : OpenClaim := { program := "yteadlpbplcpmaaa", sum := "4904939868279988e91c493a4baf3833b720ed9a215b9268c1b7de0e451fd791", func := "loop.example/g01200/laws.FnExactQuotientBy", spec := "fnExactQuotientBy", plainKeys := false, apart := false }
def FnExactQuotientBySaid : Prop := fnExactQuotientByRow.holds Try.pinned (OpenSpec.ofChange fnExactQuotientBySpec)

/-- ITS FALSE NEIGHBOUR: 'it returns false'. Refute it at one input. -/
def fnExactQuotientByWrong : ChangeSpec := { name := "fnExactQuotientBy", fn := fun _ => fun
  | [d1, d2] => { results := [.lit (.bool false)], args := [d1, d2] }
  | _ => none }
def FnExactQuotientByWrongFalsely : Prop := fnExactQuotientByRow.holds Try.pinned (OpenSpec.ofChange fnExactQuotientByWrong)

/-- 'laws.FnExactProductAt': WHATEVER THE INPUT: true; the input reads as it did. -/
def fnExactProductAtSpec : ChangeSpec := { name := "fnExactProductAt", fn := fun _ => fun
  | [d1, d2, d3, d4] => { results := [.lit (.bool true)], args := [d1, d2, d3, d4] }
  | _ => none }
def fnExactProductAtRow : OpenClaim := { program := "yteadlpbplcpmaaa", sum := "4904939868279988e91c493a4baf3833b720ed9a215b9268c1b7de0e451fd791", func := "loop.example/g01200/laws.FnExactProductAt", spec := "fnExactProductAt", plainKeys := false, apart := false }
def FnExactProductAtSaid : Prop := fnExactProductAtRow.holds Try.pinned (OpenSpec.ofChange fnExactProductAtSpec)

/-- ITS FALSE NEIGHBOUR: 'it returns false'. Refute it at one input. -/
def fnExactProductAtWrong : ChangeSpec := { name := "fnExactProductAt", fn := fun _ => fun
  | [d1, d2, d3, d4] => { results := [.lit (.bool false)], args := [d1, d2, d3, d4] }
  | _ => none }
def FnExactProductAtWrongFalsely : Prop := fnExactProductAtRow.holds Try.pinned (OpenSpec.ofChange fnExactProductAtWrong)

/- THE SECOND FORM. 'bulk': how many values and letters a reading holds, each counted each time it is reached (what is shared counts as often as it is met; a slice's spare places count too). A statement '..UptoSaid' is the law's where the arguments, and the package variables that the reading takes, are together of bulk at most 1048576: NARROWER than '..Said'. Prove '..Said' where nothing that the law and all that it calls make is longer than what came in: it says more and counts as full. Else prove '..UptoSaid'. A law counts once. -/
mutual
def uptoBulk {H : Type} : DataW H → Nat
  | .lit (.string bytes) => bytes.length + 1
  | .lit _ => 1
  | .nil => 1
  | .ptr d => uptoBulk d + 1
  | .slice elems spare => uptoBulkAll elems + uptoBulkAll spare + 1
  | .agg parts => uptoBulkAll parts + 1
  | .iface _ d => uptoBulk d + 1
  | .map entries => uptoBulkEntries entries + 1
  | .held _ => 1
def uptoBulkAll {H : Type} : List (DataW H) → Nat
  | [] => 0
  | d :: r => uptoBulk d + uptoBulkAll r
def uptoBulkEntries {H : Type} : List (Lit × DataW H) → Nat
  | [] => 0
  | x :: r => uptoBulkEntry x + uptoBulkEntries r
def uptoBulkEntry {H : Type} : Lit × DataW H → Nat
  | (.string bytes, d) => bytes.length + uptoBulk d + 1
  | (_, d) => uptoBulk d + 1
 end
def uptoSmall : (H : Type) → List (DataW H) → Bool := fun _ ds => decide (uptoBulkAll ds ≤ 1048576)
def OpenSpec.upto (s : _root_.Go.ChangeSpec) : _root_.Go.OpenSpec := { _root_.Go.OpenSpec.ofChange s with cond := some uptoSmall }

/-- 'laws.FnPermutations', WHERE WHAT IT READS IS OF BULK AT MOST 1048576: true; the input reads as it did. -/
def fnPermutationsUptoRow : OpenClaim := { program := "yteadlpbplcpmaaa", sum := "4904939868279988e91c493a4baf3833b720ed9a215b9268c1b7de0e451fd791", func := "loop.example/g01200/laws.FnPermutations", spec := "fnPermutations", recurses := true, plainKeys := false, apart := false, narrowed := true }
def FnPermutationsUptoSaid : Prop := fnPermutationsUptoRow.holds Try.pinned (OpenSpec.upto fnPermutationsSpec)

/-- 'laws.FnExactPlacesOfCycles', WHERE WHAT IT READS IS OF BULK AT MOST 1048576: true; the input reads as it did. -/
def fnExactPlacesOfCyclesUptoRow : OpenClaim := { program := "yteadlpbplcpmaaa", sum := "4904939868279988e91c493a4baf3833b720ed9a215b9268c1b7de0e451fd791", func := "loop.example/g01200/laws.FnExactPlacesOfCycles", spec := "fnExactPlacesOfCycles", plainKeys := false, apart := false, narrowed := true }
def FnExactPlacesOfCyclesUptoSaid : Prop := fnExactPlacesOfCyclesUptoRow.holds Try.pinned (OpenSpec.upto fnExactPlacesOfCyclesSpec)

/-- 'laws.FnMorphisms', WHERE WHAT IT READS IS OF BULK AT MOST 1048576: true; the input reads as it did. -/
def fnMorphismsUptoRow : OpenClaim := { program := "yteadlpbplcpmaaa", sum := "4904939868279988e91c493a4baf3833b720ed9a215b9268c1b7de0e451fd791", func := "loop.example/g01200/laws.FnMorphisms", spec := "fnMorphisms", recurses := true, plainKeys := false, apart := false, narrowed := true }
def FnMorphismsUptoSaid : Prop := fnMorphismsUptoRow.holds Try.pinned (OpenSpec.upto fnMorphismsSpec)

/-- 'laws.FnExactIsomorphismsOf', WHERE WHAT IT READS IS OF BULK AT MOST 1048576: true; the input reads as it did. -/
def fnExactIsomorphismsOfUptoRow : OpenClaim := { program := "yteadlpbplcpmaaa", sum := "4904939868279988e91c493a4baf3833b720ed9a215b9268c1b7de0e451fd791", func := "loop.example/g01200/laws.FnExactIsomorphismsOf", spec := "fnExactIsomorphismsOf", plainKeys := false, apart := false, narrowed := true }
def FnExactIsomorphismsOfUptoSaid : Prop := fnExactIsomorphismsOfUptoRow.holds Try.pinned (OpenSpec.upto fnExactIsomorphismsOfSpec)

/-- 'laws.FnExactAutomorphismsOf', WHERE WHAT IT READS IS OF BULK AT MOST 1048576: true; the input reads as it did. -/
def fnExactAutomorphismsOfUptoRow : OpenClaim := { program := "yteadlpbplcpmaaa", sum := "4904939868279988e91c493a4baf3833b720ed9a215b9268c1b7de0e451fd791", func := "loop.example/g01200/laws.FnExactAutomorphismsOf", spec := "fnExactAutomorphismsOf", plainKeys := false, apart := false, narrowed := true }
def FnExactAutomorphismsOfUptoSaid : Prop := fnExactAutomorphismsOfUptoRow.holds Try.pinned (OpenSpec.upto fnExactAutomorphismsOfSpec)

/-- 'laws.FnExactIsRegularDessin', WHERE WHAT IT READS IS OF BULK AT MOST 1048576: true; the input reads as it did. -/
def fnExactIsRegularDessinUptoRow : OpenClaim := { program := "yteadlpbplcpmaaa", sum := "4904939868279988e91c493a4baf3833b720ed9a215b9268c1b7de0e451fd791", func := "loop.example/g01200/laws.FnExactIsRegularDessin", spec := "fnExactIsRegularDessin", plainKeys := false, apart := false, narrowed := true }
def FnExactIsRegularDessinUptoSaid : Prop := fnExactIsRegularDessinUptoRow.holds Try.pinned (OpenSpec.upto fnExactIsRegularDessinSpec)

/-- 'laws.FnExactMorphismsOf', WHERE WHAT IT READS IS OF BULK AT MOST 1048576: true; the input reads as it did. -/
def fnExactMorphismsOfUptoRow : OpenClaim := { program := "yteadlpbplcpmaaa", sum := "4904939868279988e91c493a4baf3833b720ed9a215b9268c1b7de0e451fd791", func := "loop.example/g01200/laws.FnExactMorphismsOf", spec := "fnExactMorphismsOf", plainKeys := false, apart := false, narrowed := true }
def FnExactMorphismsOfUptoSaid : Prop := fnExactMorphismsOfUptoRow.holds Try.pinned (OpenSpec.upto fnExactMorphismsOfSpec)

/-- 'laws.FnExactQuotientBy', WHERE WHAT IT READS IS OF BULK AT MOST 1048576: true; the input reads as it did. -/
def fnExactQuotientByUptoRow : OpenClaim := { program := "yteadlpbplcpmaaa", sum := "4904939868279988e91c493a4baf3833b720ed9a215b9268c1b7de0e451fd791", func := "loop.example/g01200/laws.FnExactQuotientBy", spec := "fnExactQuotientBy", plainKeys := false, apart := false, narrowed := true }
def FnExactQuotientByUptoSaid : Prop := fnExactQuotientByUptoRow.holds Try.pinned (OpenSpec.upto fnExactQuotientBySpec)

/-- 'laws.FnExactProductAt', WHERE WHAT IT READS IS OF BULK AT MOST 1048576: true; the input reads as it did. -/
def fnExactProductAtUptoRow : OpenClaim := { program := "yteadlpbplcpmaaa", sum := "4904939868279988e91c493a4baf3833b720ed9a215b9268c1b7de0e451fd791", func := "loop.example/g01200/laws.FnExactProductAt", spec := "fnExactProductAt", plainKeys := false, apart := false, narrowed := true }
def FnExactProductAtUptoSaid : Prop := fnExactProductAtUptoRow.holds Try.pinned (OpenSpec.upto fnExactProductAtSpec)

end Rows
end Go.Proofs.Yteadlpbplcpmaaa
