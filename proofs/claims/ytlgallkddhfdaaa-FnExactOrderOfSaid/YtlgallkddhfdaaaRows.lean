/-
  No cell of these rows narrows 'for every input' (looked for: loops, veiled, ifaces, maps, wideKeys, modest, calm, conditions, laid).
  DERIVED. THE GIVEN ROWS OF THIS SEAT. 11 by the template 'for every input the law returns true; each argument reads behind the call as it read before'; 0 by the template 'total and deterministic' (their statements: YtlgallkddhfdaaaTotals.lean).
  GIVEN WITH THE SEED: the statements are not yours to turn. If you find one false, say at which input.
  Laid BY PROGRAM, IN A SANDBOX (cutbox-rows.mjs): the forced cells as the released guide's own fill.sh prints them over the translation 7ba6e0dd1bdcd1f0… (all of the seat's roots in one cut). By AI agents, Wed Nov 11 2026. No macro, syntax, notation, axiom, sorry.
-/
import Derived.Test.YtlgallkddhfdaaaChecked
import GoSem.Claim
import GoSem.ClaimJoined
import GoSem.ClaimMapViews
import Derived.JoinedTies
import Derived.KernelRfl
namespace Go.Proofs.Ytlgallkddhfdaaa
/- THE CELL 'sum', in the pinned program and in every row, IS THE sha256 OF THE DUMP (.gsa) THAT YtlgallkddhfdaaaProg.lean LOADS. Nothing in Lean hashes anything: it is a label: what it is worth is what the hold of that sum in a sandbox is worth. -/
noncomputable def Try.pinned : Pinned := { name := "ytlgallkddhfdaaa", sum := "7ba6e0dd1bdcd1f01babce3823c71e6386d6f493e284c226e8209be3a777481a", checked := Try.checked }
namespace Rows
def none {H : Type} : Left H := { results := [], args := [] }

/-- 'laws.FnPermutations': WHATEVER THE INPUT: true; the input reads as it did. -/
def fnPermutationsSpec : ChangeSpec := { name := "fnPermutations", fn := fun _ => fun
  | [d] => { results := [.lit (.bool true)], args := [d] }
  | _ => none }
def fnPermutationsRow : OpenClaim := { program := "ytlgallkddhfdaaa", sum := "7ba6e0dd1bdcd1f01babce3823c71e6386d6f493e284c226e8209be3a777481a", func := "loop.example/g01200/laws.FnPermutations", spec := "fnPermutations", recurses := true, apart := false }
def FnPermutationsSaid : Prop := fnPermutationsRow.holds Try.pinned (OpenSpec.ofChange fnPermutationsSpec)

/-- ITS FALSE NEIGHBOUR: 'it returns false'. Refute it at one input. -/
def fnPermutationsWrong : ChangeSpec := { name := "fnPermutations", fn := fun _ => fun
  | [d] => { results := [.lit (.bool false)], args := [d] }
  | _ => none }
def FnPermutationsWrongFalsely : Prop := fnPermutationsRow.holds Try.pinned (OpenSpec.ofChange fnPermutationsWrong)

/-- 'laws.FnExactIsPermutation': WHATEVER THE INPUT: true; the input reads as it did. -/
def fnExactIsPermutationSpec : ChangeSpec := { name := "fnExactIsPermutation", fn := fun _ => fun
  | [d1, d2] => { results := [.lit (.bool true)], args := [d1, d2] }
  | _ => none }
def fnExactIsPermutationRow : OpenClaim := { program := "ytlgallkddhfdaaa", sum := "7ba6e0dd1bdcd1f01babce3823c71e6386d6f493e284c226e8209be3a777481a", func := "loop.example/g01200/laws.FnExactIsPermutation", spec := "fnExactIsPermutation", apart := false }
def FnExactIsPermutationSaid : Prop := fnExactIsPermutationRow.holds Try.pinned (OpenSpec.ofChange fnExactIsPermutationSpec)

/-- ITS FALSE NEIGHBOUR: 'it returns false'. Refute it at one input. -/
def fnExactIsPermutationWrong : ChangeSpec := { name := "fnExactIsPermutation", fn := fun _ => fun
  | [d1, d2] => { results := [.lit (.bool false)], args := [d1, d2] }
  | _ => none }
def FnExactIsPermutationWrongFalsely : Prop := fnExactIsPermutationRow.holds Try.pinned (OpenSpec.ofChange fnExactIsPermutationWrong)

/-- 'laws.FnExactThenPlaces': WHATEVER THE INPUT: true; the input reads as it did. -/
def fnExactThenPlacesSpec : ChangeSpec := { name := "fnExactThenPlaces", fn := fun _ => fun
  | [d1, d2, d3] => { results := [.lit (.bool true)], args := [d1, d2, d3] }
  | _ => none }
def fnExactThenPlacesRow : OpenClaim := { program := "ytlgallkddhfdaaa", sum := "7ba6e0dd1bdcd1f01babce3823c71e6386d6f493e284c226e8209be3a777481a", func := "loop.example/g01200/laws.FnExactThenPlaces", spec := "fnExactThenPlaces", apart := false }
def FnExactThenPlacesSaid : Prop := fnExactThenPlacesRow.holds Try.pinned (OpenSpec.ofChange fnExactThenPlacesSpec)

/-- ITS FALSE NEIGHBOUR: 'it returns false'. Refute it at one input. -/
def fnExactThenPlacesWrong : ChangeSpec := { name := "fnExactThenPlaces", fn := fun _ => fun
  | [d1, d2, d3] => { results := [.lit (.bool false)], args := [d1, d2, d3] }
  | _ => none }
def FnExactThenPlacesWrongFalsely : Prop := fnExactThenPlacesRow.holds Try.pinned (OpenSpec.ofChange fnExactThenPlacesWrong)

/-- 'laws.FnExactBackPlaces': WHATEVER THE INPUT: true; the input reads as it did. -/
def fnExactBackPlacesSpec : ChangeSpec := { name := "fnExactBackPlaces", fn := fun _ => fun
  | [d1, d2] => { results := [.lit (.bool true)], args := [d1, d2] }
  | _ => none }
def fnExactBackPlacesRow : OpenClaim := { program := "ytlgallkddhfdaaa", sum := "7ba6e0dd1bdcd1f01babce3823c71e6386d6f493e284c226e8209be3a777481a", func := "loop.example/g01200/laws.FnExactBackPlaces", spec := "fnExactBackPlaces", apart := false }
def FnExactBackPlacesSaid : Prop := fnExactBackPlacesRow.holds Try.pinned (OpenSpec.ofChange fnExactBackPlacesSpec)

/-- ITS FALSE NEIGHBOUR: 'it returns false'. Refute it at one input. -/
def fnExactBackPlacesWrong : ChangeSpec := { name := "fnExactBackPlaces", fn := fun _ => fun
  | [d1, d2] => { results := [.lit (.bool false)], args := [d1, d2] }
  | _ => none }
def FnExactBackPlacesWrongFalsely : Prop := fnExactBackPlacesRow.holds Try.pinned (OpenSpec.ofChange fnExactBackPlacesWrong)

/-- 'laws.FnExactCyclesOf': WHATEVER THE INPUT: true; the input reads as it did. -/
def fnExactCyclesOfSpec : ChangeSpec := { name := "fnExactCyclesOf", fn := fun _ => fun
  | [d1, d2] => { results := [.lit (.bool true)], args := [d1, d2] }
  | _ => none }
def fnExactCyclesOfRow : OpenClaim := { program := "ytlgallkddhfdaaa", sum := "7ba6e0dd1bdcd1f01babce3823c71e6386d6f493e284c226e8209be3a777481a", func := "loop.example/g01200/laws.FnExactCyclesOf", spec := "fnExactCyclesOf", apart := false }
def FnExactCyclesOfSaid : Prop := fnExactCyclesOfRow.holds Try.pinned (OpenSpec.ofChange fnExactCyclesOfSpec)

/-- ITS FALSE NEIGHBOUR: 'it returns false'. Refute it at one input. -/
def fnExactCyclesOfWrong : ChangeSpec := { name := "fnExactCyclesOf", fn := fun _ => fun
  | [d1, d2] => { results := [.lit (.bool false)], args := [d1, d2] }
  | _ => none }
def FnExactCyclesOfWrongFalsely : Prop := fnExactCyclesOfRow.holds Try.pinned (OpenSpec.ofChange fnExactCyclesOfWrong)

/-- 'laws.FnExactTypeOf': WHATEVER THE INPUT: true; the input reads as it did. -/
def fnExactTypeOfSpec : ChangeSpec := { name := "fnExactTypeOf", fn := fun _ => fun
  | [d1, d2] => { results := [.lit (.bool true)], args := [d1, d2] }
  | _ => none }
def fnExactTypeOfRow : OpenClaim := { program := "ytlgallkddhfdaaa", sum := "7ba6e0dd1bdcd1f01babce3823c71e6386d6f493e284c226e8209be3a777481a", func := "loop.example/g01200/laws.FnExactTypeOf", spec := "fnExactTypeOf", recurses := true, apart := false }
def FnExactTypeOfSaid : Prop := fnExactTypeOfRow.holds Try.pinned (OpenSpec.ofChange fnExactTypeOfSpec)

/-- ITS FALSE NEIGHBOUR: 'it returns false'. Refute it at one input. -/
def fnExactTypeOfWrong : ChangeSpec := { name := "fnExactTypeOf", fn := fun _ => fun
  | [d1, d2] => { results := [.lit (.bool false)], args := [d1, d2] }
  | _ => none }
def FnExactTypeOfWrongFalsely : Prop := fnExactTypeOfRow.holds Try.pinned (OpenSpec.ofChange fnExactTypeOfWrong)

/-- 'laws.FnExactSignOf': WHATEVER THE INPUT: true; the input reads as it did. -/
def fnExactSignOfSpec : ChangeSpec := { name := "fnExactSignOf", fn := fun _ => fun
  | [d1, d2] => { results := [.lit (.bool true)], args := [d1, d2] }
  | _ => none }
def fnExactSignOfRow : OpenClaim := { program := "ytlgallkddhfdaaa", sum := "7ba6e0dd1bdcd1f01babce3823c71e6386d6f493e284c226e8209be3a777481a", func := "loop.example/g01200/laws.FnExactSignOf", spec := "fnExactSignOf", apart := false }
def FnExactSignOfSaid : Prop := fnExactSignOfRow.holds Try.pinned (OpenSpec.ofChange fnExactSignOfSpec)

/-- ITS FALSE NEIGHBOUR: 'it returns false'. Refute it at one input. -/
def fnExactSignOfWrong : ChangeSpec := { name := "fnExactSignOf", fn := fun _ => fun
  | [d1, d2] => { results := [.lit (.bool false)], args := [d1, d2] }
  | _ => none }
def FnExactSignOfWrongFalsely : Prop := fnExactSignOfRow.holds Try.pinned (OpenSpec.ofChange fnExactSignOfWrong)

/-- 'laws.FnExactOrderOf': WHATEVER THE INPUT: true; the input reads as it did. -/
def fnExactOrderOfSpec : ChangeSpec := { name := "fnExactOrderOf", fn := fun _ => fun
  | [d1, d2] => { results := [.lit (.bool true)], args := [d1, d2] }
  | _ => none }
def fnExactOrderOfRow : OpenClaim := { program := "ytlgallkddhfdaaa", sum := "7ba6e0dd1bdcd1f01babce3823c71e6386d6f493e284c226e8209be3a777481a", func := "loop.example/g01200/laws.FnExactOrderOf", spec := "fnExactOrderOf", apart := false }
def FnExactOrderOfSaid : Prop := fnExactOrderOfRow.holds Try.pinned (OpenSpec.ofChange fnExactOrderOfSpec)

/-- ITS FALSE NEIGHBOUR: 'it returns false'. Refute it at one input. -/
def fnExactOrderOfWrong : ChangeSpec := { name := "fnExactOrderOf", fn := fun _ => fun
  | [d1, d2] => { results := [.lit (.bool false)], args := [d1, d2] }
  | _ => none }
def FnExactOrderOfWrongFalsely : Prop := fnExactOrderOfRow.holds Try.pinned (OpenSpec.ofChange fnExactOrderOfWrong)

/-- 'laws.FnExactPlacesOfCycles': WHATEVER THE INPUT: true; the input reads as it did. -/
def fnExactPlacesOfCyclesSpec : ChangeSpec := { name := "fnExactPlacesOfCycles", fn := fun _ => fun
  | [d1, d2] => { results := [.lit (.bool true)], args := [d1, d2] }
  | _ => none }
def fnExactPlacesOfCyclesRow : OpenClaim := { program := "ytlgallkddhfdaaa", sum := "7ba6e0dd1bdcd1f01babce3823c71e6386d6f493e284c226e8209be3a777481a", func := "loop.example/g01200/laws.FnExactPlacesOfCycles", spec := "fnExactPlacesOfCycles", apart := false }
def FnExactPlacesOfCyclesSaid : Prop := fnExactPlacesOfCyclesRow.holds Try.pinned (OpenSpec.ofChange fnExactPlacesOfCyclesSpec)

/-- ITS FALSE NEIGHBOUR: 'it returns false'. Refute it at one input. -/
def fnExactPlacesOfCyclesWrong : ChangeSpec := { name := "fnExactPlacesOfCycles", fn := fun _ => fun
  | [d1, d2] => { results := [.lit (.bool false)], args := [d1, d2] }
  | _ => none }
def FnExactPlacesOfCyclesWrongFalsely : Prop := fnExactPlacesOfCyclesRow.holds Try.pinned (OpenSpec.ofChange fnExactPlacesOfCyclesWrong)

/-- 'laws.FnExactIsDessin': WHATEVER THE INPUT: true; the input reads as it did. -/
def fnExactIsDessinSpec : ChangeSpec := { name := "fnExactIsDessin", fn := fun _ => fun
  | [d] => { results := [.lit (.bool true)], args := [d] }
  | _ => none }
def fnExactIsDessinRow : OpenClaim := { program := "ytlgallkddhfdaaa", sum := "7ba6e0dd1bdcd1f01babce3823c71e6386d6f493e284c226e8209be3a777481a", func := "loop.example/g01200/laws.FnExactIsDessin", spec := "fnExactIsDessin", apart := false }
def FnExactIsDessinSaid : Prop := fnExactIsDessinRow.holds Try.pinned (OpenSpec.ofChange fnExactIsDessinSpec)

/-- ITS FALSE NEIGHBOUR: 'it returns false'. Refute it at one input. -/
def fnExactIsDessinWrong : ChangeSpec := { name := "fnExactIsDessin", fn := fun _ => fun
  | [d] => { results := [.lit (.bool false)], args := [d] }
  | _ => none }
def FnExactIsDessinWrongFalsely : Prop := fnExactIsDessinRow.holds Try.pinned (OpenSpec.ofChange fnExactIsDessinWrong)

/-- 'laws.FnExactFaceOf': WHATEVER THE INPUT: true; the input reads as it did. -/
def fnExactFaceOfSpec : ChangeSpec := { name := "fnExactFaceOf", fn := fun _ => fun
  | [d] => { results := [.lit (.bool true)], args := [d] }
  | _ => none }
def fnExactFaceOfRow : OpenClaim := { program := "ytlgallkddhfdaaa", sum := "7ba6e0dd1bdcd1f01babce3823c71e6386d6f493e284c226e8209be3a777481a", func := "loop.example/g01200/laws.FnExactFaceOf", spec := "fnExactFaceOf", apart := false }
def FnExactFaceOfSaid : Prop := fnExactFaceOfRow.holds Try.pinned (OpenSpec.ofChange fnExactFaceOfSpec)

/-- ITS FALSE NEIGHBOUR: 'it returns false'. Refute it at one input. -/
def fnExactFaceOfWrong : ChangeSpec := { name := "fnExactFaceOf", fn := fun _ => fun
  | [d] => { results := [.lit (.bool false)], args := [d] }
  | _ => none }
def FnExactFaceOfWrongFalsely : Prop := fnExactFaceOfRow.holds Try.pinned (OpenSpec.ofChange fnExactFaceOfWrong)

/- THE SECOND FORM. 'bulk': how many values and letters a reading holds, each counted each time it is reached (what is shared counts as often as it is met; a slice's spare places count too). A statement '..UptoSaid' is the law's where the arguments, and the package variables that the reading takes, are together of bulk at most 1048576: NARROWER than '..Said'. Prove '..Said' where nothing that the law and all that it calls make is longer than what came in: it says more and counts as full. Else prove '..UptoSaid'. A law counts once. -/
mutual
def uptoBulk {H : Type} : DataW H → Nat
  | .lit (.string bytes) => bytes.length + 1
  | .lit _ => 1
  | .nil => 1
  | .ptr d => uptoBulk d + 1
  | .slice elems spare => uptoBulkAll elems + uptoBulkAll spare + 1
  | .agg parts => uptoBulkAll parts + 1
  | .iface _ d => uptoBulk d + 1
  | .map entries => uptoBulkEntries entries + 1
  | .held _ => 1
def uptoBulkAll {H : Type} : List (DataW H) → Nat
  | [] => 0
  | d :: r => uptoBulk d + uptoBulkAll r
def uptoBulkEntries {H : Type} : List (Lit × DataW H) → Nat
  | [] => 0
  | x :: r => uptoBulkEntry x + uptoBulkEntries r
def uptoBulkEntry {H : Type} : Lit × DataW H → Nat
  | (.string bytes, d) => bytes.length + uptoBulk d + 1
  | (_, d) => uptoBulk d + 1
 end
def uptoSmall : (H : Type) → List (DataW H) → Bool := fun _ ds => decide (uptoBulkAll ds ≤ 1048576)
def OpenSpec.upto (s : _root_.Go.ChangeSpec) : _root_.Go.OpenSpec := { _root_.Go.OpenSpec.ofChange s with cond := some uptoSmall }

/-- 'laws.FnPermutations', WHERE WHAT IT READS IS OF BULK AT MOST 1048576: true; the input reads as it did. -/
def fnPermutationsUptoRow : OpenClaim := { program := "ytlgallkddhfdaaa", sum := "7ba6e0dd1bdcd1f01babce3823c71e6386d6f493e284c226e8209be3a777481a", func := "loop.example/g01200/laws.FnPermutations", spec := "fnPermutations", recurses := true, apart := false, narrowed := true }
def FnPermutationsUptoSaid : Prop := fnPermutationsUptoRow.holds Try.pinned (OpenSpec.upto fnPermutationsSpec)

/-- 'laws.FnExactIsPermutation', WHERE WHAT IT READS IS OF BULK AT MOST 1048576: true; the input reads as it did. -/
def fnExactIsPermutationUptoRow : OpenClaim := { program := "ytlgallkddhfdaaa", sum := "7ba6e0dd1bdcd1f01babce3823c71e6386d6f493e284c226e8209be3a777481a", func := "loop.example/g01200/laws.FnExactIsPermutation", spec := "fnExactIsPermutation", apart := false, narrowed := true }
def FnExactIsPermutationUptoSaid : Prop := fnExactIsPermutationUptoRow.holds Try.pinned (OpenSpec.upto fnExactIsPermutationSpec)

/-- 'laws.FnExactThenPlaces', WHERE WHAT IT READS IS OF BULK AT MOST 1048576: true; the input reads as it did. -/
def fnExactThenPlacesUptoRow : OpenClaim := { program := "ytlgallkddhfdaaa", sum := "7ba6e0dd1bdcd1f01babce3823c71e6386d6f493e284c226e8209be3a777481a", func := "loop.example/g01200/laws.FnExactThenPlaces", spec := "fnExactThenPlaces", apart := false, narrowed := true }
def FnExactThenPlacesUptoSaid : Prop := fnExactThenPlacesUptoRow.holds Try.pinned (OpenSpec.upto fnExactThenPlacesSpec)

/-- 'laws.FnExactBackPlaces', WHERE WHAT IT READS IS OF BULK AT MOST 1048576: true; the input reads as it did. -/
def fnExactBackPlacesUptoRow : OpenClaim := { program := "ytlgallkddhfdaaa", sum := "7ba6e0dd1bdcd1f01babce3823c71e6386d6f493e284c226e8209be3a777481a", func := "loop.example/g01200/laws.FnExactBackPlaces", spec := "fnExactBackPlaces", apart := false, narrowed := true }
def FnExactBackPlacesUptoSaid : Prop := fnExactBackPlacesUptoRow.holds Try.pinned (OpenSpec.upto fnExactBackPlacesSpec)

/-- 'laws.FnExactCyclesOf', WHERE WHAT IT READS IS OF BULK AT MOST 1048576: true; the input reads as it did. -/
def fnExactCyclesOfUptoRow : OpenClaim := { program := "ytlgallkddhfdaaa", sum := "7ba6e0dd1bdcd1f01babce3823c71e6386d6f493e284c226e8209be3a777481a", func := "loop.example/g01200/laws.FnExactCyclesOf", spec := "fnExactCyclesOf", apart := false, narrowed := true }
def FnExactCyclesOfUptoSaid : Prop := fnExactCyclesOfUptoRow.holds Try.pinned (OpenSpec.upto fnExactCyclesOfSpec)

/-- 'laws.FnExactTypeOf', WHERE WHAT IT READS IS OF BULK AT MOST 1048576: true; the input reads as it did. -/
def fnExactTypeOfUptoRow : OpenClaim := { program := "ytlgallkddhfdaaa", sum := "7ba6e0dd1bdcd1f01babce3823c71e6386d6f493e284c226e8209be3a777481a", func := "loop.example/g01200/laws.FnExactTypeOf", spec := "fnExactTypeOf", recurses := true, apart := false, narrowed := true }
def FnExactTypeOfUptoSaid : Prop := fnExactTypeOfUptoRow.holds Try.pinned (OpenSpec.upto fnExactTypeOfSpec)

/-- 'laws.FnExactSignOf', WHERE WHAT IT READS IS OF BULK AT MOST 1048576: true; the input reads as it did. -/
def fnExactSignOfUptoRow : OpenClaim := { program := "ytlgallkddhfdaaa", sum := "7ba6e0dd1bdcd1f01babce3823c71e6386d6f493e284c226e8209be3a777481a", func := "loop.example/g01200/laws.FnExactSignOf", spec := "fnExactSignOf", apart := false, narrowed := true }
def FnExactSignOfUptoSaid : Prop := fnExactSignOfUptoRow.holds Try.pinned (OpenSpec.upto fnExactSignOfSpec)

/-- 'laws.FnExactOrderOf', WHERE WHAT IT READS IS OF BULK AT MOST 1048576: true; the input reads as it did. -/
def fnExactOrderOfUptoRow : OpenClaim := { program := "ytlgallkddhfdaaa", sum := "7ba6e0dd1bdcd1f01babce3823c71e6386d6f493e284c226e8209be3a777481a", func := "loop.example/g01200/laws.FnExactOrderOf", spec := "fnExactOrderOf", apart := false, narrowed := true }
def FnExactOrderOfUptoSaid : Prop := fnExactOrderOfUptoRow.holds Try.pinned (OpenSpec.upto fnExactOrderOfSpec)

/-- 'laws.FnExactPlacesOfCycles', WHERE WHAT IT READS IS OF BULK AT MOST 1048576: true; the input reads as it did. -/
def fnExactPlacesOfCyclesUptoRow : OpenClaim := { program := "ytlgallkddhfdaaa", sum := "7ba6e0dd1bdcd1f01babce3823c71e6386d6f493e284c226e8209be3a777481a", func := "loop.example/g01200/laws.FnExactPlacesOfCycles", spec := "fnExactPlacesOfCycles", apart := false, narrowed := true }
def FnExactPlacesOfCyclesUptoSaid : Prop := fnExactPlacesOfCyclesUptoRow.holds Try.pinned (OpenSpec.upto fnExactPlacesOfCyclesSpec)

/-- 'laws.FnExactIsDessin', WHERE WHAT IT READS IS OF BULK AT MOST 1048576: true; the input reads as it did. -/
def fnExactIsDessinUptoRow : OpenClaim := { program := "ytlgallkddhfdaaa", sum := "7ba6e0dd1bdcd1f01babce3823c71e6386d6f493e284c226e8209be3a777481a", func := "loop.example/g01200/laws.FnExactIsDessin", spec := "fnExactIsDessin", apart := false, narrowed := true }
def FnExactIsDessinUptoSaid : Prop := fnExactIsDessinUptoRow.holds Try.pinned (OpenSpec.upto fnExactIsDessinSpec)

/-- 'laws.FnExactFaceOf', WHERE WHAT IT READS IS OF BULK AT MOST 1048576: true; the input reads as it did. -/
def fnExactFaceOfUptoRow : OpenClaim := { program := "ytlgallkddhfdaaa", sum := "7ba6e0dd1bdcd1f01babce3823c71e6386d6f493e284c226e8209be3a777481a", func := "loop.example/g01200/laws.FnExactFaceOf", spec := "fnExactFaceOf", apart := false, narrowed := true }
def FnExactFaceOfUptoSaid : Prop := fnExactFaceOfUptoRow.holds Try.pinned (OpenSpec.upto fnExactFaceOfSpec)

end Rows
end Go.Proofs.Ytlgallkddhfdaaa
