/-
  No cell of these rows narrows 'for every input' (looked for: loops, veiled, ifaces, maps, wideKeys, modest, calm, conditions, laid).
  DERIVED. THE GIVEN ROWS OF THIS SEAT. 12 by the template 'for every input the law returns true; each argument reads behind the call as it read before'; 0 by the template 'total and deterministic' (their statements: YtghdbnbejkneiaaTotals.lean).
  GIVEN WITH THE SEED: the statements are not yours to turn. If you find one false, say at which input.
  Laid BY PROGRAM, IN A SANDBOX (cutbox-rows.mjs): the forced cells as the released guide's own fill.sh prints them over the translation 7fbeab1d47234103… (all of the seat's roots in one cut). By AI agents, Wed Nov 11 2026. No macro, syntax, notation, axiom, sorry.
-/
import Derived.Test.YtghdbnbejkneiaaChecked
import GoSem.Claim
import GoSem.ClaimJoined
import GoSem.ClaimMapViews
import Derived.JoinedTies
import Derived.KernelRfl
namespace Go.Proofs.Ytghdbnbejkneiaa
/- THE CELL 'sum', in the pinned program and in every row, IS THE sha256 OF THE DUMP (.gsa) THAT YtghdbnbejkneiaaProg.lean LOADS. Nothing in Lean hashes anything: it is a label: what it is worth is what the hold of that sum in a sandbox is worth. -/
noncomputable def Try.pinned : Pinned := { name := "ytghdbnbejkneiaa", sum := "7fbeab1d47234103356156a161379bc34f2a4cf7226c8bb7b0de6af40c09fdcd", checked := Try.checked }
namespace Rows
def none {H : Type} : Left H := { results := [], args := [] }

/-- 'laws.FnExactThenPlaces': WHATEVER THE INPUT: true; the input reads as it did. -/
def fnExactThenPlacesSpec : ChangeSpec := { name := "fnExactThenPlaces", fn := fun _ => fun
  | [d1, d2, d3] => { results := [.lit (.bool true)], args := [d1, d2, d3] }
  | _ => none }
def fnExactThenPlacesRow : OpenClaim := { program := "ytghdbnbejkneiaa", sum := "7fbeab1d47234103356156a161379bc34f2a4cf7226c8bb7b0de6af40c09fdcd", func := "loop.example/g01200/laws.FnExactThenPlaces", spec := "fnExactThenPlaces", plainKeys := false, apart := false }
def FnExactThenPlacesSaid : Prop := fnExactThenPlacesRow.holds Try.pinned (OpenSpec.ofChange fnExactThenPlacesSpec)

/-- ITS FALSE NEIGHBOUR: 'it returns false'. Refute it at one input. -/
def fnExactThenPlacesWrong : ChangeSpec := { name := "fnExactThenPlaces", fn := fun _ => fun
  | [d1, d2, d3] => { results := [.lit (.bool false)], args := [d1, d2, d3] }
  | _ => none }
def FnExactThenPlacesWrongFalsely : Prop := fnExactThenPlacesRow.holds Try.pinned (OpenSpec.ofChange fnExactThenPlacesWrong)

/-- 'laws.FnExactTypeOf': WHATEVER THE INPUT: true; the input reads as it did. -/
def fnExactTypeOfSpec : ChangeSpec := { name := "fnExactTypeOf", fn := fun _ => fun
  | [d1, d2] => { results := [.lit (.bool true)], args := [d1, d2] }
  | _ => none }
def fnExactTypeOfRow : OpenClaim := { program := "ytghdbnbejkneiaa", sum := "7fbeab1d47234103356156a161379bc34f2a4cf7226c8bb7b0de6af40c09fdcd", func := "loop.example/g01200/laws.FnExactTypeOf", spec := "fnExactTypeOf", recurses := true, plainKeys := false, apart := false }
def FnExactTypeOfSaid : Prop := fnExactTypeOfRow.holds Try.pinned (OpenSpec.ofChange fnExactTypeOfSpec)

/-- ITS FALSE NEIGHBOUR: 'it returns false'. Refute it at one input. -/
def fnExactTypeOfWrong : ChangeSpec := { name := "fnExactTypeOf", fn := fun _ => fun
  | [d1, d2] => { results := [.lit (.bool false)], args := [d1, d2] }
  | _ => none }
def FnExactTypeOfWrongFalsely : Prop := fnExactTypeOfRow.holds Try.pinned (OpenSpec.ofChange fnExactTypeOfWrong)

/-- 'laws.FnExactIsDessin': WHATEVER THE INPUT: true; the input reads as it did. -/
def fnExactIsDessinSpec : ChangeSpec := { name := "fnExactIsDessin", fn := fun _ => fun
  | [d] => { results := [.lit (.bool true)], args := [d] }
  | _ => none }
def fnExactIsDessinRow : OpenClaim := { program := "ytghdbnbejkneiaa", sum := "7fbeab1d47234103356156a161379bc34f2a4cf7226c8bb7b0de6af40c09fdcd", func := "loop.example/g01200/laws.FnExactIsDessin", spec := "fnExactIsDessin", plainKeys := false, apart := false }
def FnExactIsDessinSaid : Prop := fnExactIsDessinRow.holds Try.pinned (OpenSpec.ofChange fnExactIsDessinSpec)

/-- ITS FALSE NEIGHBOUR: 'it returns false'. Refute it at one input. -/
def fnExactIsDessinWrong : ChangeSpec := { name := "fnExactIsDessin", fn := fun _ => fun
  | [d] => { results := [.lit (.bool false)], args := [d] }
  | _ => none }
def FnExactIsDessinWrongFalsely : Prop := fnExactIsDessinRow.holds Try.pinned (OpenSpec.ofChange fnExactIsDessinWrong)

/-- 'laws.FnExactFaceOf': WHATEVER THE INPUT: true; the input reads as it did. -/
def fnExactFaceOfSpec : ChangeSpec := { name := "fnExactFaceOf", fn := fun _ => fun
  | [d] => { results := [.lit (.bool true)], args := [d] }
  | _ => none }
def fnExactFaceOfRow : OpenClaim := { program := "ytghdbnbejkneiaa", sum := "7fbeab1d47234103356156a161379bc34f2a4cf7226c8bb7b0de6af40c09fdcd", func := "loop.example/g01200/laws.FnExactFaceOf", spec := "fnExactFaceOf", plainKeys := false, apart := false }
def FnExactFaceOfSaid : Prop := fnExactFaceOfRow.holds Try.pinned (OpenSpec.ofChange fnExactFaceOfSpec)

/-- ITS FALSE NEIGHBOUR: 'it returns false'. Refute it at one input. -/
def fnExactFaceOfWrong : ChangeSpec := { name := "fnExactFaceOf", fn := fun _ => fun
  | [d] => { results := [.lit (.bool false)], args := [d] }
  | _ => none }
def FnExactFaceOfWrongFalsely : Prop := fnExactFaceOfRow.holds Try.pinned (OpenSpec.ofChange fnExactFaceOfWrong)

/-- 'laws.FnExactPassportOf': WHATEVER THE INPUT: true; the input reads as it did. -/
def fnExactPassportOfSpec : ChangeSpec := { name := "fnExactPassportOf", fn := fun _ => fun
  | [d] => { results := [.lit (.bool true)], args := [d] }
  | _ => none }
def fnExactPassportOfRow : OpenClaim := { program := "ytghdbnbejkneiaa", sum := "7fbeab1d47234103356156a161379bc34f2a4cf7226c8bb7b0de6af40c09fdcd", func := "loop.example/g01200/laws.FnExactPassportOf", spec := "fnExactPassportOf", recurses := true, plainKeys := false, apart := false }
def FnExactPassportOfSaid : Prop := fnExactPassportOfRow.holds Try.pinned (OpenSpec.ofChange fnExactPassportOfSpec)

/-- ITS FALSE NEIGHBOUR: 'it returns false'. Refute it at one input. -/
def fnExactPassportOfWrong : ChangeSpec := { name := "fnExactPassportOf", fn := fun _ => fun
  | [d] => { results := [.lit (.bool false)], args := [d] }
  | _ => none }
def FnExactPassportOfWrongFalsely : Prop := fnExactPassportOfRow.holds Try.pinned (OpenSpec.ofChange fnExactPassportOfWrong)

/-- 'laws.FnExactEulerOf': WHATEVER THE INPUT: true; the input reads as it did. -/
def fnExactEulerOfSpec : ChangeSpec := { name := "fnExactEulerOf", fn := fun _ => fun
  | [d] => { results := [.lit (.bool true)], args := [d] }
  | _ => none }
def fnExactEulerOfRow : OpenClaim := { program := "ytghdbnbejkneiaa", sum := "7fbeab1d47234103356156a161379bc34f2a4cf7226c8bb7b0de6af40c09fdcd", func := "loop.example/g01200/laws.FnExactEulerOf", spec := "fnExactEulerOf", plainKeys := false, apart := false }
def FnExactEulerOfSaid : Prop := fnExactEulerOfRow.holds Try.pinned (OpenSpec.ofChange fnExactEulerOfSpec)

/-- ITS FALSE NEIGHBOUR: 'it returns false'. Refute it at one input. -/
def fnExactEulerOfWrong : ChangeSpec := { name := "fnExactEulerOf", fn := fun _ => fun
  | [d] => { results := [.lit (.bool false)], args := [d] }
  | _ => none }
def FnExactEulerOfWrongFalsely : Prop := fnExactEulerOfRow.holds Try.pinned (OpenSpec.ofChange fnExactEulerOfWrong)

/-- 'laws.FnExactGenusOf': WHATEVER THE INPUT: true; the input reads as it did. -/
def fnExactGenusOfSpec : ChangeSpec := { name := "fnExactGenusOf", fn := fun _ => fun
  | [d] => { results := [.lit (.bool true)], args := [d] }
  | _ => none }
def fnExactGenusOfRow : OpenClaim := { program := "ytghdbnbejkneiaa", sum := "7fbeab1d47234103356156a161379bc34f2a4cf7226c8bb7b0de6af40c09fdcd", func := "loop.example/g01200/laws.FnExactGenusOf", spec := "fnExactGenusOf", plainKeys := false, apart := false }
def FnExactGenusOfSaid : Prop := fnExactGenusOfRow.holds Try.pinned (OpenSpec.ofChange fnExactGenusOfSpec)

/-- ITS FALSE NEIGHBOUR: 'it returns false'. Refute it at one input. -/
def fnExactGenusOfWrong : ChangeSpec := { name := "fnExactGenusOf", fn := fun _ => fun
  | [d] => { results := [.lit (.bool false)], args := [d] }
  | _ => none }
def FnExactGenusOfWrongFalsely : Prop := fnExactGenusOfRow.holds Try.pinned (OpenSpec.ofChange fnExactGenusOfWrong)

/-- 'laws.FnExactChainDessin': WHATEVER THE INPUT: true; the input reads as it did. -/
def fnExactChainDessinSpec : ChangeSpec := { name := "fnExactChainDessin", fn := fun _ => fun
  | [d] => { results := [.lit (.bool true)], args := [d] }
  | _ => none }
def fnExactChainDessinRow : OpenClaim := { program := "ytghdbnbejkneiaa", sum := "7fbeab1d47234103356156a161379bc34f2a4cf7226c8bb7b0de6af40c09fdcd", func := "loop.example/g01200/laws.FnExactChainDessin", spec := "fnExactChainDessin", plainKeys := false, apart := false }
def FnExactChainDessinSaid : Prop := fnExactChainDessinRow.holds Try.pinned (OpenSpec.ofChange fnExactChainDessinSpec)

/-- ITS FALSE NEIGHBOUR: 'it returns false'. Refute it at one input. -/
def fnExactChainDessinWrong : ChangeSpec := { name := "fnExactChainDessin", fn := fun _ => fun
  | [d] => { results := [.lit (.bool false)], args := [d] }
  | _ => none }
def FnExactChainDessinWrongFalsely : Prop := fnExactChainDessinRow.holds Try.pinned (OpenSpec.ofChange fnExactChainDessinWrong)

/-- 'laws.FnExactRenameDessin': WHATEVER THE INPUT: true; the input reads as it did. -/
def fnExactRenameDessinSpec : ChangeSpec := { name := "fnExactRenameDessin", fn := fun _ => fun
  | [d1, d2] => { results := [.lit (.bool true)], args := [d1, d2] }
  | _ => none }
def fnExactRenameDessinRow : OpenClaim := { program := "ytghdbnbejkneiaa", sum := "7fbeab1d47234103356156a161379bc34f2a4cf7226c8bb7b0de6af40c09fdcd", func := "loop.example/g01200/laws.FnExactRenameDessin", spec := "fnExactRenameDessin", plainKeys := false, apart := false }
def FnExactRenameDessinSaid : Prop := fnExactRenameDessinRow.holds Try.pinned (OpenSpec.ofChange fnExactRenameDessinSpec)

/-- ITS FALSE NEIGHBOUR: 'it returns false'. Refute it at one input. -/
def fnExactRenameDessinWrong : ChangeSpec := { name := "fnExactRenameDessin", fn := fun _ => fun
  | [d1, d2] => { results := [.lit (.bool false)], args := [d1, d2] }
  | _ => none }
def FnExactRenameDessinWrongFalsely : Prop := fnExactRenameDessinRow.holds Try.pinned (OpenSpec.ofChange fnExactRenameDessinWrong)

/-- 'laws.FnExactNamingFrom': WHATEVER THE INPUT: true; the input reads as it did. -/
def fnExactNamingFromSpec : ChangeSpec := { name := "fnExactNamingFrom", fn := fun _ => fun
  | [d1, d2] => { results := [.lit (.bool true)], args := [d1, d2] }
  | _ => none }
def fnExactNamingFromRow : OpenClaim := { program := "ytghdbnbejkneiaa", sum := "7fbeab1d47234103356156a161379bc34f2a4cf7226c8bb7b0de6af40c09fdcd", func := "loop.example/g01200/laws.FnExactNamingFrom", spec := "fnExactNamingFrom", plainKeys := false, apart := false }
def FnExactNamingFromSaid : Prop := fnExactNamingFromRow.holds Try.pinned (OpenSpec.ofChange fnExactNamingFromSpec)

/-- ITS FALSE NEIGHBOUR: 'it returns false'. Refute it at one input. -/
def fnExactNamingFromWrong : ChangeSpec := { name := "fnExactNamingFrom", fn := fun _ => fun
  | [d1, d2] => { results := [.lit (.bool false)], args := [d1, d2] }
  | _ => none }
def FnExactNamingFromWrongFalsely : Prop := fnExactNamingFromRow.holds Try.pinned (OpenSpec.ofChange fnExactNamingFromWrong)

/-- 'laws.FnExactCanonicalDessin': WHATEVER THE INPUT: true; the input reads as it did. -/
def fnExactCanonicalDessinSpec : ChangeSpec := { name := "fnExactCanonicalDessin", fn := fun _ => fun
  | [d] => { results := [.lit (.bool true)], args := [d] }
  | _ => none }
def fnExactCanonicalDessinRow : OpenClaim := { program := "ytghdbnbejkneiaa", sum := "7fbeab1d47234103356156a161379bc34f2a4cf7226c8bb7b0de6af40c09fdcd", func := "loop.example/g01200/laws.FnExactCanonicalDessin", spec := "fnExactCanonicalDessin", inPlace := ["internal/bytealg.Compare"], plainKeys := false, apart := false }
def FnExactCanonicalDessinSaid : Prop := fnExactCanonicalDessinRow.holds Try.pinned (OpenSpec.ofChange fnExactCanonicalDessinSpec)

/-- ITS FALSE NEIGHBOUR: 'it returns false'. Refute it at one input. -/
def fnExactCanonicalDessinWrong : ChangeSpec := { name := "fnExactCanonicalDessin", fn := fun _ => fun
  | [d] => { results := [.lit (.bool false)], args := [d] }
  | _ => none }
def FnExactCanonicalDessinWrongFalsely : Prop := fnExactCanonicalDessinRow.holds Try.pinned (OpenSpec.ofChange fnExactCanonicalDessinWrong)

/-- 'laws.FnExactIncidencesOf': WHATEVER THE INPUT: true; the input reads as it did. -/
def fnExactIncidencesOfSpec : ChangeSpec := { name := "fnExactIncidencesOf", fn := fun _ => fun
  | [d] => { results := [.lit (.bool true)], args := [d] }
  | _ => none }
def fnExactIncidencesOfRow : OpenClaim := { program := "ytghdbnbejkneiaa", sum := "7fbeab1d47234103356156a161379bc34f2a4cf7226c8bb7b0de6af40c09fdcd", func := "loop.example/g01200/laws.FnExactIncidencesOf", spec := "fnExactIncidencesOf", plainKeys := false, apart := false }
def FnExactIncidencesOfSaid : Prop := fnExactIncidencesOfRow.holds Try.pinned (OpenSpec.ofChange fnExactIncidencesOfSpec)

/-- ITS FALSE NEIGHBOUR: 'it returns false'. Refute it at one input. -/
def fnExactIncidencesOfWrong : ChangeSpec := { name := "fnExactIncidencesOf", fn := fun _ => fun
  | [d] => { results := [.lit (.bool false)], args := [d] }
  | _ => none }
def FnExactIncidencesOfWrongFalsely : Prop := fnExactIncidencesOfRow.holds Try.pinned (OpenSpec.ofChange fnExactIncidencesOfWrong)

/- THE SECOND FORM. 'bulk': how many values and letters a reading holds, each counted each time it is reached (what is shared counts as often as it is met; a slice's spare places count too). A statement '..UptoSaid' is the law's where the arguments, and the package variables that the reading takes, are together of bulk at most 1048576: NARROWER than '..Said'. Prove '..Said' where nothing that the law and all that it calls make is longer than what came in: it says more and counts as full. Else prove '..UptoSaid'. A law counts once. -/
mutual
def uptoBulk {H : Type} : DataW H → Nat
  | .lit (.string bytes) => bytes.length + 1
  | .lit _ => 1
  | .nil => 1
  | .ptr d => uptoBulk d + 1
  | .slice elems spare => uptoBulkAll elems + uptoBulkAll spare + 1
  | .agg parts => uptoBulkAll parts + 1
  | .iface _ d => uptoBulk d + 1
  | .map entries => uptoBulkEntries entries + 1
  | .held _ => 1
def uptoBulkAll {H : Type} : List (DataW H) → Nat
  | [] => 0
  | d :: r => uptoBulk d + uptoBulkAll r
def uptoBulkEntries {H : Type} : List (Lit × DataW H) → Nat
  | [] => 0
  | x :: r => uptoBulkEntry x + uptoBulkEntries r
def uptoBulkEntry {H : Type} : Lit × DataW H → Nat
  | (.string bytes, d) => bytes.length + uptoBulk d + 1
  | (_, d) => uptoBulk d + 1
 end
def uptoSmall : (H : Type) → List (DataW H) → Bool := fun _ ds => decide (uptoBulkAll ds ≤ 1048576)
def OpenSpec.upto (s : _root_.Go.ChangeSpec) : _root_.Go.OpenSpec := { _root_.Go.OpenSpec.ofChange s with cond := some uptoSmall }

/-- 'laws.FnExactThenPlaces', WHERE WHAT IT READS IS OF BULK AT MOST 1048576: true; the input reads as it did. -/
def fnExactThenPlacesUptoRow : OpenClaim := { program := "ytghdbnbejkneiaa", sum := "7fbeab1d47234103356156a161379bc34f2a4cf7226c8bb7b0de6af40c09fdcd", func := "loop.example/g01200/laws.FnExactThenPlaces", spec := "fnExactThenPlaces", plainKeys := false, apart := false, narrowed := true }
def FnExactThenPlacesUptoSaid : Prop := fnExactThenPlacesUptoRow.holds Try.pinned (OpenSpec.upto fnExactThenPlacesSpec)

/-- 'laws.FnExactTypeOf', WHERE WHAT IT READS IS OF BULK AT MOST 1048576: true; the input reads as it did. -/
def fnExactTypeOfUptoRow : OpenClaim := { program := "ytghdbnbejkneiaa", sum := "7fbeab1d47234103356156a161379bc34f2a4cf7226c8bb7b0de6af40c09fdcd", func := "loop.example/g01200/laws.FnExactTypeOf", spec := "fnExactTypeOf", recurses := true, plainKeys := false, apart := false, narrowed := true }
def FnExactTypeOfUptoSaid : Prop := fnExactTypeOfUptoRow.holds Try.pinned (OpenSpec.upto fnExactTypeOfSpec)

/-- 'laws.FnExactIsDessin', WHERE WHAT IT READS IS OF BULK AT MOST 1048576: true; the input reads as it did. -/
def fnExactIsDessinUptoRow : OpenClaim := { program := "ytghdbnbejkneiaa", sum := "7fbeab1d47234103356156a161379bc34f2a4cf7226c8bb7b0de6af40c09fdcd", func := "loop.example/g01200/laws.FnExactIsDessin", spec := "fnExactIsDessin", plainKeys := false, apart := false, narrowed := true }
def FnExactIsDessinUptoSaid : Prop := fnExactIsDessinUptoRow.holds Try.pinned (OpenSpec.upto fnExactIsDessinSpec)

/-- 'laws.FnExactFaceOf', WHERE WHAT IT READS IS OF BULK AT MOST 1048576: true; the input reads as it did. -/
def fnExactFaceOfUptoRow : OpenClaim := { program := "ytghdbnbejkneiaa", sum := "7fbeab1d47234103356156a161379bc34f2a4cf7226c8bb7b0de6af40c09fdcd", func := "loop.example/g01200/laws.FnExactFaceOf", spec := "fnExactFaceOf", plainKeys := false, apart := false, narrowed := true }
def FnExactFaceOfUptoSaid : Prop := fnExactFaceOfUptoRow.holds Try.pinned (OpenSpec.upto fnExactFaceOfSpec)

/-- 'laws.FnExactPassportOf', WHERE WHAT IT READS IS OF BULK AT MOST 1048576: true; the input reads as it did. -/
def fnExactPassportOfUptoRow : OpenClaim := { program := "ytghdbnbejkneiaa", sum := "7fbeab1d47234103356156a161379bc34f2a4cf7226c8bb7b0de6af40c09fdcd", func := "loop.example/g01200/laws.FnExactPassportOf", spec := "fnExactPassportOf", recurses := true, plainKeys := false, apart := false, narrowed := true }
def FnExactPassportOfUptoSaid : Prop := fnExactPassportOfUptoRow.holds Try.pinned (OpenSpec.upto fnExactPassportOfSpec)

/-- 'laws.FnExactEulerOf', WHERE WHAT IT READS IS OF BULK AT MOST 1048576: true; the input reads as it did. -/
def fnExactEulerOfUptoRow : OpenClaim := { program := "ytghdbnbejkneiaa", sum := "7fbeab1d47234103356156a161379bc34f2a4cf7226c8bb7b0de6af40c09fdcd", func := "loop.example/g01200/laws.FnExactEulerOf", spec := "fnExactEulerOf", plainKeys := false, apart := false, narrowed := true }
def FnExactEulerOfUptoSaid : Prop := fnExactEulerOfUptoRow.holds Try.pinned (OpenSpec.upto fnExactEulerOfSpec)

/-- 'laws.FnExactGenusOf', WHERE WHAT IT READS IS OF BULK AT MOST 1048576: true; the input reads as it did. -/
def fnExactGenusOfUptoRow : OpenClaim := { program := "ytghdbnbejkneiaa", sum := "7fbeab1d47234103356156a161379bc34f2a4cf7226c8bb7b0de6af40c09fdcd", func := "loop.example/g01200/laws.FnExactGenusOf", spec := "fnExactGenusOf", plainKeys := false, apart := false, narrowed := true }
def FnExactGenusOfUptoSaid : Prop := fnExactGenusOfUptoRow.holds Try.pinned (OpenSpec.upto fnExactGenusOfSpec)

/-- 'laws.FnExactChainDessin', WHERE WHAT IT READS IS OF BULK AT MOST 1048576: true; the input reads as it did. -/
def fnExactChainDessinUptoRow : OpenClaim := { program := "ytghdbnbejkneiaa", sum := "7fbeab1d47234103356156a161379bc34f2a4cf7226c8bb7b0de6af40c09fdcd", func := "loop.example/g01200/laws.FnExactChainDessin", spec := "fnExactChainDessin", plainKeys := false, apart := false, narrowed := true }
def FnExactChainDessinUptoSaid : Prop := fnExactChainDessinUptoRow.holds Try.pinned (OpenSpec.upto fnExactChainDessinSpec)

/-- 'laws.FnExactRenameDessin', WHERE WHAT IT READS IS OF BULK AT MOST 1048576: true; the input reads as it did. -/
def fnExactRenameDessinUptoRow : OpenClaim := { program := "ytghdbnbejkneiaa", sum := "7fbeab1d47234103356156a161379bc34f2a4cf7226c8bb7b0de6af40c09fdcd", func := "loop.example/g01200/laws.FnExactRenameDessin", spec := "fnExactRenameDessin", plainKeys := false, apart := false, narrowed := true }
def FnExactRenameDessinUptoSaid : Prop := fnExactRenameDessinUptoRow.holds Try.pinned (OpenSpec.upto fnExactRenameDessinSpec)

/-- 'laws.FnExactNamingFrom', WHERE WHAT IT READS IS OF BULK AT MOST 1048576: true; the input reads as it did. -/
def fnExactNamingFromUptoRow : OpenClaim := { program := "ytghdbnbejkneiaa", sum := "7fbeab1d47234103356156a161379bc34f2a4cf7226c8bb7b0de6af40c09fdcd", func := "loop.example/g01200/laws.FnExactNamingFrom", spec := "fnExactNamingFrom", plainKeys := false, apart := false, narrowed := true }
def FnExactNamingFromUptoSaid : Prop := fnExactNamingFromUptoRow.holds Try.pinned (OpenSpec.upto fnExactNamingFromSpec)

/-- 'laws.FnExactCanonicalDessin', WHERE WHAT IT READS IS OF BULK AT MOST 1048576: true; the input reads as it did. -/
def fnExactCanonicalDessinUptoRow : OpenClaim := { program := "ytghdbnbejkneiaa", sum := "7fbeab1d47234103356156a161379bc34f2a4cf7226c8bb7b0de6af40c09fdcd", func := "loop.example/g01200/laws.FnExactCanonicalDessin", spec := "fnExactCanonicalDessin", inPlace := ["internal/bytealg.Compare"], plainKeys := false, apart := false, narrowed := true }
def FnExactCanonicalDessinUptoSaid : Prop := fnExactCanonicalDessinUptoRow.holds Try.pinned (OpenSpec.upto fnExactCanonicalDessinSpec)

/-- 'laws.FnExactIncidencesOf', WHERE WHAT IT READS IS OF BULK AT MOST 1048576: true; the input reads as it did. -/
def fnExactIncidencesOfUptoRow : OpenClaim := { program := "ytghdbnbejkneiaa", sum := "7fbeab1d47234103356156a161379bc34f2a4cf7226c8bb7b0de6af40c09fdcd", func := "loop.example/g01200/laws.FnExactIncidencesOf", spec := "fnExactIncidencesOf", plainKeys := false, apart := false, narrowed := true }
def FnExactIncidencesOfUptoSaid : Prop := fnExactIncidencesOfUptoRow.holds Try.pinned (OpenSpec.upto fnExactIncidencesOfSpec)

end Rows
end Go.Proofs.Ytghdbnbejkneiaa
