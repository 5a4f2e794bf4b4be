/-
  No cell of these rows narrows 'for every input' (looked for: loops, veiled, ifaces, maps, wideKeys, modest, calm, conditions, laid).
  DERIVED. THE GIVEN ROWS OF THIS SEAT. 7 by the template 'for every input the law returns true; each argument reads behind the call as it read before'; 0 by the template 'total and deterministic' (their statements: YtlgallkddhfdaabTotals.lean).
  GIVEN WITH THE SEED: the statements are not yours to turn. If you find one false, say at which input.
  Laid BY PROGRAM, IN A SANDBOX (cutbox-rows.mjs): the forced cells as the released guide's own fill.sh prints them over the translation 92e60ecc63bd755f… (all of the seat's roots in one cut). By AI agents, Wed Nov 11 2026. No macro, syntax, notation, axiom, sorry.
-/
import Derived.Test.YtlgallkddhfdaabChecked
import GoSem.Claim
import GoSem.ClaimJoined
import GoSem.ClaimMapViews
import Derived.JoinedTies
import Derived.KernelRfl
namespace Go.Proofs.Ytlgallkddhfdaab
/- THE CELL 'sum', in the pinned program and in every row, IS THE sha256 OF THE DUMP (.gsa) THAT YtlgallkddhfdaabProg.lean LOADS. Nothing in Lean hashes anything: it is a label: what it is worth is what the hold of that sum in a sandbox is worth. -/
noncomputable def Try.pinned : Pinned := { name := "ytlgallkddhfdaab", sum := "92e60ecc63bd755f90b73ceb42817cf57514f2d0244632b5d3ada9ca74e7bcbd", checked := Try.checked }
namespace Rows
def none {H : Type} : Left H := { results := [], args := [] }

/-- 'laws.FnExactPassportOf': WHATEVER THE INPUT: true; the input reads as it did. -/
def fnExactPassportOfSpec : ChangeSpec := { name := "fnExactPassportOf", fn := fun _ => fun
  | [d] => { results := [.lit (.bool true)], args := [d] }
  | _ => none }
def fnExactPassportOfRow : OpenClaim := { program := "ytlgallkddhfdaab", sum := "92e60ecc63bd755f90b73ceb42817cf57514f2d0244632b5d3ada9ca74e7bcbd", func := "loop.example/g01200/laws.FnExactPassportOf", spec := "fnExactPassportOf", recurses := true, plainKeys := false, apart := false }
def FnExactPassportOfSaid : Prop := fnExactPassportOfRow.holds Try.pinned (OpenSpec.ofChange fnExactPassportOfSpec)

/-- ITS FALSE NEIGHBOUR: 'it returns false'. Refute it at one input. -/
def fnExactPassportOfWrong : ChangeSpec := { name := "fnExactPassportOf", fn := fun _ => fun
  | [d] => { results := [.lit (.bool false)], args := [d] }
  | _ => none }
def FnExactPassportOfWrongFalsely : Prop := fnExactPassportOfRow.holds Try.pinned (OpenSpec.ofChange fnExactPassportOfWrong)

/-- 'laws.FnExactEulerOf': WHATEVER THE INPUT: true; the input reads as it did. -/
def fnExactEulerOfSpec : ChangeSpec := { name := "fnExactEulerOf", fn := fun _ => fun
  | [d] => { results := [.lit (.bool true)], args := [d] }
  | _ => none }
def fnExactEulerOfRow : OpenClaim := { program := "ytlgallkddhfdaab", sum := "92e60ecc63bd755f90b73ceb42817cf57514f2d0244632b5d3ada9ca74e7bcbd", func := "loop.example/g01200/laws.FnExactEulerOf", spec := "fnExactEulerOf", plainKeys := false, apart := false }
def FnExactEulerOfSaid : Prop := fnExactEulerOfRow.holds Try.pinned (OpenSpec.ofChange fnExactEulerOfSpec)

/-- ITS FALSE NEIGHBOUR: 'it returns false'. Refute it at one input. -/
def fnExactEulerOfWrong : ChangeSpec := { name := "fnExactEulerOf", fn := fun _ => fun
  | [d] => { results := [.lit (.bool false)], args := [d] }
  | _ => none }
def FnExactEulerOfWrongFalsely : Prop := fnExactEulerOfRow.holds Try.pinned (OpenSpec.ofChange fnExactEulerOfWrong)

/-- 'laws.FnExactGenusOf': WHATEVER THE INPUT: true; the input reads as it did. -/
def fnExactGenusOfSpec : ChangeSpec := { name := "fnExactGenusOf", fn := fun _ => fun
  | [d] => { results := [.lit (.bool true)], args := [d] }
  | _ => none }
def fnExactGenusOfRow : OpenClaim := { program := "ytlgallkddhfdaab", sum := "92e60ecc63bd755f90b73ceb42817cf57514f2d0244632b5d3ada9ca74e7bcbd", func := "loop.example/g01200/laws.FnExactGenusOf", spec := "fnExactGenusOf", plainKeys := false, apart := false }
def FnExactGenusOfSaid : Prop := fnExactGenusOfRow.holds Try.pinned (OpenSpec.ofChange fnExactGenusOfSpec)

/-- ITS FALSE NEIGHBOUR: 'it returns false'. Refute it at one input. -/
def fnExactGenusOfWrong : ChangeSpec := { name := "fnExactGenusOf", fn := fun _ => fun
  | [d] => { results := [.lit (.bool false)], args := [d] }
  | _ => none }
def FnExactGenusOfWrongFalsely : Prop := fnExactGenusOfRow.holds Try.pinned (OpenSpec.ofChange fnExactGenusOfWrong)

/-- 'laws.FnExactIncidencesOf': WHATEVER THE INPUT: true; the input reads as it did. -/
def fnExactIncidencesOfSpec : ChangeSpec := { name := "fnExactIncidencesOf", fn := fun _ => fun
  | [d] => { results := [.lit (.bool true)], args := [d] }
  | _ => none }
def fnExactIncidencesOfRow : OpenClaim := { program := "ytlgallkddhfdaab", sum := "92e60ecc63bd755f90b73ceb42817cf57514f2d0244632b5d3ada9ca74e7bcbd", func := "loop.example/g01200/laws.FnExactIncidencesOf", spec := "fnExactIncidencesOf", plainKeys := false, apart := false }
def FnExactIncidencesOfSaid : Prop := fnExactIncidencesOfRow.holds Try.pinned (OpenSpec.ofChange fnExactIncidencesOfSpec)

/-- ITS FALSE NEIGHBOUR: 'it returns false'. Refute it at one input. -/
def fnExactIncidencesOfWrong : ChangeSpec := { name := "fnExactIncidencesOf", fn := fun _ => fun
  | [d] => { results := [.lit (.bool false)], args := [d] }
  | _ => none }
def FnExactIncidencesOfWrongFalsely : Prop := fnExactIncidencesOfRow.holds Try.pinned (OpenSpec.ofChange fnExactIncidencesOfWrong)

/-- 'laws.FnExactStarDessin': WHATEVER THE INPUT: true; the input reads as it did. -/
def fnExactStarDessinSpec : ChangeSpec := { name := "fnExactStarDessin", fn := fun _ => fun
  | [d] => { results := [.lit (.bool true)], args := [d] }
  | _ => none }
def fnExactStarDessinRow : OpenClaim := { program := "ytlgallkddhfdaab", sum := "92e60ecc63bd755f90b73ceb42817cf57514f2d0244632b5d3ada9ca74e7bcbd", func := "loop.example/g01200/laws.FnExactStarDessin", spec := "fnExactStarDessin", plainKeys := false, apart := false }
def FnExactStarDessinSaid : Prop := fnExactStarDessinRow.holds Try.pinned (OpenSpec.ofChange fnExactStarDessinSpec)

/-- ITS FALSE NEIGHBOUR: 'it returns false'. Refute it at one input. -/
def fnExactStarDessinWrong : ChangeSpec := { name := "fnExactStarDessin", fn := fun _ => fun
  | [d] => { results := [.lit (.bool false)], args := [d] }
  | _ => none }
def FnExactStarDessinWrongFalsely : Prop := fnExactStarDessinRow.holds Try.pinned (OpenSpec.ofChange fnExactStarDessinWrong)

/-- 'laws.FnExactChainDessin': WHATEVER THE INPUT: true; the input reads as it did. -/
def fnExactChainDessinSpec : ChangeSpec := { name := "fnExactChainDessin", fn := fun _ => fun
  | [d] => { results := [.lit (.bool true)], args := [d] }
  | _ => none }
def fnExactChainDessinRow : OpenClaim := { program := "ytlgallkddhfdaab", sum := "92e60ecc63bd755f90b73ceb42817cf57514f2d0244632b5d3ada9ca74e7bcbd", func := "loop.example/g01200/laws.FnExactChainDessin", spec := "fnExactChainDessin", plainKeys := false, apart := false }
def FnExactChainDessinSaid : Prop := fnExactChainDessinRow.holds Try.pinned (OpenSpec.ofChange fnExactChainDessinSpec)

/-- ITS FALSE NEIGHBOUR: 'it returns false'. Refute it at one input. -/
def fnExactChainDessinWrong : ChangeSpec := { name := "fnExactChainDessin", fn := fun _ => fun
  | [d] => { results := [.lit (.bool false)], args := [d] }
  | _ => none }
def FnExactChainDessinWrongFalsely : Prop := fnExactChainDessinRow.holds Try.pinned (OpenSpec.ofChange fnExactChainDessinWrong)

/-- 'laws.FnExactBandDessin': WHATEVER THE INPUT: true; the input reads as it did. -/
def fnExactBandDessinSpec : ChangeSpec := { name := "fnExactBandDessin", fn := fun _ => fun
  | [d] => { results := [.lit (.bool true)], args := [d] }
  | _ => none }
def fnExactBandDessinRow : OpenClaim := { program := "ytlgallkddhfdaab", sum := "92e60ecc63bd755f90b73ceb42817cf57514f2d0244632b5d3ada9ca74e7bcbd", func := "loop.example/g01200/laws.FnExactBandDessin", spec := "fnExactBandDessin", plainKeys := false, apart := false }
def FnExactBandDessinSaid : Prop := fnExactBandDessinRow.holds Try.pinned (OpenSpec.ofChange fnExactBandDessinSpec)

/-- ITS FALSE NEIGHBOUR: 'it returns false'. Refute it at one input. -/
def fnExactBandDessinWrong : ChangeSpec := { name := "fnExactBandDessin", fn := fun _ => fun
  | [d] => { results := [.lit (.bool false)], args := [d] }
  | _ => none }
def FnExactBandDessinWrongFalsely : Prop := fnExactBandDessinRow.holds Try.pinned (OpenSpec.ofChange fnExactBandDessinWrong)

/- THE SECOND FORM. 'bulk': how many values and letters a reading holds, each counted each time it is reached (what is shared counts as often as it is met; a slice's spare places count too). A statement '..UptoSaid' is the law's where the arguments, and the package variables that the reading takes, are together of bulk at most 1048576: NARROWER than '..Said'. Prove '..Said' where nothing that the law and all that it calls make is longer than what came in: it says more and counts as full. Else prove '..UptoSaid'. A law counts once. -/
mutual
def uptoBulk {H : Type} : DataW H → Nat
  | .lit (.string bytes) => bytes.length + 1
  | .lit _ => 1
  | .nil => 1
  | .ptr d => uptoBulk d + 1
  | .slice elems spare => uptoBulkAll elems + uptoBulkAll spare + 1
  | .agg parts => uptoBulkAll parts + 1
  | .iface _ d => uptoBulk d + 1
  | .map entries => uptoBulkEntries entries + 1
  | .held _ => 1
def uptoBulkAll {H : Type} : List (DataW H) → Nat
  | [] => 0
  | d :: r => uptoBulk d + uptoBulkAll r
def uptoBulkEntries {H : Type} : List (Lit × DataW H) → Nat
  | [] => 0
  | x :: r => uptoBulkEntry x + uptoBulkEntries r
def uptoBulkEntry {H : Type} : Lit × DataW H → Nat
  | (.string bytes, d) => bytes.length + uptoBulk d + 1
  | (_, d) => uptoBulk d + 1
 end
def uptoSmall : (H : Type) → List (DataW H) → Bool := fun _ ds => decide (uptoBulkAll ds ≤ 1048576)
def OpenSpec.upto (s : _root_.Go.ChangeSpec) : _root_.Go.OpenSpec := { _root_.Go.OpenSpec.ofChange s with cond := some uptoSmall }

/-- 'laws.FnExactPassportOf', WHERE WHAT IT READS IS OF BULK AT MOST 1048576: true; the input reads as it did. -/
def fnExactPassportOfUptoRow : OpenClaim := { program := "ytlgallkddhfdaab", sum := "92e60ecc63bd755f90b73ceb42817cf57514f2d0244632b5d3ada9ca74e7bcbd", func := "loop.example/g01200/laws.FnExactPassportOf", spec := "fnExactPassportOf", recurses := true, plainKeys := false, apart := false, narrowed := true }
def FnExactPassportOfUptoSaid : Prop := fnExactPassportOfUptoRow.holds Try.pinned (OpenSpec.upto fnExactPassportOfSpec)

/-- 'laws.FnExactEulerOf', WHERE WHAT IT READS IS OF BULK AT MOST 1048576: true; the input reads as it did. -/
def fnExactEulerOfUptoRow : OpenClaim := { program := "ytlgallkddhfdaab", sum := "92e60ecc63bd755f90b73ceb42817cf57514f2d0244632b5d3ada9ca74e7bcbd", func := "loop.example/g01200/laws.FnExactEulerOf", spec := "fnExactEulerOf", plainKeys := false, apart := false, narrowed := true }
def FnExactEulerOfUptoSaid : Prop := fnExactEulerOfUptoRow.holds Try.pinned (OpenSpec.upto fnExactEulerOfSpec)

/-- 'laws.FnExactGenusOf', WHERE WHAT IT READS IS OF BULK AT MOST 1048576: true; the input reads as it did. -/
def fnExactGenusOfUptoRow : OpenClaim := { program := "ytlgallkddhfdaab", sum := "92e60ecc63bd755f90b73ceb42817cf57514f2d0244632b5d3ada9ca74e7bcbd", func := "loop.example/g01200/laws.FnExactGenusOf", spec := "fnExactGenusOf", plainKeys := false, apart := false, narrowed := true }
def FnExactGenusOfUptoSaid : Prop := fnExactGenusOfUptoRow.holds Try.pinned (OpenSpec.upto fnExactGenusOfSpec)

/-- 'laws.FnExactIncidencesOf', WHERE WHAT IT READS IS OF BULK AT MOST 1048576: true; the input reads as it did. -/
def fnExactIncidencesOfUptoRow : OpenClaim := { program := "ytlgallkddhfdaab", sum := "92e60ecc63bd755f90b73ceb42817cf57514f2d0244632b5d3ada9ca74e7bcbd", func := "loop.example/g01200/laws.FnExactIncidencesOf", spec := "fnExactIncidencesOf", plainKeys := false, apart := false, narrowed := true }
def FnExactIncidencesOfUptoSaid : Prop := fnExactIncidencesOfUptoRow.holds Try.pinned (OpenSpec.upto fnExactIncidencesOfSpec)

/-- 'laws.FnExactStarDessin', WHERE WHAT IT READS IS OF BULK AT MOST 1048576: true; the input reads as it did. -/
def fnExactStarDessinUptoRow : OpenClaim := { program := "ytlgallkddhfdaab", sum := "92e60ecc63bd755f90b73ceb42817cf57514f2d0244632b5d3ada9ca74e7bcbd", func := "loop.example/g01200/laws.FnExactStarDessin", spec := "fnExactStarDessin", plainKeys := false, apart := false, narrowed := true }
def FnExactStarDessinUptoSaid : Prop := fnExactStarDessinUptoRow.holds Try.pinned (OpenSpec.upto fnExactStarDessinSpec)

/-- 'laws.FnExactChainDessin', WHERE WHAT IT READS IS OF BULK AT MOST 1048576: true; the input reads as it did. -/
def fnExactChainDessinUptoRow : OpenClaim := { program := "ytlgallkddhfdaab", sum := "92e60ecc63bd755f90b73ceb42817cf57514f2d0244632b5d3ada9ca74e7bcbd", func := "loop.example/g01200/laws.FnExactChainDessin", spec := "fnExactChainDessin", plainKeys := false, apart := false, narrowed := true }
def FnExactChainDessinUptoSaid : Prop := fnExactChainDessinUptoRow.holds Try.pinned (OpenSpec.upto fnExactChainDessinSpec)

/-- 'laws.FnExactBandDessin', WHERE WHAT IT READS IS OF BULK AT MOST 1048576: true; the input reads as it did. -/
def fnExactBandDessinUptoRow : OpenClaim := { program := "ytlgallkddhfdaab", sum := "92e60ecc63bd755f90b73ceb42817cf57514f2d0244632b5d3ada9ca74e7bcbd", func := "loop.example/g01200/laws.FnExactBandDessin", spec := "fnExactBandDessin", plainKeys := false, apart := false, narrowed := true }
def FnExactBandDessinUptoSaid : Prop := fnExactBandDessinUptoRow.holds Try.pinned (OpenSpec.upto fnExactBandDessinSpec)

end Rows
end Go.Proofs.Ytlgallkddhfdaab
