/-
  No cell of these rows narrows 'for every input' (looked for: loops, veiled, ifaces, maps, wideKeys, modest, calm, conditions, laid).
  DERIVED. THE GIVEN ROWS OF THIS SEAT. 12 by the template 'for every input the law returns true; each argument reads behind the call as it read before'; 0 by the template 'total and deterministic' (their statements: YtmapjjfefjoemaaTotals.lean).
  GIVEN WITH THE SEED: the statements are not yours to turn. If you find one false, say at which input.
  Laid BY PROGRAM, IN A SANDBOX (cutbox-rows.mjs): the forced cells as the released guide's own fill.sh prints them over the translation 2893bc883542252b… (all of the seat's roots in one cut). By AI agents, Wed Nov 11 2026. No macro, syntax, notation, axiom, sorry.
-/
import Derived.Test.YtmapjjfefjoemaaChecked
import GoSem.Claim
import GoSem.ClaimJoined
import GoSem.ClaimMapViews
import Derived.JoinedTies
import Derived.KernelRfl
namespace Go.Proofs.Ytmapjjfefjoemaa
/- THE CELL 'sum', in the pinned program and in every row, IS THE sha256 OF THE DUMP (.gsa) THAT YtmapjjfefjoemaaProg.lean LOADS. Nothing in Lean hashes anything: it is a label: what it is worth is what the hold of that sum in a sandbox is worth. -/
noncomputable def Try.pinned : Pinned := { name := "ytmapjjfefjoemaa", sum := "2893bc883542252b17e433b6b2ba863f51e6ba11356a6abe96f5945aa96dd483", checked := Try.checked }
namespace Rows
def none {H : Type} : Left H := { results := [], args := [] }

/-- 'laws.FnExactSumsOfVoltages': WHATEVER THE INPUT: true; the input reads as it did. -/
def fnExactSumsOfVoltagesSpec : ChangeSpec := { name := "fnExactSumsOfVoltages", fn := fun _ => fun
  | [d1, d2, d3, d4] => { results := [.lit (.bool true)], args := [d1, d2, d3, d4] }
  | _ => none }
def fnExactSumsOfVoltagesRow : OpenClaim := { program := "ytmapjjfefjoemaa", sum := "2893bc883542252b17e433b6b2ba863f51e6ba11356a6abe96f5945aa96dd483", func := "loop.example/g01200/laws.FnExactSumsOfVoltages", spec := "fnExactSumsOfVoltages", apart := false }
def FnExactSumsOfVoltagesSaid : Prop := fnExactSumsOfVoltagesRow.holds Try.pinned (OpenSpec.ofChange fnExactSumsOfVoltagesSpec)

/-- ITS FALSE NEIGHBOUR: 'it returns false'. Refute it at one input. -/
def fnExactSumsOfVoltagesWrong : ChangeSpec := { name := "fnExactSumsOfVoltages", fn := fun _ => fun
  | [d1, d2, d3, d4] => { results := [.lit (.bool false)], args := [d1, d2, d3, d4] }
  | _ => none }
def FnExactSumsOfVoltagesWrongFalsely : Prop := fnExactSumsOfVoltagesRow.holds Try.pinned (OpenSpec.ofChange fnExactSumsOfVoltagesWrong)

/-- 'laws.FnExactIsUnbranched': WHATEVER THE INPUT: true; the input reads as it did. -/
def fnExactIsUnbranchedSpec : ChangeSpec := { name := "fnExactIsUnbranched", fn := fun _ => fun
  | [d1, d2, d3, d4] => { results := [.lit (.bool true)], args := [d1, d2, d3, d4] }
  | _ => none }
def fnExactIsUnbranchedRow : OpenClaim := { program := "ytmapjjfefjoemaa", sum := "2893bc883542252b17e433b6b2ba863f51e6ba11356a6abe96f5945aa96dd483", func := "loop.example/g01200/laws.FnExactIsUnbranched", spec := "fnExactIsUnbranched", apart := false }
def FnExactIsUnbranchedSaid : Prop := fnExactIsUnbranchedRow.holds Try.pinned (OpenSpec.ofChange fnExactIsUnbranchedSpec)

/-- ITS FALSE NEIGHBOUR: 'it returns false'. Refute it at one input. -/
def fnExactIsUnbranchedWrong : ChangeSpec := { name := "fnExactIsUnbranched", fn := fun _ => fun
  | [d1, d2, d3, d4] => { results := [.lit (.bool false)], args := [d1, d2, d3, d4] }
  | _ => none }
def FnExactIsUnbranchedWrongFalsely : Prop := fnExactIsUnbranchedRow.holds Try.pinned (OpenSpec.ofChange fnExactIsUnbranchedWrong)

/-- 'laws.FnExactCoverOf': WHATEVER THE INPUT: true; the input reads as it did. -/
def fnExactCoverOfSpec : ChangeSpec := { name := "fnExactCoverOf", fn := fun _ => fun
  | [d1, d2, d3, d4] => { results := [.lit (.bool true)], args := [d1, d2, d3, d4] }
  | _ => none }
def fnExactCoverOfRow : OpenClaim := { program := "ytmapjjfefjoemaa", sum := "2893bc883542252b17e433b6b2ba863f51e6ba11356a6abe96f5945aa96dd483", func := "loop.example/g01200/laws.FnExactCoverOf", spec := "fnExactCoverOf", unfollowed := true, recurses := true, apart := false }
def FnExactCoverOfSaid : Prop := fnExactCoverOfRow.holds Try.pinned (OpenSpec.ofChange fnExactCoverOfSpec)

/-- ITS FALSE NEIGHBOUR: 'it returns false'. Refute it at one input. -/
def fnExactCoverOfWrong : ChangeSpec := { name := "fnExactCoverOf", fn := fun _ => fun
  | [d1, d2, d3, d4] => { results := [.lit (.bool false)], args := [d1, d2, d3, d4] }
  | _ => none }
def FnExactCoverOfWrongFalsely : Prop := fnExactCoverOfRow.holds Try.pinned (OpenSpec.ofChange fnExactCoverOfWrong)

/-- 'laws.FnExactWalkOf': WHATEVER THE INPUT: true; the input reads as it did. -/
def fnExactWalkOfSpec : ChangeSpec := { name := "fnExactWalkOf", fn := fun _ => fun
  | [d1, d2, d3, d4, d5, d6, d7] => { results := [.lit (.bool true)], args := [d1, d2, d3, d4, d5, d6, d7] }
  | _ => none }
def fnExactWalkOfRow : OpenClaim := { program := "ytmapjjfefjoemaa", sum := "2893bc883542252b17e433b6b2ba863f51e6ba11356a6abe96f5945aa96dd483", func := "loop.example/g01200/laws.FnExactWalkOf", spec := "fnExactWalkOf", unfollowed := true, recurses := true, apart := false }
def FnExactWalkOfSaid : Prop := fnExactWalkOfRow.holds Try.pinned (OpenSpec.ofChange fnExactWalkOfSpec)

/-- ITS FALSE NEIGHBOUR: 'it returns false'. Refute it at one input. -/
def fnExactWalkOfWrong : ChangeSpec := { name := "fnExactWalkOf", fn := fun _ => fun
  | [d1, d2, d3, d4, d5, d6, d7] => { results := [.lit (.bool false)], args := [d1, d2, d3, d4, d5, d6, d7] }
  | _ => none }
def FnExactWalkOfWrongFalsely : Prop := fnExactWalkOfRow.holds Try.pinned (OpenSpec.ofChange fnExactWalkOfWrong)

/-- 'laws.FnExactBoundariesOf': WHATEVER THE INPUT: true; the input reads as it did. -/
def fnExactBoundariesOfSpec : ChangeSpec := { name := "fnExactBoundariesOf", fn := fun _ => fun
  | [d] => { results := [.lit (.bool true)], args := [d] }
  | _ => none }
def fnExactBoundariesOfRow : OpenClaim := { program := "ytmapjjfefjoemaa", sum := "2893bc883542252b17e433b6b2ba863f51e6ba11356a6abe96f5945aa96dd483", func := "loop.example/g01200/laws.FnExactBoundariesOf", spec := "fnExactBoundariesOf", apart := false }
def FnExactBoundariesOfSaid : Prop := fnExactBoundariesOfRow.holds Try.pinned (OpenSpec.ofChange fnExactBoundariesOfSpec)

/-- ITS FALSE NEIGHBOUR: 'it returns false'. Refute it at one input. -/
def fnExactBoundariesOfWrong : ChangeSpec := { name := "fnExactBoundariesOf", fn := fun _ => fun
  | [d] => { results := [.lit (.bool false)], args := [d] }
  | _ => none }
def FnExactBoundariesOfWrongFalsely : Prop := fnExactBoundariesOfRow.holds Try.pinned (OpenSpec.ofChange fnExactBoundariesOfWrong)

/-- 'laws.FnExactIsCycle': WHATEVER THE INPUT: true; the input reads as it did. -/
def fnExactIsCycleSpec : ChangeSpec := { name := "fnExactIsCycle", fn := fun _ => fun
  | [d1, d2] => { results := [.lit (.bool true)], args := [d1, d2] }
  | _ => none }
def fnExactIsCycleRow : OpenClaim := { program := "ytmapjjfefjoemaa", sum := "2893bc883542252b17e433b6b2ba863f51e6ba11356a6abe96f5945aa96dd483", func := "loop.example/g01200/laws.FnExactIsCycle", spec := "fnExactIsCycle", apart := false }
def FnExactIsCycleSaid : Prop := fnExactIsCycleRow.holds Try.pinned (OpenSpec.ofChange fnExactIsCycleSpec)

/-- ITS FALSE NEIGHBOUR: 'it returns false'. Refute it at one input. -/
def fnExactIsCycleWrong : ChangeSpec := { name := "fnExactIsCycle", fn := fun _ => fun
  | [d1, d2] => { results := [.lit (.bool false)], args := [d1, d2] }
  | _ => none }
def FnExactIsCycleWrongFalsely : Prop := fnExactIsCycleRow.holds Try.pinned (OpenSpec.ofChange fnExactIsCycleWrong)

/-- 'laws.FnExactTreeEdges': WHATEVER THE INPUT: true; the input reads as it did. -/
def fnExactTreeEdgesSpec : ChangeSpec := { name := "fnExactTreeEdges", fn := fun _ => fun
  | [d] => { results := [.lit (.bool true)], args := [d] }
  | _ => none }
def fnExactTreeEdgesRow : OpenClaim := { program := "ytmapjjfefjoemaa", sum := "2893bc883542252b17e433b6b2ba863f51e6ba11356a6abe96f5945aa96dd483", func := "loop.example/g01200/laws.FnExactTreeEdges", spec := "fnExactTreeEdges", apart := false }
def FnExactTreeEdgesSaid : Prop := fnExactTreeEdgesRow.holds Try.pinned (OpenSpec.ofChange fnExactTreeEdgesSpec)

/-- ITS FALSE NEIGHBOUR: 'it returns false'. Refute it at one input. -/
def fnExactTreeEdgesWrong : ChangeSpec := { name := "fnExactTreeEdges", fn := fun _ => fun
  | [d] => { results := [.lit (.bool false)], args := [d] }
  | _ => none }
def FnExactTreeEdgesWrongFalsely : Prop := fnExactTreeEdgesRow.holds Try.pinned (OpenSpec.ofChange fnExactTreeEdgesWrong)

/-- 'laws.FnExactCycleOfEdge': WHATEVER THE INPUT: true; the input reads as it did. -/
def fnExactCycleOfEdgeSpec : ChangeSpec := { name := "fnExactCycleOfEdge", fn := fun _ => fun
  | [d1, d2] => { results := [.lit (.bool true)], args := [d1, d2] }
  | _ => none }
def fnExactCycleOfEdgeRow : OpenClaim := { program := "ytmapjjfefjoemaa", sum := "2893bc883542252b17e433b6b2ba863f51e6ba11356a6abe96f5945aa96dd483", func := "loop.example/g01200/laws.FnExactCycleOfEdge", spec := "fnExactCycleOfEdge", apart := false }
def FnExactCycleOfEdgeSaid : Prop := fnExactCycleOfEdgeRow.holds Try.pinned (OpenSpec.ofChange fnExactCycleOfEdgeSpec)

/-- ITS FALSE NEIGHBOUR: 'it returns false'. Refute it at one input. -/
def fnExactCycleOfEdgeWrong : ChangeSpec := { name := "fnExactCycleOfEdge", fn := fun _ => fun
  | [d1, d2] => { results := [.lit (.bool false)], args := [d1, d2] }
  | _ => none }
def FnExactCycleOfEdgeWrongFalsely : Prop := fnExactCycleOfEdgeRow.holds Try.pinned (OpenSpec.ofChange fnExactCycleOfEdgeWrong)

/-- 'laws.FnExactIntersectionOf': WHATEVER THE INPUT: true; the input reads as it did. -/
def fnExactIntersectionOfSpec : ChangeSpec := { name := "fnExactIntersectionOf", fn := fun _ => fun
  | [d1, d2, d3] => { results := [.lit (.bool true)], args := [d1, d2, d3] }
  | _ => none }
def fnExactIntersectionOfRow : OpenClaim := { program := "ytmapjjfefjoemaa", sum := "2893bc883542252b17e433b6b2ba863f51e6ba11356a6abe96f5945aa96dd483", func := "loop.example/g01200/laws.FnExactIntersectionOf", spec := "fnExactIntersectionOf", apart := false }
def FnExactIntersectionOfSaid : Prop := fnExactIntersectionOfRow.holds Try.pinned (OpenSpec.ofChange fnExactIntersectionOfSpec)

/-- ITS FALSE NEIGHBOUR: 'it returns false'. Refute it at one input. -/
def fnExactIntersectionOfWrong : ChangeSpec := { name := "fnExactIntersectionOf", fn := fun _ => fun
  | [d1, d2, d3] => { results := [.lit (.bool false)], args := [d1, d2, d3] }
  | _ => none }
def FnExactIntersectionOfWrongFalsely : Prop := fnExactIntersectionOfRow.holds Try.pinned (OpenSpec.ofChange fnExactIntersectionOfWrong)

/-- 'laws.FnExactIsBounding': WHATEVER THE INPUT: true; the input reads as it did. -/
def fnExactIsBoundingSpec : ChangeSpec := { name := "fnExactIsBounding", fn := fun _ => fun
  | [d1, d2] => { results := [.lit (.bool true)], args := [d1, d2] }
  | _ => none }
def fnExactIsBoundingRow : OpenClaim := { program := "ytmapjjfefjoemaa", sum := "2893bc883542252b17e433b6b2ba863f51e6ba11356a6abe96f5945aa96dd483", func := "loop.example/g01200/laws.FnExactIsBounding", spec := "fnExactIsBounding", apart := false }
def FnExactIsBoundingSaid : Prop := fnExactIsBoundingRow.holds Try.pinned (OpenSpec.ofChange fnExactIsBoundingSpec)

/-- ITS FALSE NEIGHBOUR: 'it returns false'. Refute it at one input. -/
def fnExactIsBoundingWrong : ChangeSpec := { name := "fnExactIsBounding", fn := fun _ => fun
  | [d1, d2] => { results := [.lit (.bool false)], args := [d1, d2] }
  | _ => none }
def FnExactIsBoundingWrongFalsely : Prop := fnExactIsBoundingRow.holds Try.pinned (OpenSpec.ofChange fnExactIsBoundingWrong)

/-- 'laws.FnExactHomologyBasis': WHATEVER THE INPUT: true; the input reads as it did. -/
def fnExactHomologyBasisSpec : ChangeSpec := { name := "fnExactHomologyBasis", fn := fun _ => fun
  | [d] => { results := [.lit (.bool true)], args := [d] }
  | _ => none }
def fnExactHomologyBasisRow : OpenClaim := { program := "ytmapjjfefjoemaa", sum := "2893bc883542252b17e433b6b2ba863f51e6ba11356a6abe96f5945aa96dd483", func := "loop.example/g01200/laws.FnExactHomologyBasis", spec := "fnExactHomologyBasis", apart := false }
def FnExactHomologyBasisSaid : Prop := fnExactHomologyBasisRow.holds Try.pinned (OpenSpec.ofChange fnExactHomologyBasisSpec)

/-- ITS FALSE NEIGHBOUR: 'it returns false'. Refute it at one input. -/
def fnExactHomologyBasisWrong : ChangeSpec := { name := "fnExactHomologyBasis", fn := fun _ => fun
  | [d] => { results := [.lit (.bool false)], args := [d] }
  | _ => none }
def FnExactHomologyBasisWrongFalsely : Prop := fnExactHomologyBasisRow.holds Try.pinned (OpenSpec.ofChange fnExactHomologyBasisWrong)

/-- 'laws.FnExactIntersectionTable': WHATEVER THE INPUT: true; the input reads as it did. -/
def fnExactIntersectionTableSpec : ChangeSpec := { name := "fnExactIntersectionTable", fn := fun _ => fun
  | [d] => { results := [.lit (.bool true)], args := [d] }
  | _ => none }
def fnExactIntersectionTableRow : OpenClaim := { program := "ytmapjjfefjoemaa", sum := "2893bc883542252b17e433b6b2ba863f51e6ba11356a6abe96f5945aa96dd483", func := "loop.example/g01200/laws.FnExactIntersectionTable", spec := "fnExactIntersectionTable", apart := false }
def FnExactIntersectionTableSaid : Prop := fnExactIntersectionTableRow.holds Try.pinned (OpenSpec.ofChange fnExactIntersectionTableSpec)

/-- ITS FALSE NEIGHBOUR: 'it returns false'. Refute it at one input. -/
def fnExactIntersectionTableWrong : ChangeSpec := { name := "fnExactIntersectionTable", fn := fun _ => fun
  | [d] => { results := [.lit (.bool false)], args := [d] }
  | _ => none }
def FnExactIntersectionTableWrongFalsely : Prop := fnExactIntersectionTableRow.holds Try.pinned (OpenSpec.ofChange fnExactIntersectionTableWrong)

/- THE SECOND FORM. 'bulk': how many values and letters a reading holds, each counted each time it is reached (what is shared counts as often as it is met; a slice's spare places count too). A statement '..UptoSaid' is the law's where the arguments, and the package variables that the reading takes, are together of bulk at most 1048576: NARROWER than '..Said'. Prove '..Said' where nothing that the law and all that it calls make is longer than what came in: it says more and counts as full. Else prove '..UptoSaid'. A law counts once. -/
mutual
def uptoBulk {H : Type} : DataW H → Nat
  | .lit (.string bytes) => bytes.length + 1
  | .lit _ => 1
  | .nil => 1
  | .ptr d => uptoBulk d + 1
  | .slice elems spare => uptoBulkAll elems + uptoBulkAll spare + 1
  | .agg parts => uptoBulkAll parts + 1
  | .iface _ d => uptoBulk d + 1
  | .map entries => uptoBulkEntries entries + 1
  | .held _ => 1
def uptoBulkAll {H : Type} : List (DataW H) → Nat
  | [] => 0
  | d :: r => uptoBulk d + uptoBulkAll r
def uptoBulkEntries {H : Type} : List (Lit × DataW H) → Nat
  | [] => 0
  | x :: r => uptoBulkEntry x + uptoBulkEntries r
def uptoBulkEntry {H : Type} : Lit × DataW H → Nat
  | (.string bytes, d) => bytes.length + uptoBulk d + 1
  | (_, d) => uptoBulk d + 1
 end
def uptoSmall : (H : Type) → List (DataW H) → Bool := fun _ ds => decide (uptoBulkAll ds ≤ 1048576)
def OpenSpec.upto (s : _root_.Go.ChangeSpec) : _root_.Go.OpenSpec := { _root_.Go.OpenSpec.ofChange s with cond := some uptoSmall }

/-- 'laws.FnExactSumsOfVoltages', WHERE WHAT IT READS IS OF BULK AT MOST 1048576: true; the input reads as it did. -/
def fnExactSumsOfVoltagesUptoRow : OpenClaim := { program := "ytmapjjfefjoemaa", sum := "2893bc883542252b17e433b6b2ba863f51e6ba11356a6abe96f5945aa96dd483", func := "loop.example/g01200/laws.FnExactSumsOfVoltages", spec := "fnExactSumsOfVoltages", apart := false, narrowed := true }
def FnExactSumsOfVoltagesUptoSaid : Prop := fnExactSumsOfVoltagesUptoRow.holds Try.pinned (OpenSpec.upto fnExactSumsOfVoltagesSpec)

/-- 'laws.FnExactIsUnbranched', WHERE WHAT IT READS IS OF BULK AT MOST 1048576: true; the input reads as it did. -/
def fnExactIsUnbranchedUptoRow : OpenClaim := { program := "ytmapjjfefjoemaa", sum := "2893bc883542252b17e433b6b2ba863f51e6ba11356a6abe96f5945aa96dd483", func := "loop.example/g01200/laws.FnExactIsUnbranched", spec := "fnExactIsUnbranched", apart := false, narrowed := true }
def FnExactIsUnbranchedUptoSaid : Prop := fnExactIsUnbranchedUptoRow.holds Try.pinned (OpenSpec.upto fnExactIsUnbranchedSpec)

/-- 'laws.FnExactCoverOf', WHERE WHAT IT READS IS OF BULK AT MOST 1048576: true; the input reads as it did. -/
def fnExactCoverOfUptoRow : OpenClaim := { program := "ytmapjjfefjoemaa", sum := "2893bc883542252b17e433b6b2ba863f51e6ba11356a6abe96f5945aa96dd483", func := "loop.example/g01200/laws.FnExactCoverOf", spec := "fnExactCoverOf", unfollowed := true, recurses := true, apart := false, narrowed := true }
def FnExactCoverOfUptoSaid : Prop := fnExactCoverOfUptoRow.holds Try.pinned (OpenSpec.upto fnExactCoverOfSpec)

/-- 'laws.FnExactWalkOf', WHERE WHAT IT READS IS OF BULK AT MOST 1048576: true; the input reads as it did. -/
def fnExactWalkOfUptoRow : OpenClaim := { program := "ytmapjjfefjoemaa", sum := "2893bc883542252b17e433b6b2ba863f51e6ba11356a6abe96f5945aa96dd483", func := "loop.example/g01200/laws.FnExactWalkOf", spec := "fnExactWalkOf", unfollowed := true, recurses := true, apart := false, narrowed := true }
def FnExactWalkOfUptoSaid : Prop := fnExactWalkOfUptoRow.holds Try.pinned (OpenSpec.upto fnExactWalkOfSpec)

/-- 'laws.FnExactBoundariesOf', WHERE WHAT IT READS IS OF BULK AT MOST 1048576: true; the input reads as it did. -/
def fnExactBoundariesOfUptoRow : OpenClaim := { program := "ytmapjjfefjoemaa", sum := "2893bc883542252b17e433b6b2ba863f51e6ba11356a6abe96f5945aa96dd483", func := "loop.example/g01200/laws.FnExactBoundariesOf", spec := "fnExactBoundariesOf", apart := false, narrowed := true }
def FnExactBoundariesOfUptoSaid : Prop := fnExactBoundariesOfUptoRow.holds Try.pinned (OpenSpec.upto fnExactBoundariesOfSpec)

/-- 'laws.FnExactIsCycle', WHERE WHAT IT READS IS OF BULK AT MOST 1048576: true; the input reads as it did. -/
def fnExactIsCycleUptoRow : OpenClaim := { program := "ytmapjjfefjoemaa", sum := "2893bc883542252b17e433b6b2ba863f51e6ba11356a6abe96f5945aa96dd483", func := "loop.example/g01200/laws.FnExactIsCycle", spec := "fnExactIsCycle", apart := false, narrowed := true }
def FnExactIsCycleUptoSaid : Prop := fnExactIsCycleUptoRow.holds Try.pinned (OpenSpec.upto fnExactIsCycleSpec)

/-- 'laws.FnExactTreeEdges', WHERE WHAT IT READS IS OF BULK AT MOST 1048576: true; the input reads as it did. -/
def fnExactTreeEdgesUptoRow : OpenClaim := { program := "ytmapjjfefjoemaa", sum := "2893bc883542252b17e433b6b2ba863f51e6ba11356a6abe96f5945aa96dd483", func := "loop.example/g01200/laws.FnExactTreeEdges", spec := "fnExactTreeEdges", apart := false, narrowed := true }
def FnExactTreeEdgesUptoSaid : Prop := fnExactTreeEdgesUptoRow.holds Try.pinned (OpenSpec.upto fnExactTreeEdgesSpec)

/-- 'laws.FnExactCycleOfEdge', WHERE WHAT IT READS IS OF BULK AT MOST 1048576: true; the input reads as it did. -/
def fnExactCycleOfEdgeUptoRow : OpenClaim := { program := "ytmapjjfefjoemaa", sum := "2893bc883542252b17e433b6b2ba863f51e6ba11356a6abe96f5945aa96dd483", func := "loop.example/g01200/laws.FnExactCycleOfEdge", spec := "fnExactCycleOfEdge", apart := false, narrowed := true }
def FnExactCycleOfEdgeUptoSaid : Prop := fnExactCycleOfEdgeUptoRow.holds Try.pinned (OpenSpec.upto fnExactCycleOfEdgeSpec)

/-- 'laws.FnExactIntersectionOf', WHERE WHAT IT READS IS OF BULK AT MOST 1048576: true; the input reads as it did. -/
def fnExactIntersectionOfUptoRow : OpenClaim := { program := "ytmapjjfefjoemaa", sum := "2893bc883542252b17e433b6b2ba863f51e6ba11356a6abe96f5945aa96dd483", func := "loop.example/g01200/laws.FnExactIntersectionOf", spec := "fnExactIntersectionOf", apart := false, narrowed := true }
def FnExactIntersectionOfUptoSaid : Prop := fnExactIntersectionOfUptoRow.holds Try.pinned (OpenSpec.upto fnExactIntersectionOfSpec)

/-- 'laws.FnExactIsBounding', WHERE WHAT IT READS IS OF BULK AT MOST 1048576: true; the input reads as it did. -/
def fnExactIsBoundingUptoRow : OpenClaim := { program := "ytmapjjfefjoemaa", sum := "2893bc883542252b17e433b6b2ba863f51e6ba11356a6abe96f5945aa96dd483", func := "loop.example/g01200/laws.FnExactIsBounding", spec := "fnExactIsBounding", apart := false, narrowed := true }
def FnExactIsBoundingUptoSaid : Prop := fnExactIsBoundingUptoRow.holds Try.pinned (OpenSpec.upto fnExactIsBoundingSpec)

/-- 'laws.FnExactHomologyBasis', WHERE WHAT IT READS IS OF BULK AT MOST 1048576: true; the input reads as it did. -/
def fnExactHomologyBasisUptoRow : OpenClaim := { program := "ytmapjjfefjoemaa", sum := "2893bc883542252b17e433b6b2ba863f51e6ba11356a6abe96f5945aa96dd483", func := "loop.example/g01200/laws.FnExactHomologyBasis", spec := "fnExactHomologyBasis", apart := false, narrowed := true }
def FnExactHomologyBasisUptoSaid : Prop := fnExactHomologyBasisUptoRow.holds Try.pinned (OpenSpec.upto fnExactHomologyBasisSpec)

/-- 'laws.FnExactIntersectionTable', WHERE WHAT IT READS IS OF BULK AT MOST 1048576: true; the input reads as it did. -/
def fnExactIntersectionTableUptoRow : OpenClaim := { program := "ytmapjjfefjoemaa", sum := "2893bc883542252b17e433b6b2ba863f51e6ba11356a6abe96f5945aa96dd483", func := "loop.example/g01200/laws.FnExactIntersectionTable", spec := "fnExactIntersectionTable", apart := false, narrowed := true }
def FnExactIntersectionTableUptoSaid : Prop := fnExactIntersectionTableUptoRow.holds Try.pinned (OpenSpec.upto fnExactIntersectionTableSpec)

end Rows
end Go.Proofs.Ytmapjjfefjoemaa
