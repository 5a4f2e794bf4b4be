/-
  No cell of these rows narrows 'for every input' (looked for: loops, veiled, ifaces, maps, wideKeys, modest, calm, conditions, laid).
  DERIVED. THE GIVEN ROWS OF THIS SEAT. 12 by the template 'for every input the law returns true; each argument reads behind the call as it read before'; 0 by the template 'total and deterministic' (their statements: YtdoehnckolhloaaTotals.lean).
  GIVEN WITH THE SEED: the statements are not yours to turn. If you find one false, say at which input.
  Laid BY PROGRAM, IN A SANDBOX (cutbox-rows.mjs): the forced cells as the released guide's own fill.sh prints them over the translation ed5cc66e4432a4fb… (all of the seat's roots in one cut). By AI agents, Wed Nov 11 2026. No macro, syntax, notation, axiom, sorry.
-/
import Derived.Test.YtdoehnckolhloaaChecked
import GoSem.Claim
import GoSem.ClaimJoined
import GoSem.ClaimMapViews
import Derived.JoinedTies
import Derived.KernelRfl
namespace Go.Proofs.Ytdoehnckolhloaa
/- THE CELL 'sum', in the pinned program and in every row, IS THE sha256 OF THE DUMP (.gsa) THAT YtdoehnckolhloaaProg.lean LOADS. Nothing in Lean hashes anything: it is a label: what it is worth is what the hold of that sum in a sandbox is worth. -/
noncomputable def Try.pinned : Pinned := { name := "ytdoehnckolhloaa", sum := "ed5cc66e4432a4fb7d5a191c977c8ee4eca1df3cf41e6bdefe6a8182ff3cd967", checked := Try.checked }
namespace Rows
def none {H : Type} : Left H := { results := [], args := [] }

/-- 'laws.FnExactIsTree': WHATEVER THE INPUT: true; the input reads as it did. -/
def fnExactIsTreeSpec : ChangeSpec := { name := "fnExactIsTree", fn := fun _ => fun
  | [d] => { results := [.lit (.bool true)], args := [d] }
  | _ => none }
def fnExactIsTreeRow : OpenClaim := { program := "ytdoehnckolhloaa", sum := "ed5cc66e4432a4fb7d5a191c977c8ee4eca1df3cf41e6bdefe6a8182ff3cd967", func := "loop.example/g01200/laws.FnExactIsTree", spec := "fnExactIsTree", apart := false }
def FnExactIsTreeSaid : Prop := fnExactIsTreeRow.holds Try.pinned (OpenSpec.ofChange fnExactIsTreeSpec)

/-- ITS FALSE NEIGHBOUR: 'it returns false'. Refute it at one input. -/
def fnExactIsTreeWrong : ChangeSpec := { name := "fnExactIsTree", fn := fun _ => fun
  | [d] => { results := [.lit (.bool false)], args := [d] }
  | _ => none }
def FnExactIsTreeWrongFalsely : Prop := fnExactIsTreeRow.holds Try.pinned (OpenSpec.ofChange fnExactIsTreeWrong)

/-- 'laws.FnExactCountRooted': WHATEVER THE INPUT: true; the input reads as it did. -/
def fnExactCountRootedSpec : ChangeSpec := { name := "fnExactCountRooted", fn := fun _ => fun
  | [d1, d2] => { results := [.lit (.bool true)], args := [d1, d2] }
  | _ => none }
def fnExactCountRootedRow : OpenClaim := { program := "ytdoehnckolhloaa", sum := "ed5cc66e4432a4fb7d5a191c977c8ee4eca1df3cf41e6bdefe6a8182ff3cd967", func := "loop.example/g01200/laws.FnExactCountRooted", spec := "fnExactCountRooted", apart := false }
def FnExactCountRootedSaid : Prop := fnExactCountRootedRow.holds Try.pinned (OpenSpec.ofChange fnExactCountRootedSpec)

/-- ITS FALSE NEIGHBOUR: 'it returns false'. Refute it at one input. -/
def fnExactCountRootedWrong : ChangeSpec := { name := "fnExactCountRooted", fn := fun _ => fun
  | [d1, d2] => { results := [.lit (.bool false)], args := [d1, d2] }
  | _ => none }
def FnExactCountRootedWrongFalsely : Prop := fnExactCountRootedRow.holds Try.pinned (OpenSpec.ofChange fnExactCountRootedWrong)

/-- 'laws.FnExactLeavesOf': WHATEVER THE INPUT: true; the input reads as it did. -/
def fnExactLeavesOfSpec : ChangeSpec := { name := "fnExactLeavesOf", fn := fun _ => fun
  | [d] => { results := [.lit (.bool true)], args := [d] }
  | _ => none }
def fnExactLeavesOfRow : OpenClaim := { program := "ytdoehnckolhloaa", sum := "ed5cc66e4432a4fb7d5a191c977c8ee4eca1df3cf41e6bdefe6a8182ff3cd967", func := "loop.example/g01200/laws.FnExactLeavesOf", spec := "fnExactLeavesOf", apart := false }
def FnExactLeavesOfSaid : Prop := fnExactLeavesOfRow.holds Try.pinned (OpenSpec.ofChange fnExactLeavesOfSpec)

/-- ITS FALSE NEIGHBOUR: 'it returns false'. Refute it at one input. -/
def fnExactLeavesOfWrong : ChangeSpec := { name := "fnExactLeavesOf", fn := fun _ => fun
  | [d] => { results := [.lit (.bool false)], args := [d] }
  | _ => none }
def FnExactLeavesOfWrongFalsely : Prop := fnExactLeavesOfRow.holds Try.pinned (OpenSpec.ofChange fnExactLeavesOfWrong)

/-- 'laws.FnExactTreeOfWord': WHATEVER THE INPUT: true; the input reads as it did. -/
def fnExactTreeOfWordSpec : ChangeSpec := { name := "fnExactTreeOfWord", fn := fun _ => fun
  | [d] => { results := [.lit (.bool true)], args := [d] }
  | _ => none }
def fnExactTreeOfWordRow : OpenClaim := { program := "ytdoehnckolhloaa", sum := "ed5cc66e4432a4fb7d5a191c977c8ee4eca1df3cf41e6bdefe6a8182ff3cd967", func := "loop.example/g01200/laws.FnExactTreeOfWord", spec := "fnExactTreeOfWord", apart := false }
def FnExactTreeOfWordSaid : Prop := fnExactTreeOfWordRow.holds Try.pinned (OpenSpec.ofChange fnExactTreeOfWordSpec)

/-- ITS FALSE NEIGHBOUR: 'it returns false'. Refute it at one input. -/
def fnExactTreeOfWordWrong : ChangeSpec := { name := "fnExactTreeOfWord", fn := fun _ => fun
  | [d] => { results := [.lit (.bool false)], args := [d] }
  | _ => none }
def FnExactTreeOfWordWrongFalsely : Prop := fnExactTreeOfWordRow.holds Try.pinned (OpenSpec.ofChange fnExactTreeOfWordWrong)

/-- 'laws.FnExactWordOfTree': WHATEVER THE INPUT: true; the input reads as it did. -/
def fnExactWordOfTreeSpec : ChangeSpec := { name := "fnExactWordOfTree", fn := fun _ => fun
  | [d1, d2] => { results := [.lit (.bool true)], args := [d1, d2] }
  | _ => none }
def fnExactWordOfTreeRow : OpenClaim := { program := "ytdoehnckolhloaa", sum := "ed5cc66e4432a4fb7d5a191c977c8ee4eca1df3cf41e6bdefe6a8182ff3cd967", func := "loop.example/g01200/laws.FnExactWordOfTree", spec := "fnExactWordOfTree", inPlace := ["internal/abi.NoEscape"], recurses := true, apart := false }
def FnExactWordOfTreeSaid : Prop := fnExactWordOfTreeRow.holds Try.pinned (OpenSpec.ofChange fnExactWordOfTreeSpec)

/-- ITS FALSE NEIGHBOUR: 'it returns false'. Refute it at one input. -/
def fnExactWordOfTreeWrong : ChangeSpec := { name := "fnExactWordOfTree", fn := fun _ => fun
  | [d1, d2] => { results := [.lit (.bool false)], args := [d1, d2] }
  | _ => none }
def FnExactWordOfTreeWrongFalsely : Prop := fnExactWordOfTreeRow.holds Try.pinned (OpenSpec.ofChange fnExactWordOfTreeWrong)

/-- 'laws.FnExactDiameterOf': WHATEVER THE INPUT: true; the input reads as it did. -/
def fnExactDiameterOfSpec : ChangeSpec := { name := "fnExactDiameterOf", fn := fun _ => fun
  | [d] => { results := [.lit (.bool true)], args := [d] }
  | _ => none }
def fnExactDiameterOfRow : OpenClaim := { program := "ytdoehnckolhloaa", sum := "ed5cc66e4432a4fb7d5a191c977c8ee4eca1df3cf41e6bdefe6a8182ff3cd967", func := "loop.example/g01200/laws.FnExactDiameterOf", spec := "fnExactDiameterOf", recurses := true, apart := false }
def FnExactDiameterOfSaid : Prop := fnExactDiameterOfRow.holds Try.pinned (OpenSpec.ofChange fnExactDiameterOfSpec)

/-- ITS FALSE NEIGHBOUR: 'it returns false'. Refute it at one input. -/
def fnExactDiameterOfWrong : ChangeSpec := { name := "fnExactDiameterOf", fn := fun _ => fun
  | [d] => { results := [.lit (.bool false)], args := [d] }
  | _ => none }
def FnExactDiameterOfWrongFalsely : Prop := fnExactDiameterOfRow.holds Try.pinned (OpenSpec.ofChange fnExactDiameterOfWrong)

/-- 'laws.FnExactCentreOf': WHATEVER THE INPUT: true; the input reads as it did. -/
def fnExactCentreOfSpec : ChangeSpec := { name := "fnExactCentreOf", fn := fun _ => fun
  | [d] => { results := [.lit (.bool true)], args := [d] }
  | _ => none }
def fnExactCentreOfRow : OpenClaim := { program := "ytdoehnckolhloaa", sum := "ed5cc66e4432a4fb7d5a191c977c8ee4eca1df3cf41e6bdefe6a8182ff3cd967", func := "loop.example/g01200/laws.FnExactCentreOf", spec := "fnExactCentreOf", recurses := true, apart := false }
def FnExactCentreOfSaid : Prop := fnExactCentreOfRow.holds Try.pinned (OpenSpec.ofChange fnExactCentreOfSpec)

/-- ITS FALSE NEIGHBOUR: 'it returns false'. Refute it at one input. -/
def fnExactCentreOfWrong : ChangeSpec := { name := "fnExactCentreOf", fn := fun _ => fun
  | [d] => { results := [.lit (.bool false)], args := [d] }
  | _ => none }
def FnExactCentreOfWrongFalsely : Prop := fnExactCentreOfRow.holds Try.pinned (OpenSpec.ofChange fnExactCentreOfWrong)

/-- 'laws.FnExactWeightsOf': WHATEVER THE INPUT: true; the input reads as it did. -/
def fnExactWeightsOfSpec : ChangeSpec := { name := "fnExactWeightsOf", fn := fun _ => fun
  | [d1, d2, d3] => { results := [.lit (.bool true)], args := [d1, d2, d3] }
  | _ => none }
def fnExactWeightsOfRow : OpenClaim := { program := "ytdoehnckolhloaa", sum := "ed5cc66e4432a4fb7d5a191c977c8ee4eca1df3cf41e6bdefe6a8182ff3cd967", func := "loop.example/g01200/laws.FnExactWeightsOf", spec := "fnExactWeightsOf", unfollowed := true, recurses := true, leaving := true, apart := false }
def FnExactWeightsOfSaid : Prop := fnExactWeightsOfRow.holds Try.pinned (OpenSpec.ofChange fnExactWeightsOfSpec)

/-- ITS FALSE NEIGHBOUR: 'it returns false'. Refute it at one input. -/
def fnExactWeightsOfWrong : ChangeSpec := { name := "fnExactWeightsOf", fn := fun _ => fun
  | [d1, d2, d3] => { results := [.lit (.bool false)], args := [d1, d2, d3] }
  | _ => none }
def FnExactWeightsOfWrongFalsely : Prop := fnExactWeightsOfRow.holds Try.pinned (OpenSpec.ofChange fnExactWeightsOfWrong)

/-- 'laws.FnExactCanonicalWord': WHATEVER THE INPUT: true; the input reads as it did. -/
def fnExactCanonicalWordSpec : ChangeSpec := { name := "fnExactCanonicalWord", fn := fun _ => fun
  | [d] => { results := [.lit (.bool true)], args := [d] }
  | _ => none }
def fnExactCanonicalWordRow : OpenClaim := { program := "ytdoehnckolhloaa", sum := "ed5cc66e4432a4fb7d5a191c977c8ee4eca1df3cf41e6bdefe6a8182ff3cd967", func := "loop.example/g01200/laws.FnExactCanonicalWord", spec := "fnExactCanonicalWord", inPlace := ["internal/abi.NoEscape"], unfollowed := true, recurses := true, leaving := true, apart := false }
def FnExactCanonicalWordSaid : Prop := fnExactCanonicalWordRow.holds Try.pinned (OpenSpec.ofChange fnExactCanonicalWordSpec)

/-- ITS FALSE NEIGHBOUR: 'it returns false'. Refute it at one input. -/
def fnExactCanonicalWordWrong : ChangeSpec := { name := "fnExactCanonicalWord", fn := fun _ => fun
  | [d] => { results := [.lit (.bool false)], args := [d] }
  | _ => none }
def FnExactCanonicalWordWrongFalsely : Prop := fnExactCanonicalWordRow.holds Try.pinned (OpenSpec.ofChange fnExactCanonicalWordWrong)

/-- 'laws.FnExactSymmetryOf': WHATEVER THE INPUT: true; the input reads as it did. -/
def fnExactSymmetryOfSpec : ChangeSpec := { name := "fnExactSymmetryOf", fn := fun _ => fun
  | [d] => { results := [.lit (.bool true)], args := [d] }
  | _ => none }
def fnExactSymmetryOfRow : OpenClaim := { program := "ytdoehnckolhloaa", sum := "ed5cc66e4432a4fb7d5a191c977c8ee4eca1df3cf41e6bdefe6a8182ff3cd967", func := "loop.example/g01200/laws.FnExactSymmetryOf", spec := "fnExactSymmetryOf", inPlace := ["internal/abi.NoEscape"], unfollowed := true, recurses := true, leaving := true, apart := false }
def FnExactSymmetryOfSaid : Prop := fnExactSymmetryOfRow.holds Try.pinned (OpenSpec.ofChange fnExactSymmetryOfSpec)

/-- ITS FALSE NEIGHBOUR: 'it returns false'. Refute it at one input. -/
def fnExactSymmetryOfWrong : ChangeSpec := { name := "fnExactSymmetryOf", fn := fun _ => fun
  | [d] => { results := [.lit (.bool false)], args := [d] }
  | _ => none }
def FnExactSymmetryOfWrongFalsely : Prop := fnExactSymmetryOfRow.holds Try.pinned (OpenSpec.ofChange fnExactSymmetryOfWrong)

/-- 'laws.FnExactDerivedSeries': WHATEVER THE INPUT: true; the input reads as it did. -/
def fnExactDerivedSeriesSpec : ChangeSpec := { name := "fnExactDerivedSeries", fn := fun _ => fun
  | [d] => { results := [.lit (.bool true)], args := [d] }
  | _ => none }
def fnExactDerivedSeriesRow : OpenClaim := { program := "ytdoehnckolhloaa", sum := "ed5cc66e4432a4fb7d5a191c977c8ee4eca1df3cf41e6bdefe6a8182ff3cd967", func := "loop.example/g01200/laws.FnExactDerivedSeries", spec := "fnExactDerivedSeries", recurses := true, apart := false }
def FnExactDerivedSeriesSaid : Prop := fnExactDerivedSeriesRow.holds Try.pinned (OpenSpec.ofChange fnExactDerivedSeriesSpec)

/-- ITS FALSE NEIGHBOUR: 'it returns false'. Refute it at one input. -/
def fnExactDerivedSeriesWrong : ChangeSpec := { name := "fnExactDerivedSeries", fn := fun _ => fun
  | [d] => { results := [.lit (.bool false)], args := [d] }
  | _ => none }
def FnExactDerivedSeriesWrongFalsely : Prop := fnExactDerivedSeriesRow.holds Try.pinned (OpenSpec.ofChange fnExactDerivedSeriesWrong)

/-- 'laws.FnExactIsSolvable': WHATEVER THE INPUT: true; the input reads as it did. -/
def fnExactIsSolvableSpec : ChangeSpec := { name := "fnExactIsSolvable", fn := fun _ => fun
  | [d] => { results := [.lit (.bool true)], args := [d] }
  | _ => none }
def fnExactIsSolvableRow : OpenClaim := { program := "ytdoehnckolhloaa", sum := "ed5cc66e4432a4fb7d5a191c977c8ee4eca1df3cf41e6bdefe6a8182ff3cd967", func := "loop.example/g01200/laws.FnExactIsSolvable", spec := "fnExactIsSolvable", recurses := true, apart := false }
def FnExactIsSolvableSaid : Prop := fnExactIsSolvableRow.holds Try.pinned (OpenSpec.ofChange fnExactIsSolvableSpec)

/-- ITS FALSE NEIGHBOUR: 'it returns false'. Refute it at one input. -/
def fnExactIsSolvableWrong : ChangeSpec := { name := "fnExactIsSolvable", fn := fun _ => fun
  | [d] => { results := [.lit (.bool false)], args := [d] }
  | _ => none }
def FnExactIsSolvableWrongFalsely : Prop := fnExactIsSolvableRow.holds Try.pinned (OpenSpec.ofChange fnExactIsSolvableWrong)

/- THE SECOND FORM. 'bulk': how many values and letters a reading holds, each counted each time it is reached (what is shared counts as often as it is met; a slice's spare places count too). A statement '..UptoSaid' is the law's where the arguments, and the package variables that the reading takes, are together of bulk at most 1048576: NARROWER than '..Said'. Prove '..Said' where nothing that the law and all that it calls make is longer than what came in: it says more and counts as full. Else prove '..UptoSaid'. A law counts once. -/
mutual
def uptoBulk {H : Type} : DataW H → Nat
  | .lit (.string bytes) => bytes.length + 1
  | .lit _ => 1
  | .nil => 1
  | .ptr d => uptoBulk d + 1
  | .slice elems spare => uptoBulkAll elems + uptoBulkAll spare + 1
  | .agg parts => uptoBulkAll parts + 1
  | .iface _ d => uptoBulk d + 1
  | .map entries => uptoBulkEntries entries + 1
  | .held _ => 1
def uptoBulkAll {H : Type} : List (DataW H) → Nat
  | [] => 0
  | d :: r => uptoBulk d + uptoBulkAll r
def uptoBulkEntries {H : Type} : List (Lit × DataW H) → Nat
  | [] => 0
  | x :: r => uptoBulkEntry x + uptoBulkEntries r
def uptoBulkEntry {H : Type} : Lit × DataW H → Nat
  | (.string bytes, d) => bytes.length + uptoBulk d + 1
  | (_, d) => uptoBulk d + 1
 end
def uptoSmall : (H : Type) → List (DataW H) → Bool := fun _ ds => decide (uptoBulkAll ds ≤ 1048576)
def OpenSpec.upto (s : _root_.Go.ChangeSpec) : _root_.Go.OpenSpec := { _root_.Go.OpenSpec.ofChange s with cond := some uptoSmall }

/-- 'laws.FnExactIsTree', WHERE WHAT IT READS IS OF BULK AT MOST 1048576: true; the input reads as it did. -/
def fnExactIsTreeUptoRow : OpenClaim := { program := "ytdoehnckolhloaa", sum := "ed5cc66e4432a4fb7d5a191c977c8ee4eca1df3cf41e6bdefe6a8182ff3cd967", func := "loop.example/g01200/laws.FnExactIsTree", spec := "fnExactIsTree", apart := false, narrowed := true }
def FnExactIsTreeUptoSaid : Prop := fnExactIsTreeUptoRow.holds Try.pinned (OpenSpec.upto fnExactIsTreeSpec)

/-- 'laws.FnExactCountRooted', WHERE WHAT IT READS IS OF BULK AT MOST 1048576: true; the input reads as it did. -/
def fnExactCountRootedUptoRow : OpenClaim := { program := "ytdoehnckolhloaa", sum := "ed5cc66e4432a4fb7d5a191c977c8ee4eca1df3cf41e6bdefe6a8182ff3cd967", func := "loop.example/g01200/laws.FnExactCountRooted", spec := "fnExactCountRooted", apart := false, narrowed := true }
def FnExactCountRootedUptoSaid : Prop := fnExactCountRootedUptoRow.holds Try.pinned (OpenSpec.upto fnExactCountRootedSpec)

/-- 'laws.FnExactLeavesOf', WHERE WHAT IT READS IS OF BULK AT MOST 1048576: true; the input reads as it did. -/
def fnExactLeavesOfUptoRow : OpenClaim := { program := "ytdoehnckolhloaa", sum := "ed5cc66e4432a4fb7d5a191c977c8ee4eca1df3cf41e6bdefe6a8182ff3cd967", func := "loop.example/g01200/laws.FnExactLeavesOf", spec := "fnExactLeavesOf", apart := false, narrowed := true }
def FnExactLeavesOfUptoSaid : Prop := fnExactLeavesOfUptoRow.holds Try.pinned (OpenSpec.upto fnExactLeavesOfSpec)

/-- 'laws.FnExactTreeOfWord', WHERE WHAT IT READS IS OF BULK AT MOST 1048576: true; the input reads as it did. -/
def fnExactTreeOfWordUptoRow : OpenClaim := { program := "ytdoehnckolhloaa", sum := "ed5cc66e4432a4fb7d5a191c977c8ee4eca1df3cf41e6bdefe6a8182ff3cd967", func := "loop.example/g01200/laws.FnExactTreeOfWord", spec := "fnExactTreeOfWord", apart := false, narrowed := true }
def FnExactTreeOfWordUptoSaid : Prop := fnExactTreeOfWordUptoRow.holds Try.pinned (OpenSpec.upto fnExactTreeOfWordSpec)

/-- 'laws.FnExactWordOfTree', WHERE WHAT IT READS IS OF BULK AT MOST 1048576: true; the input reads as it did. -/
def fnExactWordOfTreeUptoRow : OpenClaim := { program := "ytdoehnckolhloaa", sum := "ed5cc66e4432a4fb7d5a191c977c8ee4eca1df3cf41e6bdefe6a8182ff3cd967", func := "loop.example/g01200/laws.FnExactWordOfTree", spec := "fnExactWordOfTree", inPlace := ["internal/abi.NoEscape"], recurses := true, apart := false, narrowed := true }
def FnExactWordOfTreeUptoSaid : Prop := fnExactWordOfTreeUptoRow.holds Try.pinned (OpenSpec.upto fnExactWordOfTreeSpec)

/-- 'laws.FnExactDiameterOf', WHERE WHAT IT READS IS OF BULK AT MOST 1048576: true; the input reads as it did. -/
def fnExactDiameterOfUptoRow : OpenClaim := { program := "ytdoehnckolhloaa", sum := "ed5cc66e4432a4fb7d5a191c977c8ee4eca1df3cf41e6bdefe6a8182ff3cd967", func := "loop.example/g01200/laws.FnExactDiameterOf", spec := "fnExactDiameterOf", recurses := true, apart := false, narrowed := true }
def FnExactDiameterOfUptoSaid : Prop := fnExactDiameterOfUptoRow.holds Try.pinned (OpenSpec.upto fnExactDiameterOfSpec)

/-- 'laws.FnExactCentreOf', WHERE WHAT IT READS IS OF BULK AT MOST 1048576: true; the input reads as it did. -/
def fnExactCentreOfUptoRow : OpenClaim := { program := "ytdoehnckolhloaa", sum := "ed5cc66e4432a4fb7d5a191c977c8ee4eca1df3cf41e6bdefe6a8182ff3cd967", func := "loop.example/g01200/laws.FnExactCentreOf", spec := "fnExactCentreOf", recurses := true, apart := false, narrowed := true }
def FnExactCentreOfUptoSaid : Prop := fnExactCentreOfUptoRow.holds Try.pinned (OpenSpec.upto fnExactCentreOfSpec)

/-- 'laws.FnExactWeightsOf', WHERE WHAT IT READS IS OF BULK AT MOST 1048576: true; the input reads as it did. -/
def fnExactWeightsOfUptoRow : OpenClaim := { program := "ytdoehnckolhloaa", sum := "ed5cc66e4432a4fb7d5a191c977c8ee4eca1df3cf41e6bdefe6a8182ff3cd967", func := "loop.example/g01200/laws.FnExactWeightsOf", spec := "fnExactWeightsOf", unfollowed := true, recurses := true, leaving := true, apart := false, narrowed := true }
def FnExactWeightsOfUptoSaid : Prop := fnExactWeightsOfUptoRow.holds Try.pinned (OpenSpec.upto fnExactWeightsOfSpec)

/-- 'laws.FnExactCanonicalWord', WHERE WHAT IT READS IS OF BULK AT MOST 1048576: true; the input reads as it did. -/
def fnExactCanonicalWordUptoRow : OpenClaim := { program := "ytdoehnckolhloaa", sum := "ed5cc66e4432a4fb7d5a191c977c8ee4eca1df3cf41e6bdefe6a8182ff3cd967", func := "loop.example/g01200/laws.FnExactCanonicalWord", spec := "fnExactCanonicalWord", inPlace := ["internal/abi.NoEscape"], unfollowed := true, recurses := true, leaving := true, apart := false, narrowed := true }
def FnExactCanonicalWordUptoSaid : Prop := fnExactCanonicalWordUptoRow.holds Try.pinned (OpenSpec.upto fnExactCanonicalWordSpec)

/-- 'laws.FnExactSymmetryOf', WHERE WHAT IT READS IS OF BULK AT MOST 1048576: true; the input reads as it did. -/
def fnExactSymmetryOfUptoRow : OpenClaim := { program := "ytdoehnckolhloaa", sum := "ed5cc66e4432a4fb7d5a191c977c8ee4eca1df3cf41e6bdefe6a8182ff3cd967", func := "loop.example/g01200/laws.FnExactSymmetryOf", spec := "fnExactSymmetryOf", inPlace := ["internal/abi.NoEscape"], unfollowed := true, recurses := true, leaving := true, apart := false, narrowed := true }
def FnExactSymmetryOfUptoSaid : Prop := fnExactSymmetryOfUptoRow.holds Try.pinned (OpenSpec.upto fnExactSymmetryOfSpec)

/-- 'laws.FnExactDerivedSeries', WHERE WHAT IT READS IS OF BULK AT MOST 1048576: true; the input reads as it did. -/
def fnExactDerivedSeriesUptoRow : OpenClaim := { program := "ytdoehnckolhloaa", sum := "ed5cc66e4432a4fb7d5a191c977c8ee4eca1df3cf41e6bdefe6a8182ff3cd967", func := "loop.example/g01200/laws.FnExactDerivedSeries", spec := "fnExactDerivedSeries", recurses := true, apart := false, narrowed := true }
def FnExactDerivedSeriesUptoSaid : Prop := fnExactDerivedSeriesUptoRow.holds Try.pinned (OpenSpec.upto fnExactDerivedSeriesSpec)

/-- 'laws.FnExactIsSolvable', WHERE WHAT IT READS IS OF BULK AT MOST 1048576: true; the input reads as it did. -/
def fnExactIsSolvableUptoRow : OpenClaim := { program := "ytdoehnckolhloaa", sum := "ed5cc66e4432a4fb7d5a191c977c8ee4eca1df3cf41e6bdefe6a8182ff3cd967", func := "loop.example/g01200/laws.FnExactIsSolvable", spec := "fnExactIsSolvable", recurses := true, apart := false, narrowed := true }
def FnExactIsSolvableUptoSaid : Prop := fnExactIsSolvableUptoRow.holds Try.pinned (OpenSpec.upto fnExactIsSolvableSpec)

end Rows
end Go.Proofs.Ytdoehnckolhloaa
