/-
  No cell of these rows narrows 'for every input' (looked for: loops, veiled, ifaces, maps, wideKeys, modest, calm, conditions, laid).
  DERIVED. THE GIVEN ROWS OF THIS SEAT. 12 by the template 'for every input the law returns true; each argument reads behind the call as it read before'; 0 by the template 'total and deterministic' (their statements: YtlmhnimpglookaaTotals.lean).
  GIVEN WITH THE SEED: the statements are not yours to turn. If you find one false, say at which input.
  Laid BY PROGRAM, IN A SANDBOX (cutbox-rows.mjs): the forced cells as the released guide's own fill.sh prints them over the translation 4bd70f9c09dfb530… (all of the seat's roots in one cut). By AI agents, Wed Nov 11 2026. No macro, syntax, notation, axiom, sorry.
-/
import Derived.Test.YtlmhnimpglookaaChecked
import GoSem.Claim
import GoSem.ClaimJoined
import GoSem.ClaimMapViews
import Derived.JoinedTies
import Derived.KernelRfl
namespace Go.Proofs.Ytlmhnimpglookaa
/- THE CELL 'sum', in the pinned program and in every row, IS THE sha256 OF THE DUMP (.gsa) THAT YtlmhnimpglookaaProg.lean LOADS. Nothing in Lean hashes anything: it is a label: what it is worth is what the hold of that sum in a sandbox is worth. -/
noncomputable def Try.pinned : Pinned := { name := "ytlmhnimpglookaa", sum := "4bd70f9c09dfb53090a075db321a96e39c516e4716725067609e3d2d96e95612", checked := Try.checked }
namespace Rows
def none {H : Type} : Left H := { results := [], args := [] }

/-- 'laws.FnExactIsType': WHATEVER THE INPUT: true; the input reads as it did. -/
def fnExactIsTypeSpec : ChangeSpec := { name := "fnExactIsType", fn := fun _ => fun
  | [d] => { results := [.lit (.bool true)], args := [d] }
  | _ => none }
def fnExactIsTypeRow : OpenClaim := { program := "ytlmhnimpglookaa", sum := "4bd70f9c09dfb53090a075db321a96e39c516e4716725067609e3d2d96e95612", func := "loop.example/g01200/laws.FnExactIsType", spec := "fnExactIsType", apart := false }
def FnExactIsTypeSaid : Prop := fnExactIsTypeRow.holds Try.pinned (OpenSpec.ofChange fnExactIsTypeSpec)

/-- ITS FALSE NEIGHBOUR: 'it returns false'. Refute it at one input. -/
def fnExactIsTypeWrong : ChangeSpec := { name := "fnExactIsType", fn := fun _ => fun
  | [d] => { results := [.lit (.bool false)], args := [d] }
  | _ => none }
def FnExactIsTypeWrongFalsely : Prop := fnExactIsTypeRow.holds Try.pinned (OpenSpec.ofChange fnExactIsTypeWrong)

/-- 'laws.FnExactTypesOf': WHATEVER THE INPUT: true; the input reads as it did. -/
def fnExactTypesOfSpec : ChangeSpec := { name := "fnExactTypesOf", fn := fun _ => fun
  | [d] => { results := [.lit (.bool true)], args := [d] }
  | _ => none }
def fnExactTypesOfRow : OpenClaim := { program := "ytlmhnimpglookaa", sum := "4bd70f9c09dfb53090a075db321a96e39c516e4716725067609e3d2d96e95612", func := "loop.example/g01200/laws.FnExactTypesOf", spec := "fnExactTypesOf", recurses := true, apart := false }
def FnExactTypesOfSaid : Prop := fnExactTypesOfRow.holds Try.pinned (OpenSpec.ofChange fnExactTypesOfSpec)

/-- ITS FALSE NEIGHBOUR: 'it returns false'. Refute it at one input. -/
def fnExactTypesOfWrong : ChangeSpec := { name := "fnExactTypesOf", fn := fun _ => fun
  | [d] => { results := [.lit (.bool false)], args := [d] }
  | _ => none }
def FnExactTypesOfWrongFalsely : Prop := fnExactTypesOfRow.holds Try.pinned (OpenSpec.ofChange fnExactTypesOfWrong)

/-- 'laws.FnExactIsPassport': WHATEVER THE INPUT: true; the input reads as it did. -/
def fnExactIsPassportSpec : ChangeSpec := { name := "fnExactIsPassport", fn := fun _ => fun
  | [d] => { results := [.lit (.bool true)], args := [d] }
  | _ => none }
def fnExactIsPassportRow : OpenClaim := { program := "ytlmhnimpglookaa", sum := "4bd70f9c09dfb53090a075db321a96e39c516e4716725067609e3d2d96e95612", func := "loop.example/g01200/laws.FnExactIsPassport", spec := "fnExactIsPassport", apart := false }
def FnExactIsPassportSaid : Prop := fnExactIsPassportRow.holds Try.pinned (OpenSpec.ofChange fnExactIsPassportSpec)

/-- ITS FALSE NEIGHBOUR: 'it returns false'. Refute it at one input. -/
def fnExactIsPassportWrong : ChangeSpec := { name := "fnExactIsPassport", fn := fun _ => fun
  | [d] => { results := [.lit (.bool false)], args := [d] }
  | _ => none }
def FnExactIsPassportWrongFalsely : Prop := fnExactIsPassportRow.holds Try.pinned (OpenSpec.ofChange fnExactIsPassportWrong)

/-- 'laws.FnExactEulerOfPassport': WHATEVER THE INPUT: true; the input reads as it did. -/
def fnExactEulerOfPassportSpec : ChangeSpec := { name := "fnExactEulerOfPassport", fn := fun _ => fun
  | [d] => { results := [.lit (.bool true)], args := [d] }
  | _ => none }
def fnExactEulerOfPassportRow : OpenClaim := { program := "ytlmhnimpglookaa", sum := "4bd70f9c09dfb53090a075db321a96e39c516e4716725067609e3d2d96e95612", func := "loop.example/g01200/laws.FnExactEulerOfPassport", spec := "fnExactEulerOfPassport", apart := false }
def FnExactEulerOfPassportSaid : Prop := fnExactEulerOfPassportRow.holds Try.pinned (OpenSpec.ofChange fnExactEulerOfPassportSpec)

/-- ITS FALSE NEIGHBOUR: 'it returns false'. Refute it at one input. -/
def fnExactEulerOfPassportWrong : ChangeSpec := { name := "fnExactEulerOfPassport", fn := fun _ => fun
  | [d] => { results := [.lit (.bool false)], args := [d] }
  | _ => none }
def FnExactEulerOfPassportWrongFalsely : Prop := fnExactEulerOfPassportRow.holds Try.pinned (OpenSpec.ofChange fnExactEulerOfPassportWrong)

/-- 'laws.FnExactCentraliserOf': WHATEVER THE INPUT: true; the input reads as it did. -/
def fnExactCentraliserOfSpec : ChangeSpec := { name := "fnExactCentraliserOf", fn := fun _ => fun
  | [d] => { results := [.lit (.bool true)], args := [d] }
  | _ => none }
def fnExactCentraliserOfRow : OpenClaim := { program := "ytlmhnimpglookaa", sum := "4bd70f9c09dfb53090a075db321a96e39c516e4716725067609e3d2d96e95612", func := "loop.example/g01200/laws.FnExactCentraliserOf", spec := "fnExactCentraliserOf", apart := false }
def FnExactCentraliserOfSaid : Prop := fnExactCentraliserOfRow.holds Try.pinned (OpenSpec.ofChange fnExactCentraliserOfSpec)

/-- ITS FALSE NEIGHBOUR: 'it returns false'. Refute it at one input. -/
def fnExactCentraliserOfWrong : ChangeSpec := { name := "fnExactCentraliserOf", fn := fun _ => fun
  | [d] => { results := [.lit (.bool false)], args := [d] }
  | _ => none }
def FnExactCentraliserOfWrongFalsely : Prop := fnExactCentraliserOfRow.holds Try.pinned (OpenSpec.ofChange fnExactCentraliserOfWrong)

/-- 'laws.FnExactCountSubgroups': WHATEVER THE INPUT: true; the input reads as it did. -/
def fnExactCountSubgroupsSpec : ChangeSpec := { name := "fnExactCountSubgroups", fn := fun _ => fun
  | [d] => { results := [.lit (.bool true)], args := [d] }
  | _ => none }
def fnExactCountSubgroupsRow : OpenClaim := { program := "ytlmhnimpglookaa", sum := "4bd70f9c09dfb53090a075db321a96e39c516e4716725067609e3d2d96e95612", func := "loop.example/g01200/laws.FnExactCountSubgroups", spec := "fnExactCountSubgroups", apart := false }
def FnExactCountSubgroupsSaid : Prop := fnExactCountSubgroupsRow.holds Try.pinned (OpenSpec.ofChange fnExactCountSubgroupsSpec)

/-- ITS FALSE NEIGHBOUR: 'it returns false'. Refute it at one input. -/
def fnExactCountSubgroupsWrong : ChangeSpec := { name := "fnExactCountSubgroups", fn := fun _ => fun
  | [d] => { results := [.lit (.bool false)], args := [d] }
  | _ => none }
def FnExactCountSubgroupsWrongFalsely : Prop := fnExactCountSubgroupsRow.holds Try.pinned (OpenSpec.ofChange fnExactCountSubgroupsWrong)

/-- 'laws.FnExactGroupOrder': WHATEVER THE INPUT: true; the input reads as it did. -/
def fnExactGroupOrderSpec : ChangeSpec := { name := "fnExactGroupOrder", fn := fun _ => fun
  | [d] => { results := [.lit (.bool true)], args := [d] }
  | _ => none }
def fnExactGroupOrderRow : OpenClaim := { program := "ytlmhnimpglookaa", sum := "4bd70f9c09dfb53090a075db321a96e39c516e4716725067609e3d2d96e95612", func := "loop.example/g01200/laws.FnExactGroupOrder", spec := "fnExactGroupOrder", recurses := true, apart := false }
def FnExactGroupOrderSaid : Prop := fnExactGroupOrderRow.holds Try.pinned (OpenSpec.ofChange fnExactGroupOrderSpec)

/-- ITS FALSE NEIGHBOUR: 'it returns false'. Refute it at one input. -/
def fnExactGroupOrderWrong : ChangeSpec := { name := "fnExactGroupOrder", fn := fun _ => fun
  | [d] => { results := [.lit (.bool false)], args := [d] }
  | _ => none }
def FnExactGroupOrderWrongFalsely : Prop := fnExactGroupOrderRow.holds Try.pinned (OpenSpec.ofChange fnExactGroupOrderWrong)

/-- 'laws.FnExactInGroup': WHATEVER THE INPUT: true; the input reads as it did. -/
def fnExactInGroupSpec : ChangeSpec := { name := "fnExactInGroup", fn := fun _ => fun
  | [d1, d2] => { results := [.lit (.bool true)], args := [d1, d2] }
  | _ => none }
def fnExactInGroupRow : OpenClaim := { program := "ytlmhnimpglookaa", sum := "4bd70f9c09dfb53090a075db321a96e39c516e4716725067609e3d2d96e95612", func := "loop.example/g01200/laws.FnExactInGroup", spec := "fnExactInGroup", recurses := true, apart := false }
def FnExactInGroupSaid : Prop := fnExactInGroupRow.holds Try.pinned (OpenSpec.ofChange fnExactInGroupSpec)

/-- ITS FALSE NEIGHBOUR: 'it returns false'. Refute it at one input. -/
def fnExactInGroupWrong : ChangeSpec := { name := "fnExactInGroup", fn := fun _ => fun
  | [d1, d2] => { results := [.lit (.bool false)], args := [d1, d2] }
  | _ => none }
def FnExactInGroupWrongFalsely : Prop := fnExactInGroupRow.holds Try.pinned (OpenSpec.ofChange fnExactInGroupWrong)

/-- 'laws.FnExactIsRegular': WHATEVER THE INPUT: true; the input reads as it did. -/
def fnExactIsRegularSpec : ChangeSpec := { name := "fnExactIsRegular", fn := fun _ => fun
  | [d] => { results := [.lit (.bool true)], args := [d] }
  | _ => none }
def fnExactIsRegularRow : OpenClaim := { program := "ytlmhnimpglookaa", sum := "4bd70f9c09dfb53090a075db321a96e39c516e4716725067609e3d2d96e95612", func := "loop.example/g01200/laws.FnExactIsRegular", spec := "fnExactIsRegular", recurses := true, apart := false }
def FnExactIsRegularSaid : Prop := fnExactIsRegularRow.holds Try.pinned (OpenSpec.ofChange fnExactIsRegularSpec)

/-- ITS FALSE NEIGHBOUR: 'it returns false'. Refute it at one input. -/
def fnExactIsRegularWrong : ChangeSpec := { name := "fnExactIsRegular", fn := fun _ => fun
  | [d] => { results := [.lit (.bool false)], args := [d] }
  | _ => none }
def FnExactIsRegularWrongFalsely : Prop := fnExactIsRegularRow.holds Try.pinned (OpenSpec.ofChange fnExactIsRegularWrong)

/-- 'laws.FnExactValueOfWord': WHATEVER THE INPUT: true; the input reads as it did. -/
def fnExactValueOfWordSpec : ChangeSpec := { name := "fnExactValueOfWord", fn := fun _ => fun
  | [d1, d2] => { results := [.lit (.bool true)], args := [d1, d2] }
  | _ => none }
def fnExactValueOfWordRow : OpenClaim := { program := "ytlmhnimpglookaa", sum := "4bd70f9c09dfb53090a075db321a96e39c516e4716725067609e3d2d96e95612", func := "loop.example/g01200/laws.FnExactValueOfWord", spec := "fnExactValueOfWord", unfollowed := true, recurses := true, apart := false }
def FnExactValueOfWordSaid : Prop := fnExactValueOfWordRow.holds Try.pinned (OpenSpec.ofChange fnExactValueOfWordSpec)

/-- ITS FALSE NEIGHBOUR: 'it returns false'. Refute it at one input. -/
def fnExactValueOfWordWrong : ChangeSpec := { name := "fnExactValueOfWord", fn := fun _ => fun
  | [d1, d2] => { results := [.lit (.bool false)], args := [d1, d2] }
  | _ => none }
def FnExactValueOfWordWrongFalsely : Prop := fnExactValueOfWordRow.holds Try.pinned (OpenSpec.ofChange fnExactValueOfWordWrong)

/-- 'laws.FnExactOrderOfWord': WHATEVER THE INPUT: true; the input reads as it did. -/
def fnExactOrderOfWordSpec : ChangeSpec := { name := "fnExactOrderOfWord", fn := fun _ => fun
  | [d1, d2] => { results := [.lit (.bool true)], args := [d1, d2] }
  | _ => none }
def fnExactOrderOfWordRow : OpenClaim := { program := "ytlmhnimpglookaa", sum := "4bd70f9c09dfb53090a075db321a96e39c516e4716725067609e3d2d96e95612", func := "loop.example/g01200/laws.FnExactOrderOfWord", spec := "fnExactOrderOfWord", unfollowed := true, recurses := true, apart := false }
def FnExactOrderOfWordSaid : Prop := fnExactOrderOfWordRow.holds Try.pinned (OpenSpec.ofChange fnExactOrderOfWordSpec)

/-- ITS FALSE NEIGHBOUR: 'it returns false'. Refute it at one input. -/
def fnExactOrderOfWordWrong : ChangeSpec := { name := "fnExactOrderOfWord", fn := fun _ => fun
  | [d1, d2] => { results := [.lit (.bool false)], args := [d1, d2] }
  | _ => none }
def FnExactOrderOfWordWrongFalsely : Prop := fnExactOrderOfWordRow.holds Try.pinned (OpenSpec.ofChange fnExactOrderOfWordWrong)

/-- 'laws.FnExactBlocksOf': WHATEVER THE INPUT: true; the input reads as it did. -/
def fnExactBlocksOfSpec : ChangeSpec := { name := "fnExactBlocksOf", fn := fun _ => fun
  | [d] => { results := [.lit (.bool true)], args := [d] }
  | _ => none }
def fnExactBlocksOfRow : OpenClaim := { program := "ytlmhnimpglookaa", sum := "4bd70f9c09dfb53090a075db321a96e39c516e4716725067609e3d2d96e95612", func := "loop.example/g01200/laws.FnExactBlocksOf", spec := "fnExactBlocksOf", unfollowed := true, recurses := true, apart := false }
def FnExactBlocksOfSaid : Prop := fnExactBlocksOfRow.holds Try.pinned (OpenSpec.ofChange fnExactBlocksOfSpec)

/-- ITS FALSE NEIGHBOUR: 'it returns false'. Refute it at one input. -/
def fnExactBlocksOfWrong : ChangeSpec := { name := "fnExactBlocksOf", fn := fun _ => fun
  | [d] => { results := [.lit (.bool false)], args := [d] }
  | _ => none }
def FnExactBlocksOfWrongFalsely : Prop := fnExactBlocksOfRow.holds Try.pinned (OpenSpec.ofChange fnExactBlocksOfWrong)

/- THE SECOND FORM. 'bulk': how many values and letters a reading holds, each counted each time it is reached (what is shared counts as often as it is met; a slice's spare places count too). A statement '..UptoSaid' is the law's where the arguments, and the package variables that the reading takes, are together of bulk at most 1048576: NARROWER than '..Said'. Prove '..Said' where nothing that the law and all that it calls make is longer than what came in: it says more and counts as full. Else prove '..UptoSaid'. A law counts once. -/
mutual
def uptoBulk {H : Type} : DataW H → Nat
  | .lit (.string bytes) => bytes.length + 1
  | .lit _ => 1
  | .nil => 1
  | .ptr d => uptoBulk d + 1
  | .slice elems spare => uptoBulkAll elems + uptoBulkAll spare + 1
  | .agg parts => uptoBulkAll parts + 1
  | .iface _ d => uptoBulk d + 1
  | .map entries => uptoBulkEntries entries + 1
  | .held _ => 1
def uptoBulkAll {H : Type} : List (DataW H) → Nat
  | [] => 0
  | d :: r => uptoBulk d + uptoBulkAll r
def uptoBulkEntries {H : Type} : List (Lit × DataW H) → Nat
  | [] => 0
  | x :: r => uptoBulkEntry x + uptoBulkEntries r
def uptoBulkEntry {H : Type} : Lit × DataW H → Nat
  | (.string bytes, d) => bytes.length + uptoBulk d + 1
  | (_, d) => uptoBulk d + 1
 end
def uptoSmall : (H : Type) → List (DataW H) → Bool := fun _ ds => decide (uptoBulkAll ds ≤ 1048576)
def OpenSpec.upto (s : _root_.Go.ChangeSpec) : _root_.Go.OpenSpec := { _root_.Go.OpenSpec.ofChange s with cond := some uptoSmall }

/-- 'laws.FnExactIsType', WHERE WHAT IT READS IS OF BULK AT MOST 1048576: true; the input reads as it did. -/
def fnExactIsTypeUptoRow : OpenClaim := { program := "ytlmhnimpglookaa", sum := "4bd70f9c09dfb53090a075db321a96e39c516e4716725067609e3d2d96e95612", func := "loop.example/g01200/laws.FnExactIsType", spec := "fnExactIsType", apart := false, narrowed := true }
def FnExactIsTypeUptoSaid : Prop := fnExactIsTypeUptoRow.holds Try.pinned (OpenSpec.upto fnExactIsTypeSpec)

/-- 'laws.FnExactTypesOf', WHERE WHAT IT READS IS OF BULK AT MOST 1048576: true; the input reads as it did. -/
def fnExactTypesOfUptoRow : OpenClaim := { program := "ytlmhnimpglookaa", sum := "4bd70f9c09dfb53090a075db321a96e39c516e4716725067609e3d2d96e95612", func := "loop.example/g01200/laws.FnExactTypesOf", spec := "fnExactTypesOf", recurses := true, apart := false, narrowed := true }
def FnExactTypesOfUptoSaid : Prop := fnExactTypesOfUptoRow.holds Try.pinned (OpenSpec.upto fnExactTypesOfSpec)

/-- 'laws.FnExactIsPassport', WHERE WHAT IT READS IS OF BULK AT MOST 1048576: true; the input reads as it did. -/
def fnExactIsPassportUptoRow : OpenClaim := { program := "ytlmhnimpglookaa", sum := "4bd70f9c09dfb53090a075db321a96e39c516e4716725067609e3d2d96e95612", func := "loop.example/g01200/laws.FnExactIsPassport", spec := "fnExactIsPassport", apart := false, narrowed := true }
def FnExactIsPassportUptoSaid : Prop := fnExactIsPassportUptoRow.holds Try.pinned (OpenSpec.upto fnExactIsPassportSpec)

/-- 'laws.FnExactEulerOfPassport', WHERE WHAT IT READS IS OF BULK AT MOST 1048576: true; the input reads as it did. -/
def fnExactEulerOfPassportUptoRow : OpenClaim := { program := "ytlmhnimpglookaa", sum := "4bd70f9c09dfb53090a075db321a96e39c516e4716725067609e3d2d96e95612", func := "loop.example/g01200/laws.FnExactEulerOfPassport", spec := "fnExactEulerOfPassport", apart := false, narrowed := true }
def FnExactEulerOfPassportUptoSaid : Prop := fnExactEulerOfPassportUptoRow.holds Try.pinned (OpenSpec.upto fnExactEulerOfPassportSpec)

/-- 'laws.FnExactCentraliserOf', WHERE WHAT IT READS IS OF BULK AT MOST 1048576: true; the input reads as it did. -/
def fnExactCentraliserOfUptoRow : OpenClaim := { program := "ytlmhnimpglookaa", sum := "4bd70f9c09dfb53090a075db321a96e39c516e4716725067609e3d2d96e95612", func := "loop.example/g01200/laws.FnExactCentraliserOf", spec := "fnExactCentraliserOf", apart := false, narrowed := true }
def FnExactCentraliserOfUptoSaid : Prop := fnExactCentraliserOfUptoRow.holds Try.pinned (OpenSpec.upto fnExactCentraliserOfSpec)

/-- 'laws.FnExactCountSubgroups', WHERE WHAT IT READS IS OF BULK AT MOST 1048576: true; the input reads as it did. -/
def fnExactCountSubgroupsUptoRow : OpenClaim := { program := "ytlmhnimpglookaa", sum := "4bd70f9c09dfb53090a075db321a96e39c516e4716725067609e3d2d96e95612", func := "loop.example/g01200/laws.FnExactCountSubgroups", spec := "fnExactCountSubgroups", apart := false, narrowed := true }
def FnExactCountSubgroupsUptoSaid : Prop := fnExactCountSubgroupsUptoRow.holds Try.pinned (OpenSpec.upto fnExactCountSubgroupsSpec)

/-- 'laws.FnExactGroupOrder', WHERE WHAT IT READS IS OF BULK AT MOST 1048576: true; the input reads as it did. -/
def fnExactGroupOrderUptoRow : OpenClaim := { program := "ytlmhnimpglookaa", sum := "4bd70f9c09dfb53090a075db321a96e39c516e4716725067609e3d2d96e95612", func := "loop.example/g01200/laws.FnExactGroupOrder", spec := "fnExactGroupOrder", recurses := true, apart := false, narrowed := true }
def FnExactGroupOrderUptoSaid : Prop := fnExactGroupOrderUptoRow.holds Try.pinned (OpenSpec.upto fnExactGroupOrderSpec)

/-- 'laws.FnExactInGroup', WHERE WHAT IT READS IS OF BULK AT MOST 1048576: true; the input reads as it did. -/
def fnExactInGroupUptoRow : OpenClaim := { program := "ytlmhnimpglookaa", sum := "4bd70f9c09dfb53090a075db321a96e39c516e4716725067609e3d2d96e95612", func := "loop.example/g01200/laws.FnExactInGroup", spec := "fnExactInGroup", recurses := true, apart := false, narrowed := true }
def FnExactInGroupUptoSaid : Prop := fnExactInGroupUptoRow.holds Try.pinned (OpenSpec.upto fnExactInGroupSpec)

/-- 'laws.FnExactIsRegular', WHERE WHAT IT READS IS OF BULK AT MOST 1048576: true; the input reads as it did. -/
def fnExactIsRegularUptoRow : OpenClaim := { program := "ytlmhnimpglookaa", sum := "4bd70f9c09dfb53090a075db321a96e39c516e4716725067609e3d2d96e95612", func := "loop.example/g01200/laws.FnExactIsRegular", spec := "fnExactIsRegular", recurses := true, apart := false, narrowed := true }
def FnExactIsRegularUptoSaid : Prop := fnExactIsRegularUptoRow.holds Try.pinned (OpenSpec.upto fnExactIsRegularSpec)

/-- 'laws.FnExactValueOfWord', WHERE WHAT IT READS IS OF BULK AT MOST 1048576: true; the input reads as it did. -/
def fnExactValueOfWordUptoRow : OpenClaim := { program := "ytlmhnimpglookaa", sum := "4bd70f9c09dfb53090a075db321a96e39c516e4716725067609e3d2d96e95612", func := "loop.example/g01200/laws.FnExactValueOfWord", spec := "fnExactValueOfWord", unfollowed := true, recurses := true, apart := false, narrowed := true }
def FnExactValueOfWordUptoSaid : Prop := fnExactValueOfWordUptoRow.holds Try.pinned (OpenSpec.upto fnExactValueOfWordSpec)

/-- 'laws.FnExactOrderOfWord', WHERE WHAT IT READS IS OF BULK AT MOST 1048576: true; the input reads as it did. -/
def fnExactOrderOfWordUptoRow : OpenClaim := { program := "ytlmhnimpglookaa", sum := "4bd70f9c09dfb53090a075db321a96e39c516e4716725067609e3d2d96e95612", func := "loop.example/g01200/laws.FnExactOrderOfWord", spec := "fnExactOrderOfWord", unfollowed := true, recurses := true, apart := false, narrowed := true }
def FnExactOrderOfWordUptoSaid : Prop := fnExactOrderOfWordUptoRow.holds Try.pinned (OpenSpec.upto fnExactOrderOfWordSpec)

/-- 'laws.FnExactBlocksOf', WHERE WHAT IT READS IS OF BULK AT MOST 1048576: true; the input reads as it did. -/
def fnExactBlocksOfUptoRow : OpenClaim := { program := "ytlmhnimpglookaa", sum := "4bd70f9c09dfb53090a075db321a96e39c516e4716725067609e3d2d96e95612", func := "loop.example/g01200/laws.FnExactBlocksOf", spec := "fnExactBlocksOf", unfollowed := true, recurses := true, apart := false, narrowed := true }
def FnExactBlocksOfUptoSaid : Prop := fnExactBlocksOfUptoRow.holds Try.pinned (OpenSpec.upto fnExactBlocksOfSpec)

end Rows
end Go.Proofs.Ytlmhnimpglookaa
