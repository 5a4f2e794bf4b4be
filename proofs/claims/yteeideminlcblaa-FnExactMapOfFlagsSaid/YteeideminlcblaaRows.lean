/-
  No cell of these rows narrows 'for every input' (looked for: loops, veiled, ifaces, maps, wideKeys, modest, calm, conditions, laid).
  DERIVED. THE GIVEN ROWS OF THIS SEAT. 7 by the template 'for every input the law returns true; each argument reads behind the call as it read before'; 0 by the template 'total and deterministic' (their statements: YteeideminlcblaaTotals.lean).
  GIVEN WITH THE SEED: the statements are not yours to turn. If you find one false, say at which input.
  Laid BY PROGRAM, IN A SANDBOX (cutbox-rows.mjs): the forced cells as the released guide's own fill.sh prints them over the translation fcbe8a7892a7260e… (all of the seat's roots in one cut). By AI agents, Wed Nov 11 2026. No macro, syntax, notation, axiom, sorry.
-/
import Derived.Test.YteeideminlcblaaChecked
import GoSem.Claim
import GoSem.ClaimJoined
import GoSem.ClaimMapViews
import Derived.JoinedTies
import Derived.KernelRfl
namespace Go.Proofs.Yteeideminlcblaa
/- THE CELL 'sum', in the pinned program and in every row, IS THE sha256 OF THE DUMP (.gsa) THAT YteeideminlcblaaProg.lean LOADS. Nothing in Lean hashes anything: it is a label: what it is worth is what the hold of that sum in a sandbox is worth. -/
noncomputable def Try.pinned : Pinned := { name := "yteeideminlcblaa", sum := "fcbe8a7892a7260e35f0b06022cfbbfaaad5c9355ffa31c554ef18d292c428fc", checked := Try.checked }
namespace Rows
def none {H : Type} : Left H := { results := [], args := [] }

/-- 'laws.FnExactTriangleRelations': WHATEVER THE INPUT: true; the input reads as it did. -/
def fnExactTriangleRelationsSpec : ChangeSpec := { name := "fnExactTriangleRelations", fn := fun _ => fun
  | [d1, d2, d3] => { results := [.lit (.bool true)], args := [d1, d2, d3] }
  | _ => none }
def fnExactTriangleRelationsRow : OpenClaim := { program := "yteeideminlcblaa", sum := "fcbe8a7892a7260e35f0b06022cfbbfaaad5c9355ffa31c554ef18d292c428fc", func := "loop.example/g01200/laws.FnExactTriangleRelations", spec := "fnExactTriangleRelations", inPlace := ["internal/abi.NoEscape", "internal/bytealg.MakeNoZero"], unfollowed := true, recurses := true, apart := false }
def FnExactTriangleRelationsSaid : Prop := fnExactTriangleRelationsRow.holds Try.pinned (OpenSpec.ofChange fnExactTriangleRelationsSpec)

/-- ITS FALSE NEIGHBOUR: 'it returns false'. Refute it at one input. -/
def fnExactTriangleRelationsWrong : ChangeSpec := { name := "fnExactTriangleRelations", fn := fun _ => fun
  | [d1, d2, d3] => { results := [.lit (.bool false)], args := [d1, d2, d3] }
  | _ => none }
def FnExactTriangleRelationsWrongFalsely : Prop := fnExactTriangleRelationsRow.holds Try.pinned (OpenSpec.ofChange fnExactTriangleRelationsWrong)

/-- 'laws.FnExactIsTable': WHATEVER THE INPUT: true; the input reads as it did. -/
def fnExactIsTableSpec : ChangeSpec := { name := "fnExactIsTable", fn := fun _ => fun
  | [d] => { results := [.lit (.bool true)], args := [d] }
  | _ => none }
def fnExactIsTableRow : OpenClaim := { program := "yteeideminlcblaa", sum := "fcbe8a7892a7260e35f0b06022cfbbfaaad5c9355ffa31c554ef18d292c428fc", func := "loop.example/g01200/laws.FnExactIsTable", spec := "fnExactIsTable", apart := false }
def FnExactIsTableSaid : Prop := fnExactIsTableRow.holds Try.pinned (OpenSpec.ofChange fnExactIsTableSpec)

/-- ITS FALSE NEIGHBOUR: 'it returns false'. Refute it at one input. -/
def fnExactIsTableWrong : ChangeSpec := { name := "fnExactIsTable", fn := fun _ => fun
  | [d] => { results := [.lit (.bool false)], args := [d] }
  | _ => none }
def FnExactIsTableWrongFalsely : Prop := fnExactIsTableRow.holds Try.pinned (OpenSpec.ofChange fnExactIsTableWrong)

/-- 'laws.FnExactDessinOfTable': WHATEVER THE INPUT: true; the input reads as it did. -/
def fnExactDessinOfTableSpec : ChangeSpec := { name := "fnExactDessinOfTable", fn := fun _ => fun
  | [d] => { results := [.lit (.bool true)], args := [d] }
  | _ => none }
def fnExactDessinOfTableRow : OpenClaim := { program := "yteeideminlcblaa", sum := "fcbe8a7892a7260e35f0b06022cfbbfaaad5c9355ffa31c554ef18d292c428fc", func := "loop.example/g01200/laws.FnExactDessinOfTable", spec := "fnExactDessinOfTable", apart := false }
def FnExactDessinOfTableSaid : Prop := fnExactDessinOfTableRow.holds Try.pinned (OpenSpec.ofChange fnExactDessinOfTableSpec)

/-- ITS FALSE NEIGHBOUR: 'it returns false'. Refute it at one input. -/
def fnExactDessinOfTableWrong : ChangeSpec := { name := "fnExactDessinOfTable", fn := fun _ => fun
  | [d] => { results := [.lit (.bool false)], args := [d] }
  | _ => none }
def FnExactDessinOfTableWrongFalsely : Prop := fnExactDessinOfTableRow.holds Try.pinned (OpenSpec.ofChange fnExactDessinOfTableWrong)

/-- 'laws.FnExactTableOfDessin': WHATEVER THE INPUT: true; the input reads as it did. -/
def fnExactTableOfDessinSpec : ChangeSpec := { name := "fnExactTableOfDessin", fn := fun _ => fun
  | [d1, d2] => { results := [.lit (.bool true)], args := [d1, d2] }
  | _ => none }
def fnExactTableOfDessinRow : OpenClaim := { program := "yteeideminlcblaa", sum := "fcbe8a7892a7260e35f0b06022cfbbfaaad5c9355ffa31c554ef18d292c428fc", func := "loop.example/g01200/laws.FnExactTableOfDessin", spec := "fnExactTableOfDessin", apart := false }
def FnExactTableOfDessinSaid : Prop := fnExactTableOfDessinRow.holds Try.pinned (OpenSpec.ofChange fnExactTableOfDessinSpec)

/-- ITS FALSE NEIGHBOUR: 'it returns false'. Refute it at one input. -/
def fnExactTableOfDessinWrong : ChangeSpec := { name := "fnExactTableOfDessin", fn := fun _ => fun
  | [d1, d2] => { results := [.lit (.bool false)], args := [d1, d2] }
  | _ => none }
def FnExactTableOfDessinWrongFalsely : Prop := fnExactTableOfDessinRow.holds Try.pinned (OpenSpec.ofChange fnExactTableOfDessinWrong)

/-- 'laws.FnExactStabiliserWords': WHATEVER THE INPUT: true; the input reads as it did. -/
def fnExactStabiliserWordsSpec : ChangeSpec := { name := "fnExactStabiliserWords", fn := fun _ => fun
  | [d] => { results := [.lit (.bool true)], args := [d] }
  | _ => none }
def fnExactStabiliserWordsRow : OpenClaim := { program := "yteeideminlcblaa", sum := "fcbe8a7892a7260e35f0b06022cfbbfaaad5c9355ffa31c554ef18d292c428fc", func := "loop.example/g01200/laws.FnExactStabiliserWords", spec := "fnExactStabiliserWords", inPlace := ["internal/bytealg.IndexByteString"], unfollowed := true, recurses := true, apart := false }
def FnExactStabiliserWordsSaid : Prop := fnExactStabiliserWordsRow.holds Try.pinned (OpenSpec.ofChange fnExactStabiliserWordsSpec)

/-- ITS FALSE NEIGHBOUR: 'it returns false'. Refute it at one input. -/
def fnExactStabiliserWordsWrong : ChangeSpec := { name := "fnExactStabiliserWords", fn := fun _ => fun
  | [d] => { results := [.lit (.bool false)], args := [d] }
  | _ => none }
def FnExactStabiliserWordsWrongFalsely : Prop := fnExactStabiliserWordsRow.holds Try.pinned (OpenSpec.ofChange fnExactStabiliserWordsWrong)

/-- 'laws.FnExactIsOrientable': WHATEVER THE INPUT: true; the input reads as it did. -/
def fnExactIsOrientableSpec : ChangeSpec := { name := "fnExactIsOrientable", fn := fun _ => fun
  | [d] => { results := [.lit (.bool true)], args := [d] }
  | _ => none }
def fnExactIsOrientableRow : OpenClaim := { program := "yteeideminlcblaa", sum := "fcbe8a7892a7260e35f0b06022cfbbfaaad5c9355ffa31c554ef18d292c428fc", func := "loop.example/g01200/laws.FnExactIsOrientable", spec := "fnExactIsOrientable", unfollowed := true, recurses := true, apart := false }
def FnExactIsOrientableSaid : Prop := fnExactIsOrientableRow.holds Try.pinned (OpenSpec.ofChange fnExactIsOrientableSpec)

/-- ITS FALSE NEIGHBOUR: 'it returns false'. Refute it at one input. -/
def fnExactIsOrientableWrong : ChangeSpec := { name := "fnExactIsOrientable", fn := fun _ => fun
  | [d] => { results := [.lit (.bool false)], args := [d] }
  | _ => none }
def FnExactIsOrientableWrongFalsely : Prop := fnExactIsOrientableRow.holds Try.pinned (OpenSpec.ofChange fnExactIsOrientableWrong)

/-- 'laws.FnExactMapOfFlags': WHATEVER THE INPUT: true; the input reads as it did. -/
def fnExactMapOfFlagsSpec : ChangeSpec := { name := "fnExactMapOfFlags", fn := fun _ => fun
  | [d] => { results := [.lit (.bool true)], args := [d] }
  | _ => none }
def fnExactMapOfFlagsRow : OpenClaim := { program := "yteeideminlcblaa", sum := "fcbe8a7892a7260e35f0b06022cfbbfaaad5c9355ffa31c554ef18d292c428fc", func := "loop.example/g01200/laws.FnExactMapOfFlags", spec := "fnExactMapOfFlags", unfollowed := true, recurses := true, apart := false }
def FnExactMapOfFlagsSaid : Prop := fnExactMapOfFlagsRow.holds Try.pinned (OpenSpec.ofChange fnExactMapOfFlagsSpec)

/-- ITS FALSE NEIGHBOUR: 'it returns false'. Refute it at one input. -/
def fnExactMapOfFlagsWrong : ChangeSpec := { name := "fnExactMapOfFlags", fn := fun _ => fun
  | [d] => { results := [.lit (.bool false)], args := [d] }
  | _ => none }
def FnExactMapOfFlagsWrongFalsely : Prop := fnExactMapOfFlagsRow.holds Try.pinned (OpenSpec.ofChange fnExactMapOfFlagsWrong)

/- THE SECOND FORM. 'bulk': how many values and letters a reading holds, each counted each time it is reached (what is shared counts as often as it is met; a slice's spare places count too). A statement '..UptoSaid' is the law's where the arguments, and the package variables that the reading takes, are together of bulk at most 1048576: NARROWER than '..Said'. Prove '..Said' where nothing that the law and all that it calls make is longer than what came in: it says more and counts as full. Else prove '..UptoSaid'. A law counts once. -/
mutual
def uptoBulk {H : Type} : DataW H → Nat
  | .lit (.string bytes) => bytes.length + 1
  | .lit _ => 1
  | .nil => 1
  | .ptr d => uptoBulk d + 1
  | .slice elems spare => uptoBulkAll elems + uptoBulkAll spare + 1
  | .agg parts => uptoBulkAll parts + 1
  | .iface _ d => uptoBulk d + 1
  | .map entries => uptoBulkEntries entries + 1
  | .held _ => 1
def uptoBulkAll {H : Type} : List (DataW H) → Nat
  | [] => 0
  | d :: r => uptoBulk d + uptoBulkAll r
def uptoBulkEntries {H : Type} : List (Lit × DataW H) → Nat
  | [] => 0
  | x :: r => uptoBulkEntry x + uptoBulkEntries r
def uptoBulkEntry {H : Type} : Lit × DataW H → Nat
  | (.string bytes, d) => bytes.length + uptoBulk d + 1
  | (_, d) => uptoBulk d + 1
 end
def uptoSmall : (H : Type) → List (DataW H) → Bool := fun _ ds => decide (uptoBulkAll ds ≤ 1048576)
def OpenSpec.upto (s : _root_.Go.ChangeSpec) : _root_.Go.OpenSpec := { _root_.Go.OpenSpec.ofChange s with cond := some uptoSmall }

/-- 'laws.FnExactTriangleRelations', WHERE WHAT IT READS IS OF BULK AT MOST 1048576: true; the input reads as it did. -/
def fnExactTriangleRelationsUptoRow : OpenClaim := { program := "yteeideminlcblaa", sum := "fcbe8a7892a7260e35f0b06022cfbbfaaad5c9355ffa31c554ef18d292c428fc", func := "loop.example/g01200/laws.FnExactTriangleRelations", spec := "fnExactTriangleRelations", inPlace := ["internal/abi.NoEscape", "internal/bytealg.MakeNoZero"], unfollowed := true, recurses := true, apart := false, narrowed := true }
def FnExactTriangleRelationsUptoSaid : Prop := fnExactTriangleRelationsUptoRow.holds Try.pinned (OpenSpec.upto fnExactTriangleRelationsSpec)

/-- 'laws.FnExactIsTable', WHERE WHAT IT READS IS OF BULK AT MOST 1048576: true; the input reads as it did. -/
def fnExactIsTableUptoRow : OpenClaim := { program := "yteeideminlcblaa", sum := "fcbe8a7892a7260e35f0b06022cfbbfaaad5c9355ffa31c554ef18d292c428fc", func := "loop.example/g01200/laws.FnExactIsTable", spec := "fnExactIsTable", apart := false, narrowed := true }
def FnExactIsTableUptoSaid : Prop := fnExactIsTableUptoRow.holds Try.pinned (OpenSpec.upto fnExactIsTableSpec)

/-- 'laws.FnExactDessinOfTable', WHERE WHAT IT READS IS OF BULK AT MOST 1048576: true; the input reads as it did. -/
def fnExactDessinOfTableUptoRow : OpenClaim := { program := "yteeideminlcblaa", sum := "fcbe8a7892a7260e35f0b06022cfbbfaaad5c9355ffa31c554ef18d292c428fc", func := "loop.example/g01200/laws.FnExactDessinOfTable", spec := "fnExactDessinOfTable", apart := false, narrowed := true }
def FnExactDessinOfTableUptoSaid : Prop := fnExactDessinOfTableUptoRow.holds Try.pinned (OpenSpec.upto fnExactDessinOfTableSpec)

/-- 'laws.FnExactTableOfDessin', WHERE WHAT IT READS IS OF BULK AT MOST 1048576: true; the input reads as it did. -/
def fnExactTableOfDessinUptoRow : OpenClaim := { program := "yteeideminlcblaa", sum := "fcbe8a7892a7260e35f0b06022cfbbfaaad5c9355ffa31c554ef18d292c428fc", func := "loop.example/g01200/laws.FnExactTableOfDessin", spec := "fnExactTableOfDessin", apart := false, narrowed := true }
def FnExactTableOfDessinUptoSaid : Prop := fnExactTableOfDessinUptoRow.holds Try.pinned (OpenSpec.upto fnExactTableOfDessinSpec)

/-- 'laws.FnExactStabiliserWords', WHERE WHAT IT READS IS OF BULK AT MOST 1048576: true; the input reads as it did. -/
def fnExactStabiliserWordsUptoRow : OpenClaim := { program := "yteeideminlcblaa", sum := "fcbe8a7892a7260e35f0b06022cfbbfaaad5c9355ffa31c554ef18d292c428fc", func := "loop.example/g01200/laws.FnExactStabiliserWords", spec := "fnExactStabiliserWords", inPlace := ["internal/bytealg.IndexByteString"], unfollowed := true, recurses := true, apart := false, narrowed := true }
def FnExactStabiliserWordsUptoSaid : Prop := fnExactStabiliserWordsUptoRow.holds Try.pinned (OpenSpec.upto fnExactStabiliserWordsSpec)

/-- 'laws.FnExactIsOrientable', WHERE WHAT IT READS IS OF BULK AT MOST 1048576: true; the input reads as it did. -/
def fnExactIsOrientableUptoRow : OpenClaim := { program := "yteeideminlcblaa", sum := "fcbe8a7892a7260e35f0b06022cfbbfaaad5c9355ffa31c554ef18d292c428fc", func := "loop.example/g01200/laws.FnExactIsOrientable", spec := "fnExactIsOrientable", unfollowed := true, recurses := true, apart := false, narrowed := true }
def FnExactIsOrientableUptoSaid : Prop := fnExactIsOrientableUptoRow.holds Try.pinned (OpenSpec.upto fnExactIsOrientableSpec)

/-- 'laws.FnExactMapOfFlags', WHERE WHAT IT READS IS OF BULK AT MOST 1048576: true; the input reads as it did. -/
def fnExactMapOfFlagsUptoRow : OpenClaim := { program := "yteeideminlcblaa", sum := "fcbe8a7892a7260e35f0b06022cfbbfaaad5c9355ffa31c554ef18d292c428fc", func := "loop.example/g01200/laws.FnExactMapOfFlags", spec := "fnExactMapOfFlags", unfollowed := true, recurses := true, apart := false, narrowed := true }
def FnExactMapOfFlagsUptoSaid : Prop := fnExactMapOfFlagsUptoRow.holds Try.pinned (OpenSpec.upto fnExactMapOfFlagsSpec)

end Rows
end Go.Proofs.Yteeideminlcblaa
