/-
  No cell of these rows narrows 'for every input' (looked for: loops, veiled, ifaces, maps, wideKeys, modest, calm, conditions, laid).
  DERIVED. THE GIVEN ROWS OF THIS SEAT. 2 by the template 'for every input the law returns true; each argument reads behind the call as it read before'; 0 by the template 'total and deterministic' (their statements: YtjjmjnohbebbaaaTotals.lean).
  GIVEN WITH THE SEED: the statements are not yours to turn. If you find one false, say at which input.
  Laid BY PROGRAM, IN A SANDBOX (cutbox-rows.mjs): the forced cells as the released guide's own fill.sh prints them over the translation 4bfadb92a90e9bb8… (all of the seat's roots in one cut). By AI agents, Wed Nov 11 2026. No macro, syntax, notation, axiom, sorry.
-/
import Derived.Test.YtjjmjnohbebbaaaChecked
import GoSem.Claim
import GoSem.ClaimJoined
import GoSem.ClaimMapViews
import Derived.JoinedTies
import Derived.KernelRfl
namespace Go.Proofs.Ytjjmjnohbebbaaa
/- THE CELL 'sum', in the pinned program and in every row, IS THE sha256 OF THE DUMP (.gsa) THAT YtjjmjnohbebbaaaProg.lean LOADS. Nothing in Lean hashes anything: it is a label: what it is worth is what the hold of that sum in a sandbox is worth. -/
noncomputable def Try.pinned : Pinned := { name := "ytjjmjnohbebbaaa", sum := "4bfadb92a90e9bb82e3452bfe7fcaf0bd26b06f4d1d1af3a38aa53ce55fb4e91", checked := Try.checked }
namespace Rows
def none {H : Type} : Left H := { results := [], args := [] }

/-- 'laws.FnExactIsShabat': WHATEVER THE INPUT: true; the input reads as it did. -/
def fnExactIsShabatSpec : ChangeSpec := { name := "fnExactIsShabat", fn := fun _ => fun
  | [d1, d2, d3] => { results := [.lit (.bool true)], args := [d1, d2, d3] }
  | _ => none }
def fnExactIsShabatRow : OpenClaim := { program := "ytjjmjnohbebbaaa", sum := "4bfadb92a90e9bb82e3452bfe7fcaf0bd26b06f4d1d1af3a38aa53ce55fb4e91", func := "loop.example/g01200/laws.FnExactIsShabat", spec := "fnExactIsShabat", apart := false }
def FnExactIsShabatSaid : Prop := fnExactIsShabatRow.holds Try.pinned (OpenSpec.ofChange fnExactIsShabatSpec)

/-- ITS FALSE NEIGHBOUR: 'it returns false'. Refute it at one input. -/
def fnExactIsShabatWrong : ChangeSpec := { name := "fnExactIsShabat", fn := fun _ => fun
  | [d1, d2, d3] => { results := [.lit (.bool false)], args := [d1, d2, d3] }
  | _ => none }
def FnExactIsShabatWrongFalsely : Prop := fnExactIsShabatRow.holds Try.pinned (OpenSpec.ofChange fnExactIsShabatWrong)

/-- 'laws.FnExactPassportOfShabat': WHATEVER THE INPUT: true; the input reads as it did. -/
def fnExactPassportOfShabatSpec : ChangeSpec := { name := "fnExactPassportOfShabat", fn := fun _ => fun
  | [d1, d2, d3] => { results := [.lit (.bool true)], args := [d1, d2, d3] }
  | _ => none }
def fnExactPassportOfShabatRow : OpenClaim := { program := "ytjjmjnohbebbaaa", sum := "4bfadb92a90e9bb82e3452bfe7fcaf0bd26b06f4d1d1af3a38aa53ce55fb4e91", func := "loop.example/g01200/laws.FnExactPassportOfShabat", spec := "fnExactPassportOfShabat", apart := false }
def FnExactPassportOfShabatSaid : Prop := fnExactPassportOfShabatRow.holds Try.pinned (OpenSpec.ofChange fnExactPassportOfShabatSpec)

/-- ITS FALSE NEIGHBOUR: 'it returns false'. Refute it at one input. -/
def fnExactPassportOfShabatWrong : ChangeSpec := { name := "fnExactPassportOfShabat", fn := fun _ => fun
  | [d1, d2, d3] => { results := [.lit (.bool false)], args := [d1, d2, d3] }
  | _ => none }
def FnExactPassportOfShabatWrongFalsely : Prop := fnExactPassportOfShabatRow.holds Try.pinned (OpenSpec.ofChange fnExactPassportOfShabatWrong)

/- THE SECOND FORM. 'bulk': how many values and letters a reading holds, each counted each time it is reached (what is shared counts as often as it is met; a slice's spare places count too). A statement '..UptoSaid' is the law's where the arguments, and the package variables that the reading takes, are together of bulk at most 1048576: NARROWER than '..Said'. Prove '..Said' where nothing that the law and all that it calls make is longer than what came in: it says more and counts as full. Else prove '..UptoSaid'. A law counts once. -/
mutual
def uptoBulk {H : Type} : DataW H → Nat
  | .lit (.string bytes) => bytes.length + 1
  | .lit _ => 1
  | .nil => 1
  | .ptr d => uptoBulk d + 1
  | .slice elems spare => uptoBulkAll elems + uptoBulkAll spare + 1
  | .agg parts => uptoBulkAll parts + 1
  | .iface _ d => uptoBulk d + 1
  | .map entries => uptoBulkEntries entries + 1
  | .held _ => 1
def uptoBulkAll {H : Type} : List (DataW H) → Nat
  | [] => 0
  | d :: r => uptoBulk d + uptoBulkAll r
def uptoBulkEntries {H : Type} : List (Lit × DataW H) → Nat
  | [] => 0
  | x :: r => uptoBulkEntry x + uptoBulkEntries r
def uptoBulkEntry {H : Type} : Lit × DataW H → Nat
  | (.string bytes, d) => bytes.length + uptoBulk d + 1
  | (_, d) => uptoBulk d + 1
 end
def uptoSmall : (H : Type) → List (DataW H) → Bool := fun _ ds => decide (uptoBulkAll ds ≤ 1048576)
def OpenSpec.upto (s : _root_.Go.ChangeSpec) : _root_.Go.OpenSpec := { _root_.Go.OpenSpec.ofChange s with cond := some uptoSmall }

/-- 'laws.FnExactIsShabat', WHERE WHAT IT READS IS OF BULK AT MOST 1048576: true; the input reads as it did. -/
def fnExactIsShabatUptoRow : OpenClaim := { program := "ytjjmjnohbebbaaa", sum := "4bfadb92a90e9bb82e3452bfe7fcaf0bd26b06f4d1d1af3a38aa53ce55fb4e91", func := "loop.example/g01200/laws.FnExactIsShabat", spec := "fnExactIsShabat", apart := false, narrowed := true }
def FnExactIsShabatUptoSaid : Prop := fnExactIsShabatUptoRow.holds Try.pinned (OpenSpec.upto fnExactIsShabatSpec)

/-- 'laws.FnExactPassportOfShabat', WHERE WHAT IT READS IS OF BULK AT MOST 1048576: true; the input reads as it did. -/
def fnExactPassportOfShabatUptoRow : OpenClaim := { program := "ytjjmjnohbebbaaa", sum := "4bfadb92a90e9bb82e3452bfe7fcaf0bd26b06f4d1d1af3a38aa53ce55fb4e91", func := "loop.example/g01200/laws.FnExactPassportOfShabat", spec := "fnExactPassportOfShabat", apart := false, narrowed := true }
def FnExactPassportOfShabatUptoSaid : Prop := fnExactPassportOfShabatUptoRow.holds Try.pinned (OpenSpec.upto fnExactPassportOfShabatSpec)

end Rows
end Go.Proofs.Ytjjmjnohbebbaaa
