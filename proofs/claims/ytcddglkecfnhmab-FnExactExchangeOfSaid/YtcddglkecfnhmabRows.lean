/-
  No cell of these rows narrows 'for every input' (looked for: loops, veiled, ifaces, maps, wideKeys, modest, calm, conditions, laid).
  DERIVED. THE GIVEN ROWS OF THIS SEAT. 6 by the template 'for every input the law returns true; each argument reads behind the call as it read before'; 0 by the template 'total and deterministic' (their statements: YtcddglkecfnhmabTotals.lean).
  GIVEN WITH THE SEED: the statements are not yours to turn. If you find one false, say at which input.
  Laid BY PROGRAM, IN A SANDBOX (cutbox-rows.mjs): the forced cells as the released guide's own fill.sh prints them over the translation 0962a0c2e6f48653… (all of the seat's roots in one cut). By AI agents, Wed Nov 11 2026. No macro, syntax, notation, axiom, sorry.
-/
import Derived.Test.YtcddglkecfnhmabChecked
import GoSem.Claim
import GoSem.ClaimJoined
import GoSem.ClaimMapViews
import Derived.JoinedTies
import Derived.KernelRfl
namespace Go.Proofs.Ytcddglkecfnhmab
/- THE CELL 'sum', in the pinned program and in every row, IS THE sha256 OF THE DUMP (.gsa) THAT YtcddglkecfnhmabProg.lean LOADS. Nothing in Lean hashes anything: it is a label: what it is worth is what the hold of that sum in a sandbox is worth. -/
noncomputable def Try.pinned : Pinned := { name := "ytcddglkecfnhmab", sum := "0962a0c2e6f486538f19c8f4a6c78ff1bc64582de199be55e223750ce7c22173", checked := Try.checked }
namespace Rows
def none {H : Type} : Left H := { results := [], args := [] }

/-- 'laws.FnExactAreAlike': WHATEVER THE INPUT: true; the input reads as it did. -/
def fnExactAreAlikeSpec : ChangeSpec := { name := "fnExactAreAlike", fn := fun _ => fun
  | [d1, d2] => { results := [.lit (.bool true)], args := [d1, d2] }
  | _ => none }
def fnExactAreAlikeRow : OpenClaim := { program := "ytcddglkecfnhmab", sum := "0962a0c2e6f486538f19c8f4a6c78ff1bc64582de199be55e223750ce7c22173", func := "loop.example/g01200/laws.FnExactAreAlike", spec := "fnExactAreAlike", inPlace := ["internal/bytealg.Compare"], apart := false }
def FnExactAreAlikeSaid : Prop := fnExactAreAlikeRow.holds Try.pinned (OpenSpec.ofChange fnExactAreAlikeSpec)

/-- ITS FALSE NEIGHBOUR: 'it returns false'. Refute it at one input. -/
def fnExactAreAlikeWrong : ChangeSpec := { name := "fnExactAreAlike", fn := fun _ => fun
  | [d1, d2] => { results := [.lit (.bool false)], args := [d1, d2] }
  | _ => none }
def FnExactAreAlikeWrongFalsely : Prop := fnExactAreAlikeRow.holds Try.pinned (OpenSpec.ofChange fnExactAreAlikeWrong)

/-- 'laws.FnExactExchangeOf': WHATEVER THE INPUT: true; the input reads as it did. -/
def fnExactExchangeOfSpec : ChangeSpec := { name := "fnExactExchangeOf", fn := fun _ => fun
  | [d1, d2] => { results := [.lit (.bool true)], args := [d1, d2] }
  | _ => none }
def fnExactExchangeOfRow : OpenClaim := { program := "ytcddglkecfnhmab", sum := "0962a0c2e6f486538f19c8f4a6c78ff1bc64582de199be55e223750ce7c22173", func := "loop.example/g01200/laws.FnExactExchangeOf", spec := "fnExactExchangeOf", apart := false }
def FnExactExchangeOfSaid : Prop := fnExactExchangeOfRow.holds Try.pinned (OpenSpec.ofChange fnExactExchangeOfSpec)

/-- ITS FALSE NEIGHBOUR: 'it returns false'. Refute it at one input. -/
def fnExactExchangeOfWrong : ChangeSpec := { name := "fnExactExchangeOf", fn := fun _ => fun
  | [d1, d2] => { results := [.lit (.bool false)], args := [d1, d2] }
  | _ => none }
def FnExactExchangeOfWrongFalsely : Prop := fnExactExchangeOfRow.holds Try.pinned (OpenSpec.ofChange fnExactExchangeOfWrong)

/-- 'laws.FnExactMirrorOf': WHATEVER THE INPUT: true; the input reads as it did. -/
def fnExactMirrorOfSpec : ChangeSpec := { name := "fnExactMirrorOf", fn := fun _ => fun
  | [d] => { results := [.lit (.bool true)], args := [d] }
  | _ => none }
def fnExactMirrorOfRow : OpenClaim := { program := "ytcddglkecfnhmab", sum := "0962a0c2e6f486538f19c8f4a6c78ff1bc64582de199be55e223750ce7c22173", func := "loop.example/g01200/laws.FnExactMirrorOf", spec := "fnExactMirrorOf", apart := false }
def FnExactMirrorOfSaid : Prop := fnExactMirrorOfRow.holds Try.pinned (OpenSpec.ofChange fnExactMirrorOfSpec)

/-- ITS FALSE NEIGHBOUR: 'it returns false'. Refute it at one input. -/
def fnExactMirrorOfWrong : ChangeSpec := { name := "fnExactMirrorOf", fn := fun _ => fun
  | [d] => { results := [.lit (.bool false)], args := [d] }
  | _ => none }
def FnExactMirrorOfWrongFalsely : Prop := fnExactMirrorOfRow.holds Try.pinned (OpenSpec.ofChange fnExactMirrorOfWrong)

/-- 'laws.FnExactIsChiral': WHATEVER THE INPUT: true; the input reads as it did. -/
def fnExactIsChiralSpec : ChangeSpec := { name := "fnExactIsChiral", fn := fun _ => fun
  | [d] => { results := [.lit (.bool true)], args := [d] }
  | _ => none }
def fnExactIsChiralRow : OpenClaim := { program := "ytcddglkecfnhmab", sum := "0962a0c2e6f486538f19c8f4a6c78ff1bc64582de199be55e223750ce7c22173", func := "loop.example/g01200/laws.FnExactIsChiral", spec := "fnExactIsChiral", inPlace := ["internal/bytealg.Compare"], apart := false }
def FnExactIsChiralSaid : Prop := fnExactIsChiralRow.holds Try.pinned (OpenSpec.ofChange fnExactIsChiralSpec)

/-- ITS FALSE NEIGHBOUR: 'it returns false'. Refute it at one input. -/
def fnExactIsChiralWrong : ChangeSpec := { name := "fnExactIsChiral", fn := fun _ => fun
  | [d] => { results := [.lit (.bool false)], args := [d] }
  | _ => none }
def FnExactIsChiralWrongFalsely : Prop := fnExactIsChiralRow.holds Try.pinned (OpenSpec.ofChange fnExactIsChiralWrong)

/-- 'laws.FnExactSubdividedOf': WHATEVER THE INPUT: true; the input reads as it did. -/
def fnExactSubdividedOfSpec : ChangeSpec := { name := "fnExactSubdividedOf", fn := fun _ => fun
  | [d] => { results := [.lit (.bool true)], args := [d] }
  | _ => none }
def fnExactSubdividedOfRow : OpenClaim := { program := "ytcddglkecfnhmab", sum := "0962a0c2e6f486538f19c8f4a6c78ff1bc64582de199be55e223750ce7c22173", func := "loop.example/g01200/laws.FnExactSubdividedOf", spec := "fnExactSubdividedOf", apart := false }
def FnExactSubdividedOfSaid : Prop := fnExactSubdividedOfRow.holds Try.pinned (OpenSpec.ofChange fnExactSubdividedOfSpec)

/-- ITS FALSE NEIGHBOUR: 'it returns false'. Refute it at one input. -/
def fnExactSubdividedOfWrong : ChangeSpec := { name := "fnExactSubdividedOf", fn := fun _ => fun
  | [d] => { results := [.lit (.bool false)], args := [d] }
  | _ => none }
def FnExactSubdividedOfWrongFalsely : Prop := fnExactSubdividedOfRow.holds Try.pinned (OpenSpec.ofChange fnExactSubdividedOfWrong)

/-- 'laws.FnExactIsClean': WHATEVER THE INPUT: true; the input reads as it did. -/
def fnExactIsCleanSpec : ChangeSpec := { name := "fnExactIsClean", fn := fun _ => fun
  | [d] => { results := [.lit (.bool true)], args := [d] }
  | _ => none }
def fnExactIsCleanRow : OpenClaim := { program := "ytcddglkecfnhmab", sum := "0962a0c2e6f486538f19c8f4a6c78ff1bc64582de199be55e223750ce7c22173", func := "loop.example/g01200/laws.FnExactIsClean", spec := "fnExactIsClean", apart := false }
def FnExactIsCleanSaid : Prop := fnExactIsCleanRow.holds Try.pinned (OpenSpec.ofChange fnExactIsCleanSpec)

/-- ITS FALSE NEIGHBOUR: 'it returns false'. Refute it at one input. -/
def fnExactIsCleanWrong : ChangeSpec := { name := "fnExactIsClean", fn := fun _ => fun
  | [d] => { results := [.lit (.bool false)], args := [d] }
  | _ => none }
def FnExactIsCleanWrongFalsely : Prop := fnExactIsCleanRow.holds Try.pinned (OpenSpec.ofChange fnExactIsCleanWrong)

/- THE SECOND FORM. 'bulk': how many values and letters a reading holds, each counted each time it is reached (what is shared counts as often as it is met; a slice's spare places count too). A statement '..UptoSaid' is the law's where the arguments, and the package variables that the reading takes, are together of bulk at most 1048576: NARROWER than '..Said'. Prove '..Said' where nothing that the law and all that it calls make is longer than what came in: it says more and counts as full. Else prove '..UptoSaid'. A law counts once. -/
mutual
def uptoBulk {H : Type} : DataW H → Nat
  | .lit (.string bytes) => bytes.length + 1
  | .lit _ => 1
  | .nil => 1
  | .ptr d => uptoBulk d + 1
  | .slice elems spare => uptoBulkAll elems + uptoBulkAll spare + 1
  | .agg parts => uptoBulkAll parts + 1
  | .iface _ d => uptoBulk d + 1
  | .map entries => uptoBulkEntries entries + 1
  | .held _ => 1
def uptoBulkAll {H : Type} : List (DataW H) → Nat
  | [] => 0
  | d :: r => uptoBulk d + uptoBulkAll r
def uptoBulkEntries {H : Type} : List (Lit × DataW H) → Nat
  | [] => 0
  | x :: r => uptoBulkEntry x + uptoBulkEntries r
def uptoBulkEntry {H : Type} : Lit × DataW H → Nat
  | (.string bytes, d) => bytes.length + uptoBulk d + 1
  | (_, d) => uptoBulk d + 1
 end
def uptoSmall : (H : Type) → List (DataW H) → Bool := fun _ ds => decide (uptoBulkAll ds ≤ 1048576)
def OpenSpec.upto (s : _root_.Go.ChangeSpec) : _root_.Go.OpenSpec := { _root_.Go.OpenSpec.ofChange s with cond := some uptoSmall }

/-- 'laws.FnExactAreAlike', WHERE WHAT IT READS IS OF BULK AT MOST 1048576: true; the input reads as it did. -/
def fnExactAreAlikeUptoRow : OpenClaim := { program := "ytcddglkecfnhmab", sum := "0962a0c2e6f486538f19c8f4a6c78ff1bc64582de199be55e223750ce7c22173", func := "loop.example/g01200/laws.FnExactAreAlike", spec := "fnExactAreAlike", inPlace := ["internal/bytealg.Compare"], apart := false, narrowed := true }
def FnExactAreAlikeUptoSaid : Prop := fnExactAreAlikeUptoRow.holds Try.pinned (OpenSpec.upto fnExactAreAlikeSpec)

/-- 'laws.FnExactExchangeOf', WHERE WHAT IT READS IS OF BULK AT MOST 1048576: true; the input reads as it did. -/
def fnExactExchangeOfUptoRow : OpenClaim := { program := "ytcddglkecfnhmab", sum := "0962a0c2e6f486538f19c8f4a6c78ff1bc64582de199be55e223750ce7c22173", func := "loop.example/g01200/laws.FnExactExchangeOf", spec := "fnExactExchangeOf", apart := false, narrowed := true }
def FnExactExchangeOfUptoSaid : Prop := fnExactExchangeOfUptoRow.holds Try.pinned (OpenSpec.upto fnExactExchangeOfSpec)

/-- 'laws.FnExactMirrorOf', WHERE WHAT IT READS IS OF BULK AT MOST 1048576: true; the input reads as it did. -/
def fnExactMirrorOfUptoRow : OpenClaim := { program := "ytcddglkecfnhmab", sum := "0962a0c2e6f486538f19c8f4a6c78ff1bc64582de199be55e223750ce7c22173", func := "loop.example/g01200/laws.FnExactMirrorOf", spec := "fnExactMirrorOf", apart := false, narrowed := true }
def FnExactMirrorOfUptoSaid : Prop := fnExactMirrorOfUptoRow.holds Try.pinned (OpenSpec.upto fnExactMirrorOfSpec)

/-- 'laws.FnExactIsChiral', WHERE WHAT IT READS IS OF BULK AT MOST 1048576: true; the input reads as it did. -/
def fnExactIsChiralUptoRow : OpenClaim := { program := "ytcddglkecfnhmab", sum := "0962a0c2e6f486538f19c8f4a6c78ff1bc64582de199be55e223750ce7c22173", func := "loop.example/g01200/laws.FnExactIsChiral", spec := "fnExactIsChiral", inPlace := ["internal/bytealg.Compare"], apart := false, narrowed := true }
def FnExactIsChiralUptoSaid : Prop := fnExactIsChiralUptoRow.holds Try.pinned (OpenSpec.upto fnExactIsChiralSpec)

/-- 'laws.FnExactSubdividedOf', WHERE WHAT IT READS IS OF BULK AT MOST 1048576: true; the input reads as it did. -/
def fnExactSubdividedOfUptoRow : OpenClaim := { program := "ytcddglkecfnhmab", sum := "0962a0c2e6f486538f19c8f4a6c78ff1bc64582de199be55e223750ce7c22173", func := "loop.example/g01200/laws.FnExactSubdividedOf", spec := "fnExactSubdividedOf", apart := false, narrowed := true }
def FnExactSubdividedOfUptoSaid : Prop := fnExactSubdividedOfUptoRow.holds Try.pinned (OpenSpec.upto fnExactSubdividedOfSpec)

/-- 'laws.FnExactIsClean', WHERE WHAT IT READS IS OF BULK AT MOST 1048576: true; the input reads as it did. -/
def fnExactIsCleanUptoRow : OpenClaim := { program := "ytcddglkecfnhmab", sum := "0962a0c2e6f486538f19c8f4a6c78ff1bc64582de199be55e223750ce7c22173", func := "loop.example/g01200/laws.FnExactIsClean", spec := "fnExactIsClean", apart := false, narrowed := true }
def FnExactIsCleanUptoSaid : Prop := fnExactIsCleanUptoRow.holds Try.pinned (OpenSpec.upto fnExactIsCleanSpec)

end Rows
end Go.Proofs.Ytcddglkecfnhmab
