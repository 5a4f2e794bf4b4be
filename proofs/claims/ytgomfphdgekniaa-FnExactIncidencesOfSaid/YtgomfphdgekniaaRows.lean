/-
  No cell of these rows narrows 'for every input' (looked for: loops, veiled, ifaces, maps, wideKeys, modest, calm, conditions, laid).
  DERIVED. THE GIVEN ROWS OF THIS SEAT. 12 by the template 'for every input the law returns true; each argument reads behind the call as it read before'; 0 by the template 'total and deterministic' (their statements: YtgomfphdgekniaaTotals.lean).
  GIVEN WITH THE SEED: the statements are not yours to turn. If you find one false, say at which input.
  Laid BY PROGRAM, IN A SANDBOX (cutbox-rows.mjs): the forced cells as the released guide's own fill.sh prints them over the translation 77af40abaf031d46… (all of the seat's roots in one cut). By AI agents, Wed Nov 11 2026. No macro, syntax, notation, axiom, sorry.
-/
import Derived.Test.YtgomfphdgekniaaChecked
import GoSem.Claim
import GoSem.ClaimJoined
import GoSem.ClaimMapViews
import Derived.JoinedTies
import Derived.KernelRfl
namespace Go.Proofs.Ytgomfphdgekniaa
/- THE CELL 'sum', in the pinned program and in every row, IS THE sha256 OF THE DUMP (.gsa) THAT YtgomfphdgekniaaProg.lean LOADS. Nothing in Lean hashes anything: it is a label: what it is worth is what the hold of that sum in a sandbox is worth. -/
noncomputable def Try.pinned : Pinned := { name := "ytgomfphdgekniaa", sum := "77af40abaf031d46fad19b7e580997e5c925776b0d1d6a213d0ff1642dfdbffc", checked := Try.checked }
namespace Rows
def none {H : Type} : Left H := { results := [], args := [] }

/-- 'laws.FnExactIncidencesOf': WHATEVER THE INPUT: true; the input reads as it did. -/
def fnExactIncidencesOfSpec : ChangeSpec := { name := "fnExactIncidencesOf", fn := fun _ => fun
  | [d] => { results := [.lit (.bool true)], args := [d] }
  | _ => none }
def fnExactIncidencesOfRow : OpenClaim := { program := "ytgomfphdgekniaa", sum := "77af40abaf031d46fad19b7e580997e5c925776b0d1d6a213d0ff1642dfdbffc", func := "loop.example/g01200/laws.FnExactIncidencesOf", spec := "fnExactIncidencesOf", plainKeys := false, apart := false }
def FnExactIncidencesOfSaid : Prop := fnExactIncidencesOfRow.holds Try.pinned (OpenSpec.ofChange fnExactIncidencesOfSpec)

/-- ITS FALSE NEIGHBOUR: 'it returns false'. Refute it at one input. -/
def fnExactIncidencesOfWrong : ChangeSpec := { name := "fnExactIncidencesOf", fn := fun _ => fun
  | [d] => { results := [.lit (.bool false)], args := [d] }
  | _ => none }
def FnExactIncidencesOfWrongFalsely : Prop := fnExactIncidencesOfRow.holds Try.pinned (OpenSpec.ofChange fnExactIncidencesOfWrong)

/-- 'laws.FnExactQuotientBy': WHATEVER THE INPUT: true; the input reads as it did. -/
def fnExactQuotientBySpec : ChangeSpec := { name := "fnExactQuotientBy", fn := fun _ => fun
  | [d1, d2] => { results := [.lit (.bool true)], args := [d1, d2] }
  | _ => none }
def fnExactQuotientByRow : OpenClaim := { program := "ytgomfphdgekniaa", sum := "77af40abaf031d46fad19b7e580997e5c925776b0d1d6a213d0ff1642dfdbffc", func := "loop.example/g01200/laws.FnExactQuotientBy", spec := "fnExactQuotientBy", plainKeys := false, apart := false }
def FnExactQuotientBySaid : Prop := fnExactQuotientByRow.holds Try.pinned (OpenSpec.ofChange fnExactQuotientBySpec)

/-- ITS FALSE NEIGHBOUR: 'it returns false'. Refute it at one input. -/
def fnExactQuotientByWrong : ChangeSpec := { name := "fnExactQuotientBy", fn := fun _ => fun
  | [d1, d2] => { results := [.lit (.bool false)], args := [d1, d2] }
  | _ => none }
def FnExactQuotientByWrongFalsely : Prop := fnExactQuotientByRow.holds Try.pinned (OpenSpec.ofChange fnExactQuotientByWrong)

/-- 'laws.FnExactIsEven': WHATEVER THE INPUT: true; the input reads as it did. -/
def fnExactIsEvenSpec : ChangeSpec := { name := "fnExactIsEven", fn := fun _ => fun
  | [d] => { results := [.lit (.bool true)], args := [d] }
  | _ => none }
def fnExactIsEvenRow : OpenClaim := { program := "ytgomfphdgekniaa", sum := "77af40abaf031d46fad19b7e580997e5c925776b0d1d6a213d0ff1642dfdbffc", func := "loop.example/g01200/laws.FnExactIsEven", spec := "fnExactIsEven", plainKeys := false, apart := false }
def FnExactIsEvenSaid : Prop := fnExactIsEvenRow.holds Try.pinned (OpenSpec.ofChange fnExactIsEvenSpec)

/-- ITS FALSE NEIGHBOUR: 'it returns false'. Refute it at one input. -/
def fnExactIsEvenWrong : ChangeSpec := { name := "fnExactIsEven", fn := fun _ => fun
  | [d] => { results := [.lit (.bool false)], args := [d] }
  | _ => none }
def FnExactIsEvenWrongFalsely : Prop := fnExactIsEvenRow.holds Try.pinned (OpenSpec.ofChange fnExactIsEvenWrong)

/-- 'laws.FnExactBlockOf': WHATEVER THE INPUT: true; the input reads as it did. -/
def fnExactBlockOfSpec : ChangeSpec := { name := "fnExactBlockOf", fn := fun _ => fun
  | [d1, d2, d3] => { results := [.lit (.bool true)], args := [d1, d2, d3] }
  | _ => none }
def fnExactBlockOfRow : OpenClaim := { program := "ytgomfphdgekniaa", sum := "77af40abaf031d46fad19b7e580997e5c925776b0d1d6a213d0ff1642dfdbffc", func := "loop.example/g01200/laws.FnExactBlockOf", spec := "fnExactBlockOf", plainKeys := false, apart := false }
def FnExactBlockOfSaid : Prop := fnExactBlockOfRow.holds Try.pinned (OpenSpec.ofChange fnExactBlockOfSpec)

/-- ITS FALSE NEIGHBOUR: 'it returns false'. Refute it at one input. -/
def fnExactBlockOfWrong : ChangeSpec := { name := "fnExactBlockOf", fn := fun _ => fun
  | [d1, d2, d3] => { results := [.lit (.bool false)], args := [d1, d2, d3] }
  | _ => none }
def FnExactBlockOfWrongFalsely : Prop := fnExactBlockOfRow.holds Try.pinned (OpenSpec.ofChange fnExactBlockOfWrong)

/-- 'laws.FnExactBlocksOf': WHATEVER THE INPUT: true; the input reads as it did. -/
def fnExactBlocksOfSpec : ChangeSpec := { name := "fnExactBlocksOf", fn := fun _ => fun
  | [d] => { results := [.lit (.bool true)], args := [d] }
  | _ => none }
def fnExactBlocksOfRow : OpenClaim := { program := "ytgomfphdgekniaa", sum := "77af40abaf031d46fad19b7e580997e5c925776b0d1d6a213d0ff1642dfdbffc", func := "loop.example/g01200/laws.FnExactBlocksOf", spec := "fnExactBlocksOf", unfollowed := true, recurses := true, plainKeys := false, apart := false }
def FnExactBlocksOfSaid : Prop := fnExactBlocksOfRow.holds Try.pinned (OpenSpec.ofChange fnExactBlocksOfSpec)

/-- ITS FALSE NEIGHBOUR: 'it returns false'. Refute it at one input. -/
def fnExactBlocksOfWrong : ChangeSpec := { name := "fnExactBlocksOf", fn := fun _ => fun
  | [d] => { results := [.lit (.bool false)], args := [d] }
  | _ => none }
def FnExactBlocksOfWrongFalsely : Prop := fnExactBlocksOfRow.holds Try.pinned (OpenSpec.ofChange fnExactBlocksOfWrong)

/-- 'laws.FnExactIsPrimitive': WHATEVER THE INPUT: true; the input reads as it did. -/
def fnExactIsPrimitiveSpec : ChangeSpec := { name := "fnExactIsPrimitive", fn := fun _ => fun
  | [d] => { results := [.lit (.bool true)], args := [d] }
  | _ => none }
def fnExactIsPrimitiveRow : OpenClaim := { program := "ytgomfphdgekniaa", sum := "77af40abaf031d46fad19b7e580997e5c925776b0d1d6a213d0ff1642dfdbffc", func := "loop.example/g01200/laws.FnExactIsPrimitive", spec := "fnExactIsPrimitive", unfollowed := true, recurses := true, plainKeys := false, apart := false }
def FnExactIsPrimitiveSaid : Prop := fnExactIsPrimitiveRow.holds Try.pinned (OpenSpec.ofChange fnExactIsPrimitiveSpec)

/-- ITS FALSE NEIGHBOUR: 'it returns false'. Refute it at one input. -/
def fnExactIsPrimitiveWrong : ChangeSpec := { name := "fnExactIsPrimitive", fn := fun _ => fun
  | [d] => { results := [.lit (.bool false)], args := [d] }
  | _ => none }
def FnExactIsPrimitiveWrongFalsely : Prop := fnExactIsPrimitiveRow.holds Try.pinned (OpenSpec.ofChange fnExactIsPrimitiveWrong)

/-- 'laws.FnExactQuotientByBlock': WHATEVER THE INPUT: true; the input reads as it did. -/
def fnExactQuotientByBlockSpec : ChangeSpec := { name := "fnExactQuotientByBlock", fn := fun _ => fun
  | [d1, d2] => { results := [.lit (.bool true)], args := [d1, d2] }
  | _ => none }
def fnExactQuotientByBlockRow : OpenClaim := { program := "ytgomfphdgekniaa", sum := "77af40abaf031d46fad19b7e580997e5c925776b0d1d6a213d0ff1642dfdbffc", func := "loop.example/g01200/laws.FnExactQuotientByBlock", spec := "fnExactQuotientByBlock", plainKeys := false, apart := false }
def FnExactQuotientByBlockSaid : Prop := fnExactQuotientByBlockRow.holds Try.pinned (OpenSpec.ofChange fnExactQuotientByBlockSpec)

/-- ITS FALSE NEIGHBOUR: 'it returns false'. Refute it at one input. -/
def fnExactQuotientByBlockWrong : ChangeSpec := { name := "fnExactQuotientByBlock", fn := fun _ => fun
  | [d1, d2] => { results := [.lit (.bool false)], args := [d1, d2] }
  | _ => none }
def FnExactQuotientByBlockWrongFalsely : Prop := fnExactQuotientByBlockRow.holds Try.pinned (OpenSpec.ofChange fnExactQuotientByBlockWrong)

/-- 'laws.FnExactIsRegular': WHATEVER THE INPUT: true; the input reads as it did. -/
def fnExactIsRegularSpec : ChangeSpec := { name := "fnExactIsRegular", fn := fun _ => fun
  | [d] => { results := [.lit (.bool true)], args := [d] }
  | _ => none }
def fnExactIsRegularRow : OpenClaim := { program := "ytgomfphdgekniaa", sum := "77af40abaf031d46fad19b7e580997e5c925776b0d1d6a213d0ff1642dfdbffc", func := "loop.example/g01200/laws.FnExactIsRegular", spec := "fnExactIsRegular", recurses := true, plainKeys := false, apart := false }
def FnExactIsRegularSaid : Prop := fnExactIsRegularRow.holds Try.pinned (OpenSpec.ofChange fnExactIsRegularSpec)

/-- ITS FALSE NEIGHBOUR: 'it returns false'. Refute it at one input. -/
def fnExactIsRegularWrong : ChangeSpec := { name := "fnExactIsRegular", fn := fun _ => fun
  | [d] => { results := [.lit (.bool false)], args := [d] }
  | _ => none }
def FnExactIsRegularWrongFalsely : Prop := fnExactIsRegularRow.holds Try.pinned (OpenSpec.ofChange fnExactIsRegularWrong)

/-- 'laws.FnExactGroupOrder': WHATEVER THE INPUT: true; the input reads as it did. -/
def fnExactGroupOrderSpec : ChangeSpec := { name := "fnExactGroupOrder", fn := fun _ => fun
  | [d] => { results := [.lit (.bool true)], args := [d] }
  | _ => none }
def fnExactGroupOrderRow : OpenClaim := { program := "ytgomfphdgekniaa", sum := "77af40abaf031d46fad19b7e580997e5c925776b0d1d6a213d0ff1642dfdbffc", func := "loop.example/g01200/laws.FnExactGroupOrder", spec := "fnExactGroupOrder", recurses := true, plainKeys := false, apart := false }
def FnExactGroupOrderSaid : Prop := fnExactGroupOrderRow.holds Try.pinned (OpenSpec.ofChange fnExactGroupOrderSpec)

/-- ITS FALSE NEIGHBOUR: 'it returns false'. Refute it at one input. -/
def fnExactGroupOrderWrong : ChangeSpec := { name := "fnExactGroupOrder", fn := fun _ => fun
  | [d] => { results := [.lit (.bool false)], args := [d] }
  | _ => none }
def FnExactGroupOrderWrongFalsely : Prop := fnExactGroupOrderRow.holds Try.pinned (OpenSpec.ofChange fnExactGroupOrderWrong)

/-- 'laws.FnExactInGroup': WHATEVER THE INPUT: true; the input reads as it did. -/
def fnExactInGroupSpec : ChangeSpec := { name := "fnExactInGroup", fn := fun _ => fun
  | [d1, d2] => { results := [.lit (.bool true)], args := [d1, d2] }
  | _ => none }
def fnExactInGroupRow : OpenClaim := { program := "ytgomfphdgekniaa", sum := "77af40abaf031d46fad19b7e580997e5c925776b0d1d6a213d0ff1642dfdbffc", func := "loop.example/g01200/laws.FnExactInGroup", spec := "fnExactInGroup", recurses := true, plainKeys := false, apart := false }
def FnExactInGroupSaid : Prop := fnExactInGroupRow.holds Try.pinned (OpenSpec.ofChange fnExactInGroupSpec)

/-- ITS FALSE NEIGHBOUR: 'it returns false'. Refute it at one input. -/
def fnExactInGroupWrong : ChangeSpec := { name := "fnExactInGroup", fn := fun _ => fun
  | [d1, d2] => { results := [.lit (.bool false)], args := [d1, d2] }
  | _ => none }
def FnExactInGroupWrongFalsely : Prop := fnExactInGroupRow.holds Try.pinned (OpenSpec.ofChange fnExactInGroupWrong)

/-- 'laws.FnExactOrderOfWord': WHATEVER THE INPUT: true; the input reads as it did. -/
def fnExactOrderOfWordSpec : ChangeSpec := { name := "fnExactOrderOfWord", fn := fun _ => fun
  | [d1, d2] => { results := [.lit (.bool true)], args := [d1, d2] }
  | _ => none }
def fnExactOrderOfWordRow : OpenClaim := { program := "ytgomfphdgekniaa", sum := "77af40abaf031d46fad19b7e580997e5c925776b0d1d6a213d0ff1642dfdbffc", func := "loop.example/g01200/laws.FnExactOrderOfWord", spec := "fnExactOrderOfWord", unfollowed := true, recurses := true, plainKeys := false, apart := false }
def FnExactOrderOfWordSaid : Prop := fnExactOrderOfWordRow.holds Try.pinned (OpenSpec.ofChange fnExactOrderOfWordSpec)

/-- ITS FALSE NEIGHBOUR: 'it returns false'. Refute it at one input. -/
def fnExactOrderOfWordWrong : ChangeSpec := { name := "fnExactOrderOfWord", fn := fun _ => fun
  | [d1, d2] => { results := [.lit (.bool false)], args := [d1, d2] }
  | _ => none }
def FnExactOrderOfWordWrongFalsely : Prop := fnExactOrderOfWordRow.holds Try.pinned (OpenSpec.ofChange fnExactOrderOfWordWrong)

/-- 'laws.FnExactValueOfWord': WHATEVER THE INPUT: true; the input reads as it did. -/
def fnExactValueOfWordSpec : ChangeSpec := { name := "fnExactValueOfWord", fn := fun _ => fun
  | [d1, d2] => { results := [.lit (.bool true)], args := [d1, d2] }
  | _ => none }
def fnExactValueOfWordRow : OpenClaim := { program := "ytgomfphdgekniaa", sum := "77af40abaf031d46fad19b7e580997e5c925776b0d1d6a213d0ff1642dfdbffc", func := "loop.example/g01200/laws.FnExactValueOfWord", spec := "fnExactValueOfWord", unfollowed := true, recurses := true, plainKeys := false, apart := false }
def FnExactValueOfWordSaid : Prop := fnExactValueOfWordRow.holds Try.pinned (OpenSpec.ofChange fnExactValueOfWordSpec)

/-- ITS FALSE NEIGHBOUR: 'it returns false'. Refute it at one input. -/
def fnExactValueOfWordWrong : ChangeSpec := { name := "fnExactValueOfWord", fn := fun _ => fun
  | [d1, d2] => { results := [.lit (.bool false)], args := [d1, d2] }
  | _ => none }
def FnExactValueOfWordWrongFalsely : Prop := fnExactValueOfWordRow.holds Try.pinned (OpenSpec.ofChange fnExactValueOfWordWrong)

/- THE SECOND FORM. 'bulk': how many values and letters a reading holds, each counted each time it is reached (what is shared counts as often as it is met; a slice's spare places count too). A statement '..UptoSaid' is the law's where the arguments, and the package variables that the reading takes, are together of bulk at most 1048576: NARROWER than '..Said'. Prove '..Said' where nothing that the law and all that it calls make is longer than what came in: it says more and counts as full. Else prove '..UptoSaid'. A law counts once. -/
mutual
def uptoBulk {H : Type} : DataW H → Nat
  | .lit (.string bytes) => bytes.length + 1
  | .lit _ => 1
  | .nil => 1
  | .ptr d => uptoBulk d + 1
  | .slice elems spare => uptoBulkAll elems + uptoBulkAll spare + 1
  | .agg parts => uptoBulkAll parts + 1
  | .iface _ d => uptoBulk d + 1
  | .map entries => uptoBulkEntries entries + 1
  | .held _ => 1
def uptoBulkAll {H : Type} : List (DataW H) → Nat
  | [] => 0
  | d :: r => uptoBulk d + uptoBulkAll r
def uptoBulkEntries {H : Type} : List (Lit × DataW H) → Nat
  | [] => 0
  | x :: r => uptoBulkEntry x + uptoBulkEntries r
def uptoBulkEntry {H : Type} : Lit × DataW H → Nat
  | (.string bytes, d) => bytes.length + uptoBulk d + 1
  | (_, d) => uptoBulk d + 1
 end
def uptoSmall : (H : Type) → List (DataW H) → Bool := fun _ ds => decide (uptoBulkAll ds ≤ 1048576)
def OpenSpec.upto (s : _root_.Go.ChangeSpec) : _root_.Go.OpenSpec := { _root_.Go.OpenSpec.ofChange s with cond := some uptoSmall }

/-- 'laws.FnExactIncidencesOf', WHERE WHAT IT READS IS OF BULK AT MOST 1048576: true; the input reads as it did. -/
def fnExactIncidencesOfUptoRow : OpenClaim := { program := "ytgomfphdgekniaa", sum := "77af40abaf031d46fad19b7e580997e5c925776b0d1d6a213d0ff1642dfdbffc", func := "loop.example/g01200/laws.FnExactIncidencesOf", spec := "fnExactIncidencesOf", plainKeys := false, apart := false, narrowed := true }
def FnExactIncidencesOfUptoSaid : Prop := fnExactIncidencesOfUptoRow.holds Try.pinned (OpenSpec.upto fnExactIncidencesOfSpec)

/-- 'laws.FnExactQuotientBy', WHERE WHAT IT READS IS OF BULK AT MOST 1048576: true; the input reads as it did. -/
def fnExactQuotientByUptoRow : OpenClaim := { program := "ytgomfphdgekniaa", sum := "77af40abaf031d46fad19b7e580997e5c925776b0d1d6a213d0ff1642dfdbffc", func := "loop.example/g01200/laws.FnExactQuotientBy", spec := "fnExactQuotientBy", plainKeys := false, apart := false, narrowed := true }
def FnExactQuotientByUptoSaid : Prop := fnExactQuotientByUptoRow.holds Try.pinned (OpenSpec.upto fnExactQuotientBySpec)

/-- 'laws.FnExactIsEven', WHERE WHAT IT READS IS OF BULK AT MOST 1048576: true; the input reads as it did. -/
def fnExactIsEvenUptoRow : OpenClaim := { program := "ytgomfphdgekniaa", sum := "77af40abaf031d46fad19b7e580997e5c925776b0d1d6a213d0ff1642dfdbffc", func := "loop.example/g01200/laws.FnExactIsEven", spec := "fnExactIsEven", plainKeys := false, apart := false, narrowed := true }
def FnExactIsEvenUptoSaid : Prop := fnExactIsEvenUptoRow.holds Try.pinned (OpenSpec.upto fnExactIsEvenSpec)

/-- 'laws.FnExactBlockOf', WHERE WHAT IT READS IS OF BULK AT MOST 1048576: true; the input reads as it did. -/
def fnExactBlockOfUptoRow : OpenClaim := { program := "ytgomfphdgekniaa", sum := "77af40abaf031d46fad19b7e580997e5c925776b0d1d6a213d0ff1642dfdbffc", func := "loop.example/g01200/laws.FnExactBlockOf", spec := "fnExactBlockOf", plainKeys := false, apart := false, narrowed := true }
def FnExactBlockOfUptoSaid : Prop := fnExactBlockOfUptoRow.holds Try.pinned (OpenSpec.upto fnExactBlockOfSpec)

/-- 'laws.FnExactBlocksOf', WHERE WHAT IT READS IS OF BULK AT MOST 1048576: true; the input reads as it did. -/
def fnExactBlocksOfUptoRow : OpenClaim := { program := "ytgomfphdgekniaa", sum := "77af40abaf031d46fad19b7e580997e5c925776b0d1d6a213d0ff1642dfdbffc", func := "loop.example/g01200/laws.FnExactBlocksOf", spec := "fnExactBlocksOf", unfollowed := true, recurses := true, plainKeys := false, apart := false, narrowed := true }
def FnExactBlocksOfUptoSaid : Prop := fnExactBlocksOfUptoRow.holds Try.pinned (OpenSpec.upto fnExactBlocksOfSpec)

/-- 'laws.FnExactIsPrimitive', WHERE WHAT IT READS IS OF BULK AT MOST 1048576: true; the input reads as it did. -/
def fnExactIsPrimitiveUptoRow : OpenClaim := { program := "ytgomfphdgekniaa", sum := "77af40abaf031d46fad19b7e580997e5c925776b0d1d6a213d0ff1642dfdbffc", func := "loop.example/g01200/laws.FnExactIsPrimitive", spec := "fnExactIsPrimitive", unfollowed := true, recurses := true, plainKeys := false, apart := false, narrowed := true }
def FnExactIsPrimitiveUptoSaid : Prop := fnExactIsPrimitiveUptoRow.holds Try.pinned (OpenSpec.upto fnExactIsPrimitiveSpec)

/-- 'laws.FnExactQuotientByBlock', WHERE WHAT IT READS IS OF BULK AT MOST 1048576: true; the input reads as it did. -/
def fnExactQuotientByBlockUptoRow : OpenClaim := { program := "ytgomfphdgekniaa", sum := "77af40abaf031d46fad19b7e580997e5c925776b0d1d6a213d0ff1642dfdbffc", func := "loop.example/g01200/laws.FnExactQuotientByBlock", spec := "fnExactQuotientByBlock", plainKeys := false, apart := false, narrowed := true }
def FnExactQuotientByBlockUptoSaid : Prop := fnExactQuotientByBlockUptoRow.holds Try.pinned (OpenSpec.upto fnExactQuotientByBlockSpec)

/-- 'laws.FnExactIsRegular', WHERE WHAT IT READS IS OF BULK AT MOST 1048576: true; the input reads as it did. -/
def fnExactIsRegularUptoRow : OpenClaim := { program := "ytgomfphdgekniaa", sum := "77af40abaf031d46fad19b7e580997e5c925776b0d1d6a213d0ff1642dfdbffc", func := "loop.example/g01200/laws.FnExactIsRegular", spec := "fnExactIsRegular", recurses := true, plainKeys := false, apart := false, narrowed := true }
def FnExactIsRegularUptoSaid : Prop := fnExactIsRegularUptoRow.holds Try.pinned (OpenSpec.upto fnExactIsRegularSpec)

/-- 'laws.FnExactGroupOrder', WHERE WHAT IT READS IS OF BULK AT MOST 1048576: true; the input reads as it did. -/
def fnExactGroupOrderUptoRow : OpenClaim := { program := "ytgomfphdgekniaa", sum := "77af40abaf031d46fad19b7e580997e5c925776b0d1d6a213d0ff1642dfdbffc", func := "loop.example/g01200/laws.FnExactGroupOrder", spec := "fnExactGroupOrder", recurses := true, plainKeys := false, apart := false, narrowed := true }
def FnExactGroupOrderUptoSaid : Prop := fnExactGroupOrderUptoRow.holds Try.pinned (OpenSpec.upto fnExactGroupOrderSpec)

/-- 'laws.FnExactInGroup', WHERE WHAT IT READS IS OF BULK AT MOST 1048576: true; the input reads as it did. -/
def fnExactInGroupUptoRow : OpenClaim := { program := "ytgomfphdgekniaa", sum := "77af40abaf031d46fad19b7e580997e5c925776b0d1d6a213d0ff1642dfdbffc", func := "loop.example/g01200/laws.FnExactInGroup", spec := "fnExactInGroup", recurses := true, plainKeys := false, apart := false, narrowed := true }
def FnExactInGroupUptoSaid : Prop := fnExactInGroupUptoRow.holds Try.pinned (OpenSpec.upto fnExactInGroupSpec)

/-- 'laws.FnExactOrderOfWord', WHERE WHAT IT READS IS OF BULK AT MOST 1048576: true; the input reads as it did. -/
def fnExactOrderOfWordUptoRow : OpenClaim := { program := "ytgomfphdgekniaa", sum := "77af40abaf031d46fad19b7e580997e5c925776b0d1d6a213d0ff1642dfdbffc", func := "loop.example/g01200/laws.FnExactOrderOfWord", spec := "fnExactOrderOfWord", unfollowed := true, recurses := true, plainKeys := false, apart := false, narrowed := true }
def FnExactOrderOfWordUptoSaid : Prop := fnExactOrderOfWordUptoRow.holds Try.pinned (OpenSpec.upto fnExactOrderOfWordSpec)

/-- 'laws.FnExactValueOfWord', WHERE WHAT IT READS IS OF BULK AT MOST 1048576: true; the input reads as it did. -/
def fnExactValueOfWordUptoRow : OpenClaim := { program := "ytgomfphdgekniaa", sum := "77af40abaf031d46fad19b7e580997e5c925776b0d1d6a213d0ff1642dfdbffc", func := "loop.example/g01200/laws.FnExactValueOfWord", spec := "fnExactValueOfWord", unfollowed := true, recurses := true, plainKeys := false, apart := false, narrowed := true }
def FnExactValueOfWordUptoSaid : Prop := fnExactValueOfWordUptoRow.holds Try.pinned (OpenSpec.upto fnExactValueOfWordSpec)

end Rows
end Go.Proofs.Ytgomfphdgekniaa
