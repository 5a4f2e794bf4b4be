/-
  No cell of these rows narrows 'for every input' (looked for: loops, veiled, ifaces, maps, wideKeys, modest, calm, conditions, laid).
  DERIVED. THE GIVEN ROWS OF THIS SEAT. 11 by the template 'for every input the law returns true; each argument reads behind the call as it read before'; 0 by the template 'total and deterministic' (their statements: YtfoaejdbgpgnhaaTotals.lean).
  GIVEN WITH THE SEED: the statements are not yours to turn. If you find one false, say at which input.
  Laid BY PROGRAM, IN A SANDBOX (cutbox-rows.mjs): the forced cells as the released guide's own fill.sh prints them over the translation c61d0eae328c15c5… (all of the seat's roots in one cut). By AI agents, Wed Nov 11 2026. No macro, syntax, notation, axiom, sorry.
-/
import Derived.Test.YtfoaejdbgpgnhaaChecked
import GoSem.Claim
import GoSem.ClaimJoined
import GoSem.ClaimMapViews
import Derived.JoinedTies
import Derived.KernelRfl
namespace Go.Proofs.Ytfoaejdbgpgnhaa
/- THE CELL 'sum', in the pinned program and in every row, IS THE sha256 OF THE DUMP (.gsa) THAT YtfoaejdbgpgnhaaProg.lean LOADS. Nothing in Lean hashes anything: it is a label: what it is worth is what the hold of that sum in a sandbox is worth. -/
noncomputable def Try.pinned : Pinned := { name := "ytfoaejdbgpgnhaa", sum := "c61d0eae328c15c5f509c635d34ef90d5da4a6195686f8fe74ac6b6a50b04b46", checked := Try.checked }
namespace Rows
def none {H : Type} : Left H := { results := [], args := [] }

/-- 'laws.FnExactIsPrimitive': WHATEVER THE INPUT: true; the input reads as it did. -/
def fnExactIsPrimitiveSpec : ChangeSpec := { name := "fnExactIsPrimitive", fn := fun _ => fun
  | [d] => { results := [.lit (.bool true)], args := [d] }
  | _ => none }
def fnExactIsPrimitiveRow : OpenClaim := { program := "ytfoaejdbgpgnhaa", sum := "c61d0eae328c15c5f509c635d34ef90d5da4a6195686f8fe74ac6b6a50b04b46", func := "loop.example/g01200/laws.FnExactIsPrimitive", spec := "fnExactIsPrimitive", unfollowed := true, recurses := true, plainKeys := false, apart := false }
def FnExactIsPrimitiveSaid : Prop := fnExactIsPrimitiveRow.holds Try.pinned (OpenSpec.ofChange fnExactIsPrimitiveSpec)

/-- ITS FALSE NEIGHBOUR: 'it returns false'. Refute it at one input. -/
def fnExactIsPrimitiveWrong : ChangeSpec := { name := "fnExactIsPrimitive", fn := fun _ => fun
  | [d] => { results := [.lit (.bool false)], args := [d] }
  | _ => none }
def FnExactIsPrimitiveWrongFalsely : Prop := fnExactIsPrimitiveRow.holds Try.pinned (OpenSpec.ofChange fnExactIsPrimitiveWrong)

/-- 'laws.FnExactQuotientByBlock': WHATEVER THE INPUT: true; the input reads as it did. -/
def fnExactQuotientByBlockSpec : ChangeSpec := { name := "fnExactQuotientByBlock", fn := fun _ => fun
  | [d1, d2] => { results := [.lit (.bool true)], args := [d1, d2] }
  | _ => none }
def fnExactQuotientByBlockRow : OpenClaim := { program := "ytfoaejdbgpgnhaa", sum := "c61d0eae328c15c5f509c635d34ef90d5da4a6195686f8fe74ac6b6a50b04b46", func := "loop.example/g01200/laws.FnExactQuotientByBlock", spec := "fnExactQuotientByBlock", plainKeys := false, apart := false }
def FnExactQuotientByBlockSaid : Prop := fnExactQuotientByBlockRow.holds Try.pinned (OpenSpec.ofChange fnExactQuotientByBlockSpec)

/-- ITS FALSE NEIGHBOUR: 'it returns false'. Refute it at one input. -/
def fnExactQuotientByBlockWrong : ChangeSpec := { name := "fnExactQuotientByBlock", fn := fun _ => fun
  | [d1, d2] => { results := [.lit (.bool false)], args := [d1, d2] }
  | _ => none }
def FnExactQuotientByBlockWrongFalsely : Prop := fnExactQuotientByBlockRow.holds Try.pinned (OpenSpec.ofChange fnExactQuotientByBlockWrong)

/-- 'laws.FnExactDerivedSeries': WHATEVER THE INPUT: true; the input reads as it did. -/
def fnExactDerivedSeriesSpec : ChangeSpec := { name := "fnExactDerivedSeries", fn := fun _ => fun
  | [d] => { results := [.lit (.bool true)], args := [d] }
  | _ => none }
def fnExactDerivedSeriesRow : OpenClaim := { program := "ytfoaejdbgpgnhaa", sum := "c61d0eae328c15c5f509c635d34ef90d5da4a6195686f8fe74ac6b6a50b04b46", func := "loop.example/g01200/laws.FnExactDerivedSeries", spec := "fnExactDerivedSeries", recurses := true, plainKeys := false, apart := false }
def FnExactDerivedSeriesSaid : Prop := fnExactDerivedSeriesRow.holds Try.pinned (OpenSpec.ofChange fnExactDerivedSeriesSpec)

/-- ITS FALSE NEIGHBOUR: 'it returns false'. Refute it at one input. -/
def fnExactDerivedSeriesWrong : ChangeSpec := { name := "fnExactDerivedSeries", fn := fun _ => fun
  | [d] => { results := [.lit (.bool false)], args := [d] }
  | _ => none }
def FnExactDerivedSeriesWrongFalsely : Prop := fnExactDerivedSeriesRow.holds Try.pinned (OpenSpec.ofChange fnExactDerivedSeriesWrong)

/-- 'laws.FnExactIsSolvable': WHATEVER THE INPUT: true; the input reads as it did. -/
def fnExactIsSolvableSpec : ChangeSpec := { name := "fnExactIsSolvable", fn := fun _ => fun
  | [d] => { results := [.lit (.bool true)], args := [d] }
  | _ => none }
def fnExactIsSolvableRow : OpenClaim := { program := "ytfoaejdbgpgnhaa", sum := "c61d0eae328c15c5f509c635d34ef90d5da4a6195686f8fe74ac6b6a50b04b46", func := "loop.example/g01200/laws.FnExactIsSolvable", spec := "fnExactIsSolvable", recurses := true, plainKeys := false, apart := false }
def FnExactIsSolvableSaid : Prop := fnExactIsSolvableRow.holds Try.pinned (OpenSpec.ofChange fnExactIsSolvableSpec)

/-- ITS FALSE NEIGHBOUR: 'it returns false'. Refute it at one input. -/
def fnExactIsSolvableWrong : ChangeSpec := { name := "fnExactIsSolvable", fn := fun _ => fun
  | [d] => { results := [.lit (.bool false)], args := [d] }
  | _ => none }
def FnExactIsSolvableWrongFalsely : Prop := fnExactIsSolvableRow.holds Try.pinned (OpenSpec.ofChange fnExactIsSolvableWrong)

/-- 'laws.FnExactElementTypes': WHATEVER THE INPUT: true; the input reads as it did. -/
def fnExactElementTypesSpec : ChangeSpec := { name := "fnExactElementTypes", fn := fun _ => fun
  | [d] => { results := [.lit (.bool true)], args := [d] }
  | _ => none }
def fnExactElementTypesRow : OpenClaim := { program := "ytfoaejdbgpgnhaa", sum := "c61d0eae328c15c5f509c635d34ef90d5da4a6195686f8fe74ac6b6a50b04b46", func := "loop.example/g01200/laws.FnExactElementTypes", spec := "fnExactElementTypes", unfollowed := true, recurses := true, plainKeys := false, apart := false }
def FnExactElementTypesSaid : Prop := fnExactElementTypesRow.holds Try.pinned (OpenSpec.ofChange fnExactElementTypesSpec)

/-- ITS FALSE NEIGHBOUR: 'it returns false'. Refute it at one input. -/
def fnExactElementTypesWrong : ChangeSpec := { name := "fnExactElementTypes", fn := fun _ => fun
  | [d] => { results := [.lit (.bool false)], args := [d] }
  | _ => none }
def FnExactElementTypesWrongFalsely : Prop := fnExactElementTypesRow.holds Try.pinned (OpenSpec.ofChange fnExactElementTypesWrong)

/-- 'laws.FnExactClosureGenus': WHATEVER THE INPUT: true; the input reads as it did. -/
def fnExactClosureGenusSpec : ChangeSpec := { name := "fnExactClosureGenus", fn := fun _ => fun
  | [d] => { results := [.lit (.bool true)], args := [d] }
  | _ => none }
def fnExactClosureGenusRow : OpenClaim := { program := "ytfoaejdbgpgnhaa", sum := "c61d0eae328c15c5f509c635d34ef90d5da4a6195686f8fe74ac6b6a50b04b46", func := "loop.example/g01200/laws.FnExactClosureGenus", spec := "fnExactClosureGenus", recurses := true, plainKeys := false, apart := false }
def FnExactClosureGenusSaid : Prop := fnExactClosureGenusRow.holds Try.pinned (OpenSpec.ofChange fnExactClosureGenusSpec)

/-- ITS FALSE NEIGHBOUR: 'it returns false'. Refute it at one input. -/
def fnExactClosureGenusWrong : ChangeSpec := { name := "fnExactClosureGenus", fn := fun _ => fun
  | [d] => { results := [.lit (.bool false)], args := [d] }
  | _ => none }
def FnExactClosureGenusWrongFalsely : Prop := fnExactClosureGenusRow.holds Try.pinned (OpenSpec.ofChange fnExactClosureGenusWrong)

/-- 'laws.FnExactCountPairs': WHATEVER THE INPUT: true; the input reads as it did. -/
def fnExactCountPairsSpec : ChangeSpec := { name := "fnExactCountPairs", fn := fun _ => fun
  | [d] => { results := [.lit (.bool true)], args := [d] }
  | _ => none }
def fnExactCountPairsRow : OpenClaim := { program := "ytfoaejdbgpgnhaa", sum := "c61d0eae328c15c5f509c635d34ef90d5da4a6195686f8fe74ac6b6a50b04b46", func := "loop.example/g01200/laws.FnExactCountPairs", spec := "fnExactCountPairs", unfollowed := true, recurses := true, plainKeys := false, apart := false }
def FnExactCountPairsSaid : Prop := fnExactCountPairsRow.holds Try.pinned (OpenSpec.ofChange fnExactCountPairsSpec)

/-- ITS FALSE NEIGHBOUR: 'it returns false'. Refute it at one input. -/
def fnExactCountPairsWrong : ChangeSpec := { name := "fnExactCountPairs", fn := fun _ => fun
  | [d] => { results := [.lit (.bool false)], args := [d] }
  | _ => none }
def FnExactCountPairsWrongFalsely : Prop := fnExactCountPairsRow.holds Try.pinned (OpenSpec.ofChange fnExactCountPairsWrong)

/-- 'laws.FnExactCountConnected': WHATEVER THE INPUT: true; the input reads as it did. -/
def fnExactCountConnectedSpec : ChangeSpec := { name := "fnExactCountConnected", fn := fun _ => fun
  | [d] => { results := [.lit (.bool true)], args := [d] }
  | _ => none }
def fnExactCountConnectedRow : OpenClaim := { program := "ytfoaejdbgpgnhaa", sum := "c61d0eae328c15c5f509c635d34ef90d5da4a6195686f8fe74ac6b6a50b04b46", func := "loop.example/g01200/laws.FnExactCountConnected", spec := "fnExactCountConnected", unfollowed := true, recurses := true, plainKeys := false, apart := false }
def FnExactCountConnectedSaid : Prop := fnExactCountConnectedRow.holds Try.pinned (OpenSpec.ofChange fnExactCountConnectedSpec)

/-- ITS FALSE NEIGHBOUR: 'it returns false'. Refute it at one input. -/
def fnExactCountConnectedWrong : ChangeSpec := { name := "fnExactCountConnected", fn := fun _ => fun
  | [d] => { results := [.lit (.bool false)], args := [d] }
  | _ => none }
def FnExactCountConnectedWrongFalsely : Prop := fnExactCountConnectedRow.holds Try.pinned (OpenSpec.ofChange fnExactCountConnectedWrong)

/-- 'laws.FnExactDessinsOf': WHATEVER THE INPUT: true; the input reads as it did. -/
def fnExactDessinsOfSpec : ChangeSpec := { name := "fnExactDessinsOf", fn := fun _ => fun
  | [d] => { results := [.lit (.bool true)], args := [d] }
  | _ => none }
def fnExactDessinsOfRow : OpenClaim := { program := "ytfoaejdbgpgnhaa", sum := "c61d0eae328c15c5f509c635d34ef90d5da4a6195686f8fe74ac6b6a50b04b46", func := "loop.example/g01200/laws.FnExactDessinsOf", spec := "fnExactDessinsOf", inPlace := ["internal/bytealg.Compare"], unfollowed := true, recurses := true, plainKeys := false, apart := false }
def FnExactDessinsOfSaid : Prop := fnExactDessinsOfRow.holds Try.pinned (OpenSpec.ofChange fnExactDessinsOfSpec)

/-- ITS FALSE NEIGHBOUR: 'it returns false'. Refute it at one input. -/
def fnExactDessinsOfWrong : ChangeSpec := { name := "fnExactDessinsOf", fn := fun _ => fun
  | [d] => { results := [.lit (.bool false)], args := [d] }
  | _ => none }
def FnExactDessinsOfWrongFalsely : Prop := fnExactDessinsOfRow.holds Try.pinned (OpenSpec.ofChange fnExactDessinsOfWrong)

/-- 'laws.FnExactAllDessins': WHATEVER THE INPUT: true; the input reads as it did. -/
def fnExactAllDessinsSpec : ChangeSpec := { name := "fnExactAllDessins", fn := fun _ => fun
  | [d] => { results := [.lit (.bool true)], args := [d] }
  | _ => none }
def fnExactAllDessinsRow : OpenClaim := { program := "ytfoaejdbgpgnhaa", sum := "c61d0eae328c15c5f509c635d34ef90d5da4a6195686f8fe74ac6b6a50b04b46", func := "loop.example/g01200/laws.FnExactAllDessins", spec := "fnExactAllDessins", inPlace := ["internal/bytealg.Compare"], unfollowed := true, recurses := true, plainKeys := false, apart := false }
def FnExactAllDessinsSaid : Prop := fnExactAllDessinsRow.holds Try.pinned (OpenSpec.ofChange fnExactAllDessinsSpec)

/-- ITS FALSE NEIGHBOUR: 'it returns false'. Refute it at one input. -/
def fnExactAllDessinsWrong : ChangeSpec := { name := "fnExactAllDessins", fn := fun _ => fun
  | [d] => { results := [.lit (.bool false)], args := [d] }
  | _ => none }
def FnExactAllDessinsWrongFalsely : Prop := fnExactAllDessinsRow.holds Try.pinned (OpenSpec.ofChange fnExactAllDessinsWrong)

/-- 'laws.FnTypes': WHATEVER THE INPUT: true; the input reads as it did. -/
def fnTypesSpec : ChangeSpec := { name := "fnTypes", fn := fun _ => fun
  | [d] => { results := [.lit (.bool true)], args := [d] }
  | _ => none }
def fnTypesRow : OpenClaim := { program := "ytfoaejdbgpgnhaa", sum := "c61d0eae328c15c5f509c635d34ef90d5da4a6195686f8fe74ac6b6a50b04b46", func := "loop.example/g01200/laws.FnTypes", spec := "fnTypes", recurses := true, plainKeys := false, apart := false }
def FnTypesSaid : Prop := fnTypesRow.holds Try.pinned (OpenSpec.ofChange fnTypesSpec)

/-- ITS FALSE NEIGHBOUR: 'it returns false'. Refute it at one input. -/
def fnTypesWrong : ChangeSpec := { name := "fnTypes", fn := fun _ => fun
  | [d] => { results := [.lit (.bool false)], args := [d] }
  | _ => none }
def FnTypesWrongFalsely : Prop := fnTypesRow.holds Try.pinned (OpenSpec.ofChange fnTypesWrong)

/- THE SECOND FORM. 'bulk': how many values and letters a reading holds, each counted each time it is reached (what is shared counts as often as it is met; a slice's spare places count too). A statement '..UptoSaid' is the law's where the arguments, and the package variables that the reading takes, are together of bulk at most 1048576: NARROWER than '..Said'. Prove '..Said' where nothing that the law and all that it calls make is longer than what came in: it says more and counts as full. Else prove '..UptoSaid'. A law counts once. -/
mutual
def uptoBulk {H : Type} : DataW H → Nat
  | .lit (.string bytes) => bytes.length + 1
  | .lit _ => 1
  | .nil => 1
  | .ptr d => uptoBulk d + 1
  | .slice elems spare => uptoBulkAll elems + uptoBulkAll spare + 1
  | .agg parts => uptoBulkAll parts + 1
  | .iface _ d => uptoBulk d + 1
  | .map entries => uptoBulkEntries entries + 1
  | .held _ => 1
def uptoBulkAll {H : Type} : List (DataW H) → Nat
  | [] => 0
  | d :: r => uptoBulk d + uptoBulkAll r
def uptoBulkEntries {H : Type} : List (Lit × DataW H) → Nat
  | [] => 0
  | x :: r => uptoBulkEntry x + uptoBulkEntries r
def uptoBulkEntry {H : Type} : Lit × DataW H → Nat
  | (.string bytes, d) => bytes.length + uptoBulk d + 1
  | (_, d) => uptoBulk d + 1
 end
def uptoSmall : (H : Type) → List (DataW H) → Bool := fun _ ds => decide (uptoBulkAll ds ≤ 1048576)
def OpenSpec.upto (s : _root_.Go.ChangeSpec) : _root_.Go.OpenSpec := { _root_.Go.OpenSpec.ofChange s with cond := some uptoSmall }

/-- 'laws.FnExactIsPrimitive', WHERE WHAT IT READS IS OF BULK AT MOST 1048576: true; the input reads as it did. -/
def fnExactIsPrimitiveUptoRow : OpenClaim := { program := "ytfoaejdbgpgnhaa", sum := "c61d0eae328c15c5f509c635d34ef90d5da4a6195686f8fe74ac6b6a50b04b46", func := "loop.example/g01200/laws.FnExactIsPrimitive", spec := "fnExactIsPrimitive", unfollowed := true, recurses := true, plainKeys := false, apart := false, narrowed := true }
def FnExactIsPrimitiveUptoSaid : Prop := fnExactIsPrimitiveUptoRow.holds Try.pinned (OpenSpec.upto fnExactIsPrimitiveSpec)

/-- 'laws.FnExactQuotientByBlock', WHERE WHAT IT READS IS OF BULK AT MOST 1048576: true; the input reads as it did. -/
def fnExactQuotientByBlockUptoRow : OpenClaim := { program := "ytfoaejdbgpgnhaa", sum := "c61d0eae328c15c5f509c635d34ef90d5da4a6195686f8fe74ac6b6a50b04b46", func := "loop.example/g01200/laws.FnExactQuotientByBlock", spec := "fnExactQuotientByBlock", plainKeys := false, apart := false, narrowed := true }
def FnExactQuotientByBlockUptoSaid : Prop := fnExactQuotientByBlockUptoRow.holds Try.pinned (OpenSpec.upto fnExactQuotientByBlockSpec)

/-- 'laws.FnExactDerivedSeries', WHERE WHAT IT READS IS OF BULK AT MOST 1048576: true; the input reads as it did. -/
def fnExactDerivedSeriesUptoRow : OpenClaim := { program := "ytfoaejdbgpgnhaa", sum := "c61d0eae328c15c5f509c635d34ef90d5da4a6195686f8fe74ac6b6a50b04b46", func := "loop.example/g01200/laws.FnExactDerivedSeries", spec := "fnExactDerivedSeries", recurses := true, plainKeys := false, apart := false, narrowed := true }
def FnExactDerivedSeriesUptoSaid : Prop := fnExactDerivedSeriesUptoRow.holds Try.pinned (OpenSpec.upto fnExactDerivedSeriesSpec)

/-- 'laws.FnExactIsSolvable', WHERE WHAT IT READS IS OF BULK AT MOST 1048576: true; the input reads as it did. -/
def fnExactIsSolvableUptoRow : OpenClaim := { program := "ytfoaejdbgpgnhaa", sum := "c61d0eae328c15c5f509c635d34ef90d5da4a6195686f8fe74ac6b6a50b04b46", func := "loop.example/g01200/laws.FnExactIsSolvable", spec := "fnExactIsSolvable", recurses := true, plainKeys := false, apart := false, narrowed := true }
def FnExactIsSolvableUptoSaid : Prop := fnExactIsSolvableUptoRow.holds Try.pinned (OpenSpec.upto fnExactIsSolvableSpec)

/-- 'laws.FnExactElementTypes', WHERE WHAT IT READS IS OF BULK AT MOST 1048576: true; the input reads as it did. -/
def fnExactElementTypesUptoRow : OpenClaim := { program := "ytfoaejdbgpgnhaa", sum := "c61d0eae328c15c5f509c635d34ef90d5da4a6195686f8fe74ac6b6a50b04b46", func := "loop.example/g01200/laws.FnExactElementTypes", spec := "fnExactElementTypes", unfollowed := true, recurses := true, plainKeys := false, apart := false, narrowed := true }
def FnExactElementTypesUptoSaid : Prop := fnExactElementTypesUptoRow.holds Try.pinned (OpenSpec.upto fnExactElementTypesSpec)

/-- 'laws.FnExactClosureGenus', WHERE WHAT IT READS IS OF BULK AT MOST 1048576: true; the input reads as it did. -/
def fnExactClosureGenusUptoRow : OpenClaim := { program := "ytfoaejdbgpgnhaa", sum := "c61d0eae328c15c5f509c635d34ef90d5da4a6195686f8fe74ac6b6a50b04b46", func := "loop.example/g01200/laws.FnExactClosureGenus", spec := "fnExactClosureGenus", recurses := true, plainKeys := false, apart := false, narrowed := true }
def FnExactClosureGenusUptoSaid : Prop := fnExactClosureGenusUptoRow.holds Try.pinned (OpenSpec.upto fnExactClosureGenusSpec)

/-- 'laws.FnExactCountPairs', WHERE WHAT IT READS IS OF BULK AT MOST 1048576: true; the input reads as it did. -/
def fnExactCountPairsUptoRow : OpenClaim := { program := "ytfoaejdbgpgnhaa", sum := "c61d0eae328c15c5f509c635d34ef90d5da4a6195686f8fe74ac6b6a50b04b46", func := "loop.example/g01200/laws.FnExactCountPairs", spec := "fnExactCountPairs", unfollowed := true, recurses := true, plainKeys := false, apart := false, narrowed := true }
def FnExactCountPairsUptoSaid : Prop := fnExactCountPairsUptoRow.holds Try.pinned (OpenSpec.upto fnExactCountPairsSpec)

/-- 'laws.FnExactCountConnected', WHERE WHAT IT READS IS OF BULK AT MOST 1048576: true; the input reads as it did. -/
def fnExactCountConnectedUptoRow : OpenClaim := { program := "ytfoaejdbgpgnhaa", sum := "c61d0eae328c15c5f509c635d34ef90d5da4a6195686f8fe74ac6b6a50b04b46", func := "loop.example/g01200/laws.FnExactCountConnected", spec := "fnExactCountConnected", unfollowed := true, recurses := true, plainKeys := false, apart := false, narrowed := true }
def FnExactCountConnectedUptoSaid : Prop := fnExactCountConnectedUptoRow.holds Try.pinned (OpenSpec.upto fnExactCountConnectedSpec)

/-- 'laws.FnExactDessinsOf', WHERE WHAT IT READS IS OF BULK AT MOST 1048576: true; the input reads as it did. -/
def fnExactDessinsOfUptoRow : OpenClaim := { program := "ytfoaejdbgpgnhaa", sum := "c61d0eae328c15c5f509c635d34ef90d5da4a6195686f8fe74ac6b6a50b04b46", func := "loop.example/g01200/laws.FnExactDessinsOf", spec := "fnExactDessinsOf", inPlace := ["internal/bytealg.Compare"], unfollowed := true, recurses := true, plainKeys := false, apart := false, narrowed := true }
def FnExactDessinsOfUptoSaid : Prop := fnExactDessinsOfUptoRow.holds Try.pinned (OpenSpec.upto fnExactDessinsOfSpec)

/-- 'laws.FnExactAllDessins', WHERE WHAT IT READS IS OF BULK AT MOST 1048576: true; the input reads as it did. -/
def fnExactAllDessinsUptoRow : OpenClaim := { program := "ytfoaejdbgpgnhaa", sum := "c61d0eae328c15c5f509c635d34ef90d5da4a6195686f8fe74ac6b6a50b04b46", func := "loop.example/g01200/laws.FnExactAllDessins", spec := "fnExactAllDessins", inPlace := ["internal/bytealg.Compare"], unfollowed := true, recurses := true, plainKeys := false, apart := false, narrowed := true }
def FnExactAllDessinsUptoSaid : Prop := fnExactAllDessinsUptoRow.holds Try.pinned (OpenSpec.upto fnExactAllDessinsSpec)

/-- 'laws.FnTypes', WHERE WHAT IT READS IS OF BULK AT MOST 1048576: true; the input reads as it did. -/
def fnTypesUptoRow : OpenClaim := { program := "ytfoaejdbgpgnhaa", sum := "c61d0eae328c15c5f509c635d34ef90d5da4a6195686f8fe74ac6b6a50b04b46", func := "loop.example/g01200/laws.FnTypes", spec := "fnTypes", recurses := true, plainKeys := false, apart := false, narrowed := true }
def FnTypesUptoSaid : Prop := fnTypesUptoRow.holds Try.pinned (OpenSpec.upto fnTypesSpec)

end Rows
end Go.Proofs.Ytfoaejdbgpgnhaa
