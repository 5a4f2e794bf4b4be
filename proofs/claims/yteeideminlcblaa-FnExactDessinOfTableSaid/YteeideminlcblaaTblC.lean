/- DessinOfTable of program and model -/
import Derived.Test.YteeideminlcblaaTblS
import Derived.Test.YteeideminlcblaaToDs
import Derived.Test.YteeideminlcblaaEqDs
import Derived.Test.YteeideminlcblaaBld
import Derived.Test.YteeideminlcblaaCell
import Derived.Test.YteeideminlcblaaWr
import Derived.Test.YteeideminlcblaaRegS
namespace Go.Proofs.Yteeideminlcblaa
open Go.RowKit

/-- the first k steps -/
@[irreducible] def uptF (p : Nat → Nat) (k : Nat) : Nat → Nat := fun i => if i < k then p i else 0
theorem uptF_zero (p : Nat → Nat) : uptF p 0 = fun _ => 0 := by unfold uptF; funext i; rw [if_neg (by omega)]
theorem uptF_succ (p : Nat → Nat) (x : Nat) : fset (uptF p x) x (p x) = uptF p (x + 1) := by
  unfold uptF fset
  funext i
  by_cases h : i = x
  · rw [if_pos h, if_pos (by omega), h]
  · rw [if_neg h]
    show (if i < x then p i else 0) = if i < x + 1 then p i else 0
    by_cases h2 : i < x
    · rw [if_pos h2, if_pos (by omega)]
    · rw [if_neg h2, if_neg (by omega)]
noncomputable def tdR (T : List (List Int)) : Value :=
  if tabB T = true then (if 16 < T.length then .tuple #[.agg (dv 0 (fun _ => 0) (fun _ => 0)), .int .i64 3] else .tuple #[.agg (dv (T.length : Int) (uptF (tF T 0) T.length) (uptF (tF T 1) T.length)), .int .i64 0])
  else .tuple #[.agg (dv 0 (fun _ => 0) (fun _ => 0)), .int .i64 1]
theorem tdR_eq (T : List (List Int)) : ∃ (a : Int) (r s : Nat → Nat) (c : Int), tdR T = .tuple #[.agg (dv a r s), .int .i64 c] := by
  unfold tdR; split
  · split
    · exact ⟨_, _, _, _, rfl⟩
    · exact ⟨_, _, _, _, rfl⟩
  · exact ⟨_, _, _, _, rfl⟩
end Go.Proofs.Yteeideminlcblaa
