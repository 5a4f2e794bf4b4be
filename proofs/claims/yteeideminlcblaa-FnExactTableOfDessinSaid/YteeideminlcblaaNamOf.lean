/- NamingFrom of the program and of the model; the walk of FnExactNamingFrom -/
import Derived.Test.YteeideminlcblaaSNam
import Derived.Test.YteeideminlcblaaToDs
import Derived.Test.YteeideminlcblaaEqPl
namespace Go.Proofs.Yteeideminlcblaa
open Go.RowKit

set_option maxRecDepth 100000 in
set_option maxHeartbeats 1000000 in
theorem isDart_any (n : Int) (f g : Nat → Nat) (x : Int) (w : World) :
    Calls Try.prog 53 #[.agg (dv n f g), .int .i64 x] w fun e w' => e = .returned (.bool (decide (0 ≤ x ∧ x < n))) ∧ Below w.heap.size w w' := by
  have hn := dv_n n f g
  by_cases h0 : 0 ≤ x
  · have hd : decide (0 ≤ x ∧ x < n) = decide (x < n) := by simp [h0]
    rw [hd]
    have hd0 : decide (0 ≤ x) = true := by simp [h0]
    clear hd
    go_enter Try.func53, Try.ntmps53
    go_wp2
    go_ret
    exact ⟨rfl, below1 _ _⟩
  · have hd : decide (0 ≤ x ∧ x < n) = false := by simp [h0]
    rw [hd]
    have hd0 : decide (0 ≤ x) = false := by simp [h0]
    clear hd
    go_enter Try.func53, Try.ntmps53
    go_wp2
    go_ret
    exact ⟨rfl, below1 _ _⟩
open Classical in
noncomputable def namR (n : Int) (f g : Nat → Nat) (x : Int) : Value :=
  if desB n f g = true then (if 0 ≤ x ∧ x < n then .tuple #[.agg (av (namF f g n.toNat x.toNat)), .int .i64 0] else .tuple #[.agg (av fun _ => 0), .int .i64 2]) else .tuple #[.agg (av fun _ => 0), .int .i64 1]
theorem namR_eq (n : Int) (f g : Nat → Nat) (x : Int) : ∃ (r : Nat → Nat) (c : Int), namR n f g x = .tuple #[.agg (av r), .int .i64 c] := by
  unfold namR; split
  · split
    · exact ⟨_, _, rfl⟩
    · exact ⟨_, _, rfl⟩
  · exact ⟨_, _, rfl⟩

-- left out here: loop.example/g01200/impl.NamingFrom
-- left out here: loop.example/g01200/spec.NamingFrom
-- left out here: loop.example/g01200/laws.FnExactNamingFrom
end Go.Proofs.Yteeideminlcblaa
