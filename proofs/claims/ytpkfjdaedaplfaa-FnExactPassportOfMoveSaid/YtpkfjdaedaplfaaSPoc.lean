/- PlacesOfCycles of the model -/
import Derived.Test.YtpkfjdaedaplfaaPoc
namespace Go.Proofs.Ytpkfjdaedaplfaa
open Go.RowKit

-- left out here: PW
theorem in_any (n a b : Int) (w : World) : Calls Try.prog 57 #[.int .i64 n, .int .i64 a, .int .i64 b] w fun e w' => e = .returned (.bool (decide (a ≤ n ∧ n ≤ b))) ∧ w = w' := by
  by_cases h : a ≤ n ∧ n ≤ b
  · rw [decide_eq_true h]; exact in_yes n a b w h.1 h.2
  · rw [decide_eq_false h]; exact in_no n a b w h
open Classical in
noncomputable def madeR (ls : List (List Int)) (n : Int) : Value := if 1 ≤ n ∧ n ≤ 16 ∧ goodC n.toNat ls then .tuple #[.agg (av (outP n.toNat (ls.flatMap prs))), .bool true] else .tuple #[.agg (av fun _ => 0), .bool false]

-- left out here: loop.example/g01200/spec.l01Made
-- left out here: loop.example/g01200/spec.PlacesOfCycles
end Go.Proofs.Ytpkfjdaedaplfaa
