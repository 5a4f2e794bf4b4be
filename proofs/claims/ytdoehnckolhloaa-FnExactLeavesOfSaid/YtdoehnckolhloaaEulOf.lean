/- EulerOf, GenusOf of the program and of the model; the walks of their laws -/
import Derived.Test.YtdoehnckolhloaaPass
import Derived.Test.YtdoehnckolhloaaToDs
namespace Go.Proofs.Ytdoehnckolhloaa
open Go.RowKit

-- left out here: loop.example/g01200/spec.l01Euler
noncomputable def eulerR (n : Int) (f g : Nat → Nat) : Value := if desB n f g = true then .tuple #[.int .i64 (eulN f g n.toNat), .int .i64 0] else .tuple #[.int .i64 0, .int .i64 1]
noncomputable def genusR (n : Int) (f g : Nat → Nat) : Value := if desB n f g = true then .tuple #[.int .i64 (1 - eulN f g n.toNat / 2), .int .i64 0] else .tuple #[.int .i64 0, .int .i64 1]
theorem eulerR_eq (n : Int) (f g : Nat → Nat) : ∃ a c : Int, eulerR n f g = .tuple #[.int .i64 a, .int .i64 c] := by
  unfold eulerR; split
  · exact ⟨_, _, rfl⟩
  · exact ⟨_, _, rfl⟩
theorem genusR_eq (n : Int) (f g : Nat → Nat) : ∃ a c : Int, genusR n f g = .tuple #[.int .i64 a, .int .i64 c] := by
  unfold genusR; split
  · exact ⟨_, _, rfl⟩
  · exact ⟨_, _, rfl⟩
theorem DesN.eul {f g : Nat → Nat} {m : Nat} (h : DesN f g m) : ∃ a : Int, eulN f g m = 2 * a ∧ -8 ≤ a ∧ a ≤ 1 := by
  have h1 := h.euler
  have h2 := h.le
  have e : eulN f g m = -(m : Int) + (cycs f m).length + (cycs g m).length + (cycs (faceF f g m) m).length := rfl
  exact ⟨eulN f g m / 2, by omega, by omega, by omega⟩

-- left out here: loop.example/g01200/impl.EulerOf
-- left out here: loop.example/g01200/spec.EulerOf
-- left out here: loop.example/g01200/spec.l01Genus
-- left out here: loop.example/g01200/impl.GenusOf
-- left out here: loop.example/g01200/spec.GenusOf
-- left out here: loop.example/g01200/laws.FnExactEulerOf
-- left out here: loop.example/g01200/laws.FnExactGenusOf
end Go.Proofs.Ytdoehnckolhloaa
