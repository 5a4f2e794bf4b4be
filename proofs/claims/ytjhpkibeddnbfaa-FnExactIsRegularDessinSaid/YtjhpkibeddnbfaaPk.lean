/- Pairs as keys of maps; sets of pairs -/
import Derived.Test.YtjhpkibeddnbfaaMap
import Derived.Test.YtjhpkibeddnbfaaPr
import Derived.Carry
namespace Go.Proofs.Ytjhpkibeddnbfaa
open Go.RowKit
open Go.Maps (Keyed)

theorem laidPk : laidOutB Try.prog = true := by kernel_rfl
theorem keyedPr : Keyed Try.prog 68 := Keyed.of_law (deep_law_laid laidPk (m := 3) (by omega) (of_decide_eq_true (by kernel_rfl)) (by kernel_rfl) (by kernel_rfl))
theorem isK_pair (a b : Nat) (ha : a < 256) (hb : b < 256) : IsK Try.prog 68 (.agg #[.int .u8 (a : Int), .int .u8 (b : Int)]) := by
  have h1 : Try.prog.keyType 68 = true := by kernel_rfl
  obtain ⟨n, hn⟩ : ∃ n, Try.prog.types.size + 1 = n + 2 := ⟨Try.prog.types.size - 1, by
    have : 1 ≤ Try.prog.types.size := of_decide_eq_true (by kernel_rfl)
    omega⟩
  have h2 : Try.prog.cellsOf 68 = 2 := by kernel_rfl
  have h3 : Try.prog.cellsOf 5 = 1 := by kernel_rfl
  unfold IsK keyOf
  rw [Try.underlying68, hn]
  have h4 : Value.formed Try.prog 68 (.agg #[.int .u8 (a : Int), .int .u8 (b : Int)]) = true := by
    unfold Value.formed
    rw [Try.underlying68]
    simp [h2]
  have w1 : (Lit.int .u8 (a : Int)).wf = true := by unfold Lit.wf; simp [IntKind.min, IntKind.max, IntKind.signed, IntKind.bits]; omega
  have w2 : (Lit.int .u8 (b : Int)).wf = true := by unfold Lit.wf; simp [IntKind.min, IntKind.max, IntKind.signed, IntKind.bits]; omega
  have k1 : ∀ x : Nat, (Lit.int .u8 (x : Int)).wf = true → Try.prog.keyLits (n + 1) 5 [.int .u8 (x : Int)] = some [.int .u8 (x : Int)] := fun x hx => by
    unfold Program.keyLits
    simp only [Try.underlying5, hx]
    simp
  have k2 : Try.prog.keyLits (n + 2) 68 [.int .u8 (a : Int), .int .u8 (b : Int)] = some [.int .u8 (a : Int), .int .u8 (b : Int)] := by
    unfold Program.keyLits
    simp only [Try.underlying68, h2]
    simp [h3, k1 a w1, k1 b w2]
  simp only [h1, h4, Bool.and_self, if_true]
  simp only [Value.cells, k2]
  exact ⟨_, rfl⟩
end Go.Proofs.Ytjhpkibeddnbfaa
