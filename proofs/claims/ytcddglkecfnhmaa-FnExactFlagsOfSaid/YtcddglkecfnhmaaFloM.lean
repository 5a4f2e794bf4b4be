/- FlagsOf of the program and of the model -/
import Derived.Test.YtcddglkecfnhmaaClean
import Derived.Test.YtcddglkecfnhmaaFlg
import Derived.Test.YtcddglkecfnhmaaWr
import Derived.Test.YtcddglkecfnhmaaCell
namespace Go.Proofs.Ytcddglkecfnhmaa
open Go.RowKit

/-- two flags of a dart: from one end of the segment to the other one -/
def icG (F : Nat → Nat) (k v : Nat) : Nat → Nat → Nat
  | 0 => F
  | j + 1 => fset (icG F k v j) (2 * k + j) (v + 1 - j)
@[irreducible] def icF (F : Nat → Nat) (k v j : Nat) : Nat → Nat := icG F k v j
def fgC (g : Nat → Nat) : Nat → Nat → Nat
  | 0 => fun _ => 0
  | k + 1 => icF (fgC g k) k (2 * g k) 2
def fgS : Nat → Nat → Nat
  | 0 => fun _ => 0
  | k + 1 => icF (fgS k) k (2 * k) 2
def fgT (f : Nat → Nat) : Nat → Nat → Nat
  | 0 => fun _ => 0
  | k + 1 => fset (fset (fgT f k) (2 * k + 1) (2 * f k)) (2 * f k) (2 * k + 1)
@[irreducible] def flC (g : Nat → Nat) (k : Nat) : Nat → Nat := fgC g k
@[irreducible] def flS (k : Nat) : Nat → Nat := fgS k
@[irreducible] def flT (g : Nat → Nat) (k : Nat) : Nat → Nat := fgT g k
theorem icF_zero (F : Nat → Nat) (k v : Nat) : icF F k v 0 = F := by unfold icF; rfl
theorem icF_succ (F : Nat → Nat) (k v j : Nat) : icF F k v (j + 1) = fset (icF F k v j) (2 * k + j) (v + 1 - j) := by unfold icF; rfl
theorem flC_zero (g : Nat → Nat) : flC g 0 = fun _ => 0 := by unfold flC; rfl
theorem flC_succ (g : Nat → Nat) (k : Nat) : flC g (k + 1) = icF (flC g k) k (2 * g k) 2 := by unfold flC; rfl
theorem flS_zero : flS 0 = fun _ => 0 := by unfold flS; rfl
theorem flS_succ (k : Nat) : flS (k + 1) = icF (flS k) k (2 * k) 2 := by unfold flS; rfl
theorem flT_zero (g : Nat → Nat) : flT g 0 = fun _ => 0 := by unfold flT; rfl
theorem flT_succ (f : Nat → Nat) (k : Nat) : flT f (k + 1) = fset (fset (flT f k) (2 * k + 1) (2 * f k)) (2 * f k) (2 * k + 1) := by unfold flT; rfl
theorem w8of {a : Int} {b : Nat} (h : a = (b : Int)) (hb : b < 256) : IntKind.u8.wrap a = (b : Int) := by rw [h]; exact wr8k (by omega) (by omega)
theorem w64of {a : Int} {b : Nat} (h : a = (b : Int)) (hb : b < 256) : wrap64 a = (b : Int) := by rw [h]; exact wr64 (by omega) (by omega)
theorem w64kof {a : Int} {b : Nat} (h : a = (b : Int)) (hb : b < 256) : IntKind.i64.wrap a = (b : Int) := by rw [h]; exact wr64k (by omega) (by omega)
theorem sub2 {j : Nat} (h : j < 2) : 2 - (j + 1) < 2 - j := by omega
theorem facts_o {k m gk fk : Nat} (hk : k < m) (hm : m ≤ 16) (hg : gk < m) (hf : fk < m) : ∃ K2 k1 v v1 u : Nat, K2 = 2 * k ∧ k1 = 2 * k + 1 ∧ v = 2 * gk ∧ v1 = v + 1 ∧ u = 2 * fk ∧ u < 32 ∧ k1 < 32 ∧ v < 31 ∧ k1 ≠ u ∧ u ≠ k1 ∧ IntKind.u8.wrap (2 * (k : Int)) = ((K2 : Nat) : Int) ∧ wrap64 (2 * (k : Int)) = ((K2 : Nat) : Int) ∧ IntKind.i64.wrap (2 * (k : Int)) = ((K2 : Nat) : Int) ∧ IntKind.u8.wrap (2 * (gk : Int)) = ((v : Nat) : Int) ∧ IntKind.u8.wrap (2 * (fk : Int)) = ((u : Nat) : Int) ∧ IntKind.u8.wrap ((K2 : Int) + 1) = ((k1 : Nat) : Int) ∧ wrap64 ((K2 : Int) + 1) = ((k1 : Nat) : Int) ∧ IntKind.i64.wrap ((K2 : Int) + 1) = ((k1 : Nat) : Int) ∧ IntKind.u8.wrap ((v : Int) + 1) = ((v1 : Nat) : Int) ∧ IntKind.u8.wrap ((k1 : Int)) = ((k1 : Nat) : Int) ∧ IntKind.u8.wrap ((k : Int) + 1) = (k : Int) + 1 ∧ wrap64 ((k : Int) + 1) = ((k + 1 : Nat) : Int) ∧ IntKind.u8.wrap (2 * (k : Int) + 1) = (k1 : Int) := by
  obtain ⟨K2, e1⟩ : ∃ x, x = 2 * k := ⟨_, rfl⟩
  obtain ⟨k1, e2⟩ : ∃ x, x = 2 * k + 1 := ⟨_, rfl⟩
  obtain ⟨v, e3⟩ : ∃ x, x = 2 * gk := ⟨_, rfl⟩
  obtain ⟨v1, e4⟩ : ∃ x, x = v + 1 := ⟨_, rfl⟩
  obtain ⟨u, e5⟩ : ∃ x, x = 2 * fk := ⟨_, rfl⟩
  exact ⟨K2, k1, v, v1, u, e1, e2, e3, e4, e5, by omega, by omega, by omega, by omega, by omega, w8of (by omega) (by omega), w64of (by omega) (by omega), w64kof (by omega) (by omega), w8of (by omega) (by omega), w8of (by omega) (by omega), w8of (by omega) (by omega), w64of (by omega) (by omega), w64kof (by omega) (by omega), w8of (by omega) (by omega), w8of (by omega) (by omega), wr8k (by omega) (by omega), w64of (by omega) (by omega), w8of (by omega) (by omega)⟩
theorem facts_i {k m K2 k1 v v1 j : Nat} (hj : j < 2) (hk : k < m) (hm : m ≤ 16) (eK : K2 = 2 * k) (e1 : k1 = 2 * k + 1) (hv : v < 31) (ev : v1 = v + 1) : ∃ p q r e1 : Nat, p = 2 * k + j ∧ q = v + 1 - j ∧ r = 2 * k + 1 - j ∧ p < 32 ∧ (p : Int) < 32 ∧ IntKind.u8.wrap ((K2 : Int) + (j : Int)) = ((p : Nat) : Int) ∧ wrap64 ((K2 : Int) + (j : Int)) = ((p : Nat) : Int) ∧ IntKind.i64.wrap ((K2 : Int) + (j : Int)) = ((p : Nat) : Int) ∧ IntKind.u8.wrap ((v1 : Int) - (j : Int)) = ((q : Nat) : Int) ∧ IntKind.u8.wrap ((k1 : Int) - (j : Int)) = ((r : Nat) : Int) ∧ wrap64 ((k1 : Int) - (j : Int)) = ((r : Nat) : Int) ∧ IntKind.i64.wrap ((k1 : Int) - (j : Int)) = ((r : Nat) : Int) ∧ IntKind.u8.wrap ((r : Int)) = ((r : Nat) : Int) ∧ wrap64 (1 - (j : Int)) = ((e1 : Nat) : Int) ∧ IntKind.i64.wrap (1 - (j : Int)) = ((e1 : Nat) : Int) ∧ IntKind.u8.wrap ((e1 : Int)) = ((e1 : Nat) : Int) ∧ IntKind.u8.wrap ((v : Int) + (e1 : Int)) = ((q : Nat) : Int) ∧ IntKind.u8.wrap ((j : Int) + 1) = (j : Int) + 1 ∧ wrap64 ((j : Int) + 1) = ((j + 1 : Nat) : Int) ∧ IntKind.u8.wrap (2 * (k : Int) + 1 - (j : Int)) = (r : Int) ∧ IntKind.u8.wrap (1 - (j : Int)) = (e1 : Int) := by
  obtain ⟨p, a1⟩ : ∃ x, x = 2 * k + j := ⟨_, rfl⟩
  obtain ⟨q, a2⟩ : ∃ x, x = v + 1 - j := ⟨_, rfl⟩
  obtain ⟨r, a3⟩ : ∃ x, x = 2 * k + 1 - j := ⟨_, rfl⟩
  obtain ⟨e1, a4⟩ : ∃ x, x = 1 - j := ⟨_, rfl⟩
  exact ⟨p, q, r, e1, a1, a2, a3, by omega, by omega, w8of (by omega) (by omega), w64of (by omega) (by omega), w64kof (by omega) (by omega), w8of (by omega) (by omega), w8of (by omega) (by omega), w64of (by omega) (by omega), w64kof (by omega) (by omega), w8of (by omega) (by omega), w64of (by omega) (by omega), w64kof (by omega) (by omega), w8of (by omega) (by omega), w8of (by omega) (by omega), wr8k (by omega) (by omega), w64of (by omega) (by omega), w8of (by omega) (by omega), w8of (by omega) (by omega)⟩
noncomputable def floR (n : Int) (f g : Nat → Nat) : Value :=
  if desB n f g = true then (if clB g n.toNat = true then .tuple #[.agg (fv ((2 * n.toNat : Nat) : Int) (flC g n.toNat) (flT f n.toNat) (flS n.toNat)), .int .i64 0] else .tuple #[.agg (fv 0 (fun _ => 0) (fun _ => 0) (fun _ => 0)), .int .i64 5])
  else .tuple #[.agg (fv 0 (fun _ => 0) (fun _ => 0) (fun _ => 0)), .int .i64 1]
theorem floR_eq (n : Int) (f g : Nat → Nat) : ∃ (a : Int) (b d e : Nat → Nat) (c : Int), floR n f g = .tuple #[.agg (fv a b d e), .int .i64 c] := by
  unfold floR; split
  · split
    · exact ⟨_, _, _, _, _, rfl⟩
    · exact ⟨_, _, _, _, _, rfl⟩
  · exact ⟨_, _, _, _, _, rfl⟩
end Go.Proofs.Ytcddglkecfnhmaa
