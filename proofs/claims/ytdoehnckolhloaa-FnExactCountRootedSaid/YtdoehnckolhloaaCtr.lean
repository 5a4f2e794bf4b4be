/- CentraliserOf of program and model -/
import Derived.Test.YtdoehnckolhloaaTyW
namespace Go.Proofs.Ytdoehnckolhloaa
open Go.RowKit

def fac : Nat → Nat
  | 0 => 1
  | k + 1 => (k + 1) * fac k
theorem fac_pos : ∀ k, 1 ≤ fac k
  | 0 => Nat.le_refl _
  | k + 1 => Nat.mul_pos (Nat.succ_pos k) (fac_pos k)
theorem fac_mono (k : Nat) : ∀ j, fac k ≤ fac (k + j)
  | 0 => Nat.le_refl _
  | j + 1 => Nat.le_trans (fac_mono k j) (by rw [← Nat.add_assoc, fac]; exact Nat.le_mul_of_pos_left _ (Nat.succ_pos _))
theorem fac_le {k j : Nat} (h : k ≤ j) : fac k ≤ fac j := by
  obtain ⟨i, rfl⟩ := Nat.le.dest h
  exact fac_mono k i
theorem fac16 : fac 16 = 20922789888000 := by decide
/-- the place of a number among those like it -/
def plc (l : List Int) : Nat → Int
  | 0 => 0
  | i + 1 => if 0 < i ∧ l.getD i 0 ≠ l.getD (i - 1) 0 then 1 else plc l i + 1
def cenT (l : List Int) : Nat → Int
  | 0 => 1
  | i + 1 => cenT l i * (l.getD i 0 * plc l (i + 1))
theorem getD_at {l : List Int} {i : Nat} (h : i < l.length) : l.getD i 0 = l[i] := by simp [List.getD_eq_getElem?_getD, h]
theorem cen_bd {l : List Int} (h : isTyp l) : ∀ i, i ≤ l.length → 1 ≤ cenT l i ∧ cenT l i ≤ fac (zs (l.take i)).toNat ∧ 0 ≤ plc l i ∧ (0 < i → 1 ≤ plc l i ∧ plc l i * l.getD (i - 1) 0 ≤ zs (l.take i))
  | 0, _ => ⟨by simp [cenT], by simp [cenT, zs, fac], by simp [plc], fun h => absurd h (Nat.lt_irrefl 0)⟩
  | i + 1, hi => by
    obtain ⟨h1, h2, h3, h4⟩ := cen_bd h i (by omega)
    have hx := h.at (show i < l.length by omega)
    have hs := (h.2.take i).low
    have hz := zs_succ l (show i < l.length by omega)
    have hs2 := (h.2.take (i + 1)).2.2
    rw [← getD_at (show i < l.length by omega)] at hx hz
    have hp : 1 ≤ plc l (i + 1) ∧ plc l (i + 1) * l.getD i 0 ≤ zs (l.take (i + 1)) := by
      rw [plc]
      split
      · exact ⟨Int.le_refl _, by rw [Int.one_mul]; omega⟩
      · rename_i hc
        refine ⟨by omega, ?_⟩
        rw [Int.add_mul, Int.one_mul, hz]
        by_cases h0 : 0 < i
        · have e : l.getD i 0 = l.getD (i - 1) 0 := Classical.byContradiction fun k => hc ⟨h0, k⟩
          have := (h4 h0).2
          rw [← e] at this
          omega
        · obtain rfl : i = 0 := by omega
          simp [plc, zs]
    refine ⟨?_, ?_, by omega, fun _ => by rw [Nat.add_sub_cancel]; exact hp⟩
    · rw [cenT]
      have : 0 < cenT l i * (l.getD i 0 * plc l (i + 1)) := Int.mul_pos (by omega) (Int.mul_pos (by omega) (by omega))
      omega
    · rw [cenT]
      obtain ⟨s, hs'⟩ := Int.eq_ofNat_of_zero_le hs
      obtain ⟨t, ht⟩ := Int.eq_ofNat_of_zero_le (show 0 ≤ zs (l.take (i + 1)) by omega)
      rw [ht, Int.toNat_natCast]
      rw [hs', Int.toNat_natCast] at h2
      have hlt : s + 1 ≤ t := by omega
      obtain ⟨u, rfl⟩ : ∃ u, t = u + 1 := ⟨t - 1, by omega⟩
      have e1 : (fac s : Int) ≤ fac u := by have := fac_le (show s ≤ u by omega); omega
      have e2 : l.getD i 0 * plc l (i + 1) ≤ ((u + 1 : Nat) : Int) := by rw [Int.mul_comm, ← ht]; exact hp.2
      have e3 : 0 ≤ l.getD i 0 * plc l (i + 1) := Int.mul_nonneg (by omega) (by omega)
      have e4 : cenT l i * (l.getD i 0 * plc l (i + 1)) ≤ (fac u : Int) * ((u + 1 : Nat) : Int) := Int.mul_le_mul (Int.le_trans h2 e1) e2 e3 (by omega)
      rw [fac]
      refine Int.le_trans e4 ?_
      rw [Int.natCast_mul, Int.mul_comm]
      exact Int.le_refl _
theorem w64 {x : Int} (h1 : -9223372036854775808 ≤ x) (h2 : x ≤ 9223372036854775807) : wrap64 x = x := by
  rw [← IntWalk.i64_left, IntKind.wrap_i64]; omega
theorem w64k {x : Int} (h1 : -9223372036854775808 ≤ x) (h2 : x ≤ 9223372036854775807) : IntKind.i64.wrap x = x := by
  rw [IntKind.wrap_i64]; omega
theorem cen_step {l : List Int} (h : isTyp l) {i : Nat} (hi : i < l.length) : 1 ≤ l[i] ∧ l[i] ≤ 16 ∧ 1 ≤ cenT l i ∧ cenT l i ≤ 20922789888000 ∧ 0 ≤ plc l i ∧ plc l i ≤ 16 ∧ 1 ≤ plc l (i + 1) ∧ plc l (i + 1) ≤ 16 ∧
    0 ≤ l[i] * plc l (i + 1) ∧ l[i] * plc l (i + 1) ≤ 256 ∧ cenT l (i + 1) = cenT l i * (l[i] * plc l (i + 1)) ∧ 1 ≤ cenT l (i + 1) ∧ cenT l (i + 1) ≤ 20922789888000 ∧ 0 ≤ cenT l i * l[i] ∧ cenT l i * l[i] ≤ 400000000000000 := by
  have hx := h.at hi
  have b1 := cen_bd h i (by omega)
  have b2 := cen_bd h (i + 1) (by omega)
  have f1 : fac (zs (l.take i)).toNat ≤ fac 16 := fac_le (by have := (h.2.take i).2.2; omega)
  have f2 : fac (zs (l.take (i + 1))).toNat ≤ fac 16 := fac_le (by have := (h.2.take (i + 1)).2.2; omega)
  rw [fac16] at f1 f2
  have p1 : plc l i ≤ 16 := by
    by_cases h0 : 0 < i
    · have h5 := (b1.2.2.2 h0).2
      have h6 := (h.at (show i - 1 < l.length by omega)).1
      rw [← getD_at (show i - 1 < l.length by omega)] at h6
      have h7 := (h.2.take i).2.2
      have h8 : plc l i * 1 ≤ plc l i * l.getD (i - 1) 0 := Int.mul_le_mul_of_nonneg_left h6 (by omega)
      omega
    · obtain rfl : i = 0 := by omega
      simp [plc]
  have p2 : plc l (i + 1) ≤ 16 := by
    have h5 := (b2.2.2.2 (by omega)).2
    rw [Nat.add_sub_cancel, getD_at hi] at h5
    have h7 := (h.2.take (i + 1)).2.2
    have h8 : plc l (i + 1) * 1 ≤ plc l (i + 1) * l[i] := Int.mul_le_mul_of_nonneg_left hx.1 (by omega)
    omega
  have p3 := (b2.2.2.2 (by omega)).1
  have m1 : l[i] * plc l (i + 1) ≤ 16 * 16 := Int.mul_le_mul hx.2.1 p2 (by omega) (by omega)
  have m2 : cenT l i * l[i] ≤ 20922789888000 * 16 := Int.mul_le_mul (by omega) hx.2.1 (by omega) (by omega)
  refine ⟨hx.1, hx.2.1, b1.1, by omega, b1.2.2.1, p1, p3, p2, Int.mul_nonneg (by omega) (by omega), by omega, by rw [cenT, getD_at hi], b2.1, by omega, Int.mul_nonneg (by omega) (by omega), by omega⟩
theorem plc_new {l : List Int} {i : Nat} (hi : i < l.length) (h0 : 0 < i) (h : l[i] ≠ l[i - 1]) : plc l (i + 1) = 1 := by
  rw [plc, if_pos ⟨h0, by rw [getD_at hi, getD_at (show i - 1 < l.length by omega)]; exact h⟩]
theorem plc_old {l : List Int} {i : Nat} (hi : i < l.length) (h : 0 < i → l[i] = l[i - 1]) : plc l (i + 1) = plc l i + 1 := by
  rw [plc, if_neg fun k => k.2 (by rw [getD_at hi, getD_at (show i - 1 < l.length by omega)]; exact h k.1)]

-- left out here: loop.example/g01200/impl.centraliser
-- left out here: loop.example/g01200/spec.l04Centraliser
end Go.Proofs.Ytdoehnckolhloaa
