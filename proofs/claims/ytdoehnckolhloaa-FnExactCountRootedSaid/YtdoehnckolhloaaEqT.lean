/- Equal numbers of a type: the product of their places is the product of the factorials of their counts. -/
import Derived.Test.YtdoehnckolhloaaSub
namespace Go.Proofs.Ytdoehnckolhloaa
open Go.RowKit

def eqT (l : List Int) : Nat → Int
  | 0 => 1
  | i + 1 => eqT l i * plc l (i + 1)
/-- so many of a number among the first i -/
def cntT (l : List Int) (i : Nat) (v : Nat) : Nat := (l.take i).count ((v : Nat) : Int)
def prodF (c : Nat → Nat) : Nat → Nat
  | 0 => 1
  | k + 1 => prodF c k * fac (c k)
theorem prodF_pos (c : Nat → Nat) : ∀ k, 1 ≤ prodF c k
  | 0 => Nat.le_refl _
  | k + 1 => Nat.mul_pos (prodF_pos c k) (fac_pos _)
theorem prodF_mono (c : Nat → Nat) (k : Nat) : ∀ j, prodF c k ≤ prodF c (k + j)
  | 0 => Nat.le_refl _
  | j + 1 => Nat.le_trans (prodF_mono c k j) (by rw [← Nat.add_assoc, prodF]; exact Nat.le_mul_of_pos_right _ (fac_pos _))
theorem prodF_le (c : Nat → Nat) {k j : Nat} (h : k ≤ j) : prodF c k ≤ prodF c j := by
  obtain ⟨i, rfl⟩ := Nat.le.dest h
  exact prodF_mono c k i
theorem prodF_congr {c d : Nat → Nat} : ∀ k, (∀ v, v < k → c v = d v) → prodF c k = prodF d k
  | 0, _ => rfl
  | k + 1, h => by rw [prodF, prodF, prodF_congr k fun v hv => h v (by omega), h k (by omega)]
theorem prodF_up {c d : Nat → Nat} {v : Nat} (hv : d v = c v + 1) (ho : ∀ u, u ≠ v → d u = c u) : ∀ k, v < k → prodF d k = prodF c k * (c v + 1)
  | 0, h => absurd h (Nat.not_lt_zero _)
  | k + 1, h => by
    rw [prodF, prodF]
    by_cases e : v = k
    · subst e
      rw [hv, prodF_congr v fun u hu => ho u (by omega), fac, Nat.mul_comm (c v + 1) (fac (c v)), Nat.mul_assoc]
    · rw [prodF_up hv ho k (by omega), ho k (by omega), Nat.mul_assoc, Nat.mul_assoc, Nat.mul_comm (c v + 1)]
theorem prodF_zero : ∀ k, prodF (fun _ => 0) k = 1
  | 0 => rfl
  | k + 1 => by rw [prodF, prodF_zero k]; rfl
theorem cnt_succ {l : List Int} {i : Nat} (hi : i < l.length) (v : Nat) : cntT l (i + 1) v = cntT l i v + if l[i] = ((v : Nat) : Int) then 1 else 0 := by
  unfold cntT
  rw [List.take_succ_eq_append_getElem hi, List.count_append, List.count_singleton]
  congr 1
  simp only [beq_iff_eq]
theorem typ_desc {l : List Int} (h : isTyp l) {i j : Nat} (hij : i ≤ j) (hj : j < l.length) : l[j] ≤ l[i] := by
  rcases Nat.lt_or_eq_of_le hij with c | c
  · exact List.pairwise_iff_getElem.1 h.2.2.1 i j (by omega) hj c
  · subst c; exact Int.le_refl _
/-- the place of the number at i is the count of its like up to it -/
theorem plc_cnt {l : List Int} (h : isTyp l) : ∀ i (hi : i < l.length), plc l (i + 1) = ((l.take (i + 1)).count l[i] : Nat)
  | 0, hi => by
    rw [plc_old hi (fun h => absurd h (Nat.lt_irrefl 0))]
    rw [List.take_succ_eq_append_getElem hi]
    simp [plc]
  | i + 1, hi => by
    have ih := plc_cnt h i (by omega)
    by_cases e : l[i + 1] = l[i]
    · rw [plc_old hi fun _ => e, ih, List.take_succ_eq_append_getElem hi, List.count_append, e]
      simp
    · rw [plc_new hi (Nat.succ_pos i) e, List.take_succ_eq_append_getElem hi, List.count_append]
      have h0 : (l.take (i + 1)).count l[i + 1] = 0 := by
        rw [List.count_eq_zero]
        intro hm
        obtain ⟨j, hj, hje⟩ := List.getElem_of_mem hm
        rw [List.length_take] at hj
        rw [List.getElem_take] at hje
        have h1 := typ_desc h (show j ≤ i by omega) (by omega)
        have h2 := typ_desc h (show i ≤ i + 1 by omega) hi
        omega
      rw [h0]
      simp
theorem eqT_prod {l : List Int} (h : isTyp l) : ∀ i, i ≤ l.length → eqT l i = ((prodF (cntT l i) 17 : Nat) : Int)
  | 0, _ => by
    have e : cntT l 0 = fun _ => 0 := by funext v; unfold cntT; simp
    rw [e, prodF_zero]
    rfl
  | i + 1, hi => by
    have hx := h.at (show i < l.length by omega)
    obtain ⟨v, hv⟩ := Int.eq_ofNat_of_zero_le (show 0 ≤ l[i] by omega)
    have h1 := cnt_succ (show i < l.length by omega) v
    rw [if_pos hv] at h1
    have h2 : ∀ u, u ≠ v → cntT l (i + 1) u = cntT l i u := fun u hu => by
      have := cnt_succ (show i < l.length by omega) u
      rw [if_neg (by omega)] at this
      exact this
    rw [prodF_up h1 h2 17 (by omega), eqT, eqT_prod h i (by omega), plc_cnt h i (by omega)]
    have e : (l.take (i + 1)).count l[i] = cntT l i v + 1 := by rw [hv]; exact h1
    rw [e, Int.natCast_mul]
theorem eqT_bd {l : List Int} (h : isTyp l) {i : Nat} (hi : i ≤ l.length) : 1 ≤ eqT l i ∧ eqT l i ≤ (fac i : Nat) := by
  induction i with
  | zero => exact ⟨by simp [eqT], by simp [eqT, fac]⟩
  | succ i ih =>
    obtain ⟨h1, h2⟩ := ih (by omega)
    have hp := plc_cnt h i (by omega)
    have h3 := (cen_step h (show i < l.length by omega)).2.2.2.2.2.2.1
    have h4 : (l.take (i + 1)).count (l[i]'(by omega)) ≤ i + 1 := Nat.le_trans List.count_le_length (by rw [List.length_take]; omega)
    have h5 : plc l (i + 1) ≤ ((i + 1 : Nat) : Int) := by omega
    refine ⟨?_, ?_⟩
    · rw [eqT]
      have := Int.mul_pos (show 0 < eqT l i by omega) (show 0 < plc l (i + 1) by omega)
      omega
    · rw [eqT, fac, Int.natCast_mul, Int.mul_comm ((i + 1 : Nat) : Int)]
      exact Int.mul_le_mul h2 h5 (by omega) (by omega)
theorem eqT_old {l : List Int} (h : isTyp l) {i : Nat} (hi : i ≤ l.length) : eqT l i ≤ 20922789888000 := by
  have h1 := (eqT_bd h hi).2
  have h2 := h.len.2
  have h3 : fac i ≤ fac 16 := fac_le (by omega)
  rw [fac16] at h3
  omega
/-- the formula of the numbers of rooted trees -/
noncomputable def crN (a b : List Int) : Int := (zs a * (fac (a.length - 1) : Nat) * (fac (b.length - 1) : Nat)).tdiv (eqT a a.length * eqT b b.length)
open Classical in
noncomputable def crR (a b : List Int) : Value := if isTyp a ∧ isTyp b ∧ zs a = zs b then (if (a.length : Int) + b.length = zs a + 1 then .tuple #[.int .i64 (crN a b), .int .i64 0] else .tuple #[.int .i64 0, .int .i64 0]) else .tuple #[.int .i64 0, .int .i64 2]
theorem crR_eq (a b : List Int) : ∃ x c : Int, crR a b = .tuple #[.int .i64 x, .int .i64 c] := by
  unfold crR; split
  · split
    · exact ⟨_, _, rfl⟩
    · exact ⟨_, _, rfl⟩
  · exact ⟨_, _, rfl⟩
theorem fac_two : ∀ p q : Nat, p < 17 → q < 17 → p + q ≤ 17 → fac p * fac q ≤ 355687428096000 := by
  have h : ((List.range 17).all fun p => (List.range 17).all fun q => decide (p + q ≤ 17 → fac p * fac q ≤ 355687428096000)) = true := by decide +kernel
  intro p q hp hq h1
  exact of_decide_eq_true (List.all_eq_true.1 (List.all_eq_true.1 h p (List.mem_range.2 hp)) q (List.mem_range.2 hq)) h1
theorem cr_bd {a b : List Int} (ha : isTyp a) (hb : isTyp b) (hl : (a.length : Int) + b.length = zs a + 1) :
    1 ≤ eqT a a.length * eqT b b.length ∧ eqT a a.length * eqT b b.length ≤ 355687428096000 ∧ 0 ≤ zs a * (fac (a.length - 1) : Nat) ∧ zs a * (fac (a.length - 1) : Nat) ≤ 6000000000000000 ∧
    0 ≤ zs a * (fac (a.length - 1) : Nat) * (fac (b.length - 1) : Nat) ∧ zs a * (fac (a.length - 1) : Nat) * (fac (b.length - 1) : Nat) ≤ 6000000000000000 := by
  have la := ha.len
  have lb := hb.len
  have sa := ha.sum
  have e1 := eqT_bd ha (Nat.le_refl _)
  have e2 := eqT_bd hb (Nat.le_refl _)
  have f1 : fac a.length * fac b.length ≤ 355687428096000 := fac_two _ _ (by omega) (by omega) (by omega)
  have f2 : fac (a.length - 1) * fac (b.length - 1) ≤ 355687428096000 := fac_two _ _ (by omega) (by omega) (by omega)
  have f3 : fac (a.length - 1) * fac 0 ≤ 355687428096000 := fac_two _ _ (by omega) (by omega) (by omega)
  rw [show fac 0 = 1 from rfl, Nat.mul_one] at f3
  have m1 : eqT a a.length * eqT b b.length ≤ (fac a.length : Nat) * (fac b.length : Nat) := Int.mul_le_mul e1.2 e2.2 (by omega) (by omega)
  have m2 := Int.mul_pos (show 0 < eqT a a.length by omega) (show 0 < eqT b b.length by omega)
  have m3 : zs a * (fac (a.length - 1) : Nat) ≤ 16 * ((fac (a.length - 1) : Nat) : Int) := Int.mul_le_mul_of_nonneg_right (by omega) (by omega)
  have m4 : 0 ≤ zs a * (fac (a.length - 1) : Nat) := Int.mul_nonneg (by omega) (by omega)
  have m5 : zs a * (fac (a.length - 1) : Nat) * (fac (b.length - 1) : Nat) ≤ 16 * ((fac (a.length - 1) : Nat) : Int) * (fac (b.length - 1) : Nat) := Int.mul_le_mul_of_nonneg_right m3 (by omega)
  have m6 : 0 ≤ zs a * (fac (a.length - 1) : Nat) * (fac (b.length - 1) : Nat) := Int.mul_nonneg m4 (by omega)
  have m7 : (16 : Int) * ((fac (a.length - 1) : Nat) : Int) * (fac (b.length - 1) : Nat) = 16 * ((fac (a.length - 1) * fac (b.length - 1) : Nat) : Int) := by rw [Int.natCast_mul, Int.mul_assoc]
  have m8 : ((fac a.length : Nat) : Int) * (fac b.length : Nat) = ((fac a.length * fac b.length : Nat) : Int) := by rw [Int.natCast_mul]
  rw [m7] at m5
  rw [m8] at m1
  refine ⟨by omega, by omega, m4, by omega, m6, by omega⟩
end Go.Proofs.Ytdoehnckolhloaa
