/- CentraliserOf of program and model -/
import Derived.Test.YtlmhnimpglookaaTyW
namespace Go.Proofs.Ytlmhnimpglookaa
open Go.RowKit

def fac : Nat → Nat
  | 0 => 1
  | k + 1 => (k + 1) * fac k
theorem fac_pos : ∀ k, 1 ≤ fac k
  | 0 => Nat.le_refl _
  | k + 1 => Nat.mul_pos (Nat.succ_pos k) (fac_pos k)
theorem fac_mono (k : Nat) : ∀ j, fac k ≤ fac (k + j)
  | 0 => Nat.le_refl _
  | j + 1 => Nat.le_trans (fac_mono k j) (by rw [← Nat.add_assoc, fac]; exact Nat.le_mul_of_pos_left _ (Nat.succ_pos _))
theorem fac_le {k j : Nat} (h : k ≤ j) : fac k ≤ fac j := by
  obtain ⟨i, rfl⟩ := Nat.le.dest h
  exact fac_mono k i
theorem fac16 : fac 16 = 20922789888000 := by decide
/-- the place of a number among those like it -/
def plc (l : List Int) : Nat → Int
  | 0 => 0
  | i + 1 => if 0 < i ∧ l.getD i 0 ≠ l.getD (i - 1) 0 then 1 else plc l i + 1
def cenT (l : List Int) : Nat → Int
  | 0 => 1
  | i + 1 => cenT l i * (l.getD i 0 * plc l (i + 1))
theorem getD_at {l : List Int} {i : Nat} (h : i < l.length) : l.getD i 0 = l[i] := by simp [List.getD_eq_getElem?_getD, h]
theorem cen_bd {l : List Int} (h : isTyp l) : ∀ i, i ≤ l.length → 1 ≤ cenT l i ∧ cenT l i ≤ fac (zs (l.take i)).toNat ∧ 0 ≤ plc l i ∧ (0 < i → 1 ≤ plc l i ∧ plc l i * l.getD (i - 1) 0 ≤ zs (l.take i))
  | 0, _ => ⟨by simp [cenT], by simp [cenT, zs, fac], by simp [plc], fun h => absurd h (Nat.lt_irrefl 0)⟩
  | i + 1, hi => by
    obtain ⟨h1, h2, h3, h4⟩ := cen_bd h i (by omega)
    have hx := h.at (show i < l.length by omega)
    have hs := (h.2.take i).low
    have hz := zs_succ l (show i < l.length by omega)
    have hs2 := (h.2.take (i + 1)).2.2
    rw [← getD_at (show i < l.length by omega)] at hx hz
    have hp : 1 ≤ plc l (i + 1) ∧ plc l (i + 1) * l.getD i 0 ≤ zs (l.take (i + 1)) := by
      rw [plc]
      split
      · exact ⟨Int.le_refl _, by rw [Int.one_mul]; omega⟩
      · rename_i hc
        refine ⟨by omega, ?_⟩
        rw [Int.add_mul, Int.one_mul, hz]
        by_cases h0 : 0 < i
        · have e : l.getD i 0 = l.getD (i - 1) 0 := Classical.byContradiction fun k => hc ⟨h0, k⟩
          have := (h4 h0).2
          rw [← e] at this
          omega
        · obtain rfl : i = 0 := by omega
          simp [plc, zs]
    refine ⟨?_, ?_, by omega, fun _ => by rw [Nat.add_sub_cancel]; exact hp⟩
    · rw [cenT]
      have : 0 < cenT l i * (l.getD i 0 * plc l (i + 1)) := Int.mul_pos (by omega) (Int.mul_pos (by omega) (by omega))
      omega
    · rw [cenT]
      obtain ⟨s, hs'⟩ := Int.eq_ofNat_of_zero_le hs
      obtain ⟨t, ht⟩ := Int.eq_ofNat_of_zero_le (show 0 ≤ zs (l.take (i + 1)) by omega)
      rw [ht, Int.toNat_natCast]
      rw [hs', Int.toNat_natCast] at h2
      have hlt : s + 1 ≤ t := by omega
      obtain ⟨u, rfl⟩ : ∃ u, t = u + 1 := ⟨t - 1, by omega⟩
      have e1 : (fac s : Int) ≤ fac u := by have := fac_le (show s ≤ u by omega); omega
      have e2 : l.getD i 0 * plc l (i + 1) ≤ ((u + 1 : Nat) : Int) := by rw [Int.mul_comm, ← ht]; exact hp.2
      have e3 : 0 ≤ l.getD i 0 * plc l (i + 1) := Int.mul_nonneg (by omega) (by omega)
      have e4 : cenT l i * (l.getD i 0 * plc l (i + 1)) ≤ (fac u : Int) * ((u + 1 : Nat) : Int) := Int.mul_le_mul (Int.le_trans h2 e1) e2 e3 (by omega)
      rw [fac]
      refine Int.le_trans e4 ?_
      rw [Int.natCast_mul, Int.mul_comm]
      exact Int.le_refl _
theorem w64 {x : Int} (h1 : -9223372036854775808 ≤ x) (h2 : x ≤ 9223372036854775807) : wrap64 x = x := by
  rw [← IntWalk.i64_left, IntKind.wrap_i64]; omega
theorem w64k {x : Int} (h1 : -9223372036854775808 ≤ x) (h2 : x ≤ 9223372036854775807) : IntKind.i64.wrap x = x := by
  rw [IntKind.wrap_i64]; omega
theorem cen_step {l : List Int} (h : isTyp l) {i : Nat} (hi : i < l.length) : 1 ≤ l[i] ∧ l[i] ≤ 16 ∧ 1 ≤ cenT l i ∧ cenT l i ≤ 20922789888000 ∧ 0 ≤ plc l i ∧ plc l i ≤ 16 ∧ 1 ≤ plc l (i + 1) ∧ plc l (i + 1) ≤ 16 ∧
    0 ≤ l[i] * plc l (i + 1) ∧ l[i] * plc l (i + 1) ≤ 256 ∧ cenT l (i + 1) = cenT l i * (l[i] * plc l (i + 1)) ∧ 1 ≤ cenT l (i + 1) ∧ cenT l (i + 1) ≤ 20922789888000 ∧ 0 ≤ cenT l i * l[i] ∧ cenT l i * l[i] ≤ 400000000000000 := by
  have hx := h.at hi
  have b1 := cen_bd h i (by omega)
  have b2 := cen_bd h (i + 1) (by omega)
  have f1 : fac (zs (l.take i)).toNat ≤ fac 16 := fac_le (by have := (h.2.take i).2.2; omega)
  have f2 : fac (zs (l.take (i + 1))).toNat ≤ fac 16 := fac_le (by have := (h.2.take (i + 1)).2.2; omega)
  rw [fac16] at f1 f2
  have p1 : plc l i ≤ 16 := by
    by_cases h0 : 0 < i
    · have h5 := (b1.2.2.2 h0).2
      have h6 := (h.at (show i - 1 < l.length by omega)).1
      rw [← getD_at (show i - 1 < l.length by omega)] at h6
      have h7 := (h.2.take i).2.2
      have h8 : plc l i * 1 ≤ plc l i * l.getD (i - 1) 0 := Int.mul_le_mul_of_nonneg_left h6 (by omega)
      omega
    · obtain rfl : i = 0 := by omega
      simp [plc]
  have p2 : plc l (i + 1) ≤ 16 := by
    have h5 := (b2.2.2.2 (by omega)).2
    rw [Nat.add_sub_cancel, getD_at hi] at h5
    have h7 := (h.2.take (i + 1)).2.2
    have h8 : plc l (i + 1) * 1 ≤ plc l (i + 1) * l[i] := Int.mul_le_mul_of_nonneg_left hx.1 (by omega)
    omega
  have p3 := (b2.2.2.2 (by omega)).1
  have m1 : l[i] * plc l (i + 1) ≤ 16 * 16 := Int.mul_le_mul hx.2.1 p2 (by omega) (by omega)
  have m2 : cenT l i * l[i] ≤ 20922789888000 * 16 := Int.mul_le_mul (by omega) hx.2.1 (by omega) (by omega)
  refine ⟨hx.1, hx.2.1, b1.1, by omega, b1.2.2.1, p1, p3, p2, Int.mul_nonneg (by omega) (by omega), by omega, by rw [cenT, getD_at hi], b2.1, by omega, Int.mul_nonneg (by omega) (by omega), by omega⟩
theorem plc_new {l : List Int} {i : Nat} (hi : i < l.length) (h0 : 0 < i) (h : l[i] ≠ l[i - 1]) : plc l (i + 1) = 1 := by
  rw [plc, if_pos ⟨h0, by rw [getD_at hi, getD_at (show i - 1 < l.length by omega)]; exact h⟩]
theorem plc_old {l : List Int} {i : Nat} (hi : i < l.length) (h : 0 < i → l[i] = l[i - 1]) : plc l (i + 1) = plc l i + 1 := by
  rw [plc, if_neg fun k => k.2 (by rw [getD_at hi, getD_at (show i - 1 < l.length by omega)]; exact h k.1)]

set_option maxRecDepth 100000 in
set_option maxHeartbeats 1000000 in
theorem centraliser_any (v : Value) (l : List Int) (h : isTyp l) (w : World) (hv : RdZ w v l) :
    Calls Try.prog 61 #[v] w fun e w' => e = .returned (.int .i64 (cenT l l.length)) ∧ w = w' := by
  obtain ⟨A, c, rfl, hlen⟩ := hv.form
  have HV := hide hv; clear hv
  have HT := hide h; clear h
  go_enter Try.func61, Try.ntmps61
  go_wp2
  go_loopw [3, 4, 9] (fun s q t wr => ∃ i : Nat, i ≤ l.length ∧ t = .int .i64 i ∧ s = .int .i64 (cenT l i) ∧ q = .int .i64 (plc l i) ∧ w = wr) (fun _ _ t _ => l.length - (intOf t).toNat)
  case atStart => exact ⟨0, by omega, rfl, rfl, rfl, rfl⟩
  case round =>
    obtain ⟨i, hi, rfl, rfl, rfl, rfl⟩ := hrel
    by_cases hlt : i < l.length
    · obtain ⟨b1, b2, b3, b4, b5, b6, b7, b8, b9, b10, b11, b12, b13, _, _⟩ := cen_step HT.out hlt
      have hold := plc_old hlt
      have hnew := plc_new hlt
      obtain ⟨a, rfl, _, c1⟩ := HV.out.at hlt
      have hprev : 0 < i → ∃ q : Nat, q < l.length ∧ (i : Int) - 1 = (q : Int) ∧ q = i - 1 := fun h => ⟨i - 1, by omega, by omega, rfl⟩
      rw [b11] at b12 b13
      generalize cenT l i = P at *
      generalize plc l i = p at *
      generalize hx : l[i] = x at *
      have HX := hide hx; clear hx
      have HC := hide b11; clear b11
      by_cases h0 : 0 < i
      · have d0 : decide ((0 : Int) < (i : Int)) = true := decide_eq_true (by omega)
        obtain ⟨q, hq, hqi, hqe⟩ := hprev h0
        obtain ⟨a', e', _, c2⟩ := HV.out.at hq
        injection e' with e'
        subst e'
        subst hqe
        obtain ⟨y, hy⟩ : ∃ y, y = l[i - 1] := ⟨_, rfl⟩
        have hnew2 := hnew h0
        rw [← hy] at c2 hold hnew2
        have HY := hide hy; clear hy
        obtain ⟨q, hqq⟩ : ∃ q, q = i - 1 := ⟨_, rfl⟩
        rw [← hqq] at c2 hqi hq
        have HQ := hide hqq; clear hqq
        by_cases h3 : x = y
        · have d3 : (x != y) = false := by simp [h3]
          have hp := hold fun _ => h3
          rw [hp] at HC b7 b8 b9 b10 b12 b13
          have m1 := w64 (x := x * (p + 1)) (by omega) (by omega)
          have m2 := w64 (x := P * (x * (p + 1))) (by omega) (by omega)
          have HP := hide hp; clear hp hold hnew hnew2 h3 hprev b12 b13 b9 b10
          go_wp2
          go_roundw
          case rel => exact ⟨i + 1, by omega, by go_num, by first | (rw [HC.out]; done) | rw [HC.out, m2] | rw [HC.out, m1], by rw [HP.out], by trivial⟩
          case measure => simp [intOf]; omega
        · have d3 : (x != y) = true := by simp [h3]
          have hp := hnew2 h3
          rw [hp, Int.mul_one] at HC b12 b13
          have m2 := w64 (x := P * x) (by omega) (by omega)
          have HP := hide hp; clear hp hold hnew hnew2 h3 hprev b12 b13 b9 b10 b7 b8
          go_wp2
          go_roundw
          case rel => exact ⟨i + 1, by omega, by go_num, by first | (rw [HC.out]; done) | rw [HC.out, m2] | rw [HC.out, m1], by rw [HP.out], by trivial⟩
          case measure => simp [intOf]; omega
      · have d0 : decide ((0 : Int) < (i : Int)) = false := decide_eq_false (by omega)
        have hp := hold fun h => absurd h h0
        rw [hp] at HC b7 b8 b9 b10 b12 b13
        have m1 := w64 (x := x * (p + 1)) (by omega) (by omega)
        have m2 := w64 (x := P * (x * (p + 1))) (by omega) (by omega)
        have HP := hide hp; clear hp hold hnew hprev b12 b13 b9 b10
        go_wp2
        go_roundw
        case rel => exact ⟨i + 1, by omega, by go_num, by first | (rw [HC.out]; done) | rw [HC.out, m2] | rw [HC.out, m1], by rw [HP.out], by trivial⟩
        case measure => simp [intOf]; omega
    · obtain rfl : i = l.length := by omega
      clear hlt hi
      go_wp2
      go_ret
      exact ⟨rfl, rfl⟩

set_option maxRecDepth 100000 in
set_option maxHeartbeats 1000000 in
theorem l04Centraliser_any (v : Value) (l : List Int) (h : isTyp l) (w : World) (hv : RdZ w v l) :
    Calls Try.prog 60 #[v] w fun e w' => e = .returned (.int .i64 (cenT l l.length)) ∧ Dr w w' := by
  obtain ⟨A, c, rfl, hlen⟩ := hv.form
  have HV := hide hv; clear hv
  have HT := hide h; clear h
  go_enter Try.func60, Try.ntmps60
  go_wp2
  go_loopw [3, 4, 5] (fun s q t wr => ∃ i : Nat, i ≤ l.length ∧ t = .int .i64 i ∧ s = .int .i64 (cenT l i) ∧ q = .int .i64 (plc l i) ∧ Dr w wr) (fun _ _ t _ => l.length - (intOf t).toNat)
  case atStart => exact ⟨0, by omega, rfl, rfl, rfl, Dr.refl _⟩
  case round =>
    obtain ⟨i, hi, rfl, rfl, rfl, hb⟩ := hrel
    by_cases hlt : i < l.length
    · obtain ⟨b1, b2, b3, b4, b5, b6, b7, b8, _, _, b11, b12, b13, b14, b15⟩ := cen_step HT.out hlt
      have hold := plc_old hlt
      have hnew := plc_new hlt
      obtain ⟨a, rfl, _, c1⟩ := (HV.out.below hb.low (Nat.le_refl _)).at hlt
      have hprev : 0 < i → ∃ q : Nat, q < l.length ∧ (i : Int) - 1 = (q : Int) ∧ q = i - 1 := fun h => ⟨i - 1, by omega, by omega, rfl⟩
      rw [b11] at b12 b13
      generalize cenT l i = P at *
      generalize plc l i = p at *
      generalize hx : l[i] = x at *
      have HX := hide hx; clear hx
      rw [← Int.mul_assoc] at b11 b12 b13
      have HC := hide b11; clear b11
      have m1 := w64 (x := P * x) (by omega) (by omega)
      clear b14 b15
      by_cases h0 : 0 < i
      · have d0 : decide ((0 : Int) < (i : Int)) = true := decide_eq_true (by omega)
        obtain ⟨q, hq, hqi, hqe⟩ := hprev h0
        obtain ⟨a', e', _, c2⟩ := (HV.out.below hb.low (Nat.le_refl _)).at hq
        injection e' with e'
        subst e'
        subst hqe
        obtain ⟨y, hy⟩ : ∃ y, y = l[i - 1] := ⟨_, rfl⟩
        have hnew2 := hnew h0
        rw [← hy] at c2 hold hnew2
        have HY := hide hy; clear hy
        obtain ⟨q, hqq⟩ : ∃ q, q = i - 1 := ⟨_, rfl⟩
        rw [← hqq] at c2 hqi hq
        have HQ := hide hqq; clear hqq
        by_cases h3 : x = y
        · have d3 : (x != y) = false := by simp [h3]
          have hp := hold fun _ => h3
          rw [hp] at HC b7 b8 b12 b13
          have m2 := w64 (x := P * x * (p + 1)) (by omega) (by omega)
          have HP := hide hp; clear hp hold hnew hnew2 h3 hprev b12 b13
          go_wp2
          go_quiet (fail)
          go_wp2
          go_roundw
          case rel => exact ⟨i + 1, by omega, by go_num, by first | (rw [HC.out]; done) | rw [HC.out, m2] | rw [HC.out, m1], by rw [HP.out], hb.more _⟩
          case measure => simp [intOf]; omega
        · have d3 : (x != y) = true := by simp [h3]
          have hp := hnew2 h3
          rw [hp, Int.mul_one] at HC b12 b13
          have HP := hide hp; clear hp hold hnew hnew2 h3 hprev b12 b13 b7 b8
          go_wp2
          go_quiet (fail)
          go_wp2
          go_roundw
          case rel => exact ⟨i + 1, by omega, by go_num, by first | (rw [HC.out]; done) | rw [HC.out, m2] | rw [HC.out, m1], by rw [HP.out], hb.more _⟩
          case measure => simp [intOf]; omega
      · have d0 : decide ((0 : Int) < (i : Int)) = false := decide_eq_false (by omega)
        have hp := hold fun h => absurd h h0
        rw [hp] at HC b7 b8 b12 b13
        have m2 := w64 (x := P * x * (p + 1)) (by omega) (by omega)
        have HP := hide hp; clear hp hold hnew hprev b12 b13
        go_wp2
        go_quiet (fail)
        go_wp2
        go_roundw
        case rel => exact ⟨i + 1, by omega, by go_num, by first | (rw [HC.out]; done) | rw [HC.out, m2] | rw [HC.out, m1], by rw [HP.out], hb.more _⟩
        case measure => simp [intOf]; omega
    · obtain rfl : i = l.length := by omega
      clear hlt hi
      go_wp2
      go_ret
      exact ⟨rfl, hb⟩
end Go.Proofs.Ytlmhnimpglookaa
