/- Comparison of fractions, of both; what a move is, of both. -/
import Derived.Test.YtpkfjdaedaplfaaFre
namespace Go.Proofs.Ytpkfjdaedaplfaa
open Go.RowKit

/-- -1, 0 or 1 -/
def c3 (x y : Int) : Int := if x < y then -1 else if y < x then 1 else 0
set_option maxRecDepth 100000 in
set_option maxHeartbeats 400000 in
theorem cmp3_any (x y : Int) (w : World) : Calls Try.prog 85 #[.int .i64 x, .int .i64 y] w fun e w' => e = .returned (.int .i64 (c3 x y)) ∧ w' = w := by
  have hx : (x != x) = false := by simp
  have hy : (y != y) = false := by simp
  have N1 : ∀ (z : Int) (w : World), (z != z) = false → Calls Try.prog 92 #[.int .i64 z] w fun e w' => e = .returned (.bool false) ∧ w' = w := by
    intro z w hz
    go_enter Try.func92, Try.ntmps92
    go_wp2
    go_ret
    exact ⟨rfl, rfl⟩
  have C1 := hide fun w => N1 x w hx
  have C2 := hide fun w => N1 y w hy
  clear N1 hx hy
  by_cases h1 : x < y
  · rw [show c3 x y = -1 from if_pos h1]
    have d1 := decide_eq_true h1
    clear h1
    go_enter Try.func85, Try.ntmps85
    go_wp2_with fail
    refine (C1.out _).mono ?_
    rintro e w1 ⟨rfl, rfl⟩
    go_wp2_with fail
    refine (C2.out _).mono ?_
    rintro e w1 ⟨rfl, rfl⟩
    go_wp2_with fail
    go_ret
    exact ⟨rfl, rfl⟩
  · have d1 := decide_eq_false h1
    by_cases h2 : y < x
    · rw [show c3 x y = 1 from (if_neg h1).trans (if_pos h2)]
      have d2 := decide_eq_true h2
      clear h1 h2
      go_enter Try.func85, Try.ntmps85
      go_wp2_with fail
      refine (C1.out _).mono ?_
      rintro e w1 ⟨rfl, rfl⟩
      go_wp2_with fail
      refine (C2.out _).mono ?_
      rintro e w1 ⟨rfl, rfl⟩
      go_wp2_with fail
      go_ret
      exact ⟨rfl, rfl⟩
    · rw [show c3 x y = 0 from (if_neg h1).trans (if_neg h2)]
      have d2 := decide_eq_false h2
      clear h1 h2
      go_enter Try.func85, Try.ntmps85
      go_wp2_with fail
      refine (C1.out _).mono ?_
      rintro e w1 ⟨rfl, rfl⟩
      go_wp2_with fail
      refine (C2.out _).mono ?_
      rintro e w1 ⟨rfl, rfl⟩
      go_wp2_with fail
      go_ret
      exact ⟨rfl, rfl⟩
theorem frB_true {n d : Int} (h : frB n d = true) : (-1000000000 ≤ n ∧ n ≤ 1000000000) ∧ (0 ≤ d ∧ d ≤ 1000000000) ∧ Int.gcd n d = 1 ∧ (0 < d ∨ n = 1) := by
  unfold frB at h
  rw [Bool.and_eq_true, Bool.and_eq_true, Bool.and_eq_true, Bool.or_eq_true, decide_eq_true_iff, decide_eq_true_iff, decide_eq_true_iff, decide_eq_true_iff, decide_eq_true_iff] at h
  exact ⟨h.1.1.1, h.1.1.2, by omega, h.2⟩
theorem mul_small {a b : Int} (ha : a.natAbs ≤ 1000000000) (hb : b.natAbs ≤ 1000000000) : (a * b).natAbs ≤ 1000000000000000000 := by
  rw [Int.natAbs_mul]; exact Nat.mul_le_mul ha hb
set_option maxRecDepth 100000 in
set_option maxHeartbeats 400000 in
theorem compareFractions_any (a b c d : Int) (ha : a.natAbs ≤ 1000000000) (hb : b.natAbs ≤ 1000000000) (hc : c.natAbs ≤ 1000000000) (hd : d.natAbs ≤ 1000000000) (w : World) :
    Calls Try.prog 62 #[.agg #[.int .i64 a, .int .i64 b], .agg #[.int .i64 c, .int .i64 d]] w fun e w' => e = .returned (.int .i64 (c3 (a * d) (c * b))) ∧ Below w.heap.size w w' := by
  have h1 := mul_small ha hd
  have h2 := mul_small hc hb
  have w1 : wrap64 (a * d) = a * d := wr64 (by omega) (by omega)
  have w2 : wrap64 (c * b) = c * b := wr64 (by omega) (by omega)
  have C := hide fun w => cmp3_any (a * d) (c * b) w
  clear h1 h2 ha hb hc hd
  generalize c3 (a * d) (c * b) = r at *
  go_enter Try.func62, Try.ntmps62
  go_wp2_with fail
  refine (C.out _).mono ?_
  rintro e w1 ⟨rfl, rfl⟩
  go_wp2_with fail
  go_ret
  exact ⟨rfl, below2 _ _ _⟩
theorem fr_cross {a b c d : Int} (h1 : Int.gcd a b = 1) (h2 : Int.gcd c d = 1) (hb : 0 < b) (hd : 0 < d) (h : a * d = c * b) : a = c ∧ b = d := by
  have k : a.natAbs * d.natAbs = c.natAbs * b.natAbs := by rw [← Int.natAbs_mul, ← Int.natAbs_mul, h]
  have e1 : b.natAbs ∣ d.natAbs := (Nat.Coprime.symm (show Nat.Coprime a.natAbs b.natAbs from h1)).dvd_of_dvd_mul_left (m := a.natAbs) ⟨c.natAbs, by rw [k, Nat.mul_comm]⟩
  have e2 : d.natAbs ∣ b.natAbs := (Nat.Coprime.symm (show Nat.Coprime c.natAbs d.natAbs from h2)).dvd_of_dvd_mul_left (m := c.natAbs) ⟨a.natAbs, by rw [← k, Nat.mul_comm]⟩
  have e3 := Nat.dvd_antisymm e1 e2
  have e4 : b = d := by omega
  subst e4
  exact ⟨Int.eq_of_mul_eq_mul_right (by omega) h, rfl⟩
set_option maxRecDepth 100000 in
set_option maxHeartbeats 1000000 in
theorem l10Compare_any (a b c d : Int) (h1 : frB a b = true) (h2 : frB c d = true) (w : World) :
    Calls Try.prog 61 #[.agg #[.int .i64 a, .int .i64 b], .agg #[.int .i64 c, .int .i64 d]] w fun e w' => e = .returned (.int .i64 (c3 (a * d) (c * b))) ∧ Below w.heap.size w w' := by
  obtain ⟨x1, x2, x3, x4⟩ := frB_true h1
  obtain ⟨y1, y2, y3, y4⟩ := frB_true h2
  clear h1 h2
  have k1 := mul_small (a := a) (b := d) (by omega) (by omega)
  have k2 := mul_small (a := c) (b := b) (by omega) (by omega)
  have w1 : wrap64 (a * d) = a * d := wr64 (by omega) (by omega)
  have w2 : wrap64 (c * b) = c * b := wr64 (by omega) (by omega)
  rcases he : eqF a b c d with _ | _
  · rcases hb : (b == 0) with _ | _
    · rcases hd : (d == 0) with _ | _
      · have hb' : 0 < b := by simp at hb; omega
        have hd' : 0 < d := by simp at hd; omega
        have hne : a * d ≠ c * b := fun k => by
          have := fr_cross x3 y3 hb' hd' k
          have := (eqF_iff a b c d).2 this
          rw [he] at this; cases this
        rcases hl : decide (a * d < c * b) with _ | _
        · have hr : c3 (a * d) (c * b) = 1 := by
            have := of_decide_eq_false hl
            unfold c3; rw [if_neg this, if_pos (by omega)]
          rw [hr]
          clear hr hne hb' hd' k1 k2 x1 x2 x3 x4 y1 y2 y3 y4
          go_enter Try.func61, Try.ntmps61
          go_wp2
          go_ret
          exact ⟨rfl, below2 _ _ _⟩
        · have hr : c3 (a * d) (c * b) = -1 := by
            have := of_decide_eq_true hl
            unfold c3; rw [if_pos this]
          rw [hr]
          clear hr hne hb' hd' k1 k2 x1 x2 x3 x4 y1 y2 y3 y4
          go_enter Try.func61, Try.ntmps61
          go_wp2
          go_ret
          exact ⟨rfl, below2 _ _ _⟩
      · have hb' : 0 < b := by simp at hb; omega
        have hd' : d = 0 := by simpa using hd
        have hr : c3 (a * d) (c * b) = -1 := by
          have hc : c = 1 := by omega
          rw [hd', hc, Int.mul_zero, Int.one_mul]
          unfold c3; rw [if_pos hb']
        rw [hr]
        clear hr hb' hd' k1 k2 x1 x2 x3 x4 y1 y2 y3 y4 w1 w2
        go_enter Try.func61, Try.ntmps61
        go_wp2
        go_ret
        exact ⟨rfl, below2 _ _ _⟩
    · have hb' : b = 0 := by simpa using hb
      have hr : c3 (a * d) (c * b) = 1 := by
        have ha : a = 1 := by omega
        have hd' : 0 < d := by
          rcases Int.lt_or_le 0 d with k | k
          · exact k
          · have hd0 : d = 0 := by omega
            have hc : c = 1 := by omega
            have := (eqF_iff a b c d).2 ⟨by omega, by omega⟩
            rw [he] at this; cases this
        rw [hb', ha, Int.mul_zero, Int.one_mul]
        unfold c3; rw [if_neg (by omega), if_pos hd']
      rw [hr]
      clear hr hb' k1 k2 x1 x2 x3 x4 y1 y2 y3 y4 w1 w2
      go_enter Try.func61, Try.ntmps61
      go_wp2
      go_ret
      exact ⟨rfl, below2 _ _ _⟩
  · obtain ⟨e1, e2⟩ := (eqF_iff a b c d).1 he
    have hr : c3 (a * d) (c * b) = 0 := by
      rw [e1, e2]
      unfold c3; rw [if_neg (by omega), if_neg (by omega)]
    rw [hr]
    clear hr e1 e2 k1 k2 x1 x2 x3 x4 y1 y2 y3 y4 w1 w2
    go_enter Try.func61, Try.ntmps61
    go_wp2
    go_ret
    exact ⟨rfl, below2 _ _ _⟩
/-- what CompareFractions tells -/
def cfR (a b c d : Int) : Int := if (frB a b && frB c d) = true then c3 (a * d) (c * b) else 0
def cfC (a b c d : Int) : Int := if (frB a b && frB c d) = true then 0 else 1
def cfText : Prop := True
set_option maxRecDepth 100000 in
set_option maxHeartbeats 1000000 in
theorem compareF_any (a b c d : Int) (w : World) :
    Calls Try.prog 22 #[.agg #[.int .i64 a, .int .i64 b], .agg #[.int .i64 c, .int .i64 d]] w fun e w' => e = .returned (.tuple #[.int .i64 (cfR a b c d), .int .i64 (cfC a b c d)]) ∧ Below w.heap.size w w' := by
  have C1 := hide fun w => isFraction_any a b w
  have C2 := hide fun w => isFraction_any c d w
  have H0 := ((Holds.start w).blk #[.int .i64 a, .int .i64 b] 25 w.heap.size rfl).blk #[.int .i64 c, .int .i64 d] 25 (w.heap.size + 1) (by simp)
  unfold cfR cfC
  rcases h1 : frB a b with _ | _
  · rw [h1] at C1
    rw [Bool.false_and, if_neg (by decide), if_neg (by decide)]
    go_enter Try.func22, Try.ntmps22
    go_wp2_with fail
    refine (C1.out _).mono ?_
    rintro e w1 ⟨rfl, hb⟩
    have H1 := (H0.call hb).low
    clear hb h1
    go_wp2_with fail
    go_ret2
    exact ⟨rfl, H1⟩
  rw [h1] at C1
  rcases h2 : frB c d with _ | _
  · rw [h2] at C2
    rw [Bool.and_false, if_neg (by decide), if_neg (by decide)]
    go_enter Try.func22, Try.ntmps22
    go_wp2_with fail
    refine (C1.out _).mono ?_
    rintro e w1 ⟨rfl, hb⟩
    have H1 := H0.call hb
    have c0 := H1.cell 0 rfl (j := 0) (v := .int .i64 c) rfl
    have c1 := H1.cell 0 rfl (j := 1) (v := .int .i64 d) rfl
    clear hb h1 h2
    go_wp2_with fail
    refine (C2.out _).mono ?_
    rintro e w2 ⟨rfl, hb⟩
    have H2 := (H1.call hb).low
    go_wp2_with fail
    go_ret2
    exact ⟨rfl, H2⟩
  rw [h2] at C2
  rw [Bool.and_self, if_pos rfl, if_pos rfl]
  obtain ⟨x1, x2, _⟩ := frB_true h1
  obtain ⟨y1, y2, _⟩ := frB_true h2
  have C3 := hide fun w => compareFractions_any a b c d (by omega) (by omega) (by omega) (by omega) w
  generalize c3 (a * d) (c * b) = r at *
  clear h1 h2 x1 x2 y1 y2
  go_enter Try.func22, Try.ntmps22
  go_wp2_with fail
  refine (C1.out _).mono ?_
  rintro e w1 ⟨rfl, hb⟩
  have H1 := H0.call hb
  have c0 := H1.cell 0 rfl (j := 0) (v := .int .i64 c) rfl
  have c1 := H1.cell 0 rfl (j := 1) (v := .int .i64 d) rfl
  clear hb
  go_wp2_with fail
  refine (C2.out _).mono ?_
  rintro e w2 ⟨rfl, hb⟩
  have H2 := H1.call hb
  clear hb c0 c1
  have c0 := H2.cell 0 rfl (j := 0) (v := .int .i64 c) rfl
  have c1 := H2.cell 0 rfl (j := 1) (v := .int .i64 d) rfl
  have c2 := H2.cell 1 rfl (j := 0) (v := .int .i64 a) rfl
  have c3 := H2.cell 1 rfl (j := 1) (v := .int .i64 b) rfl
  go_wp2_with fail
  refine (C3.out _).mono ?_
  rintro e w3 ⟨rfl, hb⟩
  have H3 := (H2.call hb).low
  go_wp2_with fail
  go_ret2
  exact ⟨rfl, H3⟩
set_option maxRecDepth 100000 in
set_option maxHeartbeats 1000000 in
theorem sCompareF_any (a b c d : Int) (w : World) :
    Calls Try.prog 21 #[.agg #[.int .i64 a, .int .i64 b], .agg #[.int .i64 c, .int .i64 d]] w fun e w' => e = .returned (.tuple #[.int .i64 (cfR a b c d), .int .i64 (cfC a b c d)]) ∧ Below w.heap.size w w' := by
  have C1 := hide fun w => l10Is_any a b w
  have C2 := hide fun w => l10Is_any c d w
  have H0 := ((Holds.start w).blk #[.int .i64 a, .int .i64 b] 25 w.heap.size rfl).blk #[.int .i64 c, .int .i64 d] 25 (w.heap.size + 1) (by simp)
  unfold cfR cfC
  rcases h1 : frB a b with _ | _
  · rw [h1] at C1
    rw [Bool.false_and, if_neg (by decide), if_neg (by decide)]
    go_enter Try.func21, Try.ntmps21
    go_wp2_with fail
    refine (C1.out _).mono ?_
    rintro e w1 ⟨rfl, hb⟩
    have H1 := (H0.call hb).low
    clear hb h1
    go_wp2_with fail
    go_ret2
    exact ⟨rfl, H1⟩
  rw [h1] at C1
  rcases h2 : frB c d with _ | _
  · rw [h2] at C2
    rw [Bool.and_false, if_neg (by decide), if_neg (by decide)]
    go_enter Try.func21, Try.ntmps21
    go_wp2_with fail
    refine (C1.out _).mono ?_
    rintro e w1 ⟨rfl, hb⟩
    have H1 := H0.call hb
    have c0 := H1.cell 0 rfl (j := 0) (v := .int .i64 c) rfl
    have c1 := H1.cell 0 rfl (j := 1) (v := .int .i64 d) rfl
    clear hb h1 h2
    go_wp2_with fail
    refine (C2.out _).mono ?_
    rintro e w2 ⟨rfl, hb⟩
    have H2 := (H1.call hb).low
    go_wp2_with fail
    go_ret2
    exact ⟨rfl, H2⟩
  rw [h2] at C2
  rw [Bool.and_self, if_pos rfl, if_pos rfl]
  have C3 := hide fun w => l10Compare_any a b c d h1 h2 w
  generalize c3 (a * d) (c * b) = r at *
  clear h1 h2
  go_enter Try.func21, Try.ntmps21
  go_wp2_with fail
  refine (C1.out _).mono ?_
  rintro e w1 ⟨rfl, hb⟩
  have H1 := H0.call hb
  have c0 := H1.cell 0 rfl (j := 0) (v := .int .i64 c) rfl
  have c1 := H1.cell 0 rfl (j := 1) (v := .int .i64 d) rfl
  clear hb
  go_wp2_with fail
  refine (C2.out _).mono ?_
  rintro e w2 ⟨rfl, hb⟩
  have H2 := H1.call hb
  clear hb c0 c1
  have c0 := H2.cell 0 rfl (j := 0) (v := .int .i64 c) rfl
  have c1 := H2.cell 0 rfl (j := 1) (v := .int .i64 d) rfl
  have c2 := H2.cell 1 rfl (j := 0) (v := .int .i64 a) rfl
  have c3 := H2.cell 1 rfl (j := 1) (v := .int .i64 b) rfl
  go_wp2_with fail
  refine (C3.out _).mono ?_
  rintro e w3 ⟨rfl, hb⟩
  have H3 := (H2.call hb).low
  go_wp2_with fail
  go_ret2
  exact ⟨rfl, H3⟩
end Go.Proofs.Ytpkfjdaedaplfaa
