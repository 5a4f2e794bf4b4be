/- Fractions and moves as cells; common divisors, ranges. -/
import Derived.Test.YtpkfjdaedaplfaaFrM
import Derived.Test.YtpkfjdaedaplfaaHS
import Derived.Test.YtpkfjdaedaplfaaArg
import Derived.RegionTactic
import Derived.Lib.SmallJoins
namespace Go.Proofs.Ytpkfjdaedaplfaa
open Go.RowKit

/-- a fraction -/
@[reducible] def fr (n d : Int) : Array Value := #[.int .i64 n, .int .i64 d]
/-- a move -/
@[reducible] def mv (k a b : Int) : Array Value := #[.int .i64 k, .int .i64 a, .int .i64 b]

theorem aggFr : AggT 25 2 := ⟨⟨_, Try.underlying25, rfl⟩, by kernel_rfl⟩
theorem aggMv : AggT 38 3 := ⟨⟨_, Try.underlying38, rfl⟩, by kernel_rfl⟩
set_option maxHeartbeats 400000 in
theorem toFraction_any (n d : Int) (w : World) : Calls Try.prog 16 #[.agg #[.int .i64 n, .int .i64 d]] w fun e w' => e = .returned (.agg #[.int .i64 n, .int .i64 d]) ∧ Below w.heap.size w w' := by
  go_enter Try.func16, Try.ntmps16
  go_wp2
  exact res_agg (p := 2) (g := w.heap.size + 1) aggFr (by rfl) rfl rfl rfl (heap1 (by simp)) ⟨rfl, below3 _ _ _ _⟩
set_option maxHeartbeats 400000 in
theorem eqFraction_same (n d : Int) (w : World) : Calls Try.prog 20 #[.agg #[.int .i64 n, .int .i64 d], .agg #[.int .i64 n, .int .i64 d]] w fun e w' => e = .returned (.bool true) ∧ Below w.heap.size w w' := by
  have h1 : (n != n) = false := by simp
  have h2 : (d != d) = false := by simp
  go_enter Try.func20, Try.ntmps20
  go_wp2
  go_ret
  exact ⟨rfl, below2 _ _ _⟩
theorem gcd_tmod (a b : Int) : Int.gcd b (a.tmod b) = Int.gcd a b := by
  rw [Int.gcd_eq_natAbs_gcd_natAbs, Int.gcd_eq_natAbs_gcd_natAbs, Int.natAbs_tmod, Nat.gcd_comm, ← Nat.gcd_rec, Nat.gcd_comm]
theorem tmod_abs (a b : Int) (hb : b ≠ 0) : (a.tmod b).natAbs < b.natAbs := by
  rw [Int.natAbs_tmod]
  exact Nat.mod_lt _ (by omega)
set_option maxHeartbeats 800000 in
theorem commonDivisor_any (a0 b0 : Int) (ha0 : a0.natAbs ≤ 4000000000) (hb0 : b0.natAbs ≤ 4000000000) (w : World) :
    Calls Try.prog 83 #[.int .i64 a0, .int .i64 b0] w fun e w' => e = .returned (.int .i64 (Int.gcd a0 b0)) ∧ Below w.heap.size w w' := by
  go_enter Try.func83, Try.ntmps83
  go_wp2
  go_loopw [0, 1] (fun va vb wr => ∃ a b : Int, va = .int .i64 a ∧ vb = .int .i64 b ∧ a.natAbs ≤ 4000000000 ∧ b.natAbs ≤ 4000000000 ∧ Int.gcd a b = Int.gcd a0 b0 ∧ Below w.heap.size w wr) (fun _ vb _ => (intOf vb).natAbs)
  case atStart => exact ⟨a0, b0, rfl, rfl, ha0, hb0, rfl, Below.refl _ _⟩
  case round =>
    obtain ⟨a, b, rfl, rfl, hia, hib, hg, hal⟩ := hrel
    by_cases hb : b = 0
    · subst hb
      have hb' : ((0 : Int) != 0) = false := rfl
      have hg' : (Int.gcd a0 b0 : Int) = max a (-a) := by rw [← hg, Int.gcd_zero_right]; omega
      have hn : wrap64 (-a) = -a := by unfold wrap64; omega
      clear hg
      by_cases hneg : a < -a
      · have e : max a (-a) = -a := by omega
        rw [e] at hg'
        go_wp2
        all_goals (try (exfalso; omega))
        all_goals (go_ret; first | exact ⟨rfl, hal⟩ | exact ⟨by rw [hg']; rfl, hal⟩)
      · have e : max a (-a) = a := by omega
        rw [e] at hg'
        go_wp2
        all_goals (try (exfalso; omega))
        all_goals (go_ret; first | exact ⟨rfl, hal⟩ | exact ⟨by rw [hg']; rfl, hal⟩)
    · have hb' : (b != 0) = true := by simpa using hb
      go_wp2
      go_region
      all_goals (try go_wp2)
      all_goals (
        go_roundw
        case rel => exact ⟨b, a.tmod b, rfl, rfl, hib, by have := tmod_abs a b hb; omega, by rw [gcd_tmod]; exact hg, hal.drew⟩
        case measure => simpa [intOf] using tmod_abs a b hb)
set_option maxHeartbeats 800000 in
theorem l10Common_any (a0 b0 : Int) (ha0 : a0.natAbs ≤ 4000000000) (hb0 : b0.natAbs ≤ 4000000000) (w : World) :
    Calls Try.prog 82 #[.int .i64 a0, .int .i64 b0] w fun e w' => e = .returned (.int .i64 (Int.gcd a0 b0)) ∧ Below w.heap.size w w' := by
  go_enter Try.func82, Try.ntmps82
  go_wp2
  go_loopw [0, 1] (fun va vb wr => ∃ a b : Int, va = .int .i64 a ∧ vb = .int .i64 b ∧ a.natAbs ≤ 4000000000 ∧ b.natAbs ≤ 4000000000 ∧ Int.gcd a b = Int.gcd a0 b0 ∧ Below w.heap.size w wr) (fun _ vb _ => (intOf vb).natAbs)
  case atStart => exact ⟨a0, b0, rfl, rfl, ha0, hb0, rfl, Below.refl _ _⟩
  case round =>
    obtain ⟨a, b, rfl, rfl, hia, hib, hg, hal⟩ := hrel
    by_cases hb : b = 0
    · subst hb
      have hb' : ((0 : Int) != 0) = false := rfl
      have hg' : (Int.gcd a0 b0 : Int) = max a (-a) := by rw [← hg, Int.gcd_zero_right]; omega
      have hn : wrap64 (-a) = -a := by unfold wrap64; omega
      clear hg
      by_cases hneg : a < -a
      · have e : max a (-a) = -a := by omega
        rw [e] at hg'
        go_wp2
        all_goals (try (exfalso; omega))
        all_goals (go_ret; first | exact ⟨rfl, hal⟩ | exact ⟨by rw [hg']; rfl, hal⟩)
      · have e : max a (-a) = a := by omega
        rw [e] at hg'
        go_wp2
        all_goals (try (exfalso; omega))
        all_goals (go_ret; first | exact ⟨rfl, hal⟩ | exact ⟨by rw [hg']; rfl, hal⟩)
    · have hb' : (b != 0) = true := by simpa using hb
      go_wp2
      go_roundw
      case rel => exact ⟨b, a.tmod b, rfl, rfl, hib, by have := tmod_abs a b hb; omega, by rw [gcd_tmod]; exact hg, hal⟩
      case measure => simpa [intOf] using tmod_abs a b hb
/-- the parts of a fraction -/
def prt (x : Int) : Bool := decide (-1000000000 ≤ x ∧ x ≤ 1000000000)
set_option maxHeartbeats 400000 in
theorem isPart_any (x : Int) (w : World) : Calls Try.prog 59 #[.int .i64 x] w fun e w' => e = .returned (.bool (prt x)) ∧ w' = w := by
  by_cases h1 : -1000000000 ≤ x
  · have d1 := decide_eq_true h1
    by_cases h2 : x ≤ 1000000000
    · have d2 := decide_eq_true h2
      have hp : prt x = true := decide_eq_true ⟨h1, h2⟩
      clear h1 h2
      go_enter Try.func59, Try.ntmps59
      go_wp2
      go_ret
      exact ⟨by rw [hp]; rfl, rfl⟩
    · have d2 := decide_eq_false h2
      have hp : prt x = false := decide_eq_false (fun h => h2 h.2)
      clear h1 h2
      go_enter Try.func59, Try.ntmps59
      go_wp2
      go_ret
      exact ⟨by rw [hp]; rfl, rfl⟩
  · have d1 := decide_eq_false h1
    have hp : prt x = false := decide_eq_false (fun h => h1 h.1)
    clear h1
    go_enter Try.func59, Try.ntmps59
    go_wp2
    go_ret
    exact ⟨by rw [hp]; rfl, rfl⟩
set_option maxHeartbeats 400000 in
theorem in10_any (n a b : Int) (w : World) : Calls Try.prog 57 #[.int .i64 n, .int .i64 a, .int .i64 b] w fun e w' => e = .returned (.bool (decide (a ≤ n ∧ n ≤ b))) ∧ w' = w := by
  by_cases h1 : a ≤ n
  · have d1 := decide_eq_true h1
    by_cases h2 : n ≤ b
    · have d2 := decide_eq_true h2
      rw [decide_eq_true (⟨h1, h2⟩ : a ≤ n ∧ n ≤ b)]
      clear h1 h2
      go_enter Try.func57, Try.ntmps57
      go_wp2
      go_ret
      exact ⟨rfl, rfl⟩
    · have d2 := decide_eq_false h2
      rw [decide_eq_false (fun h => h2 h.2 : ¬ (a ≤ n ∧ n ≤ b))]
      clear h1 h2
      go_enter Try.func57, Try.ntmps57
      go_wp2
      go_ret
      exact ⟨rfl, rfl⟩
  · have d1 := decide_eq_false h1
    rw [decide_eq_false (fun h => h1 h.1 : ¬ (a ≤ n ∧ n ≤ b))]
    clear h1
    go_enter Try.func57, Try.ntmps57
    go_wp2
    go_ret
    exact ⟨rfl, rfl⟩
/-- a fraction or a move that is stored cell by cell -/
theorem Holds.set2 {w0 w : World} {L : List Part} (h : Holds w0 w L) (i : Nat) {g : Nat} {a b : Value} {t : TypeId} (hi : L[i]? = some (pBlk g #[a, b] t)) (x y : Value) :
    Holds w0 ((w.setCell ⟨g, 0, none⟩ x).setCell ⟨g, 1, none⟩ y) (L.set i (pBlk g #[x, y] t)) := by
  have h1 := h.set i hi 0 x
  have h2 := h1.set i (g := g) (c := #[x, b]) (t := t) (by rw [List.getElem?_set]; rw [if_pos rfl, if_pos (List.getElem?_eq_some_iff.1 hi).1]; simp) 1 y
  rw [List.set_set] at h2
  simpa using h2
theorem Holds.set3 {w0 w : World} {L : List Part} (h : Holds w0 w L) (i : Nat) {g : Nat} {a b c : Value} {t : TypeId} (hi : L[i]? = some (pBlk g #[a, b, c] t)) (x y z : Value) :
    Holds w0 (((w.setCell ⟨g, 0, none⟩ x).setCell ⟨g, 1, none⟩ y).setCell ⟨g, 2, none⟩ z) (L.set i (pBlk g #[x, y, z] t)) := by
  have h1 := h.set i hi 0 x
  have h2 := h1.set i (g := g) (c := #[x, b, c]) (t := t) (by rw [List.getElem?_set]; rw [if_pos rfl, if_pos (List.getElem?_eq_some_iff.1 hi).1]; simp) 1 y
  have h3 := h2.set i (g := g) (c := #[x, y, c]) (t := t) (by rw [List.getElem?_set, List.length_set]; rw [if_pos rfl, if_pos (List.getElem?_eq_some_iff.1 hi).1]; simp) 2 z
  rw [List.set_set, List.set_set] at h3
  simpa using h3
/-- what a fraction is -/
def frB (n d : Int) : Bool := decide (-1000000000 ≤ n ∧ n ≤ 1000000000) && decide (0 ≤ d ∧ d ≤ 1000000000) && decide ((Int.gcd n d : Int) = 1) && (decide (0 < d) || decide (n = 1))
set_option maxRecDepth 100000 in
set_option maxHeartbeats 1000000 in
theorem l10Is_any (n d : Int) (w : World) : Calls Try.prog 56 #[.agg #[.int .i64 n, .int .i64 d]] w fun e w' => e = .returned (.bool (frB n d)) ∧ Below w.heap.size w w' := by
  have ENT := hide (fun (a b : Int) (w : World) => in10_any n a b w)
  rcases h1 : decide (-1000000000 ≤ n ∧ n ≤ 1000000000) with _ | _
  · have hf : frB n d = false := by unfold frB; rw [h1]; rfl
    rw [hf]
    clear hf ENT
    go_enter Try.func56, Try.ntmps56
    go_wp2_with fail
    refine (in10_any _ _ _ _).mono ?_
    rintro e w1 ⟨rfl, rfl⟩
    rw [h1]
    clear h1
    go_wp2
    go_ret
    exact ⟨rfl, below1 _ _⟩
  rcases h2 : decide (0 ≤ d ∧ d ≤ 1000000000) with _ | _
  · have hf : frB n d = false := by unfold frB; rw [h1, h2]; rfl
    rw [hf]
    clear hf ENT
    go_enter Try.func56, Try.ntmps56
    go_wp2_with fail
    refine (in10_any _ _ _ _).mono ?_
    rintro e w1 ⟨rfl, rfl⟩
    rw [h1]
    clear h1
    go_wp2_with fail
    refine (in10_any _ _ _ _).mono ?_
    rintro e w1 ⟨rfl, rfl⟩
    rw [h2]
    clear h2
    go_wp2
    go_ret
    exact ⟨rfl, below1 _ _⟩
  have x1 := of_decide_eq_true h1
  have x2 := of_decide_eq_true h2
  have CG := hide fun w => l10Common_any n d (by omega) (by omega) w
  have hf : frB n d = (decide ((Int.gcd n d : Int) = 1) && (decide (0 < d) || decide (n = 1))) := by unfold frB; rw [h1, h2]; rfl
  rw [hf]
  clear hf x1 x2 ENT
  generalize (Int.gcd n d : Int) = g at *
  rw [show decide (g = 1) = (g == 1) from rfl, show decide (n = 1) = (n == 1) from rfl]
  obtain ⟨b3, h3⟩ : ∃ b, (g == 1) = b := ⟨_, rfl⟩
  obtain ⟨b4, h4⟩ : ∃ b, decide (0 < d) = b := ⟨_, rfl⟩
  obtain ⟨b5, h5⟩ : ∃ b, (n == 1) = b := ⟨_, rfl⟩
  rw [h3, h4, h5]
  go_enter Try.func56, Try.ntmps56
  go_wp2_with fail
  refine (in10_any _ _ _ _).mono ?_
  rintro e w1 ⟨rfl, rfl⟩
  rw [h1]
  clear h1
  go_wp2_with fail
  refine (in10_any _ _ _ _).mono ?_
  rintro e w1 ⟨rfl, rfl⟩
  rw [h2]
  clear h2
  go_wp2_with fail
  refine (CG.out _).mono ?_
  rintro e w1 ⟨rfl, hb⟩
  have HH := ((Holds.start w).blk #[.int .i64 n, .int .i64 d] 25 w.heap.size rfl).call hb
  have c0 := HH.cell 0 rfl (j := 0) (v := .int .i64 n) rfl
  have c1 := HH.cell 0 rfl (j := 1) (v := .int .i64 d) rfl
  have f0 := HH.low
  clear hb HH CG
  cases b3 <;> cases b4 <;> cases b5
  all_goals (go_wp2; go_ret; exact ⟨rfl, f0⟩)
end Go.Proofs.Ytpkfjdaedaplfaa
