/- CountSubgroups of program and model -/
import Derived.Test.YtdoehnckolhloaaCtr
import Derived.Test.YtdoehnckolhloaaInts
import Derived.Test.YtdoehnckolhloaaHS2
namespace Go.Proofs.Ytdoehnckolhloaa
open Go.RowKit

/-- the numbers of subgroups of the indexes up to 14 -/
def subT : List Nat := [0, 1, 3, 13, 71, 461, 3447, 29093, 273343, 2829325, 31998903, 392743957, 5201061455, 73943424413, 1123596277863]
def sT (k : Nat) : Int := ((subT.getD k 0 : Nat) : Int)
/-- what is left when the first indexes have been taken off -/
def sP (m : Nat) : Nat → Int
  | 0 => (m : Int) * (fac m : Nat)
  | k + 1 => if k = 0 then (m : Int) * (fac m : Nat) else sP m k - (fac (m - k) : Nat) * sT k
theorem sP_all : ∀ m, m < 15 → 1 ≤ m → sP m m = sT m := by
  have h : ((List.range 15).all fun m => decide (1 ≤ m → sP m m = sT m)) = true := by decide +kernel
  intro m hm h1
  exact of_decide_eq_true (List.all_eq_true.1 h m (List.mem_range.2 hm)) h1
theorem sP_bd {m k : Nat} (hm : m < 15) (hk : k < 15) : -2000000000000 ≤ sP m k ∧ sP m k ≤ 2000000000000 ∧ 0 ≤ sT k ∧ sT k ≤ 2000000000000 ∧ -4000000000000 ≤ ((fac (m - k) : Nat) : Int) * sT k ∧ ((fac (m - k) : Nat) : Int) * sT k ≤ 200000000000000000 := by
  have h : ((List.range 15).all fun m => (List.range 15).all fun k => decide (-2000000000000 ≤ sP m k ∧ sP m k ≤ 2000000000000 ∧ 0 ≤ sT k ∧ sT k ≤ 2000000000000 ∧ -4000000000000 ≤ ((fac (m - k) : Nat) : Int) * sT k ∧ ((fac (m - k) : Nat) : Int) * sT k ≤ 200000000000000000)) = true := by decide +kernel
  exact of_decide_eq_true (List.all_eq_true.1 (List.all_eq_true.1 h m (List.mem_range.2 hm)) k (List.mem_range.2 hk))
theorem fac_bd {m : Nat} (hm : m < 17) : fac m ≤ 20922789888000 := by rw [← fac16]; exact fac_le (by omega)

set_option maxRecDepth 100000 in
set_option maxHeartbeats 1000000 in
theorem factorial_any (n : Nat) (hn : n < 17) (w : World) :
    Calls Try.prog 56 #[.int .i64 n] w fun e w' => e = .returned (.int .i64 ((fac n : Nat) : Int)) ∧ w = w' := by
  obtain ⟨F, hF⟩ : ∃ F, F = fac n := ⟨_, rfl⟩
  rw [← hF]
  have HF := hide hF; clear hF
  go_enter Try.func56, Try.ntmps56
  go_wp2
  go_loopw [3, 4] (fun s t wr => ∃ k : Nat, 1 ≤ k ∧ (k ≤ n ∨ k = 1) ∧ t = .int .i64 ((k : Int) + 1) ∧ s = .int .i64 ((fac k : Nat) : Int) ∧ w = wr) (fun _ t _ => n + 1 - (intOf t).toNat)
  case atStart => exact ⟨1, by omega, by omega, rfl, rfl, rfl⟩
  case round =>
    obtain ⟨k, hk1, hk, rfl, rfl, rfl⟩ := hrel
    by_cases hlt : k + 1 ≤ n
    · have hb := fac_bd (m := k + 1) (by omega)
      have hb0 := fac_bd (m := k) (by omega)
      have hst : (fac (k + 1) : Nat) = (k + 1) * fac k := rfl
      have e : ((fac (k + 1) : Nat) : Int) = ((fac k : Nat) : Int) * ((k : Int) + 1) := by rw [hst, Int.natCast_mul, Int.mul_comm]; simp
      have m1 : wrap64 (((fac k : Nat) : Int) * ((k : Int) + 1)) = ((fac k : Nat) : Int) * ((k : Int) + 1) := by rw [← e]; exact w64 (by omega) (by omega)
      have HE := hide e; clear e hst hb
      generalize fac k = y at *
      have hlt' : (k : Int) + 1 ≤ n := by omega
      have hk16 : (k : Int) ≤ 16 := by omega
      clear hk
      go_wp2
      go_roundw
      case rel => exact ⟨k + 1, by omega, by omega, by go_num, by first | (rw [HE.out]; done) | rw [HE.out, m1], by trivial⟩
      case measure => simp [intOf]; omega
    · have he : fac k = F := by
        rw [HF.out]
        by_cases c : k = n
        · rw [c]
        · have e1 : k = 1 := by omega
          subst e1
          have : n = 0 := by omega
          subst this
          rfl
      rw [he]
      have hlt' : ¬ (k : Int) + 1 ≤ n := by omega
      clear hlt hk he
      go_wp2
      go_ret
      exact ⟨rfl, rfl⟩

-- left out here: loop.example/g01200/spec.l04Factorial
/-- fifteen numbers -/
@[irreducible] def z15 (c : Nat → Int) : Array Value := row 15 fun i => .int .i64 (c i)
theorem z15_get (c : Nat → Int) {i : Nat} (h : i < 15) : (z15 c)[i]? = some (.int .i64 (c i)) := by unfold z15; exact row_get _ _ h
theorem z15_zero : z15 (fun _ => 0) = #[.int .i64 0, .int .i64 0, .int .i64 0, .int .i64 0, .int .i64 0, .int .i64 0, .int .i64 0, .int .i64 0, .int .i64 0, .int .i64 0, .int .i64 0, .int .i64 0, .int .i64 0, .int .i64 0, .int .i64 0] := by
  unfold z15 row; rfl
def iset (c : Nat → Int) (i : Nat) (x : Int) : Nat → Int := fun j => if j = i then x else c j
theorem z15_set (c : Nat → Int) {i : Nat} (x : Int) : (z15 c).setIfInBounds i (.int .i64 x) = z15 (iset c i x) := by
  unfold z15
  rw [row_set]
  apply row_congr
  intro j _
  unfold iset
  by_cases e : j = i
  · rw [if_pos e, if_pos e]
  · rw [if_neg e, if_neg e]
theorem iset_twice (c : Nat → Int) (i : Nat) (x y : Int) : iset (iset c i x) i y = iset c i y := by
  funext j; unfold iset; split <;> rfl
def upS (m : Nat) : Nat → Int := fun i => if i < m then sT i else 0
theorem upS_step {m : Nat} : iset (upS m) m (sT m) = upS (m + 1) := by
  funext j
  unfold iset upS
  by_cases e : j = m
  · subst e; rw [if_pos rfl, if_pos (by omega)]
  · rw [if_neg e]
    by_cases c : j < m
    · rw [if_pos c, if_pos (by omega)]
    · rw [if_neg c, if_neg (by omega)]
theorem upS_zero : upS 1 = fun _ => 0 := by
  funext j
  unfold upS
  split
  · obtain rfl : j = 0 := by omega
    rfl
  · rfl
noncomputable def subR (n : Int) : Value := if 1 ≤ n ∧ n ≤ 14 then .tuple #[.int .i64 (sT n.toNat), .int .i64 0] else .tuple #[.int .i64 0, .int .i64 2]
theorem subR_eq (n : Int) : ∃ a c : Int, subR n = .tuple #[.int .i64 a, .int .i64 c] := by
  unfold subR; split
  · exact ⟨_, _, rfl⟩
  · exact ⟨_, _, rfl⟩

-- left out here: loop.example/g01200/impl.CountSubgroups
-- left out here: loop.example/g01200/spec.CountSubgroups loop.example/g01200/spec.l04Factorial
end Go.Proofs.Ytdoehnckolhloaa
