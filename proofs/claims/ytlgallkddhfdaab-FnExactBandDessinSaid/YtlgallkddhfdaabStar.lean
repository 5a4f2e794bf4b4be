/- impl.roundTurn, spec.l01Turn; StarDessin, BandDessin of the program and of the model -/
import Derived.Test.YtlgallkddhfdaabBld
import Derived.Test.YtlgallkddhfdaabPl1
import Derived.Test.YtlgallkddhfdaabSPerm
namespace Go.Proofs.Ytlgallkddhfdaab
open Go.RowKit

def turnF (n : Nat) : Nat → Nat := upto (fun i => (i + 1) % n) n

set_option maxRecDepth 100000 in
set_option maxHeartbeats 400000 in
theorem roundTurn_any (m : Nat) (h1 : 1 ≤ m) (hm : m ≤ 16) (w : World) :
    Calls Try.prog 48 #[.int .i64 m] w fun e w' => e = .returned (.agg (av (turnF m))) ∧ Below w.heap.size w w' := by
  go_enter Try.func48, Try.ntmps48
  go_wp2
  rw [← av_zero]
  go_loopw [6] (fun i wr => ∃ k : Nat, k ≤ m ∧ i = .int .i64 k ∧ wr = (w.alloc (.cells (av fun _ => 0) 28)).alloc (.cells (av (upto (fun i => (i + 1) % m) k)) 28)) (fun i _ => m - (intOf i).toNat)
  case atStart => exact ⟨0, by omega, rfl, by rw [upto_zero]⟩
  case round =>
    obtain ⟨k, hk, rfl, rfl⟩ := hrel
    by_cases hlt : k < m
    · have h4 := av_get (upto (fun i => (i + 1) % m) k) (i := k) (by omega)
      have h3 := av_set (upto (fun i => (i + 1) % m) k) k ((k + 1) % m)
      rw [upto_step (fun i => (i + 1) % m)] at h3
      have hmod : (k + 1) % m < m := Nat.mod_lt _ (by omega)
      have hz : ((k : Int) + 1) % (m : Int) = (((k + 1) % m : Nat) : Int) := by rw [Int.natCast_emod]; rfl
      have hne : ((m : Int) == 0) = false := by simp; omega
      have hb0 : 0 ≤ ((k : Int) + 1) % (m : Int) := by rw [hz]; omega
      have hb1 : ((k : Int) + 1) % (m : Int) ≤ 255 := by rw [hz]; omega
      rw [← hz] at h3
      clear hz hmod
      go_wp2
      go_roundw
      case rel => exact ⟨k + 1, by omega, by go_num, rfl⟩
      case measure => simp [intOf]; omega
    · obtain rfl : k = m := by omega
      clear hlt hk
      go_wp2
      exact res_agg (p := 2) (g := w.heap.size) aggP (av_size (turnF k)) rfl rfl rfl (heap1 (by simp)) ⟨rfl, below2 _ _ _⟩

set_option maxRecDepth 100000 in
set_option maxHeartbeats 400000 in
theorem sTurn_any (m : Nat) (h1 : 1 ≤ m) (hm : m ≤ 16) (w : World) :
    Calls Try.prog 53 #[.int .i64 m] w fun e w' => e = .returned (.agg (av (turnF m))) ∧ Below w.heap.size w w' := by
  go_enter Try.func53, Try.ntmps53
  go_wp2
  rw [← av_zero]
  go_loopw [4] (fun i wr => ∃ k : Nat, k ≤ m ∧ i = .int .i64 k ∧ wr = (w.alloc (.cells (av fun _ => 0) 28)).alloc (.cells (av (upto (fun i => (i + 1) % m) k)) 28)) (fun i _ => m - (intOf i).toNat)
  case atStart => exact ⟨0, by omega, rfl, by rw [upto_zero]⟩
  case round =>
    obtain ⟨k, hk, rfl, rfl⟩ := hrel
    by_cases hlt : k < m
    · have h4 := av_get (upto (fun i => (i + 1) % m) k) (i := k) (by omega)
      have h3 := av_set (upto (fun i => (i + 1) % m) k) k ((k + 1) % m)
      rw [upto_step (fun i => (i + 1) % m)] at h3
      have hmod : (k + 1) % m < m := Nat.mod_lt _ (by omega)
      have hz : ((k : Int) + 1) % (m : Int) = (((k + 1) % m : Nat) : Int) := by rw [Int.natCast_emod]; rfl
      have hne : ((m : Int) == 0) = false := by simp; omega
      have hb0 : 0 ≤ ((k : Int) + 1) % (m : Int) := by rw [hz]; omega
      have hb1 : ((k : Int) + 1) % (m : Int) ≤ 255 := by rw [hz]; omega
      rw [← hz] at h3
      clear hz hmod
      go_wp2
      go_roundw
      case rel => exact ⟨k + 1, by omega, by go_num, rfl⟩
      case measure => simp [intOf]; omega
    · obtain rfl : k = m := by omega
      clear hlt hk
      go_wp2
      exact res_agg (p := 2) (g := w.heap.size) aggP (av_size (turnF k)) rfl rfl rfl (heap1 (by simp)) ⟨rfl, below2 _ _ _⟩

end Go.Proofs.Ytlgallkddhfdaab