/- laws.eqPlaces at equal arrays -/
import Derived.Test.YtmapjjfefjoemaaAgg
import Derived.RegionTactic
namespace Go.Proofs.Ytmapjjfefjoemaa
open Go.RowKit
set_option maxHeartbeats 400000 in
theorem eqPlaces_same (f : Nat → Nat) (w : World) : Calls Try.prog 59 #[.agg (av f), .agg (av f)] w fun e w' => e = .returned (.bool true) ∧ Below w.heap.size w w' := by
  go_enter Try.func59, Try.ntmps59
  go_wp2
  go_loopw [5] (fun i wr => ∃ k : Nat, k ≤ 16 ∧ i = .int .i64 k ∧ Below w.heap.size w wr ∧ cellsOf wr w.heap.size = av f ∧ cellsOf wr (w.heap.size + 1) = av f) (fun i _ => 16 - (intOf i).toNat)
  case atStart => exact ⟨0, by omega, rfl, below2 _ _ _, cellsOf_heap (heap1 rfl), cellsOf_heap (heap_at _ _ _ (by simp))⟩
  case round =>
    obtain ⟨k, hk, rfl, hb, h0, h1⟩ := hrel
    by_cases hlt : k < 16
    · have c0 : wr.cell? ⟨w.heap.size, k, none⟩ = some (.int .u8 (f k)) := by rw [cell_of_cells, h0, av_get f hlt]
      have c1 : wr.cell? ⟨w.heap.size + 1, k, none⟩ = some (.int .u8 (f k)) := by rw [cell_of_cells, h1, av_get f hlt]
      have H0 := hide h0; clear h0
      have H1 := hide h1; clear h1
      go_wp2
      go_region
      all_goals go_wp2
      all_goals go_roundw
      case rel => exact ⟨k + 1, by omega, by go_num, hb.drew, H0.out, H1.out⟩
      case measure => simp [intOf]; omega
    · obtain rfl : k = 16 := by omega
      clear hlt hk h0 h1
      go_wp2
      go_ret
      exact ⟨rfl, hb⟩
end Go.Proofs.Ytmapjjfefjoemaa
