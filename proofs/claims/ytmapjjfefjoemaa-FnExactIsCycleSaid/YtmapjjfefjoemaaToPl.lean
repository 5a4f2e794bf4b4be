/- laws.toPlaces, laws.eqPlaces -/
import Derived.Test.YtmapjjfefjoemaaBase
namespace Go.Proofs.Ytmapjjfefjoemaa
open Go.RowKit

set_option maxHeartbeats 400000 in
theorem toPlaces_any (f : Nat → Nat) (w : World) : Calls Try.prog 50 #[.agg (av f)] w fun e w' => e = .returned (.agg (av f)) ∧ Below w.heap.size w w' := by
  go_enter Try.func50, Try.ntmps50
  go_wp2
  rw [← av_zero]
  go_loopw [4] (fun i wr => ∃ k : Nat, k ≤ 16 ∧ i = .int .i64 k ∧ wr = ((w.alloc (.cells (av f) 22)).alloc (.cells (av fun _ => 0) 29)).alloc (.cells (av (upto f k)) 29)) (fun i _ => 16 - (intOf i).toNat)
  case atStart => exact ⟨0, by omega, rfl, by rw [upto_zero]⟩
  case round =>
    obtain ⟨k, hk, rfl, rfl⟩ := hrel
    by_cases hlt : k < 16
    · have h1 := av_get f hlt
      have h2 := av_get (upto f k) hlt
      have h3 := av_set (upto f k) k (f k)
      rw [upto_step] at h3
      go_wp2
      go_roundw
      case rel => exact ⟨k + 1, by omega, by go_num, rfl⟩
      case measure => simp [intOf]; omega
    · obtain rfl : k = 16 := by omega
      clear hlt hk
      rw [av_congr (f := upto f 16) (g := f) (fun i h => by simp [upto, h])]
      go_wp2_with (first
        | (refine ld0 aggP (av_size _) rfl _ rfl _ rfl (by simp) ?_)
        | (refine st1 aggP (av_size f) (av_size _) (av_cells f) rfl _ _ rfl (w.heap.size + 1) rfl rfl (by simp) ?_))
      exact res_agg (p := 2) (g := w.heap.size + 1) aggP (av_size f) rfl rfl rfl (heap1 (by simp)) ⟨rfl, below3 _ _ _ _⟩

end Go.Proofs.Ytmapjjfefjoemaa
