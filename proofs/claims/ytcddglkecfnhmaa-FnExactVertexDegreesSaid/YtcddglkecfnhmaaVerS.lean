/- degrees: the model -/
import Derived.Test.YtcddglkecfnhmaaDegM
namespace Go.Proofs.Ytcddglkecfnhmaa
open Go.RowKit

set_option maxRecDepth 100000 in
set_option maxHeartbeats 4000000 in
theorem sver_any (n : Int) (c t s : Nat → Nat) (hc : ∀ i, c i < 256) (ht : ∀ i, t i < 256) (hs : ∀ i, s i < 256) (w : World) :
    Calls Try.prog 21 #[.agg (fv n c t s)] w fun e w' => ∃ v, e = .returned (.tuple #[v, .int .i64 (degC n c t s)]) ∧ Below w.heap.size w w' ∧ Own1 w.heap.size w' v (verR n c t s) := by
  have C1 := hide fun w => sAre_any n c t s hc ht hs w
  have HH0 := (Holds.start w).blk (fv n c t s) 27 w.heap.size rfl
  clear hc ht hs
  rcases h1 : flB n c t s with _ | _
  · rw [h1] at C1
    have hr : verR n c t s = [] := by unfold verR; rw [if_neg (by simp [h1])]
    have hk : degC n c t s = 1 := by unfold degC; rw [if_neg (by simp [h1])]
    rw [hr, hk]
    clear h1 hr hk
    go_enter Try.func21, Try.ntmps21
    go_wp2_with fail
    refine (C1.out _).mono ?_
    rintro e w1 ⟨rfl, hb⟩
    have HH1 := HH0.call hb
    clear hb HH0
    go_wp2
    go_ret2
    exact ⟨.slice none 0 0, rfl, HH1.low, Own1.nil _ _⟩
  rw [h1] at C1
  obtain ⟨n, rfl, hf⟩ := flB_true h1
  have hk : degC (n : Int) c t s = 0 := by unfold degC; rw [if_pos h1]
  have hn4 := hf.1.1
  have hn32 := hf.1.2.1
  have hn := fv_n (n : Int) c t s
  have hr : verR (n : Int) c t s = degL [t, s] n := by unfold verR; rw [if_pos h1, Int.toNat_natCast]
  rw [hr, hk]
  have C4 := hide fun w => sDegrees_any n hn32 c t s s hf.k2.1 hf.u2.1 w
  generalize degL [t, s] n = D at *
  clear h1 hf hr hk
  go_enter Try.func21, Try.ntmps21
  go_wp2_with fail
  refine (C1.out _).mono ?_
  rintro e w1 ⟨rfl, hb⟩
  have HH1 := HH0.call hb
  have cd1 := HH1.cells 0 rfl
  clear hb HH0
  go_wp2_with fail
  refine (C4.out _).mono ?_
  rintro e w2 ⟨v, rfl, hb, ho⟩
  have HH2 := HH1.call hb
  have HO := hide (ho.mono HH1.size)
  clear hb ho cd1
  go_wp2
  go_ret2
  exact ⟨v, rfl, HH2.low, HO.out⟩

end Go.Proofs.Ytcddglkecfnhmaa
