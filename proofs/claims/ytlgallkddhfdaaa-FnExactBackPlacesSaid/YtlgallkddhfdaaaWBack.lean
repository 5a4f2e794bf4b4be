/- the walk of FnExactBackPlaces -/
import Derived.Test.YtlgallkddhfdaaaPl2
import Derived.Test.YtlgallkddhfdaaaEqPl
namespace Go.Proofs.Ytlgallkddhfdaaa
open Go.RowKit

/-- what BackPlaces hands back, taken apart -/
theorem backR_eq (p : Nat → Nat) (n : Int) : ∃ (r : Nat → Nat) (c : Int), 0 ≤ c ∧ c ≤ 1 ∧ backR p n = .tuple #[.agg (av r), .int .i64 c] := by
  unfold backR
  split
  · exact ⟨_, 0, by omega, by omega, rfl⟩
  · exact ⟨_, 1, by omega, by omega, rfl⟩

set_option maxRecDepth 100000 in
set_option maxHeartbeats 400000 in
theorem fnExactBackPlaces_walk (f : Nat → Nat) (hf : ∀ i, f i < 256) (n : Int) (_hn : -9223372036854775808 ≤ n ∧ n ≤ 9223372036854775807) (w : World) :
    Calls Try.prog 6 #[.agg (av f), .int .i64 n] w fun e w' => e = .returned (.bool true) ∧ Below w.heap.size w w' := by
  clear _hn
  obtain ⟨r, c, hc0, hc1, hR⟩ := backR_eq f n
  have c1 := fun w => backPlaces_any f hf n w
  have c2 := fun w => sBackPlaces_any f hf n w
  rw [hR] at c1 c2
  have C1 := hide c1; clear c1
  have C2 := hide c2; clear c2
  clear hR hf
  have hne : (c != c) = false := by simp
  go_enter Try.func6, Try.ntmps6
  go_wp2_with fail
  refine (toPlaces_any f _).mono ?_
  rintro e w1 ⟨rfl, h1⟩
  go_wp2_with fail
  refine (C2.out _).mono ?_
  rintro e w2 ⟨rfl, h2⟩
  have b2 := (below1 w (.cells (av f) 24)).trans ((h1.trans (h2.mono h1.size)).mono (by simp))
  have s2 : w.heap.size < w2.heap.size := by have := (h1.trans (h2.mono h1.size)).size; simp at this; omega
  have g2 : cellsOf w2 w.heap.size = av f := (below_cells (h1.trans (h2.mono h1.size)) (by simp)).trans (cellsOf_heap (heap_at _ _ _ rfl))
  clear h1 h2
  go_wp2_with fail
  refine (toPlaces_any f _).mono ?_
  rintro e w3 ⟨rfl, h3⟩
  go_wp2_with fail
  refine (C1.out _).mono ?_
  rintro e w4 ⟨rfl, h4⟩
  have h34 := h3.trans (h4.mono h3.size)
  have g4 : cellsOf w4 w2.heap.size = av r := (below_cells h34 (by simp)).trans (cellsOf_heap (heap_at _ _ _ rfl))
  have s4 : w2.heap.size < w4.heap.size := by have := h34.size; simp at this; omega
  have b4 := (b2.alloc (by omega) (.cells (av r) 25)).trans (h34.mono (by simp <;> omega))
  clear h3 h4 h34 b2 g2
  go_wp2_with fail
  refine (eqPlaces_same r _).mono ?_
  rintro e w5 ⟨rfl, h5⟩
  have b5 := (b4.alloc (by omega) (.cells (av r) 25)).trans (h5.mono (by simp <;> omega))
  clear h5 b4 g4
  go_wp2
  go_ret
  exact ⟨rfl, b5⟩

end Go.Proofs.Ytlgallkddhfdaaa
