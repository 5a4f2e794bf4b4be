/- The walk of the law FnExactPlacesOfCycles. -/
import Derived.Test.YteadlpbplcpmaaaSPoc
import Derived.Test.YteadlpbplcpmaaaEqPl
namespace Go.Proofs.Yteadlpbplcpmaaa
open Go.RowKit

set_option maxRecDepth 100000 in
set_option maxHeartbeats 1000000 in
theorem fnExactPlacesOfCycles_walk (w : World) (v : Value) (ls : List (List Int)) (hv : RdZ2 w v ls) (_hz : ∀ l ∈ ls, fits64 l) (n : Int) (_hn : -9223372036854775808 ≤ n ∧ n ≤ 9223372036854775807) :
    Calls Try.prog 4 #[v, .int .i64 n] w fun e w' => e = .returned (.bool true) ∧ Below w.heap.size w w' := by
  clear _hn _hz
  obtain ⟨A, cc, rfl, _⟩ := hv.form
  obtain ⟨r, c, hR⟩ := pocR_eq ls n
  have c1 := fun (sm : smallZ ls) u (w' : World) (h : RdZ2 w' u ls) => placesOfCycles_any u ls n sm w' h
  have c2 := fun (sm : smallZ ls) u (w' : World) (h : RdZ2 w' u ls) => sPlacesOfCycles_any u ls n sm w' h
  rw [hR] at c1 c2
  have C1 := hide c1; clear c1
  have C2 := hide c2; clear c2
  have HV := hide hv
  clear hR hv
  have hne : (c != c) = false := by simp
  go_enter Try.func4, Try.ntmps4
  go_wp2_with fail
  refine (szInt64SS_any _ ls _ HV.out).mono ?_
  rintro e w1 ⟨z, rfl, h1, hsz⟩
  by_cases hz : z < 0
  · have hd : decide (z < 0) = true := decide_eq_true hz
    clear hsz hz
    go_wp2
    go_ret
    exact ⟨rfl, h1⟩
  · have sm := hsz.resolve_left hz
    have SM := hide sm; clear sm hsz
    have hd : decide (z < 0) = false := decide_eq_false hz
    clear hz
    have V1 := hide (HV.out.below h1 (Nat.le_refl _))
    go_wp2_with fail
    refine (toInt64SS_any ls _ _ V1.out SM.out).mono ?_
    rintro e w2 ⟨u1, rfl, h2, hu1⟩
    have b2 := h1.trans (h2.mono h1.size)
    have HU1 := hide hu1; clear hu1 h2 h1
    go_wp2_with fail
    refine (C2.out SM.out _ _ HU1.out).mono ?_
    rintro e w3 ⟨rfl, h3⟩
    have b3 := b2.trans (h3.mono b2.size)
    clear h3 b2 HU1
    have b3a := b3.alloc b3.size (.cells (av r) 25)
    have g3 : cellsOf (w3.alloc (.cells (av r) 25)) w3.heap.size = av r := cellsOf_heap (heap_at _ _ _ rfl)
    have V3 := hide (HV.out.below b3a (Nat.le_refl _))
    have s3 := b3.size
    have B3 := hide b3a; clear b3a b3
    have G3 := hide g3; clear g3
    go_wp2_with fail
    refine (toInt64SS_any ls _ _ V3.out SM.out).mono ?_
    rintro e w4 ⟨u2, rfl, h4, hu2⟩
    have HU2 := hide hu2; clear hu2
    go_wp2_with fail
    refine (C1.out SM.out _ _ HU2.out).mono ?_
    rintro e w5 ⟨rfl, h5⟩
    have h45 := h4.trans (h5.mono h4.size)
    have g5 : cellsOf w5 w3.heap.size = av r := (below_cells h45 (by simp)).trans G3.out
    have b5 := B3.out.trans (h45.mono (by simp; omega))
    have s5 : w3.heap.size < w5.heap.size := by have := h45.size; simp at this; omega
    have hu5 := HU2.out.below h5 (Nat.le_refl _)
    have HU5 := hide (hu5.below ((Below.refl w5.heap.size w5).alloc (Nat.le_refl _) (.cells (av r) 25)) (Nat.le_refl _))
    clear h4 h5 h45 hu5 HU2 V1 V3 B3 G3
    go_wp2_with fail
    refine (eqPlaces_same r _).mono ?_
    rintro e w6 ⟨rfl, h6⟩
    have b6 := (b5.alloc (by omega) (.cells (av r) 25)).trans (h6.mono (by simp <;> omega))
    have HU6 := hide (HU5.out.below h6 (Nat.le_refl _))
    have V6 := hide (HV.out.below b6 (Nat.le_refl _))
    clear h6 b5 g5 HU5
    go_wp2_with fail
    refine (toInt64SS_any ls _ _ V6.out SM.out).mono ?_
    rintro e w7 ⟨u3, rfl, h7, hu3⟩
    have b7 := b6.trans (h7.mono b6.size)
    have HU7 := hide (HU6.out.below h7 (Nat.le_refl _))
    have HU3 := hide hu3
    clear h7 b6 HU6 V6 hu3
    go_wp2_with fail
    refine (eqInt64SS_rd ls _ _ _ HU7.out HU3.out).mono ?_
    rintro e w8 ⟨rfl, h8⟩
    have b8 := b7.trans (h8.mono b7.size)
    clear h8 b7
    go_wp2
    go_ret
    exact ⟨rfl, b8⟩

end Go.Proofs.Yteadlpbplcpmaaa
