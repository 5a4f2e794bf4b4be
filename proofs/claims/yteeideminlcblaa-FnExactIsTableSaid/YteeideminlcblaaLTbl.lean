/- The walk of the law FnExactIsTable. -/
import Derived.Test.YteeideminlcblaaTblS
namespace Go.Proofs.Yteeideminlcblaa
open Go.RowKit

set_option maxRecDepth 100000 in
set_option maxHeartbeats 1000000 in
theorem fnExactIsTable_walk (w : World) (v : Value) (l : List (List Int)) (hv : RdZ2 w v l) (_hz : ∀ x ∈ l, fits64 x) :
    Calls Try.prog 4 #[v] w fun e w' => e = .returned (.bool true) ∧ Below w.heap.size w w' := by
  clear _hz
  have c1 := fun (u : Value) (w' : World) (h : RdZ2 w' u l) => isTable_any l u w' h
  have c2 := fun (u : Value) (w' : World) (h : RdZ2 w' u l) => sIsTable_any l u w' h
  obtain ⟨R, hR⟩ : ∃ R : Bool, tabB l = R := ⟨_, rfl⟩
  rw [hR] at c1 c2
  have hne : (R != R) = false := by simp
  have C1 := hide c1; clear c1
  have C2 := hide c2; clear c2
  clear hR
  obtain ⟨A, cc, rfl, _⟩ := hv.form
  have HV := hide hv; clear hv
  go_enter Try.func4, Try.ntmps4
  go_wp2_with fail
  refine (szInt64SS_any _ l _ HV.out).mono ?_
  rintro e w0 ⟨z, rfl, h1, hsz⟩
  by_cases hz : z < 0
  · have hd : decide (z < 0) = true := decide_eq_true hz
    clear hsz hz
    go_wp2
    go_ret
    exact ⟨rfl, h1⟩
  · have sm := hsz.resolve_left hz
    have SM := hide sm; clear sm hsz
    have hd : decide (z < 0) = false := decide_eq_false hz
    clear hz
    have V1 := hide (HV.out.below h1 (Nat.le_refl _))
    go_wp2_with fail
    refine (toInt64SS_any l _ _ V1.out SM.out).mono ?_
    rintro e w1 ⟨u1, rfl, h2, hu1⟩
    have b1 := h1.trans (h2.mono h1.size)
    have HU1 := hide hu1; clear hu1 h2 h1
    go_wp2_with fail
    refine (C2.out _ _ HU1.out).mono ?_
    rintro e w2 ⟨rfl, h2⟩
    have b2 := b1.trans (h2.mono b1.size)
    have V2 := hide (HV.out.below b2 (Nat.le_refl _))
    clear h2 b1 HU1
    go_wp2_with fail
    refine (toInt64SS_any l _ _ V2.out SM.out).mono ?_
    rintro e w3 ⟨u2, rfl, h3, hu2⟩
    have b3 := b2.trans (h3.mono b2.size)
    have HU2 := hide hu2; clear hu2 h3 b2
    go_wp2_with fail
    refine (C1.out _ _ HU2.out).mono ?_
    rintro e w4 ⟨rfl, h4⟩
    have b4 := b3.trans (h4.mono b3.size)
    have V4 := hide (HV.out.below b4 (Nat.le_refl _))
    have HU4 := hide (HU2.out.below h4 (Nat.le_refl _))
    clear h4 b3 HU2
    go_wp2_with fail
    refine (toInt64SS_any l _ _ V4.out SM.out).mono ?_
    rintro e w5 ⟨u3, rfl, h5, hu3⟩
    have b5 := b4.trans (h5.mono b4.size)
    have HU5 := hide (HU4.out.below h5 (Nat.le_refl _))
    have HU3 := hide hu3; clear hu3 h5 b4 HU4
    go_wp2_with fail
    refine (eqInt64SS_rd l _ _ _ HU5.out HU3.out).mono ?_
    rintro e w6 ⟨rfl, h6⟩
    have b6 := b5.trans (h6.mono b5.size)
    clear h6 b5
    go_wp2
    go_ret
    exact ⟨rfl, b6⟩
end Go.Proofs.Yteeideminlcblaa
