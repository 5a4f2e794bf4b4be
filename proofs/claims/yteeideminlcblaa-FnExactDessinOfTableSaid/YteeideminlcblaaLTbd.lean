/- The walk of the law FnExactDessinOfTable. -/
import Derived.Test.YteeideminlcblaaTblD
import Derived.Test.YteeideminlcblaaTblE
namespace Go.Proofs.Yteeideminlcblaa
open Go.RowKit

set_option maxRecDepth 100000 in
set_option maxHeartbeats 1000000 in
theorem fnExactDessinOfTable_walk (w : World) (v : Value) (l : List (List Int)) (hv : RdZ2 w v l) (_hz : ∀ x ∈ l, fits64 x) :
    Calls Try.prog 5 #[v] w fun e w' => e = .returned (.bool true) ∧ Below w.heap.size w w' := by
  clear _hz
  have c1 := fun (u : Value) (w' : World) (h : RdZ2 w' u l) => dessinOfTable_any u l w' h
  have c2 := fun (u : Value) (w' : World) (h : RdZ2 w' u l) => sDessinOfTable_any u l w' h
  obtain ⟨a, r, s, c, hR⟩ := tdR_eq l
  rw [hR] at c1 c2
  have hne : (c != c) = false := by simp
  have C1 := hide c1; clear c1
  have C2 := hide c2; clear c2
  clear hR
  obtain ⟨A, cc, rfl, _⟩ := hv.form
  have HV := hide hv; clear hv
  have HH0 := Holds.start w
  go_enter Try.func5, Try.ntmps5
  go_wp2_with fail
  refine (szInt64SS_any _ l _ HV.out).mono ?_
  rintro e w0 ⟨z, rfl, h1, hsz⟩
  by_cases hz : z < 0
  · have hd : decide (z < 0) = true := decide_eq_true hz
    clear hsz hz
    go_wp2
    go_ret
    exact ⟨rfl, h1⟩
  have sm := hsz.resolve_left hz
  have SM := hide sm; clear sm hsz
  have hd : decide (z < 0) = false := decide_eq_false hz
  clear hz
  have HH1 := HH0.call h1
  clear h1 HH0
  go_wp2_with fail
  refine (toInt64SS_any l _ _ (HV.out.below HH1.low (Nat.le_refl _)) SM.out).mono ?_
  rintro e w1 ⟨u1, rfl, h2, hu1⟩
  have HH2 := HH1.call h2
  have HU1 := hide hu1; clear hu1 h2 HH1
  go_wp2_with fail
  refine (C2.out _ _ HU1.out).mono ?_
  rintro e w2 ⟨rfl, h2⟩
  have HH3 := HH2.call h2
  clear h2 HH2 HU1
  have HB3 := HH3.blk (dv a r s) 36 w2.heap.size rfl
  go_wp2_with fail
  refine (toInt64SS_any l _ _ (HV.out.below HB3.low (Nat.le_refl _)) SM.out).mono ?_
  rintro e w3 ⟨u2, rfl, h3, hu2⟩
  have HH4 := HB3.call h3
  have HU2 := hide hu2; clear hu2 h3 HB3 HH3
  go_wp2_with fail
  refine (C1.out _ _ HU2.out).mono ?_
  rintro e w4 ⟨rfl, h4⟩
  have HH5 := HH4.call h4
  have e5 := HH5.cells 0 rfl
  have l5 := HH5.lt 0 rfl
  have U5 := hide (HU2.out.below h4 (Nat.le_refl _))
  clear HU2 HH4 h4
  have HB5 := HH5.blk (dv a r s) 36 w4.heap.size rfl
  have U6 := hide (U5.out.below (below1 w4 (.cells (dv a r s) 36)) (Nat.le_refl _))
  clear U5
  go_wp2_with fail
  refine (eqDessin_same a r s _).mono ?_
  rintro e w5 ⟨rfl, hb5⟩
  have HH6 := HB5.call hb5
  have U7 := hide (U6.out.below hb5 (Nat.le_refl _))
  clear hb5 HB5 HH5 e5 l5 U6
  go_wp2_with fail
  refine (toInt64SS_any l _ _ (HV.out.below HH6.low (Nat.le_refl _)) SM.out).mono ?_
  rintro e w6 ⟨u3, rfl, h6, hu3⟩
  have HH7 := HH6.call h6
  have U8 := hide (U7.out.below h6 (Nat.le_refl _))
  have HU3 := hide hu3; clear hu3 h6 HH6 U7
  go_wp2_with fail
  refine (eqInt64SS_rd l _ _ _ U8.out HU3.out).mono ?_
  rintro e w7 ⟨rfl, h7⟩
  have HH8 := HH7.call h7
  clear h7 HH7
  go_wp2
  go_ret
  exact ⟨rfl, HH8.low⟩
end Go.Proofs.Yteeideminlcblaa
