/- The walk of FnExactSatisfiesRelations. -/
import Derived.Test.YteeideminlcblaaDoorSat
import Derived.Test.YteeideminlcblaaDoorToDs
namespace Go.Proofs.YteeideminlcblaaDoor
open Go.RowKit

set_option maxRecDepth 100000 in
set_option maxHeartbeats 1000000 in
theorem fnExactSatisfiesRelations_walk (w : World) (n : Int) (f g : Nat → Nat) (_hn : -9223372036854775808 ≤ n ∧ n ≤ 9223372036854775807) (hf : ∀ i, f i < 256) (hg : ∀ i, g i < 256) (v : Value) (l : List ByteArray) (hv : RdS w v l) (hz : ∀ x ∈ l, x.size ≤ maxLen) :
    Calls Tryd.prog 7 #[.agg (dv n f g), v] w fun e w' => e = .returned (.bool true) ∧ Below w.heap.size w w' := by
  clear _hn
  have hz2 : ∀ x ∈ l, x.size ≤ 9223372036854775807 := hz
  clear hz
  have c1 := fun (u : Value) (w' : World) (h : RdS w' u l) => satisfiesRelations_any n f g hf hg u l hz2 w' h
  have c2 := fun (u : Value) (w' : World) (h : RdS w' u l) => sSatisfiesRelations_any n f g hf hg u l hz2 w' h
  obtain ⟨b, c, hR⟩ := satR_eq n f g l
  rw [hR] at c1 c2
  have hne : (b != b) = false := by simp
  have hne2 : (c != c) = false := by simp
  have C1 := hide c1; clear c1
  have C2 := hide c2; clear c2
  have CZ := hide (fun (w' : World) (h : RdS w' v l) => szStringS_any v l hz2 w' h)
  clear hR hf hg hz2
  obtain ⟨A, cc, rfl, _⟩ := rdS_form hv
  have HV := hide hv; clear hv
  have HH0 := (Holds.start w).blk (dv n f g) 27 w.heap.size rfl
  go_enter Tryd.func7, Tryd.ntmps7
  go_wp2_with fail
  refine (CZ.out _ (rdS_below HV.out HH0.low (Nat.le_refl _))).mono ?_
  rintro e w0 ⟨z, rfl, rfl, hsz⟩
  by_cases hz : z < 0
  · have hd : decide (z < 0) = true := decide_eq_true hz
    clear hsz hz
    go_wp2
    go_ret
    exact ⟨rfl, HH0.low⟩
  have sm := hsz.resolve_left hz
  have SM := hide sm.1; clear sm hsz
  have hd : decide (z < 0) = false := decide_eq_false hz
  clear hz
  go_wp2_with fail
  refine (toDessin_any n f g _).mono ?_
  rintro e w1 ⟨rfl, h1⟩
  have HH1 := HH0.call h1
  clear h1 HH0
  go_wp2_with fail
  refine (toStringS_any l _ _ (rdS_below HV.out HH1.low (Nat.le_refl _)) SM.out).mono ?_
  rintro e w2 ⟨u1, rfl, h2, hu1⟩
  have HH2 := HH1.call h2
  have HU1 := hide hu1; clear hu1 h2 HH1
  go_wp2_with fail
  refine (C2.out _ _ HU1.out).mono ?_
  rintro e w3 ⟨rfl, h3⟩
  have HH3 := HH2.call h3
  have cd3 := HH3.cells 0 rfl
  clear h3 HH2 HU1
  go_wp2_with fail
  refine (toStringS_any l _ _ (rdS_below HV.out HH3.low (Nat.le_refl _)) SM.out).mono ?_
  rintro e w4 ⟨u2, rfl, h4, hu2⟩
  have HH4 := HH3.call h4
  have cd4 := HH4.cells 0 rfl
  have HU2 := hide hu2; clear hu2 h4 HH3 cd3
  go_wp2_with fail
  refine (toDessin_any n f g _).mono ?_
  rintro e w5 ⟨rfl, h5⟩
  have HH5 := HH4.call h5
  have U5 := hide (rdS_below HU2.out h5 (Nat.le_refl _))
  clear h5 HH4 HU2 cd4
  go_wp2_with fail
  refine (C1.out _ _ U5.out).mono ?_
  rintro e w6 ⟨rfl, h6⟩
  have HH6 := HH5.call h6
  have U6 := hide (rdS_below U5.out h6 (Nat.le_refl _))
  clear h6 HH5 U5
  go_wp2_with fail
  refine (toStringS_any l _ _ (rdS_below HV.out HH6.low (Nat.le_refl _)) SM.out).mono ?_
  rintro e w7 ⟨u3, rfl, h7, hu3⟩
  have HH7 := HH6.call h7
  have U7 := hide (rdS_below U6.out h7 (Nat.le_refl _))
  have HU3 := hide hu3; clear hu3 h7 HH6 U6
  go_wp2_with fail
  refine (eqStringS_rd l _ _ _ U7.out HU3.out).mono ?_
  rintro e w8 ⟨rfl, h8⟩
  have HH8 := HH7.call h8
  clear h8 HH7
  go_wp2
  go_ret
  exact ⟨rfl, HH8.low⟩
end Go.Proofs.YteeideminlcblaaDoor
