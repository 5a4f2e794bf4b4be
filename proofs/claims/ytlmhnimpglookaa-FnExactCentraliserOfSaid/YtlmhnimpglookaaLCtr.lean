/- The walk of the law FnExactCentraliserOf. -/
import Derived.Test.YtlmhnimpglookaaCtrL
namespace Go.Proofs.Ytlmhnimpglookaa
open Go.RowKit

set_option maxRecDepth 100000 in
set_option maxHeartbeats 1000000 in
theorem fnExactCentraliserOf_walk (w : World) (v : Value) (l : List Int) (hv : RdZ w v l) (_hz : fits64 l) :
    Calls Try.prog 7 #[v] w fun e w' => e = .returned (.bool true) ∧ Below w.heap.size w w' := by
  clear _hz
  have c1 := fun (u : Value) (w' : World) (h : RdZ w' u l) => centraliserOf_any u l w' h
  have c2 := fun (u : Value) (w' : World) (h : RdZ w' u l) => sCentraliserOf_any u l w' h
  obtain ⟨a0, c0, hR⟩ := cenP_eq l
  rw [hR] at c1 c2
  have hne : (a0 != a0) = false := by simp
  have hne2 : (c0 != c0) = false := by simp
  have C1 := hide c1; clear c1
  have C2 := hide c2; clear c2
  clear hR
  obtain ⟨A, cc, rfl, _⟩ := hv.form
  have HV := hide hv; clear hv
  by_cases hbig : (1048576 : Int) < l.length
  · have hd := decide_eq_true hbig
    clear hbig
    go_enter Try.func7, Try.ntmps7
    go_wp2
    go_ret
    exact ⟨rfl, Below.refl _ _⟩
  · have hd := decide_eq_false hbig
    have hl : l.length ≤ 1048576 := by omega
    clear hbig
    go_enter Try.func7, Try.ntmps7
    have h1 := Below.refl w.heap.size w
    have V1 := HV
    go_wp2_with fail
    refine (toInt64S_any l _ _ V1.out hl).mono ?_
    rintro e w1 ⟨u1, rfl, h2, hu1⟩
    have b1 := h1.trans (h2.mono h1.size)
    have HU1 := hide (hu1.rd (by omega)); clear hu1 h2 h1
    go_wp2_with fail
    refine (C2.out _ _ HU1.out).mono ?_
    rintro e w2 ⟨rfl, h2⟩
    have b2 := b1.trans (h2.mono b1.size)
    have V2 := hide (HV.out.below b2 (Nat.le_refl _))
    clear h2 b1 HU1
    go_wp2_with fail
    refine (toInt64S_any l _ _ V2.out hl).mono ?_
    rintro e w3 ⟨u2, rfl, h3, hu2⟩
    have b3 := b2.trans (h3.mono b2.size)
    have HU2 := hide (hu2.rd (by omega)); clear hu2 h3 b2
    go_wp2_with fail
    refine (C1.out _ _ HU2.out).mono ?_
    rintro e w4 ⟨rfl, h4⟩
    have b4 := b3.trans (h4.mono b3.size)
    have V4 := hide (HV.out.below b4 (Nat.le_refl _))
    have HU4 := hide (HU2.out.below h4 (Nat.le_refl _))
    clear h4 b3 HU2
    go_wp2_with fail
    refine (toInt64S_any l _ _ V4.out hl).mono ?_
    rintro e w5 ⟨u3, rfl, h5, hu3⟩
    have b5 := b4.trans (h5.mono b4.size)
    have HU5 := hide (HU4.out.below h5 (Nat.le_refl _))
    have HU3 := hide (hu3.rd (by omega)); clear hu3 h5 b4 HU4
    go_wp2_with fail
    refine (eqInt64S_rd l _ _ _ HU5.out HU3.out).mono ?_
    rintro e w6 ⟨rfl, h6⟩
    have b6 := b5.trans (h6.mono b5.size)
    clear h6 b5
    go_wp2
    go_ret
    exact ⟨rfl, b6⟩
end Go.Proofs.Ytlmhnimpglookaa
