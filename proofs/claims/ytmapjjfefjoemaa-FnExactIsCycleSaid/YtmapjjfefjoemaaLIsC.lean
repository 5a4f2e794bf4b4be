/- The walk of the law FnExactIsCycle. -/
import Derived.Test.YtmapjjfefjoemaaIsC
import Derived.Test.YtmapjjfefjoemaaZZ
import Derived.Test.YtmapjjfefjoemaaToDs
import Derived.Test.YtmapjjfefjoemaaEqDs
namespace Go.Proofs.Ytmapjjfefjoemaa
open Go.RowKit

set_option maxRecDepth 100000 in
set_option maxHeartbeats 4000000 in
theorem fnExactIsCycle_walk (w : World) (n0 : Int) (f0 g0 : Nat → Nat) (_hn0 : -9223372036854775808 ≤ n0 ∧ n0 ≤ 9223372036854775807) (hf0 : ∀ i, f0 i < 256) (hg0 : ∀ i, g0 i < 256) (v1 : Value) (l1 : List Int) (hv1 : RdZ w v1 l1) (_hz1 : fits64 l1) :
    Calls Try.prog 8 #[.agg (dv n0 f0 g0), v1] w fun e w' => e = .returned (.bool true) ∧ Below w.heap.size w w' := by
  clear _hn0 _hz1
  have c1 := fun (u1 : Value) (wx : World) (h1 : RdZ wx u1 l1) => isCycleD_any n0 f0 g0 hf0 hg0 u1 l1 wx h1
  have c2 := fun (u1 : Value) (wx : World) (h1 : RdZ wx u1 l1) => sIsCycleD_any n0 f0 g0 hf0 hg0 u1 l1 wx h1
  clear hf0 hg0
  generalize icR n0 f0 g0 l1 = r at *
  generalize icC n0 f0 g0 l1 = c at *
  have hne : (r != r) = false := by simp
  have hne2 : (c != c) = false := by simp
  have C1 := hide c1; clear c1
  have C2 := hide c2; clear c2
  obtain ⟨B1, d1, rfl, _⟩ := hv1.form
  have HV1 := hide hv1; clear hv1
  by_cases hbig1 : (1048576 : Int) < l1.length
  · have hd1 := decide_eq_true hbig1
    clear hbig1
    have H0 := (Holds.start w).blk (dv n0 f0 g0) 24 w.heap.size rfl
    go_enter Try.func8, Try.ntmps8
    go_wp2
    go_ret
    exact ⟨rfl, H0.low⟩
  · have hd1 := decide_eq_false hbig1
    have hl1 : l1.length ≤ 1048576 := by omega
    clear hbig1
    have H0 := (Holds.start w).blk (dv n0 f0 g0) 24 w.heap.size rfl
    go_enter Try.func8, Try.ntmps8
    go_wp2_with fail
    refine (toDessin_any n0 f0 g0 _).mono ?_
    rintro e w1 ⟨rfl, hb⟩
    have H1 := H0.call hb
    clear hb H0
    go_wp2_with fail
    refine (toInt64S_any l1 _ _ (HV1.out.below H1.low (Nat.le_refl _)) hl1).mono ?_
    rintro e w2 ⟨_, rfl, hb, ho⟩
    obtain ⟨At1, ct1, rfl⟩ := own_slice ho
    have H2 := H1.newRow hb ho
    clear hb ho H1
    go_wp2_with fail
    refine (C2.out _ _ (OwnZ.rd (show OwnZ w.heap.size _ _ l1 from H2.row 0 rfl) (by omega))).mono ?_
    rintro e w3 ⟨rfl, hb⟩
    have H3 := H2.call hb
    clear hb H2
    have H4 : Holds w w3 _ := H3.sub (.cons _ (.cons_cons _ (.refl _)))
    clear H3
    go_wp2_with fail
    refine (toInt64S_any l1 _ _ (HV1.out.below H4.low (Nat.le_refl _)) hl1).mono ?_
    rintro e w4 ⟨_, rfl, hb, ho⟩
    obtain ⟨Ay1, cy1, rfl⟩ := own_slice ho
    have H5 := H4.newRow hb ho
    clear hb ho H4
    have qD := H5.cells 1 rfl
    have rD := H5.lt 1 rfl
    go_wp2_with fail
    refine (toDessin_any n0 f0 g0 _).mono ?_
    rintro e w5 ⟨rfl, hb⟩
    clear qD rD
    have H6 := H5.call hb
    clear hb H5
    go_wp2_with fail
    refine (C1.out _ _ (OwnZ.rd (show OwnZ w.heap.size _ _ l1 from H6.row 0 rfl) (by omega))).mono ?_
    rintro e w6 ⟨rfl, hb⟩
    have H7 := H6.call hb
    clear hb H6
    go_wp2_with fail
    refine (toInt64S_any l1 _ _ (HV1.out.below H7.low (Nat.le_refl _)) hl1).mono ?_
    rintro e w7 ⟨_, rfl, hb, ho⟩
    obtain ⟨Az1, cz1, rfl⟩ := own_slice ho
    have H8 := H7.newRow hb ho
    clear hb ho H7
    go_wp2_with fail
    refine (eqInt64S_rd l1 _ _ _ (OwnZ.rd (show OwnZ w.heap.size _ _ l1 from H8.row 1 rfl) (by omega)) (OwnZ.rd (show OwnZ w.heap.size _ _ l1 from H8.row 0 rfl) (by omega))).mono ?_
    rintro e w8 ⟨rfl, hb⟩
    have H9 := H8.call hb
    clear hb H8
    have H10 : Holds w w8 _ := H9.sub (.cons _ (.cons_cons _ (.cons_cons _ (.refl _))))
    clear H9
    go_wp2
    go_ret
    exact ⟨rfl, H10.low⟩
end Go.Proofs.Ytmapjjfefjoemaa

