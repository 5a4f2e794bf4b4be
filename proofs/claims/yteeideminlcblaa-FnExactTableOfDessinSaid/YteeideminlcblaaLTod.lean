/- The walk of the law FnExactTableOfDessin. -/
import Derived.Test.YteeideminlcblaaTodS
import Derived.Test.YteeideminlcblaaMark
namespace Go.Proofs.Yteeideminlcblaa
open Go.RowKit

set_option maxRecDepth 100000 in
set_option maxHeartbeats 1000000 in
theorem fnExactTableOfDessin_walk (n : Int) (f g : Nat → Nat) (_hn : -9223372036854775808 ≤ n ∧ n ≤ 9223372036854775807) (hf : ∀ i, f i < 256) (hg : ∀ i, g i < 256) (x : Int) (_hx : -9223372036854775808 ≤ x ∧ x ≤ 9223372036854775807) (w : World) :
    Calls Try.prog 6 #[.agg (dv n f g), .int .i64 x] w fun e w' => e = .returned (.bool true) ∧ Below w.heap.size w w' := by
  clear _hn _hx
  have C1 := hide fun w => tableOfDessin_any n f g hf hg x w
  have C2 := hide fun w => sTableOfDessin_any n f g hf hg x w
  obtain ⟨hT, hL⟩ := tb_bound n f g x
  generalize tbL n f g x = L at *
  generalize tbC n f g x = c at *
  clear hf hg
  have hne : (c != c) = false := by simp
  have hnt : (((1 + total L : Nat) : Int) != ((1 + total L : Nat) : Int)) = false := by simp
  have hneg : decide (((1 + total L : Nat) : Int) < 0) = false := decide_eq_false (by omega)
  go_enter Try.func6, Try.ntmps6
  go_wp2_with fail
  refine (toDessin_any n f g _).mono ?_
  rintro e w1 ⟨rfl, h1⟩
  go_wp2_with fail
  refine (C2.out _).mono ?_
  rintro e w2 ⟨v0, rfl, h2, o0⟩
  obtain ⟨A0, c0, vs0, rfl, p0⟩ := own2_form o0
  clear o0
  have b2 := h1.trans (h2.mono h1.size)
  have g2 : cellsOf w2 w.heap.size = dv n f g := (below_cells b2 (by simp)).trans (cellsOf_heap (heap_at _ _ _ rfl))
  have O0 := hide p0; clear p0
  clear h1 h2
  go_wp2_with fail
  refine (toDessin_any n f g _).mono ?_
  rintro e w3 ⟨rfl, h3⟩
  go_wp2_with fail
  refine (C1.out _).mono ?_
  rintro e w4 ⟨v1, rfl, h4, o1⟩
  obtain ⟨A1, c1, vs1, rfl, p1⟩ := own2_form o1
  clear o1
  have s23 := h3.size
  have s34 := h4.size
  have h24 := h3.trans (h4.mono h3.size)
  have O04 := hide (O0.out.below h24 (Nat.le_refl _))
  have O1 := hide p1; clear p1
  have b4 := b2.trans (h24.mono b2.size)
  clear h3 h4 h24 g2
  go_wp2_with fail
  refine (eqInt64SS_same L A1 A0 c1 c0 _ _ vs1 vs0 (by omega) (by omega) _ O1.out O04.out).mono ?_
  rintro e w5 ⟨rfl, h5⟩
  have s45 := h5.size
  have O05 := hide (O04.out.below h5 (Nat.le_refl _))
  have O15 := hide (O1.out.below h5 (Nat.le_refl _))
  have b5 := b4.trans (h5.mono b4.size)
  clear h5
  go_wp2_with fail
  refine (mark1 L A1 c1 _ vs1 (by omega) (by omega) _ (by omega) O15.out).mono ?_
  rintro e w6 ⟨rfl, h6, s56, o16⟩
  have O16 := hide o16; clear o16
  have O06 := hide (O05.out.lower h6 (fun k hk => by have := O0.out.lt.1 k hk; omega) (fun i u hu k hk => by have := O0.out.lt.2 i u hu k hk; omega))
  have b6 := b5.trans (h6.mono (by have := b2.size; omega))
  clear h6
  go_wp2_with fail
  refine (held1 L A1 c1 _ vs1 (by omega) (by omega) _ O16.out).mono ?_
  rintro e w7 ⟨rfl, h7⟩
  have s67 := h7.size
  have O17 := hide (O16.out.below h7 (Nat.le_refl _))
  have O07 := hide (O06.out.below h7 (Nat.le_refl _))
  have b7 := b6.trans (h7.mono b6.size)
  have g7 : cellsOf w7 w.heap.size = dv n f g := (below_cells b7 (by simp)).trans (cellsOf_heap (heap_at _ _ _ rfl))
  clear h7
  go_wp2_with fail
  refine (toDessin_any n f g _).mono ?_
  rintro e w8 ⟨rfl, h8⟩
  go_wp2_with fail
  refine (C1.out _).mono ?_
  rintro e w9 ⟨v2, rfl, h9, o2⟩
  obtain ⟨A2, c2, vs2, rfl, p2⟩ := own2_form o2
  clear o2
  have h79 := h8.trans (h9.mono h8.size)
  have O09 := hide (O07.out.below h79 (Nat.le_refl _))
  have O19 := hide (O17.out.below h79 (Nat.le_refl _))
  have O2 := hide p2; clear p2
  have b9 := b7.trans (h79.mono b7.size)
  clear h8 h9 h79 g7
  go_wp2_with fail
  refine (eqInt64SS_same L A2 A0 c2 c0 _ _ vs2 vs0 (by omega) (by omega) _ O2.out O09.out).mono ?_
  rintro e w10 ⟨rfl, h10⟩
  have O110 := hide (O19.out.below h10 (Nat.le_refl _))
  have b10 := b9.trans (h10.mono b9.size)
  clear h10
  go_wp2_with fail
  refine (held1 L A1 c1 _ vs1 (by omega) (by omega) _ O110.out).mono ?_
  rintro e w11 ⟨rfl, h11⟩
  have b11 := b10.trans (h11.mono b10.size)
  clear h11
  go_wp2
  go_ret
  exact ⟨rfl, (below1 w _).trans (b11.mono (by simp))⟩
end Go.Proofs.Yteeideminlcblaa
