/- BlockOf of the model; the walk of FnExactBlockOf -/
import Derived.Test.YtgomfphdgekniaaSBlk
import Derived.Test.YtgomfphdgekniaaMk1
import Derived.Test.YtgomfphdgekniaaToDs
namespace Go.Proofs.Ytgomfphdgekniaa
open Go.RowKit

theorem inB_any (n a b : Int) (w : World) : Calls Try.prog 64 #[.int .i64 n, .int .i64 a, .int .i64 b] w fun e w' => e = .returned (.bool (decide (a ≤ n ∧ n ≤ b))) ∧ w = w' := by
  by_cases h : a ≤ n ∧ n ≤ b
  · rw [decide_eq_true h]; exact in_yes n a b w h.1 h.2
  · rw [decide_eq_false h]; exact in_no n a b w h

set_option maxRecDepth 100000 in
set_option maxHeartbeats 1000000 in
theorem sBlockOf_any (n : Int) (f g : Nat → Nat) (hf : ∀ i, f i < 256) (hg : ∀ i, g i < 256) (x y : Int) (w : World) :
    Calls Try.prog 30 #[.agg (dv n f g), .int .i64 x, .int .i64 y] w fun e w' => ∃ v, e = .returned (.tuple #[v, .int .i64 (blkC n f g x y)]) ∧ Below w.heap.size w w' ∧ Own1 w.heap.size w' v (blkR n f g x y) := by
  have C1 := hide fun w => sIs_any n f g hf hg w
  have C2 := hide fun w => inB_any x 0 (n - 1) w
  have C3 := hide fun w => inB_any y 0 (n - 1) w
  have hn := dv_n n f g
  have HH0 := (Holds.start w).blk (dv n f g) 30 w.heap.size rfl
  clear hf hg
  rcases h1 : desB n f g with _ | _
  · rw [h1] at C1
    have hr : blkR n f g x y = [] := by unfold blkR; rw [if_neg (by simp [h1])]
    have hc : blkC n f g x y = 1 := by unfold blkC; rw [if_neg (by simp [h1])]
    rw [hr, hc]
    clear h1 hr hc
    go_enter Try.func30, Try.ntmps30
    go_wp2_with fail
    refine (C1.out _).mono ?_
    rintro e w1 ⟨rfl, hb⟩
    have HH1 := HH0.call hb
    clear hb
    go_wp2
    go_ret2
    exact ⟨.slice none 0 0, rfl, HH1.low, Own1.nil _ _⟩
  · rw [h1] at C1
    obtain ⟨m, rfl, hd⟩ := desB_true h1
    have hm := hd.le
    by_cases hx : 0 ≤ x ∧ x < m
    · rw [decide_eq_true (show 0 ≤ x ∧ x ≤ (m : Int) - 1 by omega)] at C2
      by_cases hy : 0 ≤ y ∧ y < m
      · rw [decide_eq_true (show 0 ≤ y ∧ y ≤ (m : Int) - 1 by omega)] at C3
        obtain ⟨a, rfl⟩ := Int.eq_ofNat_of_zero_le hx.1
        obtain ⟨b, rfl⟩ := Int.eq_ofNat_of_zero_le hy.1
        have hr : blkR (m : Int) f g a b = classL m (joinS f g m a b) a := by rw [class_both f g m hd.bf.1 hd.bg.1 a b (by omega) (by omega) hm]; unfold blkR; rw [if_pos ⟨h1, hx, hy⟩]; simp only [Int.toNat_natCast]
        have hc : blkC (m : Int) f g a b = 0 := by unfold blkC; rw [if_pos h1, if_pos ⟨hx, hy⟩]
        rw [hr, hc]
        have C4 := hide fun (w' : World) => sBlock_any f g m hd a b (by omega) (by omega) w'
        clear h1 hr hc hx hy hd
        generalize classL m (joinS f g m a b) a = B at *
        go_enter Try.func30, Try.ntmps30
        go_wp2_with fail
        refine (C1.out _).mono ?_
        rintro e w1 ⟨rfl, hb⟩
        have HH1 := HH0.call hb
        have cd := HH1.cells 0 rfl
        have cn := HH1.cell 0 rfl hn
        clear hb HH0
        go_wp2_with fail
        refine (C2.out _).mono ?_
        rintro e w2 ⟨rfl, rfl⟩
        go_wp2_with fail
        refine (C3.out _).mono ?_
        rintro e w3 ⟨rfl, rfl⟩
        go_wp2_with fail
        refine (C4.out _).mono ?_
        rintro e w4 ⟨v, rfl, hb, ho⟩
        have HH5 := HH1.newRow hb ho
        clear hb ho HH1 cd cn
        go_wp2
        go_ret2
        exact ⟨v, rfl, HH5.low, HH5.row 0 rfl⟩
      · rw [decide_eq_false (show ¬ (0 ≤ y ∧ y ≤ (m : Int) - 1) by omega)] at C3
        have hr : blkR m f g x y = [] := by unfold blkR; rw [if_neg (fun k => hy k.2.2)]
        have hc : blkC m f g x y = 2 := by unfold blkC; rw [if_pos h1, if_neg (fun k => hy k.2)]
        rw [hr, hc]
        clear h1 hr hc hx hy hd
        go_enter Try.func30, Try.ntmps30
        go_wp2_with fail
        refine (C1.out _).mono ?_
        rintro e w1 ⟨rfl, hb⟩
        have HH1 := HH0.call hb
        have cn := HH1.cell 0 rfl hn
        clear hb HH0
        go_wp2_with fail
        refine (C2.out _).mono ?_
        rintro e w2 ⟨rfl, rfl⟩
        go_wp2_with fail
        refine (C3.out _).mono ?_
        rintro e w3 ⟨rfl, rfl⟩
        go_wp2
        go_ret2
        exact ⟨.slice none 0 0, rfl, HH1.low, Own1.nil _ _⟩
    · rw [decide_eq_false (show ¬ (0 ≤ x ∧ x ≤ (m : Int) - 1) by omega)] at C2
      have hr : blkR m f g x y = [] := by unfold blkR; rw [if_neg (fun k => hx k.2.1)]
      have hc : blkC m f g x y = 2 := by unfold blkC; rw [if_pos h1, if_neg (fun k => hx k.1)]
      rw [hr, hc]
      clear h1 hr hc hx hd
      go_enter Try.func30, Try.ntmps30
      go_wp2_with fail
      refine (C1.out _).mono ?_
      rintro e w1 ⟨rfl, hb⟩
      have HH1 := HH0.call hb
      have cn := HH1.cell 0 rfl hn
      clear hb HH0
      go_wp2_with fail
      refine (C2.out _).mono ?_
      rintro e w2 ⟨rfl, rfl⟩
      go_wp2
      go_ret2
      exact ⟨.slice none 0 0, rfl, HH1.low, Own1.nil _ _⟩

set_option maxRecDepth 100000 in
set_option maxHeartbeats 1000000 in
theorem fnExactBlockOf_walk (n : Int) (f g : Nat → Nat) (_hn : -9223372036854775808 ≤ n ∧ n ≤ 9223372036854775807) (hf : ∀ i, f i < 256) (hg : ∀ i, g i < 256) (x : Int) (_hx : -9223372036854775808 ≤ x ∧ x ≤ 9223372036854775807) (y : Int) (_hy : -9223372036854775808 ≤ y ∧ y ≤ 9223372036854775807) (w : World) :
    Calls Try.prog 6 #[.agg (dv n f g), .int .i64 x, .int .i64 y] w fun e w' => e = .returned (.bool true) ∧ Below w.heap.size w w' := by
  clear _hn _hx _hy
  have C1 := hide fun w => blockOf_any n f g hf hg x y w
  have C2 := hide fun w => sBlockOf_any n f g hf hg x y w
  have hL := blkR_bound n f g x y
  generalize blkR n f g x y = L at *
  generalize blkC n f g x y = c at *
  clear hf hg
  have hne : (c != c) = false := by simp
  have hnt : (((1 + L.length : Nat) : Int) != ((1 + L.length : Nat) : Int)) = false := by simp
  have hneg : decide (((1 + L.length : Nat) : Int) < 0) = false := decide_eq_false (by omega)
  go_enter Try.func6, Try.ntmps6
  go_wp2_with fail
  refine (toDessin_any n f g _).mono ?_
  rintro e w1 ⟨rfl, h1⟩
  go_wp2_with fail
  refine (C2.out _).mono ?_
  rintro e w2 ⟨v0, rfl, h2, o0⟩
  obtain ⟨A0, c0, rfl, p0⟩ := own1_form o0
  clear o0
  have b2 := h1.trans (h2.mono h1.size)
  have g2 : cellsOf w2 w.heap.size = dv n f g := (below_cells b2 (by simp)).trans (cellsOf_heap (heap_at _ _ _ rfl))
  have O0 := hide p0; clear p0
  clear h1 h2
  go_wp2_with fail
  refine (toDessin_any n f g _).mono ?_
  rintro e w3 ⟨rfl, h3⟩
  go_wp2_with fail
  refine (C1.out _).mono ?_
  rintro e w4 ⟨v1, rfl, h4, o1⟩
  obtain ⟨A1, c1, rfl, p1⟩ := own1_form o1
  clear o1
  have s23 := h3.size
  have s34 := h4.size
  have h24 := h3.trans (h4.mono h3.size)
  have O04 := hide (O0.out.below h24 (Nat.le_refl _))
  have O1 := hide p1; clear p1
  have b4 := b2.trans (h24.mono b2.size)
  clear h3 h4 h24 g2
  go_wp2_with fail
  refine (eqInt64S_same L A1 A0 c1 c0 _ _ (by omega) _ O1.out O04.out).mono ?_
  rintro e w5 ⟨rfl, h5⟩
  have s45 := h5.size
  have O05 := hide (O04.out.below h5 (Nat.le_refl _))
  have O15 := hide (O1.out.below h5 (Nat.le_refl _))
  have b5 := b4.trans (h5.mono b4.size)
  clear h5
  go_wp2_with fail
  refine (mk1 L A1 c1 _ (by omega) _ (by omega) O15.out).mono ?_
  rintro e w6 ⟨rfl, h6, s56, o16⟩
  have O16 := hide o16; clear o16
  have O06 := hide (O05.out.lower h6 (fun k hk => by have := O0.out.low k hk; omega))
  have b6 := b5.trans (h6.mono (by have := b2.size; omega))
  clear h6
  go_wp2_with fail
  refine (hd1 L A1 c1 _ (by omega) _ O16.out).mono ?_
  rintro e w7 ⟨rfl, h7⟩
  have s67 := h7.size
  have O17 := hide (O16.out.below h7 (Nat.le_refl _))
  have O07 := hide (O06.out.below h7 (Nat.le_refl _))
  have b7 := b6.trans (h7.mono b6.size)
  have g7 : cellsOf w7 w.heap.size = dv n f g := (below_cells b7 (by simp)).trans (cellsOf_heap (heap_at _ _ _ rfl))
  clear h7
  go_wp2_with fail
  refine (toDessin_any n f g _).mono ?_
  rintro e w8 ⟨rfl, h8⟩
  go_wp2_with fail
  refine (C1.out _).mono ?_
  rintro e w9 ⟨v2, rfl, h9, o2⟩
  obtain ⟨A2, c2, rfl, p2⟩ := own1_form o2
  clear o2
  have h79 := h8.trans (h9.mono h8.size)
  have O09 := hide (O07.out.below h79 (Nat.le_refl _))
  have O19 := hide (O17.out.below h79 (Nat.le_refl _))
  have O2 := hide p2; clear p2
  have b9 := b7.trans (h79.mono b7.size)
  clear h8 h9 h79 g7
  go_wp2_with fail
  refine (eqInt64S_same L A2 A0 c2 c0 _ _ (by omega) _ O2.out O09.out).mono ?_
  rintro e w10 ⟨rfl, h10⟩
  have O110 := hide (O19.out.below h10 (Nat.le_refl _))
  have b10 := b9.trans (h10.mono b9.size)
  clear h10
  go_wp2_with fail
  refine (hd1 L A1 c1 _ (by omega) _ O110.out).mono ?_
  rintro e w11 ⟨rfl, h11⟩
  have b11 := b10.trans (h11.mono b10.size)
  clear h11
  go_wp2
  go_ret
  exact ⟨rfl, (below1 w _).trans (b11.mono (by simp))⟩
end Go.Proofs.Ytgomfphdgekniaa
