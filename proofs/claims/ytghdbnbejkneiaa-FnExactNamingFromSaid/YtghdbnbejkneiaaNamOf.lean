/- NamingFrom of the program and of the model; the walk of FnExactNamingFrom -/
import Derived.Test.YtghdbnbejkneiaaSNam
import Derived.Test.YtghdbnbejkneiaaToDs
import Derived.Test.YtghdbnbejkneiaaEqPl
namespace Go.Proofs.Ytghdbnbejkneiaa
open Go.RowKit

set_option maxRecDepth 100000 in
set_option maxHeartbeats 1000000 in
theorem isDart_any (n : Int) (f g : Nat → Nat) (x : Int) (w : World) :
    Calls Try.prog 71 #[.agg (dv n f g), .int .i64 x] w fun e w' => e = .returned (.bool (decide (0 ≤ x ∧ x < n))) ∧ Below w.heap.size w w' := by
  have hn := dv_n n f g
  by_cases h0 : 0 ≤ x
  · have hd : decide (0 ≤ x ∧ x < n) = decide (x < n) := by simp [h0]
    rw [hd]
    have hd0 : decide (0 ≤ x) = true := by simp [h0]
    clear hd
    go_enter Try.func71, Try.ntmps71
    go_wp2
    go_ret
    exact ⟨rfl, below1 _ _⟩
  · have hd : decide (0 ≤ x ∧ x < n) = false := by simp [h0]
    rw [hd]
    have hd0 : decide (0 ≤ x) = false := by simp [h0]
    clear hd
    go_enter Try.func71, Try.ntmps71
    go_wp2
    go_ret
    exact ⟨rfl, below1 _ _⟩
open Classical in
noncomputable def namR (n : Int) (f g : Nat → Nat) (x : Int) : Value :=
  if desB n f g = true then (if 0 ≤ x ∧ x < n then .tuple #[.agg (av (namF f g n.toNat x.toNat)), .int .i64 0] else .tuple #[.agg (av fun _ => 0), .int .i64 2]) else .tuple #[.agg (av fun _ => 0), .int .i64 1]
theorem namR_eq (n : Int) (f g : Nat → Nat) (x : Int) : ∃ (r : Nat → Nat) (c : Int), namR n f g x = .tuple #[.agg (av r), .int .i64 c] := by
  unfold namR; split
  · split
    · exact ⟨_, _, rfl⟩
    · exact ⟨_, _, rfl⟩
  · exact ⟨_, _, rfl⟩

set_option maxRecDepth 100000 in
set_option maxHeartbeats 1000000 in
theorem namingFrom_any (n : Int) (f g : Nat → Nat) (hf : ∀ i, f i < 256) (hg : ∀ i, g i < 256) (x : Int) (hx : -9223372036854775808 ≤ x ∧ x ≤ 9223372036854775807) (w : World) :
    Calls Try.prog 44 #[.agg (dv n f g), .int .i64 x] w fun e w' => e = .returned (namR n f g x) ∧ Below w.heap.size w w' := by
  have C1 := hide fun w => isDessin_any n f g hf hg w
  have CD := hide fun w => isDart_any n f g x w
  have hn := dv_n n f g
  clear hf hg
  have key : ∀ w1 : World, cellsOf w1 w.heap.size = dv n f g → w1.cell? ⟨w.heap.size, 0, none⟩ = some (.int .i64 n) := fun w1 h => by rw [cell_of_cells, h]; exact hn
  have KEY := hide key; clear key
  rcases h1 : desB n f g with _ | _
  · rw [h1] at C1
    have hr : namR n f g x = .tuple #[.agg (av fun _ => 0), .int .i64 1] := by unfold namR; rw [if_neg (by simp [h1])]
    rw [hr]
    clear h1 hr
    go_enter Try.func44, Try.ntmps44
    go_wp2_with fail
    rw [← av_zero]
    refine (C1.out _).mono ?_
    rintro e w1 ⟨rfl, hb⟩
    have c1 : cellsOf w1 w.heap.size = dv n f g := (below_cells hb (by simp <;> omega)).trans (cellsOf_heap (heap1 rfl))
    have q1 : rowOk w1 (w.heap.size + 1) 16 := (below_row hb (by simp)).2 ⟨_, _, heap_at _ _ _ (by simp), av_size _⟩
    have b1 := (below2 w (.cells (dv n f g) 39) (.cells (av fun _ => 0) 23)).trans (hb.mono (by simp <;> omega))
    have n1 := KEY.out _ c1
    clear hb
    go_wp2
    rw [← av_zero]
    have RR := q1
    have BB := b1
    obtain ⟨t, ht, _⟩ := RR.heap
    exact res_agg2 (p := 4) (t := 5) (g := w.heap.size + 1) (v := .int .i64 1) aggP (av_size _) rfl rfl rfl rfl (setRow_heap _ _ _ _ t (0, 0) ht) ⟨rfl, below_setRow BB (by omega) _⟩
  · rw [h1] at C1
    obtain ⟨m, rfl, hd⟩ := desB_true h1
    have hm := hd.le
    have h0 := hd.pos
    by_cases hin : 0 ≤ x ∧ x < (m : Int)
    · have hr : namR (m : Int) f g x = .tuple #[.agg (av (namF f g m x.toNat)), .int .i64 0] := by unfold namR; rw [if_pos h1, if_pos hin, Int.toNat_natCast]
      rw [hr]
      have hdt : decide (0 ≤ x ∧ x < (m : Int)) = true := by simpa using hin
      rw [hdt] at CD
      obtain ⟨y, rfl⟩ := Int.eq_ofNat_of_zero_le hin.1
      rw [Int.toNat_natCast]
      have hy : y < m := by omega
      have C3 := hide fun w => naming_any f g m hd y hy w
      generalize namF f g m y = F at *
      clear h1 hr hd hdt hin hx
      go_enter Try.func44, Try.ntmps44
      go_wp2_with fail
      rw [← av_zero]
      refine (C1.out _).mono ?_
      rintro e w1 ⟨rfl, hb⟩
      have c1 : cellsOf w1 w.heap.size = dv m f g := (below_cells hb (by simp <;> omega)).trans (cellsOf_heap (heap1 rfl))
      have q1 : rowOk w1 (w.heap.size + 1) 16 := (below_row hb (by simp)).2 ⟨_, _, heap_at _ _ _ (by simp), av_size _⟩
      have b1 := (below2 w (.cells (dv m f g) 39) (.cells (av fun _ => 0) 23)).trans (hb.mono (by simp <;> omega))
      have n1 := KEY.out _ c1
      clear hb
      clear n1
      go_wp2_with fail
      refine (CD.out _).mono ?_
      rintro e w2 ⟨rfl, hb⟩
      have c2 := (below_cells hb (by have := q1.lt; omega)).trans c1
      have q2 := (below_row hb q1.lt).2 q1
      have b2 := b1.trans (hb.mono b1.size)
      clear hb c1 q1 b1
      go_wp2_with fail
      refine (C3.out _).mono ?_
      rintro e w3 ⟨rfl, hb⟩
      have c3 := (below_cells hb (by have := q2.lt; omega)).trans c2
      have q3 := (below_row hb q2.lt).2 q2
      have b3 := b2.trans (hb.mono b2.size)
      clear hb c2 q2 b2
      go_wp2
      have RR := q3
      have BB := b3
      obtain ⟨t, ht, _⟩ := RR.heap
      exact res_agg2 (p := 4) (t := 5) (g := w.heap.size + 1) (v := .int .i64 0) aggP (av_size _) rfl rfl rfl rfl (setRow_heap _ _ _ _ t (0, 0) ht) ⟨rfl, below_setRow BB (by omega) _⟩
    · have hr : namR (m : Int) f g x = .tuple #[.agg (av fun _ => 0), .int .i64 2] := by unfold namR; rw [if_pos h1, if_neg hin]
      rw [hr]
      have hdt : decide (0 ≤ x ∧ x < (m : Int)) = false := by simpa using hin
      rw [hdt] at CD
      clear h1 hr hd hdt
      go_enter Try.func44, Try.ntmps44
      go_wp2_with fail
      rw [← av_zero]
      refine (C1.out _).mono ?_
      rintro e w1 ⟨rfl, hb⟩
      have c1 : cellsOf w1 w.heap.size = dv m f g := (below_cells hb (by simp <;> omega)).trans (cellsOf_heap (heap1 rfl))
      have q1 : rowOk w1 (w.heap.size + 1) 16 := (below_row hb (by simp)).2 ⟨_, _, heap_at _ _ _ (by simp), av_size _⟩
      have b1 := (below2 w (.cells (dv m f g) 39) (.cells (av fun _ => 0) 23)).trans (hb.mono (by simp <;> omega))
      have n1 := KEY.out _ c1
      clear hb
      clear n1
      go_wp2_with fail
      refine (CD.out _).mono ?_
      rintro e w2 ⟨rfl, hb⟩
      have c2 := (below_cells hb (by have := q1.lt; omega)).trans c1
      have q2 := (below_row hb q1.lt).2 q1
      have b2 := b1.trans (hb.mono b1.size)
      clear hb c1 q1 b1
      go_wp2
      rw [← av_zero]
      have RR := q2
      have BB := b2
      obtain ⟨t, ht, _⟩ := RR.heap
      exact res_agg2 (p := 4) (t := 5) (g := w.heap.size + 1) (v := .int .i64 2) aggP (av_size _) rfl rfl rfl rfl (setRow_heap _ _ _ _ t (0, 0) ht) ⟨rfl, below_setRow BB (by omega) _⟩

set_option maxRecDepth 100000 in
set_option maxHeartbeats 1000000 in
theorem sNamingFrom_any (n : Int) (f g : Nat → Nat) (hf : ∀ i, f i < 256) (hg : ∀ i, g i < 256) (x : Int) (hx : -9223372036854775808 ≤ x ∧ x ≤ 9223372036854775807) (w : World) :
    Calls Try.prog 43 #[.agg (dv n f g), .int .i64 x] w fun e w' => e = .returned (namR n f g x) ∧ Below w.heap.size w w' := by
  have C1 := hide fun w => sIs_any n f g hf hg w
  have CD := hide fun w => isDart_any n f g x w
  have hn := dv_n n f g
  clear hf hg
  have key : ∀ w1 : World, cellsOf w1 w.heap.size = dv n f g → w1.cell? ⟨w.heap.size, 0, none⟩ = some (.int .i64 n) := fun w1 h => by rw [cell_of_cells, h]; exact hn
  have KEY := hide key; clear key
  rcases h1 : desB n f g with _ | _
  · rw [h1] at C1
    have hr : namR n f g x = .tuple #[.agg (av fun _ => 0), .int .i64 1] := by unfold namR; rw [if_neg (by simp [h1])]
    rw [hr]
    clear h1 hr
    go_enter Try.func43, Try.ntmps43
    go_wp2_with fail
    rw [← av_zero]
    refine (C1.out _).mono ?_
    rintro e w1 ⟨rfl, hb⟩
    have c1 : cellsOf w1 w.heap.size = dv n f g := (below_cells hb (by simp <;> omega)).trans (cellsOf_heap (heap1 rfl))
    have q1 : rowOk w1 (w.heap.size + 1) 16 := (below_row hb (by simp)).2 ⟨_, _, heap_at _ _ _ (by simp), av_size _⟩
    have b1 := (below2 w (.cells (dv n f g) 39) (.cells (av fun _ => 0) 23)).trans (hb.mono (by simp <;> omega))
    have n1 := KEY.out _ c1
    clear hb
    go_wp2
    rw [← av_zero]
    have RR := q1
    have BB := b1
    obtain ⟨t, ht, _⟩ := RR.heap
    exact res_agg2 (p := 4) (t := 5) (g := w.heap.size + 1) (v := .int .i64 1) aggP (av_size _) rfl rfl rfl rfl (setRow_heap _ _ _ _ t (0, 0) ht) ⟨rfl, below_setRow BB (by omega) _⟩
  · rw [h1] at C1
    obtain ⟨m, rfl, hd⟩ := desB_true h1
    have hm := hd.le
    have h0 := hd.pos
    by_cases hin : 0 ≤ x ∧ x < (m : Int)
    · have hr : namR (m : Int) f g x = .tuple #[.agg (av (namF f g m x.toNat)), .int .i64 0] := by unfold namR; rw [if_pos h1, if_pos hin, Int.toNat_natCast]
      rw [hr]
      have hdt : decide (0 ≤ x ∧ x < (m : Int)) = true := by simpa using hin
      rw [hdt] at CD
      obtain ⟨y, rfl⟩ := Int.eq_ofNat_of_zero_le hin.1
      rw [Int.toNat_natCast]
      have hy : y < m := by omega
      have C3 := hide fun w => sNaming_any f g m hd y hy w
      generalize namF f g m y = F at *
      clear h1 hr hd hdt hin hx
      go_enter Try.func43, Try.ntmps43
      go_wp2_with fail
      rw [← av_zero]
      refine (C1.out _).mono ?_
      rintro e w1 ⟨rfl, hb⟩
      have c1 : cellsOf w1 w.heap.size = dv m f g := (below_cells hb (by simp <;> omega)).trans (cellsOf_heap (heap1 rfl))
      have q1 : rowOk w1 (w.heap.size + 1) 16 := (below_row hb (by simp)).2 ⟨_, _, heap_at _ _ _ (by simp), av_size _⟩
      have b1 := (below2 w (.cells (dv m f g) 39) (.cells (av fun _ => 0) 23)).trans (hb.mono (by simp <;> omega))
      have n1 := KEY.out _ c1
      clear hb
      go_wp2_with (go_at_call 64; refine (in_yes _ _ _ _ (by omega) (by omega)).mono ?_; rintro e w' ⟨rfl, rfl⟩)
      refine (C3.out _).mono ?_
      rintro e w3 ⟨rfl, hb⟩
      have c3 := (below_cells hb (by have := q1.lt; omega)).trans c1
      have q3 := (below_row hb q1.lt).2 q1
      have b3 := b1.trans (hb.mono b1.size)
      clear hb c1 q1 b1
      go_wp2
      have RR := q3
      have BB := b3
      obtain ⟨t, ht, _⟩ := RR.heap
      exact res_agg2 (p := 4) (t := 5) (g := w.heap.size + 1) (v := .int .i64 0) aggP (av_size _) rfl rfl rfl rfl (setRow_heap _ _ _ _ t (0, 0) ht) ⟨rfl, below_setRow BB (by omega) _⟩
    · have hr : namR (m : Int) f g x = .tuple #[.agg (av fun _ => 0), .int .i64 2] := by unfold namR; rw [if_pos h1, if_neg hin]
      rw [hr]
      have hdt : decide (0 ≤ x ∧ x < (m : Int)) = false := by simpa using hin
      rw [hdt] at CD
      clear h1 hr hd hdt
      go_enter Try.func43, Try.ntmps43
      go_wp2_with fail
      rw [← av_zero]
      refine (C1.out _).mono ?_
      rintro e w1 ⟨rfl, hb⟩
      have c1 : cellsOf w1 w.heap.size = dv m f g := (below_cells hb (by simp <;> omega)).trans (cellsOf_heap (heap1 rfl))
      have q1 : rowOk w1 (w.heap.size + 1) 16 := (below_row hb (by simp)).2 ⟨_, _, heap_at _ _ _ (by simp), av_size _⟩
      have b1 := (below2 w (.cells (dv m f g) 39) (.cells (av fun _ => 0) 23)).trans (hb.mono (by simp <;> omega))
      have n1 := KEY.out _ c1
      clear hb
      go_wp2_with (go_at_call 64; refine (in_no _ _ _ _ (by omega)).mono ?_; rintro e w' ⟨rfl, rfl⟩)
      rw [← av_zero]
      have RR := q1
      have BB := b1
      obtain ⟨t, ht, _⟩ := RR.heap
      exact res_agg2 (p := 4) (t := 5) (g := w.heap.size + 1) (v := .int .i64 2) aggP (av_size _) rfl rfl rfl rfl (setRow_heap _ _ _ _ t (0, 0) ht) ⟨rfl, below_setRow BB (by omega) _⟩

set_option maxRecDepth 100000 in
set_option maxHeartbeats 1000000 in
theorem fnExactNamingFrom_walk (n : Int) (f g : Nat → Nat) (_hn : -9223372036854775808 ≤ n ∧ n ≤ 9223372036854775807) (hf : ∀ i, f i < 256) (hg : ∀ i, g i < 256) (x : Int) (hx : -9223372036854775808 ≤ x ∧ x ≤ 9223372036854775807) (w : World) :
    Calls Try.prog 12 #[.agg (dv n f g), .int .i64 x] w fun e w' => e = .returned (.bool true) ∧ Below w.heap.size w w' := by
  clear _hn
  obtain ⟨r, c, hR⟩ := namR_eq n f g x
  have c1 := fun w => namingFrom_any n f g hf hg x hx w
  have c2 := fun w => sNamingFrom_any n f g hf hg x hx w
  rw [hR] at c1 c2
  have C1 := hide c1; clear c1
  have C2 := hide c2; clear c2
  clear hR hf hg hx
  have hne : (c != c) = false := by simp
  go_enter Try.func12, Try.ntmps12
  go_wp2_with fail
  refine (toDessin_any n f g _).mono ?_
  rintro e w1 ⟨rfl, h1⟩
  go_wp2_with fail
  refine (C2.out _).mono ?_
  rintro e w2 ⟨rfl, h2⟩
  have b2 := (below1 w (.cells (dv n f g) 36)).trans ((h1.trans (h2.mono h1.size)).mono (by simp))
  have s2 : w.heap.size < w2.heap.size := by have := (h1.trans (h2.mono h1.size)).size; simp at this; omega
  have g2 : cellsOf w2 w.heap.size = dv n f g := (below_cells (h1.trans (h2.mono h1.size)) (by simp)).trans (cellsOf_heap (heap_at _ _ _ rfl))
  clear h1 h2
  go_wp2_with fail
  refine (toDessin_any n f g _).mono ?_
  rintro e w3 ⟨rfl, h3⟩
  go_wp2_with fail
  refine (C1.out _).mono ?_
  rintro e w4 ⟨rfl, h4⟩
  have h34 := h3.trans (h4.mono h3.size)
  have g4 : cellsOf w4 w2.heap.size = av r := (below_cells h34 (by simp)).trans (cellsOf_heap (heap_at _ _ _ rfl))
  have s4 : w2.heap.size < w4.heap.size := by have := h34.size; simp at this; omega
  have b4 := (b2.alloc (by omega) (.cells (av r) 23)).trans (h34.mono (by simp <;> omega))
  clear h3 h4 h34 b2 g2
  go_wp2_with fail
  refine (eqPlaces_same r _).mono ?_
  rintro e w5 ⟨rfl, h5⟩
  have b5 := (b4.alloc (by omega) (.cells (av r) 23)).trans (h5.mono (by simp <;> omega))
  clear h5 b4 g4
  go_wp2
  go_ret
  exact ⟨rfl, b5⟩

end Go.Proofs.Ytghdbnbejkneiaa
