/- StarDessin, BandDessin of the program and of the model; the walks of their laws -/
import Derived.Test.YtlgallkddhfdaabStar
import Derived.Test.YtlgallkddhfdaabEqDs
namespace Go.Proofs.Ytlgallkddhfdaab
open Go.RowKit

theorem turnF_lt {m : Nat} (hm : m ≤ 16) {i : Nat} (hi : i < m) : turnF m i < 16 := by
  unfold turnF upto
  rw [if_pos hi]
  have := Nat.mod_lt (i + 1) (show m > 0 by omega)
  show (i + 1) % m < 16
  omega
def starR (n : Int) : Value := if 1 ≤ n ∧ n ≤ 16 then .tuple #[.agg (dv n (turnF n.toNat) (sameF n.toNat)), .int .i64 0] else .tuple #[.agg (dv 0 (fun _ => 0) (fun _ => 0)), .int .i64 2]
def bandR (n : Int) : Value := if 1 ≤ n ∧ n ≤ 16 then .tuple #[.agg (dv n (turnF n.toNat) (backF (turnF n.toNat) n.toNat)), .int .i64 0] else .tuple #[.agg (dv 0 (fun _ => 0) (fun _ => 0)), .int .i64 2]
theorem starR_eq (n : Int) : ∃ (a : Int) (f g : Nat → Nat) (c : Int), starR n = .tuple #[.agg (dv a f g), .int .i64 c] := by
  unfold starR; split
  · exact ⟨_, _, _, _, rfl⟩
  · exact ⟨_, _, _, _, rfl⟩
theorem bandR_eq (n : Int) : ∃ (a : Int) (f g : Nat → Nat) (c : Int), bandR n = .tuple #[.agg (dv a f g), .int .i64 c] := by
  unfold bandR; split
  · exact ⟨_, _, _, _, rfl⟩
  · exact ⟨_, _, _, _, rfl⟩

set_option maxRecDepth 100000 in
set_option maxHeartbeats 400000 in
theorem starDessin_any (n : Int) (w : World) : Calls Try.prog 23 #[.int .i64 n] w fun e w' => e = .returned (starR n) ∧ Below w.heap.size w w' := by
  by_cases hn : 1 ≤ n ∧ n ≤ 16
  · have hr : starR n = .tuple #[.agg (dv n (turnF n.toNat) (sameF n.toNat)), .int .i64 0] := by unfold starR; rw [if_pos hn]
    rw [hr]
    clear hr
    obtain ⟨m, rfl⟩ := Int.eq_ofNat_of_zero_le (show 0 ≤ n by omega)
    have hm1 : 1 ≤ m := by omega
    have hm2 : m ≤ 16 := by omega
    rw [Int.toNat_natCast]
    clear hn
    have r0 : ∀ o : World, Below (w.alloc (.cells (dv 0 (fun _ => 0) (fun _ => 0)) 30)).heap.size (w.alloc (.cells (dv 0 (fun _ => 0) (fun _ => 0)) 30)) o → rowOk o w.heap.size 33 := fun o h => (below_row h (by simp)).2 ⟨_, _, heap_at _ _ _ rfl, dv_size _ _ _⟩
    have R0 := hide r0; clear r0
    go_enter Try.func23, Try.ntmps23
    go_wp2_with (go_at_call 47; refine (dart_yes _ _ (by omega) (by omega)).mono ?_; rintro e w' ⟨rfl, rfl⟩)
    rw [← dv_zero]
    refine (roundTurn_any m hm1 hm2 _).mono ?_
    rintro e w1 ⟨rfl, h1⟩
    have b1 := h1
    go_wp2_with fail
    refine (stay_any m hm2 _).mono ?_
    rintro e w2 ⟨rfl, h2⟩
    have b2 := b1.trans (h2.mono b1.size)
    clear h2 b1
    have rr := R0.out _ b2
    go_wp2
    obtain ⟨t, ht, _⟩ := rr.heap
    exact res_agg2 (p := 2) (t := 3) (g := w.heap.size) (v := .int .i64 0) aggD (dv_size _ _ _) rfl rfl rfl rfl (setRow_heap _ _ _ _ t (0, 0) ht) ⟨rfl, below_setRow ((below1 w _).trans (b2.mono (by simp))) (Nat.le_refl _) _⟩
  · have hr : starR n = .tuple #[.agg (dv 0 (fun _ => 0) (fun _ => 0)), .int .i64 2] := by unfold starR; rw [if_neg hn]
    rw [hr]
    clear hr
    go_enter Try.func23, Try.ntmps23
    go_wp2_with (go_at_call 47; refine (dart_no _ _ hn).mono ?_; rintro e w' ⟨rfl, rfl⟩)
    exact res_agg2 (p := 2) (t := 3) (g := w.heap.size) (v := .int .i64 2) aggD (dv_size 0 (fun _ => 0) (fun _ => 0)) rfl rfl rfl rfl (heap_at _ _ _ rfl) ⟨rfl, below1 _ _⟩

set_option maxRecDepth 100000 in
set_option maxHeartbeats 400000 in
theorem bandDessin_any (n : Int) (w : World) : Calls Try.prog 28 #[.int .i64 n] w fun e w' => e = .returned (bandR n) ∧ Below w.heap.size w w' := by
  by_cases hn : 1 ≤ n ∧ n ≤ 16
  · have hr : bandR n = .tuple #[.agg (dv n (turnF n.toNat) (backF (turnF n.toNat) n.toNat)), .int .i64 0] := by unfold bandR; rw [if_pos hn]
    rw [hr]
    clear hr
    obtain ⟨m, rfl⟩ := Int.eq_ofNat_of_zero_le (show 0 ≤ n by omega)
    have hm1 : 1 ≤ m := by omega
    have hm2 : m ≤ 16 := by omega
    rw [Int.toNat_natCast]
    clear hn
    have r0 : ∀ o : World, Below (w.alloc (.cells (dv 0 (fun _ => 0) (fun _ => 0)) 30)).heap.size (w.alloc (.cells (dv 0 (fun _ => 0) (fun _ => 0)) 30)) o → rowOk o w.heap.size 33 := fun o h => (below_row h (by simp)).2 ⟨_, _, heap_at _ _ _ rfl, dv_size _ _ _⟩
    have R0 := hide r0; clear r0
    go_enter Try.func28, Try.ntmps28
    go_wp2_with (go_at_call 47; refine (dart_yes _ _ (by omega) (by omega)).mono ?_; rintro e w' ⟨rfl, rfl⟩)
    rw [← dv_zero]
    refine (roundTurn_any m hm1 hm2 _).mono ?_
    rintro e w1 ⟨rfl, h1⟩
    have b1 := h1
    go_wp2_with fail
    refine (roundTurn_any m hm1 hm2 _).mono ?_
    rintro e w2 ⟨rfl, h2⟩
    have b2 := b1.trans (h2.mono b1.size)
    clear h2 b1
    go_wp2_with fail
    refine (undo_any (turnF m) m hm2 (fun i hi => turnF_lt hm2 hi) _).mono ?_
    rintro e w3 ⟨rfl, h3⟩
    have b3 := b2.trans (h3.mono b2.size)
    clear h3 b2
    have rr := R0.out _ b3
    go_wp2
    obtain ⟨t, ht, _⟩ := rr.heap
    exact res_agg2 (p := 2) (t := 3) (g := w.heap.size) (v := .int .i64 0) aggD (dv_size _ _ _) rfl rfl rfl rfl (setRow_heap _ _ _ _ t (0, 0) ht) ⟨rfl, below_setRow ((below1 w _).trans (b3.mono (by simp))) (Nat.le_refl _) _⟩
  · have hr : bandR n = .tuple #[.agg (dv 0 (fun _ => 0) (fun _ => 0)), .int .i64 2] := by unfold bandR; rw [if_neg hn]
    rw [hr]
    clear hr
    go_enter Try.func28, Try.ntmps28
    go_wp2_with (go_at_call 47; refine (dart_no _ _ hn).mono ?_; rintro e w' ⟨rfl, rfl⟩)
    exact res_agg2 (p := 2) (t := 3) (g := w.heap.size) (v := .int .i64 2) aggD (dv_size 0 (fun _ => 0) (fun _ => 0)) rfl rfl rfl rfl (heap_at _ _ _ rfl) ⟨rfl, below1 _ _⟩

set_option maxRecDepth 100000 in
set_option maxHeartbeats 400000 in
theorem sBandDessin_any (n : Int) (w : World) : Calls Try.prog 27 #[.int .i64 n] w fun e w' => e = .returned (bandR n) ∧ Below w.heap.size w w' := by
  by_cases hn : 1 ≤ n ∧ n ≤ 16
  · have hr : bandR n = .tuple #[.agg (dv n (turnF n.toNat) (backF (turnF n.toNat) n.toNat)), .int .i64 0] := by unfold bandR; rw [if_pos hn]
    rw [hr]
    clear hr
    obtain ⟨m, rfl⟩ := Int.eq_ofNat_of_zero_le (show 0 ≤ n by omega)
    have hm1 : 1 ≤ m := by omega
    have hm2 : m ≤ 16 := by omega
    rw [Int.toNat_natCast]
    clear hn
    have r0 : ∀ o : World, Below (w.alloc (.cells (dv 0 (fun _ => 0) (fun _ => 0)) 30)).heap.size (w.alloc (.cells (dv 0 (fun _ => 0) (fun _ => 0)) 30)) o → rowOk o w.heap.size 33 := fun o h => (below_row h (by simp)).2 ⟨_, _, heap_at _ _ _ rfl, dv_size _ _ _⟩
    have R0 := hide r0; clear r0
    go_enter Try.func27, Try.ntmps27
    go_wp2_with (go_at_call 45; refine (in_yes _ _ _ _ (by omega) (by omega)).mono ?_; rintro e w' ⟨rfl, rfl⟩)
    rw [← dv_zero]
    refine (sTurn_any m hm1 hm2 _).mono ?_
    rintro e w1 ⟨rfl, h1⟩
    have b1 := h1
    go_wp2_with fail
    refine (sTurn_any m hm1 hm2 _).mono ?_
    rintro e w2 ⟨rfl, h2⟩
    have b2 := b1.trans (h2.mono b1.size)
    clear h2 b1
    go_wp2_with fail
    refine (sBack_any (turnF m) m hm2 (fun i hi => turnF_lt hm2 hi) _).mono ?_
    rintro e w3 ⟨rfl, h3⟩
    have b3 := b2.trans (h3.mono b2.size)
    clear h3 b2
    have rr := R0.out _ b3
    go_wp2
    obtain ⟨t, ht, _⟩ := rr.heap
    exact res_agg2 (p := 2) (t := 3) (g := w.heap.size) (v := .int .i64 0) aggD (dv_size _ _ _) rfl rfl rfl rfl (setRow_heap _ _ _ _ t (0, 0) ht) ⟨rfl, below_setRow ((below1 w _).trans (b3.mono (by simp))) (Nat.le_refl _) _⟩
  · have hr : bandR n = .tuple #[.agg (dv 0 (fun _ => 0) (fun _ => 0)), .int .i64 2] := by unfold bandR; rw [if_neg hn]
    rw [hr]
    clear hr
    go_enter Try.func27, Try.ntmps27
    go_wp2_with (go_at_call 45; refine (in_no _ _ _ _ hn).mono ?_; rintro e w' ⟨rfl, rfl⟩)
    exact res_agg2 (p := 2) (t := 3) (g := w.heap.size) (v := .int .i64 2) aggD (dv_size 0 (fun _ => 0) (fun _ => 0)) rfl rfl rfl rfl (heap_at _ _ _ rfl) ⟨rfl, below1 _ _⟩

set_option maxRecDepth 100000 in
set_option maxHeartbeats 400000 in
theorem sStar_any (m : Nat) (hm1 : 1 ≤ m) (hm2 : m ≤ 16) (w : World) : Calls Try.prog 46 #[.int .i64 m] w fun e w' => e = .returned (.agg (dv m (turnF m) (sameF m))) ∧ Below w.heap.size w w' := by
  go_enter Try.func46, Try.ntmps46
  go_wp2_with fail
  rw [← dv_zero]
  refine (sTurn_any m hm1 hm2 _).mono ?_
  rintro e w1 ⟨rfl, b1⟩
  go_wp2_with fail
  refine (sSame_any m hm2 _).mono ?_
  rintro e w2 ⟨rfl, b2⟩
  have b := b1.trans (b2.mono b1.size)
  clear b1 b2
  have rr : rowOk w2 w.heap.size 33 := (below_row b (by simp)).2 ⟨_, _, heap_at _ _ _ rfl, dv_size _ _ _⟩
  go_wp2
  obtain ⟨t, ht, _⟩ := rr.heap
  exact res_agg (p := 2) (g := w.heap.size) aggD (dv_size _ _ _) rfl rfl rfl (setRow_heap _ _ _ _ t (0, 0) ht) ⟨rfl, below_setRow ((below1 w _).trans (b.mono (by simp))) (Nat.le_refl _) _⟩

set_option maxRecDepth 100000 in
set_option maxHeartbeats 400000 in
theorem sStarDessin_any (n : Int) (w : World) : Calls Try.prog 22 #[.int .i64 n] w fun e w' => e = .returned (starR n) ∧ Below w.heap.size w w' := by
  by_cases hn : 1 ≤ n ∧ n ≤ 16
  · have hr : starR n = .tuple #[.agg (dv n (turnF n.toNat) (sameF n.toNat)), .int .i64 0] := by unfold starR; rw [if_pos hn]
    rw [hr]
    clear hr
    obtain ⟨m, rfl⟩ := Int.eq_ofNat_of_zero_le (show 0 ≤ n by omega)
    have hm1 : 1 ≤ m := by omega
    have hm2 : m ≤ 16 := by omega
    rw [Int.toNat_natCast]
    clear hn
    have r0 : ∀ o : World, Below (w.alloc (.cells (dv 0 (fun _ => 0) (fun _ => 0)) 30)).heap.size (w.alloc (.cells (dv 0 (fun _ => 0) (fun _ => 0)) 30)) o → rowOk o w.heap.size 33 := fun o h => (below_row h (by simp)).2 ⟨_, _, heap_at _ _ _ rfl, dv_size _ _ _⟩
    have R0 := hide r0; clear r0
    go_enter Try.func22, Try.ntmps22
    go_wp2_with (go_at_call 45; refine (in_yes _ _ _ _ (by omega) (by omega)).mono ?_; rintro e w' ⟨rfl, rfl⟩)
    rw [← dv_zero]
    refine (sStar_any m hm1 hm2 _).mono ?_
    rintro e w1 ⟨rfl, h1⟩
    have b1 := h1
    have rr := R0.out _ b1
    go_wp2
    obtain ⟨t, ht, _⟩ := rr.heap
    exact res_agg2 (p := 2) (t := 3) (g := w.heap.size) (v := .int .i64 0) aggD (dv_size _ _ _) rfl rfl rfl rfl (setRow_heap _ _ _ _ t (0, 0) ht) ⟨rfl, below_setRow ((below1 w _).trans (b1.mono (by simp))) (Nat.le_refl _) _⟩
  · have hr : starR n = .tuple #[.agg (dv 0 (fun _ => 0) (fun _ => 0)), .int .i64 2] := by unfold starR; rw [if_neg hn]
    rw [hr]
    clear hr
    go_enter Try.func22, Try.ntmps22
    go_wp2_with (go_at_call 45; refine (in_no _ _ _ _ hn).mono ?_; rintro e w' ⟨rfl, rfl⟩)
    exact res_agg2 (p := 2) (t := 3) (g := w.heap.size) (v := .int .i64 2) aggD (dv_size 0 (fun _ => 0) (fun _ => 0)) rfl rfl rfl rfl (heap_at _ _ _ rfl) ⟨rfl, below1 _ _⟩

set_option maxRecDepth 100000 in
set_option maxHeartbeats 400000 in
theorem fnExactStarDessin_walk (n : Int) (_hn : -9223372036854775808 ≤ n ∧ n ≤ 9223372036854775807) (w : World) :
    Calls Try.prog 7 #[.int .i64 n] w fun e w' => e = .returned (.bool true) ∧ Below w.heap.size w w' := by
  clear _hn
  obtain ⟨a, f, g, c, hR⟩ := starR_eq n
  have c1 := fun w => starDessin_any n w
  have c2 := fun w => sStarDessin_any n w
  rw [hR] at c1 c2
  have C1 := hide c1; clear c1
  have C2 := hide c2; clear c2
  clear hR
  have hne : (c != c) = false := by simp
  go_enter Try.func7, Try.ntmps7
  go_wp2_with fail
  refine (C2.out _).mono ?_
  rintro e w1 ⟨rfl, h1⟩
  go_wp2_with fail
  refine (C1.out _).mono ?_
  rintro e w2 ⟨rfl, h2⟩
  have g2 : cellsOf w2 w1.heap.size = dv a f g := (below_cells h2 (by simp)).trans (cellsOf_heap (heap_at _ _ _ rfl))
  have s2 : w1.heap.size < w2.heap.size := by have := h2.size; simp at this; omega
  have s1 := h1.size
  have b2 := (h1.alloc h1.size (.cells (dv a f g) 30)).trans (h2.mono (by simp; omega))
  clear h1 h2
  go_wp2_with fail
  refine (eqDessin_same a f g _).mono ?_
  rintro e w3 ⟨rfl, h3⟩
  have b3 := (b2.alloc (by omega) (.cells (dv a f g) 30)).trans (h3.mono (by simp; omega))
  clear h3 b2 g2
  go_wp2
  go_ret
  exact ⟨rfl, b3⟩

set_option maxRecDepth 100000 in
set_option maxHeartbeats 400000 in
theorem fnExactBandDessin_walk (n : Int) (_hn : -9223372036854775808 ≤ n ∧ n ≤ 9223372036854775807) (w : World) :
    Calls Try.prog 9 #[.int .i64 n] w fun e w' => e = .returned (.bool true) ∧ Below w.heap.size w w' := by
  clear _hn
  obtain ⟨a, f, g, c, hR⟩ := bandR_eq n
  have c1 := fun w => bandDessin_any n w
  have c2 := fun w => sBandDessin_any n w
  rw [hR] at c1 c2
  have C1 := hide c1; clear c1
  have C2 := hide c2; clear c2
  clear hR
  have hne : (c != c) = false := by simp
  go_enter Try.func9, Try.ntmps9
  go_wp2_with fail
  refine (C2.out _).mono ?_
  rintro e w1 ⟨rfl, h1⟩
  go_wp2_with fail
  refine (C1.out _).mono ?_
  rintro e w2 ⟨rfl, h2⟩
  have g2 : cellsOf w2 w1.heap.size = dv a f g := (below_cells h2 (by simp)).trans (cellsOf_heap (heap_at _ _ _ rfl))
  have s2 : w1.heap.size < w2.heap.size := by have := h2.size; simp at this; omega
  have s1 := h1.size
  have b2 := (h1.alloc h1.size (.cells (dv a f g) 30)).trans (h2.mono (by simp; omega))
  clear h1 h2
  go_wp2_with fail
  refine (eqDessin_same a f g _).mono ?_
  rintro e w3 ⟨rfl, h3⟩
  have b3 := (b2.alloc (by omega) (.cells (dv a f g) 30)).trans (h3.mono (by simp; omega))
  clear h3 b2 g2
  go_wp2
  go_ret
  exact ⟨rfl, b3⟩

end Go.Proofs.Ytlgallkddhfdaab