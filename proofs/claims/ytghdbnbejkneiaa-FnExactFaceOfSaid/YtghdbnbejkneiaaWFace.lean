/- FaceOf of the program and of the model, the walk of its law; the walk of FnExactIsDessin -/
import Derived.Test.YtghdbnbejkneiaaFace
import Derived.Test.YtghdbnbejkneiaaToDs
namespace Go.Proofs.Ytghdbnbejkneiaa
open Go.RowKit

noncomputable def faceR (n : Int) (f g : Nat → Nat) : Value := if desB n f g = true then .tuple #[.agg (av (faceF f g n.toNat)), .int .i64 0] else .tuple #[.agg (av fun _ => 0), .int .i64 1]
theorem faceR_eq (n : Int) (f g : Nat → Nat) : ∃ (r : Nat → Nat) (c : Int), faceR n f g = .tuple #[.agg (av r), .int .i64 c] := by
  unfold faceR; split
  · exact ⟨_, _, rfl⟩
  · exact ⟨_, _, rfl⟩

set_option maxRecDepth 100000 in
set_option maxHeartbeats 1000000 in
theorem faceOf_any (n : Int) (f g : Nat → Nat) (hf : ∀ i, f i < 256) (hg : ∀ i, g i < 256) (w : World) :
    Calls Try.prog 28 #[.agg (dv n f g)] w fun e w' => e = .returned (faceR n f g) ∧ Below w.heap.size w w' := by
  have C1 := hide fun w => isDessin_any n f g hf hg w
  clear hf hg
  rcases h1 : desB n f g with _ | _
  · rw [h1] at C1
    have hr : faceR n f g = .tuple #[.agg (av fun _ => 0), .int .i64 1] := by unfold faceR; rw [if_neg (by simp [h1])]
    rw [hr]
    clear h1 hr
    go_enter Try.func28, Try.ntmps28
    go_wp2_with fail
    rw [← av_zero]
    refine (C1.out _).mono ?_
    rintro e w1 ⟨rfl, hb⟩
    have r1 : rowOk w1 (w.heap.size + 1) 16 := (below_row hb (by simp)).2 ⟨_, _, heap_at _ _ _ (by simp), av_size _⟩
    go_wp2
    rw [← av_zero]
    obtain ⟨t, ht, _⟩ := r1.heap
    exact res_agg2 (p := 2) (t := 3) (g := w.heap.size + 1) (v := .int .i64 1) aggP (av_size fun _ => 0) rfl rfl rfl rfl (setRow_heap _ _ _ _ t (0, 0) ht) ⟨rfl, below_setRow ((below2 w _ _).trans (hb.mono (by simp <;> omega))) (by omega) _⟩
  · rw [h1] at C1
    obtain ⟨m, rfl, hd⟩ := desB_true h1
    have hr : faceR (m : Int) f g = .tuple #[.agg (av (faceF f g m)), .int .i64 0] := by unfold faceR; rw [if_pos h1, Int.toNat_natCast]
    rw [hr]
    have C2 := hide fun w => face_any f g m hd.le hd.bf.1 hd.bg.1 w
    generalize faceF f g m = F at *
    clear h1 hr hd
    go_enter Try.func28, Try.ntmps28
    go_wp2_with fail
    rw [← av_zero]
    refine (C1.out _).mono ?_
    rintro e w1 ⟨rfl, hb⟩
    have r1 : rowOk w1 (w.heap.size + 1) 16 := (below_row hb (by simp)).2 ⟨_, _, heap_at _ _ _ (by simp), av_size _⟩
    have c1 : cellsOf w1 w.heap.size = dv m f g := (below_cells hb (by simp <;> omega)).trans (cellsOf_heap (heap1 rfl))
    have b1 := (below2 w (.cells (dv m f g) 39) (.cells (av fun _ => 0) 23)).trans (hb.mono (by simp <;> omega))
    clear hb
    go_wp2_with fail
    refine (C2.out _).mono ?_
    rintro e w2 ⟨rfl, hb⟩
    have r2 : rowOk w2 (w.heap.size + 1) 16 := (below_row hb r1.lt).2 r1
    have b2 := b1.trans (hb.mono b1.size)
    clear hb b1 c1 r1
    go_wp2
    obtain ⟨t, ht, _⟩ := r2.heap
    exact res_agg2 (p := 2) (t := 3) (g := w.heap.size + 1) (v := .int .i64 0) aggP (av_size F) rfl rfl rfl rfl (setRow_heap _ _ _ _ t (0, 0) ht) ⟨rfl, below_setRow b2 (by omega) _⟩

set_option maxRecDepth 100000 in
set_option maxHeartbeats 1000000 in
theorem sFaceOf_any (n : Int) (f g : Nat → Nat) (hf : ∀ i, f i < 256) (hg : ∀ i, g i < 256) (w : World) :
    Calls Try.prog 27 #[.agg (dv n f g)] w fun e w' => e = .returned (faceR n f g) ∧ Below w.heap.size w w' := by
  have C1 := hide fun w => sIs_any n f g hf hg w
  clear hf hg
  rcases h1 : desB n f g with _ | _
  · rw [h1] at C1
    have hr : faceR n f g = .tuple #[.agg (av fun _ => 0), .int .i64 1] := by unfold faceR; rw [if_neg (by simp [h1])]
    rw [hr]
    clear h1 hr
    go_enter Try.func27, Try.ntmps27
    go_wp2_with fail
    rw [← av_zero]
    refine (C1.out _).mono ?_
    rintro e w1 ⟨rfl, hb⟩
    have r1 : rowOk w1 (w.heap.size + 1) 16 := (below_row hb (by simp)).2 ⟨_, _, heap_at _ _ _ (by simp), av_size _⟩
    go_wp2
    rw [← av_zero]
    obtain ⟨t, ht, _⟩ := r1.heap
    exact res_agg2 (p := 2) (t := 3) (g := w.heap.size + 1) (v := .int .i64 1) aggP (av_size fun _ => 0) rfl rfl rfl rfl (setRow_heap _ _ _ _ t (0, 0) ht) ⟨rfl, below_setRow ((below2 w _ _).trans (hb.mono (by simp <;> omega))) (by omega) _⟩
  · rw [h1] at C1
    obtain ⟨m, rfl, hd⟩ := desB_true h1
    have hr : faceR (m : Int) f g = .tuple #[.agg (av (faceF f g m)), .int .i64 0] := by unfold faceR; rw [if_pos h1, Int.toNat_natCast]
    rw [hr]
    have C2 := hide fun w => sFace_any f g m hd.le hd.bf.1 hd.bg.1 w
    generalize faceF f g m = F at *
    clear h1 hr hd
    go_enter Try.func27, Try.ntmps27
    go_wp2_with fail
    rw [← av_zero]
    refine (C1.out _).mono ?_
    rintro e w1 ⟨rfl, hb⟩
    have r1 : rowOk w1 (w.heap.size + 1) 16 := (below_row hb (by simp)).2 ⟨_, _, heap_at _ _ _ (by simp), av_size _⟩
    have c1 : cellsOf w1 w.heap.size = dv m f g := (below_cells hb (by simp <;> omega)).trans (cellsOf_heap (heap1 rfl))
    have b1 := (below2 w (.cells (dv m f g) 39) (.cells (av fun _ => 0) 23)).trans (hb.mono (by simp <;> omega))
    clear hb
    go_wp2_with fail
    refine (C2.out _).mono ?_
    rintro e w2 ⟨rfl, hb⟩
    have r2 : rowOk w2 (w.heap.size + 1) 16 := (below_row hb r1.lt).2 r1
    have b2 := b1.trans (hb.mono b1.size)
    clear hb b1 c1 r1
    go_wp2
    obtain ⟨t, ht, _⟩ := r2.heap
    exact res_agg2 (p := 2) (t := 3) (g := w.heap.size + 1) (v := .int .i64 0) aggP (av_size F) rfl rfl rfl rfl (setRow_heap _ _ _ _ t (0, 0) ht) ⟨rfl, below_setRow b2 (by omega) _⟩

set_option maxRecDepth 100000 in
set_option maxHeartbeats 1000000 in
theorem fnExactFaceOf_walk (n : Int) (f g : Nat → Nat) (_hn : -9223372036854775808 ≤ n ∧ n ≤ 9223372036854775807) (hf : ∀ i, f i < 256) (hg : ∀ i, g i < 256) (w : World) :
    Calls Try.prog 6 #[.agg (dv n f g)] w fun e w' => e = .returned (.bool true) ∧ Below w.heap.size w w' := by
  clear _hn
  obtain ⟨r, c, hR⟩ := faceR_eq n f g
  have c1 := fun w => faceOf_any n f g hf hg w
  have c2 := fun w => sFaceOf_any n f g hf hg w
  rw [hR] at c1 c2
  have C1 := hide c1; clear c1
  have C2 := hide c2; clear c2
  clear hR hf hg
  have hne : (c != c) = false := by simp
  go_enter Try.func6, Try.ntmps6
  go_wp2_with fail
  refine (toDessin_any n f g _).mono ?_
  rintro e w1 ⟨rfl, h1⟩
  go_wp2_with fail
  refine (C2.out _).mono ?_
  rintro e w2 ⟨rfl, h2⟩
  have b2 := (below1 w (.cells (dv n f g) 36)).trans ((h1.trans (h2.mono h1.size)).mono (by simp))
  have s2 : w.heap.size < w2.heap.size := by have := (h1.trans (h2.mono h1.size)).size; simp at this; omega
  have g2 : cellsOf w2 w.heap.size = dv n f g := (below_cells (h1.trans (h2.mono h1.size)) (by simp)).trans (cellsOf_heap (heap_at _ _ _ rfl))
  clear h1 h2
  go_wp2_with fail
  refine (toDessin_any n f g _).mono ?_
  rintro e w3 ⟨rfl, h3⟩
  go_wp2_with fail
  refine (C1.out _).mono ?_
  rintro e w4 ⟨rfl, h4⟩
  have h34 := h3.trans (h4.mono h3.size)
  have g4 : cellsOf w4 w2.heap.size = av r := (below_cells h34 (by simp)).trans (cellsOf_heap (heap_at _ _ _ rfl))
  have s4 : w2.heap.size < w4.heap.size := by have := h34.size; simp at this; omega
  have b4 := (b2.alloc (by omega) (.cells (av r) 23)).trans (h34.mono (by simp <;> omega))
  clear h3 h4 h34 b2 g2
  go_wp2_with fail
  refine (eqPlaces_same r _).mono ?_
  rintro e w5 ⟨rfl, h5⟩
  have b5 := (b4.alloc (by omega) (.cells (av r) 23)).trans (h5.mono (by simp <;> omega))
  clear h5 b4 g4
  go_wp2
  go_ret
  exact ⟨rfl, b5⟩

set_option maxRecDepth 100000 in
set_option maxHeartbeats 1000000 in
theorem sIsDessin_any (n : Int) (f g : Nat → Nat) (hf : ∀ i, f i < 256) (hg : ∀ i, g i < 256) (w : World) :
    Calls Try.prog 24 #[.agg (dv n f g)] w fun e w' => e = .returned (.bool (desB n f g)) ∧ Below w.heap.size w w' := by
  have C1 := hide fun w => sIs_any n f g hf hg w
  clear hf hg
  generalize desB n f g = B at *
  go_enter Try.func24, Try.ntmps24
  go_wp2_with fail
  refine (C1.out _).mono ?_
  rintro e w1 ⟨rfl, hb⟩
  have b1 := (below1 w _).trans (hb.mono (by simp))
  clear hb
  go_wp2
  go_ret
  exact ⟨rfl, b1⟩

set_option maxRecDepth 100000 in
set_option maxHeartbeats 1000000 in
theorem fnExactIsDessin_walk (n : Int) (f g : Nat → Nat) (_hn : -9223372036854775808 ≤ n ∧ n ≤ 9223372036854775807) (hf : ∀ i, f i < 256) (hg : ∀ i, g i < 256) (w : World) :
    Calls Try.prog 5 #[.agg (dv n f g)] w fun e w' => e = .returned (.bool true) ∧ Below w.heap.size w w' := by
  clear _hn
  have C1 := hide fun w => isDessin_any n f g hf hg w
  have C2 := hide fun w => sIsDessin_any n f g hf hg w
  clear hf hg
  generalize desB n f g = B at *
  have hne : (B != B) = false := by simp
  go_enter Try.func5, Try.ntmps5
  go_wp2_with fail
  refine (toDessin_any n f g _).mono ?_
  rintro e w1 ⟨rfl, h1⟩
  go_wp2_with fail
  refine (C2.out _).mono ?_
  rintro e w2 ⟨rfl, h2⟩
  have b2 := (below1 w (.cells (dv n f g) 36)).trans ((h1.trans (h2.mono h1.size)).mono (by simp))
  have g2 : cellsOf w2 w.heap.size = dv n f g := (below_cells (h1.trans (h2.mono h1.size)) (by simp)).trans (cellsOf_heap (heap_at _ _ _ rfl))
  clear h1 h2
  go_wp2_with fail
  refine (toDessin_any n f g _).mono ?_
  rintro e w3 ⟨rfl, h3⟩
  go_wp2_with fail
  refine (C1.out _).mono ?_
  rintro e w4 ⟨rfl, h4⟩
  have b4 := b2.trans ((h3.trans (h4.mono h3.size)).mono b2.size)
  clear h3 h4 b2 g2
  go_wp2
  go_ret
  exact ⟨rfl, b4⟩

end Go.Proofs.Ytghdbnbejkneiaa
