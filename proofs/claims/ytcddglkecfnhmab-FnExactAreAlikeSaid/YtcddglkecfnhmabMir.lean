/- impl.mirror, spec.l07Mirror; MirrorOf of both; the walk of FnExactMirrorOf -/
import Derived.Test.YtcddglkecfnhmabFace
import Derived.Test.YtcddglkecfnhmabToDs
import Derived.Test.YtcddglkecfnhmabHS
import Derived.Test.YtcddglkecfnhmabBld
import Derived.Test.YtcddglkecfnhmabEqDs
namespace Go.Proofs.Ytcddglkecfnhmab
open Go.RowKit

set_option maxRecDepth 100000 in
set_option maxHeartbeats 1000000 in
theorem mirror_any (f g : Nat → Nat) (m : Nat) (hd : DesN f g m) (w : World) :
    Calls Try.prog 34 #[.agg (dv m f g)] w fun e w' => e = .returned (.agg (dv m (backF f m) (backF g m))) ∧ Below w.heap.size w w' := by
  have C1 := hide fun w => undo_any f m hd.le (fun i hi => by have := hd.bf.1 i hi; have := hd.le; omega) w
  have C2 := hide fun w => undo_any g m hd.le (fun i hi => by have := hd.bg.1 i hi; have := hd.le; omega) w
  clear hd
  generalize backF f m = F at *
  generalize backF g m = G at *
  have hn := dv_n m f g
  go_enter Try.func34, Try.ntmps34
  go_wp2
  rw [← dv_zero]
  generalize hW : (w.alloc (.cells (dv m f g) 29)).alloc (.cells (dv 0 (fun _ => 0) (fun _ => 0)) 29) = W
  have c0 : cellsOf W w.heap.size = dv m f g := by rw [← hW]; exact cellsOf_heap (heap1 rfl)
  have r1 : rowOk W (w.heap.size + 1) 33 := by rw [← hW]; exact ⟨_, _, heap_at _ _ _ (by simp), dv_size _ _ _⟩
  have b0 : Below w.heap.size w W := by rw [← hW]; exact below2 _ _ _
  have l0 : w.heap.size < W.heap.size := by rw [← hW]; simp <;> omega
  clear hW
  refine region_tail (Grown W) 13 (by kernel_rfl) (by kernel_rfl) (Grown.drew W) ?_
  simp only [List.take_succ_cons, List.take_zero, List.drop_succ_cons, List.drop_zero]
  apply q_step
  · go_simp
  · intro wx hx
    have e0 := hx.cells c0 l0
    have n0 : wx.cell? ⟨w.heap.size, 0, none⟩ = some (.int .i64 m) := by rw [cell_of_cells, e0]; exact hn
    go_simp
    exact rfl
  apply q_step
  · go_simp
  · intro wx hx
    have e0 := hx.cells c0 l0
    have n0 : wx.cell? ⟨w.heap.size, 0, none⟩ = some (.int .i64 m) := by rw [cell_of_cells, e0]; exact hn
    go_simp
    exact rfl
  apply q_step
  · go_simp
  · intro wx hx
    have e0 := hx.cells c0 l0
    have n0 : wx.cell? ⟨w.heap.size, 0, none⟩ = some (.int .i64 m) := by rw [cell_of_cells, e0]; exact hn
    go_simp
    exact rfl
  apply q_step
  · go_simp
  · intro wx hx
    have e0 := hx.cells c0 l0
    have n0 : wx.cell? ⟨w.heap.size, 0, none⟩ = some (.int .i64 m) := by rw [cell_of_cells, e0]; exact hn
    go_simp
    exact rfl
  apply q_step
  · go_simp
  · intro wx hx
    have e0 := hx.cells c0 l0
    have n0 : wx.cell? ⟨w.heap.size, 0, none⟩ = some (.int .i64 m) := by rw [cell_of_cells, e0]; exact hn
    go_simp
    exact rfl
  apply q_step
  · go_simp
  · intro wx hx
    have e0 := hx.cells c0 l0
    have n0 : wx.cell? ⟨w.heap.size, 0, none⟩ = some (.int .i64 m) := by rw [cell_of_cells, e0]; exact hn
    go_simp
    exact rfl
  apply q_step
  · go_simp
  · intro wx hx
    have e0 := hx.cells c0 l0
    have n0 : wx.cell? ⟨w.heap.size, 0, none⟩ = some (.int .i64 m) := by rw [cell_of_cells, e0]; exact hn
    go_simp
    go_at_call 47
    exact Calls.mono (C1.out wx) fun e w' h => ⟨h.1, hx.call h.2⟩
  apply q_step
  · go_simp
  · intro wx hx
    have e0 := hx.cells c0 l0
    have n0 : wx.cell? ⟨w.heap.size, 0, none⟩ = some (.int .i64 m) := by rw [cell_of_cells, e0]; exact hn
    go_simp
    exact rfl
  apply q_step
  · go_simp
  · intro wx hx
    have e0 := hx.cells c0 l0
    have n0 : wx.cell? ⟨w.heap.size, 0, none⟩ = some (.int .i64 m) := by rw [cell_of_cells, e0]; exact hn
    go_simp
    exact rfl
  apply q_step
  · go_simp
  · intro wx hx
    have e0 := hx.cells c0 l0
    have n0 : wx.cell? ⟨w.heap.size, 0, none⟩ = some (.int .i64 m) := by rw [cell_of_cells, e0]; exact hn
    go_simp
    exact rfl
  apply q_step
  · go_simp
  · intro wx hx
    have e0 := hx.cells c0 l0
    have n0 : wx.cell? ⟨w.heap.size, 0, none⟩ = some (.int .i64 m) := by rw [cell_of_cells, e0]; exact hn
    go_simp
    exact rfl
  apply q_step
  · go_simp
  · intro wx hx
    have e0 := hx.cells c0 l0
    have n0 : wx.cell? ⟨w.heap.size, 0, none⟩ = some (.int .i64 m) := by rw [cell_of_cells, e0]; exact hn
    go_simp
    go_at_call 47
    exact Calls.mono (C2.out wx) fun e w' h => ⟨h.1, hx.call h.2⟩
  apply q_step
  · go_simp
  · intro wx hx
    have e0 := hx.cells c0 l0
    have n0 : wx.cell? ⟨w.heap.size, 0, none⟩ = some (.int .i64 m) := by rw [cell_of_cells, e0]; exact hn
    go_simp
    exact rfl
  refine wpQuiet_nil ?_
  intro w1 hx
  have r2 := hx.row r1
  have b2 : Below w.heap.size w w1 := b0.trans (Below.mono hx b0.size)
  clear c0 r1 b0 l0 hx
  go_wp2
  obtain ⟨t, ht, _⟩ := r2.heap
  exact res_agg (p := 2) (g := w.heap.size + 1) aggD (dv_size _ _ _) rfl rfl rfl (setRow_heap _ _ _ _ t (0, 0) ht) ⟨rfl, below_setRow b2 (by omega) _⟩

set_option maxRecDepth 100000 in
set_option maxHeartbeats 1000000 in
theorem sMirror_any (f g : Nat → Nat) (m : Nat) (hd : DesN f g m) (w : World) :
    Calls Try.prog 33 #[.agg (dv m f g)] w fun e w' => e = .returned (.agg (dv m (backF f m) (backF g m))) ∧ Below w.heap.size w w' := by
  have C1 := hide fun w => sBack_any f m hd.le (fun i hi => by have := hd.bf.1 i hi; have := hd.le; omega) w
  have C2 := hide fun w => sBack_any g m hd.le (fun i hi => by have := hd.bg.1 i hi; have := hd.le; omega) w
  clear hd
  generalize backF f m = F at *
  generalize backF g m = G at *
  have hn := dv_n m f g
  go_enter Try.func33, Try.ntmps33
  go_wp2
  rw [← dv_zero]
  generalize hW : (w.alloc (.cells (dv m f g) 29)).alloc (.cells (dv 0 (fun _ => 0) (fun _ => 0)) 29) = W
  have c0 : cellsOf W w.heap.size = dv m f g := by rw [← hW]; exact cellsOf_heap (heap1 rfl)
  have r1 : rowOk W (w.heap.size + 1) 33 := by rw [← hW]; exact ⟨_, _, heap_at _ _ _ (by simp), dv_size _ _ _⟩
  have b0 : Below w.heap.size w W := by rw [← hW]; exact below2 _ _ _
  have l0 : w.heap.size < W.heap.size := by rw [← hW]; simp <;> omega
  clear hW
  refine region_tail (Grown W) 13 (by kernel_rfl) (by kernel_rfl) (Grown.drew W) ?_
  simp only [List.take_succ_cons, List.take_zero, List.drop_succ_cons, List.drop_zero]
  apply q_step
  · go_simp
  · intro wx hx
    have e0 := hx.cells c0 l0
    have n0 : wx.cell? ⟨w.heap.size, 0, none⟩ = some (.int .i64 m) := by rw [cell_of_cells, e0]; exact hn
    go_simp
    exact rfl
  apply q_step
  · go_simp
  · intro wx hx
    have e0 := hx.cells c0 l0
    have n0 : wx.cell? ⟨w.heap.size, 0, none⟩ = some (.int .i64 m) := by rw [cell_of_cells, e0]; exact hn
    go_simp
    exact rfl
  apply q_step
  · go_simp
  · intro wx hx
    have e0 := hx.cells c0 l0
    have n0 : wx.cell? ⟨w.heap.size, 0, none⟩ = some (.int .i64 m) := by rw [cell_of_cells, e0]; exact hn
    go_simp
    exact rfl
  apply q_step
  · go_simp
  · intro wx hx
    have e0 := hx.cells c0 l0
    have n0 : wx.cell? ⟨w.heap.size, 0, none⟩ = some (.int .i64 m) := by rw [cell_of_cells, e0]; exact hn
    go_simp
    exact rfl
  apply q_step
  · go_simp
  · intro wx hx
    have e0 := hx.cells c0 l0
    have n0 : wx.cell? ⟨w.heap.size, 0, none⟩ = some (.int .i64 m) := by rw [cell_of_cells, e0]; exact hn
    go_simp
    exact rfl
  apply q_step
  · go_simp
  · intro wx hx
    have e0 := hx.cells c0 l0
    have n0 : wx.cell? ⟨w.heap.size, 0, none⟩ = some (.int .i64 m) := by rw [cell_of_cells, e0]; exact hn
    go_simp
    exact rfl
  apply q_step
  · go_simp
  · intro wx hx
    have e0 := hx.cells c0 l0
    have n0 : wx.cell? ⟨w.heap.size, 0, none⟩ = some (.int .i64 m) := by rw [cell_of_cells, e0]; exact hn
    go_simp
    go_at_call 45
    exact Calls.mono (C1.out wx) fun e w' h => ⟨h.1, hx.call h.2⟩
  apply q_step
  · go_simp
  · intro wx hx
    have e0 := hx.cells c0 l0
    have n0 : wx.cell? ⟨w.heap.size, 0, none⟩ = some (.int .i64 m) := by rw [cell_of_cells, e0]; exact hn
    go_simp
    exact rfl
  apply q_step
  · go_simp
  · intro wx hx
    have e0 := hx.cells c0 l0
    have n0 : wx.cell? ⟨w.heap.size, 0, none⟩ = some (.int .i64 m) := by rw [cell_of_cells, e0]; exact hn
    go_simp
    exact rfl
  apply q_step
  · go_simp
  · intro wx hx
    have e0 := hx.cells c0 l0
    have n0 : wx.cell? ⟨w.heap.size, 0, none⟩ = some (.int .i64 m) := by rw [cell_of_cells, e0]; exact hn
    go_simp
    exact rfl
  apply q_step
  · go_simp
  · intro wx hx
    have e0 := hx.cells c0 l0
    have n0 : wx.cell? ⟨w.heap.size, 0, none⟩ = some (.int .i64 m) := by rw [cell_of_cells, e0]; exact hn
    go_simp
    exact rfl
  apply q_step
  · go_simp
  · intro wx hx
    have e0 := hx.cells c0 l0
    have n0 : wx.cell? ⟨w.heap.size, 0, none⟩ = some (.int .i64 m) := by rw [cell_of_cells, e0]; exact hn
    go_simp
    go_at_call 45
    exact Calls.mono (C2.out wx) fun e w' h => ⟨h.1, hx.call h.2⟩
  apply q_step
  · go_simp
  · intro wx hx
    have e0 := hx.cells c0 l0
    have n0 : wx.cell? ⟨w.heap.size, 0, none⟩ = some (.int .i64 m) := by rw [cell_of_cells, e0]; exact hn
    go_simp
    exact rfl
  refine wpQuiet_nil ?_
  intro w1 hx
  have r2 := hx.row r1
  have b2 : Below w.heap.size w w1 := b0.trans (Below.mono hx b0.size)
  clear c0 r1 b0 l0 hx
  go_wp2
  obtain ⟨t, ht, _⟩ := r2.heap
  exact res_agg (p := 2) (g := w.heap.size + 1) aggD (dv_size _ _ _) rfl rfl rfl (setRow_heap _ _ _ _ t (0, 0) ht) ⟨rfl, below_setRow b2 (by omega) _⟩

noncomputable def mirR (n : Int) (f g : Nat → Nat) : Value := if desB n f g = true then .tuple #[.agg (dv n (backF f n.toNat) (backF g n.toNat)), .int .i64 0] else .tuple #[.agg (dv 0 (fun _ => 0) (fun _ => 0)), .int .i64 1]
theorem mirR_eq (n : Int) (f g : Nat → Nat) : ∃ (a : Int) (r s : Nat → Nat) (c : Int), mirR n f g = .tuple #[.agg (dv a r s), .int .i64 c] := by
  unfold mirR; split
  · exact ⟨_, _, _, _, rfl⟩
  · exact ⟨_, _, _, _, rfl⟩

set_option maxRecDepth 100000 in
set_option maxHeartbeats 1000000 in
theorem mirrorOf_any (n : Int) (f g : Nat → Nat) (hf : ∀ i, f i < 256) (hg : ∀ i, g i < 256) (w : World) :
    Calls Try.prog 16 #[.agg (dv n f g)] w fun e w' => e = .returned (mirR n f g) ∧ Below w.heap.size w w' := by
  have C1 := hide fun w => isDessin_any n f g hf hg w
  clear hf hg
  rcases h1 : desB n f g with _ | _
  · rw [h1] at C1
    have hr : mirR n f g = .tuple #[.agg (dv 0 (fun _ => 0) (fun _ => 0)), .int .i64 1] := by unfold mirR; rw [if_neg (by simp [h1])]
    rw [hr]
    clear h1 hr
    go_enter Try.func16, Try.ntmps16
    go_wp2_with fail
    rw [← dv_zero]
    refine (C1.out _).mono ?_
    rintro e w1 ⟨rfl, hb⟩
    have r1 : rowOk w1 (w.heap.size + 1) 33 := (below_row hb (by simp)).2 ⟨_, _, heap_at _ _ _ (by simp), dv_size _ _ _⟩
    have b1 := (below2 w (.cells (dv n f g) 29) (.cells (dv 0 (fun _ => 0) (fun _ => 0)) 29)).trans (hb.mono (by simp <;> omega))
    clear hb
    go_wp2
    obtain ⟨t, ht, _⟩ := r1.heap
    exact res_agg2 (p := 2) (t := 3) (g := w.heap.size + 1) (v := .int .i64 1) aggD (dv_size _ _ _) rfl rfl rfl rfl (setRow_heap _ _ _ _ t (0, 0) ht) ⟨rfl, below_setRow b1 (by omega) _⟩
  · rw [h1] at C1
    obtain ⟨m, rfl, hd⟩ := desB_true h1
    have hr : mirR (m : Int) f g = .tuple #[.agg (dv m (backF f m) (backF g m)), .int .i64 0] := by unfold mirR; rw [if_pos h1, Int.toNat_natCast]
    rw [hr]
    have C2 := hide fun w => mirror_any f g m hd w
    generalize backF f m = F at *
    generalize backF g m = G at *
    clear h1 hr hd
    go_enter Try.func16, Try.ntmps16
    go_wp2_with fail
    rw [← dv_zero]
    refine (C1.out _).mono ?_
    rintro e w1 ⟨rfl, hb⟩
    have c1 : cellsOf w1 w.heap.size = dv m f g := (below_cells hb (by simp <;> omega)).trans (cellsOf_heap (heap1 rfl))
    have r1 : rowOk w1 (w.heap.size + 1) 33 := (below_row hb (by simp)).2 ⟨_, _, heap_at _ _ _ (by simp), dv_size _ _ _⟩
    have b1 := (below2 w (.cells (dv m f g) 29) (.cells (dv 0 (fun _ => 0) (fun _ => 0)) 29)).trans (hb.mono (by simp <;> omega))
    clear hb
    go_wp2_with fail
    refine (C2.out _).mono ?_
    rintro e w2 ⟨rfl, hb⟩
    have r2 := (below_row hb r1.lt).2 r1
    have b2 := b1.trans (hb.mono b1.size)
    clear hb b1 c1 r1
    go_wp2
    obtain ⟨t, ht, _⟩ := r2.heap
    exact res_agg2 (p := 2) (t := 3) (g := w.heap.size + 1) (v := .int .i64 0) aggD (dv_size _ _ _) rfl rfl rfl rfl (setRow_heap _ _ _ _ t (0, 0) ht) ⟨rfl, below_setRow b2 (by omega) _⟩

set_option maxRecDepth 100000 in
set_option maxHeartbeats 1000000 in
theorem sMirrorOf_any (n : Int) (f g : Nat → Nat) (hf : ∀ i, f i < 256) (hg : ∀ i, g i < 256) (w : World) :
    Calls Try.prog 15 #[.agg (dv n f g)] w fun e w' => e = .returned (mirR n f g) ∧ Below w.heap.size w w' := by
  have C1 := hide fun w => sIs_any n f g hf hg w
  clear hf hg
  rcases h1 : desB n f g with _ | _
  · rw [h1] at C1
    have hr : mirR n f g = .tuple #[.agg (dv 0 (fun _ => 0) (fun _ => 0)), .int .i64 1] := by unfold mirR; rw [if_neg (by simp [h1])]
    rw [hr]
    clear h1 hr
    go_enter Try.func15, Try.ntmps15
    go_wp2_with fail
    rw [← dv_zero]
    refine (C1.out _).mono ?_
    rintro e w1 ⟨rfl, hb⟩
    have r1 : rowOk w1 (w.heap.size + 1) 33 := (below_row hb (by simp)).2 ⟨_, _, heap_at _ _ _ (by simp), dv_size _ _ _⟩
    have b1 := (below2 w (.cells (dv n f g) 29) (.cells (dv 0 (fun _ => 0) (fun _ => 0)) 29)).trans (hb.mono (by simp <;> omega))
    clear hb
    go_wp2
    obtain ⟨t, ht, _⟩ := r1.heap
    exact res_agg2 (p := 2) (t := 3) (g := w.heap.size + 1) (v := .int .i64 1) aggD (dv_size _ _ _) rfl rfl rfl rfl (setRow_heap _ _ _ _ t (0, 0) ht) ⟨rfl, below_setRow b1 (by omega) _⟩
  · rw [h1] at C1
    obtain ⟨m, rfl, hd⟩ := desB_true h1
    have hr : mirR (m : Int) f g = .tuple #[.agg (dv m (backF f m) (backF g m)), .int .i64 0] := by unfold mirR; rw [if_pos h1, Int.toNat_natCast]
    rw [hr]
    have C2 := hide fun w => sMirror_any f g m hd w
    generalize backF f m = F at *
    generalize backF g m = G at *
    clear h1 hr hd
    go_enter Try.func15, Try.ntmps15
    go_wp2_with fail
    rw [← dv_zero]
    refine (C1.out _).mono ?_
    rintro e w1 ⟨rfl, hb⟩
    have c1 : cellsOf w1 w.heap.size = dv m f g := (below_cells hb (by simp <;> omega)).trans (cellsOf_heap (heap1 rfl))
    have r1 : rowOk w1 (w.heap.size + 1) 33 := (below_row hb (by simp)).2 ⟨_, _, heap_at _ _ _ (by simp), dv_size _ _ _⟩
    have b1 := (below2 w (.cells (dv m f g) 29) (.cells (dv 0 (fun _ => 0) (fun _ => 0)) 29)).trans (hb.mono (by simp <;> omega))
    clear hb
    go_wp2_with fail
    refine (C2.out _).mono ?_
    rintro e w2 ⟨rfl, hb⟩
    have r2 := (below_row hb r1.lt).2 r1
    have b2 := b1.trans (hb.mono b1.size)
    clear hb b1 c1 r1
    go_wp2
    obtain ⟨t, ht, _⟩ := r2.heap
    exact res_agg2 (p := 2) (t := 3) (g := w.heap.size + 1) (v := .int .i64 0) aggD (dv_size _ _ _) rfl rfl rfl rfl (setRow_heap _ _ _ _ t (0, 0) ht) ⟨rfl, below_setRow b2 (by omega) _⟩

set_option maxRecDepth 100000 in
set_option maxHeartbeats 1000000 in
theorem fnExactMirrorOf_walk (n : Int) (f g : Nat → Nat) (_hn : -9223372036854775808 ≤ n ∧ n ≤ 9223372036854775807) (hf : ∀ i, f i < 256) (hg : ∀ i, g i < 256) (w : World) :
    Calls Try.prog 5 #[.agg (dv n f g)] w fun e w' => e = .returned (.bool true) ∧ Below w.heap.size w w' := by
  clear _hn
  obtain ⟨a, r, s, c, hR⟩ := mirR_eq n f g
  have c1 := fun w => mirrorOf_any n f g hf hg w
  have c2 := fun w => sMirrorOf_any n f g hf hg w
  rw [hR] at c1 c2
  have C1 := hide c1; clear c1
  have C2 := hide c2; clear c2
  clear hR hf hg
  have hne : (c != c) = false := by simp
  go_enter Try.func5, Try.ntmps5
  go_wp2_with fail
  refine (toDessin_any n f g _).mono ?_
  rintro e w1 ⟨rfl, h1⟩
  go_wp2_with fail
  refine (C2.out _).mono ?_
  rintro e w2 ⟨rfl, h2⟩
  have b2 := (below1 w (.cells (dv n f g) 24)).trans ((h1.trans (h2.mono h1.size)).mono (by simp))
  have s2 : w.heap.size < w2.heap.size := by have := (h1.trans (h2.mono h1.size)).size; simp at this; omega
  have g2 : cellsOf w2 w.heap.size = dv n f g := (below_cells (h1.trans (h2.mono h1.size)) (by simp)).trans (cellsOf_heap (heap_at _ _ _ rfl))
  clear h1 h2
  go_wp2_with fail
  refine (toDessin_any n f g _).mono ?_
  rintro e w3 ⟨rfl, h3⟩
  go_wp2_with fail
  refine (C1.out _).mono ?_
  rintro e w4 ⟨rfl, h4⟩
  have h34 := h3.trans (h4.mono h3.size)
  have g4 : cellsOf w4 w2.heap.size = dv a r s := (below_cells h34 (by simp)).trans (cellsOf_heap (heap_at _ _ _ rfl))
  have s4 : w2.heap.size < w4.heap.size := by have := h34.size; simp at this; omega
  have b4 := (b2.alloc (by omega) (.cells (dv a r s) 29)).trans (h34.mono (by simp <;> omega))
  clear h3 h4 h34 b2 g2
  go_wp2_with fail
  refine (eqDessin_same a r s _).mono ?_
  rintro e w5 ⟨rfl, h5⟩
  have b5 := (b4.alloc (by omega) (.cells (dv a r s) 29)).trans (h5.mono (by simp <;> omega))
  clear h5 b4 g4
  go_wp2
  go_ret
  exact ⟨rfl, b5⟩

end Go.Proofs.Ytcddglkecfnhmab

