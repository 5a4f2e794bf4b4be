/- RenameDessin of the program and of the model; the walk of FnExactRenameDessin -/
import Derived.Test.YteeideminlcblaaPF
import Derived.Test.YteeideminlcblaaBld
import Derived.Test.YteeideminlcblaaCell
import Derived.Test.YteeideminlcblaaToDs
import Derived.Test.YteeideminlcblaaToPl
import Derived.Test.YteeideminlcblaaReg
namespace Go.Proofs.Yteeideminlcblaa
open Go.RowKit

def renF (p f : Nat → Nat) (m : Nat) : Nat → Nat := thenF (thenF (backF p m) f m) p m
def renTo (p f : Nat → Nat) : Nat → Nat → Nat
  | 0 => fun _ => 0
  | k + 1 => fset (renTo p f k) (p k) (p (f k))
theorem renTo_at {p f : Nat → Nat} {n : Nat} (h : Bij p n) : ∀ k, k ≤ n → ∀ x, x < k → renTo p f k (p x) = p (f x) := by
  intro k
  induction k with
  | zero => intro _ x hx; omega
  | succ k ih =>
    intro hk x hx
    show fset (renTo p f k) (p k) (p (f k)) (p x) = p (f x)
    unfold fset
    by_cases c : p x = p k
    · rw [if_pos c, h.2 x k (by omega) (by omega) c]
    · rw [if_neg c]
      by_cases d : x = k
      · subst d; exact absurd rfl c
      · exact ih (by omega) x (by omega)
theorem renTo_none {p f : Nat → Nat} {y : Nat} : ∀ k, (∀ x, x < k → p x ≠ y) → renTo p f k y = 0 := by
  intro k
  induction k with
  | zero => intro _; rfl
  | succ k ih =>
    intro h
    show fset (renTo p f k) (p k) (p (f k)) y = 0
    unfold fset
    rw [if_neg (fun e => h k (by omega) e.symm)]
    exact ih fun x hx => h x (by omega)
theorem renF_at {p f : Nat → Nat} {m x : Nat} (h : Bij p m) (hx : x < m) : renF p f m (p x) = p (f x) := by
  unfold renF
  rw [thenF_at (h.1 x hx), thenF_at (h.1 x hx), backF_at h hx]
theorem renTo_eq {p f : Nat → Nat} {m : Nat} (h : Bij p m) : renTo p f m = renF p f m := by
  funext y
  rcases Nat.lt_or_ge y m with c | c
  · obtain ⟨x, hx, rfl⟩ := h.onto c
    rw [renTo_at h m (Nat.le_refl m) x hx, renF_at h hx]
  · rw [renTo_none m fun x hx e => by have := h.1 x hx; omega]
    unfold renF
    rw [thenF_out c]
theorem renF_perm {p f : Nat → Nat} {m : Nat} (hp : PermN p m) (hf : PermN f m) : PermN (renF p f m) m := thenF_perm (thenF_perm (backF_perm hp) hf) hp

set_option maxRecDepth 100000 in
set_option maxHeartbeats 1000000 in
theorem rename_any (f g p : Nat → Nat) (m : Nat) (hf : PermN f m) (hg : PermN g m) (hp : PermN p m) (w : World) :
    Calls Try.prog 54 #[.agg (dv m f g), .agg (av p)] w fun e w' => e = .returned (.agg (dv m (renF p f m) (renF p g m))) ∧ Below w.heap.size w w' := by
  have lt : ∀ {q : Nat → Nat}, PermN q m → ∀ i, i < m → q i < 16 := fun h i hi => h.lt i (by have := h.2.1; omega)
  have C0 := hide fun w => undo_any p m hp.2.1 (lt hp) w
  have C1 := hide fun w => follow_any (backF p m) f m hp.2.1 (lt (backF_perm hp)) w
  have C2 := hide fun w => follow_any (thenF (backF p m) f m) p m hp.2.1 (lt (thenF_perm (backF_perm hp) hf)) w
  have C3 := hide fun w => follow_any (backF p m) g m hp.2.1 (lt (backF_perm hp)) w
  have C4 := hide fun w => follow_any (thenF (backF p m) g m) p m hp.2.1 (lt (thenF_perm (backF_perm hp) hg)) w
  have e1 : renF p f m = thenF (thenF (backF p m) f m) p m := rfl
  have e2 : renF p g m = thenF (thenF (backF p m) g m) p m := rfl
  rw [e1, e2]
  generalize thenF (thenF (backF p m) f m) p m = F at *
  generalize thenF (thenF (backF p m) g m) p m = G at *
  generalize thenF (backF p m) f m = F1 at *
  generalize thenF (backF p m) g m = G1 at *
  generalize backF p m = B at *
  clear hf hg hp e1 e2 lt
  have hn := dv_n m f g
  go_enter Try.func54, Try.ntmps54
  go_wp2_with fail
  rw [← dv_zero]
  refine (C0.out _).mono ?_
  rintro e w1 ⟨rfl, hb⟩
  have c1 : cellsOf w1 w.heap.size = dv m f g := (below_cells hb (by simp <;> omega)).trans (cellsOf_heap (heap2 rfl))
  have d1 : cellsOf w1 (w.heap.size + 1) = av p := (below_cells hb (by simp <;> omega)).trans (cellsOf_heap (heap1 (by simp)))
  have r1 : rowOk w1 (w.heap.size + 2) 33 := (below_row hb (by simp)).2 ⟨_, _, heap_at _ _ _ (by simp), dv_size _ _ _⟩
  have b1 := (below3 w (.cells (dv m f g) 36) (.cells (av p) 34) (.cells (dv 0 (fun _ => 0) (fun _ => 0)) 36)).trans (hb.mono (by simp <;> omega))
  have l2 := r1.lt
  clear hb
  go_wp2
  generalize hW : w1.alloc _ = W
  have c0 : cellsOf W w.heap.size = dv m f g := by rw [← hW, cellsOf_past (by omega)]; exact c1
  have d0 : cellsOf W (w.heap.size + 1) = av p := by rw [← hW, cellsOf_past (by omega)]; exact d1
  have x0 : cellsOf W w1.heap.size = av B := by rw [← hW]; exact cellsOf_heap (heap_at _ _ _ rfl)
  have r0 : rowOk W (w.heap.size + 2) 33 := by rw [← hW]; exact (rowOk_past l2).2 r1
  have b0 : Below w.heap.size w W := by rw [← hW]; exact b1.alloc (by omega) _
  have l0 : w1.heap.size < W.heap.size := by rw [← hW]; simp
  clear hW c1 d1 r1 b1
  refine region_tail (Grown W) 23 (by kernel_rfl) (by kernel_rfl) (Grown.drew W) ?_
  simp only [List.take_succ_cons, List.take_zero, List.drop_succ_cons, List.drop_zero]
  apply q_step
  · go_simp
  · intro wx hx
    have e0 := hx.cells c0 (by omega)
    have y0 := hx.cells d0 (by omega)
    have z0 := hx.cells x0 l0
    have n0 : wx.cell? ⟨w.heap.size, 0, none⟩ = some (.int .i64 m) := by rw [cell_of_cells, e0]; exact hn
    go_simp
    exact rfl
  apply q_step
  · go_simp
  · intro wx hx
    have e0 := hx.cells c0 (by omega)
    have y0 := hx.cells d0 (by omega)
    have z0 := hx.cells x0 l0
    have n0 : wx.cell? ⟨w.heap.size, 0, none⟩ = some (.int .i64 m) := by rw [cell_of_cells, e0]; exact hn
    go_simp
    exact rfl
  apply q_step
  · go_simp
  · intro wx hx
    have e0 := hx.cells c0 (by omega)
    have y0 := hx.cells d0 (by omega)
    have z0 := hx.cells x0 l0
    have n0 : wx.cell? ⟨w.heap.size, 0, none⟩ = some (.int .i64 m) := by rw [cell_of_cells, e0]; exact hn
    go_simp
    exact rfl
  apply q_step
  · go_simp
  · intro wx hx
    have e0 := hx.cells c0 (by omega)
    have y0 := hx.cells d0 (by omega)
    have z0 := hx.cells x0 l0
    have n0 : wx.cell? ⟨w.heap.size, 0, none⟩ = some (.int .i64 m) := by rw [cell_of_cells, e0]; exact hn
    go_simp
    exact rfl
  apply q_step
  · go_simp
  · intro wx hx
    have e0 := hx.cells c0 (by omega)
    have y0 := hx.cells d0 (by omega)
    have z0 := hx.cells x0 l0
    have n0 : wx.cell? ⟨w.heap.size, 0, none⟩ = some (.int .i64 m) := by rw [cell_of_cells, e0]; exact hn
    go_simp
    exact rfl
  apply q_step
  · go_simp
  · intro wx hx
    have e0 := hx.cells c0 (by omega)
    have y0 := hx.cells d0 (by omega)
    have z0 := hx.cells x0 l0
    have n0 : wx.cell? ⟨w.heap.size, 0, none⟩ = some (.int .i64 m) := by rw [cell_of_cells, e0]; exact hn
    go_simp
    exact rfl
  apply q_step
  · go_simp
  · intro wx hx
    have e0 := hx.cells c0 (by omega)
    have y0 := hx.cells d0 (by omega)
    have z0 := hx.cells x0 l0
    have n0 : wx.cell? ⟨w.heap.size, 0, none⟩ = some (.int .i64 m) := by rw [cell_of_cells, e0]; exact hn
    go_simp
    exact rfl
  apply q_step
  · go_simp
  · intro wx hx
    have e0 := hx.cells c0 (by omega)
    have y0 := hx.cells d0 (by omega)
    have z0 := hx.cells x0 l0
    have n0 : wx.cell? ⟨w.heap.size, 0, none⟩ = some (.int .i64 m) := by rw [cell_of_cells, e0]; exact hn
    go_simp
    go_at_call 85
    exact Calls.mono (C1.out wx) fun e w' h => ⟨h.1, hx.call h.2⟩
  apply q_step
  · go_simp
  · intro wx hx
    have e0 := hx.cells c0 (by omega)
    have y0 := hx.cells d0 (by omega)
    have z0 := hx.cells x0 l0
    have n0 : wx.cell? ⟨w.heap.size, 0, none⟩ = some (.int .i64 m) := by rw [cell_of_cells, e0]; exact hn
    go_simp
    exact rfl
  apply q_step
  · go_simp
  · intro wx hx
    have e0 := hx.cells c0 (by omega)
    have y0 := hx.cells d0 (by omega)
    have z0 := hx.cells x0 l0
    have n0 : wx.cell? ⟨w.heap.size, 0, none⟩ = some (.int .i64 m) := by rw [cell_of_cells, e0]; exact hn
    go_simp
    exact rfl
  apply q_step
  · go_simp
  · intro wx hx
    have e0 := hx.cells c0 (by omega)
    have y0 := hx.cells d0 (by omega)
    have z0 := hx.cells x0 l0
    have n0 : wx.cell? ⟨w.heap.size, 0, none⟩ = some (.int .i64 m) := by rw [cell_of_cells, e0]; exact hn
    go_simp
    exact rfl
  apply q_step
  · go_simp
  · intro wx hx
    have e0 := hx.cells c0 (by omega)
    have y0 := hx.cells d0 (by omega)
    have z0 := hx.cells x0 l0
    have n0 : wx.cell? ⟨w.heap.size, 0, none⟩ = some (.int .i64 m) := by rw [cell_of_cells, e0]; exact hn
    go_simp
    go_at_call 85
    exact Calls.mono (C2.out wx) fun e w' h => ⟨h.1, hx.call h.2⟩
  apply q_step
  · go_simp
  · intro wx hx
    have e0 := hx.cells c0 (by omega)
    have y0 := hx.cells d0 (by omega)
    have z0 := hx.cells x0 l0
    have n0 : wx.cell? ⟨w.heap.size, 0, none⟩ = some (.int .i64 m) := by rw [cell_of_cells, e0]; exact hn
    go_simp
    exact rfl
  apply q_step
  · go_simp
  · intro wx hx
    have e0 := hx.cells c0 (by omega)
    have y0 := hx.cells d0 (by omega)
    have z0 := hx.cells x0 l0
    have n0 : wx.cell? ⟨w.heap.size, 0, none⟩ = some (.int .i64 m) := by rw [cell_of_cells, e0]; exact hn
    go_simp
    exact rfl
  apply q_step
  · go_simp
  · intro wx hx
    have e0 := hx.cells c0 (by omega)
    have y0 := hx.cells d0 (by omega)
    have z0 := hx.cells x0 l0
    have n0 : wx.cell? ⟨w.heap.size, 0, none⟩ = some (.int .i64 m) := by rw [cell_of_cells, e0]; exact hn
    go_simp
    exact rfl
  apply q_step
  · go_simp
  · intro wx hx
    have e0 := hx.cells c0 (by omega)
    have y0 := hx.cells d0 (by omega)
    have z0 := hx.cells x0 l0
    have n0 : wx.cell? ⟨w.heap.size, 0, none⟩ = some (.int .i64 m) := by rw [cell_of_cells, e0]; exact hn
    go_simp
    exact rfl
  apply q_step
  · go_simp
  · intro wx hx
    have e0 := hx.cells c0 (by omega)
    have y0 := hx.cells d0 (by omega)
    have z0 := hx.cells x0 l0
    have n0 : wx.cell? ⟨w.heap.size, 0, none⟩ = some (.int .i64 m) := by rw [cell_of_cells, e0]; exact hn
    go_simp
    exact rfl
  apply q_step
  · go_simp
  · intro wx hx
    have e0 := hx.cells c0 (by omega)
    have y0 := hx.cells d0 (by omega)
    have z0 := hx.cells x0 l0
    have n0 : wx.cell? ⟨w.heap.size, 0, none⟩ = some (.int .i64 m) := by rw [cell_of_cells, e0]; exact hn
    go_simp
    go_at_call 85
    exact Calls.mono (C3.out wx) fun e w' h => ⟨h.1, hx.call h.2⟩
  apply q_step
  · go_simp
  · intro wx hx
    have e0 := hx.cells c0 (by omega)
    have y0 := hx.cells d0 (by omega)
    have z0 := hx.cells x0 l0
    have n0 : wx.cell? ⟨w.heap.size, 0, none⟩ = some (.int .i64 m) := by rw [cell_of_cells, e0]; exact hn
    go_simp
    exact rfl
  apply q_step
  · go_simp
  · intro wx hx
    have e0 := hx.cells c0 (by omega)
    have y0 := hx.cells d0 (by omega)
    have z0 := hx.cells x0 l0
    have n0 : wx.cell? ⟨w.heap.size, 0, none⟩ = some (.int .i64 m) := by rw [cell_of_cells, e0]; exact hn
    go_simp
    exact rfl
  apply q_step
  · go_simp
  · intro wx hx
    have e0 := hx.cells c0 (by omega)
    have y0 := hx.cells d0 (by omega)
    have z0 := hx.cells x0 l0
    have n0 : wx.cell? ⟨w.heap.size, 0, none⟩ = some (.int .i64 m) := by rw [cell_of_cells, e0]; exact hn
    go_simp
    exact rfl
  apply q_step
  · go_simp
  · intro wx hx
    have e0 := hx.cells c0 (by omega)
    have y0 := hx.cells d0 (by omega)
    have z0 := hx.cells x0 l0
    have n0 : wx.cell? ⟨w.heap.size, 0, none⟩ = some (.int .i64 m) := by rw [cell_of_cells, e0]; exact hn
    go_simp
    go_at_call 85
    exact Calls.mono (C4.out wx) fun e w' h => ⟨h.1, hx.call h.2⟩
  apply q_step
  · go_simp
  · intro wx hx
    have e0 := hx.cells c0 (by omega)
    have y0 := hx.cells d0 (by omega)
    have z0 := hx.cells x0 l0
    have n0 : wx.cell? ⟨w.heap.size, 0, none⟩ = some (.int .i64 m) := by rw [cell_of_cells, e0]; exact hn
    go_simp
    exact rfl
  refine wpQuiet_nil ?_
  intro w2 hx
  have r2 := hx.row r0
  have b2 : Below w.heap.size w w2 := b0.trans (Below.mono hx b0.size)
  clear c0 d0 x0 r0 b0 l0 l2 hx
  go_wp2
  obtain ⟨t, ht, _⟩ := r2.heap
  exact res_agg (p := 4) (g := w.heap.size + 2) aggD (dv_size _ _ _) rfl rfl rfl (setRow_heap _ _ _ _ t (0, 0) ht) ⟨rfl, below_setRow b2 (by omega) _⟩

set_option maxRecDepth 100000 in
set_option maxHeartbeats 1000000 in
theorem sRename_any (f g p : Nat → Nat) (m : Nat) (hf : PermN f m) (hg : PermN g m) (hp : PermN p m) (w : World) :
    Calls Try.prog 49 #[.agg (dv m f g), .agg (av p)] w fun e w' => e = .returned (.agg (dv m (renF p f m) (renF p g m))) ∧ Below w.heap.size w w' := by
  rw [← renTo_eq hp.2.2.1, ← renTo_eq hp.2.2.1]
  have hm := hp.2.1
  have lf := hide hf.2.2.1.1
  have lg := hide hg.2.2.1.1
  have lp := hide hp.2.2.1.1
  clear hf hg hp
  have hn := dv_n m f g
  go_enter Try.func49, Try.ntmps49
  go_wp2
  rw [← dv_zero]
  generalize hW : ((w.alloc (.cells (dv m f g) 36)).alloc (.cells (av p) 34)).alloc (.cells (dv 0 (fun _ => 0) (fun _ => 0)) 36) = W
  have c0 : cellsOf W w.heap.size = dv m f g := by rw [← hW]; exact cellsOf_heap (heap2 rfl)
  have d0 : cellsOf W (w.heap.size + 1) = av p := by rw [← hW]; exact cellsOf_heap (heap1 (by simp))
  have r0 : rowOk W (w.heap.size + 2) 33 := by rw [← hW]; exact ⟨_, _, heap_at _ _ _ (by simp), dv_size _ _ _⟩
  have b0 : Below w.heap.size w W := by rw [← hW]; exact below3 _ _ _ _
  have s0 : W.heap.size = w.heap.size + 3 := by rw [← hW]; simp
  clear hW
  go_loopw [6] (fun x wr => ∃ k : Nat, k ≤ m ∧ x = .int .i64 k ∧ Below (w.heap.size + 1 + 1 + 1) W wr ∧ cellsOf wr (w.heap.size + 1 + 1 + 1) = dv m (renTo p f k) (renTo p g k) ∧ rowOk wr (w.heap.size + 1 + 1 + 1) 33) (fun x _ => m - (intOf x).toNat)
  case atStart => exact ⟨0, by omega, rfl, (below1 W _).mono (by omega), cellsOf_heap (heap_at _ _ _ (by omega)), ⟨_, _, heap_at _ _ _ (by omega), dv_size _ _ _⟩⟩
  case round =>
    obtain ⟨k, hk, rfl, hbw, hc, hr⟩ := hrel
    have c1 := (below_cells hbw (by omega)).trans c0
    have n0 : wr.cell? ⟨w.heap.size, 0, none⟩ = some (.int .i64 m) := by rw [cell_of_cells, c1]; exact hn
    by_cases hlt : k < m
    · have d1 := (below_cells hbw (by omega)).trans d0
      have a16 := lp.out k hlt
      have b16 := lf.out k hlt
      have d16 := lg.out k hlt
      have c16 := lp.out _ b16
      have e16 := lp.out _ d16
      have x1 : wr.cell? ⟨w.heap.size + 1, k, none⟩ = some (.int .u8 (p k)) := by rw [cell_of_cells, d1, av_get _ (by omega)]
      have x2 : wr.cell? ⟨w.heap.size, 1 + k, none⟩ = some (.int .u8 (f k)) := by rw [cell_of_cells, c1, dv_b _ _ _ (by omega)]
      have x3 : wr.cell? ⟨w.heap.size + 1, f k, none⟩ = some (.int .u8 (p (f k))) := by rw [cell_of_cells, d1, av_get _ (by omega)]
      have x4 : wr.cell? ⟨w.heap.size, 17 + k, none⟩ = some (.int .u8 (g k)) := by rw [cell_of_cells, c1, dv_w _ _ _ (by omega)]
      have x5 : wr.cell? ⟨w.heap.size + 1, g k, none⟩ = some (.int .u8 (p (g k))) := by rw [cell_of_cells, d1, av_get _ (by omega)]
      have x6 : wr.cell? ⟨w.heap.size + 1 + 1 + 1, 1 + p k, none⟩ = some (.int .u8 (renTo p f k (p k))) := by rw [cell_of_cells, hc, dv_b _ _ _ (by omega)]
      have x7 : wr.cell? ⟨w.heap.size + 1 + 1 + 1, 17 + p k, none⟩ = some (.int .u8 (renTo p g k (p k))) := by rw [cell_of_cells, hc, dv_w _ _ _ (by omega)]
      have f1 : wr.frozen? ⟨w.heap.size + 1 + 1 + 1, 1 + p k, none⟩ = false := hr.frozen
      have f2 : wr.frozen? ⟨w.heap.size + 1 + 1 + 1, 17 + p k, none⟩ = false := hr.frozen
      have t1 : fset (renTo p f k) (p k) (p (f k)) = renTo p f (k + 1) := rfl
      have t2 : fset (renTo p g k) (p k) (p (g k)) = renTo p g (k + 1) := rfl
      have T := hide (And.intro t1 t2); clear t1 t2
      have HC := hide hc; clear hc
      have hbb := fun a v b u => below_setCell (below_setCell hbw (Nat.le_refl _) a v) (Nat.le_refl _) b u
      have B3 := hide hbb; clear hbb
      have r3 := fun a (v : Value) b (u : Value) => rowOk_setCell (g' := w.heap.size + 1 + 1 + 1) (i := b) (v := u) (rowOk_setCell (g' := w.heap.size + 1 + 1 + 1) (i := a) (v := v) hr)
      have R3 := hide r3; clear r3
      generalize renTo p f k (p k) = y6 at *
      generalize renTo p g k (p k) = y7 at *
      generalize p (f k) = z1 at *
      generalize p (g k) = z2 at *
      generalize f k = z3 at *
      generalize g k = z4 at *
      generalize p k = z5 at *
      clear c1 d1 hbw hr
      go_wp2
      go_region
      all_goals go_wp2
      all_goals go_region
      all_goals go_wp2
      all_goals go_roundw
      case rel =>
        refine ⟨k + 1, by omega, by go_num, (B3.out _ _ _ _).drew.drew, ?_, rowOk_drew.2 (rowOk_drew.2 (R3.out _ _ _ _))⟩
        simp only [cellsOf_drew]
        rw [cellsOf_setCell, cellsOf_setCell, HC.out, dv_setb _ _ _ _ (by omega), dv_setw _ _ _ _ (by omega), T.out.1, T.out.2]
      case measure => simp [intOf]; omega
    · obtain rfl : k = m := by omega
      have r1 : rowOk wr (w.heap.size + 2) 33 := (below_row hbw (by omega)).2 r0
      have b1 : Below w.heap.size w wr := b0.trans (hbw.mono (by omega))
      clear hbw c1 hk
      go_wp2
      obtain ⟨t, ht, _⟩ := r1.heap
      exact res_agg (p := 4) (g := w.heap.size + 2) aggD (dv_size _ _ _) rfl rfl rfl (setRow_heap _ _ _ _ t (0, 0) ht) ⟨rfl, below_setRow b1 (by omega) _⟩

noncomputable def renB (n : Int) (f g p : Nat → Nat) : Bool := desB n f g && permB p n
noncomputable def renR (n : Int) (f g p : Nat → Nat) : Value := if renB n f g p = true then .tuple #[.agg (dv n (renF p f n.toNat) (renF p g n.toNat)), .int .i64 0] else .tuple #[.agg (dv 0 (fun _ => 0) (fun _ => 0)), .int .i64 1]
theorem renR_eq (n : Int) (f g p : Nat → Nat) : ∃ (a : Int) (r s : Nat → Nat) (c : Int), renR n f g p = .tuple #[.agg (dv a r s), .int .i64 c] := by
  unfold renR; split
  · exact ⟨_, _, _, _, rfl⟩
  · exact ⟨_, _, _, _, rfl⟩

-- left out here: loop.example/g01200/impl.RenameDessin
-- left out here: loop.example/g01200/spec.RenameDessin
end Go.Proofs.Yteeideminlcblaa
