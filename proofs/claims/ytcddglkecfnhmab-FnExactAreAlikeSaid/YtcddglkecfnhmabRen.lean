/- RenameDessin of the program and of the model; the walk of FnExactRenameDessin -/
import Derived.Test.YtcddglkecfnhmabPF
import Derived.Test.YtcddglkecfnhmabBld
import Derived.Test.YtcddglkecfnhmabCell
import Derived.Test.YtcddglkecfnhmabToDs
import Derived.Test.YtcddglkecfnhmabToPl
import Derived.Test.YtcddglkecfnhmabReg
namespace Go.Proofs.Ytcddglkecfnhmab
open Go.RowKit

def renF (p f : Nat → Nat) (m : Nat) : Nat → Nat := thenF (thenF (backF p m) f m) p m
def renTo (p f : Nat → Nat) : Nat → Nat → Nat
  | 0 => fun _ => 0
  | k + 1 => fset (renTo p f k) (p k) (p (f k))
theorem renTo_at {p f : Nat → Nat} {n : Nat} (h : Bij p n) : ∀ k, k ≤ n → ∀ x, x < k → renTo p f k (p x) = p (f x) := by
  intro k
  induction k with
  | zero => intro _ x hx; omega
  | succ k ih =>
    intro hk x hx
    show fset (renTo p f k) (p k) (p (f k)) (p x) = p (f x)
    unfold fset
    by_cases c : p x = p k
    · rw [if_pos c, h.2 x k (by omega) (by omega) c]
    · rw [if_neg c]
      by_cases d : x = k
      · subst d; exact absurd rfl c
      · exact ih (by omega) x (by omega)
theorem renTo_none {p f : Nat → Nat} {y : Nat} : ∀ k, (∀ x, x < k → p x ≠ y) → renTo p f k y = 0 := by
  intro k
  induction k with
  | zero => intro _; rfl
  | succ k ih =>
    intro h
    show fset (renTo p f k) (p k) (p (f k)) y = 0
    unfold fset
    rw [if_neg (fun e => h k (by omega) e.symm)]
    exact ih fun x hx => h x (by omega)
theorem renF_at {p f : Nat → Nat} {m x : Nat} (h : Bij p m) (hx : x < m) : renF p f m (p x) = p (f x) := by
  unfold renF
  rw [thenF_at (h.1 x hx), thenF_at (h.1 x hx), backF_at h hx]
theorem renTo_eq {p f : Nat → Nat} {m : Nat} (h : Bij p m) : renTo p f m = renF p f m := by
  funext y
  rcases Nat.lt_or_ge y m with c | c
  · obtain ⟨x, hx, rfl⟩ := h.onto c
    rw [renTo_at h m (Nat.le_refl m) x hx, renF_at h hx]
  · rw [renTo_none m fun x hx e => by have := h.1 x hx; omega]
    unfold renF
    rw [thenF_out c]
theorem renF_perm {p f : Nat → Nat} {m : Nat} (hp : PermN p m) (hf : PermN f m) : PermN (renF p f m) m := thenF_perm (thenF_perm (backF_perm hp) hf) hp

set_option maxRecDepth 100000 in
set_option maxHeartbeats 1000000 in
theorem rename_any (f g p : Nat → Nat) (m : Nat) (hf : PermN f m) (hg : PermN g m) (hp : PermN p m) (w : World) :
    Calls Try.prog 42 #[.agg (dv m f g), .agg (av p)] w fun e w' => e = .returned (.agg (dv m (renF p f m) (renF p g m))) ∧ Below w.heap.size w w' := by
  have lt : ∀ {q : Nat → Nat}, PermN q m → ∀ i, i < m → q i < 16 := fun h i hi => h.lt i (by have := h.2.1; omega)
  have C0 := hide fun w => undo_any p m hp.2.1 (lt hp) w
  have C1 := hide fun w => follow_any (backF p m) f m hp.2.1 (lt (backF_perm hp)) w
  have C2 := hide fun w => follow_any (thenF (backF p m) f m) p m hp.2.1 (lt (thenF_perm (backF_perm hp) hf)) w
  have C3 := hide fun w => follow_any (backF p m) g m hp.2.1 (lt (backF_perm hp)) w
  have C4 := hide fun w => follow_any (thenF (backF p m) g m) p m hp.2.1 (lt (thenF_perm (backF_perm hp) hg)) w
  have e1 : renF p f m = thenF (thenF (backF p m) f m) p m := rfl
  have e2 : renF p g m = thenF (thenF (backF p m) g m) p m := rfl
  rw [e1, e2]
  generalize thenF (thenF (backF p m) f m) p m = F at *
  generalize thenF (thenF (backF p m) g m) p m = G at *
  generalize thenF (backF p m) f m = F1 at *
  generalize thenF (backF p m) g m = G1 at *
  generalize backF p m = B at *
  clear hf hg hp e1 e2 lt
  have hn := dv_n m f g
  go_enter Try.func42, Try.ntmps42
  go_wp2_with fail
  rw [← dv_zero]
  refine (C0.out _).mono ?_
  rintro e w1 ⟨rfl, hb⟩
  have c1 : cellsOf w1 w.heap.size = dv m f g := (below_cells hb (by simp <;> omega)).trans (cellsOf_heap (heap2 rfl))
  have d1 : cellsOf w1 (w.heap.size + 1) = av p := (below_cells hb (by simp <;> omega)).trans (cellsOf_heap (heap1 (by simp)))
  have r1 : rowOk w1 (w.heap.size + 2) 33 := (below_row hb (by simp)).2 ⟨_, _, heap_at _ _ _ (by simp), dv_size _ _ _⟩
  have b1 := (below3 w (.cells (dv m f g) 29) (.cells (av p) 27) (.cells (dv 0 (fun _ => 0) (fun _ => 0)) 29)).trans (hb.mono (by simp <;> omega))
  have l2 := r1.lt
  clear hb
  go_wp2
  generalize hW : w1.alloc _ = W
  have c0 : cellsOf W w.heap.size = dv m f g := by rw [← hW, cellsOf_past (by omega)]; exact c1
  have d0 : cellsOf W (w.heap.size + 1) = av p := by rw [← hW, cellsOf_past (by omega)]; exact d1
  have x0 : cellsOf W w1.heap.size = av B := by rw [← hW]; exact cellsOf_heap (heap_at _ _ _ rfl)
  have r0 : rowOk W (w.heap.size + 2) 33 := by rw [← hW]; exact (rowOk_past l2).2 r1
  have b0 : Below w.heap.size w W := by rw [← hW]; exact b1.alloc (by omega) _
  have l0 : w1.heap.size < W.heap.size := by rw [← hW]; simp
  clear hW c1 d1 r1 b1
  refine region_tail (Grown W) 23 (by kernel_rfl) (by kernel_rfl) (Grown.drew W) ?_
  simp only [List.take_succ_cons, List.take_zero, List.drop_succ_cons, List.drop_zero]
  apply q_step
  · go_simp
  · intro wx hx
    have e0 := hx.cells c0 (by omega)
    have y0 := hx.cells d0 (by omega)
    have z0 := hx.cells x0 l0
    have n0 : wx.cell? ⟨w.heap.size, 0, none⟩ = some (.int .i64 m) := by rw [cell_of_cells, e0]; exact hn
    go_simp
    exact rfl
  apply q_step
  · go_simp
  · intro wx hx
    have e0 := hx.cells c0 (by omega)
    have y0 := hx.cells d0 (by omega)
    have z0 := hx.cells x0 l0
    have n0 : wx.cell? ⟨w.heap.size, 0, none⟩ = some (.int .i64 m) := by rw [cell_of_cells, e0]; exact hn
    go_simp
    exact rfl
  apply q_step
  · go_simp
  · intro wx hx
    have e0 := hx.cells c0 (by omega)
    have y0 := hx.cells d0 (by omega)
    have z0 := hx.cells x0 l0
    have n0 : wx.cell? ⟨w.heap.size, 0, none⟩ = some (.int .i64 m) := by rw [cell_of_cells, e0]; exact hn
    go_simp
    exact rfl
  apply q_step
  · go_simp
  · intro wx hx
    have e0 := hx.cells c0 (by omega)
    have y0 := hx.cells d0 (by omega)
    have z0 := hx.cells x0 l0
    have n0 : wx.cell? ⟨w.heap.size, 0, none⟩ = some (.int .i64 m) := by rw [cell_of_cells, e0]; exact hn
    go_simp
    exact rfl
  apply q_step
  · go_simp
  · intro wx hx
    have e0 := hx.cells c0 (by omega)
    have y0 := hx.cells d0 (by omega)
    have z0 := hx.cells x0 l0
    have n0 : wx.cell? ⟨w.heap.size, 0, none⟩ = some (.int .i64 m) := by rw [cell_of_cells, e0]; exact hn
    go_simp
    exact rfl
  apply q_step
  · go_simp
  · intro wx hx
    have e0 := hx.cells c0 (by omega)
    have y0 := hx.cells d0 (by omega)
    have z0 := hx.cells x0 l0
    have n0 : wx.cell? ⟨w.heap.size, 0, none⟩ = some (.int .i64 m) := by rw [cell_of_cells, e0]; exact hn
    go_simp
    exact rfl
  apply q_step
  · go_simp
  · intro wx hx
    have e0 := hx.cells c0 (by omega)
    have y0 := hx.cells d0 (by omega)
    have z0 := hx.cells x0 l0
    have n0 : wx.cell? ⟨w.heap.size, 0, none⟩ = some (.int .i64 m) := by rw [cell_of_cells, e0]; exact hn
    go_simp
    exact rfl
  apply q_step
  · go_simp
  · intro wx hx
    have e0 := hx.cells c0 (by omega)
    have y0 := hx.cells d0 (by omega)
    have z0 := hx.cells x0 l0
    have n0 : wx.cell? ⟨w.heap.size, 0, none⟩ = some (.int .i64 m) := by rw [cell_of_cells, e0]; exact hn
    go_simp
    go_at_call 48
    exact Calls.mono (C1.out wx) fun e w' h => ⟨h.1, hx.call h.2⟩
  apply q_step
  · go_simp
  · intro wx hx
    have e0 := hx.cells c0 (by omega)
    have y0 := hx.cells d0 (by omega)
    have z0 := hx.cells x0 l0
    have n0 : wx.cell? ⟨w.heap.size, 0, none⟩ = some (.int .i64 m) := by rw [cell_of_cells, e0]; exact hn
    go_simp
    exact rfl
  apply q_step
  · go_simp
  · intro wx hx
    have e0 := hx.cells c0 (by omega)
    have y0 := hx.cells d0 (by omega)
    have z0 := hx.cells x0 l0
    have n0 : wx.cell? ⟨w.heap.size, 0, none⟩ = some (.int .i64 m) := by rw [cell_of_cells, e0]; exact hn
    go_simp
    exact rfl
  apply q_step
  · go_simp
  · intro wx hx
    have e0 := hx.cells c0 (by omega)
    have y0 := hx.cells d0 (by omega)
    have z0 := hx.cells x0 l0
    have n0 : wx.cell? ⟨w.heap.size, 0, none⟩ = some (.int .i64 m) := by rw [cell_of_cells, e0]; exact hn
    go_simp
    exact rfl
  apply q_step
  · go_simp
  · intro wx hx
    have e0 := hx.cells c0 (by omega)
    have y0 := hx.cells d0 (by omega)
    have z0 := hx.cells x0 l0
    have n0 : wx.cell? ⟨w.heap.size, 0, none⟩ = some (.int .i64 m) := by rw [cell_of_cells, e0]; exact hn
    go_simp
    go_at_call 48
    exact Calls.mono (C2.out wx) fun e w' h => ⟨h.1, hx.call h.2⟩
  apply q_step
  · go_simp
  · intro wx hx
    have e0 := hx.cells c0 (by omega)
    have y0 := hx.cells d0 (by omega)
    have z0 := hx.cells x0 l0
    have n0 : wx.cell? ⟨w.heap.size, 0, none⟩ = some (.int .i64 m) := by rw [cell_of_cells, e0]; exact hn
    go_simp
    exact rfl
  apply q_step
  · go_simp
  · intro wx hx
    have e0 := hx.cells c0 (by omega)
    have y0 := hx.cells d0 (by omega)
    have z0 := hx.cells x0 l0
    have n0 : wx.cell? ⟨w.heap.size, 0, none⟩ = some (.int .i64 m) := by rw [cell_of_cells, e0]; exact hn
    go_simp
    exact rfl
  apply q_step
  · go_simp
  · intro wx hx
    have e0 := hx.cells c0 (by omega)
    have y0 := hx.cells d0 (by omega)
    have z0 := hx.cells x0 l0
    have n0 : wx.cell? ⟨w.heap.size, 0, none⟩ = some (.int .i64 m) := by rw [cell_of_cells, e0]; exact hn
    go_simp
    exact rfl
  apply q_step
  · go_simp
  · intro wx hx
    have e0 := hx.cells c0 (by omega)
    have y0 := hx.cells d0 (by omega)
    have z0 := hx.cells x0 l0
    have n0 : wx.cell? ⟨w.heap.size, 0, none⟩ = some (.int .i64 m) := by rw [cell_of_cells, e0]; exact hn
    go_simp
    exact rfl
  apply q_step
  · go_simp
  · intro wx hx
    have e0 := hx.cells c0 (by omega)
    have y0 := hx.cells d0 (by omega)
    have z0 := hx.cells x0 l0
    have n0 : wx.cell? ⟨w.heap.size, 0, none⟩ = some (.int .i64 m) := by rw [cell_of_cells, e0]; exact hn
    go_simp
    exact rfl
  apply q_step
  · go_simp
  · intro wx hx
    have e0 := hx.cells c0 (by omega)
    have y0 := hx.cells d0 (by omega)
    have z0 := hx.cells x0 l0
    have n0 : wx.cell? ⟨w.heap.size, 0, none⟩ = some (.int .i64 m) := by rw [cell_of_cells, e0]; exact hn
    go_simp
    go_at_call 48
    exact Calls.mono (C3.out wx) fun e w' h => ⟨h.1, hx.call h.2⟩
  apply q_step
  · go_simp
  · intro wx hx
    have e0 := hx.cells c0 (by omega)
    have y0 := hx.cells d0 (by omega)
    have z0 := hx.cells x0 l0
    have n0 : wx.cell? ⟨w.heap.size, 0, none⟩ = some (.int .i64 m) := by rw [cell_of_cells, e0]; exact hn
    go_simp
    exact rfl
  apply q_step
  · go_simp
  · intro wx hx
    have e0 := hx.cells c0 (by omega)
    have y0 := hx.cells d0 (by omega)
    have z0 := hx.cells x0 l0
    have n0 : wx.cell? ⟨w.heap.size, 0, none⟩ = some (.int .i64 m) := by rw [cell_of_cells, e0]; exact hn
    go_simp
    exact rfl
  apply q_step
  · go_simp
  · intro wx hx
    have e0 := hx.cells c0 (by omega)
    have y0 := hx.cells d0 (by omega)
    have z0 := hx.cells x0 l0
    have n0 : wx.cell? ⟨w.heap.size, 0, none⟩ = some (.int .i64 m) := by rw [cell_of_cells, e0]; exact hn
    go_simp
    exact rfl
  apply q_step
  · go_simp
  · intro wx hx
    have e0 := hx.cells c0 (by omega)
    have y0 := hx.cells d0 (by omega)
    have z0 := hx.cells x0 l0
    have n0 : wx.cell? ⟨w.heap.size, 0, none⟩ = some (.int .i64 m) := by rw [cell_of_cells, e0]; exact hn
    go_simp
    go_at_call 48
    exact Calls.mono (C4.out wx) fun e w' h => ⟨h.1, hx.call h.2⟩
  apply q_step
  · go_simp
  · intro wx hx
    have e0 := hx.cells c0 (by omega)
    have y0 := hx.cells d0 (by omega)
    have z0 := hx.cells x0 l0
    have n0 : wx.cell? ⟨w.heap.size, 0, none⟩ = some (.int .i64 m) := by rw [cell_of_cells, e0]; exact hn
    go_simp
    exact rfl
  refine wpQuiet_nil ?_
  intro w2 hx
  have r2 := hx.row r0
  have b2 : Below w.heap.size w w2 := b0.trans (Below.mono hx b0.size)
  clear c0 d0 x0 r0 b0 l0 l2 hx
  go_wp2
  obtain ⟨t, ht, _⟩ := r2.heap
  exact res_agg (p := 4) (g := w.heap.size + 2) aggD (dv_size _ _ _) rfl rfl rfl (setRow_heap _ _ _ _ t (0, 0) ht) ⟨rfl, below_setRow b2 (by omega) _⟩

-- left out here: loop.example/g01200/spec.l02Rename
noncomputable def renB (n : Int) (f g p : Nat → Nat) : Bool := desB n f g && permB p n
noncomputable def renR (n : Int) (f g p : Nat → Nat) : Value := if renB n f g p = true then .tuple #[.agg (dv n (renF p f n.toNat) (renF p g n.toNat)), .int .i64 0] else .tuple #[.agg (dv 0 (fun _ => 0) (fun _ => 0)), .int .i64 1]
theorem renR_eq (n : Int) (f g p : Nat → Nat) : ∃ (a : Int) (r s : Nat → Nat) (c : Int), renR n f g p = .tuple #[.agg (dv a r s), .int .i64 c] := by
  unfold renR; split
  · exact ⟨_, _, _, _, rfl⟩
  · exact ⟨_, _, _, _, rfl⟩

-- left out here: loop.example/g01200/impl.RenameDessin
-- left out here: loop.example/g01200/spec.RenameDessin
end Go.Proofs.Ytcddglkecfnhmab
