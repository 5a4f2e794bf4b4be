/- ThenPlaces and BackPlaces, of the program and of the model -/
import Derived.Test.YtghdbnbejkneiaaPl1
import Derived.Test.YtghdbnbejkneiaaSPerm
import Derived.Test.YtghdbnbejkneiaaToPl
namespace Go.Proofs.Ytghdbnbejkneiaa
open Go.RowKit

noncomputable def thenR (p q : Nat → Nat) (n : Int) : Value :=
  if permB p n = true ∧ permB q n = true then .tuple #[.agg (av (thenF p q n.toNat)), .int .i64 0] else .tuple #[.agg (av fun _ => 0), .int .i64 1]
noncomputable def backR (p : Nat → Nat) (n : Int) : Value :=
  if permB p n = true then .tuple #[.agg (av (backF p n.toNat)), .int .i64 0] else .tuple #[.agg (av fun _ => 0), .int .i64 1]

set_option maxRecDepth 100000 in
set_option maxHeartbeats 400000 in
theorem thenPlaces_any (p q : Nat → Nat) (hp : ∀ i, p i < 256) (hq : ∀ i, q i < 256) (n : Int) (w : World) :
    Calls Try.prog 17 #[.agg (av p), .agg (av q), .int .i64 n] w fun e w' => e = .returned (thenR p q n) ∧ Below w.heap.size w w' := by
  have HP := hide hp; clear hp
  have HQ := hide hq; clear hq
  have B3 := below3 w (.cells (av p) 23) (.cells (av q) 23) (.cells (av fun _ => 0) 23)
  have K := (heap2 rfl : (((w.alloc (.cells (av p) 23)).alloc (.cells (av q) 23)).alloc (.cells (av fun _ => 0) 23)).heap[w.heap.size]? = some (.cells (av p) 23 (0, 0)))
  rcases h1 : permB p n with _ | _
  · have c1 : ∀ w, Calls Try.prog 51 #[.agg (av p), .int .i64 n] w fun e w' => e = .returned (.bool false) ∧ Below w.heap.size w w' := fun w => by rw [← h1]; exact isPerm_any p HP.out n w
    have C1 := hide c1; clear c1
    have hr : thenR p q n = .tuple #[.agg (av fun _ => 0), .int .i64 1] := by unfold thenR; rw [if_neg (by simp [h1])]
    rw [hr]
    clear h1 hr K B3
    go_enter Try.func17, Try.ntmps17
    go_wp2_with fail
    rw [← av_zero]
    refine (C1.out _).mono ?_
    rintro e w1 ⟨rfl, hb1⟩
    have r1 : rowOk w1 (w.heap.size + 1 + 1) 16 := (below_row hb1 (by simp)).2 ⟨_, _, heap_at _ _ _ (by simp), av_size _⟩
    go_wp2
    rw [← av_zero]
    obtain ⟨t, ht, _⟩ := r1.heap
    exact res_agg2 (p := 6) (t := 7) (g := w.heap.size + 1 + 1) (v := .int .i64 1) aggP (av_size fun _ => 0) rfl rfl rfl rfl (setRow_heap _ _ _ _ t (0, 0) ht) ⟨rfl, below_setRow ((below3 w _ _ _).trans (hb1.mono (by simp <;> omega))) (by omega) _⟩
  · have c1 : ∀ w, Calls Try.prog 51 #[.agg (av p), .int .i64 n] w fun e w' => e = .returned (.bool true) ∧ Below w.heap.size w w' := fun w => by rw [← h1]; exact isPerm_any p HP.out n w
    have C1 := hide c1; clear c1
    rcases h2 : permB q n with _ | _
    · have c2 : ∀ w, Calls Try.prog 51 #[.agg (av q), .int .i64 n] w fun e w' => e = .returned (.bool false) ∧ Below w.heap.size w w' := fun w => by rw [← h2]; exact isPerm_any q HQ.out n w
      have C2 := hide c2; clear c2
      have hr : thenR p q n = .tuple #[.agg (av fun _ => 0), .int .i64 1] := by unfold thenR; rw [if_neg (by simp [h2])]
      rw [hr]
      clear h1 h2 hr K B3
      go_enter Try.func17, Try.ntmps17
      go_wp2_with fail
      rw [← av_zero]
      refine (C1.out _).mono ?_
      rintro e w1 ⟨rfl, hb1⟩
      have r1 : rowOk w1 (w.heap.size + 1 + 1) 16 := (below_row hb1 (by simp)).2 ⟨_, _, heap_at _ _ _ (by simp), av_size _⟩
      have q1 : cellsOf w1 (w.heap.size + 1) = av q := (below_cells hb1 (by simp <;> omega)).trans (cellsOf_heap (heap1 (by simp)))
      go_wp2_with fail
      refine (C2.out _).mono ?_
      rintro e w2 ⟨rfl, hb2⟩
      have r2 : rowOk w2 (w.heap.size + 1 + 1) 16 := (below_row hb2 r1.lt).2 r1
      go_wp2
      rw [← av_zero]
      obtain ⟨t, ht, _⟩ := r2.heap
      exact res_agg2 (p := 6) (t := 7) (g := w.heap.size + 1 + 1) (v := .int .i64 1) aggP (av_size fun _ => 0) rfl rfl rfl rfl (setRow_heap _ _ _ _ t (0, 0) ht)
        ⟨rfl, below_setRow (((below3 w _ _ _).trans (hb1.mono (by simp <;> omega))).trans (hb2.mono (by have := hb1.size; simp at this; omega))) (by omega) _⟩
    · have c2 : ∀ w, Calls Try.prog 51 #[.agg (av q), .int .i64 n] w fun e w' => e = .returned (.bool true) ∧ Below w.heap.size w w' := fun w => by rw [← h2]; exact isPerm_any q HQ.out n w
      have C2 := hide c2; clear c2
      obtain ⟨m, rfl, hpm⟩ := permB_true h1
      have hr : thenR p q (m : Int) = .tuple #[.agg (av (thenF p q m)), .int .i64 0] := by unfold thenR; rw [if_pos ⟨h1, h2⟩, Int.toNat_natCast]
      rw [hr]
      have hpl : ∀ i, i < m → p i < 16 := fun i hi => by have := hpm.2.2.1.1 i hi; have := hpm.2.1; omega
      have hm : m ≤ 16 := hpm.2.1
      have C3 := hide fun w => follow_any p q m hm hpl w
      clear h1 h2 hr K B3 hpl hpm
      go_enter Try.func17, Try.ntmps17
      go_wp2_with fail
      rw [← av_zero]
      refine (C1.out _).mono ?_
      rintro e w1 ⟨rfl, hb1⟩
      have r1 : rowOk w1 (w.heap.size + 1 + 1) 16 := (below_row hb1 (by simp)).2 ⟨_, _, heap_at _ _ _ (by simp), av_size _⟩
      have q1 : cellsOf w1 (w.heap.size + 1) = av q := (below_cells hb1 (by simp <;> omega)).trans (cellsOf_heap (heap1 (by simp)))
      have p1 : cellsOf w1 w.heap.size = av p := (below_cells hb1 (by simp <;> omega)).trans (cellsOf_heap (heap2 (by simp)))
      go_wp2_with fail
      refine (C2.out _).mono ?_
      rintro e w2 ⟨rfl, hb2⟩
      have hlt := r1.lt
      have r2 : rowOk w2 (w.heap.size + 1 + 1) 16 := (below_row hb2 hlt).2 r1
      have q2 : cellsOf w2 (w.heap.size + 1) = av q := (below_cells hb2 (by omega)).trans q1
      have p2 : cellsOf w2 w.heap.size = av p := (below_cells hb2 (by omega)).trans p1
      have b2 := (((below3 w (.cells (av p) 23) (.cells (av q) 23) (.cells (av fun _ => 0) 23)).trans (hb1.mono (by simp <;> omega))).trans (hb2.mono (by omega)))
      clear r1 q1 p1 hb1 hb2 hlt
      go_wp2_with fail
      refine (C3.out _).mono ?_
      rintro e w3 ⟨rfl, hb3⟩
      have hlt := r2.lt
      have r3 : rowOk w3 (w.heap.size + 1 + 1) 16 := (below_row hb3 hlt).2 r2
      have b3 := b2.trans (hb3.mono (by omega))
      clear r2 q2 p2 b2 hb3 hlt
      go_wp2
      obtain ⟨t, ht, _⟩ := r3.heap
      exact res_agg2 (p := 6) (t := 7) (g := w.heap.size + 1 + 1) (v := .int .i64 0) aggP (av_size (thenF p q m)) rfl rfl rfl rfl (setRow_heap _ _ _ _ t (0, 0) ht) ⟨rfl, below_setRow b3 (by omega) _⟩

set_option maxRecDepth 100000 in
set_option maxHeartbeats 400000 in
theorem sThenPlaces_any (p q : Nat → Nat) (hp : ∀ i, p i < 256) (hq : ∀ i, q i < 256) (n : Int) (w : World) :
    Calls Try.prog 15 #[.agg (av p), .agg (av q), .int .i64 n] w fun e w' => e = .returned (thenR p q n) ∧ Below w.heap.size w w' := by
  have HP := hide hp; clear hp
  have HQ := hide hq; clear hq
  have B3 := below3 w (.cells (av p) 23) (.cells (av q) 23) (.cells (av fun _ => 0) 23)
  have K := (heap2 rfl : (((w.alloc (.cells (av p) 23)).alloc (.cells (av q) 23)).alloc (.cells (av fun _ => 0) 23)).heap[w.heap.size]? = some (.cells (av p) 23 (0, 0)))
  rcases h1 : permB p n with _ | _
  · have c1 : ∀ w, Calls Try.prog 49 #[.agg (av p), .int .i64 n] w fun e w' => e = .returned (.bool false) ∧ Below w.heap.size w w' := fun w => by rw [← h1]; exact sPerm_any p HP.out n w
    have C1 := hide c1; clear c1
    have hr : thenR p q n = .tuple #[.agg (av fun _ => 0), .int .i64 1] := by unfold thenR; rw [if_neg (by simp [h1])]
    rw [hr]
    clear h1 hr K B3
    go_enter Try.func15, Try.ntmps15
    go_wp2_with fail
    rw [← av_zero]
    refine (C1.out _).mono ?_
    rintro e w1 ⟨rfl, hb1⟩
    have r1 : rowOk w1 (w.heap.size + 1 + 1) 16 := (below_row hb1 (by simp)).2 ⟨_, _, heap_at _ _ _ (by simp), av_size _⟩
    go_wp2
    rw [← av_zero]
    obtain ⟨t, ht, _⟩ := r1.heap
    exact res_agg2 (p := 6) (t := 7) (g := w.heap.size + 1 + 1) (v := .int .i64 1) aggP (av_size fun _ => 0) rfl rfl rfl rfl (setRow_heap _ _ _ _ t (0, 0) ht) ⟨rfl, below_setRow ((below3 w _ _ _).trans (hb1.mono (by simp <;> omega))) (by omega) _⟩
  · have c1 : ∀ w, Calls Try.prog 49 #[.agg (av p), .int .i64 n] w fun e w' => e = .returned (.bool true) ∧ Below w.heap.size w w' := fun w => by rw [← h1]; exact sPerm_any p HP.out n w
    have C1 := hide c1; clear c1
    rcases h2 : permB q n with _ | _
    · have c2 : ∀ w, Calls Try.prog 49 #[.agg (av q), .int .i64 n] w fun e w' => e = .returned (.bool false) ∧ Below w.heap.size w w' := fun w => by rw [← h2]; exact sPerm_any q HQ.out n w
      have C2 := hide c2; clear c2
      have hr : thenR p q n = .tuple #[.agg (av fun _ => 0), .int .i64 1] := by unfold thenR; rw [if_neg (by simp [h2])]
      rw [hr]
      clear h1 h2 hr K B3
      go_enter Try.func15, Try.ntmps15
      go_wp2_with fail
      rw [← av_zero]
      refine (C1.out _).mono ?_
      rintro e w1 ⟨rfl, hb1⟩
      have r1 : rowOk w1 (w.heap.size + 1 + 1) 16 := (below_row hb1 (by simp)).2 ⟨_, _, heap_at _ _ _ (by simp), av_size _⟩
      have q1 : cellsOf w1 (w.heap.size + 1) = av q := (below_cells hb1 (by simp <;> omega)).trans (cellsOf_heap (heap1 (by simp)))
      go_wp2_with fail
      refine (C2.out _).mono ?_
      rintro e w2 ⟨rfl, hb2⟩
      have r2 : rowOk w2 (w.heap.size + 1 + 1) 16 := (below_row hb2 r1.lt).2 r1
      go_wp2
      rw [← av_zero]
      obtain ⟨t, ht, _⟩ := r2.heap
      exact res_agg2 (p := 6) (t := 7) (g := w.heap.size + 1 + 1) (v := .int .i64 1) aggP (av_size fun _ => 0) rfl rfl rfl rfl (setRow_heap _ _ _ _ t (0, 0) ht)
        ⟨rfl, below_setRow (((below3 w _ _ _).trans (hb1.mono (by simp <;> omega))).trans (hb2.mono (by have := hb1.size; simp at this; omega))) (by omega) _⟩
    · have c2 : ∀ w, Calls Try.prog 49 #[.agg (av q), .int .i64 n] w fun e w' => e = .returned (.bool true) ∧ Below w.heap.size w w' := fun w => by rw [← h2]; exact sPerm_any q HQ.out n w
      have C2 := hide c2; clear c2
      obtain ⟨m, rfl, hpm⟩ := permB_true h1
      have hr : thenR p q (m : Int) = .tuple #[.agg (av (thenF p q m)), .int .i64 0] := by unfold thenR; rw [if_pos ⟨h1, h2⟩, Int.toNat_natCast]
      rw [hr]
      have hpl : ∀ i, i < m → p i < 16 := fun i hi => by have := hpm.2.2.1.1 i hi; have := hpm.2.1; omega
      have hm : m ≤ 16 := hpm.2.1
      have C3 := hide fun w => sThen_any p q m hm hpl w
      clear h1 h2 hr K B3 hpl hpm
      go_enter Try.func15, Try.ntmps15
      go_wp2_with fail
      rw [← av_zero]
      refine (C1.out _).mono ?_
      rintro e w1 ⟨rfl, hb1⟩
      have r1 : rowOk w1 (w.heap.size + 1 + 1) 16 := (below_row hb1 (by simp)).2 ⟨_, _, heap_at _ _ _ (by simp), av_size _⟩
      have q1 : cellsOf w1 (w.heap.size + 1) = av q := (below_cells hb1 (by simp <;> omega)).trans (cellsOf_heap (heap1 (by simp)))
      have p1 : cellsOf w1 w.heap.size = av p := (below_cells hb1 (by simp <;> omega)).trans (cellsOf_heap (heap2 (by simp)))
      go_wp2_with fail
      refine (C2.out _).mono ?_
      rintro e w2 ⟨rfl, hb2⟩
      have hlt := r1.lt
      have r2 : rowOk w2 (w.heap.size + 1 + 1) 16 := (below_row hb2 hlt).2 r1
      have q2 : cellsOf w2 (w.heap.size + 1) = av q := (below_cells hb2 (by omega)).trans q1
      have p2 : cellsOf w2 w.heap.size = av p := (below_cells hb2 (by omega)).trans p1
      have b2 := (((below3 w (.cells (av p) 23) (.cells (av q) 23) (.cells (av fun _ => 0) 23)).trans (hb1.mono (by simp <;> omega))).trans (hb2.mono (by omega)))
      clear r1 q1 p1 hb1 hb2 hlt
      go_wp2_with fail
      refine (C3.out _).mono ?_
      rintro e w3 ⟨rfl, hb3⟩
      have hlt := r2.lt
      have r3 : rowOk w3 (w.heap.size + 1 + 1) 16 := (below_row hb3 hlt).2 r2
      have b3 := b2.trans (hb3.mono (by omega))
      clear r2 q2 p2 b2 hb3 hlt
      go_wp2
      obtain ⟨t, ht, _⟩ := r3.heap
      exact res_agg2 (p := 6) (t := 7) (g := w.heap.size + 1 + 1) (v := .int .i64 0) aggP (av_size (thenF p q m)) rfl rfl rfl rfl (setRow_heap _ _ _ _ t (0, 0) ht) ⟨rfl, below_setRow b3 (by omega) _⟩

end Go.Proofs.Ytghdbnbejkneiaa
