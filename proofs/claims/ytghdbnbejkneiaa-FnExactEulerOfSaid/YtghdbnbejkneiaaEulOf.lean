/- EulerOf, GenusOf of the program and of the model; the walks of their laws -/
import Derived.Test.YtghdbnbejkneiaaPass
import Derived.Test.YtghdbnbejkneiaaToDs
namespace Go.Proofs.Ytghdbnbejkneiaa
open Go.RowKit

set_option maxRecDepth 100000 in
set_option maxHeartbeats 1000000 in
theorem sEuler_any (f g : Nat → Nat) (m : Nat) (hd : DesN f g m) (w : World) :
    Calls Try.prog 61 #[.agg (dv m f g)] w fun e w' => e = .returned (.int .i64 (eulN f g m)) ∧ Below w.heap.size w w' := by
  have C1 := hide fun w => sPassport_any f g m hd w
  have hn := dv_n m f g
  have hm := hd.le
  have len : ∀ {p : Nat → Nat}, PermN p m → (sortD (lens p m)).length = (cycs p m).length ∧ (cycs p m).length ≤ 16 := fun {p} hp => ⟨by rw [(sortD_perm _).length_eq]; unfold lens; rw [List.length_map], Nat.le_trans (cycs_le hp) hm⟩
  have he : eulN f g m = (sortD (lens f m)).length + (sortD (lens g m)).length + (sortD (lens (faceF f g m) m)).length - m := by
    rw [(len hd.black).1, (len hd.white).1, (len hd.face).1]
    show -(m : Int) + (cycs f m).length + (cycs g m).length + (cycs (faceF f g m) m).length = _
    omega
  have hl1 : (sortD (lens f m)).length ≤ 16 := by rw [(len hd.black).1]; exact (len hd.black).2
  have hl2 : (sortD (lens g m)).length ≤ 16 := by rw [(len hd.white).1]; exact (len hd.white).2
  have hl3 : (sortD (lens (faceF f g m) m)).length ≤ 16 := by rw [(len hd.face).1]; exact (len hd.face).2
  rw [he]
  clear he len hd
  unfold passN at C1
  generalize sortD (lens f m) = k1 at *
  generalize sortD (lens g m) = k2 at *
  generalize sortD (lens (faceF f g m) m) = k3 at *
  obtain ⟨y1, hy1⟩ : ∃ y, y = k1.length := ⟨_, rfl⟩
  obtain ⟨y2, hy2⟩ : ∃ y, y = k2.length := ⟨_, rfl⟩
  obtain ⟨y3, hy3⟩ : ∃ y, y = k3.length := ⟨_, rfl⟩
  rw [← hy1, ← hy2, ← hy3]
  rw [← hy1] at hl1
  rw [← hy2] at hl2
  rw [← hy3] at hl3
  have Y := hide (And.intro hy1 (And.intro hy2 hy3)); clear hy1 hy2 hy3
  go_enter Try.func61, Try.ntmps61
  go_wp2_with fail
  refine (C1.out _).mono ?_
  rintro e w1 ⟨v, rfl, hb, ho⟩
  have c1 : cellsOf w1 w.heap.size = dv m f g := (below_cells hb (by simp)).trans (cellsOf_heap (heap_at _ _ _ rfl))
  have b1 := (below1 w (.cells (dv m f g) 39)).trans (hb.mono (by simp))
  obtain ⟨A, c, vs, rfl, hv⟩ := own2_form ho
  obtain ⟨q1, A1, d1, rfl, _, _, x1, _⟩ := hv.at (i := 0) (by simp)
  obtain ⟨q2, A2, d2, e2, _, _, x2, _⟩ := hv.at (i := 1) (by simp)
  obtain ⟨q3, A3, d3, e3, _, _, x3, _⟩ := hv.at (i := 2) (by simp)
  injection e2 with e2
  injection e2 with e2
  subst e2
  injection e3 with e3
  injection e3 with e3
  subst e3
  simp only [List.getElem_cons_zero, List.getElem_cons_succ] at x1 x2 x3
  have n0 : w1.cell? ⟨w.heap.size, 0, none⟩ = some (.int .i64 m) := by rw [cell_of_cells, c1]; exact hn
  clear ho hv hb c1 C1 hn
  rw [← Y.out.1] at x1
  rw [← Y.out.2.1] at x2
  rw [← Y.out.2.2] at x3
  go_wp2
  go_region
  all_goals go_wp2
  all_goals go_ret
  all_goals exact ⟨rfl, b1.drew⟩

noncomputable def eulerR (n : Int) (f g : Nat → Nat) : Value := if desB n f g = true then .tuple #[.int .i64 (eulN f g n.toNat), .int .i64 0] else .tuple #[.int .i64 0, .int .i64 1]
noncomputable def genusR (n : Int) (f g : Nat → Nat) : Value := if desB n f g = true then .tuple #[.int .i64 (1 - eulN f g n.toNat / 2), .int .i64 0] else .tuple #[.int .i64 0, .int .i64 1]
theorem eulerR_eq (n : Int) (f g : Nat → Nat) : ∃ a c : Int, eulerR n f g = .tuple #[.int .i64 a, .int .i64 c] := by
  unfold eulerR; split
  · exact ⟨_, _, rfl⟩
  · exact ⟨_, _, rfl⟩
theorem genusR_eq (n : Int) (f g : Nat → Nat) : ∃ a c : Int, genusR n f g = .tuple #[.int .i64 a, .int .i64 c] := by
  unfold genusR; split
  · exact ⟨_, _, rfl⟩
  · exact ⟨_, _, rfl⟩
theorem DesN.eul {f g : Nat → Nat} {m : Nat} (h : DesN f g m) : ∃ a : Int, eulN f g m = 2 * a ∧ -8 ≤ a ∧ a ≤ 1 := by
  have h1 := h.euler
  have h2 := h.le
  have e : eulN f g m = -(m : Int) + (cycs f m).length + (cycs g m).length + (cycs (faceF f g m) m).length := rfl
  exact ⟨eulN f g m / 2, by omega, by omega, by omega⟩

set_option maxRecDepth 100000 in
set_option maxHeartbeats 1000000 in
theorem eulerOf_any (n : Int) (f g : Nat → Nat) (hf : ∀ i, f i < 256) (hg : ∀ i, g i < 256) (w : World) :
    Calls Try.prog 35 #[.agg (dv n f g)] w fun e w' => e = .returned (eulerR n f g) ∧ Below w.heap.size w w' := by
  have C1 := hide fun w => isDessin_any n f g hf hg w
  clear hf hg
  rcases h1 : desB n f g with _ | _
  · rw [h1] at C1
    have hr : eulerR n f g = .tuple #[.int .i64 0, .int .i64 1] := by unfold eulerR; rw [if_neg (by simp [h1])]
    rw [hr]
    clear h1 hr
    go_enter Try.func35, Try.ntmps35
    go_wp2_with fail
    refine (C1.out _).mono ?_
    rintro e w1 ⟨rfl, hb⟩
    have b1 := (below1 w (.cells (dv n f g) 39)).trans (hb.mono (by simp))
    clear hb
    go_wp2
    go_ret2
    exact ⟨rfl, b1⟩
  · rw [h1] at C1
    obtain ⟨m, rfl, hd⟩ := desB_true h1
    have hr : eulerR (m : Int) f g = .tuple #[.int .i64 (eulN f g m), .int .i64 0] := by unfold eulerR; rw [if_pos h1, Int.toNat_natCast]
    rw [hr]
    have C2 := hide fun w => euler_any f g m hd w
    generalize eulN f g m = E at *
    clear h1 hr hd
    go_enter Try.func35, Try.ntmps35
    go_wp2_with fail
    refine (C1.out _).mono ?_
    rintro e w1 ⟨rfl, hb⟩
    have c1 : cellsOf w1 w.heap.size = dv m f g := (below_cells hb (by simp)).trans (cellsOf_heap (heap_at _ _ _ rfl))
    have b1 := (below1 w (.cells (dv m f g) 39)).trans (hb.mono (by simp))
    clear hb
    go_wp2_with fail
    refine (C2.out _).mono ?_
    rintro e w2 ⟨rfl, hb⟩
    have b2 := b1.trans (hb.mono b1.size)
    clear hb b1 c1
    go_wp2
    go_ret2
    exact ⟨rfl, b2⟩

set_option maxRecDepth 100000 in
set_option maxHeartbeats 1000000 in
theorem sEulerOf_any (n : Int) (f g : Nat → Nat) (hf : ∀ i, f i < 256) (hg : ∀ i, g i < 256) (w : World) :
    Calls Try.prog 34 #[.agg (dv n f g)] w fun e w' => e = .returned (eulerR n f g) ∧ Below w.heap.size w w' := by
  have C1 := hide fun w => sIs_any n f g hf hg w
  clear hf hg
  rcases h1 : desB n f g with _ | _
  · rw [h1] at C1
    have hr : eulerR n f g = .tuple #[.int .i64 0, .int .i64 1] := by unfold eulerR; rw [if_neg (by simp [h1])]
    rw [hr]
    clear h1 hr
    go_enter Try.func34, Try.ntmps34
    go_wp2_with fail
    refine (C1.out _).mono ?_
    rintro e w1 ⟨rfl, hb⟩
    have b1 := (below1 w (.cells (dv n f g) 39)).trans (hb.mono (by simp))
    clear hb
    go_wp2
    go_ret2
    exact ⟨rfl, b1⟩
  · rw [h1] at C1
    obtain ⟨m, rfl, hd⟩ := desB_true h1
    have hr : eulerR (m : Int) f g = .tuple #[.int .i64 (eulN f g m), .int .i64 0] := by unfold eulerR; rw [if_pos h1, Int.toNat_natCast]
    rw [hr]
    have C2 := hide fun w => sEuler_any f g m hd w
    generalize eulN f g m = E at *
    clear h1 hr hd
    go_enter Try.func34, Try.ntmps34
    go_wp2_with fail
    refine (C1.out _).mono ?_
    rintro e w1 ⟨rfl, hb⟩
    have c1 : cellsOf w1 w.heap.size = dv m f g := (below_cells hb (by simp)).trans (cellsOf_heap (heap_at _ _ _ rfl))
    have b1 := (below1 w (.cells (dv m f g) 39)).trans (hb.mono (by simp))
    clear hb
    go_wp2_with fail
    refine (C2.out _).mono ?_
    rintro e w2 ⟨rfl, hb⟩
    have b2 := b1.trans (hb.mono b1.size)
    clear hb b1 c1
    go_wp2
    go_ret2
    exact ⟨rfl, b2⟩

set_option maxRecDepth 100000 in
set_option maxHeartbeats 1000000 in
theorem sGenus_any (f g : Nat → Nat) (m : Nat) (hd : DesN f g m) (w : World) :
    Calls Try.prog 63 #[.agg (dv m f g)] w fun e w' => e = .returned (.int .i64 (1 - eulN f g m / 2)) ∧ Below w.heap.size w w' := by
  have C2 := hide fun w => sEuler_any f g m hd w
  obtain ⟨a, ha, ha1, ha2⟩ := hd.eul
  rw [ha] at C2
  rw [ha, show 1 - 2 * a / 2 = 1 - a from by omega]
  clear hd ha
  go_enter Try.func63, Try.ntmps63
  go_wp2_with fail
  refine (C2.out _).mono ?_
  rintro e w2 ⟨rfl, hb⟩
  have b2 := (below1 w (.cells (dv m f g) 39)).trans (hb.mono (by simp))
  clear hb
  go_wp2
  go_ret
  refine ⟨?_, b2⟩
  have t : (2 - 2 * a) / 2 = 1 - a := by omega
  show Ending.returned (Value.int .i64 ((2 - 2 * a) / 2)) = _
  rw [t]

set_option maxRecDepth 100000 in
set_option maxHeartbeats 1000000 in
theorem genusOf_any (n : Int) (f g : Nat → Nat) (hf : ∀ i, f i < 256) (hg : ∀ i, g i < 256) (w : World) :
    Calls Try.prog 37 #[.agg (dv n f g)] w fun e w' => e = .returned (genusR n f g) ∧ Below w.heap.size w w' := by
  have C1 := hide fun w => isDessin_any n f g hf hg w
  clear hf hg
  rcases h1 : desB n f g with _ | _
  · rw [h1] at C1
    have hr : genusR n f g = .tuple #[.int .i64 0, .int .i64 1] := by unfold genusR; rw [if_neg (by simp [h1])]
    rw [hr]
    clear h1 hr
    go_enter Try.func37, Try.ntmps37
    go_wp2_with fail
    refine (C1.out _).mono ?_
    rintro e w1 ⟨rfl, hb⟩
    have b1 := (below1 w (.cells (dv n f g) 39)).trans (hb.mono (by simp))
    clear hb
    go_wp2
    go_ret2
    exact ⟨rfl, b1⟩
  · rw [h1] at C1
    obtain ⟨m, rfl, hd⟩ := desB_true h1
    have hr : genusR (m : Int) f g = .tuple #[.int .i64 (1 - eulN f g m / 2), .int .i64 0] := by unfold genusR; rw [if_pos h1, Int.toNat_natCast]
    rw [hr]
    have C2 := hide fun w => euler_any f g m hd w
    obtain ⟨a, ha, ha1, ha2⟩ := hd.eul
    rw [ha] at C2
    rw [ha, show 1 - 2 * a / 2 = 1 - a from by omega]
    clear h1 hr hd ha
    go_enter Try.func37, Try.ntmps37
    go_wp2_with fail
    refine (C1.out _).mono ?_
    rintro e w1 ⟨rfl, hb⟩
    have c1 : cellsOf w1 w.heap.size = dv m f g := (below_cells hb (by simp)).trans (cellsOf_heap (heap_at _ _ _ rfl))
    have b1 := (below1 w (.cells (dv m f g) 39)).trans (hb.mono (by simp))
    clear hb
    go_wp2_with fail
    refine (C2.out _).mono ?_
    rintro e w2 ⟨rfl, hb⟩
    have b2 := b1.trans (hb.mono b1.size)
    clear hb b1 c1
    go_wp2
    go_ret2
    exact ⟨rfl, b2⟩

set_option maxRecDepth 100000 in
set_option maxHeartbeats 1000000 in
theorem sGenusOf_any (n : Int) (f g : Nat → Nat) (hf : ∀ i, f i < 256) (hg : ∀ i, g i < 256) (w : World) :
    Calls Try.prog 36 #[.agg (dv n f g)] w fun e w' => e = .returned (genusR n f g) ∧ Below w.heap.size w w' := by
  have C1 := hide fun w => sIs_any n f g hf hg w
  clear hf hg
  rcases h1 : desB n f g with _ | _
  · rw [h1] at C1
    have hr : genusR n f g = .tuple #[.int .i64 0, .int .i64 1] := by unfold genusR; rw [if_neg (by simp [h1])]
    rw [hr]
    clear h1 hr
    go_enter Try.func36, Try.ntmps36
    go_wp2_with fail
    refine (C1.out _).mono ?_
    rintro e w1 ⟨rfl, hb⟩
    have b1 := (below1 w (.cells (dv n f g) 39)).trans (hb.mono (by simp))
    clear hb
    go_wp2
    go_ret2
    exact ⟨rfl, b1⟩
  · rw [h1] at C1
    obtain ⟨m, rfl, hd⟩ := desB_true h1
    have hr : genusR (m : Int) f g = .tuple #[.int .i64 (1 - eulN f g m / 2), .int .i64 0] := by unfold genusR; rw [if_pos h1, Int.toNat_natCast]
    rw [hr]
    have C2 := hide fun w => sGenus_any f g m hd w
    generalize 1 - eulN f g m / 2 = E at *
    clear h1 hr hd
    go_enter Try.func36, Try.ntmps36
    go_wp2_with fail
    refine (C1.out _).mono ?_
    rintro e w1 ⟨rfl, hb⟩
    have c1 : cellsOf w1 w.heap.size = dv m f g := (below_cells hb (by simp)).trans (cellsOf_heap (heap_at _ _ _ rfl))
    have b1 := (below1 w (.cells (dv m f g) 39)).trans (hb.mono (by simp))
    clear hb
    go_wp2_with fail
    refine (C2.out _).mono ?_
    rintro e w2 ⟨rfl, hb⟩
    have b2 := b1.trans (hb.mono b1.size)
    clear hb b1 c1
    go_wp2
    go_ret2
    exact ⟨rfl, b2⟩

set_option maxRecDepth 100000 in
set_option maxHeartbeats 1000000 in
theorem fnExactEulerOf_walk (n : Int) (f g : Nat → Nat) (_hn : -9223372036854775808 ≤ n ∧ n ≤ 9223372036854775807) (hf : ∀ i, f i < 256) (hg : ∀ i, g i < 256) (w : World) :
    Calls Try.prog 8 #[.agg (dv n f g)] w fun e w' => e = .returned (.bool true) ∧ Below w.heap.size w w' := by
  clear _hn
  obtain ⟨r, c, hR⟩ := eulerR_eq n f g
  have c1 := fun w => eulerOf_any n f g hf hg w
  have c2 := fun w => sEulerOf_any n f g hf hg w
  rw [hR] at c1 c2
  have C1 := hide c1; clear c1
  have C2 := hide c2; clear c2
  clear hR hf hg
  have hne : (c != c) = false := by simp
  have hnr : (r != r) = false := by simp
  go_enter Try.func8, Try.ntmps8
  go_wp2_with fail
  refine (toDessin_any n f g _).mono ?_
  rintro e w1 ⟨rfl, h1⟩
  go_wp2_with fail
  refine (C2.out _).mono ?_
  rintro e w2 ⟨rfl, h2⟩
  have b2 := (below1 w (.cells (dv n f g) 36)).trans ((h1.trans (h2.mono h1.size)).mono (by simp))
  have g2 : cellsOf w2 w.heap.size = dv n f g := (below_cells (h1.trans (h2.mono h1.size)) (by simp)).trans (cellsOf_heap (heap_at _ _ _ rfl))
  clear h1 h2
  go_wp2_with fail
  refine (toDessin_any n f g _).mono ?_
  rintro e w3 ⟨rfl, h3⟩
  go_wp2_with fail
  refine (C1.out _).mono ?_
  rintro e w4 ⟨rfl, h4⟩
  have b4 := b2.trans ((h3.trans (h4.mono h3.size)).mono b2.size)
  clear h3 h4 b2 g2
  go_wp2
  go_ret
  exact ⟨rfl, b4⟩

set_option maxRecDepth 100000 in
set_option maxHeartbeats 1000000 in
theorem fnExactGenusOf_walk (n : Int) (f g : Nat → Nat) (_hn : -9223372036854775808 ≤ n ∧ n ≤ 9223372036854775807) (hf : ∀ i, f i < 256) (hg : ∀ i, g i < 256) (w : World) :
    Calls Try.prog 9 #[.agg (dv n f g)] w fun e w' => e = .returned (.bool true) ∧ Below w.heap.size w w' := by
  clear _hn
  obtain ⟨r, c, hR⟩ := genusR_eq n f g
  have c1 := fun w => genusOf_any n f g hf hg w
  have c2 := fun w => sGenusOf_any n f g hf hg w
  rw [hR] at c1 c2
  have C1 := hide c1; clear c1
  have C2 := hide c2; clear c2
  clear hR hf hg
  have hne : (c != c) = false := by simp
  have hnr : (r != r) = false := by simp
  go_enter Try.func9, Try.ntmps9
  go_wp2_with fail
  refine (toDessin_any n f g _).mono ?_
  rintro e w1 ⟨rfl, h1⟩
  go_wp2_with fail
  refine (C2.out _).mono ?_
  rintro e w2 ⟨rfl, h2⟩
  have b2 := (below1 w (.cells (dv n f g) 36)).trans ((h1.trans (h2.mono h1.size)).mono (by simp))
  have g2 : cellsOf w2 w.heap.size = dv n f g := (below_cells (h1.trans (h2.mono h1.size)) (by simp)).trans (cellsOf_heap (heap_at _ _ _ rfl))
  clear h1 h2
  go_wp2_with fail
  refine (toDessin_any n f g _).mono ?_
  rintro e w3 ⟨rfl, h3⟩
  go_wp2_with fail
  refine (C1.out _).mono ?_
  rintro e w4 ⟨rfl, h4⟩
  have b4 := b2.trans ((h3.trans (h4.mono h3.size)).mono b2.size)
  clear h3 h4 b2 g2
  go_wp2
  go_ret
  exact ⟨rfl, b4⟩
end Go.Proofs.Ytghdbnbejkneiaa
