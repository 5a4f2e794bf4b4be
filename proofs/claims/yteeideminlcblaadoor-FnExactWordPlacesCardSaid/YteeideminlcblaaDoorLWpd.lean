/- WordPlaces of program and model; the law's walk -/
import Derived.Test.YteeideminlcblaaDoorWpS
import Derived.Test.YteeideminlcblaaDoorIsW
import Derived.Test.YteeideminlcblaaDoorEqPl
import Derived.Test.YteeideminlcblaaDoorToDs
namespace Go.Proofs.YteeideminlcblaaDoor
open Go.RowKit

noncomputable def wpR (n : Int) (f g : Nat → Nat) (s : ByteArray) : Value := if desB n f g = true ∧ wdB s = true then .tuple #[.agg (av (wplF f g n.toNat (lts s))), .int .i64 0] else .tuple #[.agg (av fun _ => 0), .int .i64 1]
theorem wpR_eq (n : Int) (f g : Nat → Nat) (s : ByteArray) : ∃ (r : Nat → Nat) (c : Int), wpR n f g s = .tuple #[.agg (av r), .int .i64 c] := by
  unfold wpR; split <;> exact ⟨_, _, rfl⟩
set_option maxRecDepth 100000 in
set_option maxHeartbeats 1000000 in
theorem wordPlacesD_any (n : Int) (f g : Nat → Nat) (hf : ∀ i, f i < 256) (hg : ∀ i, g i < 256) (s : ByteArray) (hs : s.size ≤ 140737488355328) (w : World) :
    Calls Tryd.prog 16 #[.agg (dv n f g), .string s] w fun e w' => e = .returned (wpR n f g s) ∧ Below w.heap.size w w' := by
  have C1 := hide fun w => isDessin_any n f g hf hg w
  have CW := hide fun w => isWord_any s w
  have HH0 := ((Holds.start w).blk (dv n f g) 32 w.heap.size rfl).blk (av fun _ => 0) 28 (w.heap.size + 1) (by simp)
  clear hf hg
  rcases h1 : desB n f g with _ | _
  · rw [h1] at C1
    have hr : wpR n f g s = .tuple #[.agg (av fun _ => 0), .int .i64 1] := by unfold wpR; rw [if_neg (by simp [h1])]
    rw [hr]
    clear h1 hr hs
    go_enter Tryd.func16, Tryd.ntmps16
    go_wp2_with fail
    rw [← av_zero]
    refine (C1.out _).mono ?_
    rintro e w1 ⟨rfl, hb⟩
    have HH1 := HH0.call hb
    clear hb HH0
    have rr := HH1.rowOk (n := 16) 0 rfl (av_size _)
    have HF := HH1.setRow 0 rfl (av fun _ => 0)
    go_wp2
    rw [← av_zero]
    exact res_agg2 (p := 4) (t := 5) (g := w.heap.size + 1) (v := .int .i64 1) aggP (av_size _) rfl rfl rfl rfl (HF.at 0 rfl) ⟨rfl, HF.low⟩
  rw [h1] at C1
  rcases h2 : wdB s with _ | _
  · rw [h2] at CW
    have hr : wpR n f g s = .tuple #[.agg (av fun _ => 0), .int .i64 1] := by unfold wpR; rw [if_neg (by simp [h2])]
    rw [hr]
    clear h1 h2 hr hs
    go_enter Tryd.func16, Tryd.ntmps16
    go_wp2_with fail
    rw [← av_zero]
    refine (C1.out _).mono ?_
    rintro e w1 ⟨rfl, hb⟩
    have HH1 := HH0.call hb
    clear hb HH0
    go_wp2_with fail
    refine (CW.out _).mono ?_
    rintro e w2 ⟨rfl, hb⟩
    have HH2 := HH1.call hb
    clear hb HH1
    have rr := HH2.rowOk (n := 16) 0 rfl (av_size _)
    have HF := HH2.setRow 0 rfl (av fun _ => 0)
    go_wp2
    rw [← av_zero]
    exact res_agg2 (p := 4) (t := 5) (g := w.heap.size + 1) (v := .int .i64 1) aggP (av_size _) rfl rfl rfl rfl (HF.at 0 rfl) ⟨rfl, HF.low⟩
  rw [h2] at CW
  obtain ⟨m, rfl, hd⟩ := desB_true h1
  have hz := wdB_size h2
  have hl := wdB_all h2
  have C2 := hide fun w => wordPlaces_any m f g hd s (by omega) hl w
  have hr : wpR (m : Int) f g s = .tuple #[.agg (av (wplF f g m (lts s))), .int .i64 0] := by unfold wpR; rw [if_pos ⟨h1, h2⟩, Int.toNat_natCast]
  rw [hr]
  clear h1 h2 hr hs hz hl hd
  generalize wplF f g m (lts s) = r at *
  go_enter Tryd.func16, Tryd.ntmps16
  go_wp2_with fail
  rw [← av_zero]
  refine (C1.out _).mono ?_
  rintro e w1 ⟨rfl, hb⟩
  have HH1 := HH0.call hb
  clear hb HH0
  go_wp2_with fail
  refine (CW.out _).mono ?_
  rintro e w2 ⟨rfl, hb⟩
  have HH2 := HH1.call hb
  have d2 := HH2.cells 1 rfl
  clear hb HH1
  go_wp2_with fail
  refine (C2.out _).mono ?_
  rintro e w3 ⟨rfl, hb⟩
  have HH3 := HH2.call hb
  clear hb HH2 d2
  have rr := HH3.rowOk (n := 16) 0 rfl (av_size _)
  have HF := HH3.setRow 0 rfl (av r)
  go_wp2
  exact res_agg2 (p := 4) (t := 5) (g := w.heap.size + 1) (v := .int .i64 0) aggP (av_size _) rfl rfl rfl rfl (HF.at 0 rfl) ⟨rfl, HF.low⟩
set_option maxRecDepth 100000 in
set_option maxHeartbeats 1000000 in
theorem sWordPlaces_any (n : Int) (f g : Nat → Nat) (hf : ∀ i, f i < 256) (hg : ∀ i, g i < 256) (s : ByteArray) (hs : s.size ≤ 140737488355328) (w : World) :
    Calls Tryd.prog 14 #[.agg (dv n f g), .string s] w fun e w' => e = .returned (wpR n f g s) ∧ Below w.heap.size w w' := by
  have C1 := hide fun w => sIs_any n f g hf hg w
  have CW := hide fun w => l08Word_any s hs w
  have HH0 := ((Holds.start w).blk (dv n f g) 32 w.heap.size rfl).blk (av fun _ => 0) 28 (w.heap.size + 1) (by simp)
  clear hf hg
  rcases h1 : desB n f g with _ | _
  · rw [h1] at C1
    have hr : wpR n f g s = .tuple #[.agg (av fun _ => 0), .int .i64 1] := by unfold wpR; rw [if_neg (by simp [h1])]
    rw [hr]
    clear h1 hr hs
    go_enter Tryd.func14, Tryd.ntmps14
    go_wp2_with fail
    rw [← av_zero]
    refine (C1.out _).mono ?_
    rintro e w1 ⟨rfl, hb⟩
    have HH1 := HH0.call hb
    clear hb HH0
    have rr := HH1.rowOk (n := 16) 0 rfl (av_size _)
    have HF := HH1.setRow 0 rfl (av fun _ => 0)
    go_wp2
    rw [← av_zero]
    exact res_agg2 (p := 4) (t := 5) (g := w.heap.size + 1) (v := .int .i64 1) aggP (av_size _) rfl rfl rfl rfl (HF.at 0 rfl) ⟨rfl, HF.low⟩
  rw [h1] at C1
  rcases h2 : wdB s with _ | _
  · rw [h2] at CW
    have hr : wpR n f g s = .tuple #[.agg (av fun _ => 0), .int .i64 1] := by unfold wpR; rw [if_neg (by simp [h2])]
    rw [hr]
    clear h1 h2 hr hs
    go_enter Tryd.func14, Tryd.ntmps14
    go_wp2_with fail
    rw [← av_zero]
    refine (C1.out _).mono ?_
    rintro e w1 ⟨rfl, hb⟩
    have HH1 := HH0.call hb
    clear hb HH0
    go_wp2_with fail
    refine (CW.out _).mono ?_
    rintro e w2 ⟨rfl, hb⟩
    have HH2 := HH1.call hb
    clear hb HH1
    have rr := HH2.rowOk (n := 16) 0 rfl (av_size _)
    have HF := HH2.setRow 0 rfl (av fun _ => 0)
    go_wp2
    rw [← av_zero]
    exact res_agg2 (p := 4) (t := 5) (g := w.heap.size + 1) (v := .int .i64 1) aggP (av_size _) rfl rfl rfl rfl (HF.at 0 rfl) ⟨rfl, HF.low⟩
  rw [h2] at CW
  obtain ⟨m, rfl, hd⟩ := desB_true h1
  have hz := wdB_size h2
  have hl := wdB_all h2
  have C2 := hide fun w => l08Places_any m f g hd s (by omega) hl w
  have hr : wpR (m : Int) f g s = .tuple #[.agg (av (wplF f g m (lts s))), .int .i64 0] := by unfold wpR; rw [if_pos ⟨h1, h2⟩, Int.toNat_natCast]
  rw [hr]
  clear h1 h2 hr hs hz hl hd
  generalize wplF f g m (lts s) = r at *
  go_enter Tryd.func14, Tryd.ntmps14
  go_wp2_with fail
  rw [← av_zero]
  refine (C1.out _).mono ?_
  rintro e w1 ⟨rfl, hb⟩
  have HH1 := HH0.call hb
  clear hb HH0
  go_wp2_with fail
  refine (CW.out _).mono ?_
  rintro e w2 ⟨rfl, hb⟩
  have HH2 := HH1.call hb
  have d2 := HH2.cells 1 rfl
  clear hb HH1
  go_wp2_with fail
  refine (C2.out _).mono ?_
  rintro e w3 ⟨rfl, hb⟩
  have HH3 := HH2.call hb
  clear hb HH2 d2
  have rr := HH3.rowOk (n := 16) 0 rfl (av_size _)
  have HF := HH3.setRow 0 rfl (av r)
  go_wp2
  exact res_agg2 (p := 4) (t := 5) (g := w.heap.size + 1) (v := .int .i64 0) aggP (av_size _) rfl rfl rfl rfl (HF.at 0 rfl) ⟨rfl, HF.low⟩
set_option maxRecDepth 100000 in
set_option maxHeartbeats 1000000 in
theorem fnExactWordPlaces_walk (n : Int) (f g : Nat → Nat) (_hn : -9223372036854775808 ≤ n ∧ n ≤ 9223372036854775807) (hf : ∀ i, f i < 256) (hg : ∀ i, g i < 256) (s : ByteArray) {HW : Prop} (_hw : HW) (w : World) :
    Calls Tryd.prog 6 #[.agg (dv n f g), .string s] w fun e w' => e = .returned (.bool true) ∧ Below w.heap.size w w' := by
  clear _hn _hw
  by_cases hbig : (s.size : Int) > 1048576
  · have hgt : decide ((1048576 : Int) < (s.size : Int)) = true := decide_eq_true hbig
    go_enter Tryd.func6, Tryd.ntmps6
    go_wp2
    go_ret
    exact ⟨rfl, below1 _ _⟩
  have hgt : decide ((1048576 : Int) < (s.size : Int)) = false := decide_eq_false hbig
  obtain ⟨r, c, hR⟩ := wpR_eq n f g s
  have c1 := fun w => wordPlacesD_any n f g hf hg s (by omega) w
  have c2 := fun w => sWordPlaces_any n f g hf hg s (by omega) w
  rw [hR] at c1 c2
  have C1 := hide c1; clear c1
  have C2 := hide c2; clear c2
  clear hR hf hg hbig
  have hne : (c != c) = false := by simp
  go_enter Tryd.func6, Tryd.ntmps6
  go_wp2_with fail
  refine (toDessin_any n f g _).mono ?_
  rintro e w1 ⟨rfl, h1⟩
  go_wp2_with fail
  refine (C2.out _).mono ?_
  rintro e w2 ⟨rfl, h2⟩
  have b2 := (below1 w (.cells (dv n f g) 27)).trans ((h1.trans (h2.mono h1.size)).mono (by simp))
  have s2 : w.heap.size < w2.heap.size := by have := (h1.trans (h2.mono h1.size)).size; simp at this; omega
  have g2 : cellsOf w2 w.heap.size = dv n f g := (below_cells (h1.trans (h2.mono h1.size)) (by simp)).trans (cellsOf_heap (heap_at _ _ _ rfl))
  clear h1 h2
  go_wp2_with fail
  refine (toDessin_any n f g _).mono ?_
  rintro e w3 ⟨rfl, h3⟩
  go_wp2_with fail
  refine (C1.out _).mono ?_
  rintro e w4 ⟨rfl, h4⟩
  have h34 := h3.trans (h4.mono h3.size)
  have g4 : cellsOf w4 w2.heap.size = av r := (below_cells h34 (by simp)).trans (cellsOf_heap (heap_at _ _ _ rfl))
  have s4 : w2.heap.size < w4.heap.size := by have := h34.size; simp at this; omega
  have b4 := (b2.alloc (by omega) (.cells (av r) 28)).trans (h34.mono (by simp <;> omega))
  clear h3 h4 h34 b2 g2
  go_wp2_with fail
  refine (eqPlaces_same r _).mono ?_
  rintro e w5 ⟨rfl, h5⟩
  have b5 := (b4.alloc (by omega) (.cells (av r) 28)).trans (h5.mono (by simp <;> omega))
  clear h5 b4 g4
  go_wp2
  go_ret
  exact ⟨rfl, b5⟩

end Go.Proofs.YteeideminlcblaaDoor
