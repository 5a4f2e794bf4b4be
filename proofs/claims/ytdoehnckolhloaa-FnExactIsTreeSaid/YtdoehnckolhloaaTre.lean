/- Trees: isTree and treeCode of the program, l05Tree and l05Code of the model; IsTree. -/
import Derived.Test.YtdoehnckolhloaaEulOf
import Derived.Test.YtdoehnckolhloaaHS
import Derived.Test.YtdoehnckolhloaaQTail
import Derived.Test.YtdoehnckolhloaaTyW
import Derived.Test.YtdoehnckolhloaaToDs
namespace Go.Proofs.Ytdoehnckolhloaa
open Go.RowKit

/-- one vertex more than darts -/
def treP (f g : Nat → Nat) (m : Nat) : Prop := (cycs f m).length + (cycs g m).length = m + 1
instance (f g : Nat → Nat) (m : Nat) : Decidable (treP f g m) := inferInstanceAs (Decidable (_ = _))
/-- then there is one face -/
theorem treP_face {f g : Nat → Nat} {m : Nat} (hd : DesN f g m) (h : treP f g m) : (cycs (faceF f g m) m).length = 1 := by
  have h1 := hd.euler
  unfold treP at h
  omega
def treB (f g : Nat → Nat) (m : Nat) : Bool := decide (treP f g m)
theorem sortD_len (p : Nat → Nat) (m : Nat) : (sortD (lens p m)).length = (cycs p m).length := by rw [(sortD_perm _).length_eq]; unfold lens; rw [List.length_map]
theorem treP_lens {f g : Nat → Nat} {m : Nat} (hd : DesN f g m) : treP f g m ↔ ((sortD (lens (faceF f g m) m)).length = 1 ∧ (sortD (lens f m)).length + (sortD (lens g m)).length = m + 1) := by
  rw [sortD_len, sortD_len, sortD_len]
  constructor
  · intro h; exact ⟨treP_face hd h, h⟩
  · intro h; exact h.2
noncomputable def tcode (n : Int) (f g : Nat → Nat) : Int := if desB n f g = true then (if treP f g n.toNat then 0 else 5) else 1
noncomputable def isTreeR (n : Int) (f g : Nat → Nat) : Value := if desB n f g = true then .tuple #[.bool (treB f g n.toNat), .int .i64 0] else .tuple #[.bool false, .int .i64 1]
theorem isTreeR_eq (n : Int) (f g : Nat → Nat) : ∃ (a : Bool) (c : Int), isTreeR n f g = .tuple #[.bool a, .int .i64 c] := by
  unfold isTreeR; split
  · exact ⟨_, _, rfl⟩
  · exact ⟨_, _, rfl⟩

set_option maxRecDepth 100000 in
set_option maxHeartbeats 1000000 in
theorem isTree_any (f g : Nat → Nat) (m : Nat) (hd : DesN f g m) (w : World) :
    Calls Try.prog 49 #[.agg (dv m f g)] w fun e w' => e = .returned (.bool (treB f g m)) ∧ Below w.heap.size w w' := by
  have C1 := hide fun w => countCycles_any f m hd.black w
  have C2 := hide fun w => countCycles_any g m hd.white w
  have HH0 := (Holds.start w).blk (dv m f g) 29 w.heap.size rfl
  have hn := dv_n m f g
  have l1 := cycs_le hd.black
  have l2 := cycs_le hd.white
  have hm := hd.le
  have hR : ((((cycs f m).length : Nat) : Int) + ((cycs g m).length : Nat) == (m : Int) + 1) = treB f g m := by
    unfold treB
    by_cases h : treP f g m
    · rw [decide_eq_true h]; unfold treP at h; simp; omega
    · rw [decide_eq_false h]; unfold treP at h; simp; omega
  generalize treB f g m = R at *
  clear hd
  generalize (cycs f m).length = a at *
  generalize (cycs g m).length = b at *
  have HR := hide hR; clear hR
  go_enter Try.func49, Try.ntmps49
  go_wp2
  refine region_tail (fun wx => Holds w wx _) 15 (by kernel_rfl) (by kernel_rfl) HH0.drew ?_
  simp only [List.take_succ_cons, List.take_zero, List.drop_succ_cons, List.drop_zero]
  iterate 4
    apply q_step
    · go_simp
    · intro wx hx
      have d1 := hx.cells 0 rfl
      have c1 := hx.cell 0 rfl hn
      go_simp
      exact rfl
  iterate 1
    apply q_step
    · go_simp
    · intro wx hx
      have d1 := hx.cells 0 rfl
      have c1 := hx.cell 0 rfl hn
      go_simp
      exact Calls.mono (C1.out wx) fun e w' h => ⟨h.1, hx.call h.2⟩
  iterate 4
    apply q_step
    · go_simp
    · intro wx hx
      have d1 := hx.cells 0 rfl
      have c1 := hx.cell 0 rfl hn
      go_simp
      exact rfl
  iterate 1
    apply q_step
    · go_simp
    · intro wx hx
      have d1 := hx.cells 0 rfl
      have c1 := hx.cell 0 rfl hn
      go_simp
      exact Calls.mono (C2.out wx) fun e w' h => ⟨h.1, hx.call h.2⟩
  iterate 5
    apply q_step
    · go_simp
    · intro wx hx
      have d1 := hx.cells 0 rfl
      have c1 := hx.cell 0 rfl hn
      go_simp
      exact rfl
  refine wpQuiet_nil ?_
  intro w1 H2
  go_wp2
  go_ret
  refine ⟨?_, H2.low⟩
  rw [← HR.out]
  first | rfl | done

set_option maxRecDepth 100000 in
set_option maxHeartbeats 1000000 in
theorem l05Tree_any (f g : Nat → Nat) (m : Nat) (hd : DesN f g m) (w : World) :
    Calls Try.prog 46 #[.agg (dv m f g)] w fun e w' => e = .returned (.bool (treB f g m)) ∧ Below w.heap.size w w' := by
  have C1 := hide fun w => sPassport_any f g m hd w
  have hn := dv_n m f g
  have hm := hd.le
  have hB := treP_lens hd
  have l1 := cycs_le hd.black
  have l2 := cycs_le hd.white
  have l3 := cycs_le hd.face
  rw [← sortD_len] at l1 l2 l3
  obtain ⟨R, hR⟩ : ∃ R, R = treB f g m := ⟨_, rfl⟩
  have hY : treP f g m → R = true := fun h => by rw [hR]; exact decide_eq_true h
  have hN : ¬ treP f g m → R = false := fun h => by rw [hR]; exact decide_eq_false h
  rw [← hR]
  clear hR hd
  unfold passN at C1
  generalize treP f g m = P at *
  generalize sortD (lens f m) = k1 at *
  generalize sortD (lens g m) = k2 at *
  generalize sortD (lens (faceF f g m) m) = k3 at *
  obtain ⟨y1, hy1⟩ : ∃ y, y = k1.length := ⟨_, rfl⟩
  obtain ⟨y2, hy2⟩ : ∃ y, y = k2.length := ⟨_, rfl⟩
  obtain ⟨y3, hy3⟩ : ∃ y, y = k3.length := ⟨_, rfl⟩
  rw [← hy1] at l1 hB
  rw [← hy2] at l2 hB
  rw [← hy3] at l3 hB
  have Y := hide (And.intro hy1 (And.intro hy2 hy3)); clear hy1 hy2 hy3
  have HB := hide (And.intro hB (And.intro hY hN)); clear hB hY hN
  go_enter Try.func46, Try.ntmps46
  go_wp2_with fail
  refine (C1.out _).mono ?_
  rintro e w1 ⟨v, rfl, hb, ho⟩
  have c1 : cellsOf w1 w.heap.size = dv m f g := (below_cells hb (by simp)).trans (cellsOf_heap (heap_at _ _ _ rfl))
  have b1 := (below1 w (.cells (dv m f g) 29)).trans (hb.mono (by simp))
  obtain ⟨A, c, vs, rfl, hv⟩ := own2_form ho
  obtain ⟨q1, A1, d1, rfl, _, _, x1, _⟩ := hv.at (i := 0) (by simp)
  obtain ⟨q2, A2, d2, e2, _, _, x2, _⟩ := hv.at (i := 1) (by simp)
  obtain ⟨q3, A3, d3, e3, _, _, x3, _⟩ := hv.at (i := 2) (by simp)
  injection e2 with e2
  injection e2 with e2
  subst e2
  injection e3 with e3
  injection e3 with e3
  subst e3
  simp only [List.getElem_cons_zero, List.getElem_cons_succ] at x1 x2 x3
  have n0 : w1.cell? ⟨w.heap.size, 0, none⟩ = some (.int .i64 m) := by rw [cell_of_cells, c1]; exact hn
  clear ho hv hb c1 C1 hn
  rw [← Y.out.1] at x1
  rw [← Y.out.2.1] at x2
  rw [← Y.out.2.2] at x3
  by_cases h3 : y3 = 1
  · have e3 : (((y3 : Nat) : Int) == 1) = true := by simp [h3]
    by_cases h12 : y1 + y2 = m + 1
    · have e12 : (((y1 : Nat) : Int) + (y2 : Nat) == (m : Int) + 1) = true := by simp; omega
      have hR := HB.out.2.1 (HB.out.1.2 ⟨h3, h12⟩)
      subst hR
      clear h3 h12
      go_wp2
      go_quiet (fail)
      go_wp2
      go_ret
      exact ⟨rfl, below_drewN b1 _⟩
    · have e12 : (((y1 : Nat) : Int) + (y2 : Nat) == (m : Int) + 1) = false := by simp; omega
      have hR := HB.out.2.2 fun h => h12 (HB.out.1.1 h).2
      subst hR
      clear h3 h12
      go_wp2
      go_quiet (fail)
      go_wp2
      go_ret
      exact ⟨rfl, below_drewN b1 _⟩
  · have e3 : (((y3 : Nat) : Int) == 1) = false := by simp; omega
    have hR := HB.out.2.2 fun h => h3 (HB.out.1.1 h).1
    subst hR
    clear h3
    go_wp2
    go_quiet (fail)
    go_wp2
    go_ret
    exact ⟨rfl, below_drewN b1 _⟩

set_option maxRecDepth 100000 in
set_option maxHeartbeats 1000000 in
theorem isTreeOf_any (n : Int) (f g : Nat → Nat) (hf : ∀ i, f i < 256) (hg : ∀ i, g i < 256) (w : World) :
    Calls Try.prog 17 #[.agg (dv n f g)] w fun e w' => e = .returned (isTreeR n f g) ∧ Below w.heap.size w w' := by
  have C1 := hide fun w => isDessin_any n f g hf hg w
  have HH0 := (Holds.start w).blk (dv n f g) 29 w.heap.size rfl
  clear hf hg
  rcases h1 : desB n f g with _ | _
  · rw [h1] at C1
    have hr : isTreeR n f g = .tuple #[.bool false, .int .i64 1] := by unfold isTreeR; rw [if_neg (by simp [h1])]
    rw [hr]
    clear h1 hr
    go_enter Try.func17, Try.ntmps17
    go_wp2_with fail
    refine (C1.out _).mono ?_
    rintro e w1 ⟨rfl, hb1⟩
    have HH1 := HH0.call hb1
    clear hb1
    go_wp2
    go_ret2
    exact ⟨rfl, HH1.low⟩
  · rw [h1] at C1
    obtain ⟨m, rfl, hd⟩ := desB_true h1
    have hr : isTreeR (m : Int) f g = .tuple #[.bool (treB f g m), .int .i64 0] := by unfold isTreeR; rw [if_pos h1, Int.toNat_natCast]
    rw [hr]
    have C2 := hide fun w => isTree_any f g m hd w
    generalize treB f g m = E at *
    clear h1 hr hd
    go_enter Try.func17, Try.ntmps17
    go_wp2_with fail
    refine (C1.out _).mono ?_
    rintro e w1 ⟨rfl, hb1⟩
    have HH1 := HH0.call hb1
    have cd1 := HH1.cells 0 rfl
    clear hb1
    go_wp2_with fail
    refine (C2.out _).mono ?_
    rintro e w2 ⟨rfl, hb2⟩
    have HH2 := HH1.call hb2
    clear hb2 cd1
    go_wp2
    go_ret2
    exact ⟨rfl, HH2.low⟩

set_option maxRecDepth 100000 in
set_option maxHeartbeats 1000000 in
theorem sIsTreeOf_any (n : Int) (f g : Nat → Nat) (hf : ∀ i, f i < 256) (hg : ∀ i, g i < 256) (w : World) :
    Calls Try.prog 15 #[.agg (dv n f g)] w fun e w' => e = .returned (isTreeR n f g) ∧ Below w.heap.size w w' := by
  have C1 := hide fun w => sIs_any n f g hf hg w
  have HH0 := (Holds.start w).blk (dv n f g) 29 w.heap.size rfl
  clear hf hg
  rcases h1 : desB n f g with _ | _
  · rw [h1] at C1
    have hr : isTreeR n f g = .tuple #[.bool false, .int .i64 1] := by unfold isTreeR; rw [if_neg (by simp [h1])]
    rw [hr]
    clear h1 hr
    go_enter Try.func15, Try.ntmps15
    go_wp2_with fail
    refine (C1.out _).mono ?_
    rintro e w1 ⟨rfl, hb1⟩
    have HH1 := HH0.call hb1
    clear hb1
    go_wp2
    go_ret2
    exact ⟨rfl, HH1.low⟩
  · rw [h1] at C1
    obtain ⟨m, rfl, hd⟩ := desB_true h1
    have hr : isTreeR (m : Int) f g = .tuple #[.bool (treB f g m), .int .i64 0] := by unfold isTreeR; rw [if_pos h1, Int.toNat_natCast]
    rw [hr]
    have C2 := hide fun w => l05Tree_any f g m hd w
    generalize treB f g m = E at *
    clear h1 hr hd
    go_enter Try.func15, Try.ntmps15
    go_wp2_with fail
    refine (C1.out _).mono ?_
    rintro e w1 ⟨rfl, hb1⟩
    have HH1 := HH0.call hb1
    have cd1 := HH1.cells 0 rfl
    clear hb1
    go_wp2_with fail
    refine (C2.out _).mono ?_
    rintro e w2 ⟨rfl, hb2⟩
    have HH2 := HH1.call hb2
    clear hb2 cd1
    go_wp2
    go_ret2
    exact ⟨rfl, HH2.low⟩

set_option maxRecDepth 100000 in
set_option maxHeartbeats 1000000 in
theorem treeCode_any (n : Int) (f g : Nat → Nat) (hf : ∀ i, f i < 256) (hg : ∀ i, g i < 256) (w : World) :
    Calls Try.prog 58 #[.agg (dv n f g)] w fun e w' => e = .returned (.int .i64 (tcode n f g)) ∧ Below w.heap.size w w' := by
  have C1 := hide fun w => isDessin_any n f g hf hg w
  have HH0 := (Holds.start w).blk (dv n f g) 29 w.heap.size rfl
  clear hf hg
  rcases h1 : desB n f g with _ | _
  · rw [h1] at C1
    have hr : tcode n f g = 1 := by unfold tcode; rw [if_neg (by simp [h1])]
    rw [hr]
    clear h1 hr
    go_enter Try.func58, Try.ntmps58
    go_wp2_with fail
    refine (C1.out _).mono ?_
    rintro e w1 ⟨rfl, hb1⟩
    have HH1 := HH0.call hb1
    clear hb1
    go_wp2
    go_ret
    exact ⟨rfl, HH1.low⟩
  · rw [h1] at C1
    obtain ⟨m, rfl, hd⟩ := desB_true h1
    have C2 := hide fun w => isTree_any f g m hd w
    by_cases ht : treP f g m
    · have hr : tcode (m : Int) f g = 0 := by unfold tcode; rw [if_pos h1, Int.toNat_natCast, if_pos ht]
      have hb : treB f g m = true := decide_eq_true ht
      rw [hr]
      rw [hb] at C2
      clear h1 hr hd ht hb
      go_enter Try.func58, Try.ntmps58
      go_wp2_with fail
      refine (C1.out _).mono ?_
      rintro e w1 ⟨rfl, hb1⟩
      have HH1 := HH0.call hb1
      have cd1 := HH1.cells 0 rfl
      clear hb1
      go_wp2_with fail
      refine (C2.out _).mono ?_
      rintro e w2 ⟨rfl, hb2⟩
      have HH2 := HH1.call hb2
      clear hb2 cd1
      go_wp2
      go_ret
      exact ⟨rfl, HH2.low⟩
    · have hr : tcode (m : Int) f g = 5 := by unfold tcode; rw [if_pos h1, Int.toNat_natCast, if_neg ht]
      have hb : treB f g m = false := decide_eq_false ht
      rw [hr]
      rw [hb] at C2
      clear h1 hr hd ht hb
      go_enter Try.func58, Try.ntmps58
      go_wp2_with fail
      refine (C1.out _).mono ?_
      rintro e w1 ⟨rfl, hb1⟩
      have HH1 := HH0.call hb1
      have cd1 := HH1.cells 0 rfl
      clear hb1
      go_wp2_with fail
      refine (C2.out _).mono ?_
      rintro e w2 ⟨rfl, hb2⟩
      have HH2 := HH1.call hb2
      clear hb2 cd1
      go_wp2
      go_ret
      exact ⟨rfl, HH2.low⟩

set_option maxRecDepth 100000 in
set_option maxHeartbeats 1000000 in
theorem l05Code_any (n : Int) (f g : Nat → Nat) (hf : ∀ i, f i < 256) (hg : ∀ i, g i < 256) (w : World) :
    Calls Try.prog 57 #[.agg (dv n f g)] w fun e w' => e = .returned (.int .i64 (tcode n f g)) ∧ Below w.heap.size w w' := by
  have C1 := hide fun w => sIs_any n f g hf hg w
  have HH0 := (Holds.start w).blk (dv n f g) 29 w.heap.size rfl
  clear hf hg
  rcases h1 : desB n f g with _ | _
  · rw [h1] at C1
    have hr : tcode n f g = 1 := by unfold tcode; rw [if_neg (by simp [h1])]
    rw [hr]
    clear h1 hr
    go_enter Try.func57, Try.ntmps57
    go_wp2_with fail
    refine (C1.out _).mono ?_
    rintro e w1 ⟨rfl, hb1⟩
    have HH1 := HH0.call hb1
    clear hb1
    go_wp2
    go_ret
    exact ⟨rfl, HH1.low⟩
  · rw [h1] at C1
    obtain ⟨m, rfl, hd⟩ := desB_true h1
    have C2 := hide fun w => l05Tree_any f g m hd w
    by_cases ht : treP f g m
    · have hr : tcode (m : Int) f g = 0 := by unfold tcode; rw [if_pos h1, Int.toNat_natCast, if_pos ht]
      have hb : treB f g m = true := decide_eq_true ht
      rw [hr]
      rw [hb] at C2
      clear h1 hr hd ht hb
      go_enter Try.func57, Try.ntmps57
      go_wp2_with fail
      refine (C1.out _).mono ?_
      rintro e w1 ⟨rfl, hb1⟩
      have HH1 := HH0.call hb1
      have cd1 := HH1.cells 0 rfl
      clear hb1
      go_wp2_with fail
      refine (C2.out _).mono ?_
      rintro e w2 ⟨rfl, hb2⟩
      have HH2 := HH1.call hb2
      clear hb2 cd1
      go_wp2
      go_ret
      exact ⟨rfl, HH2.low⟩
    · have hr : tcode (m : Int) f g = 5 := by unfold tcode; rw [if_pos h1, Int.toNat_natCast, if_neg ht]
      have hb : treB f g m = false := decide_eq_false ht
      rw [hr]
      rw [hb] at C2
      clear h1 hr hd ht hb
      go_enter Try.func57, Try.ntmps57
      go_wp2_with fail
      refine (C1.out _).mono ?_
      rintro e w1 ⟨rfl, hb1⟩
      have HH1 := HH0.call hb1
      have cd1 := HH1.cells 0 rfl
      clear hb1
      go_wp2_with fail
      refine (C2.out _).mono ?_
      rintro e w2 ⟨rfl, hb2⟩
      have HH2 := HH1.call hb2
      clear hb2 cd1
      go_wp2
      go_ret
      exact ⟨rfl, HH2.low⟩

end Go.Proofs.Ytdoehnckolhloaa
