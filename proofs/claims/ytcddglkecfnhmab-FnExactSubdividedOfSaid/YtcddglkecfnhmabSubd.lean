/- SubdividedOf of the program and of the model; the walk of FnExactSubdividedOf -/
import Derived.Test.YtcddglkecfnhmabFace
import Derived.Test.YtcddglkecfnhmabToDs
import Derived.Test.YtcddglkecfnhmabHS
import Derived.Test.YtcddglkecfnhmabBld
import Derived.Test.YtcddglkecfnhmabCell
import Derived.Test.YtcddglkecfnhmabEqDs
import Derived.Test.YtcddglkecfnhmabWr
namespace Go.Proofs.Ytcddglkecfnhmab
open Go.RowKit

def sbB (f g : Nat → Nat) (m : Nat) : Nat → Nat → Nat
  | 0 => fun _ => 0
  | k + 1 => fset (fset (sbB f g m k) k (f k)) (m + k) (m + g k)
def sbW (m : Nat) : Nat → Nat → Nat
  | 0 => fun _ => 0
  | k + 1 => fset (fset (sbW m k) k (m + k)) (m + k) k
noncomputable def subR (n : Int) (f g : Nat → Nat) : Value :=
  if desB n f g = true then (if 16 < 2 * n then .tuple #[.agg (dv 0 (fun _ => 0) (fun _ => 0)), .int .i64 3] else .tuple #[.agg (dv ((2 * n.toNat : Nat) : Int) (sbB f g n.toNat n.toNat) (sbW n.toNat n.toNat)), .int .i64 0])
  else .tuple #[.agg (dv 0 (fun _ => 0) (fun _ => 0)), .int .i64 1]
theorem subR_eq (n : Int) (f g : Nat → Nat) : ∃ (a : Int) (r s : Nat → Nat) (c : Int), subR n f g = .tuple #[.agg (dv a r s), .int .i64 c] := by
  unfold subR; split
  · split
    · exact ⟨_, _, _, _, rfl⟩
    · exact ⟨_, _, _, _, rfl⟩
  · exact ⟨_, _, _, _, rfl⟩

set_option maxRecDepth 100000 in
set_option maxHeartbeats 2000000 in
theorem subdividedOf_any (n : Int) (f g : Nat → Nat) (hf : ∀ i, f i < 256) (hg : ∀ i, g i < 256) (w : World) :
    Calls Try.prog 20 #[.agg (dv n f g)] w fun e w' => e = .returned (subR n f g) ∧ Below w.heap.size w w' := by
  have C1 := hide fun w => isDessin_any n f g hf hg w
  have HH0 := ((Holds.start w).blk (dv n f g) 29 w.heap.size rfl).blk (dv 0 (fun _ => 0) (fun _ => 0)) 29 (w.heap.size + 1) (by simp)
  clear hf hg
  rcases h1 : desB n f g with _ | _
  · rw [h1] at C1
    have hr : subR n f g = .tuple #[.agg (dv 0 (fun _ => 0) (fun _ => 0)), .int .i64 1] := by unfold subR; rw [if_neg (by simp [h1])]
    rw [hr]
    clear h1 hr
    go_enter Try.func20, Try.ntmps20
    go_wp2_with fail
    rw [← dv_zero]
    refine (C1.out _).mono ?_
    rintro e w1 ⟨rfl, hb⟩
    have HH1 := HH0.call hb
    have cd1 := HH1.cells 1 rfl
    have rr1 := HH1.rowOk (n := 33) 0 rfl (dv_size _ _ _)
    clear hb
    have HH2 := HH1.setRow 0 rfl (dv 0 (fun _ => 0) (fun _ => 0))
    go_wp2
    exact res_agg2 (p := 2) (t := 3) (g := w.heap.size + 1) (v := .int .i64 1) aggD (dv_size _ _ _) rfl rfl rfl rfl (HH2.at 0 rfl) ⟨rfl, HH2.low⟩
  · rw [h1] at C1
    obtain ⟨m, rfl, hd⟩ := desB_true h1
    have hm := hd.le
    have hn := dv_n m f g
    have w1m : IntKind.i64.wrap (2 * (m : Int)) = ((2 * m : Nat) : Int) := by rw [wr64k (by omega) (by omega)]; omega
    have w2m : wrap64 (2 * (m : Int)) = ((2 * m : Nat) : Int) := by rw [wr64 (by omega) (by omega)]; omega
    by_cases hbig : 16 < 2 * m
    · have hr : subR (m : Int) f g = .tuple #[.agg (dv 0 (fun _ => 0) (fun _ => 0)), .int .i64 3] := by unfold subR; rw [if_pos h1, if_pos (by omega)]
      rw [hr]
      have hdec : decide ((16 : Int) < ((2 * m : Nat) : Int)) = true := by simp; omega
      clear h1 hr hd
      go_enter Try.func20, Try.ntmps20
      go_wp2_with fail
      rw [← dv_zero]
      refine (C1.out _).mono ?_
      rintro e w1 ⟨rfl, hb⟩
      have HH1 := HH0.call hb
      have cd1 := HH1.cells 1 rfl
      have rr1 := HH1.rowOk (n := 33) 0 rfl (dv_size _ _ _)
      clear hb
      have cn1 := HH1.cell 1 rfl hn
      have HH2 := HH1.setRow 0 rfl (dv 0 (fun _ => 0) (fun _ => 0))
      go_wp2
      exact res_agg2 (p := 2) (t := 3) (g := w.heap.size + 1) (v := .int .i64 3) aggD (dv_size _ _ _) rfl rfl rfl rfl (HH2.at 0 rfl) ⟨rfl, HH2.low⟩
    · have hr : subR (m : Int) f g = .tuple #[.agg (dv ((2 * m : Nat) : Int) (sbB f g m m) (sbW m m)), .int .i64 0] := by unfold subR; rw [if_pos h1, if_neg (by omega), Int.toNat_natCast]
      rw [hr]
      have hdec : decide ((16 : Int) < ((2 * m : Nat) : Int)) = false := by simp; omega
      have lf := hide hd.bf.1
      have lg := hide hd.bg.1
      clear h1 hr hd
      go_enter Try.func20, Try.ntmps20
      go_wp2_with fail
      rw [← dv_zero]
      refine (C1.out _).mono ?_
      rintro e w1 ⟨rfl, hb⟩
      have HH1 := HH0.call hb
      have cd1 := HH1.cells 1 rfl
      have rr1 := HH1.rowOk (n := 33) 0 rfl (dv_size _ _ _)
      clear hb
      have cn1 := HH1.cell 1 rfl hn
      have HH2 : Holds w (w1.alloc (.cells (dv ((2 * m : Nat) : Int) (sbB f g m 0) (sbW m 0)) 29)) _ := HH1.blk _ _ w1.heap.size rfl
      go_wp2
      generalize hG : w.heap.size = G at *
      generalize hG1 : w1.heap.size = G1 at *
      have HG := hide hG; clear hG
      have HG1 := hide hG1; clear hG1
      go_loopw [21] (fun x wr => ∃ k : Nat, k ≤ m ∧ x = .int .i64 k ∧ Holds w wr [pBlk G1 (dv ((2 * m : Nat) : Int) (sbB f g m k) (sbW m k)) 29, pBlk (G + 1) (dv 0 (fun _ => 0) (fun _ => 0)) 29, pBlk G (dv m f g) 29]) (fun x _ => m - (intOf x).toNat)
      case atStart => exact ⟨0, by omega, rfl, HH2⟩
      case round =>
        clear HH2 HH1 cd1 cn1 rr1
        obtain ⟨k, hk, rfl, hH⟩ := hrel
        have n0 := hH.cell 2 rfl hn
        by_cases hlt : k < m
        · have a1 := lf.out k hlt
          have a2 := lg.out k hlt
          have x1 := hH.cell 2 rfl (dv_b (m : Int) f g (i := k) (by omega))
          have x2 := hH.cell 2 rfl (dv_w (m : Int) f g (i := k) (by omega))
          have y1 := hH.cell 0 rfl (dv_b ((2 * m : Nat) : Int) (sbB f g m k) (sbW m k) (i := k) (by omega))
          have y2 := hH.cell 0 rfl (dv_b ((2 * m : Nat) : Int) (sbB f g m k) (sbW m k) (i := m + k) (by omega))
          have y3 := hH.cell 0 rfl (dv_w ((2 * m : Nat) : Int) (sbB f g m k) (sbW m k) (i := k) (by omega))
          have y4 := hH.cell 0 rfl (dv_w ((2 * m : Nat) : Int) (sbB f g m k) (sbW m k) (i := m + k) (by omega))
          have z1 := hH.frozen 0 rfl (1 + k)
          have z2 := hH.frozen 0 rfl (1 + (m + k))
          have z3 := hH.frozen 0 rfl (17 + k)
          have z4 := hH.frozen 0 rfl (17 + (m + k))
          have wn : wrap64 ((m : Int) + (k : Int)) = ((m + k : Nat) : Int) := by rw [wr64 (by omega) (by omega)]; omega
          have wk : IntKind.i64.wrap ((m : Int) + (k : Int)) = ((m + k : Nat) : Int) := by rw [wr64k (by omega) (by omega)]; omega
          have wb : IntKind.u8.wrap ((m : Int) + (g k : Int)) = ((m + g k : Nat) : Int) := by rw [wr8k (by omega) (by omega)]; omega
          have ha := hH.apart (i := 0) (j := 2) (by decide) rfl rfl (g := G)
          have hne : ¬ G = G1 := fun e => ha e rfl
          have hne' : ¬ G1 = G := fun e => hne e.symm
          have hs := ((((hH.set 0 rfl (1 + k) (.int .u8 (f k))).set 0 rfl (1 + (m + k)) (.int .u8 ((m : Int) + (g k : Int)))).set 0 rfl (17 + k) (.int .u8 ((m : Int) + (k : Int)))).set 0 rfl (17 + (m + k)) (.int .u8 (k : Nat)))
          simp only [List.set_cons_zero, ← Int.natCast_add] at hs
          rw [dv_setb _ _ _ _ (by omega), dv_setb _ _ _ _ (by omega), dv_setw _ _ _ _ (by omega), dv_setw _ _ _ _ (by omega)] at hs
          simp only [Int.natCast_add] at hs
          have HS := hide hs; clear hs ha
          have hB : fset (fset (sbB f g m k) k (f k)) (m + k) (m + g k) = sbB f g m (k + 1) := rfl
          have hW : fset (fset (sbW m k) k (m + k)) (m + k) k = sbW m (k + 1) := rfl
          have hs' := HS.out
          rw [hB, hW] at hs'
          replace HS := hide hs'; clear hs' hB hW
          generalize f k = fk at *
          generalize g k = gk at *
          have c1 : IntKind.u8.wrap (m : Int) = m := wr8k (by omega) (by omega)
          have c2 : IntKind.u8.wrap (k : Int) = k := wr8k (by omega) (by omega)
          have c3 : IntKind.u8.wrap ((m + k : Nat) : Int) = ((m + k : Nat) : Int) := wr8k (by omega) (by omega)
          go_wp2
          go_roundw
          case rel => exact ⟨k + 1, by omega, by go_num, HS.out⟩
          case measure => simp [intOf]; omega
        · obtain rfl : k = m := by omega
          have rr := hH.rowOk (n := 33) 1 rfl (dv_size _ _ _)
          have cd := hH.cells 0 rfl
          have HH3 := hH.setRow 1 rfl (dv ((2 * k : Nat) : Int) (sbB f g k k) (sbW k k))
          clear hlt
          go_wp2
          exact res_agg2 (p := 2) (t := 3) (g := G + 1) (v := .int .i64 0) aggD (dv_size _ _ _) rfl rfl rfl rfl (HH3.at 1 rfl) ⟨rfl, HH3.low⟩

set_option maxRecDepth 100000 in
set_option maxHeartbeats 2000000 in
theorem sSubdividedOf_any (n : Int) (f g : Nat → Nat) (hf : ∀ i, f i < 256) (hg : ∀ i, g i < 256) (w : World) :
    Calls Try.prog 19 #[.agg (dv n f g)] w fun e w' => e = .returned (subR n f g) ∧ Below w.heap.size w w' := by
  have C1 := hide fun w => sIs_any n f g hf hg w
  have HH0 := ((Holds.start w).blk (dv n f g) 29 w.heap.size rfl).blk (dv 0 (fun _ => 0) (fun _ => 0)) 29 (w.heap.size + 1) (by simp)
  clear hf hg
  rcases h1 : desB n f g with _ | _
  · rw [h1] at C1
    have hr : subR n f g = .tuple #[.agg (dv 0 (fun _ => 0) (fun _ => 0)), .int .i64 1] := by unfold subR; rw [if_neg (by simp [h1])]
    rw [hr]
    clear h1 hr
    go_enter Try.func19, Try.ntmps19
    go_wp2_with fail
    rw [← dv_zero]
    refine (C1.out _).mono ?_
    rintro e w1 ⟨rfl, hb⟩
    have HH1 := HH0.call hb
    have cd1 := HH1.cells 1 rfl
    have rr1 := HH1.rowOk (n := 33) 0 rfl (dv_size _ _ _)
    clear hb
    have HH2 := HH1.setRow 0 rfl (dv 0 (fun _ => 0) (fun _ => 0))
    go_wp2
    exact res_agg2 (p := 2) (t := 3) (g := w.heap.size + 1) (v := .int .i64 1) aggD (dv_size _ _ _) rfl rfl rfl rfl (HH2.at 0 rfl) ⟨rfl, HH2.low⟩
  · rw [h1] at C1
    obtain ⟨m, rfl, hd⟩ := desB_true h1
    have hm := hd.le
    have hn := dv_n m f g
    have w1m : IntKind.i64.wrap (2 * (m : Int)) = ((2 * m : Nat) : Int) := by rw [wr64k (by omega) (by omega)]; omega
    have w2m : wrap64 (2 * (m : Int)) = ((2 * m : Nat) : Int) := by rw [wr64 (by omega) (by omega)]; omega
    by_cases hbig : 16 < 2 * m
    · have hr : subR (m : Int) f g = .tuple #[.agg (dv 0 (fun _ => 0) (fun _ => 0)), .int .i64 3] := by unfold subR; rw [if_pos h1, if_pos (by omega)]
      rw [hr]
      have hdec : decide ((16 : Int) < ((2 * m : Nat) : Int)) = true := by simp; omega
      clear h1 hr hd
      go_enter Try.func19, Try.ntmps19
      go_wp2_with fail
      rw [← dv_zero]
      refine (C1.out _).mono ?_
      rintro e w1 ⟨rfl, hb⟩
      have HH1 := HH0.call hb
      have cd1 := HH1.cells 1 rfl
      have rr1 := HH1.rowOk (n := 33) 0 rfl (dv_size _ _ _)
      clear hb
      have cn1 := HH1.cell 1 rfl hn
      have HH2 := HH1.setRow 0 rfl (dv 0 (fun _ => 0) (fun _ => 0))
      go_wp2
      exact res_agg2 (p := 2) (t := 3) (g := w.heap.size + 1) (v := .int .i64 3) aggD (dv_size _ _ _) rfl rfl rfl rfl (HH2.at 0 rfl) ⟨rfl, HH2.low⟩
    · have hr : subR (m : Int) f g = .tuple #[.agg (dv ((2 * m : Nat) : Int) (sbB f g m m) (sbW m m)), .int .i64 0] := by unfold subR; rw [if_pos h1, if_neg (by omega), Int.toNat_natCast]
      rw [hr]
      have hdec : decide ((16 : Int) < ((2 * m : Nat) : Int)) = false := by simp; omega
      have lf := hide hd.bf.1
      have lg := hide hd.bg.1
      clear h1 hr hd
      go_enter Try.func19, Try.ntmps19
      go_wp2_with fail
      rw [← dv_zero]
      refine (C1.out _).mono ?_
      rintro e w1 ⟨rfl, hb⟩
      have HH1 := HH0.call hb
      have cd1 := HH1.cells 1 rfl
      have rr1 := HH1.rowOk (n := 33) 0 rfl (dv_size _ _ _)
      clear hb
      have cn1 := HH1.cell 1 rfl hn
      have HH2 : Holds w (w1.alloc (.cells (dv ((2 * m : Nat) : Int) (sbB f g m 0) (sbW m 0)) 29)) _ := HH1.blk _ _ w1.heap.size rfl
      go_wp2
      generalize hG : w.heap.size = G at *
      generalize hG1 : w1.heap.size = G1 at *
      have HG := hide hG; clear hG
      have HG1 := hide hG1; clear hG1
      go_loopw [6] (fun x wr => ∃ k : Nat, k ≤ m ∧ x = .int .i64 k ∧ Holds w wr [pBlk G1 (dv ((2 * m : Nat) : Int) (sbB f g m k) (sbW m k)) 29, pBlk (G + 1) (dv 0 (fun _ => 0) (fun _ => 0)) 29, pBlk G (dv m f g) 29]) (fun x _ => m - (intOf x).toNat)
      case atStart => exact ⟨0, by omega, rfl, HH2⟩
      case round =>
        clear HH2 HH1 cd1 cn1 rr1
        obtain ⟨k, hk, rfl, hH⟩ := hrel
        have n0 := hH.cell 2 rfl hn
        by_cases hlt : k < m
        · have a1 := lf.out k hlt
          have a2 := lg.out k hlt
          have x1 := hH.cell 2 rfl (dv_b (m : Int) f g (i := k) (by omega))
          have x2 := hH.cell 2 rfl (dv_w (m : Int) f g (i := k) (by omega))
          have y1 := hH.cell 0 rfl (dv_b ((2 * m : Nat) : Int) (sbB f g m k) (sbW m k) (i := k) (by omega))
          have y2 := hH.cell 0 rfl (dv_b ((2 * m : Nat) : Int) (sbB f g m k) (sbW m k) (i := m + k) (by omega))
          have y3 := hH.cell 0 rfl (dv_w ((2 * m : Nat) : Int) (sbB f g m k) (sbW m k) (i := k) (by omega))
          have y4 := hH.cell 0 rfl (dv_w ((2 * m : Nat) : Int) (sbB f g m k) (sbW m k) (i := m + k) (by omega))
          have z1 := hH.frozen 0 rfl (1 + k)
          have z2 := hH.frozen 0 rfl (1 + (m + k))
          have z3 := hH.frozen 0 rfl (17 + k)
          have z4 := hH.frozen 0 rfl (17 + (m + k))
          have wn : wrap64 ((m : Int) + (k : Int)) = ((m + k : Nat) : Int) := by rw [wr64 (by omega) (by omega)]; omega
          have wk : IntKind.i64.wrap ((m : Int) + (k : Int)) = ((m + k : Nat) : Int) := by rw [wr64k (by omega) (by omega)]; omega
          have wb : IntKind.u8.wrap ((m : Int) + (g k : Int)) = ((m + g k : Nat) : Int) := by rw [wr8k (by omega) (by omega)]; omega
          have ha := hH.apart (i := 0) (j := 2) (by decide) rfl rfl (g := G)
          have hne : ¬ G = G1 := fun e => ha e rfl
          have hne' : ¬ G1 = G := fun e => hne e.symm
          have hs := ((((hH.set 0 rfl (1 + k) (.int .u8 (f k))).set 0 rfl (1 + (m + k)) (.int .u8 ((m : Int) + (g k : Int)))).set 0 rfl (17 + k) (.int .u8 ((m : Int) + (k : Int)))).set 0 rfl (17 + (m + k)) (.int .u8 (k : Nat)))
          simp only [List.set_cons_zero, ← Int.natCast_add] at hs
          rw [dv_setb _ _ _ _ (by omega), dv_setb _ _ _ _ (by omega), dv_setw _ _ _ _ (by omega), dv_setw _ _ _ _ (by omega)] at hs
          simp only [Int.natCast_add] at hs
          have HS := hide hs; clear hs ha
          have hB : fset (fset (sbB f g m k) k (f k)) (m + k) (m + g k) = sbB f g m (k + 1) := rfl
          have hW : fset (fset (sbW m k) k (m + k)) (m + k) k = sbW m (k + 1) := rfl
          have hs' := HS.out
          rw [hB, hW] at hs'
          replace HS := hide hs'; clear hs' hB hW
          generalize f k = fk at *
          generalize g k = gk at *
          have c1 : IntKind.u8.wrap (m : Int) = m := wr8k (by omega) (by omega)
          have c2 : IntKind.u8.wrap (k : Int) = k := wr8k (by omega) (by omega)
          have c3 : IntKind.u8.wrap ((m + k : Nat) : Int) = ((m + k : Nat) : Int) := wr8k (by omega) (by omega)
          go_wp2
          go_roundw
          case rel => exact ⟨k + 1, by omega, by go_num, HS.out⟩
          case measure => simp [intOf]; omega
        · obtain rfl : k = m := by omega
          have rr := hH.rowOk (n := 33) 1 rfl (dv_size _ _ _)
          have cd := hH.cells 0 rfl
          have HH3 := hH.setRow 1 rfl (dv ((2 * k : Nat) : Int) (sbB f g k k) (sbW k k))
          clear hlt
          go_wp2
          exact res_agg2 (p := 2) (t := 3) (g := G + 1) (v := .int .i64 0) aggD (dv_size _ _ _) rfl rfl rfl rfl (HH3.at 1 rfl) ⟨rfl, HH3.low⟩

set_option maxRecDepth 100000 in
set_option maxHeartbeats 1000000 in
theorem fnExactSubdividedOf_walk (n : Int) (f g : Nat → Nat) (_hn : -9223372036854775808 ≤ n ∧ n ≤ 9223372036854775807) (hf : ∀ i, f i < 256) (hg : ∀ i, g i < 256) (w : World) :
    Calls Try.prog 7 #[.agg (dv n f g)] w fun e w' => e = .returned (.bool true) ∧ Below w.heap.size w w' := by
  clear _hn
  obtain ⟨a, r, s, c, hR⟩ := subR_eq n f g
  have c1 := fun w => subdividedOf_any n f g hf hg w
  have c2 := fun w => sSubdividedOf_any n f g hf hg w
  rw [hR] at c1 c2
  have C1 := hide c1; clear c1
  have C2 := hide c2; clear c2
  clear hR hf hg
  have hne : (c != c) = false := by simp
  go_enter Try.func7, Try.ntmps7
  go_wp2_with fail
  refine (toDessin_any n f g _).mono ?_
  rintro e w1 ⟨rfl, h1⟩
  go_wp2_with fail
  refine (C2.out _).mono ?_
  rintro e w2 ⟨rfl, h2⟩
  have b2 := (below1 w (.cells (dv n f g) 24)).trans ((h1.trans (h2.mono h1.size)).mono (by simp))
  have s2 : w.heap.size < w2.heap.size := by have := (h1.trans (h2.mono h1.size)).size; simp at this; omega
  have g2 : cellsOf w2 w.heap.size = dv n f g := (below_cells (h1.trans (h2.mono h1.size)) (by simp)).trans (cellsOf_heap (heap_at _ _ _ rfl))
  clear h1 h2
  go_wp2_with fail
  refine (toDessin_any n f g _).mono ?_
  rintro e w3 ⟨rfl, h3⟩
  go_wp2_with fail
  refine (C1.out _).mono ?_
  rintro e w4 ⟨rfl, h4⟩
  have h34 := h3.trans (h4.mono h3.size)
  have g4 : cellsOf w4 w2.heap.size = dv a r s := (below_cells h34 (by simp)).trans (cellsOf_heap (heap_at _ _ _ rfl))
  have s4 : w2.heap.size < w4.heap.size := by have := h34.size; simp at this; omega
  have b4 := (b2.alloc (by omega) (.cells (dv a r s) 29)).trans (h34.mono (by simp <;> omega))
  clear h3 h4 h34 b2 g2
  go_wp2_with fail
  refine (eqDessin_same a r s _).mono ?_
  rintro e w5 ⟨rfl, h5⟩
  have b5 := (b4.alloc (by omega) (.cells (dv a r s) 29)).trans (h5.mono (by simp <;> omega))
  clear h5 b4 g4
  go_wp2
  go_ret
  exact ⟨rfl, b5⟩

end Go.Proofs.Ytcddglkecfnhmab

