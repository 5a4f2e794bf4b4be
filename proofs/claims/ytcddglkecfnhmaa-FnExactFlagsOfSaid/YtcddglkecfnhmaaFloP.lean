/- FlagsOf of the program -/
import Derived.Test.YtcddglkecfnhmaaFloM
namespace Go.Proofs.Ytcddglkecfnhmaa
open Go.RowKit
attribute [local irreducible] IntKind.wrap

set_option maxRecDepth 100000 in
set_option maxHeartbeats 4000000 in
theorem flagsOf_any (n : Int) (f g : Nat → Nat) (hf : ∀ i, f i < 256) (hg : ∀ i, g i < 256) (w : World) :
    Calls Try.prog 14 #[.agg (dv n f g)] w fun e w' => e = .returned (floR n f g) ∧ Below w.heap.size w w' := by
  have C1 := hide fun w => isDessin_any n f g hf hg w
  have HH0 := ((Holds.start w).blk (dv n f g) 32 w.heap.size rfl).blk (fv 0 (fun _ => 0) (fun _ => 0) (fun _ => 0)) 27 (w.heap.size + 1) (by simp)
  clear hf hg
  rcases h1 : desB n f g with _ | _
  · rw [h1] at C1
    have hr : floR n f g = .tuple #[.agg (fv 0 (fun _ => 0) (fun _ => 0) (fun _ => 0)), .int .i64 1] := by unfold floR; rw [if_neg (by simp [h1])]
    rw [hr]
    clear h1 hr
    go_enter Try.func14, Try.ntmps14
    go_wp2_with fail
    refine (C1.out _).mono ?_
    rintro e w1 ⟨rfl, hb⟩
    have HH1 := HH0.call hb
    have cd1 := HH1.cells 1 rfl
    have rr1 := HH1.rowOk (n := 97) 0 rfl (fv_size _ _ _ _)
    clear hb HH0
    have HHs := HH1.setRow 0 rfl (fv 0 (fun _ => 0) (fun _ => 0) (fun _ => 0))
    go_wp2
    exact res_agg2 (p := 2) (t := 3) (g := w.heap.size + 1) (v := .int .i64 1) aggFl (fv_size _ _ _ _) rfl rfl rfl rfl (HHs.at 0 rfl) ⟨rfl, HHs.low⟩
  rw [h1] at C1
  obtain ⟨m, rfl, hd⟩ := desB_true h1
  have hm := hd.le
  have hn := dv_n m f g
  have lf := hide hd.bf.1
  have lg := hide hd.bg.1
  have C2 := hide fun w => isClean_any f g m hd w
  rcases h2 : clB g m with _ | _
  · rw [h2] at C2
    have hr : floR (m : Int) f g = .tuple #[.agg (fv 0 (fun _ => 0) (fun _ => 0) (fun _ => 0)), .int .i64 5] := by unfold floR; rw [if_pos h1, Int.toNat_natCast, if_neg (by simp [h2])]
    rw [hr]
    clear h1 h2 hr hd
    go_enter Try.func14, Try.ntmps14
    go_wp2_with fail
    refine (C1.out _).mono ?_
    rintro e w1 ⟨rfl, hb⟩
    have HH1 := HH0.call hb
    have cd1 := HH1.cells 1 rfl
    have rr1 := HH1.rowOk (n := 97) 0 rfl (fv_size _ _ _ _)
    clear hb HH0
    go_wp2_with fail
    refine (C2.out _).mono ?_
    rintro e w2 ⟨rfl, hb⟩
    have HH3 := HH1.call hb
    have cd2 := HH3.cells 1 rfl
    have rr2 := HH3.rowOk (n := 97) 0 rfl (fv_size _ _ _ _)
    clear hb HH1 cd1 rr1
    have HHs := HH3.setRow 0 rfl (fv 0 (fun _ => 0) (fun _ => 0) (fun _ => 0))
    go_wp2
    exact res_agg2 (p := 2) (t := 3) (g := w.heap.size + 1) (v := .int .i64 5) aggFl (fv_size _ _ _ _) rfl rfl rfl rfl (HHs.at 0 rfl) ⟨rfl, HHs.low⟩
  rw [h2] at C2
  have hr : floR (m : Int) f g = .tuple #[.agg (fv ((2 * m : Nat) : Int) (flC g m) (flT f m) (flS m)), .int .i64 0] := by unfold floR; rw [if_pos h1, Int.toNat_natCast, if_pos h2]
  rw [hr]
  clear h1 h2 hr hd
  go_enter Try.func14, Try.ntmps14
  go_wp2_with fail
  refine (C1.out _).mono ?_
  rintro e w1 ⟨rfl, hb⟩
  have HH1 := HH0.call hb
  have cd1 := HH1.cells 1 rfl
  have rr1 := HH1.rowOk (n := 97) 0 rfl (fv_size _ _ _ _)
  clear hb HH0
  go_wp2_with fail
  refine (C2.out _).mono ?_
  rintro e w2 ⟨rfl, hb⟩
  have HH3 := HH1.call hb
  have cd2 := HH3.cells 1 rfl
  have rr2 := HH3.rowOk (n := 97) 0 rfl (fv_size _ _ _ _)
  clear hb HH1 cd1 rr1
  have cn1 := HH3.cell 1 rfl hn
  have ll1 := HH3.lt 1 rfl
  have w1m : IntKind.i64.wrap (2 * (m : Int)) = ((2 * m : Nat) : Int) := by rw [wr64k (by omega) (by omega)]; omega
  have w2m : wrap64 (2 * (m : Int)) = ((2 * m : Nat) : Int) := by rw [wr64 (by omega) (by omega)]; omega
  have w3m : IntKind.u8.wrap (m : Int) = (m : Int) := wr8k (by omega) (by omega)
  have HH2 : Holds w (w2.alloc (.cells (fv ((2 * m : Nat) : Int) (fun _ => 0) (fun _ => 0) (fun _ => 0)) 27)) _ := HH3.blk _ _ w2.heap.size rfl
  go_wp2
  generalize hG : w.heap.size = G at *
  generalize hG1 : w2.heap.size = G1 at *
  have HG := hide hG; clear hG
  have HG1 := hide hG1; clear hG1
  go_loopw [23] (fun x wr => ∃ k : Nat, k ≤ m ∧ x = .int .u8 k ∧ Holds w wr [pBlk G1 (fv ((2 * m : Nat) : Int) (flC g k) (flT f k) (flS k)) 27, pBlk (G + 1) (fv 0 (fun _ => 0) (fun _ => 0) (fun _ => 0)) 27, pBlk G (dv (m : Int) f g) 32]) (fun x _ => m - (intOf x).toNat)
  case atStart => exact ⟨0, by omega, rfl, by rw [flC_zero, flT_zero, flS_zero]; exact HH2⟩
  case round =>
    clear HH2 HH3 cd2 rr2 cn1 ll1
    obtain ⟨k, hk, rfl, hH⟩ := hrel
    have n0 := hH.cell 2 rfl hn
    by_cases hlt : k < m
    · have hlti : (k : Int) < (m : Int) := by omega
      have a1' := lf.out k hlt
      have a2' := lg.out k hlt
      have hk16 : k < 16 := by omega
      have x1 := hH.cell 2 rfl (dv_b (m : Int) f g (i := k) hk16)
      have x2 := hH.cell 2 rfl (dv_w (m : Int) f g (i := k) hk16)
      have ha := hH.apart (i := 0) (j := 2) (by decide) rfl rfl (g := G)
      have hne : ¬ G = G1 := fun e => ha e rfl
      have hne' : ¬ G1 = G := fun e => hne e.symm
      have hkm1 : k + 1 ≤ m := hlt
      have hme : m - (k + 1) < m - k := by omega
      obtain ⟨K2, k1, v, v1, u, hK2, hk1, hv, hv1, hu, hu32, hk132, hv31, hku, huk, a1, a2, a3, a4, a5, a6, a7, a8, a9, a10, a11, a12, a13⟩ := facts_o hlt hm a2' a1'
      clear a2 a3 a7 a8 a12 a13
      have huk2 : ¬ u = k1 := by exact huk
      have hku2 : ¬ k1 = u := fun e => huk2 e.symm
      have hk2 : k1 < 32 := by exact hk132
      have hfin : fset (fset (flT f k) k1 u) u k1 = flT f (k + 1) := by subst hk1 hu; rw [flT_succ]
      have hc0 : icF (flC g k) k v 2 = flC g (k + 1) := by subst hv; rw [flC_succ]
      have hs0 : icF (flS k) k (2 * k) 2 = flS (k + 1) := by rw [flS_succ]
      have HF := hide (And.intro hfin (And.intro hc0 hs0)); clear hfin hc0 hs0 ha
      have EQ := hide (And.intro hK2 (And.intro hk1 hv1)); clear hK2 hk1 hv hv1 hu
      have hH0 : Holds w wr [pBlk G1 (fv ((2 * m : Nat) : Int) (icF (flC g k) k v 0) (flT f k) (icF (flS k) k (2 * k) 0)) 27, pBlk (G + 1) (fv 0 (fun _ => 0) (fun _ => 0) (fun _ => 0)) 27, pBlk G (dv (m : Int) f g) 32] := by rw [icF_zero, icF_zero]; exact hH
      generalize flC g k = fC at *
      generalize flT f k = fT at *
      generalize flS k = fS at *
      go_wp2
      clear x1 x2 n0
      go_loopw [26] (fun y wr => ∃ j : Nat, j ≤ 2 ∧ y = .int .u8 j ∧ Holds w wr [pBlk G1 (fv ((2 * m : Nat) : Int) (icF fC k v j) fT (icF fS k (2 * k) j)) 27, pBlk (G + 1) (fv 0 (fun _ => 0) (fun _ => 0) (fun _ => 0)) 27, pBlk G (dv (m : Int) f g) 32]) (fun y _ => 2 - (intOf y).toNat)
      case atStart => exact ⟨0, Nat.zero_le 2, rfl, hH0⟩
      case round =>
        clear hH hH0
        obtain ⟨j, hj, rfl, hH⟩ := hrel
        by_cases hjl : j < 2
        · have hji : (j : Int) < 2 := Int.ofNat_lt.2 hjl
          have hjm1 : j + 1 ≤ 2 := hjl
          have hmj : 2 - (j + 1) < 2 - j := by omega
          obtain ⟨p, q, r, e1, hp, hq, hr, hp32, hpi, b1, b2, b3, b4, b5, b6, b7, b8, b9, b10, b11, b12, b13, b14, b15, b16⟩ := facts_i hjl hlt hm EQ.out.1 EQ.out.2.1 hv31 EQ.out.2.2
          clear b2 b3 b6 b7 b8 b9 b10 b11 b12 b14 b15 b16 hpi
          have x2 := hH.cell 2 rfl (dv_w (m : Int) f g (i := k) hk16)
          have hp2 : p < 32 := by exact hp32
          have y1 := hH.cell 0 rfl (fv_c ((2 * m : Nat) : Int) (icF fC k v j) fT (icF fS k (2 * k) j) hp2)
          have y2 := hH.cell 0 rfl (fv_s ((2 * m : Nat) : Int) (icF fC k v j) fT (icF fS k (2 * k) j) hp2)
          have z1 := hH.frozen 0 rfl (1 + p)
          have z2 := hH.frozen 0 rfl (65 + p)
          have hs := (hH.set 0 rfl (1 + p) (.int .u8 q)).set 0 rfl (65 + p) (.int .u8 r)
          simp only [List.set_cons_zero] at hs
          rw [fv_setc _ _ _ _ _ hp2, fv_sets _ _ _ _ _ hp2] at hs
          have e1' : fset (icF fC k v j) p q = icF fC k v (j + 1) := by subst hp hq; rw [icF_succ]
          have e2' : fset (icF fS k (2 * k) j) p r = icF fS k (2 * k) (j + 1) := by subst hp hr; rw [icF_succ]
          rw [e1', e2'] at hs
          have HS := hide hs; clear hs e1' e2' hp hq hr
          generalize icF fC k v j = cj at *
          generalize icF fS k (2 * k) j = sj at *
          generalize g k = gk at *
          go_wp2
          go_roundw
          case rel => exact ⟨j + 1, hjm1, by go_num, HS.out⟩
          case measure => simp [intOf]; first | exact hmj | omega
        · obtain rfl : j = 2 := Nat.le_antisymm hj (Nat.le_of_not_lt hjl)
          have x1 := hH.cell 2 rfl (dv_b (m : Int) f g (i := k) hk16)
          have n0 := hH.cell 2 rfl hn
          have y1 := hH.cell 0 rfl (fv_t ((2 * m : Nat) : Int) (icF fC k v 2) fT (icF fS k (2 * k) 2) hk2)
          have y2 := hH.cell 0 rfl (fv_t ((2 * m : Nat) : Int) (icF fC k v 2) fT (icF fS k (2 * k) 2) hu32)
          have z1 := hH.frozen 0 rfl (33 + k1)
          have z2 := hH.frozen 0 rfl (33 + u)
          have hs := (hH.set 0 rfl (33 + k1) (.int .u8 u)).set 0 rfl (33 + u) (.int .u8 k1)
          simp only [List.set_cons_zero] at hs
          rw [fv_sett _ _ _ _ _ hk2, fv_sett _ _ _ _ _ hu32, HF.out.1, HF.out.2.1, HF.out.2.2] at hs
          have HS := hide hs; clear hs
          have hui : (u : Int) < 32 := Int.ofNat_lt.2 hu32
          have hk1i : (k1 : Int) < 32 := Int.ofNat_lt.2 hk132
          generalize icF fC k v 2 = cj at *
          generalize icF fS k (2 * k) 2 = sj at *
          generalize f k = fk at *
          clear hjl
          go_wp2
          go_roundw
          case rel => exact ⟨k + 1, hkm1, by go_num, HS.out⟩
          case measure => simp [intOf]; first | exact hme | omega
    · obtain rfl : k = m := by omega
      have rr := hH.rowOk (n := 97) 1 rfl (fv_size _ _ _ _)
      have cd := hH.cells 0 rfl
      have HH3 := hH.setRow 1 rfl (fv ((2 * k : Nat) : Int) (flC g k) (flT f k) (flS k))
      clear hlt
      go_wp2
      exact res_agg2 (p := 2) (t := 3) (g := G + 1) (v := .int .i64 0) aggFl (fv_size _ _ _ _) rfl rfl rfl rfl (HH3.at 1 rfl) ⟨rfl, HH3.low⟩
end Go.Proofs.Ytcddglkecfnhmaa
