/- MapOfFlags of the program -/
import Derived.Test.YteeideminlcblaaMof
import Derived.Test.YteeideminlcblaaClsP
import Derived.Test.YteeideminlcblaaCell
import Derived.Test.YteeideminlcblaaRegS
namespace Go.Proofs.Yteeideminlcblaa
open Go.RowKit

theorem zip_get8 {l : List Nat} {k : Nat} (h : k < l.length) : l[k]? = some l[k] := List.getElem?_eq_getElem h

set_option maxRecDepth 100000 in
set_option maxHeartbeats 4000000 in
theorem mapOf_any (n : Int) (c t s : Nat → Nat) (hc : ∀ i, c i < 256) (ht : ∀ i, t i < 256) (hs : ∀ i, s i < 256) (w : World) :
    Calls Try.prog 34 #[.agg (fv n c t s)] w fun e w' => e = .returned (mfR n c t s) ∧ Below w.heap.size w w' := by
  have C1 := hide fun w => areFlags_any n c t s hc ht hs w
  have HH0 := ((Holds.start w).blk (fv n c t s) 53 w.heap.size rfl).blk (dv 0 (fun _ => 0) (fun _ => 0)) 36 (w.heap.size + 1) (by simp)
  clear hc ht hs
  rcases h1 : flB n c t s with _ | _
  · rw [h1] at C1
    rw [mfR_no h1]
    clear h1
    go_enter Try.func34, Try.ntmps34
    go_wp2_with fail
    refine (C1.out _).mono ?_
    rintro e w1 ⟨rfl, hb⟩
    rw [← dv_zero] at hb
    have HH1 := HH0.call hb
    have rr1 := HH1.rowOk (n := 33) 0 rfl (dv_size _ _ _)
    clear hb HH0
    have HHs := HH1.setRow 0 rfl (dv 0 (fun _ => 0) (fun _ => 0))
    go_wp2
    exact res_agg2 (p := 2) (t := 3) (g := w.heap.size + 1) (v := .int .i64 1) aggD (dv_size _ _ _) rfl rfl rfl rfl (HHs.at 0 rfl) ⟨rfl, HHs.low⟩
  rw [h1] at C1
  obtain ⟨m, rfl, hd⟩ := flB_true h1
  obtain ⟨⟨h4, h32, -⟩, pc', pt, ps, -, -⟩ := id hd
  have lc := hide fun i (hi : i < 32) => pc'.lt32 h32 i hi (by omega)
  have lt := hide fun i (hi : i < 32) => pt.lt32 h32 i hi (by omega)
  have ls := hide fun i (hi : i < 32) => ps.lt32 h32 i hi (by omega)
  have C2 := hide fun w => classes_any m h32 (by omega) c t s (keeps3 pc' pt ps) lc.out lt.out ls.out w
  rcases hcb : cb [c, t, s] 32 with _ | S
  · have hor : orB [c, t, s] = false := by unfold orB; rw [hcb]; rfl
    rw [hor] at C2
    rw [mfR_st h1 hcb]
    clear h1 hcb hor hd pc' pt ps h4 h32 lc lt ls
    go_enter Try.func34, Try.ntmps34
    go_wp2_with fail
    refine (C1.out _).mono ?_
    rintro e w1 ⟨rfl, hb⟩
    rw [← dv_zero] at hb
    have HH1 := HH0.call hb
    have cd1 := HH1.cells 1 rfl
    clear hb HH0
    go_wp2_with fail
    refine (C2.out _).mono ?_
    rintro e w2 ⟨K, rfl, -, hb⟩
    have HH2 := HH1.call hb
    have rr2 := HH2.rowOk (n := 33) 0 rfl (dv_size _ _ _)
    have HH3 := HH2.blk (iv K) 88 w2.heap.size rfl
    have rr3 := HH3.rowOk (n := 33) 1 rfl (dv_size _ _ _)
    have HHs := HH3.setRow 1 rfl (dv 0 (fun _ => 0) (fun _ => 0))
    clear hb HH1 cd1
    go_wp2
    exact res_agg2 (p := 2) (t := 3) (g := w.heap.size + 1) (v := .int .i64 5) aggD (dv_size _ _ _) rfl rfl rfl rfl (HHs.at 1 rfl) ⟨rfl, HHs.low⟩
  have hor : orB [c, t, s] = true := by unfold orB; rw [hcb]; rfl
  rw [hor] at C2
  rw [mfR_yes h1 hcb]
  obtain ⟨hL, hK2⟩ := mf_facts hd hcb
  have HCB := hide hcb
  have hn0 := fv_n (m : Int) c t s
  clear h1 hcb hor hd pc' pt ps
  have D1 := hide fun w => corner_any m c t s w
  have D2 := hide fun w => turn_any m c t s w
  have D3 := hide fun w => side_any m c t s w
  have CB := hide fun x hx w => twLead_any (swV s) (swV t) s t (lead_sw s ls.out) (lead_sw t lt.out) x hx w
  have CW := hide fun x hx w => twLead_any (swV s) (swV c) s c (lead_sw s ls.out) (lead_sw c lc.out) x hx w
  obtain ⟨K, hKe⟩ : ∃ K, K = S.2 := ⟨_, rfl⟩
  rw [← hKe] at hL hK2 ⊢
  have HKE := hide hKe; clear hKe
  have hLm : ∀ k, k ≤ m → (dL K k).length ≤ 16 := fun k hk => Nat.le_trans (dL_pre K hk).length_le hL
  have HLM := hide hLm; clear hLm
  have HK2 := hide hK2; clear hK2
  have w3m : IntKind.u8.wrap (m : Int) = (m : Int) := wr8k (by omega) (by omega)
  go_enter Try.func34, Try.ntmps34
  go_wp2_with fail
  refine (C1.out _).mono ?_
  rintro e w1 ⟨rfl, hb⟩
  rw [← dv_zero] at hb
  have HH1 := HH0.call hb
  have cd1 := HH1.cells 1 rfl
  clear hb HH0
  go_wp2_with fail
  refine (C2.out _).mono ?_
  rintro e w2 ⟨K', rfl, hK', hb⟩
  obtain rfl := (hK' S HCB.out).trans (by rw [HKE.out] : pc S.2 = pc K)
  clear hK'
  have HH2 := HH1.call hb
  have HH3 := ((HH2.blk (iv (pc K)) 88 w2.heap.size rfl).blk (qv (nuU K 0)) 48 (w2.heap.size + 1) (by simp))
  have HH4 := hide (show Holds w _ (pBy (.slice none 0 0) (dL K 0) :: _) from HH3.nilRow 5 1)
  rw [nuU_zero] at HH4
  rw [← nuU_zero K] at HH4
  have n0 := HH2.cell 1 rfl hn0
  have l0 := HH2.lt 1 rfl
  clear hb HH1 cd1 HH3
  go_wp2
  rw [← qv_zero, ← nuU_zero K]
  clear n0 l0 HH2
  generalize hG : w.heap.size = G at *
  generalize hG1 : w2.heap.size = G1 at *
  have HG := hide hG; clear hG
  have HG1 := hide hG1; clear hG1
  go_loopw [6, 29] (fun v x wr => ∃ k : Nat, k ≤ m ∧ x = .int .u8 k ∧ Holds w wr [pBy v (dL K k), pBlk (G1 + 1) (qv (nuU K k)) 48, pBlk G1 (iv (pc K)) 88, pBlk (G + 1) (dv 0 (fun _ => 0) (fun _ => 0)) 36, pBlk G (fv (m : Int) c t s) 53]) (fun _ x _ => m - (intOf x).toNat)
  case atStart => exact ⟨0, by omega, rfl, HH4.out⟩
  case round =>
    clear HH4
    obtain ⟨k, hk, rfl, hH⟩ := hrel
    by_cases hlt : k < m
    · have hlti : (k : Int) < (m : Int) := by omega
      have hk32 : k < 32 := by omega
      have hk32i : (k : Int) < 32 := by omega
      have hL1 := HLM.out k (by omega)
      have HD := hide (And.intro (fun h => dL_yes (K := K) (k := k) h) (And.intro (fun h => dL_no (K := K) (k := k) h) (And.intro (fun h => nuU_yes (K := K) (k := k) h) (fun h => nuU_no (K := K) (k := k) h))))
      have w8 : IntKind.u8.wrap ((k : Int) + 1) = (k : Int) + 1 := wr8k (by omega) (by omega)
      rcases (show K k = 1 ∨ K k = 0 ∨ K k = 2 by have := HK2.out k; omega) with hx | hx | hx
      · have c1 : wr.cell? ⟨G1, k, none⟩ = some (.int .i64 1) := hH.cell 2 rfl (pc_get K hk32 hx)
        have c0 := hH.cell 1 rfl (qv_get (nuU K k) hk32)
        have f0 := hH.frozen 1 rfl k
        obtain ⟨A, cp, rfl⟩ := hH.bysForm 0 rfl
        have hH2 := hH.set 1 rfl k (.int .u8 ((dL K k).length : Nat))
        rw [qv_set, HD.out.2.2.1 hx] at hH2
        have HH2 := hide (show Holds w (wr.setCell ⟨G1 + 1, k, none⟩ (.int .u8 ((dL K k).length : Nat))) [pBy (.slice A (dL K k).length cp) (dL K k), pBlk (G1 + 1) (qv (nuU K (k + 1))) 48, pBlk G1 (iv (pc K)) 88, pBlk (G + 1) (dv 0 (fun _ => 0) (fun _ => 0)) 36, pBlk G (fv (m : Int) c t s) 53] from hH2)
        clear hH2 hH
        have hs := HD.out.1 hx
        have HS := hide hs; clear hs
        clear hx
        generalize hz : dL K k = l at *
        have w9 : IntKind.u8.wrap (l.length : Int) = (l.length : Int) := wr8k (by omega) (by omega)
        have HZ := hide hz; clear hz
        go_wp2_with (at_builtin; refine appBy (HH2.out.alloc _) 0 rfl wr.heap.size [k] 5 ?_ ?_ rfl _ _ rfl rfl rfl ?_)
        · first | exact heap_at _ _ _ (by simp) | (have hq := Array.getElem?_eq_some_iff.1 (heap_at (wr.setCell ⟨G1 + 1, k, none⟩ (.int .u8 (l.length : Nat))) (.cells (bytesL [k]).toArray 5) wr.heap.size (by simp)); exact hq.2)
        · first | (simp only [List.length_cons, List.length_nil]; omega) | omega
        intro v' w' h1
        clear c0 c1 f0
        go_wp2
        go_roundw
        case rel => exact ⟨k + 1, by omega, by go_num, by rw [HS.out]; exact h1⟩
        case measure => simp [intOf]; omega
      · have c1 : wr.cell? ⟨G1, k, none⟩ = some (.int .i64 (0)) := hH.cell 2 rfl (pc_get K hk32 hx)
        have HX := hide (show K k ≠ 1 by omega); clear hx
        go_wp2
        go_roundw
        case rel => exact ⟨k + 1, by omega, by go_num, by rw [HD.out.2.1 HX.out, HD.out.2.2.2 HX.out]; exact hH⟩
        case measure => simp [intOf]; omega
      · have c1 : wr.cell? ⟨G1, k, none⟩ = some (.int .i64 (-1)) := hH.cell 2 rfl (pc_get K hk32 hx)
        have HX := hide (show K k ≠ 1 by omega); clear hx
        go_wp2
        go_roundw
        case rel => exact ⟨k + 1, by omega, by go_num, by rw [HD.out.2.1 HX.out, HD.out.2.2.2 HX.out]; exact hH⟩
        case measure => simp [intOf]; omega
    · obtain rfl : m = k := by omega
      clear hlt hk
      obtain ⟨A, cp, rfl⟩ := hH.bysForm 0 rfl
      go_wp2_with fail
      apply Rd.region_R2 (w0 := w) [pBy (.slice A (dL K m).length cp) (dL K m), pBlk (G1 + 1) (qv (nuU K m)) 48, pBlk G1 (iv (pc K)) 88, pBlk (G + 1) (dv 0 (fun _ => 0) (fun _ => 0)) 36, pBlk G (fv (m : Int) c t s) 53] [pBy (.slice A (dL K m).length cp) (dL K m), pBlk (G1 + 1) (qv (nuU K m)) 48, pBlk G1 (iv (pc K)) 88, pBlk (G + 1) (dv 0 (fun _ => 0) (fun _ => 0)) 36, pBlk G (fv (m : Int) c t s) 53] [10, 11, 12, 13] (.q 0 <| .q 1 <| .q 2 <| .q 3 <| .q 4 <| .q 5 <| .q 6 <| .q 7 <| .q 8 <| .q 9 <| .s2 10 (.s1 11 <| .s1 12 <| .s1 13 .fin) 11 (.s1 10 <| .s1 12 <| .s1 13 .fin)) hH (.refl _) (by kernel_rfl) (by kernel_rfl) (by kernel_rfl) (F := fun (g9 g10 : Nat) => pBlk g9 #[swV s, swV t] 95 :: pBlk g10 #[swV s, swV c] 95 :: [pBy (.slice A (dL K m).length cp) (dL K m), pBlk (G1 + 1) (qv (nuU K m)) 48, pBlk G1 (iv (pc K)) 88, pBlk (G + 1) (dv 0 (fun _ => 0) (fun _ => 0)) 36, pBlk G (fv (m : Int) c t s) 53])
      case h =>
        intro K9 key
        iterate 1
          apply Rd.v_q
          · simp only [List.getElem?_toArray, List.getElem?_cons_zero, List.getElem?_cons_succ]; exact rfl
          · rfl
          · go_simp
          · intro wx hx
            have q0 := hx.cells 4 rfl
            unfold atG
            go_simp
            simp only [uponG]
            exact ⟨by trivial, rfl⟩
        iterate 1
          apply Rd.v_q
          · simp only [List.getElem?_toArray, List.getElem?_cons_zero, List.getElem?_cons_succ]; exact rfl
          · rfl
          · go_simp
          · intro wx hx
            have q0 := hx.cells 4 rfl
            unfold atG
            go_simp
            simp only [uponG]
            exact ⟨by trivial, D3.out wx⟩
        iterate 1
          apply Rd.v_q
          · simp only [List.getElem?_toArray, List.getElem?_cons_zero, List.getElem?_cons_succ]; exact rfl
          · rfl
          · go_simp
          · intro wx hx
            have q0 := hx.cells 4 rfl
            unfold atG
            go_simp
            simp only [uponG]
            exact ⟨by trivial, rfl⟩
        iterate 1
          apply Rd.v_q
          · simp only [List.getElem?_toArray, List.getElem?_cons_zero, List.getElem?_cons_succ]; exact rfl
          · rfl
          · go_simp
          · intro wx hx
            have q0 := hx.cells 4 rfl
            unfold atG
            go_simp
            simp only [uponG]
            exact ⟨by trivial, D2.out wx⟩
        iterate 1
          apply Rd.v_q
          · simp only [List.getElem?_toArray, List.getElem?_cons_zero, List.getElem?_cons_succ]; exact rfl
          · rfl
          · go_simp
          · intro wx hx
            have q0 := hx.cells 4 rfl
            unfold atG
            go_simp
            simp only [uponG]
            exact ⟨by trivial, rfl⟩
        iterate 1
          apply Rd.v_q
          · simp only [List.getElem?_toArray, List.getElem?_cons_zero, List.getElem?_cons_succ]; exact rfl
          · rfl
          · go_simp
          · intro wx hx
            have q0 := hx.cells 4 rfl
            unfold atG
            go_simp
            simp only [uponG]
            exact ⟨by trivial, rfl⟩
        iterate 1
          apply Rd.v_q
          · simp only [List.getElem?_toArray, List.getElem?_cons_zero, List.getElem?_cons_succ]; exact rfl
          · rfl
          · go_simp
          · intro wx hx
            have q0 := hx.cells 4 rfl
            unfold atG
            go_simp
            simp only [uponG]
            exact ⟨by trivial, D3.out wx⟩
        iterate 1
          apply Rd.v_q
          · simp only [List.getElem?_toArray, List.getElem?_cons_zero, List.getElem?_cons_succ]; exact rfl
          · rfl
          · go_simp
          · intro wx hx
            have q0 := hx.cells 4 rfl
            unfold atG
            go_simp
            simp only [uponG]
            exact ⟨by trivial, rfl⟩
        iterate 1
          apply Rd.v_q
          · simp only [List.getElem?_toArray, List.getElem?_cons_zero, List.getElem?_cons_succ]; exact rfl
          · rfl
          · go_simp
          · intro wx hx
            have q0 := hx.cells 4 rfl
            unfold atG
            go_simp
            simp only [uponG]
            exact ⟨by trivial, D1.out wx⟩
        iterate 1
          apply Rd.v_q
          · simp only [List.getElem?_toArray, List.getElem?_cons_zero, List.getElem?_cons_succ]; exact rfl
          · rfl
          · go_simp
          · intro wx hx
            have q0 := hx.cells 4 rfl
            unfold atG
            go_simp
            simp only [uponG]
            exact ⟨by trivial, rfl⟩
        refine ⟨?_, ?_⟩
        · refine Rd.v_box #[.nilIface, .nilIface] 95 (by simp only [List.getElem?_toArray, List.getElem?_cons_zero, List.getElem?_cons_succ]; exact rfl) rfl (by go_simp) (fun wx hx hD => by go_simp) fun g9 => ?_
          refine Rd.v_box #[.nilIface, .nilIface] 95 (by simp only [List.getElem?_toArray, List.getElem?_cons_zero, List.getElem?_cons_succ]; exact rfl) rfl (by go_simp) (fun wx hx hD => by go_simp) fun g10 => ?_
          refine Rd.v_put 1 g9 #[.nilIface, .nilIface] #[swV s, swV t] 95 rfl (.cons _ (.cons _ (.refl _))) (by simp only [List.getElem?_toArray, List.getElem?_cons_zero, List.getElem?_cons_succ]; exact rfl) rfl (by go_simp) (fun wx hx hD => ?_) ?_
          · have rr := hD.rowOk 1 rfl (n := 2) rfl
            go_simp
          refine Rd.v_put 0 g10 #[.nilIface, .nilIface] #[swV s, swV c] 95 rfl (.cons _ (.cons _ (.refl _))) (by simp only [List.getElem?_toArray, List.getElem?_cons_zero, List.getElem?_cons_succ]; exact rfl) rfl (by go_simp) (fun wx hx hD => ?_) ?_
          · have rr := hD.rowOk 0 rfl (n := 2) rfl
            go_simp
          rintro w4 - hx4
          go_simp
          exact key g9 g10 _ (hx4.perm (List.Perm.swap _ _ _))
        · refine Rd.v_box #[.nilIface, .nilIface] 95 (by simp only [List.getElem?_toArray, List.getElem?_cons_zero, List.getElem?_cons_succ]; exact rfl) rfl (by go_simp) (fun wx hx hD => by go_simp) fun g10 => ?_
          refine Rd.v_box #[.nilIface, .nilIface] 95 (by simp only [List.getElem?_toArray, List.getElem?_cons_zero, List.getElem?_cons_succ]; exact rfl) rfl (by go_simp) (fun wx hx hD => by go_simp) fun g9 => ?_
          refine Rd.v_put 0 g9 #[.nilIface, .nilIface] #[swV s, swV t] 95 rfl (.cons _ (.cons _ (.refl _))) (by simp only [List.getElem?_toArray, List.getElem?_cons_zero, List.getElem?_cons_succ]; exact rfl) rfl (by go_simp) (fun wx hx hD => ?_) ?_
          · have rr := hD.rowOk 0 rfl (n := 2) rfl
            go_simp
          refine Rd.v_put 1 g10 #[.nilIface, .nilIface] #[swV s, swV c] 95 rfl (.cons _ (.cons _ (.refl _))) (by simp only [List.getElem?_toArray, List.getElem?_cons_zero, List.getElem?_cons_succ]; exact rfl) rfl (by go_simp) (fun wx hx hD => ?_) ?_
          · have rr := hD.rowOk 1 rfl (n := 2) rfl
            go_simp
          rintro w4 - hx4
          go_simp
          exact key g9 g10 _ hx4
      intro g9 g10 w4 H4
      clear hH D1 D2 D3
      have hD := hide (H4.blk (dv ((dL K m).length : Nat) (fun _ => 0) (fun _ => 0)) 36 w4.heap.size rfl)
      go_wp2
      generalize hG2 : w4.heap.size = wr0 at *
      have HG2 := hide hG2; clear hG2 H4
      go_loopw [61] (fun x wr => ∃ k : Nat, k ≤ (dL K m).length ∧ x = .int .i64 k ∧ Holds w wr [pBlk wr0 (dv ((dL K m).length : Nat) (upto (mfF K (fun x => t (s x)) m) k) (upto (mfF K (fun x => c (s x)) m) k)) 36, pBlk g9 #[swV s, swV t] 95, pBlk g10 #[swV s, swV c] 95, pBy (.slice A (dL K m).length cp) (dL K m), pBlk (G1 + 1) (qv (nuU K m)) 48, pBlk G1 (iv (pc K)) 88, pBlk (G + 1) (dv 0 (fun _ => 0) (fun _ => 0)) 36, pBlk G (fv (m : Int) c t s) 53]) (fun x _ => (dL K m).length - (intOf x).toNat)
      case atStart => exact ⟨0, by omega, rfl, by rw [upto_zero, upto_zero]; exact hD.out⟩
      case round =>
        clear hD
        obtain ⟨k, hk, rfl, hH⟩ := hrel
        by_cases hlt : k < (dL K m).length
        · have hlti : (k : Int) < ((dL K m).length : Int) := by omega
          have gb := mfF_get (p := fun x => t (s x)) hlt
          have gw := mfF_get (p := fun x => c (s x)) hlt
          have sb := upto_step (mfF K (fun x => t (s x)) m) k
          have sw := upto_step (mfF K (fun x => c (s x)) m) k
          rw [gb] at sb
          rw [gw] at sw
          have hX := dL_mem.1 (List.getElem_mem hlt)
          obtain ⟨g, cp, e, hg, hcell⟩ := hH.bys 3 rfl hlt
          have hX32 : (dL K m)[k] < 32 := by omega
          generalize (dL K m)[k] = X at *
          have ly := ls.out X hX32
          have lz := lt.out (s X) ly
          have lu := lc.out (s X) ly
          have CB' := hide (CB.out X hX32)
          have CW' := hide (CW.out X hX32)
          have hq1 := qv_get (nuU K m) lz
          have hq2 := qv_get (nuU K m) lu
          have b1 := nuU_le hL (t (s X))
          have b2 := nuU_le hL (c (s X))
          have HB := hide (And.intro hq1 (And.intro hq2 (And.intro sb sw)))
          clear hq1 hq2 sb sw gb gw hX
          generalize hv1 : nuU K m (t (s X)) = v1 at *
          generalize hv2 : nuU K m (c (s X)) = v2 at *
          generalize hz1 : t (s X) = z1 at *
          generalize hz2 : c (s X) = z2 at *
          have HE := hide (And.intro hv1 (And.intro hv2 (And.intro hz1 hz2)))
          clear hv1 hv2 hz1 hz2
          have z1i : (z1 : Int) < 32 := by omega
          have z2i : (z2 : Int) < 32 := by omega
          have ki : (k : Int) < 16 := by omega
          have k16 : k < 16 := by omega
          simp only [Value.slice.injEq] at e
          obtain ⟨rfl, -, rfl⟩ := e
          have cd9 := hH.cells 1 rfl
          have l9 := hH.lt 1 rfl
          go_wp2_with fail
          refine (CB'.out _).mono ?_
          rintro e5 w5 ⟨rfl, hb⟩
          have H5 := hH.call hb
          clear hb hcell cd9 l9 hH
          have q1 := H5.cell 4 rfl HB.out.1
          have q5 := H5.cell 0 rfl (dv_b ((dL K m).length : Nat) (upto (mfF K (fun x => t (s x)) m) k) (upto (mfF K (fun x => c (s x)) m) k) k16)
          have q6 := H5.frozen 0 rfl (1 + k)
          have H6 := H5.set 0 rfl (1 + k) (.int .u8 (v1 : Nat))
          rw [dv_setb _ _ _ _ k16, HB.out.2.2.1] at H6
          simp only [List.set_cons_zero] at H6
          have cd10 := H6.cells 2 rfl
          have l10 := H6.lt 2 rfl
          have H6' := hide H6; clear H6 H5
          go_wp2_with fail
          refine (CW'.out _).mono ?_
          rintro e6 w6 ⟨rfl, hb⟩
          have H7 := H6'.out.call hb
          clear hb cd10 l10 q1 q5 q6 H6'
          have q1 := H7.cell 4 rfl HB.out.2.1
          have q5 := H7.cell 0 rfl (dv_w ((dL K m).length : Nat) (upto (mfF K (fun x => t (s x)) m) (k + 1)) (upto (mfF K (fun x => c (s x)) m) k) k16)
          have q6 := H7.frozen 0 rfl (17 + k)
          have H8 := H7.set 0 rfl (17 + k) (.int .u8 (v2 : Nat))
          rw [dv_setw _ _ _ _ k16, HB.out.2.2.2] at H8
          simp only [List.set_cons_zero] at H8
          have H8' := hide H8; clear H8 H7
          go_wp2
          go_roundw
          case rel => exact ⟨k + 1, by omega, by go_num, H8'.out⟩
          case measure => simp [intOf]; omega
        · obtain rfl : k = (dL K m).length := by omega
          have rr := hH.rowOk (n := 33) 6 rfl (dv_size _ _ _)
          have cd := hH.cells 0 rfl
          have H3 := hH.setRow 6 rfl (dv ((dL K m).length : Nat) (upto (mfF K (fun x => t (s x)) m) (dL K m).length) (upto (mfF K (fun x => c (s x)) m) (dL K m).length))
          clear hlt hk
          go_wp2
          exact res_agg2 (p := 2) (t := 3) (g := G + 1) (v := .int .i64 0) aggD (dv_size _ _ _) rfl rfl rfl rfl (H3.at 6 rfl) ⟨rfl, H3.low⟩
end Go.Proofs.Yteeideminlcblaa

