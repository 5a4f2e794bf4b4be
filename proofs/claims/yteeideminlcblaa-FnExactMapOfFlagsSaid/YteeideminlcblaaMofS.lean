/- MapOfFlags of the model -/
import Derived.Test.YteeideminlcblaaMof
import Derived.Test.YteeideminlcblaaClsS
import Derived.Test.YteeideminlcblaaAreS
import Derived.Test.YteeideminlcblaaCell
namespace Go.Proofs.Yteeideminlcblaa
open Go.RowKit
namespace Rd
section
variable {P : Program} {ops : Array Oper} {E : Nat → Bool} {k : Nat} {a : Act} {N : Act → (World → Prop) → Prop} {w0 : World} {L L1 : List Part}
theorem v_set {o : Oper} (i g j : Nat) (cs : Array Value) (v : Value) (t : TypeId) (hi : L1[i]? = some (pBlk g cs t)) (hsub : L.Sublist (L1.set i (pBlk g (cs.setIfInBounds j v) t))) (ho : ops[k]? = some o) (hE : E k = true) (hw : Region.wanted o (yielded ops a.tmps) = true)
    (h1 : ∀ w, Holds w0 w L → Holds w0 w L1 → (execOp a.eval o).run P w = .ok .skip (w.setCell ⟨g, j, none⟩ v))
    (h2 : N (a.put o.dst undef) (fun wx => Holds w0 wx (L1.set i (pBlk g (cs.setIfInBounds j v) t)))) : opV P ops (fun wx => Holds w0 wx L) E k N a (fun wx => Holds w0 wx L1) := by
  refine v_s (fun u w => u = undef ∧ Holds w0 w (L1.set i (pBlk g (cs.setIfInBounds j v) t))) (fun _ _ _ h hb => ⟨h.1, h.2.call hb⟩) ho hE hw (fun w hx hD => ?_) fun v' hv => ?_
  · rw [h1 w hx hD]
    exact ⟨(hD.set i hi j v).sub hsub, rfl, hD.set i hi j v⟩
  · obtain ⟨w, _, rfl, hr⟩ := hv
    refine cast (congrArg (N _) ?_) h2
    funext wx
    exact propext ⟨fun h => ⟨rfl, h⟩, fun h => h.2⟩
end
end Rd

set_option maxRecDepth 100000 in
set_option maxHeartbeats 4000000 in
theorem sMapOf_any (n : Int) (c t s : Nat → Nat) (hc : ∀ i, c i < 256) (ht : ∀ i, t i < 256) (hs : ∀ i, s i < 256) (w : World) :
    Calls Try.prog 33 #[.agg (fv n c t s)] w fun e w' => e = .returned (mfR n c t s) ∧ Below w.heap.size w w' := by
  have C1 := hide fun w => sAre_any n c t s hc ht hs w
  have HH0 := ((Holds.start w).blk (fv n c t s) 53 w.heap.size rfl).blk (dv 0 (fun _ => 0) (fun _ => 0)) 36 (w.heap.size + 1) (by simp)
  clear hc ht hs
  rcases h1 : flB n c t s with _ | _
  · rw [h1] at C1
    rw [mfR_no h1]
    clear h1
    go_enter Try.func33, Try.ntmps33
    go_wp2_with fail
    refine (C1.out _).mono ?_
    rintro e w1 ⟨rfl, hb⟩
    rw [← dv_zero] at hb
    have HH1 := HH0.call hb
    have rr1 := HH1.rowOk (n := 33) 0 rfl (dv_size _ _ _)
    clear hb HH0
    have HHs := HH1.setRow 0 rfl (dv 0 (fun _ => 0) (fun _ => 0))
    go_wp2
    exact res_agg2 (p := 2) (t := 3) (g := w.heap.size + 1) (v := .int .i64 1) aggD (dv_size _ _ _) rfl rfl rfl rfl (HHs.at 0 rfl) ⟨rfl, HHs.low⟩
  rw [h1] at C1
  obtain ⟨m, rfl, hd⟩ := flB_true h1
  obtain ⟨⟨h4, h32, -⟩, pc, pt, ps, -, -⟩ := id hd
  have C2 := hide fun w => sClass_any m h32 (by omega) c t s (keeps3 pc pt ps) w
  rcases hcb : cb [c, t, s] 32 with _ | S
  · have hor : orB [c, t, s] = false := by unfold orB; rw [hcb]; rfl
    rw [hor] at C2
    rw [mfR_st h1 hcb]
    clear h1 hcb hor hd pc pt ps h4 h32
    go_enter Try.func33, Try.ntmps33
    go_wp2_with fail
    refine (C1.out _).mono ?_
    rintro e w1 ⟨rfl, hb⟩
    rw [← dv_zero] at hb
    have HH1 := HH0.call hb
    have cd1 := HH1.cells 1 rfl
    clear hb HH0
    go_wp2_with fail
    refine (C2.out _).mono ?_
    rintro e w2 ⟨K, rfl, -, hb⟩
    have HH2 := HH1.call hb
    have rr2 := HH2.rowOk (n := 33) 0 rfl (dv_size _ _ _)
    have HH3 := HH2.blk (iv K) 84 w2.heap.size rfl
    have rr3 := HH3.rowOk (n := 33) 1 rfl (dv_size _ _ _)
    have HHs := HH3.setRow 1 rfl (dv 0 (fun _ => 0) (fun _ => 0))
    clear hb HH1 cd1
    go_wp2
    exact res_agg2 (p := 2) (t := 3) (g := w.heap.size + 1) (v := .int .i64 5) aggD (dv_size _ _ _) rfl rfl rfl rfl (HHs.at 1 rfl) ⟨rfl, HHs.low⟩
  have hor : orB [c, t, s] = true := by unfold orB; rw [hcb]; rfl
  rw [hor] at C2
  rw [mfR_yes h1 hcb]
  obtain ⟨hL, hK2⟩ := mf_facts hd hcb
  have HCB := hide hcb
  have lc := hide fun i (hi : i < 32) => pc.lt32 h32 i hi (by omega)
  have lt := hide fun i (hi : i < 32) => pt.lt32 h32 i hi (by omega)
  have ls := hide fun i (hi : i < 32) => ps.lt32 h32 i hi (by omega)
  have hn0 := fv_n (m : Int) c t s
  clear h1 hcb hor hd pc pt ps
  obtain ⟨K, hKe⟩ : ∃ K, K = S.2 := ⟨_, rfl⟩
  rw [← hKe] at hL hK2 ⊢
  have HKE := hide hKe; clear hKe
  have hLm : ∀ k, k ≤ m → (dL K k).length ≤ 16 := fun k hk => Nat.le_trans (dL_pre K hk).length_le hL
  have HLM := hide hLm; clear hLm
  have HK2 := hide hK2; clear hK2
  go_enter Try.func33, Try.ntmps33
  go_wp2_with fail
  refine (C1.out _).mono ?_
  rintro e w1 ⟨rfl, hb⟩
  rw [← dv_zero] at hb
  have HH1 := HH0.call hb
  have cd1 := HH1.cells 1 rfl
  clear hb HH0
  go_wp2_with fail
  refine (C2.out _).mono ?_
  rintro e w2 ⟨K', rfl, hK', hb⟩
  obtain rfl := (hK' S HCB.out).trans (by rw [HKE.out] : mc S.2 = mc K)
  clear hK'
  have HH2 := HH1.call hb
  have HH3 := hide ((HH2.blk (iv (mc K)) 84 w2.heap.size rfl).blk (qv (nuU K 0)) 48 (w2.heap.size + 1) (by simp))
  rw [nuU_zero] at HH3
  rw [← nuU_zero K] at HH3
  clear hb HH1 cd1 HH2
  go_wp2
  rw [← qv_zero, ← nuU_zero K]
  generalize hG : w.heap.size = G at *
  generalize hG1 : w2.heap.size = G1 at *
  have HG := hide hG; clear hG
  have HG1 := hide hG1; clear hG1
  go_loopw [7, 8] (fun nn x wr => ∃ k : Nat, k ≤ m ∧ nn = .int .u8 (dL K k).length ∧ x = .int .i64 k ∧ Holds w wr [pBlk (G1 + 1) (qv (nuU K k)) 48, pBlk G1 (iv (mc K)) 84, pBlk (G + 1) (dv 0 (fun _ => 0) (fun _ => 0)) 36, pBlk G (fv (m : Int) c t s) 53]) (fun _ x _ => m - (intOf x).toNat)
  case atStart => exact ⟨0, by omega, rfl, rfl, HH3.out⟩
  case round =>
    clear HH3
    obtain ⟨k, hk, rfl, rfl, hH⟩ := hrel
    have n0 := hH.cell 3 rfl hn0
    by_cases hlt : k < m
    · have hlti : (k : Int) < (m : Int) := by omega
      have hk32 : k < 32 := by omega
      have hk32i : (k : Int) < 32 := by omega
      have hL1 := HLM.out k (by omega)
      have yes := fun h => dL_yes (K := K) (k := k) h
      have no := fun h => dL_no (K := K) (k := k) h
      have nyes := fun h => nuU_yes (K := K) (k := k) h
      have nno := fun h => nuU_no (K := K) (k := k) h
      have HD := hide (And.intro yes (And.intro no (And.intro nyes nno)))
      clear yes no nyes nno
      rcases (show K k = 1 ∨ K k = 0 ∨ K k = 2 by have := HK2.out k; omega) with hx | hx | hx
      · have c1 : wr.cell? ⟨G1, k, none⟩ = some (.int .i64 1) := hH.cell 1 rfl (mc_get K hk32 hx)
        have c0 := hH.cell 0 rfl (qv_get (nuU K k) hk32)
        have f0 := hH.frozen 0 rfl k
        have hH2 := hH.set 0 rfl k (.int .u8 ((dL K k).length : Nat))
        rw [qv_set, HD.out.2.2.1 hx] at hH2
        have HH2 := hide hH2; clear hH2 hH
        have hs : (dL K (k + 1)).length = (dL K k).length + 1 := by rw [HD.out.1 hx, List.length_append]; rfl
        have HS := hide hs; clear hs
        clear hx
        generalize hz : (dL K k).length = z at *
        have w8 : IntKind.u8.wrap ((z : Int) + 1) = (z : Int) + 1 := wr8k (by omega) (by omega)
        have HZ := hide hz; clear hz
        go_wp2
        go_roundw
        case rel => exact ⟨k + 1, by omega, by rw [HS.out]; go_num, by go_num, HH2.out⟩
        case measure => simp [intOf]; omega
      · have c1 : wr.cell? ⟨G1, k, none⟩ = some (.int .i64 0) := hH.cell 1 rfl (mc_get K hk32 hx)
        have HX := hide (show K k ≠ 1 by omega); clear hx
        go_wp2
        go_roundw
        case rel => exact ⟨k + 1, by omega, by rw [HD.out.2.1 HX.out], by go_num, by rw [HD.out.2.2.2 HX.out]; exact hH⟩
        case measure => simp [intOf]; omega
      · have c1 : wr.cell? ⟨G1, k, none⟩ = some (.int .i64 2) := hH.cell 1 rfl (mc_get K hk32 hx)
        have HX := hide (show K k ≠ 1 by omega); clear hx
        go_wp2
        go_roundw
        case rel => exact ⟨k + 1, by omega, by rw [HD.out.2.1 HX.out], by go_num, by rw [HD.out.2.2.2 HX.out]; exact hH⟩
        case measure => simp [intOf]; omega
    · obtain rfl : m = k := by omega
      have hD := hide (hH.blk (dv ((dL K m).length : Nat) (fun _ => 0) (fun _ => 0)) 36 wr.heap.size rfl)
      clear hlt hk
      have w6 : IntKind.i64.wrap ((dL K m).length : Int) = ((dL K m).length : Int) := wr64k (by omega) (by omega)
      go_wp2
      generalize hG2 : wr.heap.size = wr0 at *
      have HG2 := hide hG2; clear hG2 n0 w6 hH
      go_loopw [10] (fun x wr => ∃ k : Nat, k ≤ m ∧ x = .int .i64 k ∧ Holds w wr [pBlk wr0 (dv ((dL K m).length : Nat) (upto (mfF K (fun x => t (s x)) m) (dL K k).length) (upto (mfF K (fun x => c (s x)) m) (dL K k).length)) 36, pBlk (G1 + 1) (qv (nuU K m)) 48, pBlk G1 (iv (mc K)) 84, pBlk (G + 1) (dv 0 (fun _ => 0) (fun _ => 0)) 36, pBlk G (fv (m : Int) c t s) 53]) (fun x _ => m - (intOf x).toNat)
      case atStart => exact ⟨0, by omega, rfl, by show Holds _ _ [pBlk wr0 (dv _ (upto _ 0) (upto _ 0)) _, _, _, _, _]; rw [upto_zero, upto_zero]; exact hD.out⟩
      case round =>
        clear hD
        obtain ⟨k, hk, rfl, hH⟩ := hrel
        have n0 := hH.cell 4 rfl hn0
        by_cases hlt : k < m
        · have hlti : (k : Int) < (m : Int) := by omega
          have hk32 : k < 32 := by omega
          have hk32i : (k : Int) < 32 := by omega
          have HD := hide (And.intro (fun h => dL_yes (K := K) (k := k) h) (fun h => dL_no (K := K) (k := k) h))
          rcases (show K k = 1 ∨ K k = 0 ∨ K k = 2 by have := HK2.out k; omega) with hx | hx | hx
          · have c1 : wr.cell? ⟨G1, k, none⟩ = some (.int .i64 1) := hH.cell 2 rfl (mc_get K hk32 hx)
            have hlen : (dL K k).length + 1 ≤ 16 := by have := HLM.out (k + 1) (by omega); rw [HD.out.1 hx, List.length_append] at this; exact this
            have hq := nuU_at hlt hx
            have gb := mfF_at (p := fun x => t (s x)) hlt hx
            have gw := mfF_at (p := fun x => c (s x)) hlt hx
            have sb := upto_step (mfF K (fun x => t (s x)) m) (dL K k).length
            have sw := upto_step (mfF K (fun x => c (s x)) m) (dL K k).length
            rw [gb] at sb
            rw [gw] at sw
            have hs : (dL K (k + 1)).length = (dL K k).length + 1 := by rw [HD.out.1 hx, List.length_append]; rfl
            rw [← hs] at sb sw
            have HS := hide (And.intro sb sw); clear sb sw hs gb gw hx
            have ly := ls.out k hk32
            have lz := lt.out (s k) ly
            have lu := lc.out (s k) ly
            have hq0 := (qv_get (nuU K m) hk32).trans (by rw [hq])
            have hq1 := qv_get (nuU K m) lz
            have hq2 := qv_get (nuU K m) lu
            have hs1 := fv_s (m : Int) c t s hk32
            have ht1 := fv_t (m : Int) c t s ly
            have hc1 := fv_c (m : Int) c t s ly
            have b1 := nuU_le hL (t (s k))
            have b2 := nuU_le hL (c (s k))
            have HB := hide (And.intro hq0 (And.intro hq1 (And.intro hq2 (And.intro hs1 (And.intro ht1 hc1)))))
            clear hq hq0 hq1 hq2 hs1 ht1 hc1
            generalize hv1 : nuU K m (t (s k)) = v1 at *
            generalize hv2 : nuU K m (c (s k)) = v2 at *
            generalize hz1 : t (s k) = z1 at *
            generalize hz2 : c (s k) = z2 at *
            generalize hy : s k = y at *
            generalize hl : (dL K k).length = l at *
            have HE := hide (And.intro hv1 (And.intro hv2 (And.intro hz1 (And.intro hz2 (And.intro hy hl)))))
            clear hv1 hv2 hz1 hz2 hy hl
            have yi : (y : Int) < 32 := by omega
            have z1i : (z1 : Int) < 32 := by omega
            have z2i : (z2 : Int) < 32 := by omega
            have li : (l : Int) < 16 := by omega
            go_wp2
            clear c1 n0
            refine Rd.region_P (w0 := w) [pBlk (G1 + 1) (qv (nuU K m)) 48, pBlk G1 (iv (mc K)) 84, pBlk (G + 1) (dv 0 (fun _ => 0) (fun _ => 0)) 36, pBlk G (fv (m : Int) c t s) 53] [pBlk wr0 (dv ((dL K m).length : Nat) (upto (mfF K (fun x => t (s x)) m) l) (upto (mfF K (fun x => c (s x)) m) l)) 36, pBlk (G1 + 1) (qv (nuU K m)) 48, pBlk G1 (iv (mc K)) 84, pBlk (G + 1) (dv 0 (fun _ => 0) (fun _ => 0)) 36, pBlk G (fv (m : Int) c t s) 53] [14] (.q 0 <| .q 1 <| .q 2 <| .q 3 <| .q 4 <| .q 5 <| .q 6 <| .q 7 <| .q 8 <| .q 9 <| .q 10 <| .q 11 <| .q 12 <| .q 13 <| .s1 14 .fin) hH (.cons _ (.refl _)) (by kernel_rfl) (by kernel_rfl) (by kernel_rfl) ?_
            iterate 14
              apply Rd.v_q
              · simp only [List.getElem?_toArray, List.getElem?_cons_zero, List.getElem?_cons_succ]; exact rfl
              · rfl
              · go_simp
              · intro wx hx
                have q0 := hx.cell 0 rfl HB.out.1
                have q1 := hx.cell 0 rfl HB.out.2.1
                have q2 := hx.cell 3 rfl HB.out.2.2.2.1
                have q3 := hx.cell 3 rfl HB.out.2.2.2.2.1
                unfold atG
                go_simp
                simp only [uponG]
                exact ⟨by trivial, rfl⟩
            refine Rd.v_set 0 wr0 (1 + l) (dv ((dL K m).length : Nat) (upto (mfF K (fun x => t (s x)) m) l) (upto (mfF K (fun x => c (s x)) m) l)) (.int .u8 (v1 : Nat)) 36 rfl (.cons _ (.refl _)) (by simp only [List.getElem?_toArray, List.getElem?_cons_zero, List.getElem?_cons_succ]; exact rfl) rfl (by go_simp) (fun wx hx hD => ?_) ?_
            · have q5 := hD.cell 0 rfl (dv_b ((dL K m).length : Nat) _ _ (i := l) (by omega))
              have q6 := hD.frozen 0 rfl (1 + l)
              go_simp
            rintro w3 - h3
            go_simp
            rw [dv_setb _ _ _ _ (by omega)] at h3
            rw [HS.out.1] at h3
            clear hH
            simp only [List.set_cons_zero] at h3
            go_wp2
            refine Rd.region_P (w0 := w) [pBlk (G1 + 1) (qv (nuU K m)) 48, pBlk G1 (iv (mc K)) 84, pBlk (G + 1) (dv 0 (fun _ => 0) (fun _ => 0)) 36, pBlk G (fv (m : Int) c t s) 53] [pBlk wr0 (dv ((dL K m).length : Nat) (upto (mfF K (fun x => t (s x)) m) (dL K (k + 1)).length) (upto (mfF K (fun x => c (s x)) m) l)) 36, pBlk (G1 + 1) (qv (nuU K m)) 48, pBlk G1 (iv (mc K)) 84, pBlk (G + 1) (dv 0 (fun _ => 0) (fun _ => 0)) 36, pBlk G (fv (m : Int) c t s) 53] [14] (.q 0 <| .q 1 <| .q 2 <| .q 3 <| .q 4 <| .q 5 <| .q 6 <| .q 7 <| .q 8 <| .q 9 <| .q 10 <| .q 11 <| .q 12 <| .q 13 <| .s1 14 .fin) h3 (.cons _ (.refl _)) (by kernel_rfl) (by kernel_rfl) (by kernel_rfl) ?_
            iterate 14
              apply Rd.v_q
              · simp only [List.getElem?_toArray, List.getElem?_cons_zero, List.getElem?_cons_succ]; exact rfl
              · rfl
              · go_simp
              · intro wx hx
                have q0 := hx.cell 0 rfl HB.out.1
                have q1 := hx.cell 0 rfl HB.out.2.2.1
                have q2 := hx.cell 3 rfl HB.out.2.2.2.1
                have q3 := hx.cell 3 rfl HB.out.2.2.2.2.2
                unfold atG
                go_simp
                simp only [uponG]
                exact ⟨by trivial, rfl⟩
            refine Rd.v_set 0 wr0 (17 + l) (dv ((dL K m).length : Nat) (upto (mfF K (fun x => t (s x)) m) (dL K (k + 1)).length) (upto (mfF K (fun x => c (s x)) m) l)) (.int .u8 (v2 : Nat)) 36 rfl (.cons _ (.refl _)) (by simp only [List.getElem?_toArray, List.getElem?_cons_zero, List.getElem?_cons_succ]; exact rfl) rfl (by go_simp) (fun wx hx hD => ?_) ?_
            · have q5 := hD.cell 0 rfl (dv_w ((dL K m).length : Nat) _ _ (i := l) (by omega))
              have q6 := hD.frozen 0 rfl (17 + l)
              go_simp
            rintro w4 - h4
            go_simp
            rw [dv_setw _ _ _ _ (by omega)] at h4
            rw [HS.out.2] at h4
            clear h3
            simp only [List.set_cons_zero] at h4
            go_wp2
            go_roundw
            case rel => exact ⟨k + 1, by omega, by go_num, h4⟩
            case measure => simp [intOf]; omega
          · have c1 : wr.cell? ⟨G1, k, none⟩ = some (.int .i64 0) := hH.cell 2 rfl (mc_get K hk32 hx)
            have HX := hide (show K k ≠ 1 by omega); clear hx
            go_wp2
            go_roundw
            case rel => exact ⟨k + 1, by omega, by go_num, by rw [HD.out.2 HX.out]; exact hH⟩
            case measure => simp [intOf]; omega
          · have c1 : wr.cell? ⟨G1, k, none⟩ = some (.int .i64 2) := hH.cell 2 rfl (mc_get K hk32 hx)
            have HX := hide (show K k ≠ 1 by omega); clear hx
            go_wp2
            go_roundw
            case rel => exact ⟨k + 1, by omega, by go_num, by rw [HD.out.2 HX.out]; exact hH⟩
            case measure => simp [intOf]; omega
        · obtain rfl : k = m := by omega
          have rr := hH.rowOk (n := 33) 3 rfl (dv_size _ _ _)
          have cd := hH.cells 0 rfl
          have H3 := hH.setRow 3 rfl (dv ((dL K k).length : Nat) (upto (mfF K (fun x => t (s x)) k) (dL K k).length) (upto (mfF K (fun x => c (s x)) k) (dL K k).length))
          clear hlt hk
          go_wp2
          exact res_agg2 (p := 2) (t := 3) (g := G + 1) (v := .int .i64 0) aggD (dv_size _ _ _) rfl rfl rfl rfl (H3.at 3 rfl) ⟨rfl, H3.low⟩
end Go.Proofs.Yteeideminlcblaa

