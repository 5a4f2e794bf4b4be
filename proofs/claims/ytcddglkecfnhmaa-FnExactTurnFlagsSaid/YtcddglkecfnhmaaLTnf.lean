/- TurnFlags of the program; the law's walk -/
import Derived.Test.YtcddglkecfnhmaaToFl
import Derived.Test.YtcddglkecfnhmaaTnfA
namespace Go.Proofs.Ytcddglkecfnhmaa
open Go.RowKit

set_option maxRecDepth 100000 in
set_option maxHeartbeats 4000000 in
theorem turnP0 (n : Nat) (c t s : Nat → Nat) (hc : ∀ i, c i < 256) (ht : ∀ i, t i < 256) (hs : ∀ i, s i < 256) (hf : flP n c t s) (w : World) :
    Calls Try.prog 20 #[.agg (fv (n : Int) c t s), .int .i64 0] w fun e w' => e = .returned (.tuple #[.agg (fv (n : Int) (mdF c c n) t (mdF s s n)), .int .i64 0]) ∧ Below w.heap.size w w' := by
  have c1 := fun w => areFlags_any (n : Int) c t s hc ht hs w
  rw [flB_yes hf] at c1
  have C1 := hide c1; clear c1
  have C2 := hide fun w => isTurn_any 0 w
  rw [show (decide ((0 : Int) ≤ 0) && decide ((0 : Int) < 6)) = true from rfl] at C2
  have HH0 := ((Holds.start w).blk (fv (n : Int) c t s) 27 w.heap.size rfl).blk (fv 0 (fun _ => 0) (fun _ => 0) (fun _ => 0)) 27 (w.heap.size + 1) (by simp)
  have hn := fv_n (n : Int) c t s
  have hn32 := hf.1.2.1
  obtain ⟨T1, x1, K1, r1, e1, m1, nn1, k1, b1, D1⟩ := (show LeadV (swV c) c from lead_sw c hf.l32.1)
  obtain ⟨T2, x2, K2, r2, e2, m2, nn2, k2, b2, D2⟩ := (show LeadV (swV s) s from lead_sw s hf.l32.2.2)
  have a1 := fun w => corner_any (n : Int) c t s w
  have a2 := fun w => side_any (n : Int) c t s w
  rw [e1] at a1
  rw [e2] at a2
  have A1 := hide a1; clear a1
  have A2 := hide a2; clear a2
  have DD1 := hide D1; clear D1
  have DD2 := hide D2; clear D2
  obtain ⟨P, hP⟩ : ∃ P : Nat → Nat, P = c := ⟨_, rfl⟩
  obtain ⟨R, hR⟩ : ∃ R : Nat → Nat, R = s := ⟨_, rfl⟩
  have eA : mdF c c n = mdF P c n := by rw [hP]
  have eB : mdF s s n = mdF R s n := by rw [hR]
  rw [eA, eB]
  clear eA eB
  have QD1 : Hid (∀ i : Nat, i < 32 → ∀ w, Calls Try.prog K1 #[r1, .int .u8 i] w fun e w' => e = .returned (.int .u8 (P i)) ∧ Below w.heap.size w w') := by rw [hP]; exact DD1
  have QD2 : Hid (∀ i : Nat, i < 32 → ∀ w, Calls Try.prog K2 #[r2, .int .u8 i] w fun e w' => e = .returned (.int .u8 (R i)) ∧ Below w.heap.size w w') := by rw [hR]; exact DD2
  have HM1 := hide (And.intro m1 (And.intro nn1 k1))
  have HM2 := hide (And.intro m2 (And.intro nn2 k2))
  clear DD1 DD2 hP hR b1 b2 e1 e2 hf hc ht hs m1 m2 nn1 nn2 k1 k2
  go_enter Try.func20, Try.ntmps20
  go_wp2_with fail
  refine (C1.out _).mono ?_
  rintro e w1 ⟨rfl, hb⟩
  have HH1 := HH0.call hb
  have cd1 := HH1.cells 1 rfl
  have rr1 := HH1.rowOk (n := 97) 0 rfl (fv_size _ _ _ _)
  clear hb HH0
  go_wp2_with fail
  refine (C2.out _).mono ?_
  rintro e w2 ⟨rfl, hb⟩
  have HH2 := HH1.call hb
  have cd2 := HH2.cells 1 rfl
  have rr2 := HH2.rowOk (n := 97) 0 rfl (fv_size _ _ _ _)
  clear hb HH1 cd1 rr1
  go_wp2
  have H5 := HH2.blk #[(fnV 49), (fnV 48), (fnV 48), (fnV 49), (fnV 47), (fnV 48), (fnV 48), (fnV 47), (fnV 49), (fnV 47), (fnV 47), (fnV 49)] 73 w2.heap.size rfl
  refine Rd.region_P (w0 := w) [pBlk w2.heap.size #[(fnV 49), (fnV 48), (fnV 48), (fnV 49), (fnV 47), (fnV 48), (fnV 48), (fnV 47), (fnV 49), (fnV 47), (fnV 47), (fnV 49)] 73, pBlk (w.heap.size + 1) (fv 0 (fun _ => 0) (fun _ => 0) (fun _ => 0)) 27, pBlk w.heap.size (fv (n : Int) c t s) 27] [pBlk w2.heap.size #[(fnV 49), (fnV 48), (fnV 48), (fnV 49), (fnV 47), (fnV 48), (fnV 48), (fnV 47), (fnV 49), (fnV 47), (fnV 47), (fnV 49)] 73, pBlk (w.heap.size + 1) (fv 0 (fun _ => 0) (fun _ => 0) (fun _ => 0)) 27, pBlk w.heap.size (fv (n : Int) c t s) 27] [] (.q 0 <| .q 1 <| .q 2 <| .q 3 <| .q 4 <| .q 5 <| .q 6 <| .q 7 <| .q 8 <| .q 9 <| .q 10 <| .q 11 <| .q 12 <| .q 13 .fin) H5 (.refl _) (by kernel_rfl) (by kernel_rfl) (by kernel_rfl) ?_
  iterate 5
    apply Rd.v_q
    · simp only [List.getElem?_toArray, List.getElem?_cons_zero, List.getElem?_cons_succ]; exact rfl
    · rfl
    · go_simp
    · intro wx hx
      have f1 : wx.cell? ⟨w2.heap.size, 0, none⟩ = some (fnV 49) := hx.cell 0 rfl rfl
      have f2 : wx.cell? ⟨w2.heap.size, 1, none⟩ = some (fnV 48) := hx.cell 0 rfl rfl
      have q0 := hx.cells 2 rfl
      unfold atG
      go_simp
      simp only [uponG]
      exact ⟨by trivial, rfl⟩
  iterate 1
    apply Rd.v_q
    · simp only [List.getElem?_toArray, List.getElem?_cons_zero, List.getElem?_cons_succ]; exact rfl
    · rfl
    · go_simp
    · intro wx hx
      have f1 : wx.cell? ⟨w2.heap.size, 0, none⟩ = some (fnV 49) := hx.cell 0 rfl rfl
      have f2 : wx.cell? ⟨w2.heap.size, 1, none⟩ = some (fnV 48) := hx.cell 0 rfl rfl
      have q0 := hx.cells 2 rfl
      unfold atG
      go_simp
      simp only [uponG]
      exact ⟨by trivial, A1.out wx⟩
  iterate 5
    apply Rd.v_q
    · simp only [List.getElem?_toArray, List.getElem?_cons_zero, List.getElem?_cons_succ]; exact rfl
    · rfl
    · go_simp
    · intro wx hx
      have f1 : wx.cell? ⟨w2.heap.size, 0, none⟩ = some (fnV 49) := hx.cell 0 rfl rfl
      have f2 : wx.cell? ⟨w2.heap.size, 1, none⟩ = some (fnV 48) := hx.cell 0 rfl rfl
      have q0 := hx.cells 2 rfl
      unfold atG
      go_simp
      simp only [uponG]
      exact ⟨by trivial, rfl⟩
  iterate 1
    apply Rd.v_q
    · simp only [List.getElem?_toArray, List.getElem?_cons_zero, List.getElem?_cons_succ]; exact rfl
    · rfl
    · go_simp
    · intro wx hx
      have f1 : wx.cell? ⟨w2.heap.size, 0, none⟩ = some (fnV 49) := hx.cell 0 rfl rfl
      have f2 : wx.cell? ⟨w2.heap.size, 1, none⟩ = some (fnV 48) := hx.cell 0 rfl rfl
      have q0 := hx.cells 2 rfl
      unfold atG
      go_simp
      simp only [uponG]
      exact ⟨by trivial, A2.out wx⟩
  iterate 2
    apply Rd.v_q
    · simp only [List.getElem?_toArray, List.getElem?_cons_zero, List.getElem?_cons_succ]; exact rfl
    · rfl
    · go_simp
    · intro wx hx
      have f1 : wx.cell? ⟨w2.heap.size, 0, none⟩ = some (fnV 49) := hx.cell 0 rfl rfl
      have f2 : wx.cell? ⟨w2.heap.size, 1, none⟩ = some (fnV 48) := hx.cell 0 rfl rfl
      have q0 := hx.cells 2 rfl
      unfold atG
      go_simp
      simp only [uponG]
      exact ⟨by trivial, rfl⟩
  rintro w5 h5 -
  go_simp
  clear H5 HH2 cd2 rr2 A1 A2 C1 C2
  have c5 := h5.cells 2 rfl
  have n5 := h5.cell 2 rfl hn
  have l5 := h5.lt 2 rfl
  have hw8 : IntKind.u8.wrap (n : Int) = n := wr8k (by omega) (by omega)
  have H6 : Holds w (w5.alloc (.cells (fv (n : Int) c t s) 27)) _ := h5.blk _ _ w5.heap.size rfl
  generalize hg6 : w2.heap.size = g6 at *
  go_wp2
  clear c5 n5 l5 hw8
  generalize hG1 : w5.heap.size = G1 at *
  have HG1 := hide hG1; clear hG1
  have HG6 := hide hg6; clear hg6
  go_loopw [42] (fun i wr => ∃ x : Nat, x ≤ n ∧ i = .int .u8 x ∧ Holds w wr [pBlk G1 (fv (n : Int) (mdF P c x) t (mdF R s x)) 27, pBlk g6 #[(fnV 49), (fnV 48), (fnV 48), (fnV 49), (fnV 47), (fnV 48), (fnV 48), (fnV 47), (fnV 49), (fnV 47), (fnV 47), (fnV 49)] 73, pBlk (w.heap.size + 1) (fv 0 (fun _ => 0) (fun _ => 0) (fun _ => 0)) 27, pBlk w.heap.size (fv (n : Int) c t s) 27]) (fun i _ => n - (intOf i).toNat)
  case atStart => exact ⟨0, by omega, rfl, by rw [mdF_zero, mdF_zero]; exact H6⟩
  case round =>
    clear H6 h5
    obtain ⟨x, hx, rfl, hH⟩ := hrel
    by_cases hlt : x < n
    · have hlti : (x : Int) < (n : Int) := by omega
      have hx32 : x < 32 := by omega
      have hxi : (x : Int) < 32 := by omega
      have E1 := hide (QD1.out x hx32)
      have E2 := hide (QD2.out x hx32)
      have s1 := mdF_succ P c x
      have s2 := mdF_succ R s x
      have S1 := hide s1; clear s1
      have S2 := hide s2; clear s2
      have hme : n - (x + 1) < n - x := by omega
      have hwx : IntKind.u8.wrap ((x : Int) + 1) = (x : Int) + 1 := wr8k (by omega) (by omega)
      obtain ⟨m1, nn1, k1⟩ := HM1.out
      obtain ⟨m2, nn2, k2⟩ := HM2.out
      generalize P x = px at *
      generalize R x = rx at *
      generalize mdF P c x = cx at *
      generalize mdF R s x = sx at *
      go_wp2
      refine Rd.region_P (w0 := w) [pBlk g6 #[(fnV 49), (fnV 48), (fnV 48), (fnV 49), (fnV 47), (fnV 48), (fnV 48), (fnV 47), (fnV 49), (fnV 47), (fnV 47), (fnV 49)] 73, pBlk (w.heap.size + 1) (fv 0 (fun _ => 0) (fun _ => 0) (fun _ => 0)) 27, pBlk w.heap.size (fv (n : Int) c t s) 27] [pBlk G1 (fv (n : Int) cx t sx) 27, pBlk g6 #[(fnV 49), (fnV 48), (fnV 48), (fnV 49), (fnV 47), (fnV 48), (fnV 48), (fnV 47), (fnV 49), (fnV 47), (fnV 47), (fnV 49)] 73, pBlk (w.heap.size + 1) (fv 0 (fun _ => 0) (fun _ => 0) (fun _ => 0)) 27, pBlk w.heap.size (fv (n : Int) c t s) 27] [10, 13] (.q 0 <| .q 1 <| .q 2 <| .q 3 <| .q 5 <| .q 6 <| .q 8 <| .q 11 <| .q 4 <| .q 7 <| .q 9 <| .s1 10 <| .q 12 <| .s1 13 .fin) hH (.cons _ (.refl _)) (by kernel_rfl) (by kernel_rfl) (by kernel_rfl) ?_
      iterate 8
        apply Rd.v_q
        · simp only [List.getElem?_toArray, List.getElem?_cons_zero, List.getElem?_cons_succ]; exact rfl
        · rfl
        · go_simp
        · intro wx hx
          unfold atG
          go_simp
          simp only [uponG]
          exact ⟨by trivial, rfl⟩
      iterate 1
        apply Rd.v_q
        · simp only [List.getElem?_toArray, List.getElem?_cons_zero, List.getElem?_cons_succ]; exact rfl
        · rfl
        · go_simp
        · intro wx hx
          unfold atG
          go_simp
          simp only [uponG]
          exact ⟨by trivial, E1.out wx⟩
      iterate 1
        apply Rd.v_q
        · simp only [List.getElem?_toArray, List.getElem?_cons_zero, List.getElem?_cons_succ]; exact rfl
        · rfl
        · go_simp
        · intro wx hx
          unfold atG
          go_simp
          simp only [uponG]
          exact ⟨by trivial, E2.out wx⟩
      iterate 1
        apply Rd.v_q
        · simp only [List.getElem?_toArray, List.getElem?_cons_zero, List.getElem?_cons_succ]; exact rfl
        · rfl
        · go_simp
        · intro wx hx
          unfold atG
          go_simp
          simp only [uponG]
          exact ⟨by trivial, rfl⟩
      refine Rd.v_s (fun u wx => u = undef ∧ Holds w wx (pBlk G1 (fv (n : Int) (fset cx x px) t sx) 27 :: [pBlk g6 #[(fnV 49), (fnV 48), (fnV 48), (fnV 49), (fnV 47), (fnV 48), (fnV 48), (fnV 47), (fnV 49), (fnV 47), (fnV 47), (fnV 49)] 73, pBlk (w.heap.size + 1) (fv 0 (fun _ => 0) (fun _ => 0) (fun _ => 0)) 27, pBlk w.heap.size (fv (n : Int) c t s) 27])) (fun _ _ _ h hb => ⟨h.1, h.2.call hb⟩) (by simp only [List.getElem?_toArray, List.getElem?_cons_zero, List.getElem?_cons_succ]; exact rfl) rfl (by go_simp) (fun wx hx hD => ?_) ?_
      · have hD' : Holds w wx (pBlk G1 (fv (n : Int) cx t sx) 27 :: [pBlk g6 #[(fnV 49), (fnV 48), (fnV 48), (fnV 49), (fnV 47), (fnV 48), (fnV 48), (fnV 47), (fnV 49), (fnV 47), (fnV 47), (fnV 49)] 73, pBlk (w.heap.size + 1) (fv 0 (fun _ => 0) (fun _ => 0) (fun _ => 0)) 27, pBlk w.heap.size (fv (n : Int) c t s) 27]) := hD
        have y := hD'.cell 0 rfl (fv_c (n : Int) cx t sx hx32)
        have z := hD'.frozen 0 rfl (1 + x)
        have hs := hD'.set 0 rfl (1 + x) (.int .u8 px)
        simp only [List.set_cons_zero] at hs
        rw [fv_setc _ _ _ _ _ hx32] at hs
        have HS := hide hs; clear hs
        go_simp
        simp only [Rd.uponE]
        exact ⟨HS.out.sub (.cons _ (.refl _)), by trivial, HS.out⟩
      rintro v ⟨_, _, rfl, _⟩
      iterate 1
        apply Rd.v_q
        · simp only [List.getElem?_toArray, List.getElem?_cons_zero, List.getElem?_cons_succ]; exact rfl
        · rfl
        · go_simp
        · intro wx hx
          unfold atG
          go_simp
          simp only [uponG]
          exact ⟨by trivial, rfl⟩
      refine Rd.v_s (fun u wx => u = undef ∧ Holds w wx (pBlk G1 (fv (n : Int) (fset cx x px) t (fset sx x rx)) 27 :: [pBlk g6 #[(fnV 49), (fnV 48), (fnV 48), (fnV 49), (fnV 47), (fnV 48), (fnV 48), (fnV 47), (fnV 49), (fnV 47), (fnV 47), (fnV 49)] 73, pBlk (w.heap.size + 1) (fv 0 (fun _ => 0) (fun _ => 0) (fun _ => 0)) 27, pBlk w.heap.size (fv (n : Int) c t s) 27])) (fun _ _ _ h hb => ⟨h.1, h.2.call hb⟩) (by simp only [List.getElem?_toArray, List.getElem?_cons_zero, List.getElem?_cons_succ]; exact rfl) rfl (by go_simp) (fun wx hx hD => ?_) ?_
      · have hD' : Holds w wx (pBlk G1 (fv (n : Int) (fset cx x px) t sx) 27 :: [pBlk g6 #[(fnV 49), (fnV 48), (fnV 48), (fnV 49), (fnV 47), (fnV 48), (fnV 48), (fnV 47), (fnV 49), (fnV 47), (fnV 47), (fnV 49)] 73, pBlk (w.heap.size + 1) (fv 0 (fun _ => 0) (fun _ => 0) (fun _ => 0)) 27, pBlk w.heap.size (fv (n : Int) c t s) 27]) := hD.2
        have y := hD'.cell 0 rfl (fv_s (n : Int) (fset cx x px) t sx hx32)
        have z := hD'.frozen 0 rfl (65 + x)
        have hs := hD'.set 0 rfl (65 + x) (.int .u8 rx)
        simp only [List.set_cons_zero] at hs
        rw [fv_sets _ _ _ _ _ hx32] at hs
        have HS := hide hs; clear hs
        go_simp
        simp only [Rd.uponE]
        exact ⟨HS.out.sub (.cons _ (.refl _)), by trivial, HS.out⟩
      rintro v ⟨_, _, rfl, _⟩
      rintro wz - hz
      have hz2 := hz.2
      rw [S1.out, S2.out] at hz2
      have HZ := hide hz2; clear hz2 hz
      go_simp
      go_wp2
      go_roundw
      case rel => exact ⟨x + 1, hlt, by go_num, HZ.out⟩
      case measure => simp [intOf]; first | exact hme | omega
    · obtain rfl : x = n := by omega
      have rr := hH.rowOk (n := 97) 2 rfl (fv_size _ _ _ _)
      have cd := hH.cells 0 rfl
      have HH3 := hH.setRow 2 rfl (fv (x : Int) (mdF P c x) t (mdF R s x))
      clear hlt
      go_wp2
      exact res_agg2 (p := 4) (t := 5) (g := w.heap.size + 1) (v := .int .i64 0) aggFl (fv_size _ _ _ _) rfl rfl rfl rfl (HH3.at 2 rfl) ⟨rfl, HH3.low⟩


set_option maxRecDepth 100000 in
set_option maxHeartbeats 4000000 in
theorem turnP1 (n : Nat) (c t s : Nat → Nat) (hc : ∀ i, c i < 256) (ht : ∀ i, t i < 256) (hs : ∀ i, s i < 256) (hf : flP n c t s) (w : World) :
    Calls Try.prog 20 #[.agg (fv (n : Int) c t s), .int .i64 1] w fun e w' => e = .returned (.tuple #[.agg (fv (n : Int) (mdF s c n) t (mdF c s n)), .int .i64 0]) ∧ Below w.heap.size w w' := by
  have c1 := fun w => areFlags_any (n : Int) c t s hc ht hs w
  rw [flB_yes hf] at c1
  have C1 := hide c1; clear c1
  have C2 := hide fun w => isTurn_any 1 w
  rw [show (decide ((0 : Int) ≤ 1) && decide ((1 : Int) < 6)) = true from rfl] at C2
  have HH0 := ((Holds.start w).blk (fv (n : Int) c t s) 27 w.heap.size rfl).blk (fv 0 (fun _ => 0) (fun _ => 0) (fun _ => 0)) 27 (w.heap.size + 1) (by simp)
  have hn := fv_n (n : Int) c t s
  have hn32 := hf.1.2.1
  obtain ⟨T1, x1, K1, r1, e1, m1, nn1, k1, b1, D1⟩ := (show LeadV (swV s) s from lead_sw s hf.l32.2.2)
  obtain ⟨T2, x2, K2, r2, e2, m2, nn2, k2, b2, D2⟩ := (show LeadV (swV c) c from lead_sw c hf.l32.1)
  have a1 := fun w => side_any (n : Int) c t s w
  have a2 := fun w => corner_any (n : Int) c t s w
  rw [e1] at a1
  rw [e2] at a2
  have A1 := hide a1; clear a1
  have A2 := hide a2; clear a2
  have DD1 := hide D1; clear D1
  have DD2 := hide D2; clear D2
  obtain ⟨P, hP⟩ : ∃ P : Nat → Nat, P = s := ⟨_, rfl⟩
  obtain ⟨R, hR⟩ : ∃ R : Nat → Nat, R = c := ⟨_, rfl⟩
  have eA : mdF s c n = mdF P c n := by rw [hP]
  have eB : mdF c s n = mdF R s n := by rw [hR]
  rw [eA, eB]
  clear eA eB
  have QD1 : Hid (∀ i : Nat, i < 32 → ∀ w, Calls Try.prog K1 #[r1, .int .u8 i] w fun e w' => e = .returned (.int .u8 (P i)) ∧ Below w.heap.size w w') := by rw [hP]; exact DD1
  have QD2 : Hid (∀ i : Nat, i < 32 → ∀ w, Calls Try.prog K2 #[r2, .int .u8 i] w fun e w' => e = .returned (.int .u8 (R i)) ∧ Below w.heap.size w w') := by rw [hR]; exact DD2
  have HM1 := hide (And.intro m1 (And.intro nn1 k1))
  have HM2 := hide (And.intro m2 (And.intro nn2 k2))
  clear DD1 DD2 hP hR b1 b2 e1 e2 hf hc ht hs m1 m2 nn1 nn2 k1 k2
  go_enter Try.func20, Try.ntmps20
  go_wp2_with fail
  refine (C1.out _).mono ?_
  rintro e w1 ⟨rfl, hb⟩
  have HH1 := HH0.call hb
  have cd1 := HH1.cells 1 rfl
  have rr1 := HH1.rowOk (n := 97) 0 rfl (fv_size _ _ _ _)
  clear hb HH0
  go_wp2_with fail
  refine (C2.out _).mono ?_
  rintro e w2 ⟨rfl, hb⟩
  have HH2 := HH1.call hb
  have cd2 := HH2.cells 1 rfl
  have rr2 := HH2.rowOk (n := 97) 0 rfl (fv_size _ _ _ _)
  clear hb HH1 cd1 rr1
  go_wp2
  have H5 := HH2.blk #[(fnV 49), (fnV 48), (fnV 48), (fnV 49), (fnV 47), (fnV 48), (fnV 48), (fnV 47), (fnV 49), (fnV 47), (fnV 47), (fnV 49)] 73 w2.heap.size rfl
  refine Rd.region_P (w0 := w) [pBlk w2.heap.size #[(fnV 49), (fnV 48), (fnV 48), (fnV 49), (fnV 47), (fnV 48), (fnV 48), (fnV 47), (fnV 49), (fnV 47), (fnV 47), (fnV 49)] 73, pBlk (w.heap.size + 1) (fv 0 (fun _ => 0) (fun _ => 0) (fun _ => 0)) 27, pBlk w.heap.size (fv (n : Int) c t s) 27] [pBlk w2.heap.size #[(fnV 49), (fnV 48), (fnV 48), (fnV 49), (fnV 47), (fnV 48), (fnV 48), (fnV 47), (fnV 49), (fnV 47), (fnV 47), (fnV 49)] 73, pBlk (w.heap.size + 1) (fv 0 (fun _ => 0) (fun _ => 0) (fun _ => 0)) 27, pBlk w.heap.size (fv (n : Int) c t s) 27] [] (.q 0 <| .q 1 <| .q 2 <| .q 3 <| .q 4 <| .q 5 <| .q 6 <| .q 7 <| .q 8 <| .q 9 <| .q 10 <| .q 11 <| .q 12 <| .q 13 .fin) H5 (.refl _) (by kernel_rfl) (by kernel_rfl) (by kernel_rfl) ?_
  iterate 5
    apply Rd.v_q
    · simp only [List.getElem?_toArray, List.getElem?_cons_zero, List.getElem?_cons_succ]; exact rfl
    · rfl
    · go_simp
    · intro wx hx
      have f1 : wx.cell? ⟨w2.heap.size, 2, none⟩ = some (fnV 48) := hx.cell 0 rfl rfl
      have f2 : wx.cell? ⟨w2.heap.size, 3, none⟩ = some (fnV 49) := hx.cell 0 rfl rfl
      have q0 := hx.cells 2 rfl
      unfold atG
      go_simp
      simp only [uponG]
      exact ⟨by trivial, rfl⟩
  iterate 1
    apply Rd.v_q
    · simp only [List.getElem?_toArray, List.getElem?_cons_zero, List.getElem?_cons_succ]; exact rfl
    · rfl
    · go_simp
    · intro wx hx
      have f1 : wx.cell? ⟨w2.heap.size, 2, none⟩ = some (fnV 48) := hx.cell 0 rfl rfl
      have f2 : wx.cell? ⟨w2.heap.size, 3, none⟩ = some (fnV 49) := hx.cell 0 rfl rfl
      have q0 := hx.cells 2 rfl
      unfold atG
      go_simp
      simp only [uponG]
      exact ⟨by trivial, A1.out wx⟩
  iterate 5
    apply Rd.v_q
    · simp only [List.getElem?_toArray, List.getElem?_cons_zero, List.getElem?_cons_succ]; exact rfl
    · rfl
    · go_simp
    · intro wx hx
      have f1 : wx.cell? ⟨w2.heap.size, 2, none⟩ = some (fnV 48) := hx.cell 0 rfl rfl
      have f2 : wx.cell? ⟨w2.heap.size, 3, none⟩ = some (fnV 49) := hx.cell 0 rfl rfl
      have q0 := hx.cells 2 rfl
      unfold atG
      go_simp
      simp only [uponG]
      exact ⟨by trivial, rfl⟩
  iterate 1
    apply Rd.v_q
    · simp only [List.getElem?_toArray, List.getElem?_cons_zero, List.getElem?_cons_succ]; exact rfl
    · rfl
    · go_simp
    · intro wx hx
      have f1 : wx.cell? ⟨w2.heap.size, 2, none⟩ = some (fnV 48) := hx.cell 0 rfl rfl
      have f2 : wx.cell? ⟨w2.heap.size, 3, none⟩ = some (fnV 49) := hx.cell 0 rfl rfl
      have q0 := hx.cells 2 rfl
      unfold atG
      go_simp
      simp only [uponG]
      exact ⟨by trivial, A2.out wx⟩
  iterate 2
    apply Rd.v_q
    · simp only [List.getElem?_toArray, List.getElem?_cons_zero, List.getElem?_cons_succ]; exact rfl
    · rfl
    · go_simp
    · intro wx hx
      have f1 : wx.cell? ⟨w2.heap.size, 2, none⟩ = some (fnV 48) := hx.cell 0 rfl rfl
      have f2 : wx.cell? ⟨w2.heap.size, 3, none⟩ = some (fnV 49) := hx.cell 0 rfl rfl
      have q0 := hx.cells 2 rfl
      unfold atG
      go_simp
      simp only [uponG]
      exact ⟨by trivial, rfl⟩
  rintro w5 h5 -
  go_simp
  clear H5 HH2 cd2 rr2 A1 A2 C1 C2
  have c5 := h5.cells 2 rfl
  have n5 := h5.cell 2 rfl hn
  have l5 := h5.lt 2 rfl
  have hw8 : IntKind.u8.wrap (n : Int) = n := wr8k (by omega) (by omega)
  have H6 : Holds w (w5.alloc (.cells (fv (n : Int) c t s) 27)) _ := h5.blk _ _ w5.heap.size rfl
  generalize hg6 : w2.heap.size = g6 at *
  go_wp2
  clear c5 n5 l5 hw8
  generalize hG1 : w5.heap.size = G1 at *
  have HG1 := hide hG1; clear hG1
  have HG6 := hide hg6; clear hg6
  go_loopw [42] (fun i wr => ∃ x : Nat, x ≤ n ∧ i = .int .u8 x ∧ Holds w wr [pBlk G1 (fv (n : Int) (mdF P c x) t (mdF R s x)) 27, pBlk g6 #[(fnV 49), (fnV 48), (fnV 48), (fnV 49), (fnV 47), (fnV 48), (fnV 48), (fnV 47), (fnV 49), (fnV 47), (fnV 47), (fnV 49)] 73, pBlk (w.heap.size + 1) (fv 0 (fun _ => 0) (fun _ => 0) (fun _ => 0)) 27, pBlk w.heap.size (fv (n : Int) c t s) 27]) (fun i _ => n - (intOf i).toNat)
  case atStart => exact ⟨0, by omega, rfl, by rw [mdF_zero, mdF_zero]; exact H6⟩
  case round =>
    clear H6 h5
    obtain ⟨x, hx, rfl, hH⟩ := hrel
    by_cases hlt : x < n
    · have hlti : (x : Int) < (n : Int) := by omega
      have hx32 : x < 32 := by omega
      have hxi : (x : Int) < 32 := by omega
      have E1 := hide (QD1.out x hx32)
      have E2 := hide (QD2.out x hx32)
      have s1 := mdF_succ P c x
      have s2 := mdF_succ R s x
      have S1 := hide s1; clear s1
      have S2 := hide s2; clear s2
      have hme : n - (x + 1) < n - x := by omega
      have hwx : IntKind.u8.wrap ((x : Int) + 1) = (x : Int) + 1 := wr8k (by omega) (by omega)
      obtain ⟨m1, nn1, k1⟩ := HM1.out
      obtain ⟨m2, nn2, k2⟩ := HM2.out
      generalize P x = px at *
      generalize R x = rx at *
      generalize mdF P c x = cx at *
      generalize mdF R s x = sx at *
      go_wp2
      refine Rd.region_P (w0 := w) [pBlk g6 #[(fnV 49), (fnV 48), (fnV 48), (fnV 49), (fnV 47), (fnV 48), (fnV 48), (fnV 47), (fnV 49), (fnV 47), (fnV 47), (fnV 49)] 73, pBlk (w.heap.size + 1) (fv 0 (fun _ => 0) (fun _ => 0) (fun _ => 0)) 27, pBlk w.heap.size (fv (n : Int) c t s) 27] [pBlk G1 (fv (n : Int) cx t sx) 27, pBlk g6 #[(fnV 49), (fnV 48), (fnV 48), (fnV 49), (fnV 47), (fnV 48), (fnV 48), (fnV 47), (fnV 49), (fnV 47), (fnV 47), (fnV 49)] 73, pBlk (w.heap.size + 1) (fv 0 (fun _ => 0) (fun _ => 0) (fun _ => 0)) 27, pBlk w.heap.size (fv (n : Int) c t s) 27] [10, 13] (.q 0 <| .q 1 <| .q 2 <| .q 3 <| .q 5 <| .q 6 <| .q 8 <| .q 11 <| .q 4 <| .q 7 <| .q 9 <| .s1 10 <| .q 12 <| .s1 13 .fin) hH (.cons _ (.refl _)) (by kernel_rfl) (by kernel_rfl) (by kernel_rfl) ?_
      iterate 8
        apply Rd.v_q
        · simp only [List.getElem?_toArray, List.getElem?_cons_zero, List.getElem?_cons_succ]; exact rfl
        · rfl
        · go_simp
        · intro wx hx
          unfold atG
          go_simp
          simp only [uponG]
          exact ⟨by trivial, rfl⟩
      iterate 1
        apply Rd.v_q
        · simp only [List.getElem?_toArray, List.getElem?_cons_zero, List.getElem?_cons_succ]; exact rfl
        · rfl
        · go_simp
        · intro wx hx
          unfold atG
          go_simp
          simp only [uponG]
          exact ⟨by trivial, E1.out wx⟩
      iterate 1
        apply Rd.v_q
        · simp only [List.getElem?_toArray, List.getElem?_cons_zero, List.getElem?_cons_succ]; exact rfl
        · rfl
        · go_simp
        · intro wx hx
          unfold atG
          go_simp
          simp only [uponG]
          exact ⟨by trivial, E2.out wx⟩
      iterate 1
        apply Rd.v_q
        · simp only [List.getElem?_toArray, List.getElem?_cons_zero, List.getElem?_cons_succ]; exact rfl
        · rfl
        · go_simp
        · intro wx hx
          unfold atG
          go_simp
          simp only [uponG]
          exact ⟨by trivial, rfl⟩
      refine Rd.v_s (fun u wx => u = undef ∧ Holds w wx (pBlk G1 (fv (n : Int) (fset cx x px) t sx) 27 :: [pBlk g6 #[(fnV 49), (fnV 48), (fnV 48), (fnV 49), (fnV 47), (fnV 48), (fnV 48), (fnV 47), (fnV 49), (fnV 47), (fnV 47), (fnV 49)] 73, pBlk (w.heap.size + 1) (fv 0 (fun _ => 0) (fun _ => 0) (fun _ => 0)) 27, pBlk w.heap.size (fv (n : Int) c t s) 27])) (fun _ _ _ h hb => ⟨h.1, h.2.call hb⟩) (by simp only [List.getElem?_toArray, List.getElem?_cons_zero, List.getElem?_cons_succ]; exact rfl) rfl (by go_simp) (fun wx hx hD => ?_) ?_
      · have hD' : Holds w wx (pBlk G1 (fv (n : Int) cx t sx) 27 :: [pBlk g6 #[(fnV 49), (fnV 48), (fnV 48), (fnV 49), (fnV 47), (fnV 48), (fnV 48), (fnV 47), (fnV 49), (fnV 47), (fnV 47), (fnV 49)] 73, pBlk (w.heap.size + 1) (fv 0 (fun _ => 0) (fun _ => 0) (fun _ => 0)) 27, pBlk w.heap.size (fv (n : Int) c t s) 27]) := hD
        have y := hD'.cell 0 rfl (fv_c (n : Int) cx t sx hx32)
        have z := hD'.frozen 0 rfl (1 + x)
        have hs := hD'.set 0 rfl (1 + x) (.int .u8 px)
        simp only [List.set_cons_zero] at hs
        rw [fv_setc _ _ _ _ _ hx32] at hs
        have HS := hide hs; clear hs
        go_simp
        simp only [Rd.uponE]
        exact ⟨HS.out.sub (.cons _ (.refl _)), by trivial, HS.out⟩
      rintro v ⟨_, _, rfl, _⟩
      iterate 1
        apply Rd.v_q
        · simp only [List.getElem?_toArray, List.getElem?_cons_zero, List.getElem?_cons_succ]; exact rfl
        · rfl
        · go_simp
        · intro wx hx
          unfold atG
          go_simp
          simp only [uponG]
          exact ⟨by trivial, rfl⟩
      refine Rd.v_s (fun u wx => u = undef ∧ Holds w wx (pBlk G1 (fv (n : Int) (fset cx x px) t (fset sx x rx)) 27 :: [pBlk g6 #[(fnV 49), (fnV 48), (fnV 48), (fnV 49), (fnV 47), (fnV 48), (fnV 48), (fnV 47), (fnV 49), (fnV 47), (fnV 47), (fnV 49)] 73, pBlk (w.heap.size + 1) (fv 0 (fun _ => 0) (fun _ => 0) (fun _ => 0)) 27, pBlk w.heap.size (fv (n : Int) c t s) 27])) (fun _ _ _ h hb => ⟨h.1, h.2.call hb⟩) (by simp only [List.getElem?_toArray, List.getElem?_cons_zero, List.getElem?_cons_succ]; exact rfl) rfl (by go_simp) (fun wx hx hD => ?_) ?_
      · have hD' : Holds w wx (pBlk G1 (fv (n : Int) (fset cx x px) t sx) 27 :: [pBlk g6 #[(fnV 49), (fnV 48), (fnV 48), (fnV 49), (fnV 47), (fnV 48), (fnV 48), (fnV 47), (fnV 49), (fnV 47), (fnV 47), (fnV 49)] 73, pBlk (w.heap.size + 1) (fv 0 (fun _ => 0) (fun _ => 0) (fun _ => 0)) 27, pBlk w.heap.size (fv (n : Int) c t s) 27]) := hD.2
        have y := hD'.cell 0 rfl (fv_s (n : Int) (fset cx x px) t sx hx32)
        have z := hD'.frozen 0 rfl (65 + x)
        have hs := hD'.set 0 rfl (65 + x) (.int .u8 rx)
        simp only [List.set_cons_zero] at hs
        rw [fv_sets _ _ _ _ _ hx32] at hs
        have HS := hide hs; clear hs
        go_simp
        simp only [Rd.uponE]
        exact ⟨HS.out.sub (.cons _ (.refl _)), by trivial, HS.out⟩
      rintro v ⟨_, _, rfl, _⟩
      rintro wz - hz
      have hz2 := hz.2
      rw [S1.out, S2.out] at hz2
      have HZ := hide hz2; clear hz2 hz
      go_simp
      go_wp2
      go_roundw
      case rel => exact ⟨x + 1, hlt, by go_num, HZ.out⟩
      case measure => simp [intOf]; first | exact hme | omega
    · obtain rfl : x = n := by omega
      have rr := hH.rowOk (n := 97) 2 rfl (fv_size _ _ _ _)
      have cd := hH.cells 0 rfl
      have HH3 := hH.setRow 2 rfl (fv (x : Int) (mdF P c x) t (mdF R s x))
      clear hlt
      go_wp2
      exact res_agg2 (p := 4) (t := 5) (g := w.heap.size + 1) (v := .int .i64 0) aggFl (fv_size _ _ _ _) rfl rfl rfl rfl (HH3.at 2 rfl) ⟨rfl, HH3.low⟩


set_option maxRecDepth 100000 in
set_option maxHeartbeats 4000000 in
theorem turnP2 (n : Nat) (c t s : Nat → Nat) (hc : ∀ i, c i < 256) (ht : ∀ i, t i < 256) (hs : ∀ i, s i < 256) (hf : flP n c t s) (w : World) :
    Calls Try.prog 20 #[.agg (fv (n : Int) c t s), .int .i64 2] w fun e w' => e = .returned (.tuple #[.agg (fv (n : Int) (mdF (fun x => s (c x)) c n) t (mdF s s n)), .int .i64 0]) ∧ Below w.heap.size w w' := by
  have c1 := fun w => areFlags_any (n : Int) c t s hc ht hs w
  rw [flB_yes hf] at c1
  have C1 := hide c1; clear c1
  have C2 := hide fun w => isTurn_any 2 w
  rw [show (decide ((0 : Int) ≤ 2) && decide ((2 : Int) < 6)) = true from rfl] at C2
  have HH0 := ((Holds.start w).blk (fv (n : Int) c t s) 27 w.heap.size rfl).blk (fv 0 (fun _ => 0) (fun _ => 0) (fun _ => 0)) 27 (w.heap.size + 1) (by simp)
  have hn := fv_n (n : Int) c t s
  have hn32 := hf.1.2.1
  obtain ⟨T1, x1, K1, r1, e1, m1, nn1, k1, b1, D1⟩ := (show LeadV (acV c s) (fun x => s (c x)) from lead_tw (lead_sw c hf.l32.1) (lead_sw s hf.l32.2.2))
  obtain ⟨T2, x2, K2, r2, e2, m2, nn2, k2, b2, D2⟩ := (show LeadV (swV s) s from lead_sw s hf.l32.2.2)
  have a1 := fun w => across_any (n : Int) c t s w
  have a2 := fun w => side_any (n : Int) c t s w
  rw [e1] at a1
  rw [e2] at a2
  have A1 := hide a1; clear a1
  have A2 := hide a2; clear a2
  have DD1 := hide D1; clear D1
  have DD2 := hide D2; clear D2
  obtain ⟨P, hP⟩ : ∃ P : Nat → Nat, P = (fun x => s (c x)) := ⟨_, rfl⟩
  obtain ⟨R, hR⟩ : ∃ R : Nat → Nat, R = s := ⟨_, rfl⟩
  have eA : mdF (fun x => s (c x)) c n = mdF P c n := by rw [hP]
  have eB : mdF s s n = mdF R s n := by rw [hR]
  rw [eA, eB]
  clear eA eB
  have QD1 : Hid (∀ i : Nat, i < 32 → ∀ w, Calls Try.prog K1 #[r1, .int .u8 i] w fun e w' => e = .returned (.int .u8 (P i)) ∧ Below w.heap.size w w') := by rw [hP]; exact DD1
  have QD2 : Hid (∀ i : Nat, i < 32 → ∀ w, Calls Try.prog K2 #[r2, .int .u8 i] w fun e w' => e = .returned (.int .u8 (R i)) ∧ Below w.heap.size w w') := by rw [hR]; exact DD2
  have HM1 := hide (And.intro m1 (And.intro nn1 k1))
  have HM2 := hide (And.intro m2 (And.intro nn2 k2))
  clear DD1 DD2 hP hR b1 b2 e1 e2 hf hc ht hs m1 m2 nn1 nn2 k1 k2
  go_enter Try.func20, Try.ntmps20
  go_wp2_with fail
  refine (C1.out _).mono ?_
  rintro e w1 ⟨rfl, hb⟩
  have HH1 := HH0.call hb
  have cd1 := HH1.cells 1 rfl
  have rr1 := HH1.rowOk (n := 97) 0 rfl (fv_size _ _ _ _)
  clear hb HH0
  go_wp2_with fail
  refine (C2.out _).mono ?_
  rintro e w2 ⟨rfl, hb⟩
  have HH2 := HH1.call hb
  have cd2 := HH2.cells 1 rfl
  have rr2 := HH2.rowOk (n := 97) 0 rfl (fv_size _ _ _ _)
  clear hb HH1 cd1 rr1
  go_wp2
  have H5 := HH2.blk #[(fnV 49), (fnV 48), (fnV 48), (fnV 49), (fnV 47), (fnV 48), (fnV 48), (fnV 47), (fnV 49), (fnV 47), (fnV 47), (fnV 49)] 73 w2.heap.size rfl
  refine Rd.region_P (w0 := w) [pBlk w2.heap.size #[(fnV 49), (fnV 48), (fnV 48), (fnV 49), (fnV 47), (fnV 48), (fnV 48), (fnV 47), (fnV 49), (fnV 47), (fnV 47), (fnV 49)] 73, pBlk (w.heap.size + 1) (fv 0 (fun _ => 0) (fun _ => 0) (fun _ => 0)) 27, pBlk w.heap.size (fv (n : Int) c t s) 27] [pBlk w2.heap.size #[(fnV 49), (fnV 48), (fnV 48), (fnV 49), (fnV 47), (fnV 48), (fnV 48), (fnV 47), (fnV 49), (fnV 47), (fnV 47), (fnV 49)] 73, pBlk (w.heap.size + 1) (fv 0 (fun _ => 0) (fun _ => 0) (fun _ => 0)) 27, pBlk w.heap.size (fv (n : Int) c t s) 27] [] (.q 0 <| .q 1 <| .q 2 <| .q 3 <| .q 4 <| .q 5 <| .q 6 <| .q 7 <| .q 8 <| .q 9 <| .q 10 <| .q 11 <| .q 12 <| .q 13 .fin) H5 (.refl _) (by kernel_rfl) (by kernel_rfl) (by kernel_rfl) ?_
  iterate 5
    apply Rd.v_q
    · simp only [List.getElem?_toArray, List.getElem?_cons_zero, List.getElem?_cons_succ]; exact rfl
    · rfl
    · go_simp
    · intro wx hx
      have f1 : wx.cell? ⟨w2.heap.size, 4, none⟩ = some (fnV 47) := hx.cell 0 rfl rfl
      have f2 : wx.cell? ⟨w2.heap.size, 5, none⟩ = some (fnV 48) := hx.cell 0 rfl rfl
      have q0 := hx.cells 2 rfl
      unfold atG
      go_simp
      simp only [uponG]
      exact ⟨by trivial, rfl⟩
  iterate 1
    apply Rd.v_q
    · simp only [List.getElem?_toArray, List.getElem?_cons_zero, List.getElem?_cons_succ]; exact rfl
    · rfl
    · go_simp
    · intro wx hx
      have f1 : wx.cell? ⟨w2.heap.size, 4, none⟩ = some (fnV 47) := hx.cell 0 rfl rfl
      have f2 : wx.cell? ⟨w2.heap.size, 5, none⟩ = some (fnV 48) := hx.cell 0 rfl rfl
      have q0 := hx.cells 2 rfl
      unfold atG
      go_simp
      simp only [uponG]
      exact ⟨by trivial, A1.out wx⟩
  iterate 5
    apply Rd.v_q
    · simp only [List.getElem?_toArray, List.getElem?_cons_zero, List.getElem?_cons_succ]; exact rfl
    · rfl
    · go_simp
    · intro wx hx
      have f1 : wx.cell? ⟨w2.heap.size, 4, none⟩ = some (fnV 47) := hx.cell 0 rfl rfl
      have f2 : wx.cell? ⟨w2.heap.size, 5, none⟩ = some (fnV 48) := hx.cell 0 rfl rfl
      have q0 := hx.cells 2 rfl
      unfold atG
      go_simp
      simp only [uponG]
      exact ⟨by trivial, rfl⟩
  iterate 1
    apply Rd.v_q
    · simp only [List.getElem?_toArray, List.getElem?_cons_zero, List.getElem?_cons_succ]; exact rfl
    · rfl
    · go_simp
    · intro wx hx
      have f1 : wx.cell? ⟨w2.heap.size, 4, none⟩ = some (fnV 47) := hx.cell 0 rfl rfl
      have f2 : wx.cell? ⟨w2.heap.size, 5, none⟩ = some (fnV 48) := hx.cell 0 rfl rfl
      have q0 := hx.cells 2 rfl
      unfold atG
      go_simp
      simp only [uponG]
      exact ⟨by trivial, A2.out wx⟩
  iterate 2
    apply Rd.v_q
    · simp only [List.getElem?_toArray, List.getElem?_cons_zero, List.getElem?_cons_succ]; exact rfl
    · rfl
    · go_simp
    · intro wx hx
      have f1 : wx.cell? ⟨w2.heap.size, 4, none⟩ = some (fnV 47) := hx.cell 0 rfl rfl
      have f2 : wx.cell? ⟨w2.heap.size, 5, none⟩ = some (fnV 48) := hx.cell 0 rfl rfl
      have q0 := hx.cells 2 rfl
      unfold atG
      go_simp
      simp only [uponG]
      exact ⟨by trivial, rfl⟩
  rintro w5 h5 -
  go_simp
  clear H5 HH2 cd2 rr2 A1 A2 C1 C2
  have c5 := h5.cells 2 rfl
  have n5 := h5.cell 2 rfl hn
  have l5 := h5.lt 2 rfl
  have hw8 : IntKind.u8.wrap (n : Int) = n := wr8k (by omega) (by omega)
  have H6 : Holds w (w5.alloc (.cells (fv (n : Int) c t s) 27)) _ := h5.blk _ _ w5.heap.size rfl
  generalize hg6 : w2.heap.size = g6 at *
  go_wp2
  clear c5 n5 l5 hw8
  generalize hG1 : w5.heap.size = G1 at *
  have HG1 := hide hG1; clear hG1
  have HG6 := hide hg6; clear hg6
  go_loopw [42] (fun i wr => ∃ x : Nat, x ≤ n ∧ i = .int .u8 x ∧ Holds w wr [pBlk G1 (fv (n : Int) (mdF P c x) t (mdF R s x)) 27, pBlk g6 #[(fnV 49), (fnV 48), (fnV 48), (fnV 49), (fnV 47), (fnV 48), (fnV 48), (fnV 47), (fnV 49), (fnV 47), (fnV 47), (fnV 49)] 73, pBlk (w.heap.size + 1) (fv 0 (fun _ => 0) (fun _ => 0) (fun _ => 0)) 27, pBlk w.heap.size (fv (n : Int) c t s) 27]) (fun i _ => n - (intOf i).toNat)
  case atStart => exact ⟨0, by omega, rfl, by rw [mdF_zero, mdF_zero]; exact H6⟩
  case round =>
    clear H6 h5
    obtain ⟨x, hx, rfl, hH⟩ := hrel
    by_cases hlt : x < n
    · have hlti : (x : Int) < (n : Int) := by omega
      have hx32 : x < 32 := by omega
      have hxi : (x : Int) < 32 := by omega
      have E1 := hide (QD1.out x hx32)
      have E2 := hide (QD2.out x hx32)
      have s1 := mdF_succ P c x
      have s2 := mdF_succ R s x
      have S1 := hide s1; clear s1
      have S2 := hide s2; clear s2
      have hme : n - (x + 1) < n - x := by omega
      have hwx : IntKind.u8.wrap ((x : Int) + 1) = (x : Int) + 1 := wr8k (by omega) (by omega)
      obtain ⟨m1, nn1, k1⟩ := HM1.out
      obtain ⟨m2, nn2, k2⟩ := HM2.out
      generalize P x = px at *
      generalize R x = rx at *
      generalize mdF P c x = cx at *
      generalize mdF R s x = sx at *
      go_wp2
      refine Rd.region_P (w0 := w) [pBlk g6 #[(fnV 49), (fnV 48), (fnV 48), (fnV 49), (fnV 47), (fnV 48), (fnV 48), (fnV 47), (fnV 49), (fnV 47), (fnV 47), (fnV 49)] 73, pBlk (w.heap.size + 1) (fv 0 (fun _ => 0) (fun _ => 0) (fun _ => 0)) 27, pBlk w.heap.size (fv (n : Int) c t s) 27] [pBlk G1 (fv (n : Int) cx t sx) 27, pBlk g6 #[(fnV 49), (fnV 48), (fnV 48), (fnV 49), (fnV 47), (fnV 48), (fnV 48), (fnV 47), (fnV 49), (fnV 47), (fnV 47), (fnV 49)] 73, pBlk (w.heap.size + 1) (fv 0 (fun _ => 0) (fun _ => 0) (fun _ => 0)) 27, pBlk w.heap.size (fv (n : Int) c t s) 27] [10, 13] (.q 0 <| .q 1 <| .q 2 <| .q 3 <| .q 5 <| .q 6 <| .q 8 <| .q 11 <| .q 4 <| .q 7 <| .q 9 <| .s1 10 <| .q 12 <| .s1 13 .fin) hH (.cons _ (.refl _)) (by kernel_rfl) (by kernel_rfl) (by kernel_rfl) ?_
      iterate 8
        apply Rd.v_q
        · simp only [List.getElem?_toArray, List.getElem?_cons_zero, List.getElem?_cons_succ]; exact rfl
        · rfl
        · go_simp
        · intro wx hx
          unfold atG
          go_simp
          simp only [uponG]
          exact ⟨by trivial, rfl⟩
      iterate 1
        apply Rd.v_q
        · simp only [List.getElem?_toArray, List.getElem?_cons_zero, List.getElem?_cons_succ]; exact rfl
        · rfl
        · go_simp
        · intro wx hx
          unfold atG
          go_simp
          simp only [uponG]
          exact ⟨by trivial, E1.out wx⟩
      iterate 1
        apply Rd.v_q
        · simp only [List.getElem?_toArray, List.getElem?_cons_zero, List.getElem?_cons_succ]; exact rfl
        · rfl
        · go_simp
        · intro wx hx
          unfold atG
          go_simp
          simp only [uponG]
          exact ⟨by trivial, E2.out wx⟩
      iterate 1
        apply Rd.v_q
        · simp only [List.getElem?_toArray, List.getElem?_cons_zero, List.getElem?_cons_succ]; exact rfl
        · rfl
        · go_simp
        · intro wx hx
          unfold atG
          go_simp
          simp only [uponG]
          exact ⟨by trivial, rfl⟩
      refine Rd.v_s (fun u wx => u = undef ∧ Holds w wx (pBlk G1 (fv (n : Int) (fset cx x px) t sx) 27 :: [pBlk g6 #[(fnV 49), (fnV 48), (fnV 48), (fnV 49), (fnV 47), (fnV 48), (fnV 48), (fnV 47), (fnV 49), (fnV 47), (fnV 47), (fnV 49)] 73, pBlk (w.heap.size + 1) (fv 0 (fun _ => 0) (fun _ => 0) (fun _ => 0)) 27, pBlk w.heap.size (fv (n : Int) c t s) 27])) (fun _ _ _ h hb => ⟨h.1, h.2.call hb⟩) (by simp only [List.getElem?_toArray, List.getElem?_cons_zero, List.getElem?_cons_succ]; exact rfl) rfl (by go_simp) (fun wx hx hD => ?_) ?_
      · have hD' : Holds w wx (pBlk G1 (fv (n : Int) cx t sx) 27 :: [pBlk g6 #[(fnV 49), (fnV 48), (fnV 48), (fnV 49), (fnV 47), (fnV 48), (fnV 48), (fnV 47), (fnV 49), (fnV 47), (fnV 47), (fnV 49)] 73, pBlk (w.heap.size + 1) (fv 0 (fun _ => 0) (fun _ => 0) (fun _ => 0)) 27, pBlk w.heap.size (fv (n : Int) c t s) 27]) := hD
        have y := hD'.cell 0 rfl (fv_c (n : Int) cx t sx hx32)
        have z := hD'.frozen 0 rfl (1 + x)
        have hs := hD'.set 0 rfl (1 + x) (.int .u8 px)
        simp only [List.set_cons_zero] at hs
        rw [fv_setc _ _ _ _ _ hx32] at hs
        have HS := hide hs; clear hs
        go_simp
        simp only [Rd.uponE]
        exact ⟨HS.out.sub (.cons _ (.refl _)), by trivial, HS.out⟩
      rintro v ⟨_, _, rfl, _⟩
      iterate 1
        apply Rd.v_q
        · simp only [List.getElem?_toArray, List.getElem?_cons_zero, List.getElem?_cons_succ]; exact rfl
        · rfl
        · go_simp
        · intro wx hx
          unfold atG
          go_simp
          simp only [uponG]
          exact ⟨by trivial, rfl⟩
      refine Rd.v_s (fun u wx => u = undef ∧ Holds w wx (pBlk G1 (fv (n : Int) (fset cx x px) t (fset sx x rx)) 27 :: [pBlk g6 #[(fnV 49), (fnV 48), (fnV 48), (fnV 49), (fnV 47), (fnV 48), (fnV 48), (fnV 47), (fnV 49), (fnV 47), (fnV 47), (fnV 49)] 73, pBlk (w.heap.size + 1) (fv 0 (fun _ => 0) (fun _ => 0) (fun _ => 0)) 27, pBlk w.heap.size (fv (n : Int) c t s) 27])) (fun _ _ _ h hb => ⟨h.1, h.2.call hb⟩) (by simp only [List.getElem?_toArray, List.getElem?_cons_zero, List.getElem?_cons_succ]; exact rfl) rfl (by go_simp) (fun wx hx hD => ?_) ?_
      · have hD' : Holds w wx (pBlk G1 (fv (n : Int) (fset cx x px) t sx) 27 :: [pBlk g6 #[(fnV 49), (fnV 48), (fnV 48), (fnV 49), (fnV 47), (fnV 48), (fnV 48), (fnV 47), (fnV 49), (fnV 47), (fnV 47), (fnV 49)] 73, pBlk (w.heap.size + 1) (fv 0 (fun _ => 0) (fun _ => 0) (fun _ => 0)) 27, pBlk w.heap.size (fv (n : Int) c t s) 27]) := hD.2
        have y := hD'.cell 0 rfl (fv_s (n : Int) (fset cx x px) t sx hx32)
        have z := hD'.frozen 0 rfl (65 + x)
        have hs := hD'.set 0 rfl (65 + x) (.int .u8 rx)
        simp only [List.set_cons_zero] at hs
        rw [fv_sets _ _ _ _ _ hx32] at hs
        have HS := hide hs; clear hs
        go_simp
        simp only [Rd.uponE]
        exact ⟨HS.out.sub (.cons _ (.refl _)), by trivial, HS.out⟩
      rintro v ⟨_, _, rfl, _⟩
      rintro wz - hz
      have hz2 := hz.2
      rw [S1.out, S2.out] at hz2
      have HZ := hide hz2; clear hz2 hz
      go_simp
      go_wp2
      go_roundw
      case rel => exact ⟨x + 1, hlt, by go_num, HZ.out⟩
      case measure => simp [intOf]; first | exact hme | omega
    · obtain rfl : x = n := by omega
      have rr := hH.rowOk (n := 97) 2 rfl (fv_size _ _ _ _)
      have cd := hH.cells 0 rfl
      have HH3 := hH.setRow 2 rfl (fv (x : Int) (mdF P c x) t (mdF R s x))
      clear hlt
      go_wp2
      exact res_agg2 (p := 4) (t := 5) (g := w.heap.size + 1) (v := .int .i64 0) aggFl (fv_size _ _ _ _) rfl rfl rfl rfl (HH3.at 2 rfl) ⟨rfl, HH3.low⟩


set_option maxRecDepth 100000 in
set_option maxHeartbeats 4000000 in
theorem turnP3 (n : Nat) (c t s : Nat → Nat) (hc : ∀ i, c i < 256) (ht : ∀ i, t i < 256) (hs : ∀ i, s i < 256) (hf : flP n c t s) (w : World) :
    Calls Try.prog 20 #[.agg (fv (n : Int) c t s), .int .i64 3] w fun e w' => e = .returned (.tuple #[.agg (fv (n : Int) (mdF s c n) t (mdF (fun x => s (c x)) s n)), .int .i64 0]) ∧ Below w.heap.size w w' := by
  have c1 := fun w => areFlags_any (n : Int) c t s hc ht hs w
  rw [flB_yes hf] at c1
  have C1 := hide c1; clear c1
  have C2 := hide fun w => isTurn_any 3 w
  rw [show (decide ((0 : Int) ≤ 3) && decide ((3 : Int) < 6)) = true from rfl] at C2
  have HH0 := ((Holds.start w).blk (fv (n : Int) c t s) 27 w.heap.size rfl).blk (fv 0 (fun _ => 0) (fun _ => 0) (fun _ => 0)) 27 (w.heap.size + 1) (by simp)
  have hn := fv_n (n : Int) c t s
  have hn32 := hf.1.2.1
  obtain ⟨T1, x1, K1, r1, e1, m1, nn1, k1, b1, D1⟩ := (show LeadV (swV s) s from lead_sw s hf.l32.2.2)
  obtain ⟨T2, x2, K2, r2, e2, m2, nn2, k2, b2, D2⟩ := (show LeadV (acV c s) (fun x => s (c x)) from lead_tw (lead_sw c hf.l32.1) (lead_sw s hf.l32.2.2))
  have a1 := fun w => side_any (n : Int) c t s w
  have a2 := fun w => across_any (n : Int) c t s w
  rw [e1] at a1
  rw [e2] at a2
  have A1 := hide a1; clear a1
  have A2 := hide a2; clear a2
  have DD1 := hide D1; clear D1
  have DD2 := hide D2; clear D2
  obtain ⟨P, hP⟩ : ∃ P : Nat → Nat, P = s := ⟨_, rfl⟩
  obtain ⟨R, hR⟩ : ∃ R : Nat → Nat, R = (fun x => s (c x)) := ⟨_, rfl⟩
  have eA : mdF s c n = mdF P c n := by rw [hP]
  have eB : mdF (fun x => s (c x)) s n = mdF R s n := by rw [hR]
  rw [eA, eB]
  clear eA eB
  have QD1 : Hid (∀ i : Nat, i < 32 → ∀ w, Calls Try.prog K1 #[r1, .int .u8 i] w fun e w' => e = .returned (.int .u8 (P i)) ∧ Below w.heap.size w w') := by rw [hP]; exact DD1
  have QD2 : Hid (∀ i : Nat, i < 32 → ∀ w, Calls Try.prog K2 #[r2, .int .u8 i] w fun e w' => e = .returned (.int .u8 (R i)) ∧ Below w.heap.size w w') := by rw [hR]; exact DD2
  have HM1 := hide (And.intro m1 (And.intro nn1 k1))
  have HM2 := hide (And.intro m2 (And.intro nn2 k2))
  clear DD1 DD2 hP hR b1 b2 e1 e2 hf hc ht hs m1 m2 nn1 nn2 k1 k2
  go_enter Try.func20, Try.ntmps20
  go_wp2_with fail
  refine (C1.out _).mono ?_
  rintro e w1 ⟨rfl, hb⟩
  have HH1 := HH0.call hb
  have cd1 := HH1.cells 1 rfl
  have rr1 := HH1.rowOk (n := 97) 0 rfl (fv_size _ _ _ _)
  clear hb HH0
  go_wp2_with fail
  refine (C2.out _).mono ?_
  rintro e w2 ⟨rfl, hb⟩
  have HH2 := HH1.call hb
  have cd2 := HH2.cells 1 rfl
  have rr2 := HH2.rowOk (n := 97) 0 rfl (fv_size _ _ _ _)
  clear hb HH1 cd1 rr1
  go_wp2
  have H5 := HH2.blk #[(fnV 49), (fnV 48), (fnV 48), (fnV 49), (fnV 47), (fnV 48), (fnV 48), (fnV 47), (fnV 49), (fnV 47), (fnV 47), (fnV 49)] 73 w2.heap.size rfl
  refine Rd.region_P (w0 := w) [pBlk w2.heap.size #[(fnV 49), (fnV 48), (fnV 48), (fnV 49), (fnV 47), (fnV 48), (fnV 48), (fnV 47), (fnV 49), (fnV 47), (fnV 47), (fnV 49)] 73, pBlk (w.heap.size + 1) (fv 0 (fun _ => 0) (fun _ => 0) (fun _ => 0)) 27, pBlk w.heap.size (fv (n : Int) c t s) 27] [pBlk w2.heap.size #[(fnV 49), (fnV 48), (fnV 48), (fnV 49), (fnV 47), (fnV 48), (fnV 48), (fnV 47), (fnV 49), (fnV 47), (fnV 47), (fnV 49)] 73, pBlk (w.heap.size + 1) (fv 0 (fun _ => 0) (fun _ => 0) (fun _ => 0)) 27, pBlk w.heap.size (fv (n : Int) c t s) 27] [] (.q 0 <| .q 1 <| .q 2 <| .q 3 <| .q 4 <| .q 5 <| .q 6 <| .q 7 <| .q 8 <| .q 9 <| .q 10 <| .q 11 <| .q 12 <| .q 13 .fin) H5 (.refl _) (by kernel_rfl) (by kernel_rfl) (by kernel_rfl) ?_
  iterate 5
    apply Rd.v_q
    · simp only [List.getElem?_toArray, List.getElem?_cons_zero, List.getElem?_cons_succ]; exact rfl
    · rfl
    · go_simp
    · intro wx hx
      have f1 : wx.cell? ⟨w2.heap.size, 6, none⟩ = some (fnV 48) := hx.cell 0 rfl rfl
      have f2 : wx.cell? ⟨w2.heap.size, 7, none⟩ = some (fnV 47) := hx.cell 0 rfl rfl
      have q0 := hx.cells 2 rfl
      unfold atG
      go_simp
      simp only [uponG]
      exact ⟨by trivial, rfl⟩
  iterate 1
    apply Rd.v_q
    · simp only [List.getElem?_toArray, List.getElem?_cons_zero, List.getElem?_cons_succ]; exact rfl
    · rfl
    · go_simp
    · intro wx hx
      have f1 : wx.cell? ⟨w2.heap.size, 6, none⟩ = some (fnV 48) := hx.cell 0 rfl rfl
      have f2 : wx.cell? ⟨w2.heap.size, 7, none⟩ = some (fnV 47) := hx.cell 0 rfl rfl
      have q0 := hx.cells 2 rfl
      unfold atG
      go_simp
      simp only [uponG]
      exact ⟨by trivial, A1.out wx⟩
  iterate 5
    apply Rd.v_q
    · simp only [List.getElem?_toArray, List.getElem?_cons_zero, List.getElem?_cons_succ]; exact rfl
    · rfl
    · go_simp
    · intro wx hx
      have f1 : wx.cell? ⟨w2.heap.size, 6, none⟩ = some (fnV 48) := hx.cell 0 rfl rfl
      have f2 : wx.cell? ⟨w2.heap.size, 7, none⟩ = some (fnV 47) := hx.cell 0 rfl rfl
      have q0 := hx.cells 2 rfl
      unfold atG
      go_simp
      simp only [uponG]
      exact ⟨by trivial, rfl⟩
  iterate 1
    apply Rd.v_q
    · simp only [List.getElem?_toArray, List.getElem?_cons_zero, List.getElem?_cons_succ]; exact rfl
    · rfl
    · go_simp
    · intro wx hx
      have f1 : wx.cell? ⟨w2.heap.size, 6, none⟩ = some (fnV 48) := hx.cell 0 rfl rfl
      have f2 : wx.cell? ⟨w2.heap.size, 7, none⟩ = some (fnV 47) := hx.cell 0 rfl rfl
      have q0 := hx.cells 2 rfl
      unfold atG
      go_simp
      simp only [uponG]
      exact ⟨by trivial, A2.out wx⟩
  iterate 2
    apply Rd.v_q
    · simp only [List.getElem?_toArray, List.getElem?_cons_zero, List.getElem?_cons_succ]; exact rfl
    · rfl
    · go_simp
    · intro wx hx
      have f1 : wx.cell? ⟨w2.heap.size, 6, none⟩ = some (fnV 48) := hx.cell 0 rfl rfl
      have f2 : wx.cell? ⟨w2.heap.size, 7, none⟩ = some (fnV 47) := hx.cell 0 rfl rfl
      have q0 := hx.cells 2 rfl
      unfold atG
      go_simp
      simp only [uponG]
      exact ⟨by trivial, rfl⟩
  rintro w5 h5 -
  go_simp
  clear H5 HH2 cd2 rr2 A1 A2 C1 C2
  have c5 := h5.cells 2 rfl
  have n5 := h5.cell 2 rfl hn
  have l5 := h5.lt 2 rfl
  have hw8 : IntKind.u8.wrap (n : Int) = n := wr8k (by omega) (by omega)
  have H6 : Holds w (w5.alloc (.cells (fv (n : Int) c t s) 27)) _ := h5.blk _ _ w5.heap.size rfl
  generalize hg6 : w2.heap.size = g6 at *
  go_wp2
  clear c5 n5 l5 hw8
  generalize hG1 : w5.heap.size = G1 at *
  have HG1 := hide hG1; clear hG1
  have HG6 := hide hg6; clear hg6
  go_loopw [42] (fun i wr => ∃ x : Nat, x ≤ n ∧ i = .int .u8 x ∧ Holds w wr [pBlk G1 (fv (n : Int) (mdF P c x) t (mdF R s x)) 27, pBlk g6 #[(fnV 49), (fnV 48), (fnV 48), (fnV 49), (fnV 47), (fnV 48), (fnV 48), (fnV 47), (fnV 49), (fnV 47), (fnV 47), (fnV 49)] 73, pBlk (w.heap.size + 1) (fv 0 (fun _ => 0) (fun _ => 0) (fun _ => 0)) 27, pBlk w.heap.size (fv (n : Int) c t s) 27]) (fun i _ => n - (intOf i).toNat)
  case atStart => exact ⟨0, by omega, rfl, by rw [mdF_zero, mdF_zero]; exact H6⟩
  case round =>
    clear H6 h5
    obtain ⟨x, hx, rfl, hH⟩ := hrel
    by_cases hlt : x < n
    · have hlti : (x : Int) < (n : Int) := by omega
      have hx32 : x < 32 := by omega
      have hxi : (x : Int) < 32 := by omega
      have E1 := hide (QD1.out x hx32)
      have E2 := hide (QD2.out x hx32)
      have s1 := mdF_succ P c x
      have s2 := mdF_succ R s x
      have S1 := hide s1; clear s1
      have S2 := hide s2; clear s2
      have hme : n - (x + 1) < n - x := by omega
      have hwx : IntKind.u8.wrap ((x : Int) + 1) = (x : Int) + 1 := wr8k (by omega) (by omega)
      obtain ⟨m1, nn1, k1⟩ := HM1.out
      obtain ⟨m2, nn2, k2⟩ := HM2.out
      generalize P x = px at *
      generalize R x = rx at *
      generalize mdF P c x = cx at *
      generalize mdF R s x = sx at *
      go_wp2
      refine Rd.region_P (w0 := w) [pBlk g6 #[(fnV 49), (fnV 48), (fnV 48), (fnV 49), (fnV 47), (fnV 48), (fnV 48), (fnV 47), (fnV 49), (fnV 47), (fnV 47), (fnV 49)] 73, pBlk (w.heap.size + 1) (fv 0 (fun _ => 0) (fun _ => 0) (fun _ => 0)) 27, pBlk w.heap.size (fv (n : Int) c t s) 27] [pBlk G1 (fv (n : Int) cx t sx) 27, pBlk g6 #[(fnV 49), (fnV 48), (fnV 48), (fnV 49), (fnV 47), (fnV 48), (fnV 48), (fnV 47), (fnV 49), (fnV 47), (fnV 47), (fnV 49)] 73, pBlk (w.heap.size + 1) (fv 0 (fun _ => 0) (fun _ => 0) (fun _ => 0)) 27, pBlk w.heap.size (fv (n : Int) c t s) 27] [10, 13] (.q 0 <| .q 1 <| .q 2 <| .q 3 <| .q 5 <| .q 6 <| .q 8 <| .q 11 <| .q 4 <| .q 7 <| .q 9 <| .s1 10 <| .q 12 <| .s1 13 .fin) hH (.cons _ (.refl _)) (by kernel_rfl) (by kernel_rfl) (by kernel_rfl) ?_
      iterate 8
        apply Rd.v_q
        · simp only [List.getElem?_toArray, List.getElem?_cons_zero, List.getElem?_cons_succ]; exact rfl
        · rfl
        · go_simp
        · intro wx hx
          unfold atG
          go_simp
          simp only [uponG]
          exact ⟨by trivial, rfl⟩
      iterate 1
        apply Rd.v_q
        · simp only [List.getElem?_toArray, List.getElem?_cons_zero, List.getElem?_cons_succ]; exact rfl
        · rfl
        · go_simp
        · intro wx hx
          unfold atG
          go_simp
          simp only [uponG]
          exact ⟨by trivial, E1.out wx⟩
      iterate 1
        apply Rd.v_q
        · simp only [List.getElem?_toArray, List.getElem?_cons_zero, List.getElem?_cons_succ]; exact rfl
        · rfl
        · go_simp
        · intro wx hx
          unfold atG
          go_simp
          simp only [uponG]
          exact ⟨by trivial, E2.out wx⟩
      iterate 1
        apply Rd.v_q
        · simp only [List.getElem?_toArray, List.getElem?_cons_zero, List.getElem?_cons_succ]; exact rfl
        · rfl
        · go_simp
        · intro wx hx
          unfold atG
          go_simp
          simp only [uponG]
          exact ⟨by trivial, rfl⟩
      refine Rd.v_s (fun u wx => u = undef ∧ Holds w wx (pBlk G1 (fv (n : Int) (fset cx x px) t sx) 27 :: [pBlk g6 #[(fnV 49), (fnV 48), (fnV 48), (fnV 49), (fnV 47), (fnV 48), (fnV 48), (fnV 47), (fnV 49), (fnV 47), (fnV 47), (fnV 49)] 73, pBlk (w.heap.size + 1) (fv 0 (fun _ => 0) (fun _ => 0) (fun _ => 0)) 27, pBlk w.heap.size (fv (n : Int) c t s) 27])) (fun _ _ _ h hb => ⟨h.1, h.2.call hb⟩) (by simp only [List.getElem?_toArray, List.getElem?_cons_zero, List.getElem?_cons_succ]; exact rfl) rfl (by go_simp) (fun wx hx hD => ?_) ?_
      · have hD' : Holds w wx (pBlk G1 (fv (n : Int) cx t sx) 27 :: [pBlk g6 #[(fnV 49), (fnV 48), (fnV 48), (fnV 49), (fnV 47), (fnV 48), (fnV 48), (fnV 47), (fnV 49), (fnV 47), (fnV 47), (fnV 49)] 73, pBlk (w.heap.size + 1) (fv 0 (fun _ => 0) (fun _ => 0) (fun _ => 0)) 27, pBlk w.heap.size (fv (n : Int) c t s) 27]) := hD
        have y := hD'.cell 0 rfl (fv_c (n : Int) cx t sx hx32)
        have z := hD'.frozen 0 rfl (1 + x)
        have hs := hD'.set 0 rfl (1 + x) (.int .u8 px)
        simp only [List.set_cons_zero] at hs
        rw [fv_setc _ _ _ _ _ hx32] at hs
        have HS := hide hs; clear hs
        go_simp
        simp only [Rd.uponE]
        exact ⟨HS.out.sub (.cons _ (.refl _)), by trivial, HS.out⟩
      rintro v ⟨_, _, rfl, _⟩
      iterate 1
        apply Rd.v_q
        · simp only [List.getElem?_toArray, List.getElem?_cons_zero, List.getElem?_cons_succ]; exact rfl
        · rfl
        · go_simp
        · intro wx hx
          unfold atG
          go_simp
          simp only [uponG]
          exact ⟨by trivial, rfl⟩
      refine Rd.v_s (fun u wx => u = undef ∧ Holds w wx (pBlk G1 (fv (n : Int) (fset cx x px) t (fset sx x rx)) 27 :: [pBlk g6 #[(fnV 49), (fnV 48), (fnV 48), (fnV 49), (fnV 47), (fnV 48), (fnV 48), (fnV 47), (fnV 49), (fnV 47), (fnV 47), (fnV 49)] 73, pBlk (w.heap.size + 1) (fv 0 (fun _ => 0) (fun _ => 0) (fun _ => 0)) 27, pBlk w.heap.size (fv (n : Int) c t s) 27])) (fun _ _ _ h hb => ⟨h.1, h.2.call hb⟩) (by simp only [List.getElem?_toArray, List.getElem?_cons_zero, List.getElem?_cons_succ]; exact rfl) rfl (by go_simp) (fun wx hx hD => ?_) ?_
      · have hD' : Holds w wx (pBlk G1 (fv (n : Int) (fset cx x px) t sx) 27 :: [pBlk g6 #[(fnV 49), (fnV 48), (fnV 48), (fnV 49), (fnV 47), (fnV 48), (fnV 48), (fnV 47), (fnV 49), (fnV 47), (fnV 47), (fnV 49)] 73, pBlk (w.heap.size + 1) (fv 0 (fun _ => 0) (fun _ => 0) (fun _ => 0)) 27, pBlk w.heap.size (fv (n : Int) c t s) 27]) := hD.2
        have y := hD'.cell 0 rfl (fv_s (n : Int) (fset cx x px) t sx hx32)
        have z := hD'.frozen 0 rfl (65 + x)
        have hs := hD'.set 0 rfl (65 + x) (.int .u8 rx)
        simp only [List.set_cons_zero] at hs
        rw [fv_sets _ _ _ _ _ hx32] at hs
        have HS := hide hs; clear hs
        go_simp
        simp only [Rd.uponE]
        exact ⟨HS.out.sub (.cons _ (.refl _)), by trivial, HS.out⟩
      rintro v ⟨_, _, rfl, _⟩
      rintro wz - hz
      have hz2 := hz.2
      rw [S1.out, S2.out] at hz2
      have HZ := hide hz2; clear hz2 hz
      go_simp
      go_wp2
      go_roundw
      case rel => exact ⟨x + 1, hlt, by go_num, HZ.out⟩
      case measure => simp [intOf]; first | exact hme | omega
    · obtain rfl : x = n := by omega
      have rr := hH.rowOk (n := 97) 2 rfl (fv_size _ _ _ _)
      have cd := hH.cells 0 rfl
      have HH3 := hH.setRow 2 rfl (fv (x : Int) (mdF P c x) t (mdF R s x))
      clear hlt
      go_wp2
      exact res_agg2 (p := 4) (t := 5) (g := w.heap.size + 1) (v := .int .i64 0) aggFl (fv_size _ _ _ _) rfl rfl rfl rfl (HH3.at 2 rfl) ⟨rfl, HH3.low⟩


set_option maxRecDepth 100000 in
set_option maxHeartbeats 4000000 in
theorem turnP4 (n : Nat) (c t s : Nat → Nat) (hc : ∀ i, c i < 256) (ht : ∀ i, t i < 256) (hs : ∀ i, s i < 256) (hf : flP n c t s) (w : World) :
    Calls Try.prog 20 #[.agg (fv (n : Int) c t s), .int .i64 4] w fun e w' => e = .returned (.tuple #[.agg (fv (n : Int) (mdF c c n) t (mdF (fun x => s (c x)) s n)), .int .i64 0]) ∧ Below w.heap.size w w' := by
  have c1 := fun w => areFlags_any (n : Int) c t s hc ht hs w
  rw [flB_yes hf] at c1
  have C1 := hide c1; clear c1
  have C2 := hide fun w => isTurn_any 4 w
  rw [show (decide ((0 : Int) ≤ 4) && decide ((4 : Int) < 6)) = true from rfl] at C2
  have HH0 := ((Holds.start w).blk (fv (n : Int) c t s) 27 w.heap.size rfl).blk (fv 0 (fun _ => 0) (fun _ => 0) (fun _ => 0)) 27 (w.heap.size + 1) (by simp)
  have hn := fv_n (n : Int) c t s
  have hn32 := hf.1.2.1
  obtain ⟨T1, x1, K1, r1, e1, m1, nn1, k1, b1, D1⟩ := (show LeadV (swV c) c from lead_sw c hf.l32.1)
  obtain ⟨T2, x2, K2, r2, e2, m2, nn2, k2, b2, D2⟩ := (show LeadV (acV c s) (fun x => s (c x)) from lead_tw (lead_sw c hf.l32.1) (lead_sw s hf.l32.2.2))
  have a1 := fun w => corner_any (n : Int) c t s w
  have a2 := fun w => across_any (n : Int) c t s w
  rw [e1] at a1
  rw [e2] at a2
  have A1 := hide a1; clear a1
  have A2 := hide a2; clear a2
  have DD1 := hide D1; clear D1
  have DD2 := hide D2; clear D2
  obtain ⟨P, hP⟩ : ∃ P : Nat → Nat, P = c := ⟨_, rfl⟩
  obtain ⟨R, hR⟩ : ∃ R : Nat → Nat, R = (fun x => s (c x)) := ⟨_, rfl⟩
  have eA : mdF c c n = mdF P c n := by rw [hP]
  have eB : mdF (fun x => s (c x)) s n = mdF R s n := by rw [hR]
  rw [eA, eB]
  clear eA eB
  have QD1 : Hid (∀ i : Nat, i < 32 → ∀ w, Calls Try.prog K1 #[r1, .int .u8 i] w fun e w' => e = .returned (.int .u8 (P i)) ∧ Below w.heap.size w w') := by rw [hP]; exact DD1
  have QD2 : Hid (∀ i : Nat, i < 32 → ∀ w, Calls Try.prog K2 #[r2, .int .u8 i] w fun e w' => e = .returned (.int .u8 (R i)) ∧ Below w.heap.size w w') := by rw [hR]; exact DD2
  have HM1 := hide (And.intro m1 (And.intro nn1 k1))
  have HM2 := hide (And.intro m2 (And.intro nn2 k2))
  clear DD1 DD2 hP hR b1 b2 e1 e2 hf hc ht hs m1 m2 nn1 nn2 k1 k2
  go_enter Try.func20, Try.ntmps20
  go_wp2_with fail
  refine (C1.out _).mono ?_
  rintro e w1 ⟨rfl, hb⟩
  have HH1 := HH0.call hb
  have cd1 := HH1.cells 1 rfl
  have rr1 := HH1.rowOk (n := 97) 0 rfl (fv_size _ _ _ _)
  clear hb HH0
  go_wp2_with fail
  refine (C2.out _).mono ?_
  rintro e w2 ⟨rfl, hb⟩
  have HH2 := HH1.call hb
  have cd2 := HH2.cells 1 rfl
  have rr2 := HH2.rowOk (n := 97) 0 rfl (fv_size _ _ _ _)
  clear hb HH1 cd1 rr1
  go_wp2
  have H5 := HH2.blk #[(fnV 49), (fnV 48), (fnV 48), (fnV 49), (fnV 47), (fnV 48), (fnV 48), (fnV 47), (fnV 49), (fnV 47), (fnV 47), (fnV 49)] 73 w2.heap.size rfl
  refine Rd.region_P (w0 := w) [pBlk w2.heap.size #[(fnV 49), (fnV 48), (fnV 48), (fnV 49), (fnV 47), (fnV 48), (fnV 48), (fnV 47), (fnV 49), (fnV 47), (fnV 47), (fnV 49)] 73, pBlk (w.heap.size + 1) (fv 0 (fun _ => 0) (fun _ => 0) (fun _ => 0)) 27, pBlk w.heap.size (fv (n : Int) c t s) 27] [pBlk w2.heap.size #[(fnV 49), (fnV 48), (fnV 48), (fnV 49), (fnV 47), (fnV 48), (fnV 48), (fnV 47), (fnV 49), (fnV 47), (fnV 47), (fnV 49)] 73, pBlk (w.heap.size + 1) (fv 0 (fun _ => 0) (fun _ => 0) (fun _ => 0)) 27, pBlk w.heap.size (fv (n : Int) c t s) 27] [] (.q 0 <| .q 1 <| .q 2 <| .q 3 <| .q 4 <| .q 5 <| .q 6 <| .q 7 <| .q 8 <| .q 9 <| .q 10 <| .q 11 <| .q 12 <| .q 13 .fin) H5 (.refl _) (by kernel_rfl) (by kernel_rfl) (by kernel_rfl) ?_
  iterate 5
    apply Rd.v_q
    · simp only [List.getElem?_toArray, List.getElem?_cons_zero, List.getElem?_cons_succ]; exact rfl
    · rfl
    · go_simp
    · intro wx hx
      have f1 : wx.cell? ⟨w2.heap.size, 8, none⟩ = some (fnV 49) := hx.cell 0 rfl rfl
      have f2 : wx.cell? ⟨w2.heap.size, 9, none⟩ = some (fnV 47) := hx.cell 0 rfl rfl
      have q0 := hx.cells 2 rfl
      unfold atG
      go_simp
      simp only [uponG]
      exact ⟨by trivial, rfl⟩
  iterate 1
    apply Rd.v_q
    · simp only [List.getElem?_toArray, List.getElem?_cons_zero, List.getElem?_cons_succ]; exact rfl
    · rfl
    · go_simp
    · intro wx hx
      have f1 : wx.cell? ⟨w2.heap.size, 8, none⟩ = some (fnV 49) := hx.cell 0 rfl rfl
      have f2 : wx.cell? ⟨w2.heap.size, 9, none⟩ = some (fnV 47) := hx.cell 0 rfl rfl
      have q0 := hx.cells 2 rfl
      unfold atG
      go_simp
      simp only [uponG]
      exact ⟨by trivial, A1.out wx⟩
  iterate 5
    apply Rd.v_q
    · simp only [List.getElem?_toArray, List.getElem?_cons_zero, List.getElem?_cons_succ]; exact rfl
    · rfl
    · go_simp
    · intro wx hx
      have f1 : wx.cell? ⟨w2.heap.size, 8, none⟩ = some (fnV 49) := hx.cell 0 rfl rfl
      have f2 : wx.cell? ⟨w2.heap.size, 9, none⟩ = some (fnV 47) := hx.cell 0 rfl rfl
      have q0 := hx.cells 2 rfl
      unfold atG
      go_simp
      simp only [uponG]
      exact ⟨by trivial, rfl⟩
  iterate 1
    apply Rd.v_q
    · simp only [List.getElem?_toArray, List.getElem?_cons_zero, List.getElem?_cons_succ]; exact rfl
    · rfl
    · go_simp
    · intro wx hx
      have f1 : wx.cell? ⟨w2.heap.size, 8, none⟩ = some (fnV 49) := hx.cell 0 rfl rfl
      have f2 : wx.cell? ⟨w2.heap.size, 9, none⟩ = some (fnV 47) := hx.cell 0 rfl rfl
      have q0 := hx.cells 2 rfl
      unfold atG
      go_simp
      simp only [uponG]
      exact ⟨by trivial, A2.out wx⟩
  iterate 2
    apply Rd.v_q
    · simp only [List.getElem?_toArray, List.getElem?_cons_zero, List.getElem?_cons_succ]; exact rfl
    · rfl
    · go_simp
    · intro wx hx
      have f1 : wx.cell? ⟨w2.heap.size, 8, none⟩ = some (fnV 49) := hx.cell 0 rfl rfl
      have f2 : wx.cell? ⟨w2.heap.size, 9, none⟩ = some (fnV 47) := hx.cell 0 rfl rfl
      have q0 := hx.cells 2 rfl
      unfold atG
      go_simp
      simp only [uponG]
      exact ⟨by trivial, rfl⟩
  rintro w5 h5 -
  go_simp
  clear H5 HH2 cd2 rr2 A1 A2 C1 C2
  have c5 := h5.cells 2 rfl
  have n5 := h5.cell 2 rfl hn
  have l5 := h5.lt 2 rfl
  have hw8 : IntKind.u8.wrap (n : Int) = n := wr8k (by omega) (by omega)
  have H6 : Holds w (w5.alloc (.cells (fv (n : Int) c t s) 27)) _ := h5.blk _ _ w5.heap.size rfl
  generalize hg6 : w2.heap.size = g6 at *
  go_wp2
  clear c5 n5 l5 hw8
  generalize hG1 : w5.heap.size = G1 at *
  have HG1 := hide hG1; clear hG1
  have HG6 := hide hg6; clear hg6
  go_loopw [42] (fun i wr => ∃ x : Nat, x ≤ n ∧ i = .int .u8 x ∧ Holds w wr [pBlk G1 (fv (n : Int) (mdF P c x) t (mdF R s x)) 27, pBlk g6 #[(fnV 49), (fnV 48), (fnV 48), (fnV 49), (fnV 47), (fnV 48), (fnV 48), (fnV 47), (fnV 49), (fnV 47), (fnV 47), (fnV 49)] 73, pBlk (w.heap.size + 1) (fv 0 (fun _ => 0) (fun _ => 0) (fun _ => 0)) 27, pBlk w.heap.size (fv (n : Int) c t s) 27]) (fun i _ => n - (intOf i).toNat)
  case atStart => exact ⟨0, by omega, rfl, by rw [mdF_zero, mdF_zero]; exact H6⟩
  case round =>
    clear H6 h5
    obtain ⟨x, hx, rfl, hH⟩ := hrel
    by_cases hlt : x < n
    · have hlti : (x : Int) < (n : Int) := by omega
      have hx32 : x < 32 := by omega
      have hxi : (x : Int) < 32 := by omega
      have E1 := hide (QD1.out x hx32)
      have E2 := hide (QD2.out x hx32)
      have s1 := mdF_succ P c x
      have s2 := mdF_succ R s x
      have S1 := hide s1; clear s1
      have S2 := hide s2; clear s2
      have hme : n - (x + 1) < n - x := by omega
      have hwx : IntKind.u8.wrap ((x : Int) + 1) = (x : Int) + 1 := wr8k (by omega) (by omega)
      obtain ⟨m1, nn1, k1⟩ := HM1.out
      obtain ⟨m2, nn2, k2⟩ := HM2.out
      generalize P x = px at *
      generalize R x = rx at *
      generalize mdF P c x = cx at *
      generalize mdF R s x = sx at *
      go_wp2
      refine Rd.region_P (w0 := w) [pBlk g6 #[(fnV 49), (fnV 48), (fnV 48), (fnV 49), (fnV 47), (fnV 48), (fnV 48), (fnV 47), (fnV 49), (fnV 47), (fnV 47), (fnV 49)] 73, pBlk (w.heap.size + 1) (fv 0 (fun _ => 0) (fun _ => 0) (fun _ => 0)) 27, pBlk w.heap.size (fv (n : Int) c t s) 27] [pBlk G1 (fv (n : Int) cx t sx) 27, pBlk g6 #[(fnV 49), (fnV 48), (fnV 48), (fnV 49), (fnV 47), (fnV 48), (fnV 48), (fnV 47), (fnV 49), (fnV 47), (fnV 47), (fnV 49)] 73, pBlk (w.heap.size + 1) (fv 0 (fun _ => 0) (fun _ => 0) (fun _ => 0)) 27, pBlk w.heap.size (fv (n : Int) c t s) 27] [10, 13] (.q 0 <| .q 1 <| .q 2 <| .q 3 <| .q 5 <| .q 6 <| .q 8 <| .q 11 <| .q 4 <| .q 7 <| .q 9 <| .s1 10 <| .q 12 <| .s1 13 .fin) hH (.cons _ (.refl _)) (by kernel_rfl) (by kernel_rfl) (by kernel_rfl) ?_
      iterate 8
        apply Rd.v_q
        · simp only [List.getElem?_toArray, List.getElem?_cons_zero, List.getElem?_cons_succ]; exact rfl
        · rfl
        · go_simp
        · intro wx hx
          unfold atG
          go_simp
          simp only [uponG]
          exact ⟨by trivial, rfl⟩
      iterate 1
        apply Rd.v_q
        · simp only [List.getElem?_toArray, List.getElem?_cons_zero, List.getElem?_cons_succ]; exact rfl
        · rfl
        · go_simp
        · intro wx hx
          unfold atG
          go_simp
          simp only [uponG]
          exact ⟨by trivial, E1.out wx⟩
      iterate 1
        apply Rd.v_q
        · simp only [List.getElem?_toArray, List.getElem?_cons_zero, List.getElem?_cons_succ]; exact rfl
        · rfl
        · go_simp
        · intro wx hx
          unfold atG
          go_simp
          simp only [uponG]
          exact ⟨by trivial, E2.out wx⟩
      iterate 1
        apply Rd.v_q
        · simp only [List.getElem?_toArray, List.getElem?_cons_zero, List.getElem?_cons_succ]; exact rfl
        · rfl
        · go_simp
        · intro wx hx
          unfold atG
          go_simp
          simp only [uponG]
          exact ⟨by trivial, rfl⟩
      refine Rd.v_s (fun u wx => u = undef ∧ Holds w wx (pBlk G1 (fv (n : Int) (fset cx x px) t sx) 27 :: [pBlk g6 #[(fnV 49), (fnV 48), (fnV 48), (fnV 49), (fnV 47), (fnV 48), (fnV 48), (fnV 47), (fnV 49), (fnV 47), (fnV 47), (fnV 49)] 73, pBlk (w.heap.size + 1) (fv 0 (fun _ => 0) (fun _ => 0) (fun _ => 0)) 27, pBlk w.heap.size (fv (n : Int) c t s) 27])) (fun _ _ _ h hb => ⟨h.1, h.2.call hb⟩) (by simp only [List.getElem?_toArray, List.getElem?_cons_zero, List.getElem?_cons_succ]; exact rfl) rfl (by go_simp) (fun wx hx hD => ?_) ?_
      · have hD' : Holds w wx (pBlk G1 (fv (n : Int) cx t sx) 27 :: [pBlk g6 #[(fnV 49), (fnV 48), (fnV 48), (fnV 49), (fnV 47), (fnV 48), (fnV 48), (fnV 47), (fnV 49), (fnV 47), (fnV 47), (fnV 49)] 73, pBlk (w.heap.size + 1) (fv 0 (fun _ => 0) (fun _ => 0) (fun _ => 0)) 27, pBlk w.heap.size (fv (n : Int) c t s) 27]) := hD
        have y := hD'.cell 0 rfl (fv_c (n : Int) cx t sx hx32)
        have z := hD'.frozen 0 rfl (1 + x)
        have hs := hD'.set 0 rfl (1 + x) (.int .u8 px)
        simp only [List.set_cons_zero] at hs
        rw [fv_setc _ _ _ _ _ hx32] at hs
        have HS := hide hs; clear hs
        go_simp
        simp only [Rd.uponE]
        exact ⟨HS.out.sub (.cons _ (.refl _)), by trivial, HS.out⟩
      rintro v ⟨_, _, rfl, _⟩
      iterate 1
        apply Rd.v_q
        · simp only [List.getElem?_toArray, List.getElem?_cons_zero, List.getElem?_cons_succ]; exact rfl
        · rfl
        · go_simp
        · intro wx hx
          unfold atG
          go_simp
          simp only [uponG]
          exact ⟨by trivial, rfl⟩
      refine Rd.v_s (fun u wx => u = undef ∧ Holds w wx (pBlk G1 (fv (n : Int) (fset cx x px) t (fset sx x rx)) 27 :: [pBlk g6 #[(fnV 49), (fnV 48), (fnV 48), (fnV 49), (fnV 47), (fnV 48), (fnV 48), (fnV 47), (fnV 49), (fnV 47), (fnV 47), (fnV 49)] 73, pBlk (w.heap.size + 1) (fv 0 (fun _ => 0) (fun _ => 0) (fun _ => 0)) 27, pBlk w.heap.size (fv (n : Int) c t s) 27])) (fun _ _ _ h hb => ⟨h.1, h.2.call hb⟩) (by simp only [List.getElem?_toArray, List.getElem?_cons_zero, List.getElem?_cons_succ]; exact rfl) rfl (by go_simp) (fun wx hx hD => ?_) ?_
      · have hD' : Holds w wx (pBlk G1 (fv (n : Int) (fset cx x px) t sx) 27 :: [pBlk g6 #[(fnV 49), (fnV 48), (fnV 48), (fnV 49), (fnV 47), (fnV 48), (fnV 48), (fnV 47), (fnV 49), (fnV 47), (fnV 47), (fnV 49)] 73, pBlk (w.heap.size + 1) (fv 0 (fun _ => 0) (fun _ => 0) (fun _ => 0)) 27, pBlk w.heap.size (fv (n : Int) c t s) 27]) := hD.2
        have y := hD'.cell 0 rfl (fv_s (n : Int) (fset cx x px) t sx hx32)
        have z := hD'.frozen 0 rfl (65 + x)
        have hs := hD'.set 0 rfl (65 + x) (.int .u8 rx)
        simp only [List.set_cons_zero] at hs
        rw [fv_sets _ _ _ _ _ hx32] at hs
        have HS := hide hs; clear hs
        go_simp
        simp only [Rd.uponE]
        exact ⟨HS.out.sub (.cons _ (.refl _)), by trivial, HS.out⟩
      rintro v ⟨_, _, rfl, _⟩
      rintro wz - hz
      have hz2 := hz.2
      rw [S1.out, S2.out] at hz2
      have HZ := hide hz2; clear hz2 hz
      go_simp
      go_wp2
      go_roundw
      case rel => exact ⟨x + 1, hlt, by go_num, HZ.out⟩
      case measure => simp [intOf]; first | exact hme | omega
    · obtain rfl : x = n := by omega
      have rr := hH.rowOk (n := 97) 2 rfl (fv_size _ _ _ _)
      have cd := hH.cells 0 rfl
      have HH3 := hH.setRow 2 rfl (fv (x : Int) (mdF P c x) t (mdF R s x))
      clear hlt
      go_wp2
      exact res_agg2 (p := 4) (t := 5) (g := w.heap.size + 1) (v := .int .i64 0) aggFl (fv_size _ _ _ _) rfl rfl rfl rfl (HH3.at 2 rfl) ⟨rfl, HH3.low⟩


set_option maxRecDepth 100000 in
set_option maxHeartbeats 4000000 in
theorem turnP5 (n : Nat) (c t s : Nat → Nat) (hc : ∀ i, c i < 256) (ht : ∀ i, t i < 256) (hs : ∀ i, s i < 256) (hf : flP n c t s) (w : World) :
    Calls Try.prog 20 #[.agg (fv (n : Int) c t s), .int .i64 5] w fun e w' => e = .returned (.tuple #[.agg (fv (n : Int) (mdF (fun x => s (c x)) c n) t (mdF c s n)), .int .i64 0]) ∧ Below w.heap.size w w' := by
  have c1 := fun w => areFlags_any (n : Int) c t s hc ht hs w
  rw [flB_yes hf] at c1
  have C1 := hide c1; clear c1
  have C2 := hide fun w => isTurn_any 5 w
  rw [show (decide ((0 : Int) ≤ 5) && decide ((5 : Int) < 6)) = true from rfl] at C2
  have HH0 := ((Holds.start w).blk (fv (n : Int) c t s) 27 w.heap.size rfl).blk (fv 0 (fun _ => 0) (fun _ => 0) (fun _ => 0)) 27 (w.heap.size + 1) (by simp)
  have hn := fv_n (n : Int) c t s
  have hn32 := hf.1.2.1
  obtain ⟨T1, x1, K1, r1, e1, m1, nn1, k1, b1, D1⟩ := (show LeadV (acV c s) (fun x => s (c x)) from lead_tw (lead_sw c hf.l32.1) (lead_sw s hf.l32.2.2))
  obtain ⟨T2, x2, K2, r2, e2, m2, nn2, k2, b2, D2⟩ := (show LeadV (swV c) c from lead_sw c hf.l32.1)
  have a1 := fun w => across_any (n : Int) c t s w
  have a2 := fun w => corner_any (n : Int) c t s w
  rw [e1] at a1
  rw [e2] at a2
  have A1 := hide a1; clear a1
  have A2 := hide a2; clear a2
  have DD1 := hide D1; clear D1
  have DD2 := hide D2; clear D2
  obtain ⟨P, hP⟩ : ∃ P : Nat → Nat, P = (fun x => s (c x)) := ⟨_, rfl⟩
  obtain ⟨R, hR⟩ : ∃ R : Nat → Nat, R = c := ⟨_, rfl⟩
  have eA : mdF (fun x => s (c x)) c n = mdF P c n := by rw [hP]
  have eB : mdF c s n = mdF R s n := by rw [hR]
  rw [eA, eB]
  clear eA eB
  have QD1 : Hid (∀ i : Nat, i < 32 → ∀ w, Calls Try.prog K1 #[r1, .int .u8 i] w fun e w' => e = .returned (.int .u8 (P i)) ∧ Below w.heap.size w w') := by rw [hP]; exact DD1
  have QD2 : Hid (∀ i : Nat, i < 32 → ∀ w, Calls Try.prog K2 #[r2, .int .u8 i] w fun e w' => e = .returned (.int .u8 (R i)) ∧ Below w.heap.size w w') := by rw [hR]; exact DD2
  have HM1 := hide (And.intro m1 (And.intro nn1 k1))
  have HM2 := hide (And.intro m2 (And.intro nn2 k2))
  clear DD1 DD2 hP hR b1 b2 e1 e2 hf hc ht hs m1 m2 nn1 nn2 k1 k2
  go_enter Try.func20, Try.ntmps20
  go_wp2_with fail
  refine (C1.out _).mono ?_
  rintro e w1 ⟨rfl, hb⟩
  have HH1 := HH0.call hb
  have cd1 := HH1.cells 1 rfl
  have rr1 := HH1.rowOk (n := 97) 0 rfl (fv_size _ _ _ _)
  clear hb HH0
  go_wp2_with fail
  refine (C2.out _).mono ?_
  rintro e w2 ⟨rfl, hb⟩
  have HH2 := HH1.call hb
  have cd2 := HH2.cells 1 rfl
  have rr2 := HH2.rowOk (n := 97) 0 rfl (fv_size _ _ _ _)
  clear hb HH1 cd1 rr1
  go_wp2
  have H5 := HH2.blk #[(fnV 49), (fnV 48), (fnV 48), (fnV 49), (fnV 47), (fnV 48), (fnV 48), (fnV 47), (fnV 49), (fnV 47), (fnV 47), (fnV 49)] 73 w2.heap.size rfl
  refine Rd.region_P (w0 := w) [pBlk w2.heap.size #[(fnV 49), (fnV 48), (fnV 48), (fnV 49), (fnV 47), (fnV 48), (fnV 48), (fnV 47), (fnV 49), (fnV 47), (fnV 47), (fnV 49)] 73, pBlk (w.heap.size + 1) (fv 0 (fun _ => 0) (fun _ => 0) (fun _ => 0)) 27, pBlk w.heap.size (fv (n : Int) c t s) 27] [pBlk w2.heap.size #[(fnV 49), (fnV 48), (fnV 48), (fnV 49), (fnV 47), (fnV 48), (fnV 48), (fnV 47), (fnV 49), (fnV 47), (fnV 47), (fnV 49)] 73, pBlk (w.heap.size + 1) (fv 0 (fun _ => 0) (fun _ => 0) (fun _ => 0)) 27, pBlk w.heap.size (fv (n : Int) c t s) 27] [] (.q 0 <| .q 1 <| .q 2 <| .q 3 <| .q 4 <| .q 5 <| .q 6 <| .q 7 <| .q 8 <| .q 9 <| .q 10 <| .q 11 <| .q 12 <| .q 13 .fin) H5 (.refl _) (by kernel_rfl) (by kernel_rfl) (by kernel_rfl) ?_
  iterate 5
    apply Rd.v_q
    · simp only [List.getElem?_toArray, List.getElem?_cons_zero, List.getElem?_cons_succ]; exact rfl
    · rfl
    · go_simp
    · intro wx hx
      have f1 : wx.cell? ⟨w2.heap.size, 10, none⟩ = some (fnV 47) := hx.cell 0 rfl rfl
      have f2 : wx.cell? ⟨w2.heap.size, 11, none⟩ = some (fnV 49) := hx.cell 0 rfl rfl
      have q0 := hx.cells 2 rfl
      unfold atG
      go_simp
      simp only [uponG]
      exact ⟨by trivial, rfl⟩
  iterate 1
    apply Rd.v_q
    · simp only [List.getElem?_toArray, List.getElem?_cons_zero, List.getElem?_cons_succ]; exact rfl
    · rfl
    · go_simp
    · intro wx hx
      have f1 : wx.cell? ⟨w2.heap.size, 10, none⟩ = some (fnV 47) := hx.cell 0 rfl rfl
      have f2 : wx.cell? ⟨w2.heap.size, 11, none⟩ = some (fnV 49) := hx.cell 0 rfl rfl
      have q0 := hx.cells 2 rfl
      unfold atG
      go_simp
      simp only [uponG]
      exact ⟨by trivial, A1.out wx⟩
  iterate 5
    apply Rd.v_q
    · simp only [List.getElem?_toArray, List.getElem?_cons_zero, List.getElem?_cons_succ]; exact rfl
    · rfl
    · go_simp
    · intro wx hx
      have f1 : wx.cell? ⟨w2.heap.size, 10, none⟩ = some (fnV 47) := hx.cell 0 rfl rfl
      have f2 : wx.cell? ⟨w2.heap.size, 11, none⟩ = some (fnV 49) := hx.cell 0 rfl rfl
      have q0 := hx.cells 2 rfl
      unfold atG
      go_simp
      simp only [uponG]
      exact ⟨by trivial, rfl⟩
  iterate 1
    apply Rd.v_q
    · simp only [List.getElem?_toArray, List.getElem?_cons_zero, List.getElem?_cons_succ]; exact rfl
    · rfl
    · go_simp
    · intro wx hx
      have f1 : wx.cell? ⟨w2.heap.size, 10, none⟩ = some (fnV 47) := hx.cell 0 rfl rfl
      have f2 : wx.cell? ⟨w2.heap.size, 11, none⟩ = some (fnV 49) := hx.cell 0 rfl rfl
      have q0 := hx.cells 2 rfl
      unfold atG
      go_simp
      simp only [uponG]
      exact ⟨by trivial, A2.out wx⟩
  iterate 2
    apply Rd.v_q
    · simp only [List.getElem?_toArray, List.getElem?_cons_zero, List.getElem?_cons_succ]; exact rfl
    · rfl
    · go_simp
    · intro wx hx
      have f1 : wx.cell? ⟨w2.heap.size, 10, none⟩ = some (fnV 47) := hx.cell 0 rfl rfl
      have f2 : wx.cell? ⟨w2.heap.size, 11, none⟩ = some (fnV 49) := hx.cell 0 rfl rfl
      have q0 := hx.cells 2 rfl
      unfold atG
      go_simp
      simp only [uponG]
      exact ⟨by trivial, rfl⟩
  rintro w5 h5 -
  go_simp
  clear H5 HH2 cd2 rr2 A1 A2 C1 C2
  have c5 := h5.cells 2 rfl
  have n5 := h5.cell 2 rfl hn
  have l5 := h5.lt 2 rfl
  have hw8 : IntKind.u8.wrap (n : Int) = n := wr8k (by omega) (by omega)
  have H6 : Holds w (w5.alloc (.cells (fv (n : Int) c t s) 27)) _ := h5.blk _ _ w5.heap.size rfl
  generalize hg6 : w2.heap.size = g6 at *
  go_wp2
  clear c5 n5 l5 hw8
  generalize hG1 : w5.heap.size = G1 at *
  have HG1 := hide hG1; clear hG1
  have HG6 := hide hg6; clear hg6
  go_loopw [42] (fun i wr => ∃ x : Nat, x ≤ n ∧ i = .int .u8 x ∧ Holds w wr [pBlk G1 (fv (n : Int) (mdF P c x) t (mdF R s x)) 27, pBlk g6 #[(fnV 49), (fnV 48), (fnV 48), (fnV 49), (fnV 47), (fnV 48), (fnV 48), (fnV 47), (fnV 49), (fnV 47), (fnV 47), (fnV 49)] 73, pBlk (w.heap.size + 1) (fv 0 (fun _ => 0) (fun _ => 0) (fun _ => 0)) 27, pBlk w.heap.size (fv (n : Int) c t s) 27]) (fun i _ => n - (intOf i).toNat)
  case atStart => exact ⟨0, by omega, rfl, by rw [mdF_zero, mdF_zero]; exact H6⟩
  case round =>
    clear H6 h5
    obtain ⟨x, hx, rfl, hH⟩ := hrel
    by_cases hlt : x < n
    · have hlti : (x : Int) < (n : Int) := by omega
      have hx32 : x < 32 := by omega
      have hxi : (x : Int) < 32 := by omega
      have E1 := hide (QD1.out x hx32)
      have E2 := hide (QD2.out x hx32)
      have s1 := mdF_succ P c x
      have s2 := mdF_succ R s x
      have S1 := hide s1; clear s1
      have S2 := hide s2; clear s2
      have hme : n - (x + 1) < n - x := by omega
      have hwx : IntKind.u8.wrap ((x : Int) + 1) = (x : Int) + 1 := wr8k (by omega) (by omega)
      obtain ⟨m1, nn1, k1⟩ := HM1.out
      obtain ⟨m2, nn2, k2⟩ := HM2.out
      generalize P x = px at *
      generalize R x = rx at *
      generalize mdF P c x = cx at *
      generalize mdF R s x = sx at *
      go_wp2
      refine Rd.region_P (w0 := w) [pBlk g6 #[(fnV 49), (fnV 48), (fnV 48), (fnV 49), (fnV 47), (fnV 48), (fnV 48), (fnV 47), (fnV 49), (fnV 47), (fnV 47), (fnV 49)] 73, pBlk (w.heap.size + 1) (fv 0 (fun _ => 0) (fun _ => 0) (fun _ => 0)) 27, pBlk w.heap.size (fv (n : Int) c t s) 27] [pBlk G1 (fv (n : Int) cx t sx) 27, pBlk g6 #[(fnV 49), (fnV 48), (fnV 48), (fnV 49), (fnV 47), (fnV 48), (fnV 48), (fnV 47), (fnV 49), (fnV 47), (fnV 47), (fnV 49)] 73, pBlk (w.heap.size + 1) (fv 0 (fun _ => 0) (fun _ => 0) (fun _ => 0)) 27, pBlk w.heap.size (fv (n : Int) c t s) 27] [10, 13] (.q 0 <| .q 1 <| .q 2 <| .q 3 <| .q 5 <| .q 6 <| .q 8 <| .q 11 <| .q 4 <| .q 7 <| .q 9 <| .s1 10 <| .q 12 <| .s1 13 .fin) hH (.cons _ (.refl _)) (by kernel_rfl) (by kernel_rfl) (by kernel_rfl) ?_
      iterate 8
        apply Rd.v_q
        · simp only [List.getElem?_toArray, List.getElem?_cons_zero, List.getElem?_cons_succ]; exact rfl
        · rfl
        · go_simp
        · intro wx hx
          unfold atG
          go_simp
          simp only [uponG]
          exact ⟨by trivial, rfl⟩
      iterate 1
        apply Rd.v_q
        · simp only [List.getElem?_toArray, List.getElem?_cons_zero, List.getElem?_cons_succ]; exact rfl
        · rfl
        · go_simp
        · intro wx hx
          unfold atG
          go_simp
          simp only [uponG]
          exact ⟨by trivial, E1.out wx⟩
      iterate 1
        apply Rd.v_q
        · simp only [List.getElem?_toArray, List.getElem?_cons_zero, List.getElem?_cons_succ]; exact rfl
        · rfl
        · go_simp
        · intro wx hx
          unfold atG
          go_simp
          simp only [uponG]
          exact ⟨by trivial, E2.out wx⟩
      iterate 1
        apply Rd.v_q
        · simp only [List.getElem?_toArray, List.getElem?_cons_zero, List.getElem?_cons_succ]; exact rfl
        · rfl
        · go_simp
        · intro wx hx
          unfold atG
          go_simp
          simp only [uponG]
          exact ⟨by trivial, rfl⟩
      refine Rd.v_s (fun u wx => u = undef ∧ Holds w wx (pBlk G1 (fv (n : Int) (fset cx x px) t sx) 27 :: [pBlk g6 #[(fnV 49), (fnV 48), (fnV 48), (fnV 49), (fnV 47), (fnV 48), (fnV 48), (fnV 47), (fnV 49), (fnV 47), (fnV 47), (fnV 49)] 73, pBlk (w.heap.size + 1) (fv 0 (fun _ => 0) (fun _ => 0) (fun _ => 0)) 27, pBlk w.heap.size (fv (n : Int) c t s) 27])) (fun _ _ _ h hb => ⟨h.1, h.2.call hb⟩) (by simp only [List.getElem?_toArray, List.getElem?_cons_zero, List.getElem?_cons_succ]; exact rfl) rfl (by go_simp) (fun wx hx hD => ?_) ?_
      · have hD' : Holds w wx (pBlk G1 (fv (n : Int) cx t sx) 27 :: [pBlk g6 #[(fnV 49), (fnV 48), (fnV 48), (fnV 49), (fnV 47), (fnV 48), (fnV 48), (fnV 47), (fnV 49), (fnV 47), (fnV 47), (fnV 49)] 73, pBlk (w.heap.size + 1) (fv 0 (fun _ => 0) (fun _ => 0) (fun _ => 0)) 27, pBlk w.heap.size (fv (n : Int) c t s) 27]) := hD
        have y := hD'.cell 0 rfl (fv_c (n : Int) cx t sx hx32)
        have z := hD'.frozen 0 rfl (1 + x)
        have hs := hD'.set 0 rfl (1 + x) (.int .u8 px)
        simp only [List.set_cons_zero] at hs
        rw [fv_setc _ _ _ _ _ hx32] at hs
        have HS := hide hs; clear hs
        go_simp
        simp only [Rd.uponE]
        exact ⟨HS.out.sub (.cons _ (.refl _)), by trivial, HS.out⟩
      rintro v ⟨_, _, rfl, _⟩
      iterate 1
        apply Rd.v_q
        · simp only [List.getElem?_toArray, List.getElem?_cons_zero, List.getElem?_cons_succ]; exact rfl
        · rfl
        · go_simp
        · intro wx hx
          unfold atG
          go_simp
          simp only [uponG]
          exact ⟨by trivial, rfl⟩
      refine Rd.v_s (fun u wx => u = undef ∧ Holds w wx (pBlk G1 (fv (n : Int) (fset cx x px) t (fset sx x rx)) 27 :: [pBlk g6 #[(fnV 49), (fnV 48), (fnV 48), (fnV 49), (fnV 47), (fnV 48), (fnV 48), (fnV 47), (fnV 49), (fnV 47), (fnV 47), (fnV 49)] 73, pBlk (w.heap.size + 1) (fv 0 (fun _ => 0) (fun _ => 0) (fun _ => 0)) 27, pBlk w.heap.size (fv (n : Int) c t s) 27])) (fun _ _ _ h hb => ⟨h.1, h.2.call hb⟩) (by simp only [List.getElem?_toArray, List.getElem?_cons_zero, List.getElem?_cons_succ]; exact rfl) rfl (by go_simp) (fun wx hx hD => ?_) ?_
      · have hD' : Holds w wx (pBlk G1 (fv (n : Int) (fset cx x px) t sx) 27 :: [pBlk g6 #[(fnV 49), (fnV 48), (fnV 48), (fnV 49), (fnV 47), (fnV 48), (fnV 48), (fnV 47), (fnV 49), (fnV 47), (fnV 47), (fnV 49)] 73, pBlk (w.heap.size + 1) (fv 0 (fun _ => 0) (fun _ => 0) (fun _ => 0)) 27, pBlk w.heap.size (fv (n : Int) c t s) 27]) := hD.2
        have y := hD'.cell 0 rfl (fv_s (n : Int) (fset cx x px) t sx hx32)
        have z := hD'.frozen 0 rfl (65 + x)
        have hs := hD'.set 0 rfl (65 + x) (.int .u8 rx)
        simp only [List.set_cons_zero] at hs
        rw [fv_sets _ _ _ _ _ hx32] at hs
        have HS := hide hs; clear hs
        go_simp
        simp only [Rd.uponE]
        exact ⟨HS.out.sub (.cons _ (.refl _)), by trivial, HS.out⟩
      rintro v ⟨_, _, rfl, _⟩
      rintro wz - hz
      have hz2 := hz.2
      rw [S1.out, S2.out] at hz2
      have HZ := hide hz2; clear hz2 hz
      go_simp
      go_wp2
      go_roundw
      case rel => exact ⟨x + 1, hlt, by go_num, HZ.out⟩
      case measure => simp [intOf]; first | exact hme | omega
    · obtain rfl : x = n := by omega
      have rr := hH.rowOk (n := 97) 2 rfl (fv_size _ _ _ _)
      have cd := hH.cells 0 rfl
      have HH3 := hH.setRow 2 rfl (fv (x : Int) (mdF P c x) t (mdF R s x))
      clear hlt
      go_wp2
      exact res_agg2 (p := 4) (t := 5) (g := w.heap.size + 1) (v := .int .i64 0) aggFl (fv_size _ _ _ _) rfl rfl rfl rfl (HH3.at 2 rfl) ⟨rfl, HH3.low⟩


set_option maxRecDepth 100000 in
set_option maxHeartbeats 4000000 in
theorem turnFlags_any (n : Int) (c t s : Nat → Nat) (hc : ∀ i, c i < 256) (ht : ∀ i, t i < 256) (hs : ∀ i, s i < 256) (k : Int) (w : World) :
    Calls Try.prog 20 #[.agg (fv n c t s), .int .i64 k] w fun e w' => e = .returned (tnfR n c t s k) ∧ Below w.heap.size w w' := by
  have C1 := hide fun w => areFlags_any n c t s hc ht hs w
  have HH0 := ((Holds.start w).blk (fv n c t s) 27 w.heap.size rfl).blk (fv 0 (fun _ => 0) (fun _ => 0) (fun _ => 0)) 27 (w.heap.size + 1) (by simp)
  rcases h1 : flB n c t s with _ | _
  · rw [h1] at C1
    have hr : tnfR n c t s k = .tuple #[.agg (fv 0 (fun _ => 0) (fun _ => 0) (fun _ => 0)), .int .i64 1] := by unfold tnfR; rw [if_neg (by simp [h1])]
    rw [hr]
    clear h1 hr
    go_enter Try.func20, Try.ntmps20
    go_wp2_with fail
    refine (C1.out _).mono ?_
    rintro e w1 ⟨rfl, hb⟩
    have HH1 := HH0.call hb
    have cd1 := HH1.cells 1 rfl
    have rr1 := HH1.rowOk (n := 97) 0 rfl (fv_size _ _ _ _)
    clear hb HH0
    have HHs := HH1.setRow 0 rfl (fv 0 (fun _ => 0) (fun _ => 0) (fun _ => 0))
    go_wp2
    exact res_agg2 (p := 4) (t := 5) (g := w.heap.size + 1) (v := .int .i64 1) aggFl (fv_size _ _ _ _) rfl rfl rfl rfl (HHs.at 0 rfl) ⟨rfl, HHs.low⟩
  rw [h1] at C1
  obtain ⟨n, rfl, hf⟩ := flB_true h1
  by_cases hk : 0 ≤ k ∧ k ≤ 5
  rotate_left
  · have hr : tnfR (n : Int) c t s k = .tuple #[.agg (fv 0 (fun _ => 0) (fun _ => 0) (fun _ => 0)), .int .i64 2] := by unfold tnfR; rw [if_pos h1, if_neg hk]
    rw [hr]
    have C2 := hide fun w => isTurn_any k w
    rw [show (decide (0 ≤ k) && decide (k < 6)) = false by simp; omega] at C2
    clear h1 hr hf hk
    go_enter Try.func20, Try.ntmps20
    go_wp2_with fail
    refine (C1.out _).mono ?_
    rintro e w1 ⟨rfl, hb⟩
    have HH1 := HH0.call hb
    have cd1 := HH1.cells 1 rfl
    have rr1 := HH1.rowOk (n := 97) 0 rfl (fv_size _ _ _ _)
    clear hb HH0
    go_wp2_with fail
    refine (C2.out _).mono ?_
    rintro e w2 ⟨rfl, hb⟩
    have HH2 := HH1.call hb
    have cd2 := HH2.cells 1 rfl
    have rr2 := HH2.rowOk (n := 97) 0 rfl (fv_size _ _ _ _)
    clear hb HH1 cd1 rr1
    have HHs := HH2.setRow 0 rfl (fv 0 (fun _ => 0) (fun _ => 0) (fun _ => 0))
    go_wp2
    exact res_agg2 (p := 4) (t := 5) (g := w.heap.size + 1) (v := .int .i64 2) aggFl (fv_size _ _ _ _) rfl rfl rfl rfl (HHs.at 0 rfl) ⟨rfl, HHs.low⟩
  have C2 := hide fun w => isTurn_any k w
  rw [show (decide (0 ≤ k) && decide (k < 6)) = true by simp; omega] at C2
  have hr : tnfR (n : Int) c t s k = .tuple #[.agg (fv (n : Int) (tnA c s (bothF c s n) k.toNat) t (tnB c s (bothF c s n) k.toNat)), .int .i64 0] := by unfold tnfR; rw [if_pos h1, if_pos hk, Int.toNat_natCast]
  rw [hr]
  have pc := hf.2.1
  have ps := hf.2.2.2.1
  clear HH0 C1 C2
  have hk6 : k = 0 ∨ k = 1 ∨ k = 2 ∨ k = 3 ∨ k = 4 ∨ k = 5 := by omega
  rcases hk6 with rfl | rfl | rfl | rfl | rfl | rfl
  · have e := fv_congr (n := (n : Int)) (t := t) (t' := t) (mdF_of (p := c) (a := tnA c s (bothF c s n) (0 : Int).toNat) (c := c) (n := n) (fun x _ => rfl) (fun x _ _ => rfl)) (fun _ _ => rfl) (mdF_of (p := s) (a := tnB c s (bothF c s n) (0 : Int).toNat) (c := s) (n := n) (fun x _ => rfl) (fun x _ _ => rfl))
    rw [← e]
    exact turnP0 n c t s hc ht hs hf w
  · have e := fv_congr (n := (n : Int)) (t := t) (t' := t) (mdF_of (p := s) (a := tnA c s (bothF c s n) (1 : Int).toNat) (c := c) (n := n) (fun x _ => rfl) (fun x h1 h2 => (ps.2 x h1 h2).trans (pc.2 x h1 h2).symm)) (fun _ _ => rfl) (mdF_of (p := c) (a := tnB c s (bothF c s n) (1 : Int).toNat) (c := s) (n := n) (fun x _ => rfl) (fun x h1 h2 => (pc.2 x h1 h2).trans (ps.2 x h1 h2).symm))
    rw [← e]
    exact turnP1 n c t s hc ht hs hf w
  · have e := fv_congr (n := (n : Int)) (t := t) (t' := t) (mdF_of (p := (fun x => s (c x))) (a := tnA c s (bothF c s n) (2 : Int).toNat) (c := c) (n := n) (fun x hx => both_at hx) (fun x h1 h2 => (both_out h1).trans (pc.2 x h1 h2).symm)) (fun _ _ => rfl) (mdF_of (p := s) (a := tnB c s (bothF c s n) (2 : Int).toNat) (c := s) (n := n) (fun x _ => rfl) (fun x _ _ => rfl))
    rw [← e]
    exact turnP2 n c t s hc ht hs hf w
  · have e := fv_congr (n := (n : Int)) (t := t) (t' := t) (mdF_of (p := s) (a := tnA c s (bothF c s n) (3 : Int).toNat) (c := c) (n := n) (fun x _ => rfl) (fun x h1 h2 => (ps.2 x h1 h2).trans (pc.2 x h1 h2).symm)) (fun _ _ => rfl) (mdF_of (p := (fun x => s (c x))) (a := tnB c s (bothF c s n) (3 : Int).toNat) (c := s) (n := n) (fun x hx => both_at hx) (fun x h1 h2 => (both_out h1).trans (ps.2 x h1 h2).symm))
    rw [← e]
    exact turnP3 n c t s hc ht hs hf w
  · have e := fv_congr (n := (n : Int)) (t := t) (t' := t) (mdF_of (p := c) (a := tnA c s (bothF c s n) (4 : Int).toNat) (c := c) (n := n) (fun x _ => rfl) (fun x _ _ => rfl)) (fun _ _ => rfl) (mdF_of (p := (fun x => s (c x))) (a := tnB c s (bothF c s n) (4 : Int).toNat) (c := s) (n := n) (fun x hx => both_at hx) (fun x h1 h2 => (both_out h1).trans (ps.2 x h1 h2).symm))
    rw [← e]
    exact turnP4 n c t s hc ht hs hf w
  · have e := fv_congr (n := (n : Int)) (t := t) (t' := t) (mdF_of (p := (fun x => s (c x))) (a := tnA c s (bothF c s n) (5 : Int).toNat) (c := c) (n := n) (fun x hx => both_at hx) (fun x h1 h2 => (both_out h1).trans (pc.2 x h1 h2).symm)) (fun _ _ => rfl) (mdF_of (p := c) (a := tnB c s (bothF c s n) (5 : Int).toNat) (c := s) (n := n) (fun x _ => rfl) (fun x h1 h2 => (pc.2 x h1 h2).trans (ps.2 x h1 h2).symm))
    rw [← e]
    exact turnP5 n c t s hc ht hs hf w


set_option maxRecDepth 100000 in
set_option maxHeartbeats 2000000 in
theorem fnExactTurnFlags_walk (n : Int) (c t s : Nat → Nat) (_hn : -9223372036854775808 ≤ n ∧ n ≤ 9223372036854775807) (hc : ∀ i, c i < 256) (ht : ∀ i, t i < 256) (hs : ∀ i, s i < 256) (x : Int) (_hx : -9223372036854775808 ≤ x ∧ x ≤ 9223372036854775807) (w : World) :
    Calls Try.prog 5 #[.agg (fv n c t s), .int .i64 x] w fun e w' => e = .returned (.bool true) ∧ Below w.heap.size w w' := by
  clear _hn _hx
  obtain ⟨a, b, d, e, k, hR⟩ := tnfR_eq n c t s x
  have c1 := fun w => turnFlags_any n c t s hc ht hs x w
  have c2 := fun w => sTurnFlags_any n c t s hc ht hs x w
  rw [hR] at c1 c2
  have C1 := hide c1; clear c1
  have C2 := hide c2; clear c2
  clear hR hc ht hs
  have hne : (k != k) = false := by simp
  have HH0 := (Holds.start w).blk (fv n c t s) 36 w.heap.size rfl
  go_enter Try.func5, Try.ntmps5
  go_wp2_with fail
  refine (toFlags_any n c t s _).mono ?_
  rintro e1 w1 ⟨rfl, hb1⟩
  have HH1 := HH0.call hb1
  have cd1 := HH1.cells 0 rfl
  have l1 := HH1.lt 0 rfl
  clear hb1
  go_wp2_with fail
  refine (C2.out _).mono ?_
  rintro e2 w2 ⟨rfl, hb2⟩
  have HH2 := HH1.call hb2
  have cd2 := HH2.cells 0 rfl
  have l2 := HH2.lt 0 rfl
  clear hb2 cd1 l1
  have HB2 := HH2.blk (fv a b d e) 27 w2.heap.size rfl
  go_wp2_with fail
  refine (toFlags_any n c t s _).mono ?_
  rintro e3 w3 ⟨rfl, hb3⟩
  have HH3 := HB2.call hb3
  have cd3 := HH3.cells 0 rfl
  have l3 := HH3.lt 0 rfl
  clear hb3 cd2 l2
  go_wp2_with fail
  refine (C1.out _).mono ?_
  rintro e4 w4 ⟨rfl, hb4⟩
  have HH4 := HH3.call hb4
  have cd4 := HH4.cells 0 rfl
  have l4 := HH4.lt 0 rfl
  clear hb4 cd3 l3
  have HB4 := HH4.blk (fv a b d e) 27 w4.heap.size rfl
  go_wp2_with fail
  refine (eqFlags_same a b d e _).mono ?_
  rintro e5 w5 ⟨rfl, hb5⟩
  have HH5 := HB4.call hb5
  clear hb5 cd4
  go_wp2
  go_ret
  exact ⟨rfl, HH5.low⟩
end Go.Proofs.Ytcddglkecfnhmaa
