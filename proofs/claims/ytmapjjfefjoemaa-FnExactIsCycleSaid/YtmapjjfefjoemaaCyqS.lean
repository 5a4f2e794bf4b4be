/- Cycles of edges: the model's l09Cycle. -/
import Derived.Test.YtmapjjfefjoemaaBoc
import Derived.Test.YtmapjjfefjoemaaCyq
namespace Go.Proofs.Ytmapjjfefjoemaa
open Go.RowKit

theorem cycs_pos9 {p : Nat → Nat} {m : Nat} (hp : PermN p m) : 0 < (cycs p m).length := by
  have h0 := hp.1
  have hl := (cycs_flat hp.2.2.1 hp.2.1).length_eq
  rw [List.length_range] at hl
  rcases h : cycs p m with _ | ⟨c, cs⟩
  · rw [h] at hl; simp at hl; omega
  · simp
set_option maxRecDepth 100000 in
set_option maxHeartbeats 2000000 in
theorem sCycle_any (v : Value) (l : List Int) (f g : Nat → Nat) (m : Nat) (hd : DesN f g m) (hl : l.length = m) (hs : ∀ x ∈ l, -100000 ≤ x ∧ x ≤ 100000) (w : World) (hv : RdZ w v l) :
    Calls Try.prog 73 #[.agg (dv m f g), v] w fun e w' => e = .returned (.bool (cyc9 l f g m)) ∧ Below w.heap.size w w' := by
  have CB := hide fun w => sCycles_any f m hd.black w
  have CW := hide fun w => sCycles_any g m hd.white w
  have hcl : ∀ c ∈ cycs f m ++ cycs g m, c.length ≤ 16 ∧ ∀ x ∈ c, x < m := fun c hc => by
    rcases List.mem_append.1 hc with h | h
    · exact ⟨cyc_len9 hd.black h, fun x hx => cyc_lt9 hd.black h hx⟩
    · exact ⟨cyc_len9 hd.white h, fun x hx => cyc_lt9 hd.white h hx⟩
  have HCL := hide hcl; clear hcl
  have LB := hide (cycs_pos9 hd.black)
  have LW := hide (cycs_pos9 hd.white)
  have kb := cycs_le hd.black
  have kw := cycs_le hd.white
  have hm := hd.le
  obtain ⟨r, hr⟩ : ∃ r, r = cyc9 l f g m := ⟨_, rfl⟩
  rw [← hr]
  have HR := hide hr; clear hr
  unfold cyc9 at HR
  generalize cycs f m = cb at *
  generalize cycs g m = cw at *
  have KB := hide (show cb.length + cw.length ≤ 1000 by omega)
  clear kb kw
  have HS := hide hs; clear hs
  have HL := hide hl; clear hl
  have HV := hide hv
  clear hd
  obtain ⟨A0, c0, rfl, _⟩ := hv.form
  clear hv
  have HH0 := (Holds.start w).blk (dv m f g) 31 w.heap.size rfl
  have hn := dv_n m f g
  go_enter Try.func73, Try.ntmps73
  go_wp2
  apply Rd.region_RV9 (w0 := w) [pBlk w.heap.size (dv m f g) 31] [pBlk w.heap.size (dv m f g) 31] [0, 5, 6, 11, 12] (.q 1 <| .q 2 <| .q 3 <| .q 4 <| .q 7 <| .q 8 <| .q 9 <| .q 10 <| .s2 0 (.s1 5 <| .s1 6 <| .s1 11 <| .s1 12 <| .q 13 .fin) 5 (.s1 0 <| .s1 6 <| .s1 11 <| .s1 12 <| .q 13 .fin)) HH0 (.refl _) (by kernel_rfl) (by kernel_rfl) (by kernel_rfl) (R := Rd.rV9 w (cb.length + cw.length) fun q vs => pVals q vs :: (rowsP vs (cb ++ cw) ++ [pBlk w.heap.size (dv m f g) 31]))
  case h =>
    intro K key
    iterate 8
      apply Rd.v_q
      · simp only [List.getElem?_toArray, List.getElem?_cons_zero, List.getElem?_cons_succ]; exact rfl
      · rfl
      · go_simp
      · intro wx hx
        have q1 := hx.cells 0 rfl
        have q2 := hx.cell 0 rfl hn
        unfold atG
        go_simp
        simp only [uponG]
        exact ⟨by trivial, rfl⟩
    refine ⟨?_, ?_⟩
    · skip
      refine Rd.v_build #[] 25 0 (by simp only [List.getElem?_toArray, List.getElem?_cons_zero, List.getElem?_cons_succ]; exact rfl) rfl (by go_simp) (fun wx hx hD => by go_simp) fun g0 => ?_
      refine Rd.v_s9 (Rd.rV9 w cb.length fun v vs => pBlk g0 #[] 25 :: pVals v vs :: (rowsP vs cb ++ [pBlk w.heap.size (dv m f g) 31])) Rd.rV9_stable (by simp only [List.getElem?_toArray, List.getElem?_cons_zero, List.getElem?_cons_succ]; exact rfl) rfl (by go_simp) (fun wx hx hD => ?_) ?_
      · go_simp
        simp only [Rd.upon9_eq, Rd.uponE]
        refine ⟨by trivial, (CB.out wx).mono ?_⟩
        rintro e wy ⟨v, rfl, hb, ho⟩
        obtain ⟨A, c, vs, rfl, hv⟩ := own2_form ho
        have hj := hD.joinL (Holds.ofOwn2 hb hv)
        exact ⟨_, rfl, hx.call hb, A, c, vs, rfl, hv.len, hj.perm (List.Perm.cons _ List.perm_append_comm)⟩
      rintro v ⟨_, _, hv⟩
      obtain ⟨A1, c1, rfl⟩ := Rd.rV9_form hv
      clear hv
      refine Rd.v_s9 (Rd.rV9 w cb.length fun q vs => pVals q vs :: (rowsP vs cb ++ [pBlk w.heap.size (dv m f g) 31])) Rd.rV9_stable (by simp only [List.getElem?_toArray, List.getElem?_cons_zero, List.getElem?_cons_succ]; exact rfl) rfl (by go_simp) (fun wx hx hD => ?_) ?_
      · refine Rd.rV9_elim hD fun vs hl hH => ?_
        have hH2 := hH.noVals9 0 rfl
        refine Rd.upon_rows9 hH2 0 1 rfl rfl (by have := LB.out; omega) (vals_one9 hl hH2 (fun a ha => List.mem_cons_of_mem _ (List.mem_cons_of_mem _ (List.mem_append_left _ ha)))) (by have := KB.out; simp; omega) (fun v' w' h2 => ?_) _ _ rfl (by go_simp) (by go_simp)
        have h3 : Holds w w' (pVals v' vs :: (rowsP vs cb ++ [pBlk w.heap.size (dv m f g) 31])) := h2.sub (.cons_cons _ (.cons _ (.refl _)))
        exact ⟨h3.sub (.cons _ (List.sublist_append_right _ _)), Rd.rV9_of rfl hl h3⟩
      rintro v ⟨_, _, hv⟩
      obtain ⟨A2, c2, rfl⟩ := Rd.rV9_form hv
      clear hv
      refine Rd.v_s9 (Rd.rW9 w cw.length cb.length fun v us vs => pVals v us :: pVals (.slice A2 cb.length c2) vs :: (rowsP us cw ++ (rowsP vs cb ++ [pBlk w.heap.size (dv m f g) 31]))) Rd.rW9_stable (by simp only [List.getElem?_toArray, List.getElem?_cons_zero, List.getElem?_cons_succ]; exact rfl) rfl (by go_simp) (fun wx hx hD => ?_) ?_
      · refine Rd.rV9_elim hD fun vs hl hH => ?_
        go_simp
        simp only [Rd.upon9_eq, Rd.uponE]
        refine ⟨by trivial, (CW.out wx).mono ?_⟩
        rintro e wy ⟨v, rfl, hb, ho⟩
        obtain ⟨A, c, us, rfl, hv⟩ := own2_form ho
        have hj := hH.joinL (Holds.ofOwn2 hb hv)
        exact ⟨_, rfl, hx.call hb, A, c, us, vs, rfl, hv.len, hl, hj.perm (List.perm_append_comm.trans (List.Perm.cons _ List.perm_middle))⟩
      rintro v ⟨_, _, hv⟩
      obtain ⟨A3, c3, rfl⟩ := Rd.rW9_form hv
      clear hv
      refine Rd.v_s9 (Rd.rV9 w (cb.length + cw.length) fun q vs => pVals q vs :: (rowsP vs (cb ++ cw) ++ [pBlk w.heap.size (dv m f g) 31])) Rd.rV9_stable (by simp only [List.getElem?_toArray, List.getElem?_cons_zero, List.getElem?_cons_succ]; exact rfl) rfl (by go_simp) (fun wx hx hD => ?_) ?_
      · refine Rd.rW9_elim hD fun us vs hu hl hH => ?_
        refine Rd.upon_rows9 hH 1 0 rfl rfl (by have := LW.out; omega) (vals_one9 hu hH (fun a ha => List.mem_cons_of_mem _ (List.mem_cons_of_mem _ (List.mem_append_left _ ha)))) (by have := KB.out; omega) (fun v' w' h2 => ?_) _ _ rfl (by go_simp) (by go_simp)
        have h3 : Holds w w' (pVals v' (vs ++ us) :: (rowsP (vs ++ us) (cb ++ cw) ++ [pBlk w.heap.size (dv m f g) 31])) := by
          rw [rowsP_append9 hl]
          refine h2.tail.perm (List.Perm.cons _ ?_)
          rw [← List.append_assoc]
          exact List.perm_append_comm.append_right _
        exact ⟨h3.sub (.cons _ (List.sublist_append_right _ _)), Rd.rV9_of rfl (by rw [List.length_append, hl, hu]) h3⟩
      rintro v -
      iterate 1
        apply Rd.v_q
        · simp only [List.getElem?_toArray, List.getElem?_cons_zero, List.getElem?_cons_succ]; exact rfl
        · rfl
        · go_simp
        · intro wx hx
          unfold atG
          go_simp
          simp only [uponG]
          exact ⟨by trivial, rfl⟩
      rintro wz - hz
      go_simp
      exact key v g0 A1 c1 A2 c2 A3 c3 _ hz
    · skip
      refine Rd.v_s9 (Rd.rV9 w cb.length fun v vs => pVals v vs :: (rowsP vs cb ++ [pBlk w.heap.size (dv m f g) 31])) Rd.rV9_stable (by simp only [List.getElem?_toArray, List.getElem?_cons_zero, List.getElem?_cons_succ]; exact rfl) rfl (by go_simp) (fun wx hx hD => ?_) ?_
      · go_simp
        simp only [Rd.upon9_eq, Rd.uponE]
        refine ⟨by trivial, (CB.out wx).mono ?_⟩
        rintro e wy ⟨v, rfl, hb, ho⟩
        obtain ⟨A, c, vs, rfl, hv⟩ := own2_form ho
        have hj := hD.joinL (Holds.ofOwn2 hb hv)
        exact ⟨_, rfl, hx.call hb, A, c, vs, rfl, hv.len, hj.perm (List.perm_append_comm)⟩
      rintro v ⟨_, _, hv⟩
      obtain ⟨A1, c1, rfl⟩ := Rd.rV9_form hv
      clear hv
      refine Rd.v_s9 (Rd.rN9 w cb.length fun g0 vs => pBlk g0 #[] 25 :: pVals (.slice A1 cb.length c1) vs :: (rowsP vs cb ++ [pBlk w.heap.size (dv m f g) 31])) Rd.rN9_stable (by simp only [List.getElem?_toArray, List.getElem?_cons_zero, List.getElem?_cons_succ]; exact rfl) rfl (by go_simp) (fun wx hx hD => ?_) ?_
      · refine Rd.rV9_elim hD fun vs hl hH => ?_
        go_simp
        simp only [Rd.upon9_eq, Rd.uponE]
        exact ⟨hx.alloc _, _, vs, rfl, hl, hH.blk _ _ _ rfl⟩
      rintro v0 ⟨_, _, hv⟩
      obtain ⟨g0, rfl⟩ := Rd.rN9_form hv
      clear hv
      refine Rd.v_s9 (Rd.rV9 w cb.length fun q vs => pVals q vs :: (rowsP vs cb ++ [pBlk w.heap.size (dv m f g) 31])) Rd.rV9_stable (by simp only [List.getElem?_toArray, List.getElem?_cons_zero, List.getElem?_cons_succ]; exact rfl) rfl (by go_simp) (fun wx hx hD => ?_) ?_
      · refine Rd.rN9_elim hD fun vs hl hH => ?_
        have hH2 := hH.noVals9 0 rfl
        refine Rd.upon_rows9 hH2 0 1 rfl rfl (by have := LB.out; omega) (vals_one9 hl hH2 (fun a ha => List.mem_cons_of_mem _ (List.mem_cons_of_mem _ (List.mem_append_left _ ha)))) (by have := KB.out; simp; omega) (fun v' w' h2 => ?_) _ _ rfl (by go_simp) (by go_simp)
        have h3 : Holds w w' (pVals v' vs :: (rowsP vs cb ++ [pBlk w.heap.size (dv m f g) 31])) := h2.sub (.cons_cons _ (.cons _ (.refl _)))
        exact ⟨h3.sub (.cons _ (List.sublist_append_right _ _)), Rd.rV9_of rfl hl h3⟩
      rintro v ⟨_, _, hv⟩
      obtain ⟨A2, c2, rfl⟩ := Rd.rV9_form hv
      clear hv
      refine Rd.v_s9 (Rd.rW9 w cw.length cb.length fun v us vs => pVals v us :: pVals (.slice A2 cb.length c2) vs :: (rowsP us cw ++ (rowsP vs cb ++ [pBlk w.heap.size (dv m f g) 31]))) Rd.rW9_stable (by simp only [List.getElem?_toArray, List.getElem?_cons_zero, List.getElem?_cons_succ]; exact rfl) rfl (by go_simp) (fun wx hx hD => ?_) ?_
      · refine Rd.rV9_elim hD fun vs hl hH => ?_
        go_simp
        simp only [Rd.upon9_eq, Rd.uponE]
        refine ⟨by trivial, (CW.out wx).mono ?_⟩
        rintro e wy ⟨v, rfl, hb, ho⟩
        obtain ⟨A, c, us, rfl, hv⟩ := own2_form ho
        have hj := hH.joinL (Holds.ofOwn2 hb hv)
        exact ⟨_, rfl, hx.call hb, A, c, us, vs, rfl, hv.len, hl, hj.perm (List.perm_append_comm.trans (List.Perm.cons _ List.perm_middle))⟩
      rintro v ⟨_, _, hv⟩
      obtain ⟨A3, c3, rfl⟩ := Rd.rW9_form hv
      clear hv
      refine Rd.v_s9 (Rd.rV9 w (cb.length + cw.length) fun q vs => pVals q vs :: (rowsP vs (cb ++ cw) ++ [pBlk w.heap.size (dv m f g) 31])) Rd.rV9_stable (by simp only [List.getElem?_toArray, List.getElem?_cons_zero, List.getElem?_cons_succ]; exact rfl) rfl (by go_simp) (fun wx hx hD => ?_) ?_
      · refine Rd.rW9_elim hD fun us vs hu hl hH => ?_
        refine Rd.upon_rows9 hH 1 0 rfl rfl (by have := LW.out; omega) (vals_one9 hu hH (fun a ha => List.mem_cons_of_mem _ (List.mem_cons_of_mem _ (List.mem_append_left _ ha)))) (by have := KB.out; omega) (fun v' w' h2 => ?_) _ _ rfl (by go_simp) (by go_simp)
        have h3 : Holds w w' (pVals v' (vs ++ us) :: (rowsP (vs ++ us) (cb ++ cw) ++ [pBlk w.heap.size (dv m f g) 31])) := by
          rw [rowsP_append9 hl]
          refine h2.tail.perm (List.Perm.cons _ ?_)
          rw [← List.append_assoc]
          exact List.perm_append_comm.append_right _
        exact ⟨h3.sub (.cons _ (List.sublist_append_right _ _)), Rd.rV9_of rfl (by rw [List.length_append, hl, hu]) h3⟩
      rintro v -
      iterate 1
        apply Rd.v_q
        · simp only [List.getElem?_toArray, List.getElem?_cons_zero, List.getElem?_cons_succ]; exact rfl
        · rfl
        · go_simp
        · intro wx hx
          unfold atG
          go_simp
          simp only [uponG]
          exact ⟨by trivial, rfl⟩
      rintro wz - hz
      go_simp
      exact key v g0 A1 c1 A2 c2 A3 c3 _ hz
  intro q g0 A1 c1 A2 c2 A3 c3 w2 hR
  obtain ⟨A, c, vs, rfl, hvl, H1⟩ := hR
  clear HH0
  have HCS := hide (show cb.length + cw.length = (cb ++ cw).length from List.length_append.symm)
  have HCL2 := HCL
  have HVL := hide (hvl.trans HCS.out)
  have hk1 := KB.out
  rw [HCS.out] at H1 hk1 ⊢
  clear hvl HCS HCL CB CW LB LW KB
  generalize cb ++ cw = cs at *
  have H2 : Holds w w2 (pVals (.slice A cs.length c) vs :: (rowsP vs cs ++ [pBlk w.heap.size (dv m f g) 31])) := H1
  have hK : vs.length = cs.length := HVL.out
  clear H1
  have H3 : Holds w w2 (pVals (.slice A cs.length c) vs :: rowsP vs cs) := H2.sub (.cons_cons _ (List.sublist_append_left _ _))
  clear H2 hK
  go_wp2
  go_loopw [6] (fun t wq => ∃ i : Nat, i ≤ cs.length ∧ t = .int .i64 i ∧ Hid (∀ j (hj : j < cs.length), j < i → (sm9 l cs[j] != 0) = false) ∧ Holds w wq (pVals (.slice A cs.length c) vs :: rowsP vs cs)) (fun t _ => cs.length - (intOf t).toNat)
  case atStart => exact ⟨0, Nat.zero_le _, rfl, hide (fun j hj h => by omega), H3⟩
  case round =>
    clear H3
    obtain ⟨i, hi, rfl, hZ, hH⟩ := hrel
    by_cases hil : i < cs.length
    · have hil' : (i : Int) < cs.length := by omega
      obtain ⟨g0, d0, A', c', e0, hvi, x1, hpart⟩ := hH.rowAt HVL.out 0 rfl (fun _ => rfl) hil
      injection e0 with e0 e0a e0b
      subst e0
      clear e0a e0b hvi
      have hmem := List.getElem_mem hil
      obtain ⟨hci, hcx⟩ := HCL2.out _ hmem
      have HCX := hide hcx; clear hcx
      have RU := hide (rd_nums (hH.own1 (i + (0 + 1)) hpart) (by omega))
      have RV := hide (HV.out.below hH.low (Nat.le_refl _))
      have HZ1 := hide (fun (h : (sm9 l cs[i] != 0) = false) => (fun (j : Nat) (hj : j < cs.length) (h2 : j < i + 1) => (by
          by_cases e : j = i
          · subst e; exact h
          · exact hZ.out j hj (by omega) : (sm9 l cs[j] != 0) = false)))
      have HZ2 := hide (fun (h : (sm9 l cs[i] != 0) = true) => (by rw [HR.out]; exact zer9_bad hil h : r = false))
      clear hpart hmem hZ
      generalize cs[i] = ci at *
      go_wp2
      go_loopw [7, 8] (fun s t wx => ∃ j : Nat, j ≤ ci.length ∧ t = .int .i64 j ∧ s = .int .i64 (sm9 l (ci.take j)) ∧ wr = wx) (fun _ t _ => ci.length - (intOf t).toNat)
      case atStart => exact ⟨0, Nat.zero_le _, rfl, rfl, rfl⟩
      case round =>
        obtain ⟨j, hj, rfl, rfl, rfl⟩ := hrel
        by_cases hjl : j < ci.length
        · have hzs := sm9_take l ci hjl
          have hjl' : j < (zs9 ci).length := by rw [zs9_length]; exact hjl
          obtain ⟨b0, rfl, _, d1⟩ := RU.out.at hjl'
          rw [zs9_get hjl] at d1
          have hxl := HCX.out _ (List.getElem_mem hjl)
          have hxm := HL.out
          generalize ci[j] = x at *
          have hxl' : x < l.length := by omega
          obtain ⟨a0, rfl, _, d2⟩ := RV.out.at hxl'
          rw [List.getD_eq_getElem?_getD, List.getElem?_eq_getElem hxl', Option.getD_some] at hzs
          have hb := sm9_bound (K := 100000) (by omega) HS.out (ci.take j)
          have hb2 := HS.out _ (List.getElem_mem hxl')
          rw [List.length_take] at hb
          generalize l[x] = y at *
          generalize sm9 l (ci.take j) = s at *
          have ws : wrap64 (s + y) = s + y := wr64 (by omega) (by omega)
          have HZS := hide hzs; clear hzs hb hb2 hjl' hxm
          have hx' : (x : Int) < l.length := by omega
          go_wp2
          go_roundw
          case rel => exact ⟨j + 1, by omega, by go_num, by rw [HZS.out, ws], by trivial⟩
          case measure => simp [intOf]; omega
        · obtain rfl : j = ci.length := by omega
          rw [List.take_length]
          clear hjl hj
          rcases hz : (sm9 l ci != 0) with _ | _
          · have hF := hide (HZ1.out hz)
            generalize sm9 l ci = s at *
            go_wp2
            go_roundw
            case rel => exact ⟨i + 1, by omega, by go_num, hF, hH⟩
            case measure => simp [intOf]; omega
          · have hF := hide (HZ2.out hz)
            generalize sm9 l ci = s at *
            go_wp2
            go_ret
            exact ⟨by rw [hF.out]; rfl, hH.low⟩
    · obtain rfl : i = cs.length := by omega
      have hF := hide (show r = true by rw [HR.out]; exact zer9_good fun j hj => hZ.out j hj hj)
      clear hZ hi hil
      go_wp2
      go_ret
      exact ⟨by rw [hF.out]; rfl, hH.low⟩
end Go.Proofs.Ytmapjjfefjoemaa
