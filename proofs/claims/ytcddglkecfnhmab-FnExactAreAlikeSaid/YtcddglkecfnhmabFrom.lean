/- spec.l07From: the form of a dessin from a dart -/
import Derived.Test.YtcddglkecfnhmabCan
import Derived.Test.YtcddglkecfnhmabRen
import Derived.Test.YtcddglkecfnhmabInts
import Derived.Test.YtcddglkecfnhmabRegD
import Derived.Test.YtcddglkecfnhmabHS2
import Derived.Test.YtcddglkecfnhmabWr
namespace Go.Proofs.Ytcddglkecfnhmab
open Go.RowKit

theorem Holds.intsAt {w0 w : World} {L : List Part} (h : Holds w0 w L) (i : Nat) {g n c : Nat} {l : List Nat} (hi : L[i]? = some (pInts (.slice (some ⟨g, 0, none⟩) n c) l)) {k : Nat} (hk : k < l.length) : w.cell? ⟨g, k, none⟩ = some (.int .i64 (l[k] : Nat)) := by
  obtain ⟨g', c', e, _, h3, _⟩ := h.ints i hi hk
  simp only [Value.slice.injEq, Option.some.injEq, Addr.mk.injEq] at e
  obtain ⟨⟨rfl, _, _⟩, _, _⟩ := e
  exact h3

set_option maxRecDepth 100000 in
set_option maxHeartbeats 2000000 in
theorem sFrom_any (f g : Nat → Nat) (m : Nat) (hd : DesN f g m) (x : Nat) (hx : x < m) (w : World) :
    Calls Try.prog 39 #[.agg (dv m f g), .int .i64 x] w fun e w' => e = .returned (.agg (dv m (forB f g m x) (forW f g m x))) ∧ Below w.heap.size w w' := by
  have hm := hd.le
  have hn := dv_n m f g
  have hNP := namF_perm hd hx
  have eB : forB f g m x = renTo (namF f g m x) f m := (renTo_eq hNP.2.2.1).symm
  have eW : forW f g m x = renTo (namF f g m x) g m := (renTo_eq hNP.2.2.1).symm
  rw [eB, eW]
  clear eB eW
  obtain ⟨F, L, NM, FI, F0, FN, FS, FL, FM, FE, FP⟩ : ∃ (F : Nat → List Nat × (Nat → Bool)) (L : Nat → Nat) (NM : Nat → Nat), Hid (∀ k, BInv m (F k)) ∧ Hid (F 0 = ([x], mset (fun _ => false) x)) ∧ Hid (∀ k (hk : k < (F k).1.length), F (k + 1) = bst f g (F k) ((F k).1[k]) 2) ∧
      Hid (∀ k, k ≤ 16 → (F k).1.length ≤ k → F 16 = F k) ∧ Hid (∀ k (hk : k < (F k).1.length), L k = (F k).1[k]) ∧ Hid ((F 16).1.length = m) ∧ Hid (NM = backTo L m) ∧ Hid (NM = namF f g m x) :=
    ⟨bfs f g x, lstF (bfs f g x 16).1, namF f g m x, hide fun k => bfs_inv hd.bf.1 hd.bg.1 hx k, hide (bfs_start f g x), hide fun k hk => bfs_next hk, hide fun k h1 h2 => bfs_stop h2 h1, hide fun k hk => lstF_at (bfs_inv hd.bf.1 hd.bg.1 hx k) hm hk, hide (bfs_full hd.bf hd.bg hd.le hd.conn hx), hide rfl, hide rfl⟩
  rw [← FP.out] at hNP ⊢
  clear FP
  have lp := hide hNP.2.2.1.1
  clear hNP
  have HF := hide hd.bf.1
  have HG := hide hd.bg.1
  clear hd
  have hx16 : x < 16 := by omega
  have h0 := bv_set (fun _ => false) x
  rw [bv_false] at h0
  have hlit : bv (mset (fun _ => false) x) = bv (mset (fun _ => false) x) := rfl
  have HH0 := (Holds.start w).blk (dv m f g) 29 w.heap.size rfl
  have HH1 := HH0.blk (dv 0 (fun _ => 0) (fun _ => 0)) 29 (w.heap.size + 1) (by simp)
  have HH2 : Holds w _ (pInts (.slice (some ⟨w.heap.size + 1 + 1, 0, none⟩) 1 1) [x] :: _) := HH1.rowNew #[.int .i64 x] 2 1 1 (w.heap.size + 1 + 1) (by simp) (by simp) (by decide)
  have HH3 := HH2.blk (av fun _ => 0) 27 (w.heap.size + 1 + 1 + 1) (by simp)
  have HH4 := HH3.blk (bv (mset (fun _ => false) x)) 61 (w.heap.size + 1 + 1 + 1 + 1) (by simp)
  have HHS := hide HH4
  clear HH0 HH1 HH2 HH3 HH4
  go_enter Try.func39, Try.ntmps39
  go_wp2
  rw [← av_zero, ← dv_zero]
  go_loopw [7, 8] (fun q i wr => ∃ k : Nat, k ≤ (F k).1.length ∧ i = .int .i64 k ∧ Holds w wr [pInts q (F k).1, pBlk (w.heap.size + 1 + 1 + 1 + 1) (bv (F k).2) 61, pBlk (w.heap.size + 1 + 1 + 1) (av (backTo L k)) 27, pBlk (w.heap.size + 1) (dv 0 (fun _ => 0) (fun _ => 0)) 29, pBlk w.heap.size (dv m f g) 29]) (fun _ i _ => 17 - (intOf i).toNat)
  case atStart =>
    refine ⟨0, by omega, rfl, ?_⟩
    rw [F0.out]
    refine Holds.perm HHS.out ?_
    exact (List.perm_middle (l₁ := [_, _]) (l₂ := [_, _])).trans (List.Perm.refl _) 
  case round =>
    clear hlit h0 HHS
    obtain ⟨k, hk, rfl, hH⟩ := hrel
    have hI := FI.out k
    have hl16 : (F k).1.length ≤ 16 := by have := hI.length_le; omega
    by_cases hlt : k < (F k).1.length
    · have hnext := FN.out k hlt
      have hX := hI.lt _ (List.getElem_mem hlt)
      have hLX := FL.out k hlt
      have hlt' : (k : Int) < (F k).1.length := by omega
      obtain ⟨g0, c, rfl, hg0, hcell, _⟩ := hH.ints 0 rfl hlt
      have hk16 : k < 16 := by omega
      have CI := hide fun wx (LL : List Part) (hx : Holds w wx (pInts (.slice (some ⟨g0, 0, none⟩) (F k).1.length c) (F k).1 :: LL)) => hx.intsAt 0 rfl hlt
      generalize hS : F k = S at *
      generalize S.1[k] = X at *
      have hX16 : X < 16 := by omega
      have hfX := HF.out X hX
      have hgX := HG.out X hX
      have c3 := hH.cell 2 rfl (av_get (backTo L k) hX16)
      have f3 := hH.frozen 2 rfl X
      have hN1 := hH.set 2 rfl X (.int .u8 k)
      rw [av_set] at hN1
      have hb1 : fset (backTo L k) X k = backTo L (k + 1) := by rw [← hLX]; rfl
      rw [hb1] at hN1
      simp only [List.set_cons_succ, List.set_cons_zero] at hN1
      have c2 : IntKind.u8.wrap (k : Int) = k := wr8k (by omega) (by omega)
      have HS := hide hS; clear hS
      have HN := hide hnext; clear hnext
      have HIV := hide hI; clear hI
      have HN1 := hide hN1; clear hN1 hH hb1
      have HL := hide hLX; clear hLX
      generalize hb : backTo L k X = y0 at *
      clear hb
      go_wp2
      clear c3 f3 hcell
      have H2 := HN1.out
      clear HN1 hg0
      generalize wr.setCell ⟨w.heap.size + 1 + 1 + 1, X, none⟩ (.int .u8 k) = wz at *
      have hfb := dv_b (m : Int) f g hX16
      have hgb := dv_w (m : Int) f g hX16
      have lf16 : f X < 16 := by omega
      have lg16 : g X < 16 := by omega
      have hXi : (X : Int) < 16 := by omega
      have cw1 : IntKind.i64.wrap ((f X : Nat) : Int) = ((f X : Nat) : Int) := wr64k (by omega) (by omega)
      have cw2 : IntKind.i64.wrap ((g X : Nat) : Int) = ((g X : Nat) : Int) := wr64k (by omega) (by omega)
      refine Rd.region_P (w0 := w) [pInts (.slice (some ⟨g0, 0, none⟩) S.1.length c) S.1, pBlk (w.heap.size + 1 + 1 + 1 + 1) (bv S.2) 61, pBlk (w.heap.size + 1 + 1 + 1) (av (backTo L (k + 1))) 27, pBlk (w.heap.size + 1) (dv 0 (fun _ => 0) (fun _ => 0)) 29, pBlk w.heap.size (dv m f g) 29] [pInts (.slice (some ⟨g0, 0, none⟩) S.1.length c) S.1, pBlk (w.heap.size + 1 + 1 + 1 + 1) (bv S.2) 61, pBlk (w.heap.size + 1 + 1 + 1) (av (backTo L (k + 1))) 27, pBlk (w.heap.size + 1) (dv 0 (fun _ => 0) (fun _ => 0)) 29, pBlk w.heap.size (dv m f g) 29] [16] (.q 0 <| .q 1 <| .q 2 <| .q 3 <| .q 4 <| .q 5 <| .q 6 <| .q 7 <| .q 8 <| .q 9 <| .q 10 <| .q 11 <| .q 12 <| .q 13 <| .q 14 <| .q 15 <| .s1 16 <| .q 17 .fin) H2 (.refl _) (by kernel_rfl) (by kernel_rfl) (by kernel_rfl) ?_
      iterate 16
        apply Rd.v_q
        · simp only [List.getElem?_toArray, List.getElem?_cons_zero, List.getElem?_cons_succ]; exact rfl
        · rfl
        · go_simp
        · intro wx hx
          have q0 := CI.out wx _ hx
          have q1 := hx.cell 4 rfl hfb
          have q2 := hx.cell 4 rfl hgb
          unfold atG
          go_simp
          simp only [uponG]
          exact ⟨by trivial, rfl⟩
      refine Rd.v_build #[.int .i64 (f X : Nat), .int .i64 (g X : Nat)] 2 2 (by simp only [List.getElem?_toArray, List.getElem?_cons_zero, List.getElem?_cons_succ]; exact rfl) rfl (by go_simp) (fun wx hx hD => by go_simp) fun gq => ?_
      iterate 1
        apply Rd.v_q
        · simp only [List.getElem?_toArray, List.getElem?_cons_zero, List.getElem?_cons_succ]; exact rfl
        · rfl
        · go_simp
        · intro wx hx
          unfold atG
          go_simp
          simp only [uponG]
          exact ⟨by trivial, rfl⟩
      rintro w6 - hx6
      clear H2
      go_simp
      have H3 := hx6.perm (List.Perm.swap _ _ _)
      clear hx6
      go_wp2
      go_loopw [7, 10] (fun q j wr => ∃ jj : Nat, jj ≤ 2 ∧ j = .int .i64 jj ∧ Holds w wr [pInts q (bst f g S X jj).1, pBlk gq #[.int .i64 (f X : Nat), .int .i64 (g X : Nat)] 2, pBlk (w.heap.size + 1 + 1 + 1 + 1) (bv (bst f g S X jj).2) 61, pBlk (w.heap.size + 1 + 1 + 1) (av (backTo L (k + 1))) 27, pBlk (w.heap.size + 1) (dv 0 (fun _ => 0) (fun _ => 0)) 29, pBlk w.heap.size (dv m f g) 29]) (fun _ j _ => 2 - (intOf j).toNat)
      case atStart => exact ⟨0, by omega, rfl, H3⟩
      case round =>
        clear H3
        obtain ⟨j, hj, rfl, hH⟩ := hrel
        by_cases hj2 : j < 2
        · have hjj : j = 0 ∨ j = 1 := by omega
          rcases hjj with hj0 | hj1
          · obtain rfl := hj0
            have hst : bst f g S X 1 = badd (bst f g S X 0) (f X) := rfl
            have hIT := bst_inv HIV.out hfX hgX 0
            have hTl : (bst f g S X 0).1.length ≤ 16 := by have := hIT.length_le; omega
            generalize bst f g S X 0 = T at *
            have cs := hH.cell 1 (j := 0) rfl rfl
            have hq1 := hH.apart (i := 1) (j := 2) (by decide) rfl rfl (g := gq) rfl
            have hq2 : ¬ gq = w.heap.size + 1 + 1 + 1 + 1 := fun e => hq1 e
            have hq3 : ¬ w.heap.size + 1 + 1 + 1 + 1 = gq := fun e => hq2 e.symm
            clear hq1
            have hY16 : f X < 16 := by omega
            obtain ⟨A, c, rfl⟩ := hH.intsForm 0 rfl
            have HST := hide hst; clear hst
            rcases hTY : T.2 (f X) with _ | _
            · have c0 := hH.cell 2 rfl ((bv_get T.2 hY16).trans (by rw [hTY]))
              have f0 := hH.frozen 2 rfl (f X)
              have hH1 := hH.set 2 rfl (f X) (.bool true)
              rw [bv_set] at hH1
              have HTY := hide hTY; clear hTY
              have HH1 := hide hH1; clear hH1
              go_wp2_with (at_builtin; refine appI (HH1.out.alloc _) 0 rfl wr.heap.size [f X] 2 ?_ ?_ rfl _ _ rfl rfl rfl ?_)
              · first | exact heap_at _ _ _ (by simp) | (have hq := Array.getElem?_eq_some_iff.1 (heap_at (wr.setCell ⟨w.heap.size + 1 + 1 + 1 + 1, f X, none⟩ (.bool true)) (.cells (nums [f X]).toArray 2) wr.heap.size (by simp)); exact hq.2)
              · first | (simp only [List.length_cons, List.length_nil]; omega) | omega | (trace_state; simp; omega)
              intro v' w' h1
              clear hH cs c0 f0
              go_wp2
              go_roundw
              case rel => exact ⟨1, by omega, by go_num, by rw [HST.out, badd_new HTY.out]; exact h1⟩
              case measure => simp [intOf]
            · have c0 := hH.cell 2 rfl ((bv_get T.2 hY16).trans (by rw [hTY]))
              have HTY := hide hTY; clear hTY
              go_wp2
              go_roundw
              case rel => exact ⟨1, by omega, by go_num, by rw [HST.out, badd_old HTY.out]; exact hH⟩
              case measure => simp [intOf]
          · obtain rfl := hj1
            have hst : bst f g S X 2 = badd (bst f g S X 1) (g X) := rfl
            have hIT := bst_inv HIV.out hfX hgX 1
            have hTl : (bst f g S X 1).1.length ≤ 16 := by have := hIT.length_le; omega
            generalize bst f g S X 1 = T at *
            have cs := hH.cell 1 (j := 1) rfl rfl
            have hq1 := hH.apart (i := 1) (j := 2) (by decide) rfl rfl (g := gq) rfl
            have hq2 : ¬ gq = w.heap.size + 1 + 1 + 1 + 1 := fun e => hq1 e
            have hq3 : ¬ w.heap.size + 1 + 1 + 1 + 1 = gq := fun e => hq2 e.symm
            clear hq1
            have hY16 : g X < 16 := by omega
            obtain ⟨A, c, rfl⟩ := hH.intsForm 0 rfl
            have HST := hide hst; clear hst
            rcases hTY : T.2 (g X) with _ | _
            · have c0 := hH.cell 2 rfl ((bv_get T.2 hY16).trans (by rw [hTY]))
              have f0 := hH.frozen 2 rfl (g X)
              have hH1 := hH.set 2 rfl (g X) (.bool true)
              rw [bv_set] at hH1
              have HTY := hide hTY; clear hTY
              have HH1 := hide hH1; clear hH1
              go_wp2_with (at_builtin; refine appI (HH1.out.alloc _) 0 rfl wr.heap.size [g X] 2 ?_ ?_ rfl _ _ rfl rfl rfl ?_)
              · first | exact heap_at _ _ _ (by simp) | (have hq := Array.getElem?_eq_some_iff.1 (heap_at (wr.setCell ⟨w.heap.size + 1 + 1 + 1 + 1, g X, none⟩ (.bool true)) (.cells (nums [g X]).toArray 2) wr.heap.size (by simp)); exact hq.2)
              · first | (simp only [List.length_cons, List.length_nil]; omega) | omega | (trace_state; simp; omega)
              intro v' w' h1
              clear hH cs c0 f0
              go_wp2
              go_roundw
              case rel => exact ⟨2, by omega, by go_num, by rw [HST.out, badd_new HTY.out]; exact h1⟩
              case measure => simp [intOf]
            · have c0 := hH.cell 2 rfl ((bv_get T.2 hY16).trans (by rw [hTY]))
              have HTY := hide hTY; clear hTY
              go_wp2
              go_roundw
              case rel => exact ⟨2, by omega, by go_num, by rw [HST.out, badd_old HTY.out]; exact hH⟩
              case measure => simp [intOf]
        · obtain rfl : j = 2 := by omega
          have hlen : k + 1 ≤ (F (k + 1)).1.length := by
            rw [HN.out]
            have := (bst_pre f g S X 2).length_le
            omega
          have H4 := hH.sub (L' := [pInts u7 (bst f g S X 2).1, pBlk (w.heap.size + 1 + 1 + 1 + 1) (bv (bst f g S X 2).2) 61, pBlk (w.heap.size + 1 + 1 + 1) (av (backTo L (k + 1))) 27, pBlk (w.heap.size + 1) (dv 0 (fun _ => 0) (fun _ => 0)) 29, pBlk w.heap.size (dv m f g) 29]) (.cons_cons _ (.cons _ (.refl _)))
          clear hH
          go_wp2
          go_roundw
          case rel => exact ⟨k + 1, hlen, by go_num, by rw [HN.out]; exact H4⟩
          case measure => simp [intOf]; omega
    · have hst := FS.out k (by omega) (by omega)
      have hkm : k = m := by rw [← FM.out, hst]; omega
      have hkl : (F k).1.length = k := by omega
      obtain ⟨A, c, rfl⟩ := hH.intsForm 0 rfl
      rw [hkm, ← FE.out] at hH
      have H5 := hH.sub (L' := [pBlk (w.heap.size + 1 + 1 + 1) (av NM) 27, pBlk (w.heap.size + 1) (dv 0 (fun _ => 0) (fun _ => 0)) 29, pBlk w.heap.size (dv m f g) 29]) (.cons _ (.cons _ (.refl _)))
      have cn := H5.cell 2 rfl hn
      rw [hkl]
      clear hkl hlt hk hl16 hH hI hst hkm
      have H6 : Holds w (wr.alloc (.cells (dv (m : Int) (renTo NM f 0) (renTo NM g 0)) 29)) _ := H5.blk _ 29 wr.heap.size rfl
      go_wp2
      generalize hG1 : wr.heap.size = G1 at *
      have HG1 := hide hG1; clear hG1
      clear cn
      go_loopw [12] (fun i wr => ∃ k : Nat, k ≤ m ∧ i = .int .i64 k ∧ Holds w wr [pBlk G1 (dv (m : Int) (renTo NM f k) (renTo NM g k)) 29, pBlk (w.heap.size + 1 + 1 + 1) (av NM) 27, pBlk (w.heap.size + 1) (dv 0 (fun _ => 0) (fun _ => 0)) 29, pBlk w.heap.size (dv m f g) 29]) (fun i _ => m - (intOf i).toNat)
      case atStart => exact ⟨0, by omega, rfl, H6⟩
      case round =>
        clear H6 H5
        obtain ⟨k, hk, rfl, hH⟩ := hrel
        have n0 := hH.cell 3 rfl hn
        by_cases hlt : k < m
        · have a16 := lp.out k hlt
          have b16 := HF.out k hlt
          have d16 := HG.out k hlt
          have c16 := lp.out _ b16
          have e16 := lp.out _ d16
          have x1 := hH.cell 1 rfl (av_get NM (i := k) (by omega))
          have x2 := hH.cell 3 rfl (dv_b (m : Int) f g (i := k) (by omega))
          have x3 := hH.cell 1 rfl (av_get NM (i := f k) (by omega))
          have x4 := hH.cell 3 rfl (dv_w (m : Int) f g (i := k) (by omega))
          have x5 := hH.cell 1 rfl (av_get NM (i := g k) (by omega))
          have x6 := hH.cell 0 rfl (dv_b (m : Int) (renTo NM f k) (renTo NM g k) (i := NM k) (by omega))
          have x7 := hH.cell 0 rfl (dv_w (m : Int) (renTo NM f k) (renTo NM g k) (i := NM k) (by omega))
          have f1 := hH.frozen 0 rfl (1 + NM k)
          have f2 := hH.frozen 0 rfl (17 + NM k)
          have t1 : fset (renTo NM f k) (NM k) (NM (f k)) = renTo NM f (k + 1) := rfl
          have t2 : fset (renTo NM g k) (NM k) (NM (g k)) = renTo NM g (k + 1) := rfl
          have q1 := hH.apart (i := 0) (j := 1) (by decide) rfl rfl (g := w.heap.size + 1 + 1 + 1)
          have q2 := hH.apart (i := 0) (j := 3) (by decide) rfl rfl (g := w.heap.size)
          have n1 : ¬ w.heap.size + 1 + 1 + 1 = G1 := fun e => q1 e rfl
          have n2 : ¬ w.heap.size = G1 := fun e => q2 e rfl
          have n3 : ¬ G1 = w.heap.size + 1 + 1 + 1 := fun e => n1 e.symm
          have n4 : ¬ G1 = w.heap.size := fun e => n2 e.symm
          have hs := (hH.set 0 rfl (1 + NM k) (.int .u8 (NM (f k)))).set 0 rfl (17 + NM k) (.int .u8 (NM (g k)))
          simp only [List.set_cons_zero] at hs
          rw [dv_setb _ _ _ _ (by omega), dv_setw _ _ _ _ (by omega), t1, t2] at hs
          have HS := hide hs; clear hs t1 t2 q1 q2
          generalize renTo NM f k (NM k) = y6 at *
          generalize renTo NM g k (NM k) = y7 at *
          generalize NM (f k) = z1 at *
          generalize NM (g k) = z2 at *
          generalize f k = z3 at *
          generalize g k = z4 at *
          generalize NM k = z5 at *
          clear hH
          go_wp2
          go_region
          all_goals go_wp2
          all_goals go_region
          all_goals go_wp2
          all_goals go_roundw
          case rel => exact ⟨k + 1, by omega, by go_num, HS.out.drew.drew⟩
          case measure => simp [intOf]; omega
        · obtain rfl : k = m := by omega
          have rr := hH.rowOk (n := 33) 2 rfl (dv_size _ _ _)
          have cd := hH.cells 0 rfl
          have HH3 := hH.setRow 2 rfl (dv (k : Int) (renTo NM f k) (renTo NM g k))
          clear hlt
          go_wp2
          exact res_agg (p := 4) (g := w.heap.size + 1) aggD (dv_size _ _ _) rfl rfl rfl (HH3.at 2 rfl) ⟨rfl, HH3.low⟩
end Go.Proofs.Ytcddglkecfnhmab

