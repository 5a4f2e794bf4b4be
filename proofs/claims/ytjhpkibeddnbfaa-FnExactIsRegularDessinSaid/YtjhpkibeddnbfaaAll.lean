/- spec.l02All -/
import Derived.Test.YtjhpkibeddnbfaaIso
namespace Go.Proofs.Ytjhpkibeddnbfaa
open Go.RowKit

noncomputable def allT (f g f' g' : Nat → Nat) (m : Nat) : Nat → List (Nat → Nat)
  | 0 => []
  | y + 1 => if eqDB m (renF (namF f' g' m y) f' m) (renF (namF f' g' m y) g' m) m (renF (namF f g m 0) f m) (renF (namF f g m 0) g m) = true then allT f g f' g' m y ++ [isoP (namF f g m 0) m (namF f' g' m y)] else allT f g f' g' m y
theorem allT_len (f g f' g' : Nat → Nat) (m y : Nat) : (allT f g f' g' m y).length ≤ y := by
  induction y with
  | zero => simp [allT]
  | succ y ih =>
    rw [allT]
    split
    · rw [List.length_append]; simp only [List.length_cons, List.length_nil]; omega
    · omega
theorem allT_eq (f g f' g' : Nat → Nat) (m y : Nat) : allT f g f' g' m y = (lstT (formK f' g' m) (namF f' g' m) y (formK f g m 0)).map (isoP (namF f g m 0) m) := by
  induction y with
  | zero => rfl
  | succ y ih =>
    rw [allT, lstT, ih]
    have e : eqDB m (renF (namF f' g' m y) f' m) (renF (namF f' g' m y) g' m) m (renF (namF f g m 0) f m) (renF (namF f g m 0) g m) = true ↔ formK f' g' m y = formK f g m 0 := by
      rw [eqDB_iff]
      unfold formK
      simp only [Value.agg.injEq]
    by_cases c : formK f' g' m y = formK f g m 0
    · rw [if_pos (e.2 c), if_pos c, List.map_append]; rfl
    · rw [if_neg (fun h => c (e.1 h)), if_neg c]
theorem iso_ne {f g f' g' : Nat → Nat} {m k : Nat} (h : m ≠ k) : isoL f g m f' g' k = [] := by
  unfold isoL
  have : ∀ y, lstT (formK f' g' k) (namF f' g' k) y (formK f g m 0) = [] := by
    intro y
    induction y with
    | zero => rfl
    | succ y ih =>
      rw [lstT, if_neg, ih]
      intro e
      unfold formK at e
      simp only [Value.agg.injEq] at e
      have h0 : (dv k (renF (namF f' g' k y) f' k) (renF (namF f' g' k y) g' k))[0]? = (dv m (renF (namF f g m 0) f m) (renF (namF f g m 0) g m))[0]? := by rw [e]
      rw [dv_n, dv_n] at h0
      simp at h0
      omega
  rw [this]; rfl

set_option maxRecDepth 100000 in
set_option maxHeartbeats 1000000 in
theorem sAll_any (f g : Nat → Nat) (m : Nat) (hd : DesN f g m) (f' g' : Nat → Nat) (k : Nat) (he : DesN f' g' k) (w : World) :
    Calls Try.prog 45 #[.agg (dv m f g), .agg (dv k f' g')] w fun e w' => ∃ v, e = .returned v ∧ Below w.heap.size w w' ∧ w'.ownsRow w.heap.size 28 16 v (isoL f g m f' g' k).length (plB (isoL f g m f' g' k)) := by
  have hm := hd.le
  have hk := he.le
  have hn := dv_n m f g
  have hn' := dv_n k f' g'
  have HH0 := ((Holds.start w).blk (dv m f g) 30 w.heap.size rfl).blk (dv k f' g') 30 (w.heap.size + 1) (by simp)
  have cn := HH0.cell 1 rfl hn
  have cn' := HH0.cell 0 rfl hn'
  have HH1 : Holds w ((((w.alloc (.cells (dv m f g) 30)).alloc (.cells (dv k f' g') 30))).alloc (.cells #[] 28)) (pPl (.slice (some ⟨w.heap.size + 1 + 1, 0, none⟩) 0 0) [] :: _) := HH0.rowNew #[] 28 16 0 (w.heap.size + 1 + 1) (by simp) rfl (by unfold maxLen; omega)
  by_cases hmk : m = k
  rotate_left
  · have hr := iso_ne (f := f) (g := g) (f' := f') (g' := g') hmk
    rw [hr]
    have hne : (((m : Nat) : Int) != ((k : Nat) : Int)) = true := by rw [bne_iff_ne]; omega
    clear hd he hmk hr
    go_enter Try.func45, Try.ntmps45
    go_wp2
    go_ret
    exact ⟨_, rfl, HH1.low, HH1.row 0 rfl⟩
  subst hmk
  have hp0 := namF_perm hd hd.pos
  have c1 := fun w => sNaming_any f g m hd 0 hd.pos w
  simp only [show ((0 : Nat) : Int) = 0 from rfl] at c1
  have C1 := hide c1; clear c1
  have C2 := hide fun w => sRename_any f g (namF f g m 0) m hd.black hd.white hp0 w
  have C3 := hide fun (y : Nat) (hy : y < m) (w : World) => sNaming_any f' g' m he y hy w
  have C4 := hide fun (y : Nat) (hy : y < m) (w : World) => sRename_any f' g' (namF f' g' m y) m he.black he.white (namF_perm he hy) w
  have CP := hide fun (y : Nat) (hy : y < m) => namF_perm he hy
  have hiso : isoL f g m f' g' m = allT f g f' g' m m := (allT_eq f g f' g' m m).symm
  rw [hiso]
  have HT := hide fun y => (show allT f g f' g' m (y + 1) = if eqDB m (renF (namF f' g' m y) f' m) (renF (namF f' g' m y) g' m) m (renF (namF f g m 0) f m) (renF (namF f g m 0) g m) = true then allT f g f' g' m y ++ [isoP (namF f g m 0) m (namF f' g' m y)] else allT f g f' g' m y from rfl)
  have HTL := hide fun y => allT_len f g f' g' m y
  have H0 := hide (show allT f g f' g' m 0 = [] from rfl)
  clear hd he hiso
  generalize hAT : allT f g f' g' m = AT at *
  have HAT := hide hAT; clear hAT
  generalize renF (namF f g m 0) f m = F1 at *
  generalize renF (namF f g m 0) g m = G1 at *
  generalize namF f g m 0 = p at *
  have HP0 := hide hp0; clear hp0
  have hne : (((m : Nat) : Int) != ((m : Nat) : Int)) = false := by simp
  have cd := HH1.cells 2 rfl
  have ce := HH1.cells 1 rfl
  go_enter Try.func45, Try.ntmps45
  go_wp2_with fail
  refine (C1.out _).mono ?_
  rintro e w1 ⟨rfl, hb⟩
  have HH2 := (HH1.call hb).blk (av p) 28 w1.heap.size rfl
  have cd2 := HH2.cells 3 rfl
  clear hb HH0 HH1 cn cn' cd ce
  go_wp2_with fail
  refine (C2.out _).mono ?_
  rintro e w2 ⟨rfl, hb⟩
  have HH3 := (HH2.call hb).blk (dv m F1 G1) 30 w2.heap.size rfl
  clear hb HH2 cd2
  have HH4 : Holds w (w2.alloc (.cells (dv m F1 G1) 30)) (pPl (.slice (some ⟨w.heap.size + 1 + 1, 0, none⟩) 0 0) [] :: pBlk w2.heap.size (dv m F1 G1) 30 :: pBlk w1.heap.size (av p) 28 :: [pBlk (w.heap.size + 1) (dv m f' g') 30, pBlk w.heap.size (dv m f g) 30]) := HH3.perm ((List.perm_middle (l₁ := [_, _]) (a := _)))
  clear HH3
  go_wp2
  generalize w2.alloc (.cells (dv m F1 G1) 30) = w3 at *
  generalize w2.heap.size = G5 at *
  generalize w1.heap.size = G4 at *
  go_loopw [5, 8] (fun u t wr => ∃ y : Nat, y ≤ m ∧ t = .int .i64 y ∧ Holds w wr (pPl u (AT y) :: [pBlk G5 (dv m F1 G1) 30, pBlk G4 (av p) 28, pBlk (w.heap.size + 1) (dv m f' g') 30, pBlk w.heap.size (dv m f g) 30])) (fun _ t _ => m - (intOf t).toNat)
  case atStart => exact ⟨0, by omega, rfl, by rw [H0.out]; exact HH4⟩
  case round =>
    clear HH4
    obtain ⟨y, hy, rfl, hH⟩ := hrel
    have cn := hH.cell 3 rfl hn'
    by_cases hym : y < m
    · have hym' : (y : Int) < m := by omega
      have c3 := C3.out y hym
      have c4 := C4.out y hym
      have hs := CP.out y hym
      have hT := HT.out y
      have hl := HTL.out y
      generalize namF f' g' m y = s at *
      generalize renF s f' m = F2 at *
      generalize renF s g' m = G2 at *
      have C5 := hide c3; clear c3
      have C6 := hide c4; clear c4
      have C7 := hide fun w => sBack_any s m hm (fun i hi => hs.lt16 (by omega)) w
      have hp16 := HP0.out
      have C8 := hide fun w => sThen_any p (backF s m) m hm (fun i hi => hp16.lt16 (by omega)) w
      have hiso : isoP p m s = thenF p (backF s m) m := rfl
      clear hp16 hs
      rw [hiso] at hT
      clear hiso
      generalize thenF p (backF s m) m = r at *
      generalize hM1 : AT (y + 1) = M1 at *
      generalize hM0 : AT y = M at *
      have HM1 := hide hM1; clear hM1
      have HM0 := hide hM0; clear hM0
      have ce := hH.cells 3 rfl
      obtain ⟨A', c', rfl⟩ := hH.plForm 0 rfl
      go_wp2_with fail
      refine (C5.out _).mono ?_
      rintro e w4 ⟨rfl, hb⟩
      have H5 := (hH.call hb).blk (av s) 28 w4.heap.size rfl
      clear hb ce cn hH
      go_wp2
      generalize w4.alloc (.cells (av s) 28) = w5 at *
      generalize w4.heap.size = G6 at *
      refine Rd.region_P (w0 := w) (pBlk G6 (av s) 28 :: [pBlk G5 (dv m F1 G1) 30, pBlk G4 (av p) 28, pBlk (w.heap.size + 1) (dv m f' g') 30, pBlk w.heap.size (dv m f g) 30]) (pBlk G6 (av s) 28 :: pPl (.slice A' M.length c') M :: [pBlk G5 (dv m F1 G1) 30, pBlk G4 (av p) 28, pBlk (w.heap.size + 1) (dv m f' g') 30, pBlk w.heap.size (dv m f g) 30]) [] (.q 0 <| .q 1 <| .q 2 <| .q 3 <| .q 4 .fin) H5 (.cons_cons _ (.cons _ (.refl _))) (by kernel_rfl) (by kernel_rfl) (by kernel_rfl) ?_
      iterate 2
        apply Rd.v_q
        · simp only [List.getElem?_toArray, List.getElem?_cons_zero, List.getElem?_cons_succ]; exact rfl
        · rfl
        · go_simp
        · intro wx hx
          have q0 := hx.cells 0 rfl
          have q1 := hx.cells 1 rfl
          have q2 := hx.cells 2 rfl
          have q3 := hx.cells 3 rfl
          have q4 := hx.cells 4 rfl
          have q5 := hx.cell 4 rfl hn
          unfold atG
          go_simp
          simp only [uponG]
          exact ⟨by trivial, rfl⟩

      iterate 1
        apply Rd.v_q
        · simp only [List.getElem?_toArray, List.getElem?_cons_zero, List.getElem?_cons_succ]; exact rfl
        · rfl
        · go_simp
        · intro wx hx
          have q0 := hx.cells 0 rfl
          have q1 := hx.cells 1 rfl
          have q2 := hx.cells 2 rfl
          have q3 := hx.cells 3 rfl
          have q4 := hx.cells 4 rfl
          have q5 := hx.cell 4 rfl hn
          unfold atG
          go_simp
          simp only [uponG]
          exact ⟨by trivial, C6.out wx⟩

      iterate 2
        apply Rd.v_q
        · simp only [List.getElem?_toArray, List.getElem?_cons_zero, List.getElem?_cons_succ]; exact rfl
        · rfl
        · go_simp
        · intro wx hx
          have q0 := hx.cells 0 rfl
          have q1 := hx.cells 1 rfl
          have q2 := hx.cells 2 rfl
          have q3 := hx.cells 3 rfl
          have q4 := hx.cells 4 rfl
          have q5 := hx.cell 4 rfl hn
          unfold atG
          go_simp
          simp only [uponG]
          exact ⟨by trivial, rfl⟩

      rintro w6 - H6
      clear H5
      rcases hq : eqDB m F2 G2 m F1 G1 with _ | _
      · rw [hq, if_neg (by simp)] at hT
        have HT1 := hide hT; clear hT
        go_simp
        go_wp2
        go_roundw
        case rel => exact ⟨y + 1, by omega, by go_num, by rw [HM1.out, HT1.out]; exact H6.tail⟩
        case measure => simp [intOf]; omega
      · rw [hq, if_pos rfl] at hT
        have HT1 := hide hT; clear hT
        go_simp
        go_wp2
        refine Rd.region_P (w0 := w) (pBlk G6 (av s) 28 :: [pBlk G5 (dv m F1 G1) 30, pBlk G4 (av p) 28, pBlk (w.heap.size + 1) (dv m f' g') 30, pBlk w.heap.size (dv m f g) 30]) (pBlk G6 (av s) 28 :: pPl (.slice A' M.length c') M :: [pBlk G5 (dv m F1 G1) 30, pBlk G4 (av p) 28, pBlk (w.heap.size + 1) (dv m f' g') 30, pBlk w.heap.size (dv m f g) 30]) [9, 10] (.q 0 <| .q 1 <| .q 2 <| .q 3 <| .q 4 <| .q 5 <| .q 6 <| .q 7 <| .q 8 <| .s1 9 <| .s1 10 <| .q 11 .fin) H6 (.cons_cons _ (.cons _ (.refl _))) (by kernel_rfl) (by kernel_rfl) (by kernel_rfl) ?_
        iterate 5
          apply Rd.v_q
          · simp only [List.getElem?_toArray, List.getElem?_cons_zero, List.getElem?_cons_succ]; exact rfl
          · rfl
          · go_simp
          · intro wx hx
            have q0 := hx.cells 0 rfl
            have q1 := hx.cells 1 rfl
            have q2 := hx.cells 2 rfl
            have q3 := hx.cells 3 rfl
            have q4 := hx.cells 4 rfl
            have q5 := hx.cell 4 rfl hn
            unfold atG
            go_simp
            simp only [uponG]
            exact ⟨by trivial, rfl⟩

        iterate 1
          apply Rd.v_q
          · simp only [List.getElem?_toArray, List.getElem?_cons_zero, List.getElem?_cons_succ]; exact rfl
          · rfl
          · go_simp
          · intro wx hx
            have q0 := hx.cells 0 rfl
            have q1 := hx.cells 1 rfl
            have q2 := hx.cells 2 rfl
            have q3 := hx.cells 3 rfl
            have q4 := hx.cells 4 rfl
            have q5 := hx.cell 4 rfl hn
            unfold atG
            go_simp
            simp only [uponG]
            exact ⟨by trivial, C7.out wx⟩

        iterate 2
          apply Rd.v_q
          · simp only [List.getElem?_toArray, List.getElem?_cons_zero, List.getElem?_cons_succ]; exact rfl
          · rfl
          · go_simp
          · intro wx hx
            have q0 := hx.cells 0 rfl
            have q1 := hx.cells 1 rfl
            have q2 := hx.cells 2 rfl
            have q3 := hx.cells 3 rfl
            have q4 := hx.cells 4 rfl
            have q5 := hx.cell 4 rfl hn
            unfold atG
            go_simp
            simp only [uponG]
            exact ⟨by trivial, rfl⟩

        iterate 1
          apply Rd.v_q
          · simp only [List.getElem?_toArray, List.getElem?_cons_zero, List.getElem?_cons_succ]; exact rfl
          · rfl
          · go_simp
          · intro wx hx
            have q0 := hx.cells 0 rfl
            have q1 := hx.cells 1 rfl
            have q2 := hx.cells 2 rfl
            have q3 := hx.cells 3 rfl
            have q4 := hx.cells 4 rfl
            have q5 := hx.cell 4 rfl hn
            unfold atG
            go_simp
            simp only [uponG]
            exact ⟨by trivial, C8.out wx⟩

        refine Rd.v_build (av r) 28 1 (by simp only [List.getElem?_toArray, List.getElem?_cons_zero, List.getElem?_cons_succ]; exact rfl) rfl (by go_simp) (fun wx hx hD => by go_simp) fun gq => ?_
        refine Rd.v_s (fun u wx => Holds w wx (pPl u (M ++ [r]) :: [pBlk G5 (dv m F1 G1) 30, pBlk G4 (av p) 28, pBlk (w.heap.size + 1) (dv m f' g') 30, pBlk w.heap.size (dv m f g) 30])) (fun u _ _ h hb => h.call hb) (by simp only [List.getElem?_toArray, List.getElem?_cons_zero, List.getElem?_cons_succ]; exact rfl) rfl (by go_simp) (fun wx hx hD => ?_) ?_
        · exact upon_appPl hD 2 rfl gq r 28 (hD.at 0 rfl) (by omega) (fun v' w' h2 => ⟨h2.sub (.cons _ (.cons_cons _ (.cons _ (.refl _)))), h2.sub (.cons _ (.cons _ (.refl _)))⟩) _ _ rfl (by go_simp) (by go_simp)
        rintro v' -
        iterate 1
          apply Rd.v_q
          · simp only [List.getElem?_toArray, List.getElem?_cons_zero, List.getElem?_cons_succ]; exact rfl
          · rfl
          · go_simp
          · intro wx hx
            have q0 := hx.cells 0 rfl
            have q1 := hx.cells 1 rfl
            have q2 := hx.cells 2 rfl
            have q3 := hx.cells 3 rfl
            have q4 := hx.cells 4 rfl
            have q5 := hx.cell 4 rfl hn
            unfold atG
            go_simp
            simp only [uponG]
            exact ⟨by trivial, rfl⟩

        rintro w7 - hx7
        clear H6
        go_simp
        go_wp2
        go_roundw
        case rel => exact ⟨y + 1, by omega, by go_num, by rw [HM1.out, HT1.out]; exact hx7⟩
        case measure => simp [intOf]; omega
    · obtain rfl : y = m := by omega
      clear hy hym
      go_wp2
      go_ret
      refine ⟨u5, rfl, hH.low, ?_⟩
      exact hH.row 0 rfl
end Go.Proofs.Ytjhpkibeddnbfaa
