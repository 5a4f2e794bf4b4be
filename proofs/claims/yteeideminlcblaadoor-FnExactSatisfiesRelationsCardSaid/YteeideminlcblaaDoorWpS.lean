/- WordPlaces: the model's l08Places. -/
import Derived.Test.YteeideminlcblaaDoorWpl
namespace Go.Proofs.YteeideminlcblaaDoor
open Go.RowKit

set_option maxRecDepth 100000 in
set_option maxHeartbeats 2000000 in
theorem l08Places_any (m : Nat) (f g : Nat → Nat) (hd : DesN f g m) (s : ByteArray) (hs : s.size ≤ 100000) (hl : ∀ x ∈ lts s, isL x = true) (w : World) :
    Calls Tryd.prog 30 #[.agg (dv m f g), .string s] w fun e w' => e = .returned (.agg (av (wplF f g m (lts s)))) ∧ Below w.heap.size w w' := by
  have hm := hd.le
  have lt16 : ∀ {q : Nat → Nat}, PermN q m → ∀ i, i < m → q i < 16 := fun h i hi => by have := h.lt i (by have := h.2.1; omega); omega
  have CB := hide fun w => sBack_any f m hm (lt16 hd.black) w
  have CW := hide fun w => sBack_any g m hm (lt16 hd.white) w
  have CS := hide fun w => sSame_any m hm w
  have HLS := hide (fun (i : Nat) (hi : i < s.size) => show isL ((s[i]'hi).toNat) = true by rw [← lts_get s hi]; exact hl _ (List.getElem_mem _))
  obtain ⟨F, F0, FS, FE⟩ : ∃ F : Nat → (Nat → Nat), Hid (F 0 = sameF m) ∧ Hid (∀ k (h : k < s.size), F (k + 1) = thenF (F k) (stL f g m (s[k]'h).toNat) m) ∧ Hid (wplF f g m (lts s) = F s.size ∧ ∀ k, k ≤ s.size → PermN (F k) m) :=
    ⟨wplK f g m (lts s), hide (wplK_zero _ _ _ _), hide fun k h => by rw [wplK_succ _ _ _ (lts s) (by rw [lts_length]; exact h), lts_get s h], hide ⟨by rw [← lts_length s, wplK_end], fun k hk => wplK_perm hd.black hd.white _ k (by rw [lts_length]; exact hk)⟩⟩
  have CF := hide (fun (k : Nat) (hk : k ≤ s.size) (q : Nat → Nat) (w : World) => sThen_any (F k) q m hm (lt16 (FE.out.2 k hk)) w)
  rw [FE.out.1]
  clear hd hl lt16
  have hn := dv_n m f g
  have H0 := ((Holds.start w).blk (dv m f g) 32 w.heap.size rfl).blk (av fun _ => 0) 28 (w.heap.size + 1) (by simp)
  rw [av_zero] at H0
  go_enter Tryd.func30, Tryd.ntmps30
  go_wp2
  rw [← av_zero] at H0 ⊢
  refine Rd.region_P (w0 := w) [pBlk (w.heap.size + 1) (av fun _ => 0) 28, pBlk w.heap.size (dv m f g) 32] [pBlk (w.heap.size + 1) (av fun _ => 0) 28, pBlk w.heap.size (dv m f g) 32] [5, 6] (.q 0 <| .q 1 <| .q 2 <| .q 3 <| .q 4 <| .s1 5 <| .s1 6 <| .q 7 .fin) H0 (.refl _) (by kernel_rfl) (by kernel_rfl) (by kernel_rfl) ?_
  iterate 2
    apply Rd.v_q
    · simp only [List.getElem?_toArray, List.getElem?_cons_zero, List.getElem?_cons_succ]; exact rfl
    · rfl
    · go_simp
    · intro wx hx
      have q1 := hx.cell 1 rfl hn
      unfold atG
      go_simp
      simp only [uponG]
      exact ⟨by trivial, rfl⟩
  iterate 1
    apply Rd.v_q
    · simp only [List.getElem?_toArray, List.getElem?_cons_zero, List.getElem?_cons_succ]; exact rfl
    · rfl
    · go_simp
    · intro wx hx
      have q1 := hx.cell 1 rfl hn
      unfold atG
      go_simp
      simp only [uponG]
      exact ⟨by trivial, CS.out wx⟩
  iterate 2
    apply Rd.v_q
    · simp only [List.getElem?_toArray, List.getElem?_cons_zero, List.getElem?_cons_succ]; exact rfl
    · rfl
    · go_simp
    · intro wx hx
      have q1 := hx.cell 1 rfl hn
      unfold atG
      go_simp
      simp only [uponG]
      exact ⟨by trivial, rfl⟩
  refine Rd.v_box (av fun _ => 0) 28 (by simp only [List.getElem?_toArray, List.getElem?_cons_zero, List.getElem?_cons_succ]; exact rfl) rfl (by go_simp) (fun wx hx hD => by rw [av_zero]; go_simp) fun g5 => ?_
  refine Rd.v_put 0 g5 (av fun _ => 0) (av (sameF m)) 28 rfl (.cons _ (.refl _)) (by simp only [List.getElem?_toArray, List.getElem?_cons_zero, List.getElem?_cons_succ]; exact rfl) rfl (by go_simp) (fun wx hx hD => ?_) ?_
  · have rr := hD.rowOk (n := 16) 0 rfl (av_size _)
    go_simp
  iterate 1
    apply Rd.v_q
    · simp only [List.getElem?_toArray, List.getElem?_cons_zero, List.getElem?_cons_succ]; exact rfl
    · rfl
    · go_simp
    · intro wx hx
      unfold atG
      go_simp
      simp only [uponG]
      exact ⟨by trivial, rfl⟩
  rintro w4 - H4
  clear H0
  simp only [List.set_cons_zero] at H4
  go_simp
  go_wp2
  go_loopw [7] (fun t wr => ∃ i : Nat, i ≤ s.size ∧ t = .int .i64 i ∧ Holds w wr (pBlk g5 (av (F i)) 28 :: [pBlk (w.heap.size + 1) (av fun _ => 0) 28, pBlk w.heap.size (dv m f g) 32])) (fun t _ => s.size - (intOf t).toNat)
  case atStart => exact ⟨0, Nat.zero_le _, rfl, by rw [F0.out]; exact H4⟩
  case round =>
    clear H4
    obtain ⟨i, hi, rfl, hH⟩ := hrel
    by_cases hlt : i < s.size
    · have hlti : (i : Int) < (s.size : Int) := by omega
      have hst := FS.out i hlt
      have hix := letU8 s hlt
      have hLc := HLS.out i hlt
      have CFI := hide (CF.out i hi)
      obtain ⟨c, hc⟩ : ∃ c, c = (s[i]'hlt).toNat := ⟨_, rfl⟩
      rw [← hc] at hLc hix hst
      clear hc
      have HST := hide hst; clear hst
      generalize hFi : F i = v at *
      clear hFi
      have dD := hH.cells 2 rfl
      have H8 := hH.blk (av f) 28 wr.heap.size rfl
      have d8 := H8.cells 0 rfl
      have d5 := H8.cells 1 rfl
      have e8 := H8.cells 3 rfl
      have rr8 := H8.rowOk (n := 16) 0 rfl (av_size _)
      have Hz := hH.blk (av fun _ => 0) 28 wr.heap.size rfl
      have rrz := Hz.rowOk (n := 16) 0 rfl (av_size _)
      have ez := Hz.cells 3 rfl
      rw [av_zero] at rrz ez
      clear Hz
      have hs8 : ∀ q : Nat → Nat, stL f g m 120 = f := fun _ => rfl
      rcases isL_cases hLc with rfl | rfl | rfl | rfl
      · have HS2 := hide (show F (i + 1) = thenF v (f) m from HST.out)
        clear hs8 HST hLc
        go_wp2_with fail
        refine (CFI.out (f) _).mono ?_
        rintro e w6 ⟨rfl, hb6⟩
        have Hf := H8.call hb6
        have rrf := Hf.rowOk (n := 16) 1 rfl (av_size _)
        have Hg := Hf.setRow 1 rfl (av (thenF v (f) m))
        clear hb6
        go_wp2
        go_roundw
        case rel => exact ⟨i + 1, by omega, by go_num, by rw [HS2.out]; exact Hg.sub (.cons _ (.refl _))⟩
        case measure => simp [intOf]; omega
      · have HS2 := hide (show F (i + 1) = thenF v (backF f m) m from HST.out)
        clear hs8 HST hLc
        go_wp2_with fail
        refine (CB.out _).mono ?_
        rintro e w5 ⟨rfl, hb5⟩
        have Hb := H8.call hb5
        have rrb := Hb.rowOk (n := 16) 0 rfl (av_size _)
        have Hc := Hb.setRow 0 rfl (av (backF f m))
        have dc := Hc.cells 0 rfl
        have fcc := Hc.cells 1 rfl
        clear hb5
        go_wp2_with fail
        refine (CFI.out (backF f m) _).mono ?_
        rintro e w6 ⟨rfl, hb6⟩
        have Hf := Hc.call hb6
        have rrf := Hf.rowOk (n := 16) 1 rfl (av_size _)
        have Hg := Hf.setRow 1 rfl (av (thenF v (backF f m) m))
        clear hb6
        go_wp2
        go_roundw
        case rel => exact ⟨i + 1, by omega, by go_num, by rw [HS2.out]; exact Hg.sub (.cons _ (.refl _))⟩
        case measure => simp [intOf]; omega
      · have HS2 := hide (show F (i + 1) = thenF v (g) m from HST.out)
        clear hs8 HST hLc
        have H9 := hH.blk (av g) 28 wr.heap.size rfl
        have d9 := H9.cells 0 rfl
        have f9 := H9.cells 1 rfl
        have rr9 := H9.rowOk (n := 16) 0 rfl (av_size _)
        go_wp2_with fail
        refine (CFI.out (g) _).mono ?_
        rintro e w6 ⟨rfl, hb6⟩
        have Hf := H9.call hb6
        have rrf := Hf.rowOk (n := 16) 1 rfl (av_size _)
        have Hg := Hf.setRow 1 rfl (av (thenF v (g) m))
        clear hb6
        go_wp2
        go_roundw
        case rel => exact ⟨i + 1, by omega, by go_num, by rw [HS2.out]; exact Hg.sub (.cons _ (.refl _))⟩
        case measure => simp [intOf]; omega
      · have HS2 := hide (show F (i + 1) = thenF v (backF g m) m from HST.out)
        clear hs8 HST hLc
        have H9 := hH.blk (av g) 28 wr.heap.size rfl
        have d9 := H9.cells 0 rfl
        have f9 := H9.cells 1 rfl
        have rr9 := H9.rowOk (n := 16) 0 rfl (av_size _)
        go_wp2_with fail
        refine (CW.out _).mono ?_
        rintro e w5 ⟨rfl, hb5⟩
        have Hb := H9.call hb5
        have rrb := Hb.rowOk (n := 16) 0 rfl (av_size _)
        have Hc := Hb.setRow 0 rfl (av (backF g m))
        have dc := Hc.cells 0 rfl
        have fcc := Hc.cells 1 rfl
        clear hb5
        go_wp2_with fail
        refine (CFI.out (backF g m) _).mono ?_
        rintro e w6 ⟨rfl, hb6⟩
        have Hf := Hc.call hb6
        have rrf := Hf.rowOk (n := 16) 1 rfl (av_size _)
        have Hg := Hf.setRow 1 rfl (av (thenF v (backF g m) m))
        clear hb6
        go_wp2
        go_roundw
        case rel => exact ⟨i + 1, by omega, by go_num, by rw [HS2.out]; exact Hg.sub (.cons _ (.refl _))⟩
        case measure => simp [intOf]; omega
    · obtain rfl : i = s.size := by omega
      have d5 := hH.cells 0 rfl
      have rr := hH.rowOk (n := 16) 1 rfl (av_size _)
      have H8 := hH.setRow 1 rfl (av (F s.size))
      clear hlt hi
      go_wp2
      exact res_agg (p := 4) (g := w.heap.size + 1) aggP (av_size _) rfl rfl rfl (H8.at 1 rfl) ⟨rfl, H8.low⟩
end Go.Proofs.YteeideminlcblaaDoor
