/- spec.l04Types -/
import Derived.Test.YtlmhnimpglookaaTys
namespace Go.Proofs.Ytlmhnimpglookaa
open Go.RowKit

theorem tyMap_succ (n x : Nat) (st : List Nat) (Ls : List (List Nat)) : (Ls ++ (tyP n x).map (st ++ ·)) ++ (typ (n - (x + 1)) (x + 1)).map ((st ++ [x + 1]) ++ ·) = Ls ++ (tyP n (x + 1)).map (st ++ ·) := by
  rw [tyP_succ, List.map_append, List.map_map, List.append_assoc]
  congr 2
  apply List.map_congr_left
  intro r _
  simp

set_option maxRecDepth 100000 in
set_option maxHeartbeats 2000000 in
theorem ih_zero (n m : Nat) (hn0 : n = 0) (hm : m ≤ 16) (st : List Nat) (sv lv : Value) (vs : List Value) (Ls : List (List Nat)) (w0 w : World) (L : List Part) (hvs : vs.length = Ls.length) (hLs : Ls.length + (typ n m).length ≤ 1000)
    (hH : Holds w0 w (pVals lv vs :: pInts sv st :: (L ++ rowsP vs Ls))) :
    Calls Try.prog 52 #[.int .i64 n, .int .i64 m, sv, lv] w fun e w' => ∃ v, e = .returned v ∧ ∃ vs', vs'.length = (Ls ++ (typ n m).map (st ++ ·)).length ∧ Holds w0 w' (pVals v vs' :: (L ++ rowsP vs' (Ls ++ (typ n m).map (st ++ ·)))) := by
  subst hn0
  have e0 : (typ 0 m).map (st ++ ·) = [st] := by rw [typ_zero]; simp
  rw [typ_zero, List.length_singleton] at hLs
  rw [e0]
  have h0 : (((0 : Nat) : Int) == 0) = true := rfl
  have HVS := hide hvs; clear hvs
  have hvl : vs.length ≤ 1000 := by rw [HVS.out]; omega
  obtain ⟨A0, c0, rfl⟩ := hH.valsForm 0 rfl
  obtain ⟨A1, c1, rfl⟩ := hH.intsForm 1 rfl
  clear hLs e0
  go_enter Try.func52, Try.ntmps52
  go_wp2_with (at_builtin; refine appRow (hH.alloc _) 0 rfl w.heap.size (.slice A1 st.length c1) rfl 22 (heap_at _ _ _ rfl) (by omega) rfl _ _ rfl rfl rfl ?_)
  intro v4 w4 h4
  have h5 : Holds w0 w4 (pVals v4 (vs ++ [.slice A1 st.length c1]) :: pInts (.slice A1 st.length c1) st :: (L ++ rowsP vs Ls)) := h4
  have H4 := Holds.rowEnd (A := pVals v4 (vs ++ [.slice A1 st.length c1]) :: L) HVS.out (h5.perm (List.Perm.swap _ _ _))
  have H6 : Holds w0 w4 (pVals v4 (vs ++ [.slice A1 st.length c1]) :: (L ++ rowsP (vs ++ [.slice A1 st.length c1]) (Ls ++ [st]))) := H4
  obtain ⟨A8, c8, rfl⟩ := H6.valsForm 0 rfl
  clear h4 h5 hH H4
  go_wp2
  go_ret
  refine ⟨_, rfl, vs ++ [Value.slice A1 st.length c1], ?_, H6⟩
  rw [List.length_append, List.length_append, HVS.out]; rfl

set_option maxRecDepth 100000 in
set_option maxHeartbeats 2000000 in
theorem l04Types_any : ∀ (f n m : Nat), n ≤ f → n ≤ 16 → m ≤ 16 → ∀ (st : List Nat) (sv lv : Value) (vs : List Value) (Ls : List (List Nat)) (w0 w : World) (L : List Part), st.length + n ≤ 16 → vs.length = Ls.length → Ls.length + (typ n m).length ≤ 1000 →
    Holds w0 w (pVals lv vs :: pInts sv st :: (L ++ rowsP vs Ls)) →
    Calls Try.prog 52 #[.int .i64 n, .int .i64 m, sv, lv] w fun e w' => ∃ v, e = .returned v ∧ ∃ vs', vs'.length = (Ls ++ (typ n m).map (st ++ ·)).length ∧ Holds w0 w' (pVals v vs' :: (L ++ rowsP vs' (Ls ++ (typ n m).map (st ++ ·)))) := by
  intro f
  induction f with
  | zero =>
    intro n m hf hn hm st sv lv vs Ls w0 w L hst hvs hLs hH
    exact ih_zero n m (by omega) hm st sv lv vs Ls w0 w L hvs hLs hH
  | succ f ih =>
    intro n m hf hn hm st sv lv vs Ls w0 w L hst hvs hLs hH
    by_cases hn0 : n = 0
    · exact ih_zero n m hn0 hm st sv lv vs Ls w0 w L hvs hLs hH
    · have hn1 : 1 ≤ n := by omega
      have h0 : (((n : Nat) : Int) == 0) = false := by rw [beq_eq_false_iff_ne]; omega
      have hta := typ_all (g := m) hn1 hn
      obtain ⟨T, hT⟩ : ∃ T, T = Ls ++ (typ n m).map (st ++ ·) := ⟨_, rfl⟩
      rw [← hT]
      have HTB := hide (fun x (hx : x ≤ min n m) => show Ls.length + (tyP n x).length ≤ 1000 by
        have h := tyP_mono n x (min n m - x)
        rw [show x + (min n m - x) = min n m by omega, ← hta] at h
        omega)
      rw [hta] at hT
      have HT := hide hT; clear hta hT hLs
      have IH := hide ih; clear ih
      have H0 : Holds w0 w (pVals lv vs :: pInts sv st :: (L ++ rowsP vs (Ls ++ (tyP n 0).map (st ++ ·)))) := by
        have e : Ls ++ (tyP n 0).map (st ++ ·) = Ls := by unfold tyP; simp
        rw [e]; exact hH
      have hvs0 : vs.length = (Ls ++ (tyP n 0).map (st ++ ·)).length := by
        have e : Ls ++ (tyP n 0).map (st ++ ·) = Ls := by unfold tyP; simp
        rw [e]; exact hvs
      have HVS0 := hide hvs0; clear hvs0 hvs hn0
      obtain ⟨A0, c0, rfl⟩ := hH.valsForm 0 rfl
      obtain ⟨A1, c1, rfl⟩ := hH.intsForm 1 rfl
      clear hH
      go_enter Try.func52, Try.ntmps52
      go_wp2
      go_loopw [3, 9] (fun u t wr => ∃ (x : Nat) (vs : List Value), x ≤ min n m ∧ t = .int .i64 ((x : Int) + 1) ∧ vs.length = (Ls ++ (tyP n x).map (st ++ ·)).length ∧ Holds w0 wr (pVals u vs :: pInts (.slice A1 st.length c1) st :: (L ++ rowsP vs (Ls ++ (tyP n x).map (st ++ ·))))) (fun _ t _ => min n m + 1 - (intOf t).toNat)
      case atStart => exact ⟨0, vs, by omega, rfl, HVS0.out, H0⟩
      case round =>
        clear H0 HVS0
        obtain ⟨x, vs, hx, rfl, hvs, hH⟩ := hrel
        obtain ⟨A5, c5, rfl⟩ := hH.valsForm 0 rfl
        by_cases hlt : x < min n m
        · have hlt1 : (x : Int) + 1 ≤ n := by omega
          have hlt2 : (x : Int) + 1 ≤ m := by omega
          have dl1 : decide ((x : Int) + 1 ≤ n) = true := decide_eq_true hlt1
          have dl2 : decide ((x : Int) + 1 ≤ m) = true := decide_eq_true hlt2
          have hb1 := HTB.out (x + 1) (by omega)
          rw [tyP_succ, List.length_append, List.length_map] at hb1
          have hst2 := tyMap_succ n x st Ls
          have hvl : (Ls ++ (tyP n x).map (st ++ ·)).length + (typ (n - (x + 1)) (x + 1)).length ≤ 1000 := by rw [List.length_append, List.length_map]; omega
          obtain ⟨P1, hP1⟩ : ∃ P1, P1 = Ls ++ (tyP n x).map (st ++ ·) := ⟨_, rfl⟩
          rw [← hP1] at hvs hH hst2 hvl
          have ci := IH.out (n - (x + 1)) (x + 1) (by omega) (by omega) (by omega) (st ++ [x + 1])
          have e1 : ((n - (x + 1) : Nat) : Int) = (n : Int) - ((x : Int) + 1) := by omega
          have e2 : ((x + 1 : Nat) : Int) = (x : Int) + 1 := by omega
          have hsl : st.length ≤ 100000 := by omega
          have hci := fun (sv lv : Value) (w : World) (L : List Part) => ci sv lv vs P1 w0 w L (by rw [List.length_append, List.length_singleton]; omega) hvs hvl
          rw [hst2] at hci
          rw [e1, e2] at hci
          have hnx : 0 ≤ (n : Int) - ((x : Int) + 1) ∧ (n : Int) - ((x : Int) + 1) ≤ 16 := by omega
          have HCI := hide hci; clear hci ci e1 e2 hst2 hP1 hvl hvs hb1
          have co := ownCopy_any (.slice A1 st.length c1) st hsl wr (hH.at 1 rfl)
          have CO := hide co; clear co
          go_wp2_with fail
          refine CO.out.mono ?_
          rintro e w2 ⟨u2, rfl, hN⟩
          have H2 : Holds w0 w2 (pInts u2 st :: (pVals (.slice A5 vs.length c5) vs :: pInts (.slice A1 st.length c1) st :: (L ++ rowsP vs P1))) := (hH.joinL hN).perm (List.perm_append_comm (l₂ := [pInts u2 st]))
          clear hH hN CO
          obtain ⟨A6, c6, rfl⟩ := H2.intsForm 0 rfl
          have H3 := H2.rowNew #[.int .i64 ((x : Int) + 1)] 2 1 1 w2.heap.size rfl rfl (by decide)
          have H4 : Holds w0 (w2.alloc (.cells #[.int .i64 ((x : Int) + 1)] 2)) (pInts (.slice (some ⟨w2.heap.size, 0, none⟩) 1 1) [x + 1] :: pInts (.slice A6 st.length c6) st :: (pVals (.slice A5 vs.length c5) vs :: pInts (.slice A1 st.length c1) st :: (L ++ rowsP vs P1))) := by
            have hn1 : nums [x + 1] = [.int .i64 ((x : Int) + 1)] := by unfold nums; simp
            unfold pInts at H3 ⊢
            rw [hn1]
            exact H3
          clear H3 H2
          go_wp2_with (at_builtin; refine appIv H4 1 rfl (H4.at 0 rfl) (by simp; omega) rfl _ _ rfl rfl rfl ?_)
          intro v' w3 h3
          have H5 : Holds w0 w3 (pInts v' (st ++ [x + 1]) :: pVals (.slice A5 vs.length c5) vs :: pInts (.slice A1 st.length c1) st :: (L ++ rowsP vs P1)) := Holds.tail h3
          have H6 : Holds w0 w3 (pVals (.slice A5 vs.length c5) vs :: pInts v' (st ++ [x + 1]) :: ((pInts (.slice A1 st.length c1) st :: L) ++ rowsP vs P1)) := H5.perm (List.Perm.swap _ _ _)
          have CC := hide (HCI.out _ _ _ _ H6)
          clear h3 H5 H6 H4 HCI
          go_wp2_with fail
          refine CC.out.mono ?_
          rintro e w4 ⟨v4, rfl, vs4, hl4, hN4⟩
          have HL4 := hide hl4; clear hl4 CC
          obtain ⟨A7, c7, rfl⟩ := hN4.valsForm 0 rfl
          go_wp2
          go_roundw
          case rel => exact ⟨x + 1, vs4, by omega, by go_num, HL4.out, hN4⟩
          case measure => simp [intOf]; omega
        · have hxe : x = min n m := by omega
          rw [hxe, ← HT.out] at hvs hH
          have HVS := hide hvs; clear hvs
          have hH2 := hH.sub (.cons_cons _ (.cons _ (.refl _)) : (pVals (.slice A5 vs.length c5) vs :: (L ++ rowsP vs T)).Sublist _)
          clear hH hlt
          by_cases hmn : m ≤ n
          · have dl2 : decide ((x : Int) + 1 ≤ m) = false := decide_eq_false (by omega)
            have hnl : ¬ (x : Int) + 1 ≤ m := by omega
            clear hxe hmn
            go_wp2
            go_ret
            exact ⟨_, rfl, vs, HVS.out, hH2⟩
          · have dl2 : decide ((x : Int) + 1 ≤ m) = true := decide_eq_true (by omega)
            have dl1 : decide ((x : Int) + 1 ≤ n) = false := decide_eq_false (by omega)
            have hnl : (x : Int) + 1 ≤ m := by omega
            have hnl2 : ¬ (x : Int) + 1 ≤ n := by omega
            clear hxe hmn
            go_wp2
            go_ret
            exact ⟨_, rfl, vs, HVS.out, hH2⟩
end Go.Proofs.Ytlmhnimpglookaa
