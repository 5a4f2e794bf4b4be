/- IsWord of program and model; the inverse of a letter. -/
import Derived.Test.YteeideminlcblaaDoorWds
import Derived.Test.YteeideminlcblaaDoorShT
namespace Go.Proofs.YteeideminlcblaaDoor
open Go.RowKit Go.Shelf

theorem drop_empty (P : UInt8 → Bool) (l : List UInt8) : (l.dropWhile P).isEmpty = l.all P := by
  induction l with
  | nil => rfl
  | cons b l ih =>
    rw [List.dropWhile_cons, List.all_cons]
    rcases P b with _ | _
    · rfl
    · rw [if_pos rfl, ih]; rfl
theorem drop_all (P : UInt8 → Bool) (l : List UInt8) : (l.dropWhile P).all P = l.all P := by
  induction l with
  | nil => rfl
  | cons b l ih =>
    rw [List.dropWhile_cons, List.all_cons]
    rcases e : P b with _ | _
    · rw [if_neg (by simp), List.all_cons, e]
    · rw [if_pos rfl, ih]; rfl
theorem trimS_empty (s : ByteArray) : (Lib.trimS s.data.toList [120, 88, 121, 89]).isEmpty = (lts s).all isL := by
  have h2 : (lts s).all isL = s.data.toList.all ([120, 88, 121, 89].contains ·) := by
    unfold lts
    rw [List.all_map]
    congr 1
    funext b
    show isL b.toNat = ([120, 88, 121, 89].contains b : Bool)
    unfold isL
    rw [Bool.eq_iff_iff]
    simp only [List.contains_cons, List.contains_nil, Bool.or_false, Bool.or_eq_true, beq_iff_eq]
    have e : ∀ c : UInt8, b = c ↔ b.toNat = c.toNat := fun c => ⟨fun h => by rw [h], fun h => UInt8.toNat_inj.1 h⟩
    rw [e, e, e, e]
    show (((b.toNat = 120 ∨ b.toNat = 88) ∨ b.toNat = 121) ∨ b.toNat = 89) ↔ (b.toNat = 120 ∨ b.toNat = 88 ∨ b.toNat = 121 ∨ b.toNat = 89)
    omega
  rw [h2]
  unfold Lib.trimS Lib.trimLeftS Lib.trimRightS
  rw [drop_empty, List.all_reverse, drop_all, List.all_reverse]

set_option maxRecDepth 100000 in
set_option maxHeartbeats 1000000 in
theorem isWord_any (s : ByteArray) (w : World) :
    Calls Tryd.prog 9 #[.string s] w fun e w' => e = .returned (.bool (wdB s)) ∧ Below w.heap.size w w' := by
  by_cases h60 : s.size ≤ 60
  · have hd : decide ((s.size : Int) ≤ 60) = true := decide_eq_true (by omega)
    have hw : wdB s = (lts s).all isL := by unfold wdB; rw [decide_eq_true h60, Bool.true_and]
    have hcon := Any.strings_Trim_laid shN160 (by kernel_rfl) s ⟨#[120, 88, 121, 89]⟩ w (by omega) (by decide) (ascii_of_all (by decide))
    change Calls Tryd.prog 24 _ _ (fun e w' => e = .returned (.string ⟨(Lib.trimS s.data.toList [120, 88, 121, 89]).toArray⟩) ∧ Below w.heap.size w w') at hcon
    rw [hw, ← trimS_empty s]
    generalize Lib.trimS s.data.toList [120, 88, 121, 89] = r at hcon ⊢
    have hr : (ByteArray.mk r.toArray).toList = r := ByteArray.toList_mk r
    have C := hide hcon; clear hcon hw h60
    go_enter Tryd.func9, Tryd.ntmps9
    go_wp2_with fail
    refine C.out.mono ?_
    rintro e w1 ⟨rfl, hb⟩
    go_wp2
    go_ret
    exact ⟨by first | rfl | simp, hb⟩
  · have hd : decide ((s.size : Int) ≤ 60) = false := decide_eq_false (by omega)
    have hw : wdB s = false := by unfold wdB; rw [decide_eq_false h60, Bool.false_and]
    rw [hw]
    clear h60 hw
    go_enter Tryd.func9, Tryd.ntmps9
    go_wp2
    go_ret
    exact ⟨rfl, Below.refl _ _⟩
set_option maxRecDepth 100000 in
theorem l08Letter_any (c : Nat) (w : World) :
    Calls Tryd.prog 38 #[.int .u8 c] w fun e w' => e = .returned (.bool (isL c)) ∧ w = w' := by
  have h : ∀ k : Nat, ((c : Int) == (k : Int)) = (c == k) := fun k => by rw [Bool.eq_iff_iff, beq_iff_eq, beq_iff_eq]; omega
  have h1 := h 120; have h2 := h 88; have h3 := h 121; have h4 := h 89
  unfold isL
  rcases e1 : (c == 120) with _ | _ <;> rcases e2 : (c == 121) with _ | _ <;> rcases e3 : (c == 88) with _ | _ <;> rcases e4 : (c == 89) with _ | _ <;>
    (rw [e1] at h1; rw [e3] at h2; rw [e2] at h3; rw [e4] at h4
     have g1 : ((c : Int) == 120) = _ := h1
     have g2 : ((c : Int) == 88) = _ := h2
     have g3 : ((c : Int) == 121) = _ := h3
     have g4 : ((c : Int) == 89) = _ := h4
     clear h1 h2 h3 h4 h e1 e2 e3 e4
     go_enter Tryd.func38, Tryd.ntmps38
     go_wp2
     go_ret
     exact ⟨rfl, rfl⟩)
set_option maxRecDepth 100000 in
set_option maxHeartbeats 1000000 in
theorem l08Word_any (s : ByteArray) (hs : s.size ≤ 9223372036854775807) (w : World) :
    Calls Tryd.prog 23 #[.string s] w fun e w' => e = .returned (.bool (wdB s)) ∧ Below w.heap.size w w' := by
  obtain ⟨R, hR⟩ : ∃ R, R = wdB s := ⟨_, rfl⟩
  rw [← hR]
  have H0 := Holds.start w
  have HNO := hide (fun (i : Nat) (hi : i < s.size) (h : isL ((s[i]'hi).toNat) = false) => show R = false by
    rw [hR]
    rcases e : wdB s with _ | _
    · rfl
    · rw [wdB_at e hi] at h; cases h)
  have HYES := hide (fun (h : ∀ i (hi : i < s.size), isL ((s[i]'hi).toNat) = true) => show R = decide ((s.size : Int) ≤ 60) by
    rw [hR]
    unfold wdB
    have : (lts s).all isL = true := by
      rw [List.all_eq_true]
      intro x hx
      obtain ⟨i, hi, rfl⟩ := List.getElem_of_mem hx
      have hi' : i < s.size := by rwa [lts_length] at hi
      rw [lts_get s hi']; exact h i hi'
    rw [this, Bool.and_true]
    by_cases c : s.size ≤ 60
    · rw [decide_eq_true c, decide_eq_true (by omega)]
    · rw [decide_eq_false c, decide_eq_false (by omega)])
  clear hR
  go_enter Tryd.func23, Tryd.ntmps23
  go_wp2
  go_loopw [3] (fun t wr => ∃ i : Nat, i ≤ s.size ∧ t = .int .i64 i ∧ (∀ j (hj : j < s.size), j < i → isL ((s[j]'hj).toNat) = true) ∧ Holds w wr []) (fun t _ => s.size - (intOf t).toNat)
  case atStart => exact ⟨0, Nat.zero_le _, rfl, fun j hj h => absurd h (Nat.not_lt_zero j), H0⟩
  case round =>
    clear H0
    obtain ⟨i, hi, rfl, hok, hH⟩ := hrel
    have HOK := hide hok; clear hok
    by_cases hlt : i < s.size
    · have hlti : (i : Int) < (s.size : Int) := by omega
      have hlti2 : (i : Int).toNat < s.size := by omega
      obtain ⟨c, hc⟩ : ∃ c, c = (s[i]'hlt).toNat := ⟨_, rfl⟩
      have hix : ∀ wx, (Instr.index 9 (.string s) (.int .i64 (i : Int))).run Tryd.prog wx = .ok (.int .u8 (c : Nat)) wx := fun wx => by
        rw [run_index_string wx 9 s .i64 i Tryd.underlying9, dif_pos ⟨by omega, by omega⟩, hc]
        rfl
      have CL := hide fun w => l08Letter_any c w
      rcases hl : isL c with _ | _
      · have hr := HNO.out i hlt (by rw [← hc]; exact hl)
        subst hr
        rw [hl] at CL
        clear hc hl
        go_wp2_with fail
        refine (CL.out _).mono ?_
        rintro e w1 ⟨rfl, rfl⟩
        go_wp2
        go_ret
        exact ⟨rfl, hH.low⟩
      · rw [hl] at CL
        have HC := hide (show isL ((s[i]'hlt).toNat) = true by rw [← hc]; exact hl)
        clear hc hl
        go_wp2_with fail
        refine (CL.out _).mono ?_
        rintro e w1 ⟨rfl, rfl⟩
        go_wp2
        go_roundw
        case rel => exact ⟨i + 1, by omega, by go_num, fun j hj hji => by
          rcases Nat.lt_or_ge j i with q | q
          · exact HOK.out j hj q
          · obtain rfl : j = i := by omega
            exact HC.out, hH⟩
        case measure => simp [intOf]; omega
    · obtain rfl : i = s.size := by omega
      have hr := HYES.out fun j hj => HOK.out j hj hj
      have HR := hide hr; clear hr hlt hi
      go_wp2
      go_ret
      exact ⟨by first | rfl | (rw [HR.out]; rfl), hH.low⟩
set_option maxRecDepth 100000 in
theorem sIsWord_any (s : ByteArray) (hs : s.size ≤ 9223372036854775807) (w : World) :
    Calls Tryd.prog 8 #[.string s] w fun e w' => e = .returned (.bool (wdB s)) ∧ Below w.heap.size w w' := by
  have C := hide (l08Word_any s hs w)
  clear hs
  generalize wdB s = R at *
  go_enter Tryd.func8, Tryd.ntmps8
  go_wp2_with fail
  refine C.out.mono ?_
  rintro e w1 ⟨rfl, h⟩
  go_wp2
  go_ret
  exact ⟨rfl, h⟩
set_option maxRecDepth 100000 in
set_option maxHeartbeats 1000000 in
theorem fnExactIsWord_walk (s : ByteArray) {HW : Prop} (_hw : HW) (w : World) :
    Calls Tryd.prog 3 #[.string s] w fun e w' => e = .returned (.bool true) ∧ Below w.heap.size w w' := by
  clear _hw
  by_cases hbig : (s.size : Int) > 1048576
  · have hgt : decide ((1048576 : Int) < (s.size : Int)) = true := decide_eq_true hbig
    go_enter Tryd.func3, Tryd.ntmps3
    go_wp2
    go_ret
    exact ⟨rfl, Below.refl _ _⟩
  have hgt : decide ((1048576 : Int) < (s.size : Int)) = false := decide_eq_false hbig
  have C1 := hide fun w => isWord_any s w
  have C2 := hide fun w => sIsWord_any s (by omega) w
  have H0 := Holds.start w
  clear hbig
  generalize wdB s = R at *
  have hne : (R != R) = false := by simp
  go_enter Tryd.func3, Tryd.ntmps3
  go_wp2_with fail
  refine (C2.out _).mono ?_
  rintro e w1 ⟨rfl, h1⟩
  have H1 := H0.call h1
  clear h1
  go_wp2_with fail
  refine (C1.out _).mono ?_
  rintro e w2 ⟨rfl, h2⟩
  have H2 := H1.call h2
  clear h2
  go_wp2
  go_ret
  exact ⟨rfl, H2.low⟩
end Go.Proofs.YteeideminlcblaaDoor
