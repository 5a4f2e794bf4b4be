/- Inverse words of program and model. -/
import Derived.Test.YteeideminlcblaaDoorRdw
namespace Go.Proofs.YteeideminlcblaaDoor
open Go.RowKit

set_option maxRecDepth 100000 in
set_option maxHeartbeats 1000000 in
theorem inverseWord_any (s : ByteArray) (hs : s.size ≤ 100000) (hl : ∀ x ∈ lts s, isL x = true) (w : World) :
    Calls Tryd.prog 28 #[.string s] w fun e w' => e = .returned (.string (mkS (invW (lts s)))) ∧ Below w.heap.size w w' := by
  obtain ⟨F, F0, FS, FE⟩ : ∃ F : Nat → List Nat, Hid (F s.size = []) ∧ Hid (∀ k (h : k < s.size), F k = F (k + 1) ++ [invL (s[k]'h).toNat]) ∧ Hid (invW (lts s) = F 0 ∧ (∀ k, (F k).length ≤ s.size) ∧ ∀ x ∈ F 0, isL x = true) :=
    ⟨invK (lts s), hide (by rw [← lts_length s]; exact invK_end _), hide fun k h => by rw [invK_step (lts s) (by rw [lts_length]; exact h), lts_get s h], hide ⟨(invK_zero _).symm, fun k => by rw [invK_len, lts_length]; omega, by rw [invK_zero]; exact invW_all _⟩⟩
  have HLS := hide (fun (i : Nat) (hi : i < s.size) => show isL ((s[i]'hi).toNat) = true by rw [← lts_get s hi]; exact hl _ (List.getElem_mem _))
  clear hl
  rw [FE.out.1]
  have H1 : Holds w w (pBs (.slice none 0 0) [] :: _) := (Holds.start w).nilRow 5 1
  have wn : wrap64 ((s.size : Int) - 1) = (s.size : Int) - 1 := by unfold wrap64; omega
  go_enter Tryd.func28, Tryd.ntmps28
  go_wp2
  go_loopw [3, 4] (fun q t wr => ∃ k : Nat, k ≤ s.size ∧ t = .int .i64 ((k : Int) - 1) ∧ Holds w wr [pBs q (F k)]) (fun _ t _ => (intOf t + 1).toNat)
  case atStart => exact ⟨s.size, Nat.le_refl _, rfl, by rw [F0.out]; exact H1⟩
  case round =>
    clear H1 wn
    obtain ⟨k, hk, rfl, hH⟩ := hrel
    rcases Nat.eq_zero_or_pos k with k0 | k0
    · subst k0
      have d0 : decide ((0 : Int) ≤ ((0 : Nat) : Int) - 1) = false := by decide
      have d1 : decide ((0 : Int) ≤ -1) = false := by decide
      have hcs := hH.bsStr 0 rfl (fun x hx => by have := isL_cases (FE.out.2.2 x hx); omega)
      go_wp2
      go_ret
      exact ⟨rfl, hH.low⟩
    · obtain ⟨i, rfl⟩ : ∃ i, k = i + 1 := ⟨k - 1, by omega⟩
      have hlt : i < s.size := by omega
      have hst := FS.out i hlt
      have hix := letU8 s hlt
      have hlen := FE.out.2.1 (i + 1)
      have hki : ((i + 1 : Nat) : Int) - 1 = (i : Int) := by omega
      have d0 : decide ((0 : Int) ≤ (i : Int)) = true := decide_eq_true (by omega)
      rw [hki]
      obtain ⟨c, hc⟩ : ∃ c, c = (s[i]'hlt).toNat := ⟨_, rfl⟩
      have hLc := HLS.out i hlt
      rw [← hc] at hst hLc hix
      have CI := hide fun w => inverseLetter_any c hLc w
      clear hc
      have HST := hide hst; clear hst
      generalize F (i + 1) = K at *
      obtain ⟨A0, cp, rfl⟩ := hH.bsForm 0 rfl
      generalize invL c = y at *
      have wi : wrap64 ((i : Int) - 1) = (i : Int) - 1 := by unfold wrap64; omega
      have hme : ((i : Int) - 1 + 1).toNat < ((i : Int) + 1).toNat := by omega
      clear hki
      go_wp2_with fail
      refine (CI.out _).mono ?_
      rintro e w1 ⟨rfl, rfl⟩
      go_wp2_with (at_builtin; refine appBs (hH.alloc _) 0 rfl wr.heap.size [y] 5 ?_ ?_ rfl _ _ rfl rfl rfl ?_)
      · exact heap_at _ _ _ (by simp)
      · simp only [List.length_cons, List.length_nil]; omega
      intro v' w' h1
      go_wp2
      go_roundw
      case rel => exact ⟨i, by omega, by first | rfl | go_num, by rw [HST.out]; exact h1⟩
      case measure => first | (simp [intOf]; done) | (simp [intOf]; exact hme) | (simp [intOf]; omega)
set_option maxRecDepth 100000 in
set_option maxHeartbeats 1000000 in
theorem l08Inverse_any (s : ByteArray) (hs : s.size ≤ 100000) (w : World) :
    Calls Tryd.prog 27 #[.string s] w fun e w' => e = .returned (.string (mkS (invW (lts s)))) ∧ Below w.heap.size w w' := by
  obtain ⟨F, F0, FS, FE⟩ : ∃ F : Nat → List Nat, Hid (F s.size = []) ∧ Hid (∀ k (h : k < s.size), F k = F (k + 1) ++ [invL (s[k]'h).toNat]) ∧ Hid (invW (lts s) = F 0 ∧ (∀ k, (F k).length ≤ s.size) ∧ ∀ x ∈ F 0, isL x = true) :=
    ⟨invK (lts s), hide (by rw [← lts_length s]; exact invK_end _), hide fun k h => by rw [invK_step (lts s) (by rw [lts_length]; exact h), lts_get s h], hide ⟨(invK_zero _).symm, fun k => by rw [invK_len, lts_length]; omega, by rw [invK_zero]; exact invW_all _⟩⟩
  rw [FE.out.1]
  have H1 : Holds w _ (pBs (.slice (some ⟨w.heap.size, 0, none⟩) 0 0) [] :: _) := (Holds.start w).rowNew #[] 5 1 0 w.heap.size rfl rfl (by decide)
  have wn : wrap64 ((s.size : Int) - 1) = (s.size : Int) - 1 := by unfold wrap64; omega
  go_enter Tryd.func27, Tryd.ntmps27
  go_wp2
  go_loopw [3, 4] (fun q t wr => ∃ k : Nat, k ≤ s.size ∧ t = .int .i64 ((k : Int) - 1) ∧ Holds w wr [pBs q (F k)]) (fun _ t _ => (intOf t + 1).toNat)
  case atStart => exact ⟨s.size, Nat.le_refl _, rfl, by rw [F0.out]; exact H1⟩
  case round =>
    clear H1 wn
    obtain ⟨k, hk, rfl, hH⟩ := hrel
    rcases Nat.eq_zero_or_pos k with k0 | k0
    · subst k0
      have d0 : decide ((0 : Int) ≤ ((0 : Nat) : Int) - 1) = false := by decide
      have d1 : decide ((0 : Int) ≤ -1) = false := by decide
      have hcs := hH.bsStr 0 rfl (fun x hx => by have := isL_cases (FE.out.2.2 x hx); omega)
      go_wp2
      go_ret
      exact ⟨rfl, hH.low⟩
    · obtain ⟨i, rfl⟩ : ∃ i, k = i + 1 := ⟨k - 1, by omega⟩
      have hlt : i < s.size := by omega
      have hst := FS.out i hlt
      have hix := letU8 s hlt
      have hlen := FE.out.2.1 (i + 1)
      have hki : ((i + 1 : Nat) : Int) - 1 = (i : Int) := by omega
      have d0 : decide ((0 : Int) ≤ (i : Int)) = true := decide_eq_true (by omega)
      rw [hki]
      obtain ⟨c, hc⟩ : ∃ c, c = (s[i]'hlt).toNat := ⟨_, rfl⟩
      rw [← hc] at hst hix
      have CI := hide fun w => l08Other_any c w
      clear hc
      have HST := hide hst; clear hst
      generalize F (i + 1) = K at *
      obtain ⟨A0, cp, rfl⟩ := hH.bsForm 0 rfl
      generalize invL c = y at *
      have wi : wrap64 ((i : Int) - 1) = (i : Int) - 1 := by unfold wrap64; omega
      have hme : ((i : Int) - 1 + 1).toNat < ((i : Int) + 1).toNat := by omega
      clear hki
      go_wp2_with fail
      refine (CI.out _).mono ?_
      rintro e w1 ⟨rfl, rfl⟩
      go_wp2_with (at_builtin; refine appBs (hH.alloc _) 0 rfl wr.heap.size [y] 5 ?_ ?_ rfl _ _ rfl rfl rfl ?_)
      · exact heap_at _ _ _ (by simp)
      · simp only [List.length_cons, List.length_nil]; omega
      intro v' w' h1
      go_wp2
      go_roundw
      case rel => exact ⟨i, by omega, by first | rfl | go_num, by rw [HST.out]; exact h1⟩
      case measure => first | (simp [intOf]; done) | (simp [intOf]; exact hme) | (simp [intOf]; omega)
end Go.Proofs.YteeideminlcblaaDoor
