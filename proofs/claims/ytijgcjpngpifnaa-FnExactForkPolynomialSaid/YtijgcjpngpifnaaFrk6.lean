/- Forks. -/
import Derived.Test.YtijgcjpngpifnaaVal7
import Derived.Test.YtijgcjpngpifnaaSta6
import Derived.Test.YtijgcjpngpifnaaMd
namespace Go.Proofs.Ytijgcjpngpifnaa
open Go.RowKit

theorem frk_all : ((List.range 17).all fun m => (List.range 17).all fun n => decide (m = 0 ∨ n = 0 ∨ 16 < m + n) || (decide (timesL (powL [0, 1] m) (powL [1, 10006] n) = itmL m n) && decide (valL (itmL m n) (topN m n) ≠ 0))) = true := by decide +kernel
theorem frk_at {m n : Nat} (h1 : 1 ≤ m) (h2 : 1 ≤ n) (h3 : m + n ≤ 16) : timesL (powL [0, 1] m) (powL [1, 10006] n) = itmL m n ∧ valL (itmL m n) (topN m n) ≠ 0 := by
  have h := List.all_eq_true.1 (List.all_eq_true.1 frk_all m (List.mem_range.2 (by omega))) n (List.mem_range.2 (by omega))
  rw [Bool.or_eq_true, Bool.and_eq_true] at h
  rcases h with h | ⟨h4, h5⟩
  · have := of_decide_eq_true h
    omega
  · exact ⟨of_decide_eq_true h4, of_decide_eq_true h5⟩
theorem po16 : Po [1, 10006] := fun x hx => by simp at hx; omega
theorem itm_ok (m : Nat) : ∀ n, Po (itmL m n) ∧ Lz (itmL m n) ∧ (itmL m n).length = m + n + 1
  | 0 => ⟨fun x hx => by
      rcases List.mem_append.1 hx with k | k
      · rw [(List.mem_replicate.1 k).2]; decide
      · rw [List.mem_singleton.1 k]; decide, .inr (by
      have e : nth (monL m) m = 1 := by
        have := nth_append_right (List.replicate m 0) [1] 0
        rw [List.length_replicate, Nat.add_zero] at this
        exact this
      show nth (monL m) ((monL m).length - 1) ≠ 0
      rw [monL_length, Nat.add_sub_cancel, e]; decide), monL_length m⟩
  | n + 1 => by
    obtain ⟨h1, h2, h3⟩ := itm_ok m n
    have h4 : itmL m n ≠ [] := List.length_pos_iff.1 (by omega)
    have h5 := timesL_length h4 (show [1, 10006] ≠ [] by simp)
    refine ⟨timesL_po _ _, timesL_lz h1 po16 h2 (.inr (by decide)), ?_⟩
    show (timesL (itmL m n) [1, 10006]).length = _
    rw [h5, h3]
    simp only [List.length_cons, List.length_nil]
    omega
def frkG (x y : Int) : Prop := (1 ≤ x ∧ x ≤ 16) ∧ (1 ≤ y ∧ y ≤ 16) ∧ x + y ≤ 16
instance (x y : Int) : Decidable (frkG x y) := by unfold frkG; exact inferInstance
def frkR (x y : Int) : List Nat := if frkG x y then frkL x.toNat y.toNat else []
def frkC (x y : Int) : Int := if frkG x y then 0 else 2
theorem frkL_length {m n : Nat} : (frkL m n).length ≤ m + n + 1 := by
  unfold frkL
  have := timesL_len (itmL m n) [invN (valL (itmL m n) (topN m n))]
  have h := (itm_ok m n).2.2
  simp only [List.length_singleton] at this
  omega
theorem frkR_bd (x y : Int) : (frkR x y).length ≤ 1000000 := by
  unfold frkR
  split
  · rename_i h
    have := frkL_length (m := x.toNat) (n := y.toNat)
    unfold frkG at h
    omega
  · decide
theorem frk_scale {m n : Nat} (h1 : 1 ≤ m) (h2 : 1 ≤ n) (h3 : m + n ≤ 16) : frkL m n = addL [] (itmL m n) (invN (valL (itmL m n) (topN m n)) : Nat) := by
  have h4 := (frk_at h1 h2 h3).2
  obtain ⟨h5, h6, _⟩ := itm_ok m n
  exact scale_addL h5 h6 (invN_lt _) (invN_pos (Nat.pos_of_ne_zero h4) (hornL_lt _ _ _))
set_option maxRecDepth 100000 in
set_option maxHeartbeats 2000000 in
theorem forkPolynomial_any (x0 x1 : Int) (_hx0 : -9223372036854775808 ≤ x0 ∧ x0 ≤ 9223372036854775807) (_hx1 : -9223372036854775808 ≤ x1 ∧ x1 ≤ 9223372036854775807) (w : World) :
    Calls Try.prog 36 #[.int .i64 x0, .int .i64 x1] w fun e w' => ∃ v, e = .returned (.tuple #[v, .int .i64 (frkC x0 x1)]) ∧ Below w.heap.size w w' ∧ Own1 w.heap.size w' v (frkR x0 x1) := by
  clear _hx0 _hx1
  have CA := fun w => isPower_any x0 w
  have CB := fun w => isPower_any x1 w
  have HNIL := hide (show Holds w w [pInts (.slice none 0 0) []] from (Holds.start w).nilRow 2 1)
  by_cases p0 : 1 ≤ x0 ∧ x0 ≤ 16
  · simp only [decide_eq_true p0] at CA
    by_cases p1 : 1 ≤ x1 ∧ x1 ≤ 16
    · simp only [decide_eq_true p1] at CB
      by_cases p2 : x0 + x1 ≤ 16
      · have hg : frkG x0 x1 := ⟨p0, p1, p2⟩
        rw [show frkC x0 x1 = 0 from if_pos hg, show frkR x0 x1 = frkL x0.toNat x1.toNat from if_pos hg]
        obtain ⟨m, rfl⟩ := Int.eq_ofNat_of_zero_le (show 0 ≤ x0 by omega)
        obtain ⟨n, rfl⟩ := Int.eq_ofNat_of_zero_le (show 0 ≤ x1 by omega)
        rw [Int.toNat_natCast, Int.toNat_natCast]
        have hm : 1 ≤ m := by omega
        have hn : 1 ≤ n := by omega
        have hmn : m + n ≤ 16 := by omega
        obtain ⟨s, hs⟩ : ∃ s, s = m + n := ⟨_, rfl⟩
        have hsum : (m : Int) + (n : Int) = (s : Int) := by omega
        have d0 : decide ((16 : Int) < (s : Int)) = false := decide_eq_false (by omega)
        have hm16 : ¬ 16 < s := by omega
        have hs16 : s ≤ 16 := by omega
        clear p0 p1 p2 hg
        have CA' := hide CA; clear CA
        have CB' := hide CB; clear CB
        obtain ⟨hprod, hvne⟩ := frk_at hm hn hmn
        obtain ⟨i1, i2, i3⟩ := itm_ok m n
        have htop : m * invN (m + n) % 10007 = topN m n := rfl
        have htl : topN m n < 10007 := Nat.mod_lt _ (by decide)
        have hvl : valL (itmL m n) (topN m n) < 10007 := hornL_lt _ _ _
        rw [← hs] at htop
        have hres : timesL (itmL m n) [invN (valL (itmL m n) (topN m n))] = frkL m n := rfl
        have hfl := frkL_length (m := m) (n := n)
        have hpw : ∀ k, (powL [0, 1] k).length ≤ k + 1 ∧ (powL [1, 10006] k).length ≤ k + 1 ∧ Po (powL [0, 1] k) ∧ Po (powL [1, 10006] k) := fun k => by
          induction k with
          | zero => exact ⟨by decide, by decide, one_po (by decide), one_po (by decide)⟩
          | succ k ih =>
            have a := timesL_len (powL [0, 1] k) [0, 1]
            have b := timesL_len (powL [1, 10006] k) [1, 10006]
            simp only [List.length_cons, List.length_nil] at a b
            exact ⟨by show (timesL (powL [0, 1] k) [0, 1]).length ≤ _; omega, by show (timesL (powL [1, 10006] k) [1, 10006]).length ≤ _; omega, timesL_po _ _, timesL_po _ _⟩
        have PW1 := (hpw m).1
        have PW2 := (hpw n).2.1
        have PW3 := (hpw m).2.2.1
        have PW4 := (hpw n).2.2.2
        clear hpw
        have H1 := (Holds.start w).poNew #[.int .i64 ((0 : Nat) : Int), .int .i64 ((1 : Nat) : Int)] 42 [0, 1] (by simp) w.heap.size 2 rfl rfl (two_cells 0 1)
        have C1 := hide (power6_any _ [0, 1] (fun x hx => by simp at hx; omega) m (by omega) (by simp) _ (H1.poRd 0 rfl))
        have CN : ∀ w, Calls Try.prog 65 #[.int .i64 1] w fun e w' => e = .returned (.int .i64 10006) ∧ w = w' := fun w => resNeg_any 1 (by decide) w
        replace CN := hide CN
        have C2 := hide fun (r : Value) (w1 : World) (h : RdN w1 r [1, 10006]) => power6_any r [1, 10006] po16 n (by omega) (by simp) w1 h
        have C3 := fun (r s : Value) (w1 : World) (h : RdN w1 r (powL [0, 1] m)) (k : RdN w1 s (powL [1, 10006] n)) => times6_any r s _ _ PW3 PW4 (by omega) (by omega) w1 h k
        rw [hprod] at C3
        replace C3 := hide C3
        have C4 := hide (resInv_any s (by omega))
        have C5 := resTimes_any m (invN s) (by omega) (invN_lt _)
        rw [htop] at C5
        replace C5 := hide C5
        have C6 := hide fun (r : Value) (w1 : World) (h : RdN w1 r (itmL m n)) => at6_any r (itmL m n) i1 (by omega) (topN m n) htl w1 h
        have C7 := hide (resInv_any (valL (itmL m n) (topN m n)) hvl)
        have C8 := fun (r : Value) (w1 : World) (h : RdN w1 r (itmL m n)) => scaled6_any r (itmL m n) i1 (by omega) (invN (valL (itmL m n) (topN m n))) (invN_lt _) w1 h
        rw [hres] at C8
        replace C8 := hide C8
        have hf17 : (frkL m n).length ≤ 17 := by omega
        clear hprod hvne i1 i2 i3 htop htl hvl hres hfl PW1 PW2 PW3 PW4 hm hn hmn hs
        replace H1 := hide H1
        generalize frkL m n = FR at *
        generalize itmL m n = IT at *
        generalize topN m n = TP at *
        generalize valL IT TP = VA at *
        go_enter Try.func36, Try.ntmps36
        go_wp2_with fail
        refine (CA'.out _).mono ?_
        rintro e w1 ⟨rfl, rfl⟩
        go_wp2_with fail
        refine (CB'.out _).mono ?_
        rintro e w1 ⟨rfl, rfl⟩
        go_wp2_with fail
        refine (C1.out).mono ?_
        rintro e w2 ⟨r1, rfl, k1⟩
        have K1 := H1.out.joinA k1
        clear k1
        go_wp2_with fail
        refine (CN.out _).mono ?_
        rintro e w3 ⟨rfl, rfl⟩
        have K2 := K1.poNew #[.int .i64 ((1 : Nat) : Int), .int .i64 ((10006 : Nat) : Int)] 42 [1, 10006] (by simp) w2.heap.size 2 rfl rfl (two_cells 1 10006)
        clear K1
        go_wp2_with fail
        refine (C2.out _ _ (K2.poRd 0 rfl)).mono ?_
        rintro e w4 ⟨r2, rfl, k2⟩
        have K3 := K2.joinA k2
        clear k2 K2
        go_wp2_with fail
        refine (C3.out r1 r2 w4 (K3.poRd 2 rfl) (K3.poRd 0 rfl)).mono ?_
        rintro e w5 ⟨r3, rfl, k3⟩
        have K4 := K3.joinA k3
        clear k3 K3
        go_wp2_with fail
        refine (C4.out _).mono ?_
        rintro e w6 ⟨rfl, rfl⟩
        go_wp2_with fail
        refine (C5.out _).mono ?_
        rintro e w6 ⟨rfl, rfl⟩
        go_wp2_with fail
        refine (C6.out r3 w5 (K4.poRd 0 rfl)).mono ?_
        rintro e w7 ⟨rfl, hb⟩
        have K5 := K4.call hb
        clear hb K4
        go_wp2_with fail
        refine (C7.out _).mono ?_
        rintro e w8 ⟨rfl, rfl⟩
        go_wp2_with fail
        refine (C8.out r3 w7 (K5.poRd 0 rfl)).mono ?_
        rintro e w8 ⟨r4, rfl, k4⟩
        have K6 := (K5.joinA k4).sub (List.cons_sublist_cons.2 (List.nil_sublist _))
        clear k4 K5
        have CN := hide (numbers_any _ (FR) (by omega) _ (K6.poRd 0 rfl))
        go_wp2_with fail
        refine (CN.out).mono ?_
        rintro e w9 ⟨r9, rfl, k9⟩
        have K9 := (K6.joinA k9).sub (List.cons_sublist_cons.2 (List.nil_sublist _))
        have k10 : Holds w w9 [pInts r9 (FR)] := K9
        have K10 := hide k10; clear k10 K9 k9
        go_wp2
        go_ret2
        exact ⟨_, rfl, K10.out.low, K10.out.own1 0 rfl⟩
      · have hg : ¬ frkG x0 x1 := fun h => p2 h.2.2
        rw [show frkC x0 x1 = 2 from if_neg hg, show frkR x0 x1 = [] from if_neg hg]
        have d0 : decide ((16 : Int) < x0 + x1) = true := decide_eq_true (by omega)
        have hb : x0 + x1 ≤ 32 ∧ 0 ≤ x0 + x1 := by omega
        obtain ⟨hb1, hb2⟩ := hb
        clear p0 p1 p2 hg
        have CA' := hide CA; clear CA
        have CB' := hide CB; clear CB
        go_enter Try.func36, Try.ntmps36
        go_wp2_with fail
        refine (CA'.out _).mono ?_
        rintro e w1 ⟨rfl, rfl⟩
        go_wp2_with fail
        refine (CB'.out _).mono ?_
        rintro e w1 ⟨rfl, rfl⟩
        go_wp2
        go_ret2
        exact ⟨_, rfl, Below.refl _ _, HNIL.out.own1 0 rfl⟩
    · simp only [decide_eq_false p1] at CB
      have hg : ¬ frkG x0 x1 := fun h => p1 h.2.1
      rw [show frkC x0 x1 = 2 from if_neg hg, show frkR x0 x1 = [] from if_neg hg]
      clear p0 p1 hg
      have CA' := hide CA; clear CA
      have CB' := hide CB; clear CB
      go_enter Try.func36, Try.ntmps36
      go_wp2_with fail
      refine (CA'.out _).mono ?_
      rintro e w1 ⟨rfl, rfl⟩
      go_wp2_with fail
      refine (CB'.out _).mono ?_
      rintro e w1 ⟨rfl, rfl⟩
      go_wp2
      go_ret2
      exact ⟨_, rfl, Below.refl _ _, HNIL.out.own1 0 rfl⟩
  · simp only [decide_eq_false p0] at CA
    have hg : ¬ frkG x0 x1 := fun h => p0 h.1
    rw [show frkC x0 x1 = 2 from if_neg hg, show frkR x0 x1 = [] from if_neg hg]
    clear p0 hg CB
    have CA' := hide CA; clear CA
    go_enter Try.func36, Try.ntmps36
    go_wp2_with fail
    refine (CA'.out _).mono ?_
    rintro e w1 ⟨rfl, rfl⟩
    go_wp2
    go_ret2
    exact ⟨_, rfl, Below.refl _ _, HNIL.out.own1 0 rfl⟩
set_option maxRecDepth 100000 in
set_option maxHeartbeats 2000000 in
theorem sFork6_any (m n : Nat) (hm : 1 ≤ m) (hn : 1 ≤ n) (hmn : m + n ≤ 16) (w : World) :
    Calls Try.prog 66 #[.int .i64 (m : Nat), .int .i64 (n : Nat)] w fun e w' => ∃ r, e = .returned r ∧ Holds w w' [pInts r (frkL m n)] := by
  rw [frk_scale hm hn hmn]
  have htop : m * invN (m + n) % 10007 = topN m n := rfl
  have htl : topN m n < 10007 := Nat.mod_lt _ (by decide)
  have hvl : valL (itmL m n) (topN m n) < 10007 := hornL_lt _ _ _
  obtain ⟨s, hs⟩ : ∃ s, s = m + n := ⟨_, rfl⟩
  have hsum : (m : Int) + (n : Int) = (s : Int) := by omega
  have hs16 : s ≤ 16 := by omega
  rw [← hs] at htop
  have OK := hide (itm_ok m)
  have CM := hide (sMon6_any m (by omega) w)
  have CT := hide sTimes6_any
  have CI := hide (sInv_any s (by omega))
  have CU := sMul_any m (invN s) (by omega) (invN_lt _)
  rw [htop] at CU
  replace CU := hide CU
  have CV := hide fun (r : Value) (w1 : World) (h : RdN w1 r (itmL m n)) => sVal6_any r (itmL m n) (OK.out n).1 (by have := (OK.out n).2.2; omega) (topN m n) htl w1 h
  have CJ := hide (sInv_any (valL (itmL m n) (topN m n)) hvl)
  have CA := hide fun (r : Value) (w1 : World) (h : RdN w1 r (itmL m n)) => sAdd6_any (.slice none 0 0) r [] (itmL m n) (invN (valL (itmL m n) (topN m n)) : Nat) (by have := invN_lt (valL (itmL m n) (topN m n)); omega) Po.nil (OK.out n).1 (by simp) (by have := (OK.out n).2.2; omega) w1 (RdN.nil w1 0) h
  obtain ⟨b1, b2⟩ := mul_bds m (invN s) (by omega) (invN_lt _)
  have hm0 : ∀ k, itmL m (k + 1) = timesL (itmL m k) [1, 10006] := fun _ => rfl
  have HM0 := hide hm0; clear hm0 htop htl hvl
  generalize topN m n = TP at *
  obtain ⟨VA, hVA⟩ : ∃ VA, VA = valL (itmL m n) TP := ⟨_, rfl⟩
  rw [← hVA] at CV CJ CA ⊢
  clear hVA
  generalize invN s = IV at *
  have HS := hide hs; clear hs
  go_enter Try.func66, Try.ntmps66
  go_wp2_with fail
  refine CM.out.mono ?_
  rintro e w1 ⟨r0, rfl, k0⟩
  have H0 : Holds w w1 [pInts r0 (itmL m 0)] := k0
  clear k0
  go_wp2
  go_loopw [5, 6] (fun s t wr => ∃ k : Nat, k ≤ n ∧ t = .int .i64 k ∧ Holds w wr [pInts s (itmL m k)]) (fun _ t _ => n - (intOf t).toNat)
  case atStart => exact ⟨0, Nat.zero_le _, rfl, H0⟩
  case round =>
    clear H0
    obtain ⟨k, hk, rfl, hH⟩ := hrel
    by_cases hlt : k < n
    · obtain ⟨q1, q2, q3⟩ := OK.out k
      have h2 : Holds w (wr.alloc (.cells #[.int .i64 ((1 : Nat) : Int), .int .i64 ((10006 : Nat) : Int)] 2)) [pInts (.slice (some ⟨wr.heap.size, 0, none⟩) 2 2) [1, 10006], pInts u5 (itmL m k)] := hH.rowNew #[.int .i64 ((1 : Nat) : Int), .int .i64 ((10006 : Nat) : Int)] 2 1 2 wr.heap.size rfl rfl (by decide)
      have c1 := CT.out u5 _ (itmL m k) [1, 10006] q1 q2 po16 (.inr (by decide)) (by omega) (by simp) _ (h2.intsRd 1 rfl (by omega)) (h2.intsRd 0 rfl (by simp))
      rw [← HM0.out] at c1
      replace c1 := hide c1
      have HH := hide h2; clear h2 hH q1 q2 q3
      go_wp2_with fail
      refine c1.out.mono ?_
      rintro e w2 ⟨r, rfl, k1⟩
      have K1 : Holds w w2 [pInts r (itmL m (k + 1))] := (HH.out.joinA k1).sub (List.cons_sublist_cons.2 (List.nil_sublist _))
      have H3 := hide K1; clear K1 k1
      go_wp2
      go_roundw
      case rel => exact ⟨k + 1, by omega, by go_num, H3.out⟩
      case measure => simp [intOf]; omega
    · obtain rfl : k = n := by omega
      have hi3 := (OK.out k).2.2
      have hl17 : (itmL m k).length ≤ 17 := by omega
      clear hlt hk hi3
      go_wp2_with fail
      refine (CI.out _).mono ?_
      rintro e w2 ⟨rfl, rfl⟩
      go_wp2_with fail
      refine (CU.out _).mono ?_
      rintro e w2 ⟨rfl, rfl⟩
      go_wp2_with fail
      refine (CV.out _ _ (hH.intsRd 0 rfl (by omega))).mono ?_
      rintro e w2 ⟨rfl, rfl⟩
      go_wp2_with fail
      refine (CJ.out _).mono ?_
      rintro e w2 ⟨rfl, rfl⟩
      go_wp2_with fail
      refine (CA.out _ _ (hH.intsRd 0 rfl (by omega))).mono ?_
      rintro e w2 ⟨r, rfl, k1⟩
      have K1 := (hH.joinA k1).sub (List.cons_sublist_cons.2 (List.nil_sublist _))
      have H3 := hide K1; clear K1 k1 hH
      go_wp2
      go_ret
      exact ⟨_, rfl, H3.out⟩
set_option maxRecDepth 100000 in
set_option maxHeartbeats 2000000 in
theorem sForkPolynomial_any (x0 x1 : Int) (_hx0 : -9223372036854775808 ≤ x0 ∧ x0 ≤ 9223372036854775807) (_hx1 : -9223372036854775808 ≤ x1 ∧ x1 ≤ 9223372036854775807) (w : World) :
    Calls Try.prog 35 #[.int .i64 x0, .int .i64 x1] w fun e w' => ∃ v, e = .returned (.tuple #[v, .int .i64 (frkC x0 x1)]) ∧ Below w.heap.size w w' ∧ Own1 w.heap.size w' v (frkR x0 x1) := by
  clear _hx0 _hx1
  have CA := fun w => in_any x0 1 16 w
  have CB := fun w => in_any x1 1 16 w
  have HNIL := hide (show Holds w w [pInts (.slice none 0 0) []] from (Holds.start w).nilRow 2 1)
  by_cases p0 : 1 ≤ x0 ∧ x0 ≤ 16
  · simp only [decide_eq_true p0] at CA
    by_cases p1 : 1 ≤ x1 ∧ x1 ≤ 16
    · simp only [decide_eq_true p1] at CB
      by_cases p2 : x0 + x1 ≤ 16
      · have hg : frkG x0 x1 := ⟨p0, p1, p2⟩
        rw [show frkC x0 x1 = 0 from if_pos hg, show frkR x0 x1 = frkL x0.toNat x1.toNat from if_pos hg]
        obtain ⟨m, rfl⟩ := Int.eq_ofNat_of_zero_le (show 0 ≤ x0 by omega)
        obtain ⟨n, rfl⟩ := Int.eq_ofNat_of_zero_le (show 0 ≤ x1 by omega)
        rw [Int.toNat_natCast, Int.toNat_natCast]
        have hm : 1 ≤ m := by omega
        have hn : 1 ≤ n := by omega
        have hmn : m + n ≤ 16 := by omega
        obtain ⟨s, hs⟩ : ∃ s, s = m + n := ⟨_, rfl⟩
        have hsum : (m : Int) + (n : Int) = (s : Int) := by omega
        have d0 : decide ((16 : Int) < (s : Int)) = false := decide_eq_false (by omega)
        have hm16 : ¬ 16 < s := by omega
        have hs16 : s ≤ 16 := by omega
        clear p0 p1 p2 hg
        have CA' := hide CA; clear CA
        have CB' := hide CB; clear CB
        have CS := hide (sFork6_any m n hm hn hmn w)
        clear hmn hs hm hn
        go_enter Try.func35, Try.ntmps35
        go_wp2_with fail
        refine (CA'.out _).mono ?_
        rintro e w1 ⟨rfl, rfl⟩
        go_wp2_with fail
        refine (CB'.out _).mono ?_
        rintro e w1 ⟨rfl, rfl⟩
        go_wp2_with fail
        refine (CS.out).mono ?_
        rintro e w2 ⟨r1, rfl, k1⟩
        go_wp2
        go_ret2
        exact ⟨_, rfl, k1.low, k1.own1 0 rfl⟩
      · have hg : ¬ frkG x0 x1 := fun h => p2 h.2.2
        rw [show frkC x0 x1 = 2 from if_neg hg, show frkR x0 x1 = [] from if_neg hg]
        have d0 : decide ((16 : Int) < x0 + x1) = true := decide_eq_true (by omega)
        have hb : x0 + x1 ≤ 32 ∧ 0 ≤ x0 + x1 := by omega
        obtain ⟨hb1, hb2⟩ := hb
        clear p0 p1 p2 hg
        have CA' := hide CA; clear CA
        have CB' := hide CB; clear CB
        go_enter Try.func35, Try.ntmps35
        go_wp2_with fail
        refine (CA'.out _).mono ?_
        rintro e w1 ⟨rfl, rfl⟩
        go_wp2_with fail
        refine (CB'.out _).mono ?_
        rintro e w1 ⟨rfl, rfl⟩
        go_wp2
        go_ret2
        exact ⟨_, rfl, Below.refl _ _, HNIL.out.own1 0 rfl⟩
    · simp only [decide_eq_false p1] at CB
      have hg : ¬ frkG x0 x1 := fun h => p1 h.2.1
      rw [show frkC x0 x1 = 2 from if_neg hg, show frkR x0 x1 = [] from if_neg hg]
      clear p0 p1 hg
      have CA' := hide CA; clear CA
      have CB' := hide CB; clear CB
      go_enter Try.func35, Try.ntmps35
      go_wp2_with fail
      refine (CA'.out _).mono ?_
      rintro e w1 ⟨rfl, rfl⟩
      go_wp2_with fail
      refine (CB'.out _).mono ?_
      rintro e w1 ⟨rfl, rfl⟩
      go_wp2
      go_ret2
      exact ⟨_, rfl, Below.refl _ _, HNIL.out.own1 0 rfl⟩
  · simp only [decide_eq_false p0] at CA
    have hg : ¬ frkG x0 x1 := fun h => p0 h.1
    rw [show frkC x0 x1 = 2 from if_neg hg, show frkR x0 x1 = [] from if_neg hg]
    clear p0 hg CB
    have CA' := hide CA; clear CA
    go_enter Try.func35, Try.ntmps35
    go_wp2_with fail
    refine (CA'.out _).mono ?_
    rintro e w1 ⟨rfl, rfl⟩
    go_wp2
    go_ret2
    exact ⟨_, rfl, Below.refl _ _, HNIL.out.own1 0 rfl⟩
end Go.Proofs.Ytijgcjpngpifnaa
