/- Chains. -/
import Derived.Test.YtijgcjpngpifnaaSta6
namespace Go.Proofs.Ytijgcjpngpifnaa
open Go.RowKit

theorem chn_ok : ∀ i, Po (chnL i).1 ∧ Lz (chnL i).1 ∧ Po (chnL i).2 ∧ Lz (chnL i).2 ∧ (chnL i).1.length ≤ i + 2 ∧ (chnL i).2.length ≤ i + 2
  | 0 => ⟨fun x hx => by simp [chnL] at hx; omega, .inr (by decide), fun x hx => by simp [chnL] at hx; omega, .inr (by decide), by decide, by decide⟩
  | i + 1 => by
    obtain ⟨h1, h2, h3, h4, h5, h6⟩ := chn_ok i
    refine ⟨h3, h4, addL_po _ _ _, addL_lz _ _ _, by show (chnL i).2.length ≤ _; omega, ?_⟩
    have a1 := addL_len (timesL [0, 2] (chnL i).2) (chnL i).1 (-1)
    have a2 := timesL_len [0, 2] (chnL i).2
    have e : (chnL (i + 1)).2 = addL (timesL [0, 2] (chnL i).2) (chnL i).1 (-1) := rfl
    rw [e]
    simp only [List.length_cons, List.length_nil] at a2
    omega
theorem po02 : Po [0, 2] := fun x hx => by simp at hx; omega
def chaR (x : Int) : List Nat := if 1 ≤ x ∧ x ≤ 16 then (chnL (x.toNat - 1)).2 else []
theorem chaR_ok {x : Int} (h : 1 ≤ x ∧ x ≤ 16) : chaR x = (chnL (x.toNat - 1)).2 := if_pos h
theorem chaR_bad {x : Int} (h : ¬ (1 ≤ x ∧ x ≤ 16)) : chaR x = [] := if_neg h
theorem chaR_bd (x : Int) : (chaR x).length ≤ 1000000 := by
  by_cases h : 1 ≤ x ∧ x ≤ 16
  · rw [chaR_ok h]
    have := (chn_ok (x.toNat - 1)).2.2.2.2.2; omega
  · rw [chaR_bad h]; decide
set_option maxRecDepth 100000 in
set_option maxHeartbeats 1000000 in
theorem chainPolynomial_any (x0 : Int) (_hx0 : -9223372036854775808 ≤ x0 ∧ x0 ≤ 9223372036854775807) (w : World) :
    Calls Try.prog 34 #[.int .i64 x0] w fun e w' => ∃ v, e = .returned (.tuple #[v, .int .i64 (pow6 x0)]) ∧ Below w.heap.size w w' ∧ Own1 w.heap.size w' v (chaR x0) := by
  clear _hx0
  have CA := isPower_any x0 w
  have HNIL := hide (show Holds w w [pInts (.slice none 0 0) []] from (Holds.start w).nilRow 2 1)
  by_cases p : 1 ≤ x0 ∧ x0 ≤ 16
  · rw [decide_eq_true p] at CA
    rw [chaR_ok p, pow6_ok p]
    obtain ⟨n, rfl⟩ := Int.eq_ofNat_of_zero_le (show 0 ≤ x0 by omega)
    rw [Int.toNat_natCast]
    have hn1 : 1 ≤ n := by omega
    have hn2 : n ≤ 16 := by omega
    clear p
    have CA' := hide CA; clear CA
    obtain ⟨m, hm⟩ : ∃ m, m = n - 1 := ⟨_, rfl⟩
    rw [← hm]
    have hmi : ((n : Nat) : Int) - 1 = (m : Int) := by omega
    have hm15 : m ≤ 15 := by omega
    have HM := hide hm; clear hm hn1
    have OK := hide chn_ok
    have CN : ∀ w, Calls Try.prog 65 #[.int .i64 1] w fun e w' => e = .returned (.int .i64 10006) ∧ w = w' := fun w => resNeg_any 1 (by decide) w
    replace CN := hide CN
    have CT := hide times6_any
    have CS := hide scaled6_any
    have CP := hide plus6_any
    have H1 := (Holds.start w).poNew #[.int .i64 ((1 : Nat) : Int)] 42 [1] (by simp) w.heap.size 1 rfl rfl (one_cells _)
    have H2 := H1.poNew #[.int .i64 ((0 : Nat) : Int), .int .i64 ((1 : Nat) : Int)] 42 [0, 1] (by simp) (w.heap.size + 1) 2 (by simp) rfl (two_cells 0 1)
    clear H1
    go_enter Try.func34, Try.ntmps34
    go_wp2_with fail
    refine (CA'.out).mono ?_
    rintro e w1 ⟨rfl, rfl⟩
    go_wp2
    go_loopw [4, 5, 14] (fun a b t wr => ∃ i : Nat, i ≤ m ∧ t = .int .i64 i ∧ Holds w wr [pPo b (chnL i).2, pPo a (chnL i).1]) (fun _ _ t _ => m - (intOf t).toNat)
    case atStart => exact ⟨0, Nat.zero_le _, rfl, H2⟩
    case round =>
      clear H2
      obtain ⟨i, hi, rfl, hH⟩ := hrel
      by_cases hlt : i < m
      · obtain ⟨q1, q2, q3, q4, q5, q6⟩ := OK.out i
        have h2 := hH.poNew #[.int .i64 ((0 : Nat) : Int), .int .i64 ((2 : Nat) : Int)] 42 [0, 2] (by simp) wr.heap.size 2 rfl rfl (two_cells 0 2)
        have a2 := timesL_len [0, 2] (chnL i).2
        have a3 := timesL_len (chnL i).1 [10006]
        simp only [List.length_cons, List.length_nil] at a2 a3
        have hnx : addL (timesL [0, 2] (chnL i).2) (timesL (chnL i).1 [10006]) 1 = (chnL (i + 1)).2 := chn_scaled _ _
        have h1x : (chnL i).2 = (chnL (i + 1)).1 := rfl
        have c1 := hide (CT.out _ _ [0, 2] (chnL i).2 po02 q3 (by simp) (by omega) _ (h2.poRd 0 rfl) (h2.poRd 1 rfl))
        have c2 := hide fun w2 (h : RdN w2 u4 (chnL i).1) => CS.out u4 (chnL i).1 q1 (by omega) 10006 (by decide) w2 h
        have c3 := hide fun (w3 : World) (r s : Value) (h : RdN w3 r (timesL [0, 2] (chnL i).2)) (k : RdN w3 s (timesL (chnL i).1 [10006])) => CP.out r s _ _ (timesL_po _ _) (timesL_po _ _) (by omega) (by omega) w3 h k
        rw [hnx] at c3
        have HX := hide h1x; clear hnx h1x q1 q2 q3 q4 q5 q6 a2 a3
        have HH := hide h2; clear h2 hH
        go_wp2_with fail
        refine c1.out.mono ?_
        rintro e w2 ⟨r, rfl, k1⟩
        have K1 := HH.out.joinA k1
        clear k1
        go_wp2_with fail
        refine (CN.out w2).mono ?_
        rintro e w2' ⟨rfl, rfl⟩
        go_wp2_with fail
        refine (c2.out w2 (K1.poRd 3 rfl)).mono ?_
        rintro e w3 ⟨s, rfl, k2⟩
        have K2 := K1.joinA k2
        clear k2 K1
        go_wp2_with fail
        refine (c3.out w3 r s (K2.poRd 1 rfl) (K2.poRd 0 rfl)).mono ?_
        rintro e w4 ⟨v, rfl, k3⟩
        have K3 : Holds w w4 [pPo v (chnL (i + 1)).2, pPo u5 (chnL (i + 1)).1] := by
          rw [← HX.out]
          exact (K2.joinA k3).sub (.cons_cons _ (.cons _ (.cons _ (.cons _ (.cons_cons _ (List.nil_sublist _))))))
        have H3 := hide K3; clear K3 k3 K2
        go_wp2
        go_roundw
        case rel => exact ⟨i + 1, by omega, by go_num, H3.out⟩
        case measure => simp [intOf]; omega
      · obtain rfl : i = m := by omega
        have hcl := (OK.out i).2.2.2.2.2
        have HCL := hide hcl; clear hcl hlt hi
        have CN := hide (numbers_any _ ((chnL i).2) (by have := HCL.out; omega) _ (hH.poRd 0 rfl))
        go_wp2_with fail
        refine (CN.out).mono ?_
        rintro e w9 ⟨r9, rfl, k9⟩
        have K9 := (hH.joinA k9).sub (List.cons_sublist_cons.2 (List.nil_sublist _))
        have k10 : Holds w w9 [pInts r9 ((chnL i).2)] := K9
        have K10 := hide k10; clear k10 K9 k9
        go_wp2
        go_ret2
        exact ⟨_, rfl, K10.out.low, K10.out.own1 0 rfl⟩
  · rw [decide_eq_false p] at CA
    have e1 := chaR_bad p
    have e2 := pow6_bad p
    rw [e1, e2]
    clear p e1 e2
    have CA' := hide CA; clear CA
    go_enter Try.func34, Try.ntmps34
    go_wp2_with fail
    refine (CA'.out).mono ?_
    rintro e w1 ⟨rfl, rfl⟩
    go_wp2
    go_ret2
    exact ⟨_, rfl, Below.refl _ _, HNIL.out.own1 0 rfl⟩
set_option maxRecDepth 100000 in
set_option maxHeartbeats 1000000 in
theorem sChain6_any (n : Nat) (hn1 : 1 ≤ n) (hn2 : n ≤ 16) (w : World) :
    Calls Try.prog 63 #[.int .i64 (n : Nat)] w fun e w' => ∃ r, e = .returned r ∧ Holds w w' [pInts r (chnL (n - 1)).2] := by
  have OK := hide chn_ok
  have CT := hide sTimes6_any
  have CP := hide sAdd6_any
  have H1 : Holds w _ [pInts (.slice (some ⟨w.heap.size, 0, none⟩) 1 1) [1]] := (Holds.start w).rowNew #[.int .i64 ((1 : Nat) : Int)] 2 1 1 w.heap.size rfl rfl (by decide)
  have H2 : Holds w _ [pInts (.slice (some ⟨w.heap.size + 1, 0, none⟩) 2 2) [0, 1], pInts (.slice (some ⟨w.heap.size, 0, none⟩) 1 1) [1]] := H1.rowNew #[.int .i64 ((0 : Nat) : Int), .int .i64 ((1 : Nat) : Int)] 2 1 2 (w.heap.size + 1) (by simp) rfl (by decide)
  clear H1
  go_enter Try.func63, Try.ntmps63
  go_wp2
  go_loopw [3, 4, 5] (fun a b t wr => ∃ i : Nat, i + 1 ≤ n ∧ t = .int .i64 ((i + 1 : Nat) : Int) ∧ Holds w wr [pInts b (chnL i).2, pInts a (chnL i).1]) (fun _ _ t _ => n - (intOf t).toNat)
  case atStart => exact ⟨0, by omega, rfl, H2⟩
  case round =>
    clear H2
    obtain ⟨i, hi, rfl, hH⟩ := hrel
    obtain ⟨j, hj⟩ : ∃ j, j = i + 1 := ⟨_, rfl⟩
    rw [← hj] at hi
    have HJ := hide hj
    rw [← hj]
    by_cases hlt : j < n
    · obtain ⟨q1, q2, q3, q4, q5, q6⟩ := OK.out i
      have h2 : Holds w (wr.alloc (.cells #[.int .i64 ((0 : Nat) : Int), .int .i64 ((2 : Nat) : Int)] 2)) [pInts (.slice (some ⟨wr.heap.size, 0, none⟩) 2 2) [0, 2], pInts u4 (chnL i).2, pInts u3 (chnL i).1] := hH.rowNew #[.int .i64 ((0 : Nat) : Int), .int .i64 ((2 : Nat) : Int)] 2 1 2 wr.heap.size rfl rfl (by decide)
      have a2 := timesL_len [0, 2] (chnL i).2
      simp only [List.length_cons, List.length_nil] at a2
      have hnx : addL (timesL [0, 2] (chnL i).2) (chnL i).1 (-1) = (chnL (i + 1)).2 := rfl
      have h1x : (chnL i).2 = (chnL (i + 1)).1 := rfl
      have c1 := hide (CT.out _ _ [0, 2] (chnL i).2 po02 (.inr (by decide)) q3 q4 (by simp) (by omega) _ (h2.intsRd 0 rfl (by simp)) (h2.intsRd 1 rfl (by omega)))
      have c3 := hide fun (w3 : World) (r : Value) (h : RdN w3 r (timesL [0, 2] (chnL i).2)) (k : RdN w3 u3 (chnL i).1) => CP.out r u3 _ _ (-1) (by decide) (timesL_po _ _) q1 (by omega) (by omega) w3 h k
      rw [hnx] at c3
      have HX := hide (And.intro h1x (And.intro q5 (show (timesL [0, 2] (chnL i).2).length ≤ 1000 by omega))); clear hnx h1x q1 q2 q3 q4 q5 q6 a2
      have HH := hide h2; clear h2 hH
      clear hj
      go_wp2_with fail
      refine c1.out.mono ?_
      rintro e w2 ⟨r, rfl, k1⟩
      have K1 := HH.out.joinA k1
      clear k1
      go_wp2_with fail
      refine (c3.out w2 r (K1.intsRd 0 rfl (by have := HX.out.2.2; omega)) (K1.intsRd 3 rfl (by have := HX.out.2.1; have := HJ.out; omega))).mono ?_
      rintro e w4 ⟨v, rfl, k3⟩
      have K3 : Holds w w4 [pInts v (chnL (i + 1)).2, pInts u4 (chnL (i + 1)).1] := by
        rw [← HX.out.1]
        exact (K1.joinA k3).sub (.cons_cons _ (.cons _ (.cons _ (.cons_cons _ (List.nil_sublist _)))))
      have H3 := hide K3; clear K3 k3 K1
      go_wp2
      go_roundw
      case rel => exact ⟨i + 1, by have := HJ.out; omega, by rw [← HJ.out]; go_num, H3.out⟩
      case measure => simp [intOf]; omega
    · have e : chnL i = chnL (n - 1) := by congr 1; omega
      rw [e] at hH
      have H3 := hide (hH.sub (List.cons_sublist_cons.2 (List.nil_sublist _))); clear hH e hj
      go_wp2
      go_ret
      exact ⟨_, rfl, H3.out⟩
set_option maxRecDepth 100000 in
set_option maxHeartbeats 1000000 in
theorem sChainPolynomial_any (x0 : Int) (_hx0 : -9223372036854775808 ≤ x0 ∧ x0 ≤ 9223372036854775807) (w : World) :
    Calls Try.prog 33 #[.int .i64 x0] w fun e w' => ∃ v, e = .returned (.tuple #[v, .int .i64 (pow6 x0)]) ∧ Below w.heap.size w w' ∧ Own1 w.heap.size w' v (chaR x0) := by
  clear _hx0
  have CA := in_any x0 1 16 w
  have HNIL := hide (show Holds w w [pInts (.slice none 0 0) []] from (Holds.start w).nilRow 2 1)
  by_cases p : 1 ≤ x0 ∧ x0 ≤ 16
  · rw [decide_eq_true p] at CA
    rw [chaR_ok p, pow6_ok p]
    obtain ⟨n, rfl⟩ := Int.eq_ofNat_of_zero_le (show 0 ≤ x0 by omega)
    rw [Int.toNat_natCast]
    have hn1 : 1 ≤ n := by omega
    have hn2 : n ≤ 16 := by omega
    clear p
    have CA' := hide CA; clear CA
    have CS := hide (sChain6_any n hn1 hn2 w)
    go_enter Try.func33, Try.ntmps33
    go_wp2_with fail
    refine (CA'.out).mono ?_
    rintro e w1 ⟨rfl, rfl⟩
    go_wp2_with fail
    refine (CS.out).mono ?_
    rintro e w1 ⟨r1, rfl, k1⟩
    go_wp2
    go_ret2
    exact ⟨_, rfl, k1.low, k1.own1 0 rfl⟩
  · rw [decide_eq_false p] at CA
    have e1 := chaR_bad p
    have e2 := pow6_bad p
    rw [e1, e2]
    clear p e1 e2
    have CA' := hide CA; clear CA
    go_enter Try.func33, Try.ntmps33
    go_wp2_with fail
    refine (CA'.out).mono ?_
    rintro e w1 ⟨rfl, rfl⟩
    go_wp2
    go_ret2
    exact ⟨_, rfl, Below.refl _ _, HNIL.out.own1 0 rfl⟩
end Go.Proofs.Ytijgcjpngpifnaa
