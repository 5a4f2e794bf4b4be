/- Stars. -/
import Derived.Test.YtijgcjpngpifnaaBoth6
namespace Go.Proofs.Ytijgcjpngpifnaa
open Go.RowKit

def pow6 (x : Int) : Int := if 1 ≤ x ∧ x ≤ 16 then 0 else 2
theorem pow6_ok {x : Int} (h : 1 ≤ x ∧ x ≤ 16) : pow6 x = 0 := if_pos h
theorem pow6_bad {x : Int} (h : ¬ (1 ≤ x ∧ x ≤ 16)) : pow6 x = 2 := if_neg h
theorem pow_mon : ((List.range 17).all fun n => decide (powL [0, 1] n = monL n)) = true := by decide +kernel
theorem powL_mon {n : Nat} (h : n ≤ 16) : powL [0, 1] n = monL n := of_decide_eq_true (List.all_eq_true.1 pow_mon n (List.mem_range.2 (by omega)))
theorem monL_length (n : Nat) : (monL n).length = n + 1 := by simp [monL]
def staR (x : Int) : List Nat := if 1 ≤ x ∧ x ≤ 16 then monL x.toNat else []
theorem staR_ok {x : Int} (h : 1 ≤ x ∧ x ≤ 16) : staR x = monL x.toNat := if_pos h
theorem staR_bad {x : Int} (h : ¬ (1 ≤ x ∧ x ≤ 16)) : staR x = [] := if_neg h
theorem staR_bd (x : Int) : (staR x).length ≤ 1000000 := by
  by_cases h : 1 ≤ x ∧ x ≤ 16
  · rw [staR_ok h]
    rw [monL_length]; omega
  · rw [staR_bad h]; decide
set_option maxRecDepth 100000 in
set_option maxHeartbeats 1000000 in
theorem starPolynomial_any (x0 : Int) (_hx0 : -9223372036854775808 ≤ x0 ∧ x0 ≤ 9223372036854775807) (w : World) :
    Calls Try.prog 32 #[.int .i64 x0] w fun e w' => ∃ v, e = .returned (.tuple #[v, .int .i64 (pow6 x0)]) ∧ Below w.heap.size w w' ∧ Own1 w.heap.size w' v (staR x0) := by
  clear _hx0
  have CA := isPower_any x0 w
  have HNIL := hide (show Holds w w [pInts (.slice none 0 0) []] from (Holds.start w).nilRow 2 1)
  by_cases p : 1 ≤ x0 ∧ x0 ≤ 16
  · rw [decide_eq_true p] at CA
    rw [staR_ok p, pow6_ok p]
    obtain ⟨n, rfl⟩ := Int.eq_ofNat_of_zero_le (show 0 ≤ x0 by omega)
    rw [Int.toNat_natCast]
    have hn1 : 1 ≤ n := by omega
    have hn2 : n ≤ 16 := by omega
    clear p
    have CA' := hide CA; clear CA
    have hpw := powL_mon hn2
    have hml := monL_length n
    have H1 := (Holds.start w).poNew #[.int .i64 ((0 : Nat) : Int), .int .i64 ((1 : Nat) : Int)] 42 [0, 1] (by simp) w.heap.size 2 rfl rfl (two_cells 0 1)
    have CP := hide (power6_any _ [0, 1] (fun x hx => by simp at hx; omega) n hn2 (by simp) _ (H1.poRd 0 rfl))
    rw [hpw] at CP
    have HML := hide hml; clear hpw hml
    go_enter Try.func32, Try.ntmps32
    go_wp2_with fail
    refine (CA'.out).mono ?_
    rintro e w1 ⟨rfl, rfl⟩
    go_wp2_with fail
    refine (CP.out).mono ?_
    rintro e w3 ⟨r3, rfl, k3⟩
    have K3 := (H1.joinA k3).sub (List.cons_sublist_cons.2 (List.nil_sublist _))
    clear k3 H1
    have CN := hide (numbers_any _ (monL n) (by have := HML.out; omega) _ (K3.poRd 0 rfl))
    go_wp2_with fail
    refine (CN.out).mono ?_
    rintro e w9 ⟨r9, rfl, k9⟩
    have K9 := (K3.joinA k9).sub (List.cons_sublist_cons.2 (List.nil_sublist _))
    have k10 : Holds w w9 [pInts r9 (monL n)] := K9
    have K10 := hide k10; clear k10 K9 k9
    go_wp2
    go_ret2
    exact ⟨_, rfl, K10.out.low, K10.out.own1 0 rfl⟩
  · rw [decide_eq_false p] at CA
    have e1 := staR_bad p
    have e2 := pow6_bad p
    rw [e1, e2]
    clear p e1 e2
    have CA' := hide CA; clear CA
    go_enter Try.func32, Try.ntmps32
    go_wp2_with fail
    refine (CA'.out).mono ?_
    rintro e w1 ⟨rfl, rfl⟩
    go_wp2
    go_ret2
    exact ⟨_, rfl, Below.refl _ _, HNIL.out.own1 0 rfl⟩
set_option maxRecDepth 100000 in
set_option maxHeartbeats 1000000 in
theorem sMon6_any (n : Nat) (hn : n ≤ 16) (w : World) :
    Calls Try.prog 60 #[.int .i64 1, .int .i64 (n : Nat)] w fun e w' => ∃ r, e = .returned r ∧ Holds w w' [pInts r (monL n)] := by
  obtain ⟨i0, hi, hz0, hz1, hz2⟩ := info_parts info64
  have I0 := hide (And.intro hi (And.intro hz0 (And.intro hz1 hz2))); clear hi hz0 hz1 hz2
  go_enter Try.func60, Try.ntmps60
  go_wp2_with (refine makeH rfl 22 _ _ rfl 2 i0 (.int .i64 0) 8 Try.underlying22 I0.out.1 I0.out.2.1 I0.out.2.2.1 I0.out.2.2.2 rfl n .i64 .i64 rfl rfl (by omega) (by decide) (Holds.start w) ?_)
  intro w1 h1
  have H1 : Holds w w1 [pInts (.slice (some ⟨w.heap.size, 0, none⟩) n n) (List.replicate n 0)] := by
    unfold pInts
    rw [← nums_zero, List.length_replicate]
    exact h1
  clear h1
  have H2 := H1.blk #[.int .i64 ((1 : Nat) : Int)] 2 w1.heap.size rfl
  go_wp2_with (at_builtin; refine appI H2 1 rfl w1.heap.size [1] 2 (H2.at 0 rfl) (by simp; omega) rfl _ _ rfl rfl rfl ?_)
  intro v' w' h3
  have h4 : Holds w w' [pInts v' (monL n)] := Holds.tail h3
  have H4 := hide h4; clear h4 h3 H2 H1
  go_wp2
  go_ret
  exact ⟨_, rfl, H4.out⟩
set_option maxRecDepth 100000 in
set_option maxHeartbeats 1000000 in
theorem sStarPolynomial_any (x0 : Int) (_hx0 : -9223372036854775808 ≤ x0 ∧ x0 ≤ 9223372036854775807) (w : World) :
    Calls Try.prog 31 #[.int .i64 x0] w fun e w' => ∃ v, e = .returned (.tuple #[v, .int .i64 (pow6 x0)]) ∧ Below w.heap.size w w' ∧ Own1 w.heap.size w' v (staR x0) := by
  clear _hx0
  have CA := in_any x0 1 16 w
  have HNIL := hide (show Holds w w [pInts (.slice none 0 0) []] from (Holds.start w).nilRow 2 1)
  by_cases p : 1 ≤ x0 ∧ x0 ≤ 16
  · rw [decide_eq_true p] at CA
    rw [staR_ok p, pow6_ok p]
    obtain ⟨n, rfl⟩ := Int.eq_ofNat_of_zero_le (show 0 ≤ x0 by omega)
    rw [Int.toNat_natCast]
    have hn1 : 1 ≤ n := by omega
    have hn2 : n ≤ 16 := by omega
    clear p
    have CA' := hide CA; clear CA
    have CS := hide (sMon6_any n hn2 w)
    go_enter Try.func31, Try.ntmps31
    go_wp2_with fail
    refine (CA'.out).mono ?_
    rintro e w1 ⟨rfl, rfl⟩
    go_wp2_with fail
    refine (CS.out).mono ?_
    rintro e w1 ⟨r1, rfl, k1⟩
    go_wp2
    go_ret2
    exact ⟨_, rfl, k1.low, k1.own1 0 rfl⟩
  · rw [decide_eq_false p] at CA
    have e1 := staR_bad p
    have e2 := pow6_bad p
    rw [e1, e2]
    clear p e1 e2
    have CA' := hide CA; clear CA
    go_enter Try.func31, Try.ntmps31
    go_wp2_with fail
    refine (CA'.out).mono ?_
    rintro e w1 ⟨rfl, rfl⟩
    go_wp2
    go_ret2
    exact ⟨_, rfl, Below.refl _ _, HNIL.out.own1 0 rfl⟩
end Go.Proofs.Ytijgcjpngpifnaa
