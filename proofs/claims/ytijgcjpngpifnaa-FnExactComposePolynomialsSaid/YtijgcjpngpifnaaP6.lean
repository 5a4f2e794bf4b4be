/- The numbers of the field, program and model. -/
import Derived.Test.YtijgcjpngpifnaaPp
import Derived.Test.YtijgcjpngpifnaaSPoc
namespace Go.Proofs.Ytijgcjpngpifnaa
open Go.RowKit

set_option maxRecDepth 100000 in
set_option maxHeartbeats 400000 in
theorem resTimes_any (a b : Nat) (ha : a < 10007) (hb : b < 10007) (w : World) :
    Calls Try.prog 67 #[.int .i64 (a : Nat), .int .i64 (b : Nat)] w fun e w' => e = .returned (.int .i64 ((a * b % 10007 : Nat) : Int)) ∧ w = w' := by
  have hm : (a : Int) * (b : Int) ≤ 100140049 := by
    have := Nat.mul_le_mul (show a ≤ 10007 by omega) (show b ≤ 10007 by omega)
    rw [← Int.natCast_mul]; omega
  have h0 : 0 ≤ (a : Int) * (b : Int) := by rw [← Int.natCast_mul]; omega
  have hr : Int.tmod ((a : Int) * (b : Int)) 10007 = ((a * b % 10007 : Nat) : Int) := by rw [← Int.natCast_mul]; rfl
  rw [← hr]
  clear hr
  go_enter Try.func67, Try.ntmps67
  go_wp2
  go_ret
  exact ⟨rfl, rfl⟩
set_option maxRecDepth 100000 in
set_option maxHeartbeats 400000 in
theorem resPlus_any (a b : Nat) (ha : a < 10007) (hb : b < 10007) (w : World) :
    Calls Try.prog 77 #[.int .i64 (a : Nat), .int .i64 (b : Nat)] w fun e w' => e = .returned (.int .i64 (((a + b) % 10007 : Nat) : Int)) ∧ w = w' := by
  have hr : Int.tmod ((a : Int) + (b : Int)) 10007 = (((a + b) % 10007 : Nat) : Int) := by rw [← Int.natCast_add]; rfl
  rw [← hr]
  clear hr
  go_enter Try.func77, Try.ntmps77
  go_wp2
  go_ret
  exact ⟨rfl, rfl⟩
set_option maxRecDepth 100000 in
set_option maxHeartbeats 400000 in
theorem resNeg_any (a : Nat) (ha : a < 10007) (w : World) :
    Calls Try.prog 65 #[.int .i64 (a : Nat)] w fun e w' => e = .returned (.int .i64 (((10007 - a) % 10007 : Nat) : Int)) ∧ w = w' := by
  have hr : (10007 - (a : Int)) % 10007 = (((10007 - a) % 10007 : Nat) : Int) := by omega
  rw [← hr]
  clear hr
  go_enter Try.func65, Try.ntmps65
  go_wp2
  go_ret
  exact ⟨rfl, rfl⟩
set_option maxRecDepth 100000 in
set_option maxHeartbeats 1000000 in
theorem resInv_any (x : Nat) (hx : x < 10007) (w : World) :
    Calls Try.prog 68 #[.int .i64 (x : Nat)] w fun e w' => e = .returned (.int .i64 ((invN x : Nat) : Int)) ∧ w = w' := by
  have hst := InvAt.start x
  have ST := hide hst; clear hst
  obtain ⟨r, hr⟩ : ∃ r, r = invN x := ⟨_, rfl⟩
  rw [← hr]
  have DN := hide fun (sq out : Nat) (h : InvAt x 0 sq out) => hr.trans h.done.symm
  clear hr
  have CT := hide resTimes_any
  go_enter Try.func68, Try.ntmps68
  go_wp2
  go_loopw [0, 3, 4] (fun s o k wr => ∃ sq out m : Nat, sq < 10007 ∧ out < 10007 ∧ m ≤ 10005 ∧ s = .int .i64 sq ∧ o = .int .i64 out ∧ k = .int .i64 m ∧ InvAt x m sq out ∧ w = wr) (fun _ _ k _ => (intOf k).toNat)
  case atStart => exact ⟨x, 1, 10005, hx, by decide, by decide, rfl, rfl, rfl, ST.out, rfl⟩
  case round =>
    clear hx
    obtain ⟨sq, out, m, hs, ho, hm, rfl, rfl, rfl, hI, rfl⟩ := hrel
    have HI := hide hI; clear hI
    by_cases h0 : 0 < m
    · have d0 : decide ((0 : Int) < (m : Int)) = true := decide_eq_true (by omega)
      have hq : Int.tdiv (m : Int) 2 = ((m / 2 : Nat) : Int) := rfl
      have hlt : m / 2 < m := by omega
      have hnx := HI.out.next (by omega)
      have HQ := hide hlt; clear hlt
      have HN := hide hnx; clear hnx
      by_cases h1 : m % 2 = 1
      · have e1 : Int.tmod (m : Int) 2 = 1 := by rw [show Int.tmod (m : Int) 2 = ((m % 2 : Nat) : Int) from rfl]; omega
        have HN1 := HN.out
        rw [if_pos h1] at HN1
        replace HN1 := hide HN1
        go_wp2_with fail
        refine (CT.out out sq ho hs _).mono ?_
        rintro e w1 ⟨rfl, rfl⟩
        go_wp2_with fail
        refine (CT.out sq sq hs hs _).mono ?_
        rintro e w1 ⟨rfl, rfl⟩
        go_wp2
        go_roundw
        case rel => exact ⟨sq * sq % 10007, out * sq % 10007, m / 2, Nat.mod_lt _ (by decide), Nat.mod_lt _ (by decide), by omega, rfl, rfl, rfl, HN1.out, by trivial⟩
        case measure => have := HQ.out; simp [intOf]; omega
      · have e1 : Int.tmod (m : Int) 2 = 0 := by rw [show Int.tmod (m : Int) 2 = ((m % 2 : Nat) : Int) from rfl]; omega
        have HN1 := HN.out
        rw [if_neg h1] at HN1
        replace HN1 := hide HN1
        go_wp2_with fail
        refine (CT.out sq sq hs hs _).mono ?_
        rintro e w1 ⟨rfl, rfl⟩
        go_wp2
        go_roundw
        case rel => exact ⟨sq * sq % 10007, out, m / 2, Nat.mod_lt _ (by decide), ho, by omega, rfl, rfl, rfl, HN1.out, by trivial⟩
        case measure => have := HQ.out; simp [intOf]; omega
    · obtain rfl : m = 0 := by omega
      have d0 : decide ((0 : Int) < ((0 : Nat) : Int)) = false := rfl
      have hd := DN.out sq out HI.out
      subst hd
      go_wp2
      go_ret
      exact ⟨rfl, rfl⟩

/-! the model -/
set_option maxRecDepth 100000 in
set_option maxHeartbeats 400000 in
theorem sMod_any (x : Int) (hx : -1000000000 ≤ x ∧ x ≤ 1000000000) (w : World) :
    Calls Try.prog 75 #[.int .i64 x] w fun e w' => e = .returned (.int .i64 ((mdZ x : Nat) : Int)) ∧ w = w' := by
  have ht : -10007 < Int.tmod x 10007 ∧ Int.tmod x 10007 < 10007 ∧ (Int.tmod x 10007 = x % 10007 ∨ Int.tmod x 10007 = x % 10007 - 10007) := by
    rcases Int.le_total 0 x with c | c
    · have := Int.tmod_eq_emod_of_nonneg (b := 10007) c; omega
    · have h1 : Int.tmod x 10007 = - Int.tmod (-x) 10007 := by rw [Int.neg_tmod, Int.neg_neg]
      have h2 := Int.tmod_eq_emod_of_nonneg (a := -x) (b := 10007) (by omega)
      omega
  have hr : (Int.tmod x 10007 + 10007) % 10007 = ((mdZ x : Nat) : Int) := by
    unfold mdZ
    omega
  rw [← hr]
  have HT := ht.1
  have HT2 := ht.2.1
  clear hr ht
  go_enter Try.func75, Try.ntmps75
  go_wp2
  go_ret
  exact ⟨rfl, rfl⟩
theorem mdZ_mul (a b : Nat) : mdZ ((a : Int) * (b : Int)) = a * b % 10007 := by rw [← Int.natCast_mul, mdZ_nat]
theorem mul_bds (a b : Nat) (ha : a < 10007) (hb : b < 10007) : (a : Int) * (b : Int) ≤ 100140049 ∧ 0 ≤ (a : Int) * (b : Int) := by
  have := Nat.mul_le_mul (show a ≤ 10007 by omega) (show b ≤ 10007 by omega)
  rw [← Int.natCast_mul]; omega
theorem sMul_any (a b : Nat) (ha : a < 10007) (hb : b < 10007) (w : World) : Calls Try.prog 75 #[.int .i64 ((a : Int) * (b : Int))] w fun e w' => e = .returned (.int .i64 ((a * b % 10007 : Nat) : Int)) ∧ w = w' := by
  have h := mul_bds a b ha hb
  have := sMod_any ((a : Int) * (b : Int)) ⟨by omega, by omega⟩ w
  rwa [mdZ_mul] at this
set_option maxRecDepth 100000 in
set_option maxHeartbeats 1000000 in
theorem sInv_any (x : Nat) (hx : x < 10007) (w : World) :
    Calls Try.prog 83 #[.int .i64 (x : Nat)] w fun e w' => e = .returned (.int .i64 ((invN x : Nat) : Int)) ∧ w = w' := by
  have hst := InvAt.start x
  have ST := hide hst; clear hst
  obtain ⟨r, hr⟩ : ∃ r, r = invN x := ⟨_, rfl⟩
  rw [← hr]
  have DN := hide fun (sq out : Nat) (h : InvAt x 0 sq out) => hr.trans h.done.symm
  clear hr
  have CT := hide sMul_any
  have HB := hide mul_bds
  go_enter Try.func83, Try.ntmps83
  go_wp2
  go_loopw [4, 3, 5] (fun s o k wr => ∃ sq out m : Nat, sq < 10007 ∧ out < 10007 ∧ m ≤ 10005 ∧ s = .int .i64 sq ∧ o = .int .i64 out ∧ k = .int .i64 m ∧ InvAt x m sq out ∧ w = wr) (fun _ _ k _ => (intOf k).toNat)
  case atStart => exact ⟨x, 1, 10005, hx, by decide, by decide, rfl, rfl, rfl, ST.out, rfl⟩
  case round =>
    clear hx
    obtain ⟨sq, out, m, hs, ho, hm, rfl, rfl, rfl, hI, rfl⟩ := hrel
    have HI := hide hI; clear hI
    obtain ⟨b1, b2⟩ := HB.out sq sq hs hs
    obtain ⟨b3, b4⟩ := HB.out out sq ho hs
    by_cases h0 : 0 < m
    · have d0 : decide ((0 : Int) < (m : Int)) = true := decide_eq_true (by omega)
      have hq : Int.tdiv (m : Int) 2 = ((m / 2 : Nat) : Int) := rfl
      have hlt : m / 2 < m := by omega
      have hnx := HI.out.next (by omega)
      have HQ := hide hlt; clear hlt
      have HN := hide hnx; clear hnx
      by_cases h1 : m % 2 = 1
      · have e1 : Int.tmod (m : Int) 2 = 1 := by rw [show Int.tmod (m : Int) 2 = ((m % 2 : Nat) : Int) from rfl]; omega
        have HN1 := HN.out
        rw [if_pos h1] at HN1
        replace HN1 := hide HN1
        go_wp2_with fail
        refine (CT.out out sq ho hs _).mono ?_
        rintro e w1 ⟨rfl, rfl⟩
        go_wp2_with fail
        refine (CT.out sq sq hs hs _).mono ?_
        rintro e w1 ⟨rfl, rfl⟩
        go_wp2
        go_roundw
        case rel => exact ⟨sq * sq % 10007, out * sq % 10007, m / 2, Nat.mod_lt _ (by decide), Nat.mod_lt _ (by decide), by omega, rfl, rfl, rfl, HN1.out, by trivial⟩
        case measure => have := HQ.out; simp [intOf]; omega
      · have e1 : Int.tmod (m : Int) 2 = 0 := by rw [show Int.tmod (m : Int) 2 = ((m % 2 : Nat) : Int) from rfl]; omega
        have HN1 := HN.out
        rw [if_neg h1] at HN1
        replace HN1 := hide HN1
        go_wp2_with fail
        refine (CT.out sq sq hs hs _).mono ?_
        rintro e w1 ⟨rfl, rfl⟩
        go_wp2
        go_roundw
        case rel => exact ⟨sq * sq % 10007, out, m / 2, Nat.mod_lt _ (by decide), ho, by omega, rfl, rfl, rfl, HN1.out, by trivial⟩
        case measure => have := HQ.out; simp [intOf]; omega
    · obtain rfl : m = 0 := by omega
      have d0 : decide ((0 : Int) < ((0 : Nat) : Int)) = false := rfl
      have hd := DN.out sq out HI.out
      subst hd
      go_wp2
      go_ret
      exact ⟨rfl, rfl⟩
end Go.Proofs.Ytijgcjpngpifnaa
