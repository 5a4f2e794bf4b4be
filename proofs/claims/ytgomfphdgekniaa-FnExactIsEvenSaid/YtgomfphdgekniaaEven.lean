/- IsEven of the program and of the model; the walk of FnExactIsEven -/
import Derived.Test.YtgomfphdgekniaaSign
import Derived.Test.YtgomfphdgekniaaIsDes
import Derived.Test.YtgomfphdgekniaaToDs
import Derived.Test.YtgomfphdgekniaaHS
namespace Go.Proofs.Ytgomfphdgekniaa
open Go.RowKit

def sgnN (p : Nat → Nat) (m : Nat) : Int := if ((m : Int) - (cycs p m).length) % 2 = 0 then 1 else -1
theorem permB_of {p q : Nat → Nat} {m : Nat} (h : desB (m : Int) p q = true) : permB p (m : Int) = true := by unfold desB at h; simp only [Bool.and_eq_true] at h; exact h.1
theorem permB_of' {p q : Nat → Nat} {m : Nat} (h : desB (m : Int) p q = true) : permB q (m : Int) = true := by unfold desB at h; simp only [Bool.and_eq_true] at h; exact h.2.1
theorem signR_of {p : Nat → Nat} {m : Nat} (h : permB p (m : Int) = true) : signR p (m : Int) = .tuple #[.int .i64 (sgnN p m), .int .i64 0] := by unfold signR sgnN; rw [if_pos h, Int.toNat_natCast]
noncomputable def evenR (n : Int) (f g : Nat → Nat) : Value := if desB n f g = true then .tuple #[.bool (sgnN f n.toNat == 1 && sgnN g n.toNat == 1), .int .i64 0] else .tuple #[.bool false, .int .i64 1]
theorem evenR_eq (n : Int) (f g : Nat → Nat) : ∃ (a : Bool) (c : Int), evenR n f g = .tuple #[.bool a, .int .i64 c] := by
  unfold evenR; split
  · exact ⟨_, _, rfl⟩
  · exact ⟨_, _, rfl⟩

set_option maxRecDepth 100000 in
set_option maxHeartbeats 1000000 in
theorem isEven_any (n : Int) (f g : Nat → Nat) (hf : ∀ i, f i < 256) (hg : ∀ i, g i < 256) (w : World) :
    Calls Try.prog 29 #[.agg (dv n f g)] w fun e w' => e = .returned (evenR n f g) ∧ Below w.heap.size w w' := by
  have C1 := hide fun w => isDessin_any n f g hf hg w
  have C2 := hide fun w => signOf_any f hf n w
  have C3 := hide fun w => signOf_any g hg n w
  have HH0 := (Holds.start w).blk (dv n f g) 30 _ rfl
  clear hf hg
  rcases h1 : desB n f g with _ | _
  · rw [h1] at C1
    have hr : evenR n f g = .tuple #[.bool false, .int .i64 1] := by unfold evenR; rw [if_neg (by simp [h1])]
    rw [hr]
    clear h1 hr C2 C3
    go_enter Try.func29, Try.ntmps29
    go_wp2_with fail
    refine (C1.out _).mono ?_
    rintro e w1 ⟨rfl, hb1⟩
    have HH1 := HH0.call hb1
    clear hb1
    go_wp2
    go_ret2
    exact ⟨rfl, HH1.low⟩
  · rw [h1] at C1
    obtain ⟨m, rfl, hd⟩ := desB_true h1
    have hr : evenR (m : Int) f g = .tuple #[.bool (sgnN f m == 1 && sgnN g m == 1), .int .i64 0] := by unfold evenR; rw [if_pos h1, Int.toNat_natCast]
    rw [hr]
    rw [signR_of (permB_of h1)] at C2
    rw [signR_of (permB_of' h1)] at C3
    have hn := dv_n m f g
    generalize sgnN f m = s1 at *
    generalize sgnN g m = s2 at *
    clear h1 hr hd
    rcases e1 : (s1 == 1) with _ | _ <;> rcases e2 : (s2 == 1) with _ | _
    all_goals
      go_enter Try.func29, Try.ntmps29
      go_wp2_with fail
      refine (C1.out _).mono ?_
      rintro e w1 ⟨rfl, hb1⟩
      have HH1 := HH0.call hb1
      have cd1 := HH1.cells 0 rfl
      have cn1 := HH1.cell 0 rfl hn
      clear hb1
      go_wp2_with fail
      refine (C2.out _).mono ?_
      rintro e w2 ⟨rfl, hb2⟩
      have HH2 := HH1.call hb2
      have cd2 := HH2.cells 0 rfl
      have cn2 := HH2.cell 0 rfl hn
      clear hb2 cd1 cn1
      go_wp2_with fail
      refine (C3.out _).mono ?_
      rintro e w3 ⟨rfl, hb3⟩
      have HH3 := HH2.call hb3
      clear hb3 cd2 cn2
      go_wp2
      go_ret2
      exact ⟨rfl, HH3.low⟩

set_option maxRecDepth 100000 in
set_option maxHeartbeats 1000000 in
theorem sIsEven_any (n : Int) (f g : Nat → Nat) (hf : ∀ i, f i < 256) (hg : ∀ i, g i < 256) (w : World) :
    Calls Try.prog 28 #[.agg (dv n f g)] w fun e w' => e = .returned (evenR n f g) ∧ Below w.heap.size w w' := by
  have C1 := hide fun w => sIs_any n f g hf hg w
  have C2 := hide fun w => sSignOf_any f hf n w
  have C3 := hide fun w => sSignOf_any g hg n w
  have HH0 := (Holds.start w).blk (dv n f g) 30 _ rfl
  clear hf hg
  rcases h1 : desB n f g with _ | _
  · rw [h1] at C1
    have hr : evenR n f g = .tuple #[.bool false, .int .i64 1] := by unfold evenR; rw [if_neg (by simp [h1])]
    rw [hr]
    clear h1 hr C2 C3
    go_enter Try.func28, Try.ntmps28
    go_wp2_with fail
    refine (C1.out _).mono ?_
    rintro e w1 ⟨rfl, hb1⟩
    have HH1 := HH0.call hb1
    clear hb1
    go_wp2
    go_ret2
    exact ⟨rfl, HH1.low⟩
  · rw [h1] at C1
    obtain ⟨m, rfl, hd⟩ := desB_true h1
    have hr : evenR (m : Int) f g = .tuple #[.bool (sgnN f m == 1 && sgnN g m == 1), .int .i64 0] := by unfold evenR; rw [if_pos h1, Int.toNat_natCast]
    rw [hr]
    rw [signR_of (permB_of h1)] at C2
    rw [signR_of (permB_of' h1)] at C3
    have hn := dv_n m f g
    generalize sgnN f m = s1 at *
    generalize sgnN g m = s2 at *
    clear h1 hr hd
    rcases e1 : (s1 == 1) with _ | _ <;> rcases e2 : (s2 == 1) with _ | _
    all_goals
      go_enter Try.func28, Try.ntmps28
      go_wp2_with fail
      refine (C1.out _).mono ?_
      rintro e w1 ⟨rfl, hb1⟩
      have HH1 := HH0.call hb1
      have cd1 := HH1.cells 0 rfl
      have cn1 := HH1.cell 0 rfl hn
      clear hb1
      go_wp2_with fail
      refine (C2.out _).mono ?_
      rintro e w2 ⟨rfl, hb2⟩
      have HH2 := HH1.call hb2
      have cd2 := HH2.cells 0 rfl
      have cn2 := HH2.cell 0 rfl hn
      clear hb2 cd1 cn1
      go_wp2_with fail
      refine (C3.out _).mono ?_
      rintro e w3 ⟨rfl, hb3⟩
      have HH3 := HH2.call hb3
      clear hb3 cd2 cn2
      go_wp2
      go_ret2
      exact ⟨rfl, HH3.low⟩

set_option maxRecDepth 100000 in
set_option maxHeartbeats 1000000 in
theorem fnExactIsEven_walk (n : Int) (f g : Nat → Nat) (_hn : -9223372036854775808 ≤ n ∧ n ≤ 9223372036854775807) (hf : ∀ i, f i < 256) (hg : ∀ i, g i < 256) (w : World) :
    Calls Try.prog 5 #[.agg (dv n f g)] w fun e w' => e = .returned (.bool true) ∧ Below w.heap.size w w' := by
  clear _hn
  obtain ⟨a, c, hR⟩ := evenR_eq n f g
  have c1 := fun w => isEven_any n f g hf hg w
  have c2 := fun w => sIsEven_any n f g hf hg w
  rw [hR] at c1 c2
  have C1 := hide c1; clear c1
  have C2 := hide c2; clear c2
  clear hR hf hg
  have hne : (c != c) = false := by simp
  have hna : (a != a) = false := by simp
  have HH0 := (Holds.start w).blk (dv n f g) 24 _ rfl
  go_enter Try.func5, Try.ntmps5
  go_wp2_with fail
  refine (toDessin_any n f g _).mono ?_
  rintro e w1 ⟨rfl, hb1⟩
  have HH1 := HH0.call hb1
  have cd1 := HH1.cells 0 rfl
  clear hb1
  go_wp2_with fail
  refine (C2.out _).mono ?_
  rintro e w2 ⟨rfl, hb2⟩
  have HH2 := HH1.call hb2
  have cd2 := HH2.cells 0 rfl
  clear hb2 cd1
  go_wp2_with fail
  refine (toDessin_any n f g _).mono ?_
  rintro e w3 ⟨rfl, hb3⟩
  have HH3 := HH2.call hb3
  have cd3 := HH3.cells 0 rfl
  clear hb3 cd2
  go_wp2_with fail
  refine (C1.out _).mono ?_
  rintro e w4 ⟨rfl, hb4⟩
  have HH4 := HH3.call hb4
  clear hb4 cd3
  go_wp2
  go_ret
  exact ⟨rfl, HH4.low⟩
end Go.Proofs.Ytgomfphdgekniaa
