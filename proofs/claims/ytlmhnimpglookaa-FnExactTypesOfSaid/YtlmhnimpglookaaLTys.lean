/- TypesOf of program and model; the walk of FnExactTypesOf -/
import Derived.Test.YtlmhnimpglookaaTyP
import Derived.Test.YtlmhnimpglookaaTyS
import Derived.Test.YtlmhnimpglookaaMark
namespace Go.Proofs.Ytlmhnimpglookaa
open Go.RowKit

def tysR (n : Int) : List (List Nat) := if 1 ≤ n ∧ n ≤ 16 then typ n.toNat n.toNat else []
def tysC (n : Int) : Int := if 1 ≤ n ∧ n ≤ 16 then 0 else 2
theorem total_le {ls : List (List Nat)} (h : ∀ l ∈ ls, l.length ≤ 16) : total ls ≤ 16 * ls.length := by
  induction ls with
  | nil => simp [total]
  | cons l ls ih =>
    have h1 := ih fun x hx => h x (by simp [hx])
    have h2 := h l (by simp)
    unfold total at *
    rw [List.map_cons, List.sum_cons, List.length_cons]
    omega
theorem tysR_bounds (n : Int) : total (tysR n) ≤ 4800 ∧ (tysR n).length ≤ 300 := by
  unfold tysR
  split
  · rename_i h
    have hb := typ_bd (n := n.toNat) (g := n.toNat) (by omega) (by omega)
    have := total_le hb.2
    omega
  · simp [total]

set_option maxRecDepth 100000 in
set_option maxHeartbeats 1000000 in
theorem typesOf_any (n : Int) (w : World) :
    Calls Try.prog 20 #[.int .i64 n] w fun e w' => ∃ v, e = .returned (.tuple #[v, .int .i64 (tysC n)]) ∧ Below w.heap.size w w' ∧ Own2 w.heap.size w' v (tysR n) := by
  by_cases h1 : 1 ≤ n ∧ n ≤ 16
  · have hr : tysR n = typ n.toNat n.toNat := by unfold tysR; rw [if_pos h1]
    have hc : tysC n = 0 := by unfold tysC; rw [if_pos h1]
    rw [hr, hc]
    obtain ⟨N, rfl⟩ := Int.eq_ofNat_of_zero_le (show 0 ≤ n by omega)
    rw [Int.toNat_natCast]
    have C := hide (typesUpTo_any 16 N N (by omega) (by omega) (by omega))
    obtain ⟨T, hT⟩ : ∃ T, T = typ N N := ⟨_, rfl⟩
    rw [← hT] at C ⊢
    clear hr hc hT
    go_enter Try.func20, Try.ntmps20
    go_wp2_with (go_at_call 50; refine (dart_yes _ _ h1.1 h1.2).mono ?_; rintro e w' ⟨rfl, rfl⟩)
    refine (C.out _).mono ?_
    rintro e w1 ⟨v, vs, rfl, hl, hN⟩
    obtain ⟨A1, c1, rfl⟩ := hN.valsForm 0 rfl
    have ho := Holds.own2 (A := []) hl hN
    rw [hl] at ho
    have hlow := hN.low
    have HLL := hide hl
    rw [hl]
    clear hl hN
    go_wp2
    go_ret2
    exact ⟨_, rfl, hlow, ho⟩
  · have hr : tysR n = [] := by unfold tysR; rw [if_neg h1]
    have hc : tysC n = 2 := by unfold tysC; rw [if_neg h1]
    rw [hr, hc]
    clear hr hc
    go_enter Try.func20, Try.ntmps20
    go_wp2_with (go_at_call 50; refine (dart_no _ _ h1).mono ?_; rintro e w' ⟨rfl, rfl⟩)
    go_ret2
    exact ⟨_, rfl, Below.refl _ _, Own2.nil _ _⟩

set_option maxRecDepth 100000 in
set_option maxHeartbeats 1000000 in
theorem sTypesOf_any (n : Int) (w : World) :
    Calls Try.prog 19 #[.int .i64 n] w fun e w' => ∃ v, e = .returned (.tuple #[v, .int .i64 (tysC n)]) ∧ Below w.heap.size w w' ∧ Own2 w.heap.size w' v (tysR n) := by
  by_cases h1 : 1 ≤ n ∧ n ≤ 16
  · have hr : tysR n = typ n.toNat n.toNat := by unfold tysR; rw [if_pos h1]
    have hc : tysC n = 0 := by unfold tysC; rw [if_pos h1]
    rw [hr, hc]
    obtain ⟨N, rfl⟩ := Int.eq_ofNat_of_zero_le (show 0 ≤ n by omega)
    rw [Int.toNat_natCast]
    have hb := (typ_bd (n := N) (g := N) (by omega) (by omega)).1
    have H1 := (Holds.start w).rowNew #[] 2 1 0 w.heap.size rfl rfl (by decide)
    have H2 : Holds w (w.alloc (.cells #[] 2)) (pVals (.slice none 0 0) [] :: pInts (.slice (some ⟨w.heap.size, 0, none⟩) 0 0) [] :: ([] ++ rowsP [] [])) := H1.nilRow 22 1
    have c := l04Types_any 16 N N (by omega) (by omega) (by omega) [] _ _ [] [] w _ [] (by simp; omega) rfl (by simp; omega) H2
    have e0 : [] ++ (typ N N).map (([] : List Nat) ++ ·) = typ N N := by simp
    rw [e0] at c
    have C := hide c; clear c H1 H2 e0 hb
    obtain ⟨T, hT⟩ : ∃ T, T = typ N N := ⟨_, rfl⟩
    rw [← hT] at C ⊢
    clear hr hc hT
    go_enter Try.func19, Try.ntmps19
    go_wp2_with (go_at_call 51; refine (in_yes _ _ _ _ h1.1 h1.2).mono ?_; rintro e w' ⟨rfl, rfl⟩)
    refine C.out.mono ?_
    rintro e w1 ⟨v, rfl, vs, hl, hN⟩
    obtain ⟨A1, c1, rfl⟩ := hN.valsForm 0 rfl
    have ho := Holds.own2 (A := []) hl hN
    rw [hl] at ho
    have hlow := hN.low
    have HLL := hide hl
    rw [hl]
    clear hl hN
    go_wp2
    go_ret2
    exact ⟨_, rfl, hlow, ho⟩
  · have hr : tysR n = [] := by unfold tysR; rw [if_neg h1]
    have hc : tysC n = 2 := by unfold tysC; rw [if_neg h1]
    rw [hr, hc]
    clear hr hc
    go_enter Try.func19, Try.ntmps19
    go_wp2_with (go_at_call 51; refine (in_no _ _ _ _ h1).mono ?_; rintro e w' ⟨rfl, rfl⟩)
    go_ret2
    exact ⟨_, rfl, Below.refl _ _, Own2.nil _ _⟩

set_option maxRecDepth 100000 in
set_option maxHeartbeats 1000000 in
theorem fnExactTypesOf_walk (n : Int) (_hn : -9223372036854775808 ≤ n ∧ n ≤ 9223372036854775807) (w : World) :
    Calls Try.prog 4 #[.int .i64 n] w fun e w' => e = .returned (.bool true) ∧ Below w.heap.size w w' := by
  clear _hn
  have C1 := hide fun w => typesOf_any n w
  have C2 := hide fun w => sTypesOf_any n w
  obtain ⟨hT, hL⟩ := tysR_bounds n
  generalize tysR n = L at *
  generalize tysC n = c at *
  have hne : (c != c) = false := by simp
  have hnt : (((1 + total L : Nat) : Int) != ((1 + total L : Nat) : Int)) = false := by simp
  have hneg : decide (((1 + total L : Nat) : Int) < 0) = false := decide_eq_false (by omega)
  go_enter Try.func4, Try.ntmps4
  go_wp2_with fail
  refine (C2.out _).mono ?_
  rintro e w2 ⟨v0, rfl, b2, o0⟩
  obtain ⟨A0, c0, vs0, rfl, p0⟩ := own2_form o0
  clear o0
  have O0 := hide p0; clear p0
  go_wp2_with fail
  refine (C1.out _).mono ?_
  rintro e w4 ⟨v1, rfl, h4, o1⟩
  obtain ⟨A1, c1, vs1, rfl, p1⟩ := own2_form o1
  clear o1
  have s24 := h4.size
  have O04 := hide (O0.out.below h4 (Nat.le_refl _))
  have O1 := hide p1; clear p1
  have b4 := b2.trans (h4.mono b2.size)
  clear h4
  go_wp2_with fail
  refine (eqInt64SS_same L A1 A0 c1 c0 _ _ vs1 vs0 (by omega) (by omega) _ O1.out O04.out).mono ?_
  rintro e w5 ⟨rfl, h5⟩
  have s45 := h5.size
  have O05 := hide (O04.out.below h5 (Nat.le_refl _))
  have O15 := hide (O1.out.below h5 (Nat.le_refl _))
  have b5 := b4.trans (h5.mono b4.size)
  clear h5
  go_wp2_with fail
  refine (mark1 L A1 c1 _ vs1 (by omega) (by omega) _ (by omega) O15.out).mono ?_
  rintro e w6 ⟨rfl, h6, s56, o16⟩
  have O16 := hide o16; clear o16
  have O06 := hide (O05.out.lower h6 (fun k hk => by have := O0.out.lt.1 k hk; omega) (fun i u hu k hk => by have := O0.out.lt.2 i u hu k hk; omega))
  have b6 := b5.trans (h6.mono (by have := b2.size; omega))
  clear h6
  go_wp2_with fail
  refine (held1 L A1 c1 _ vs1 (by omega) (by omega) _ O16.out).mono ?_
  rintro e w7 ⟨rfl, h7⟩
  have s67 := h7.size
  have O17 := hide (O16.out.below h7 (Nat.le_refl _))
  have O07 := hide (O06.out.below h7 (Nat.le_refl _))
  have b7 := b6.trans (h7.mono b6.size)
  clear h7
  go_wp2_with fail
  refine (C1.out _).mono ?_
  rintro e w9 ⟨v2, rfl, h9, o2⟩
  obtain ⟨A2, c2, vs2, rfl, p2⟩ := own2_form o2
  clear o2
  have O09 := hide (O07.out.below h9 (Nat.le_refl _))
  have O19 := hide (O17.out.below h9 (Nat.le_refl _))
  have O2 := hide p2; clear p2
  have b9 := b7.trans (h9.mono b7.size)
  clear h9
  go_wp2_with fail
  refine (eqInt64SS_same L A2 A0 c2 c0 _ _ vs2 vs0 (by omega) (by omega) _ O2.out O09.out).mono ?_
  rintro e w10 ⟨rfl, h10⟩
  have O110 := hide (O19.out.below h10 (Nat.le_refl _))
  have b10 := b9.trans (h10.mono b9.size)
  clear h10
  go_wp2_with fail
  refine (held1 L A1 c1 _ vs1 (by omega) (by omega) _ O110.out).mono ?_
  rintro e w11 ⟨rfl, h11⟩
  have b11 := b10.trans (h11.mono b10.size)
  clear h11
  go_wp2
  go_ret
  exact ⟨rfl, b11⟩
end Go.Proofs.Ytlmhnimpglookaa
