/- TypeOf of the program and of the model; the walk of FnExactTypeOf -/
import Derived.Test.YtghdbnbejkneiaaCTyp
import Derived.Test.YtghdbnbejkneiaaTyp
import Derived.Test.YtghdbnbejkneiaaMk1
import Derived.Test.YtghdbnbejkneiaaSPerm
import Derived.Test.YtghdbnbejkneiaaToPl
namespace Go.Proofs.Ytghdbnbejkneiaa
open Go.RowKit

noncomputable def typeR (p : Nat → Nat) (n : Int) : List Nat := if permB p n = true then sortD (lens p n.toNat) else []
noncomputable def typeC (p : Nat → Nat) (n : Int) : Int := if permB p n = true then 0 else 1
theorem typeR_bound (p : Nat → Nat) (n : Int) : (typeR p n).length ≤ 16 := by
  unfold typeR
  split
  · rename_i h
    obtain ⟨m, rfl, hp⟩ := permB_true h
    rw [Int.toNat_natCast, (sortD_perm _).length_eq]
    exact (lens_ne hp).2
  · simp

set_option maxRecDepth 100000 in
set_option maxHeartbeats 1000000 in
theorem typeOf_any (p : Nat → Nat) (hp : ∀ i, p i < 256) (n : Int) (w : World) :
    Calls Try.prog 20 #[.agg (av p), .int .i64 n] w fun e w' => ∃ v, e = .returned (.tuple #[v, .int .i64 (typeC p n)]) ∧ Below w.heap.size w w' ∧ Own1 w.heap.size w' v (typeR p n) := by
  have C1 := hide fun w => isPerm_any p hp n w
  clear hp
  rcases h1 : permB p n with _ | _
  · rw [h1] at C1
    have hr : typeR p n = [] := by unfold typeR; rw [if_neg (by simp [h1])]
    have hc : typeC p n = 1 := by unfold typeC; rw [if_neg (by simp [h1])]
    rw [hr, hc]
    clear h1 hr hc
    go_enter Try.func20, Try.ntmps20
    go_wp2_with fail
    refine (C1.out _).mono ?_
    rintro e w1 ⟨rfl, hb⟩
    go_wp2
    go_ret2
    exact ⟨.slice none 0 0, rfl, (below1 w _).trans (hb.mono (by simp)), Own1.nil _ _⟩
  · rw [h1] at C1
    obtain ⟨m, rfl, hpm⟩ := permB_true h1
    have hr : typeR p (m : Int) = sortD (lens p m) := by unfold typeR; rw [if_pos h1, Int.toNat_natCast]
    have hc : typeC p (m : Int) = 0 := by unfold typeC; rw [if_pos h1]
    rw [hr, hc]
    clear h1 hr hc
    have C2 := hide fun w => cycleType_any p m hpm w
    clear hpm
    go_enter Try.func20, Try.ntmps20
    go_wp2_with fail
    refine (C1.out _).mono ?_
    rintro e w1 ⟨rfl, hb⟩
    have c1 : cellsOf w1 w.heap.size = av p := (below_cells hb (by simp)).trans (cellsOf_heap (heap_at _ _ _ rfl))
    go_wp2_with fail
    refine (C2.out _).mono ?_
    rintro e w2 ⟨v, rfl, hb2, ho⟩
    have s1 : w.heap.size ≤ w1.heap.size := by have := hb.size; simp at this; omega
    have b2 := (below1 w _).trans ((hb.trans (hb2.mono hb.size)).mono (by simp))
    clear hb hb2 c1
    have HO := hide ho; clear ho
    go_wp2
    go_ret2
    exact ⟨v, rfl, b2, HO.out.mono s1⟩

set_option maxRecDepth 100000 in
set_option maxHeartbeats 1000000 in
theorem sTypeOf_any (p : Nat → Nat) (hp : ∀ i, p i < 256) (n : Int) (w : World) :
    Calls Try.prog 19 #[.agg (av p), .int .i64 n] w fun e w' => ∃ v, e = .returned (.tuple #[v, .int .i64 (typeC p n)]) ∧ Below w.heap.size w w' ∧ Own1 w.heap.size w' v (typeR p n) := by
  have C1 := hide fun w => sPerm_any p hp n w
  clear hp
  rcases h1 : permB p n with _ | _
  · rw [h1] at C1
    have hr : typeR p n = [] := by unfold typeR; rw [if_neg (by simp [h1])]
    have hc : typeC p n = 1 := by unfold typeC; rw [if_neg (by simp [h1])]
    rw [hr, hc]
    clear h1 hr hc
    go_enter Try.func19, Try.ntmps19
    go_wp2_with fail
    refine (C1.out _).mono ?_
    rintro e w1 ⟨rfl, hb⟩
    go_wp2
    go_ret2
    exact ⟨.slice none 0 0, rfl, (below1 w _).trans (hb.mono (by simp)), Own1.nil _ _⟩
  · rw [h1] at C1
    obtain ⟨m, rfl, hpm⟩ := permB_true h1
    have hr : typeR p (m : Int) = sortD (lens p m) := by unfold typeR; rw [if_pos h1, Int.toNat_natCast]
    have hc : typeC p (m : Int) = 0 := by unfold typeC; rw [if_pos h1]
    rw [hr, hc]
    clear h1 hr hc
    have C2 := hide fun w => sType_any p m hpm w
    clear hpm
    go_enter Try.func19, Try.ntmps19
    go_wp2_with fail
    refine (C1.out _).mono ?_
    rintro e w1 ⟨rfl, hb⟩
    have c1 : cellsOf w1 w.heap.size = av p := (below_cells hb (by simp)).trans (cellsOf_heap (heap_at _ _ _ rfl))
    go_wp2_with fail
    refine (C2.out _).mono ?_
    rintro e w2 ⟨v, rfl, hb2, ho⟩
    have s1 : w.heap.size ≤ w1.heap.size := by have := hb.size; simp at this; omega
    have b2 := (below1 w _).trans ((hb.trans (hb2.mono hb.size)).mono (by simp))
    clear hb hb2 c1
    have HO := hide ho; clear ho
    go_wp2
    go_ret2
    exact ⟨v, rfl, b2, HO.out.mono s1⟩

set_option maxRecDepth 100000 in
set_option maxHeartbeats 1000000 in
theorem fnExactTypeOf_walk (f : Nat → Nat) (hf : ∀ i, f i < 256) (n : Int) (_hn : -9223372036854775808 ≤ n ∧ n ≤ 9223372036854775807) (w : World) :
    Calls Try.prog 4 #[.agg (av f), .int .i64 n] w fun e w' => e = .returned (.bool true) ∧ Below w.heap.size w w' := by
  clear _hn
  have C1 := hide fun w => typeOf_any f hf n w
  have C2 := hide fun w => sTypeOf_any f hf n w
  have hL := typeR_bound f n
  generalize typeR f n = L at *
  generalize typeC f n = c at *
  clear hf
  have hne : (c != c) = false := by simp
  have hnt : (((1 + L.length : Nat) : Int) != ((1 + L.length : Nat) : Int)) = false := by simp
  have hneg : decide (((1 + L.length : Nat) : Int) < 0) = false := decide_eq_false (by omega)
  go_enter Try.func4, Try.ntmps4
  go_wp2_with fail
  refine (toPlaces_any f _).mono ?_
  rintro e w1 ⟨rfl, h1⟩
  go_wp2_with fail
  refine (C2.out _).mono ?_
  rintro e w2 ⟨v0, rfl, h2, o0⟩
  obtain ⟨A0, c0, rfl, p0⟩ := own1_form o0
  clear o0
  have b2 := h1.trans (h2.mono h1.size)
  have g2 : cellsOf w2 w.heap.size = av f := (below_cells b2 (by simp)).trans (cellsOf_heap (heap_at _ _ _ rfl))
  have O0 := hide p0; clear p0
  clear h1 h2
  go_wp2_with fail
  refine (toPlaces_any f _).mono ?_
  rintro e w3 ⟨rfl, h3⟩
  go_wp2_with fail
  refine (C1.out _).mono ?_
  rintro e w4 ⟨v1, rfl, h4, o1⟩
  obtain ⟨A1, c1, rfl, p1⟩ := own1_form o1
  clear o1
  have s23 := h3.size
  have s34 := h4.size
  have h24 := h3.trans (h4.mono h3.size)
  have O04 := hide (O0.out.below h24 (Nat.le_refl _))
  have O1 := hide p1; clear p1
  have b4 := b2.trans (h24.mono b2.size)
  clear h3 h4 h24 g2
  go_wp2_with fail
  refine (eqInt64S_same L A1 A0 c1 c0 _ _ (by omega) _ O1.out O04.out).mono ?_
  rintro e w5 ⟨rfl, h5⟩
  have s45 := h5.size
  have O05 := hide (O04.out.below h5 (Nat.le_refl _))
  have O15 := hide (O1.out.below h5 (Nat.le_refl _))
  have b5 := b4.trans (h5.mono b4.size)
  clear h5
  go_wp2_with fail
  refine (mk1 L A1 c1 _ (by omega) _ (by omega) O15.out).mono ?_
  rintro e w6 ⟨rfl, h6, s56, o16⟩
  have O16 := hide o16; clear o16
  have O06 := hide (O05.out.lower h6 (fun k hk => by have := O0.out.low k hk; omega))
  have b6 := b5.trans (h6.mono (by have := b2.size; omega))
  clear h6
  go_wp2_with fail
  refine (hd1 L A1 c1 _ (by omega) _ O16.out).mono ?_
  rintro e w7 ⟨rfl, h7⟩
  have s67 := h7.size
  have O17 := hide (O16.out.below h7 (Nat.le_refl _))
  have O07 := hide (O06.out.below h7 (Nat.le_refl _))
  have b7 := b6.trans (h7.mono b6.size)
  have g7 : cellsOf w7 w.heap.size = av f := (below_cells b7 (by simp)).trans (cellsOf_heap (heap_at _ _ _ rfl))
  clear h7
  go_wp2_with fail
  refine (toPlaces_any f _).mono ?_
  rintro e w8 ⟨rfl, h8⟩
  go_wp2_with fail
  refine (C1.out _).mono ?_
  rintro e w9 ⟨v2, rfl, h9, o2⟩
  obtain ⟨A2, c2, rfl, p2⟩ := own1_form o2
  clear o2
  have h79 := h8.trans (h9.mono h8.size)
  have O09 := hide (O07.out.below h79 (Nat.le_refl _))
  have O19 := hide (O17.out.below h79 (Nat.le_refl _))
  have O2 := hide p2; clear p2
  have b9 := b7.trans (h79.mono b7.size)
  clear h8 h9 h79 g7
  go_wp2_with fail
  refine (eqInt64S_same L A2 A0 c2 c0 _ _ (by omega) _ O2.out O09.out).mono ?_
  rintro e w10 ⟨rfl, h10⟩
  have O110 := hide (O19.out.below h10 (Nat.le_refl _))
  have b10 := b9.trans (h10.mono b9.size)
  clear h10
  go_wp2_with fail
  refine (hd1 L A1 c1 _ (by omega) _ O110.out).mono ?_
  rintro e w11 ⟨rfl, h11⟩
  have b11 := b10.trans (h11.mono b10.size)
  clear h11
  go_wp2
  go_ret
  exact ⟨rfl, (below1 w _).trans (b11.mono (by simp))⟩
end Go.Proofs.Ytghdbnbejkneiaa
