/- PassportOf of the program and of the model; the walk of FnExactPassportOf -/
import Derived.Test.YtghdbnbejkneiaaPass
import Derived.Test.YtghdbnbejkneiaaCTyp
import Derived.Test.YtghdbnbejkneiaaToDs
namespace Go.Proofs.Ytghdbnbejkneiaa
open Go.RowKit

noncomputable def passR (n : Int) (f g : Nat → Nat) : List (List Nat) := if desB n f g = true then passN f g n.toNat else []
noncomputable def passC (n : Int) (f g : Nat → Nat) : Int := if desB n f g = true then 0 else 1
theorem passR_bounds (n : Int) (f g : Nat → Nat) : total (passR n f g) ≤ 48 ∧ (passR n f g).length ≤ 16 := by
  unfold passR
  split
  · rename_i h
    obtain ⟨m, rfl, hd⟩ := desB_true h
    rw [Int.toNat_natCast]
    have len : ∀ {p : Nat → Nat}, PermN p m → (sortD (lens p m)).length ≤ 16 := fun hp => by rw [(sortD_perm _).length_eq]; exact (lens_ne hp).2
    have h1 := len hd.black
    have h2 := len hd.white
    have h3 := len hd.face
    unfold passN total
    simp
    omega
  · simp [total]
theorem passN_take (f g : Nat → Nat) (m k : Nat) (hk : k < 3) : (passN f g m).take (k + 1) = (passN f g m).take k ++ [sortD (lens (pick3 f g (faceF f g m) k) m)] := by
  unfold passN pick3
  have : k = 0 ∨ k = 1 ∨ k = 2 := by omega
  rcases this with rfl | rfl | rfl <;> rfl

set_option maxRecDepth 100000 in
set_option maxHeartbeats 1000000 in
theorem passportOf_any (n : Int) (f g : Nat → Nat) (hf : ∀ i, f i < 256) (hg : ∀ i, g i < 256) (w : World) :
    Calls Try.prog 30 #[.agg (dv n f g)] w fun e w' => ∃ v, e = .returned (.tuple #[v, .int .i64 (passC n f g)]) ∧ Below w.heap.size w w' ∧ Own2 w.heap.size w' v (passR n f g) := by
  have C1 := hide fun w => isDessin_any n f g hf hg w
  clear hf hg
  rcases h1 : desB n f g with _ | _
  · rw [h1] at C1
    have hr : passR n f g = [] := by unfold passR; rw [if_neg (by simp [h1])]
    have hc : passC n f g = 1 := by unfold passC; rw [if_neg (by simp [h1])]
    rw [hr, hc]
    clear h1 hr hc
    go_enter Try.func30, Try.ntmps30
    go_wp2_with fail
    refine (C1.out _).mono ?_
    rintro e w1 ⟨rfl, hb⟩
    go_wp2
    go_ret2
    exact ⟨.slice none 0 0, rfl, (below1 w _).trans (hb.mono (by simp)), Own2.nil _ _⟩
  · rw [h1] at C1
    obtain ⟨m, rfl, hd⟩ := desB_true h1
    have hn := dv_n m f g
    have hr : passR (m : Int) f g = passN f g m := by unfold passR; rw [if_pos h1, Int.toNat_natCast]
    have hc : passC (m : Int) f g = 0 := by unfold passC; rw [if_pos h1]
    rw [hr, hc]
    clear h1 hr hc
    have C2 := hide fun w => turnsOf_any f g m hd w
    have C3 := hide fun (k : Nat) w => cycleType_any (pick3 f g (faceF f g m) k) m (hd.pick k) w
    clear hd
    go_enter Try.func30, Try.ntmps30
    go_wp2_with fail
    refine (C1.out _).mono ?_
    rintro e w1 ⟨rfl, hb⟩
    have c1 : cellsOf w1 w.heap.size = dv m f g := (below_cells hb (by simp)).trans (cellsOf_heap (heap_at _ _ _ rfl))
    go_wp2_with fail
    refine (C2.out _).mono ?_
    rintro e w2 ⟨rfl, hb2⟩
    have c2 : cellsOf w2 w.heap.size = dv m f g := (below_cells hb2 (by have := hb.size; simp at this; omega)).trans c1
    have b2 := (below1 w (.cells (dv m f g) 39)).trans ((hb.trans (hb2.mono hb.size)).mono (by simp))
    have l2 : w.heap.size < w2.heap.size := by have := hb.size; have := hb2.size; simp at *; omega
    clear hb hb2 c1
    go_wp2
    go_loopw [12, 4] (fun i out wr => ∃ k : Nat, k ≤ 3 ∧ i = .int .i64 k ∧ Below w.heap.size w wr ∧ cellsOf wr w.heap.size = dv m f g ∧ w.heap.size < wr.heap.size ∧ Own2 (w.heap.size + 1) wr out ((passN f g m).take k)) (fun i _ _ => 3 - (intOf i).toNat)
    case atStart => exact ⟨0, by omega, rfl, b2, c2, l2, Own2.nil _ _⟩
    case round =>
      obtain ⟨k, hk, rfl, hbw, hcw, hlw, hown⟩ := hrel
      by_cases hlt : k < 3
      · have c0 : wr.cell? ⟨w.heap.size, 0, none⟩ = some (.int .i64 m) := by rw [cell_of_cells, hcw]; exact hn
        have C4 := hide fun w => C3.out k w
        have HT := hide (passN_take f g m k hlt)
        have hll : ((passN f g m).take k).length ≤ 3 := by simp; omega
        generalize (passN f g m).take k = T at *
        generalize sortD (lens (pick3 f g (faceF f g m) k) m) = l at *
        have HC := hide hcw; clear hcw
        have HO := hide hown; clear hown
        go_wp2_with fail
        refine (C4.out _).mono ?_
        rintro e w3 ⟨u, rfl, hb3, ho3⟩
        have hb3' : Below wr.heap.size wr w3 := (below1 wr _).trans (hb3.mono (by simp))
        have hu : Own1 wr.heap.size w3 u l := ho3.mono (by simp)
        have s3 := hb3'.size
        have c3 := (below_cells hb3' hlw).trans HC.out
        obtain ⟨Au, du, rfl⟩ := own_slice hu
        clear hb3 ho3 c0
        go_wp2_with (at_builtin; refine app2 rfl _ _ rfl rfl HO.out hb3' hu (by omega) _ rfl rfl (by omega) fun v' w' ho' hg' hs' hlow => ?_)
        have b4 : Below w.heap.size w w' := (hbw.trans (hb3'.mono (by omega))).grown hg' (by omega) (fun g hg => by have := hlow g hg; omega)
        have c4 : cellsOf w' w.heap.size = dv m f g := by rw [grown_cells hg' (by omega) (fun e => by have := hlow _ e.symm; omega)]; exact c3
        have HO' := hide ho'; clear ho' hg' hlow hu c3 hb3' hbw
        have HC' := hide c4; clear c4
        go_wp2
        go_roundw
        case rel => exact ⟨k + 1, by omega, by go_num, b4, HC'.out, by omega, by rw [HT.out]; exact HO'.out⟩
        case measure => simp [intOf]; omega
      · obtain rfl : k = 3 := by omega
        have hT : (passN f g m).take 3 = passN f g m := rfl
        rw [hT] at hown
        have HO := hide (hown.mono (B' := w.heap.size) (by omega)); clear hown hT hlt hk
        go_wp2
        go_ret2
        exact ⟨_, rfl, hbw, HO.out⟩

set_option maxRecDepth 100000 in
set_option maxHeartbeats 1000000 in
theorem sPassportOf_any (n : Int) (f g : Nat → Nat) (hf : ∀ i, f i < 256) (hg : ∀ i, g i < 256) (w : World) :
    Calls Try.prog 29 #[.agg (dv n f g)] w fun e w' => ∃ v, e = .returned (.tuple #[v, .int .i64 (passC n f g)]) ∧ Below w.heap.size w w' ∧ Own2 w.heap.size w' v (passR n f g) := by
  have C1 := hide fun w => sIs_any n f g hf hg w
  clear hf hg
  rcases h1 : desB n f g with _ | _
  · rw [h1] at C1
    have hr : passR n f g = [] := by unfold passR; rw [if_neg (by simp [h1])]
    have hc : passC n f g = 1 := by unfold passC; rw [if_neg (by simp [h1])]
    rw [hr, hc]
    clear h1 hr hc
    go_enter Try.func29, Try.ntmps29
    go_wp2_with fail
    refine (C1.out _).mono ?_
    rintro e w1 ⟨rfl, hb⟩
    go_wp2
    go_ret2
    exact ⟨.slice none 0 0, rfl, (below1 w _).trans (hb.mono (by simp)), Own2.nil _ _⟩
  · rw [h1] at C1
    obtain ⟨m, rfl, hd⟩ := desB_true h1
    have hn := dv_n m f g
    have hr : passR (m : Int) f g = passN f g m := by unfold passR; rw [if_pos h1, Int.toNat_natCast]
    have hc : passC (m : Int) f g = 0 := by unfold passC; rw [if_pos h1]
    rw [hr, hc]
    clear h1 hr hc
    have C2 := hide fun w => sPassport_any f g m hd w
    clear hd
    go_enter Try.func29, Try.ntmps29
    go_wp2_with fail
    refine (C1.out _).mono ?_
    rintro e w1 ⟨rfl, hb⟩
    have c1 : cellsOf w1 w.heap.size = dv m f g := (below_cells hb (by simp)).trans (cellsOf_heap (heap_at _ _ _ rfl))
    go_wp2_with fail
    refine (C2.out _).mono ?_
    rintro e w2 ⟨v, rfl, hb2, ho⟩
    have s1 : w.heap.size ≤ w1.heap.size := by have := hb.size; simp at this; omega
    have b2 := (below1 w _).trans ((hb.trans (hb2.mono hb.size)).mono (by simp))
    clear hb hb2 c1
    have HO := hide ho; clear ho
    go_wp2
    go_ret2
    exact ⟨v, rfl, b2, HO.out.mono s1⟩

set_option maxRecDepth 100000 in
set_option maxHeartbeats 1000000 in
theorem fnExactPassportOf_walk (n : Int) (f g : Nat → Nat) (_hn : -9223372036854775808 ≤ n ∧ n ≤ 9223372036854775807) (hf : ∀ i, f i < 256) (hg : ∀ i, g i < 256) (w : World) :
    Calls Try.prog 7 #[.agg (dv n f g)] w fun e w' => e = .returned (.bool true) ∧ Below w.heap.size w w' := by
  clear _hn 
  have C1 := hide fun w => passportOf_any n f g hf hg  w
  have C2 := hide fun w => sPassportOf_any n f g hf hg  w
  obtain ⟨hT, hL⟩ := passR_bounds n f g
  generalize passR n f g = L at *
  generalize passC n f g = c at *
  clear hf hg
  have hne : (c != c) = false := by simp
  have hnt : (((1 + total L : Nat) : Int) != ((1 + total L : Nat) : Int)) = false := by simp
  have hneg : decide (((1 + total L : Nat) : Int) < 0) = false := decide_eq_false (by omega)
  go_enter Try.func7, Try.ntmps7
  go_wp2_with fail
  refine (toDessin_any n f g _).mono ?_
  rintro e w1 ⟨rfl, h1⟩
  go_wp2_with fail
  refine (C2.out _).mono ?_
  rintro e w2 ⟨v0, rfl, h2, o0⟩
  obtain ⟨A0, c0, vs0, rfl, p0⟩ := own2_form o0
  clear o0
  have b2 := h1.trans (h2.mono h1.size)
  have g2 : cellsOf w2 w.heap.size = dv n f g := (below_cells b2 (by simp)).trans (cellsOf_heap (heap_at _ _ _ rfl))
  have O0 := hide p0; clear p0
  clear h1 h2
  go_wp2_with fail
  refine (toDessin_any n f g _).mono ?_
  rintro e w3 ⟨rfl, h3⟩
  go_wp2_with fail
  refine (C1.out _).mono ?_
  rintro e w4 ⟨v1, rfl, h4, o1⟩
  obtain ⟨A1, c1, vs1, rfl, p1⟩ := own2_form o1
  clear o1
  have s23 := h3.size
  have s34 := h4.size
  have h24 := h3.trans (h4.mono h3.size)
  have O04 := hide (O0.out.below h24 (Nat.le_refl _))
  have O1 := hide p1; clear p1
  have b4 := b2.trans (h24.mono b2.size)
  clear h3 h4 h24 g2
  go_wp2_with fail
  refine (eqInt64SS_same L A1 A0 c1 c0 _ _ vs1 vs0 (by omega) (by omega) _ O1.out O04.out).mono ?_
  rintro e w5 ⟨rfl, h5⟩
  have s45 := h5.size
  have O05 := hide (O04.out.below h5 (Nat.le_refl _))
  have O15 := hide (O1.out.below h5 (Nat.le_refl _))
  have b5 := b4.trans (h5.mono b4.size)
  clear h5
  go_wp2_with fail
  refine (mark1 L A1 c1 _ vs1 (by omega) (by omega) _ (by omega) O15.out).mono ?_
  rintro e w6 ⟨rfl, h6, s56, o16⟩
  have O16 := hide o16; clear o16
  have O06 := hide (O05.out.lower h6 (fun k hk => by have := O0.out.lt.1 k hk; omega) (fun i u hu k hk => by have := O0.out.lt.2 i u hu k hk; omega))
  have b6 := b5.trans (h6.mono (by have := b2.size; omega))
  clear h6
  go_wp2_with fail
  refine (held1 L A1 c1 _ vs1 (by omega) (by omega) _ O16.out).mono ?_
  rintro e w7 ⟨rfl, h7⟩
  have s67 := h7.size
  have O17 := hide (O16.out.below h7 (Nat.le_refl _))
  have O07 := hide (O06.out.below h7 (Nat.le_refl _))
  have b7 := b6.trans (h7.mono b6.size)
  have g7 : cellsOf w7 w.heap.size = dv n f g := (below_cells b7 (by simp)).trans (cellsOf_heap (heap_at _ _ _ rfl))
  clear h7
  go_wp2_with fail
  refine (toDessin_any n f g _).mono ?_
  rintro e w8 ⟨rfl, h8⟩
  go_wp2_with fail
  refine (C1.out _).mono ?_
  rintro e w9 ⟨v2, rfl, h9, o2⟩
  obtain ⟨A2, c2, vs2, rfl, p2⟩ := own2_form o2
  clear o2
  have h79 := h8.trans (h9.mono h8.size)
  have O09 := hide (O07.out.below h79 (Nat.le_refl _))
  have O19 := hide (O17.out.below h79 (Nat.le_refl _))
  have O2 := hide p2; clear p2
  have b9 := b7.trans (h79.mono b7.size)
  clear h8 h9 h79 g7
  go_wp2_with fail
  refine (eqInt64SS_same L A2 A0 c2 c0 _ _ vs2 vs0 (by omega) (by omega) _ O2.out O09.out).mono ?_
  rintro e w10 ⟨rfl, h10⟩
  have O110 := hide (O19.out.below h10 (Nat.le_refl _))
  have b10 := b9.trans (h10.mono b9.size)
  clear h10
  go_wp2_with fail
  refine (held1 L A1 c1 _ vs1 (by omega) (by omega) _ O110.out).mono ?_
  rintro e w11 ⟨rfl, h11⟩
  have b11 := b10.trans (h11.mono b10.size)
  clear h11
  go_wp2
  go_ret
  exact ⟨rfl, (below1 w _).trans (b11.mono (by simp))⟩
end Go.Proofs.Ytghdbnbejkneiaa
