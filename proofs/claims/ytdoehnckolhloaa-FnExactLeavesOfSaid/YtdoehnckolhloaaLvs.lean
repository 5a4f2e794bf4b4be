/- LeavesOf of the program and of the model; the walk of FnExactLeavesOf. -/
import Derived.Test.YtdoehnckolhloaaTre
import Derived.Test.YtdoehnckolhloaaHS2
import Derived.Test.YtdoehnckolhloaaMk1
namespace Go.Proofs.Ytdoehnckolhloaa
open Go.RowKit

def lvP (f g : Nat → Nat) (x : Nat) : Bool := f x == x || g x == x
def lvL (f g : Nat → Nat) (k : Nat) : List Nat := (List.range k).filter (lvP f g)
theorem lvL_len (f g : Nat → Nat) (k : Nat) : (lvL f g k).length ≤ k := by unfold lvL; exact Nat.le_trans (List.length_filter_le _ _) (by simp)
theorem lvL_yes {f g : Nat → Nat} {k : Nat} (h : lvP f g k = true) : lvL f g (k + 1) = lvL f g k ++ [k] := by unfold lvL; rw [List.range_succ, List.filter_append, List.filter_cons_of_pos h]; rfl
theorem lvL_no {f g : Nat → Nat} {k : Nat} (h : lvP f g k = false) : lvL f g (k + 1) = lvL f g k := by unfold lvL; rw [List.range_succ, List.filter_append, List.filter_cons_of_neg (by simp [h])]; simp
noncomputable def lvR (n : Int) (f g : Nat → Nat) : List Nat := if tcode n f g = 0 then lvL f g n.toNat else []
theorem tcode_zero {n : Int} {f g : Nat → Nat} (h : tcode n f g = 0) : ∃ m : Nat, n = (m : Int) ∧ DesN f g m ∧ treP f g m := by
  unfold tcode at h
  split at h
  · rename_i h1
    obtain ⟨m, rfl, hd⟩ := desB_true h1
    rw [Int.toNat_natCast] at h
    split at h
    · exact ⟨m, rfl, hd, by assumption⟩
    · omega
  · omega
theorem lvR_bound (n : Int) (f g : Nat → Nat) : (lvR n f g).length ≤ 16 := by
  unfold lvR
  split
  · rename_i h
    obtain ⟨m, rfl, hd, _⟩ := tcode_zero h
    rw [Int.toNat_natCast]
    exact Nat.le_trans (lvL_len f g m) hd.le
  · simp

set_option maxRecDepth 100000 in
set_option maxHeartbeats 1000000 in
theorem leavesOf_any (n : Int) (f g : Nat → Nat) (hf : ∀ i, f i < 256) (hg : ∀ i, g i < 256) (w : World) :
    Calls Try.prog 23 #[.agg (dv n f g)] w fun e w' => ∃ v, e = .returned (.tuple #[v, .int .i64 (tcode n f g)]) ∧ Below w.heap.size w w' ∧ Own1 w.heap.size w' v (lvR n f g) := by
  have C1 := hide fun w => treeCode_any n f g hf hg w
  have HH0 := (Holds.start w).blk (dv n f g) 29 w.heap.size rfl
  clear hf hg
  have hn := dv_n n f g
  by_cases h0 : tcode n f g = 0
  · obtain ⟨m, rfl, hd, -⟩ := tcode_zero h0
    have hr : lvR (m : Int) f g = lvL f g m := by unfold lvR; rw [if_pos h0, Int.toNat_natCast]
    rw [hr]
    rw [h0] at C1 ⊢
    have hm := hd.le
    have HD := hide hd
    clear h0 hr hd
    go_enter Try.func23, Try.ntmps23
    go_wp2_with fail
    refine (C1.out _).mono ?_
    rintro e w1 ⟨rfl, hb1⟩
    have HH1 := HH0.call hb1
    have cd1 := HH1.cells 0 rfl
    have cn1 := HH1.cell 0 rfl hn
    clear hb1
    have H0 : Holds w w1 (pInts (.slice none 0 0) (lvL f g 0) :: [pBlk w.heap.size (dv m f g) 29]) := HH1.nilRow 2 1
    clear HH1 HH0
    go_wp2
    clear cd1 cn1
    generalize hG : w.heap.size = G at *
    have HG := hide hG; clear hG
    go_loopw [5, 14] (fun v t wr => ∃ k : Nat, k ≤ m ∧ t = .int .i64 k ∧ Holds w wr (pInts v (lvL f g k) :: [pBlk G (dv m f g) 29])) (fun _ t _ => m - (intOf t).toNat)
    case atStart => exact ⟨0, Nat.zero_le _, rfl, H0⟩
    case round =>
      clear H0
      obtain ⟨k, hk, rfl, hH⟩ := hrel
      have cn := hH.cell 1 rfl hn
      by_cases hlt : k < m
      · have hlt' : (k : Int) < m := by omega
        have hk16 : (k : Int) < 16 := by omega
        have cb := hH.cell 1 rfl (dv_b (m : Int) f g (i := k) (by omega))
        have cw := hH.cell 1 rfl (dv_w (m : Int) f g (i := k) (by omega))
        have hll := lvL_len f g k
        have hyes := fun h => lvL_yes (f := f) (g := g) (k := k) h
        have hno := fun h => lvL_no (f := f) (g := g) (k := k) h
        unfold lvP at hyes hno
        have yb := (HD.out.black.lt k (by omega))
        have zb := (HD.out.white.lt k (by omega))
        generalize f k = y at *
        generalize g k = z at *
        have step : ∀ (b : Bool), b = (y == k || z == k) → (b = true → lvL f g (k + 1) = lvL f g k ++ [k]) ∧ (b = false → lvL f g (k + 1) = lvL f g k) := fun b hb => ⟨fun h => hyes (by rw [← hb, h]), fun h => hno (by rw [← hb, h])⟩
        have HS := hide step; clear step hyes hno
        by_cases hy : y = k
        · have e1 : (((y : Nat) : Int) == (k : Int)) = true := by simp [hy]
          have hs := (HS.out true (by simp [hy])).1 rfl
          have HL := hide hs; clear hs HS hy
          go_wp2_with (at_builtin; refine appI (hH.alloc _) 0 rfl wr.heap.size [k] 2 ?_ ?_ rfl _ _ rfl rfl rfl ?_)
          · first | exact heap_at _ _ _ rfl | exact (Array.getElem?_eq_some_iff.1 (heap_at wr _ _ rfl)).2
          · simp only [List.length_cons, List.length_nil]; omega
          intro v' w' h1
          clear hH cb cw cn
          go_wp2
          go_roundw
          case rel => exact ⟨k + 1, by omega, by go_num, by rw [HL.out]; exact h1⟩
          case measure => simp [intOf]; omega
        · have e1 : (((y : Nat) : Int) == (k : Int)) = false := by simp; omega
          by_cases hz : z = k
          · have e2 : (((z : Nat) : Int) == (k : Int)) = true := by simp [hz]
            have hs := (HS.out true (by simp [hz])).1 rfl
            have HL := hide hs; clear hs HS hy hz
            go_wp2_with (at_builtin; refine appI (hH.alloc _) 0 rfl wr.heap.size [k] 2 ?_ ?_ rfl _ _ rfl rfl rfl ?_)
            · first | exact heap_at _ _ _ rfl | exact (Array.getElem?_eq_some_iff.1 (heap_at wr _ _ rfl)).2
            · simp only [List.length_cons, List.length_nil]; omega
            intro v' w' h1
            clear hH cb cw cn
            go_wp2
            go_roundw
            case rel => exact ⟨k + 1, by omega, by go_num, by rw [HL.out]; exact h1⟩
            case measure => simp [intOf]; omega
          · have e2 : (((z : Nat) : Int) == (k : Int)) = false := by simp; omega
            have hs := (HS.out false (by simp [hy, hz])).2 rfl
            have HL := hide hs; clear hs HS hy hz
            go_wp2
            go_roundw
            case rel => exact ⟨k + 1, by omega, by go_num, by rw [HL.out]; exact hH⟩
            case measure => simp [intOf]; omega
      · obtain rfl : k = m := by omega
        clear hlt
        go_wp2
        go_ret2
        exact ⟨_, rfl, hH.low, hH.own1 0 rfl⟩
  · have hr : lvR n f g = [] := by unfold lvR; rw [if_neg h0]
    rw [hr]
    generalize tcode n f g = c at *
    have hne : (c != 0) = true := by simp [h0]
    clear h0 hr
    go_enter Try.func23, Try.ntmps23
    go_wp2_with fail
    refine (C1.out _).mono ?_
    rintro e w1 ⟨rfl, hb1⟩
    have HH1 := HH0.call hb1
    clear hb1
    go_wp2
    go_ret2
    exact ⟨.slice none 0 0, rfl, HH1.low, Own1.nil _ _⟩

set_option maxRecDepth 100000 in
set_option maxHeartbeats 1000000 in
theorem sLeavesOf_any (n : Int) (f g : Nat → Nat) (hf : ∀ i, f i < 256) (hg : ∀ i, g i < 256) (w : World) :
    Calls Try.prog 22 #[.agg (dv n f g)] w fun e w' => ∃ v, e = .returned (.tuple #[v, .int .i64 (tcode n f g)]) ∧ Below w.heap.size w w' ∧ Own1 w.heap.size w' v (lvR n f g) := by
  have C1 := hide fun w => l05Code_any n f g hf hg w
  have HH0 := (Holds.start w).blk (dv n f g) 29 w.heap.size rfl
  clear hf hg
  have hn := dv_n n f g
  by_cases h0 : tcode n f g = 0
  · obtain ⟨m, rfl, hd, -⟩ := tcode_zero h0
    have hr : lvR (m : Int) f g = lvL f g m := by unfold lvR; rw [if_pos h0, Int.toNat_natCast]
    rw [hr]
    rw [h0] at C1 ⊢
    have hm := hd.le
    have HD := hide hd
    clear h0 hr hd
    go_enter Try.func22, Try.ntmps22
    go_wp2_with fail
    refine (C1.out _).mono ?_
    rintro e w1 ⟨rfl, hb1⟩
    have HH1 := HH0.call hb1
    have cd1 := HH1.cells 0 rfl
    have cn1 := HH1.cell 0 rfl hn
    clear hb1
    have H0 : Holds w (w1.alloc (.cells #[] 2)) (pInts (.slice (some ⟨w1.heap.size, 0, none⟩) 0 0) (lvL f g 0) :: [pBlk w.heap.size (dv m f g) 29]) := HH1.rowNew #[] 2 1 0 w1.heap.size rfl rfl (by decide)
    clear HH1 HH0
    go_wp2
    clear cd1 cn1
    generalize hG : w.heap.size = G at *
    have HG := hide hG; clear hG
    go_loopw [5, 6] (fun v t wr => ∃ k : Nat, k ≤ m ∧ t = .int .i64 k ∧ Holds w wr (pInts v (lvL f g k) :: [pBlk G (dv m f g) 29])) (fun _ t _ => m - (intOf t).toNat)
    case atStart => exact ⟨0, Nat.zero_le _, rfl, H0⟩
    case round =>
      clear H0
      obtain ⟨k, hk, rfl, hH⟩ := hrel
      have cn := hH.cell 1 rfl hn
      by_cases hlt : k < m
      · have hlt' : (k : Int) < m := by omega
        have hk16 : (k : Int) < 16 := by omega
        have cb := hH.cell 1 rfl (dv_b (m : Int) f g (i := k) (by omega))
        have cw := hH.cell 1 rfl (dv_w (m : Int) f g (i := k) (by omega))
        have hll := lvL_len f g k
        have hyes := fun h => lvL_yes (f := f) (g := g) (k := k) h
        have hno := fun h => lvL_no (f := f) (g := g) (k := k) h
        unfold lvP at hyes hno
        have yb := (HD.out.black.lt k (by omega))
        have zb := (HD.out.white.lt k (by omega))
        generalize f k = y at *
        generalize g k = z at *
        have step : ∀ (b : Bool), b = (y == k || z == k) → (b = true → lvL f g (k + 1) = lvL f g k ++ [k]) ∧ (b = false → lvL f g (k + 1) = lvL f g k) := fun b hb => ⟨fun h => hyes (by rw [← hb, h]), fun h => hno (by rw [← hb, h])⟩
        have HS := hide step; clear step hyes hno
        by_cases hy : y = k
        · have e1 : (((y : Nat) : Int) == (k : Int)) = true := by simp [hy]
          have hs := (HS.out true (by simp [hy])).1 rfl
          have HL := hide hs; clear hs HS hy
          go_wp2_with (at_builtin; refine appI (hH.alloc _) 0 rfl wr.heap.size [k] 2 ?_ ?_ rfl _ _ rfl rfl rfl ?_)
          · first | exact heap_at _ _ _ rfl | exact (Array.getElem?_eq_some_iff.1 (heap_at wr _ _ rfl)).2
          · simp only [List.length_cons, List.length_nil]; omega
          intro v' w' h1
          clear hH cb cw cn
          go_wp2
          go_roundw
          case rel => exact ⟨k + 1, by omega, by go_num, by rw [HL.out]; exact h1⟩
          case measure => simp [intOf]; omega
        · have e1 : (((y : Nat) : Int) == (k : Int)) = false := by simp; omega
          by_cases hz : z = k
          · have e2 : (((z : Nat) : Int) == (k : Int)) = true := by simp [hz]
            have hs := (HS.out true (by simp [hz])).1 rfl
            have HL := hide hs; clear hs HS hy hz
            go_wp2_with (at_builtin; refine appI (hH.alloc _) 0 rfl wr.heap.size [k] 2 ?_ ?_ rfl _ _ rfl rfl rfl ?_)
            · first | exact heap_at _ _ _ rfl | exact (Array.getElem?_eq_some_iff.1 (heap_at wr _ _ rfl)).2
            · simp only [List.length_cons, List.length_nil]; omega
            intro v' w' h1
            clear hH cb cw cn
            go_wp2
            go_roundw
            case rel => exact ⟨k + 1, by omega, by go_num, by rw [HL.out]; exact h1⟩
            case measure => simp [intOf]; omega
          · have e2 : (((z : Nat) : Int) == (k : Int)) = false := by simp; omega
            have hs := (HS.out false (by simp [hy, hz])).2 rfl
            have HL := hide hs; clear hs HS hy hz
            go_wp2
            go_roundw
            case rel => exact ⟨k + 1, by omega, by go_num, by rw [HL.out]; exact hH⟩
            case measure => simp [intOf]; omega
      · obtain rfl : k = m := by omega
        clear hlt
        go_wp2
        go_ret2
        exact ⟨_, rfl, hH.low, hH.own1 0 rfl⟩
  · have hr : lvR n f g = [] := by unfold lvR; rw [if_neg h0]
    rw [hr]
    generalize tcode n f g = c at *
    have hne : (c != 0) = true := by simp [h0]
    clear h0 hr
    go_enter Try.func22, Try.ntmps22
    go_wp2_with fail
    refine (C1.out _).mono ?_
    rintro e w1 ⟨rfl, hb1⟩
    have HH1 := HH0.call hb1
    clear hb1
    go_wp2
    go_ret2
    exact ⟨.slice none 0 0, rfl, HH1.low, Own1.nil _ _⟩


set_option maxRecDepth 100000 in
set_option maxHeartbeats 1000000 in
theorem fnExactLeavesOf_walk (n : Int) (f g : Nat → Nat) (_hn : -9223372036854775808 ≤ n ∧ n ≤ 9223372036854775807) (hf : ∀ i, f i < 256) (hg : ∀ i, g i < 256) (w : World) :
    Calls Try.prog 5 #[.agg (dv n f g)] w fun e w' => e = .returned (.bool true) ∧ Below w.heap.size w w' := by
  clear _hn 
  have C1 := hide fun w => leavesOf_any n f g hf hg  w
  have C2 := hide fun w => sLeavesOf_any n f g hf hg  w
  have hL := lvR_bound n f g
  generalize lvR n f g = L at *
  generalize tcode n f g = c at *
  clear hf hg
  have hne : (c != c) = false := by simp
  have hnt : (((1 + L.length : Nat) : Int) != ((1 + L.length : Nat) : Int)) = false := by simp
  have hneg : decide (((1 + L.length : Nat) : Int) < 0) = false := decide_eq_false (by omega)
  go_enter Try.func5, Try.ntmps5
  go_wp2_with fail
  refine (toDessin_any n f g _).mono ?_
  rintro e w1 ⟨rfl, h1⟩
  go_wp2_with fail
  refine (C2.out _).mono ?_
  rintro e w2 ⟨v0, rfl, h2, o0⟩
  obtain ⟨A0, c0, rfl, p0⟩ := own1_form o0
  clear o0
  have b2 := h1.trans (h2.mono h1.size)
  have g2 : cellsOf w2 w.heap.size = dv n f g := (below_cells b2 (by simp)).trans (cellsOf_heap (heap_at _ _ _ rfl))
  have O0 := hide p0; clear p0
  clear h1 h2
  go_wp2_with fail
  refine (toDessin_any n f g _).mono ?_
  rintro e w3 ⟨rfl, h3⟩
  go_wp2_with fail
  refine (C1.out _).mono ?_
  rintro e w4 ⟨v1, rfl, h4, o1⟩
  obtain ⟨A1, c1, rfl, p1⟩ := own1_form o1
  clear o1
  have s23 := h3.size
  have s34 := h4.size
  have h24 := h3.trans (h4.mono h3.size)
  have O04 := hide (O0.out.below h24 (Nat.le_refl _))
  have O1 := hide p1; clear p1
  have b4 := b2.trans (h24.mono b2.size)
  clear h3 h4 h24 g2
  go_wp2_with fail
  refine (eqInt64S_same L A1 A0 c1 c0 _ _ (by omega) _ O1.out O04.out).mono ?_
  rintro e w5 ⟨rfl, h5⟩
  have s45 := h5.size
  have O05 := hide (O04.out.below h5 (Nat.le_refl _))
  have O15 := hide (O1.out.below h5 (Nat.le_refl _))
  have b5 := b4.trans (h5.mono b4.size)
  clear h5
  go_wp2_with fail
  refine (mk1 L A1 c1 _ (by omega) _ (by omega) O15.out).mono ?_
  rintro e w6 ⟨rfl, h6, s56, o16⟩
  have O16 := hide o16; clear o16
  have O06 := hide (O05.out.lower h6 (fun k hk => by have := O0.out.low k hk; omega))
  have b6 := b5.trans (h6.mono (by have := b2.size; omega))
  clear h6
  go_wp2_with fail
  refine (hd1 L A1 c1 _ (by omega) _ O16.out).mono ?_
  rintro e w7 ⟨rfl, h7⟩
  have s67 := h7.size
  have O17 := hide (O16.out.below h7 (Nat.le_refl _))
  have O07 := hide (O06.out.below h7 (Nat.le_refl _))
  have b7 := b6.trans (h7.mono b6.size)
  have g7 : cellsOf w7 w.heap.size = dv n f g := (below_cells b7 (by simp)).trans (cellsOf_heap (heap_at _ _ _ rfl))
  clear h7
  go_wp2_with fail
  refine (toDessin_any n f g _).mono ?_
  rintro e w8 ⟨rfl, h8⟩
  go_wp2_with fail
  refine (C1.out _).mono ?_
  rintro e w9 ⟨v2, rfl, h9, o2⟩
  obtain ⟨A2, c2, rfl, p2⟩ := own1_form o2
  clear o2
  have h79 := h8.trans (h9.mono h8.size)
  have O09 := hide (O07.out.below h79 (Nat.le_refl _))
  have O19 := hide (O17.out.below h79 (Nat.le_refl _))
  have O2 := hide p2; clear p2
  have b9 := b7.trans (h79.mono b7.size)
  clear h8 h9 h79 g7
  go_wp2_with fail
  refine (eqInt64S_same L A2 A0 c2 c0 _ _ (by omega) _ O2.out O09.out).mono ?_
  rintro e w10 ⟨rfl, h10⟩
  have O110 := hide (O19.out.below h10 (Nat.le_refl _))
  have b10 := b9.trans (h10.mono b9.size)
  clear h10
  go_wp2_with fail
  refine (hd1 L A1 c1 _ (by omega) _ O110.out).mono ?_
  rintro e w11 ⟨rfl, h11⟩
  have b11 := b10.trans (h11.mono b10.size)
  clear h11
  go_wp2
  go_ret
  exact ⟨rfl, (below1 w _).trans (b11.mono (by simp))⟩
end Go.Proofs.Ytdoehnckolhloaa
