/- PassportOfMove of the model. -/
import Derived.Test.YtpkfjdaedaplfaaFps
namespace Go.Proofs.Ytpkfjdaedaplfaa
open Go.RowKit

theorem rep_snoc (j : Nat) : (2 :: List.replicate j (1 : Int)) ++ [1] = 2 :: List.replicate (j + 1) 1 := by
  rw [List.cons_append, ← List.replicate_succ']
set_option maxRecDepth 100000 in
set_option maxHeartbeats 4000000 in
theorem sPassportOfMove_any (k a b : Int) (w : World) : Calls Try.prog 51 #[.agg #[.int .i64 k, .int .i64 a, .int .i64 b]] w fun e w' => ∃ v, e = .returned (.tuple #[v, .int .i64 (pmC k a b)]) ∧ Below w.heap.size w w' ∧ Own2Z w.heap.size w' v (pmR k a b) := by
  have H0 := (Holds.start w).blk #[.int .i64 k, .int .i64 a, .int .i64 b] 38 w.heap.size rfl
  have CB := hide fun w => l10Move_any k a b w
  rcases hm : mvB k a b with _ | _
  · rw [show pmC k a b = 1 from if_neg (by rw [hm]; decide), show pmR k a b = [] from if_neg (by rw [hm]; simp)]
    rw [hm] at CB
    clear hm
    go_enter Try.func51, Try.ntmps51
    go_wp2_with fail
    refine (CB.out _).mono ?_
    rintro e w1 ⟨rfl, hb⟩
    have H1 := (H0.call hb).low
    clear hb CB H0
    go_wp2_with fail
    go_ret2
    exact ⟨_, rfl, H1, own2Z_nil _ _⟩
  rw [hm] at CB
  have CD := hide fun w => l10Degree_any k a b hm w
  have hmt := mvB_true hm
  by_cases h16 : dg k a b ≤ 16
  · rw [show pmC k a b = 0 from (if_pos hm).trans (if_pos h16), show pmR k a b = pmL k a b from if_pos ⟨hm, h16⟩]
    have hd := decide_eq_false (show ¬ (16 < dg k a b) by omega)
    by_cases hk : k = 2
    · have hk2 := decide_eq_false (show ¬ (k < 2) by omega)
      have hpm : pmL k a b = [[max a b, min a b], 2 :: List.replicate (a + b - 2).toNat 1, [a + b]] := if_pos hk
      rw [hpm]
      have hws : wrap64 (a + b) = a + b := wr64 (by omega) (by omega)
      have hab : Hid (2 ≤ a + b ∧ a + b ≤ 40) := hide (by omega)
      clear hpm h16 hm hmt hk
      generalize dg k a b = d at *
      go_enter Try.func51, Try.ntmps51
      go_wp2_with fail
      refine (CB.out _).mono ?_
      rintro e w1 ⟨rfl, hb⟩
      have H1 := H0.call hb
      clear hb CB H0
      have c0 := H1.cell 0 rfl (j := 0) (v := .int .i64 k) rfl
      have c1 := H1.cell 0 rfl (j := 1) (v := .int .i64 a) rfl
      have c2 := H1.cell 0 rfl (j := 2) (v := .int .i64 b) rfl
      go_wp2_with fail
      refine (CD.out _).mono ?_
      rintro e w2 ⟨rfl, hb⟩
      have H2 := H1.call hb
      clear hb H1 c0 c1 c2 CD
      have c0 := H2.cell 0 rfl (j := 0) (v := .int .i64 k) rfl
      have c1 := H2.cell 0 rfl (j := 1) (v := .int .i64 a) rfl
      have c2 := H2.cell 0 rfl (j := 2) (v := .int .i64 b) rfl
      have lX := H2.lt 0 rfl
      have H3 : Holds w (w2.alloc (.cells #[.int .i64 2] 2)) [pZ9 (.slice (some ⟨w2.heap.size, 0, none⟩) 1 1) (2 :: List.replicate 0 1), pBlk w.heap.size #[.int .i64 k, .int .i64 a, .int .i64 b] 38] := (H2.blk #[.int .i64 2] 2 w2.heap.size rfl).blkZ 0 rfl (l := [2]) rfl (by simp)
      have HH3 := hide H3
      clear H3 H2
      go_wp2_with fail
      clear c0 c1 c2 lX
      have HWS := hide hws
      clear hws
      go_loopw [4, 5] (fun u t wr => ∃ j : Nat, (j : Int) ≤ a + b - 2 ∧ t = .int .i64 (a + b - j) ∧ Holds w wr [pZ9 u (2 :: List.replicate j 1), pBlk w.heap.size #[.int .i64 k, .int .i64 a, .int .i64 b] 38]) (fun _ t _ => (intOf t).toNat)
      case atStart => exact ⟨0, by have := hab.out; omega, by simp [HWS.out], HH3.out⟩
      case round =>
        clear HH3
        obtain ⟨j, hj, rfl, hH⟩ := hrel
        have hs := hab.out
        obtain ⟨t, ht⟩ : ∃ t, a + b - (j : Int) = t := ⟨_, rfl⟩
        rw [ht]
        have HT := hide ht
        by_cases hlt : 2 < t
        · have hd2 := decide_eq_true hlt
          have hw1 : wrap64 (t - 1) = t - 1 := wr64 (by omega) (by omega)
          have HL : Hid (2 < t ∧ (j : Int) + 1 ≤ a + b - 2 ∧ a + b - ((j + 1 : Nat) : Int) = t - 1 ∧ j + 2 ≤ 100) := hide (by omega)
          clear hlt ht hs hj
          have H' := hH.blk #[.int .i64 1] 2 wr.heap.size rfl
          clear hH
          go_wp2_with (at_builtin; refine appZ9 H' 1 rfl (m := [1]) (rd_lit10 (H'.at 0 rfl)) (by have := HL.out; simp; omega) rfl _ _ rfl rfl rfl ?_)
          intro v' w' h2
          have h3 := hide (show Holds w w' [pZ9 v' (2 :: List.replicate (j + 1) 1), pBlk w.heap.size #[.int .i64 k, .int .i64 a, .int .i64 b] 38] from by rw [← rep_snoc]; exact h2.tail)
          clear h2 H'
          go_wp2
          go_roundw
          case rel => exact ⟨j + 1, by have := HL.out; omega, by rw [HL.out.2.2.1]; first | rfl | rw [hw1], h3.out⟩
          case measure => have := HL.out; simp [intOf, hw1]; omega
        · have hd2 := decide_eq_false hlt
          have hjn : (a + b - 2).toNat = j := by omega
          clear hlt ht hs hj hab
          rcases Int.lt_trichotomy a b with hc | hc | hc
          · have HMX := hide (show max a b = b ∧ min a b = a by omega)
            have hc2 : ¬ (b < a) := by omega
            have HJ := hide hjn
            clear hjn
            have hws := HWS.out
            have c0 := hH.cell 1 rfl (j := 0) (v := .int .i64 k) rfl
            have c1 := hH.cell 1 rfl (j := 1) (v := .int .i64 a) rfl
            have c2 := hH.cell 1 rfl (j := 2) (v := .int .i64 b) rfl
            have lX := hH.lt 1 rfl
            obtain ⟨A4, d4, e4⟩ := own_slice (hH.ownZ9 0 rfl)
            rw [show (2 :: List.replicate j (1 : Int)).length = j + 1 by simp] at e4
            subst e4
            have H6 := (((hH.blk #[.int .i64 b, .int .i64 a] 2 wr.heap.size rfl).blk #[.int .i64 (a + b)] 2 (wr.heap.size + 1) (by simp)).blk #[.slice (some ⟨wr.heap.size, 0, none⟩) 2 2, .slice A4 (j + 1) d4, .slice (some ⟨wr.heap.size + 1, 0, none⟩) 1 1] 79 (wr.heap.size + 1 + 1) (by simp))
            have H7 := (H6.blkZ 1 rfl (l := [a + b]) rfl (by simp)).blkZ 2 rfl (l := [b, a]) rfl (by simp)
            have H8 := H7.perm (List.Perm.cons _ ((List.Perm.swap _ _ _).trans ((List.Perm.swap _ _ _).cons _)))
            have H9 := hide (And.intro H8.low (own2z_3 H8))
            clear H6 H7 H8 hH
            go_wp2
            go_ret2
            refine ⟨_, rfl, H9.out.1, ?_⟩
            rw [HMX.out.1, HMX.out.2, HJ.out]
            exact H9.out.2
          · have HMX := hide (show max a b = a ∧ min a b = a by omega)
            have hc1 : ¬ (a < b) := by omega
            have hc2 : ¬ (b < a) := by omega
            clear hc
            have HJ := hide hjn
            clear hjn
            have hws := HWS.out
            have c0 := hH.cell 1 rfl (j := 0) (v := .int .i64 k) rfl
            have c1 := hH.cell 1 rfl (j := 1) (v := .int .i64 a) rfl
            have c2 := hH.cell 1 rfl (j := 2) (v := .int .i64 b) rfl
            have lX := hH.lt 1 rfl
            obtain ⟨A4, d4, e4⟩ := own_slice (hH.ownZ9 0 rfl)
            rw [show (2 :: List.replicate j (1 : Int)).length = j + 1 by simp] at e4
            subst e4
            have H6 := (((hH.blk #[.int .i64 a, .int .i64 a] 2 wr.heap.size rfl).blk #[.int .i64 (a + b)] 2 (wr.heap.size + 1) (by simp)).blk #[.slice (some ⟨wr.heap.size, 0, none⟩) 2 2, .slice A4 (j + 1) d4, .slice (some ⟨wr.heap.size + 1, 0, none⟩) 1 1] 79 (wr.heap.size + 1 + 1) (by simp))
            have H7 := (H6.blkZ 1 rfl (l := [a + b]) rfl (by simp)).blkZ 2 rfl (l := [a, a]) rfl (by simp)
            have H8 := H7.perm (List.Perm.cons _ ((List.Perm.swap _ _ _).trans ((List.Perm.swap _ _ _).cons _)))
            have H9 := hide (And.intro H8.low (own2z_3 H8))
            clear H6 H7 H8 hH
            go_wp2
            go_ret2
            refine ⟨_, rfl, H9.out.1, ?_⟩
            rw [HMX.out.1, HMX.out.2, HJ.out]
            exact H9.out.2
          · have HMX := hide (show max a b = a ∧ min a b = b by omega)
            have hc1 : ¬ (a < b) := by omega
            have HJ := hide hjn
            clear hjn
            have hws := HWS.out
            have c0 := hH.cell 1 rfl (j := 0) (v := .int .i64 k) rfl
            have c1 := hH.cell 1 rfl (j := 1) (v := .int .i64 a) rfl
            have c2 := hH.cell 1 rfl (j := 2) (v := .int .i64 b) rfl
            have lX := hH.lt 1 rfl
            obtain ⟨A4, d4, e4⟩ := own_slice (hH.ownZ9 0 rfl)
            rw [show (2 :: List.replicate j (1 : Int)).length = j + 1 by simp] at e4
            subst e4
            have H6 := (((hH.blk #[.int .i64 a, .int .i64 b] 2 wr.heap.size rfl).blk #[.int .i64 (a + b)] 2 (wr.heap.size + 1) (by simp)).blk #[.slice (some ⟨wr.heap.size, 0, none⟩) 2 2, .slice A4 (j + 1) d4, .slice (some ⟨wr.heap.size + 1, 0, none⟩) 1 1] 79 (wr.heap.size + 1 + 1) (by simp))
            have H7 := (H6.blkZ 1 rfl (l := [a + b]) rfl (by simp)).blkZ 2 rfl (l := [a, b]) rfl (by simp)
            have H8 := H7.perm (List.Perm.cons _ ((List.Perm.swap _ _ _).trans ((List.Perm.swap _ _ _).cons _)))
            have H9 := hide (And.intro H8.low (own2z_3 H8))
            clear H6 H7 H8 hH
            go_wp2
            go_ret2
            refine ⟨_, rfl, H9.out.1, ?_⟩
            rw [HMX.out.1, HMX.out.2, HJ.out]
            exact H9.out.2
    · have hk2 := decide_eq_true (show k < 2 by omega)
      have hpm : pmL k a b = [[1], [1], [1]] := if_neg hk
      rw [hpm]
      clear hpm h16 hm hmt hk
      generalize dg k a b = d at *
      go_enter Try.func51, Try.ntmps51
      go_wp2_with fail
      refine (CB.out _).mono ?_
      rintro e w1 ⟨rfl, hb⟩
      have H1 := H0.call hb
      clear hb CB H0
      have c0 := H1.cell 0 rfl (j := 0) (v := .int .i64 k) rfl
      have c1 := H1.cell 0 rfl (j := 1) (v := .int .i64 a) rfl
      have c2 := H1.cell 0 rfl (j := 2) (v := .int .i64 b) rfl
      go_wp2_with fail
      refine (CD.out _).mono ?_
      rintro e w2 ⟨rfl, hb⟩
      have H2 := H1.call hb
      clear hb H1 c0 c1 c2 CD
      have c0 := H2.cell 0 rfl (j := 0) (v := .int .i64 k) rfl
      have H := (((H2.blk #[.int .i64 1] 2 w2.heap.size rfl).blk #[.int .i64 1] 2 (w2.heap.size + 1) (by simp)).blk #[.int .i64 1] 2 (w2.heap.size + 1 + 1) (by simp)).blk #[.slice (some ⟨w2.heap.size, 0, none⟩) 1 1, .slice (some ⟨w2.heap.size + 1, 0, none⟩) 1 1, .slice (some ⟨w2.heap.size + 1 + 1, 0, none⟩) 1 1] 79 (w2.heap.size + 1 + 1 + 1) (by simp)
      have H3 := ((H.blkZ 1 rfl (l := [1]) rfl (by simp)).blkZ 2 rfl (l := [1]) rfl (by simp)).blkZ 3 rfl (l := [1]) rfl (by simp)
      have H4 := H3.perm (List.Perm.cons _ (((List.Perm.swap _ _ _).trans ((List.Perm.swap _ _ _).cons _)).trans (List.Perm.swap _ _ _)))
      have H9 := hide (And.intro H4.low (own2z_3 H4))
      clear H H3 H4 H2
      go_wp2
      go_ret2
      exact ⟨_, rfl, H9.out.1, H9.out.2⟩
  · rw [show pmC k a b = 3 from (if_pos hm).trans (if_neg h16), show pmR k a b = [] from if_neg (fun h => h16 h.2)]
    have hd := decide_eq_true (show 16 < dg k a b by omega)
    clear h16 hm hmt
    generalize dg k a b = d at *
    go_enter Try.func51, Try.ntmps51
    go_wp2_with fail
    refine (CB.out _).mono ?_
    rintro e w1 ⟨rfl, hb⟩
    have H1 := H0.call hb
    clear hb CB H0
    have c0 := H1.cell 0 rfl (j := 0) (v := .int .i64 k) rfl
    have c1 := H1.cell 0 rfl (j := 1) (v := .int .i64 a) rfl
    have c2 := H1.cell 0 rfl (j := 2) (v := .int .i64 b) rfl
    go_wp2_with fail
    refine (CD.out _).mono ?_
    rintro e w2 ⟨rfl, hb⟩
    have H2 := (H1.call hb).low
    clear hb H1 c0 c1 c2 CD
    go_wp2_with fail
    go_ret2
    exact ⟨_, rfl, H2, own2Z_nil _ _⟩
end Go.Proofs.Ytpkfjdaedaplfaa
