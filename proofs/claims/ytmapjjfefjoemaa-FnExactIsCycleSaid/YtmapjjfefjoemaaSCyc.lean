/- spec.l01Cycles -/
import Derived.Test.YtmapjjfefjoemaaCycL
namespace Go.Proofs.Ytmapjjfefjoemaa
open Go.RowKit

set_option maxRecDepth 100000 in
set_option maxHeartbeats 1000000 in
theorem sCycles_any (p : Nat → Nat) (m : Nat) (hp : PermN p m) (w : World) :
    Calls Try.prog 67 #[.agg (av p), .int .i64 m] w fun e w' => ∃ v, e = .returned v ∧ Below w.heap.size w w' ∧ Own2 w.heap.size w' v (cycs p m) := by
  obtain ⟨hm1, hm2, hbij, _⟩ := hp
  have HB := hide hbij; clear hbij
  obtain ⟨i0, hi, hz0, hz1, hz2⟩ := info_parts info64
  obtain ⟨j0, hj, hy0, hy1, hy2⟩ := info_parts infoSl
  have I0 := hide (And.intro hi (And.intro hz0 (And.intro hz1 hz2))); clear hi hz0 hz1 hz2
  have J0 := hide (And.intro hj (And.intro hy0 (And.intro hy1 hy2))); clear hj hy0 hy1 hy2
  go_enter Try.func67, Try.ntmps67
  go_wp2
  rw [← bv_false]
  go_loopw [5, 7] (fun out i wr => ∃ k : Nat, k ≤ m ∧ i = .int .i64 k ∧ Below w.heap.size w wr ∧ cellsOf wr w.heap.size = av p ∧ wr.heap[w.heap.size + 1 + 1]? = some (.cells (bv (cycs.met p k)) 85 (0, 0)) ∧ Own2 (w.heap.size + 1) wr out (cycs p k))
    (fun _ i _ => m - (intOf i).toNat)
  case atStart =>
    refine ⟨0, by omega, rfl, below3 _ _ _ _, cellsOf_heap (heap2 rfl), heap_at _ _ _ (by simp), [], rfl, ?_, fun i u l h => by simp at h, fun i j u u' _ h => by simp at h⟩
    have h := (own_empty (w.alloc (.cells (av p) 29)) 25 1 (w.heap.size + 1) (by simp)).alloc (.cells (bv fun _ => false) 85)
    simp only [World.size_alloc] at h
    exact h
  case round =>
    obtain ⟨k, hk, rfl, hb, hcp, hhm, hown⟩ := hrel
    by_cases hlt : k < m
    · have hlt16 : k < 16 := by omega
      have l1 : w.heap.size + 1 + 1 < wr.heap.size := by
        rcases Nat.lt_or_ge (w.heap.size + 1 + 1) wr.heap.size with c | c
        · exact c
        · rw [Array.getElem?_eq_none c] at hhm; cases hhm
      obtain ⟨J, hJ16, hJf, hJt, hJc, hJm⟩ := cyc_J HB.out hm2 hlt
      have HC := hide hcp; clear hcp
      have HM := hide hhm; clear hhm
      have HJf := hide hJf; clear hJf
      have HJt := hide hJt; clear hJt
      have HJc := hide hJc; clear hJc
      have HJm := hide hJm; clear hJm
      go_wp2
      obtain ⟨wo, rfl⟩ : ∃ wo : World, wo = wr := ⟨_, rfl⟩
      go_loopg [8, 9] J (fun gd own x wr => ∃ j : Nat, j ≤ J ∧ gd = J - j ∧ x = .int .i64 (it p j k) ∧ it p j k < m ∧ Own1 wo.heap.size wr own (orbTo p k j) ∧
          cellsOf wr w.heap.size = av p ∧ wr.heap[w.heap.size + 1 + 1]? = some (.cells (bv (Mj p (cycs.met p k) k j)) 85 (0, 0)) ∧ wo.grownBy wr (some (w.heap.size + 1 + 1)))
      case atStart => exact ⟨0, by omega, by omega, rfl, hlt, own_empty wo 2 1 _ (Nat.le_refl _), by rw [cellsOf_past (by omega)]; exact HC.out, by rw [heap_past _ _ _ l1, Mj_zero]; exact HM.out, grown_alloc (grown_refl _ _) _⟩
      case round =>
        obtain ⟨j, hj, rfl, rfl, hx, hown1, hcp1, hhm1, hg1⟩ := hrel
        have HCP := hide hcp1; clear hcp1
        have hszs : wo.heap.size ≤ wr.heap.size := hg1.size
        have hcm1 : cellsOf wr (w.heap.size + 1 + 1) = bv (Mj p (cycs.met p k) k j) := cellsOf_heap hhm1
        have HCM := hide hcm1; clear hcm1
        have HH := hide hhm1; clear hhm1
        by_cases hjp : j < J
        · have c0 : wr.cell? ⟨w.heap.size + 1 + 1, it p j k, none⟩ = some (.bool false) := by rw [cell_of_cells, HCM.out, bv_get _ (by omega), HJf.out j hjp]
          have f0 : wr.frozen? ⟨w.heap.size + 1 + 1, it p j k, none⟩ = false := by have := HH.out; simp [World.frozen?, this]
          generalize hX : it p j k = X at *
          have HX := hide hX; clear hX
          have hownA : (wr.setCell ⟨w.heap.size + 1 + 1, X, none⟩ (.bool true)).ownsRow wo.heap.size 2 1 u8 (orbTo p k j).length (nums (orbTo p k j)) := ownsRow_setCell_below hown1 (by show w.heap.size + 1 + 1 < wo.heap.size; omega) _
          have hlen : (orbTo p k j).length = j := orbTo_length p k j
          have HL := hide hlen; clear hlen
          have hX16 : X < 16 := by omega
          go_wp2_with (at_builtin; refine wpList_append_own _ rfl _ _ 25 rfl wo.heap.size 2 i0 (.int .i64 0) 1 8 Try.underlying25 I0.out.1 I0.out.2.1 I0.out.2.2.1 I0.out.2.2.2 rfl (by decide) _ _ _ rfl (hownA.alloc _) ⟨wr.heap.size, 0, none⟩ 1 1 [.int .i64 X] rfl rfl ?c1 ?c2 ?c3 ?c4 ?c5 ?_)
          case c1 => exact one_new _ _ _ _ (by simp)
          case c2 => intro u hu; simp at hu; subst hu; rfl
          case c3 => rw [HL.out]; unfold maxLen; omega
          case c4 => rw [HL.out]; omega
          case c5 => simp; omega
          intro v' w1 hown' hg' _
          have hrow : ∀ g, u8.ownBlock = some g → wo.heap.size ≤ g := fun g hg => (hownA.lt g hg).1
          have G0 := grown_alloc (grown_setCell (i := X) (v := .bool true) hg1) (.cells #[.int .i64 X] 2)
          have G1 := grown_step G0 hg' (fun g hg => .inl (hrow g hg))
          have hpc : cellsOf w1 w.heap.size = av p := by
            rw [grown_cells hg' (by simp; omega) (fun e => by have := hrow _ e.symm; omega), cellsOf_past (by simp; omega), cellsOf_setCell_ne (by omega)]; exact HCP.out
          have hmc : w1.heap[w.heap.size + 1 + 1]? = some (.cells (bv (Mj p (cycs.met p k) k (j + 1))) 85 (0, 0)) := by
            rw [hg'.block _ (by simp; omega) (fun e => by have := hrow _ e.symm; omega), heap_past _ _ _ (by simp; omega), heap_setCell_same _ _ _ _ _ _ HH.out, bv_set, ← HX.out, Mj_step]
          have hpx : p X < m := HB.out.1 X hx
          have c2 : w1.cell? ⟨w.heap.size, X, none⟩ = some (.int .u8 (p X)) := by rw [cell_of_cells, hpc, av_get p hX16]
          have hO : Own1 wo.heap.size w1 v' (orbTo p k (j + 1)) := by
            rw [orbTo_step, HX.out]
            unfold Own1 nums at *
            simpa using hown'
          have hit : it p (j + 1) k = p X := by rw [← HX.out]; rfl
          have H1 := hide hpc; clear hpc
          have H2 := hide hmc; clear hmc
          have HIT := hide hit; clear hit
          clear hown' hg' G0 hownA hrow c0 f0
          go_wp2
          go_roundg (J - (j + 1))
          case measure => omega
          case rel => exact ⟨j + 1, by omega, rfl, by rw [HIT.out], by rw [HIT.out]; exact hpx, hO, H1.out, H2.out, G1⟩
        · obtain rfl : j = J := by omega
          have hX16 : it p j k < 16 := by omega
          have c0 : wr.cell? ⟨w.heap.size + 1 + 1, it p j k, none⟩ = some (.bool true) := by rw [cell_of_cells, HCM.out, bv_get _ hX16, HJt.out]
          obtain ⟨A, cc, rfl⟩ := own_slice hown1
          have hll : (orbTo p k j).length = j := orbTo_length p k j
          rw [hll]
          have HL := hide hll; clear hll
          have hbr : Below w.heap.size w wr := hb.grown hg1 hb.size (fun g hg => by simp at hg; omega)
          obtain ⟨vs, hvl, ho0, hi0, hd0⟩ := hown
          have hC : ∀ (i : Nat) (x : Value), vs[i]? = some x → ∀ g, x.ownBlock = some g → g < wo.heap.size := by
            intro i x hx1 g hg
            have : i < (cycs p k).length := by rw [← hvl]; exact (List.getElem?_eq_some_iff.1 hx1).1
            exact (World.ownsRow.lt (hi0 i x _ hx1 (List.getElem?_eq_getElem this)) g hg).2
          have hk2 : Own2 (w.heap.size + 1) wr u5 (cycs p k) := Own2.keptBlk ⟨vs, hvl, ho0, hi0, hd0⟩ hg1 HM.out (by decide) (by decide)
          have ho1 := ho0.kept hg1 (own_ne_blk ho0 HM.out (by decide))
          have hi1 : ∀ (i : Nat) (u : Value) (l : List Nat), vs[i]? = some u → (cycs p k)[i]? = some l → Own1 (w.heap.size + 1) wr u l := fun i u l h1 h2 => (hi0 i u l h1 h2).kept hg1 (own_ne_blk (hi0 i u l h1 h2) HM.out (by decide))
          have hvs16 : vs.length ≤ 16 := by rw [hvl]; exact cycs_len_le HB.out hm2 (by omega)
          have HVL := hide hvl; clear hvl
          have HI := hide hi1; clear hi1 hi0
          have HD := hide hd0; clear hd0
          have HCC := hide hC; clear hC
          have HO := hide hk2; clear hk2
          clear ho0
          by_cases hj0 : j = 0
          · have H00 := hide hj0
            have hd : decide (0 < j) = false := by simp; omega
            clear hj0
            go_wp2
            go_roundw
            case rel => exact ⟨k + 1, by omega, by go_num, hbr, HCP.out, by rw [HJm.out]; exact HH.out, by rw [HJc.out, if_pos H00.out]; exact HO.out⟩
            case measure => simp [intOf]; omega
          · have hd : decide (0 < j) = true := by simp; omega
            have hjp0 : 0 < j := by omega
            go_wp2_with (at_builtin; refine wpList_append_own _ rfl _ _ 26 rfl (w.heap.size + 1) 25 j0 (.slice none 0 0) 1 24 Try.underlying26 J0.out.1 J0.out.2.1 J0.out.2.2.1 J0.out.2.2.2 rfl (by decide) _ _ _ rfl (ho1.alloc _) ⟨wr.heap.size, 0, none⟩ 1 1 [.slice A j cc] rfl rfl ?d1 ?d2 ?d3 ?d4 ?d5 ?_)
            case d1 => exact one_new _ _ _ _ (by simp)
            case d2 => intro u hu; simp at hu; subst hu; rfl
            case d3 => unfold maxLen; omega
            case d4 => omega
            case d5 => simp; omega
            intro v' w1 hown' hg' _
            have hrow : ∀ g, u5.ownBlock = some g → w.heap.size + 1 ≤ g := fun g hg => (ho1.lt g hg).1
            have hnm := own_ne_blk ho1 HH.out (by decide)
            have hpc : cellsOf w1 w.heap.size = av p := by
              rw [grown_cells hg' (by simp; omega) (fun e => by have := hrow _ e.symm; omega), cellsOf_past (by omega)]; exact HCP.out
            have hmc : w1.heap[w.heap.size + 1 + 1]? = some (.cells (bv (cycs.met p (k + 1))) 85 (0, 0)) := by
              rw [hg'.block _ (by simp; omega) (fun e => by rcases hnm with c | c; rw [c] at e; cases e; exact c e.symm), heap_past _ _ _ (by omega), HJm.out]; exact HH.out
            have hbw : Below w.heap.size w w1 := (hbr.alloc hbr.size _).grown hg' (by have := hbr.size; simp; omega) (fun g hg => by have := hrow g hg; omega)
            have hOO : Own2 (w.heap.size + 1) w1 v' (cycs p (k + 1)) := by
              rw [HJc.out, if_neg hj0]
              have hown1' : Own1 wo.heap.size wr (.slice A j cc) (orbTo p k j) := by have := hown1; rwa [HL.out] at this
              exact Own2.add HVL.out (ho1.alloc _) (fun i u l h1 h2 => World.ownsRow.alloc (HI.out i u l h1 h2) _) HD.out (World.ownsRow.alloc hown1' _) (by omega) HCC.out hown' hg'
            have H1 := hide hpc; clear hpc
            have H2 := hide hmc; clear hmc
            have H3 := hide hOO; clear hOO
            clear hown' hg' ho1 hrow c0 hnm
            go_wp2
            go_roundw
            case rel => exact ⟨k + 1, by omega, by go_num, hbw, H1.out, H2.out, H3.out⟩
            case measure => simp [intOf]; omega
    · obtain rfl : k = m := by omega
      clear hlt hk hcp hhm
      go_wp2
      go_ret
      exact ⟨_, rfl, hb, hown.mono (by omega)⟩
end Go.Proofs.Ytmapjjfefjoemaa
