/- impl.cycleList -/
import Derived.Test.YtmapjjfefjoemaaOwn
import Derived.Test.YtmapjjfefjoemaaCyc
import Derived.Test.YtmapjjfefjoemaaIsPerm
import Derived.Deep.LoopGhost
namespace Go.Proofs.Ytmapjjfefjoemaa
open Go.RowKit

theorem info64 : (Try.prog.info? 2).map (fun i => (i.zero, i.size, i.bytes)) = some (some (.int .i64 0), 1, 8) := by kernel_rfl
theorem infoSl : (Try.prog.info? 25).map (fun i => (i.zero, i.size, i.bytes)) = some (some (.slice none 0 0), 1, 24) := by kernel_rfl

set_option maxRecDepth 100000 in
set_option maxHeartbeats 1000000 in
theorem cycleList_any (p : Nat → Nat) (m : Nat) (hp : PermN p m) (w : World) :
    Calls Try.prog 69 #[.agg (av p), .int .i64 m] w fun e w' => ∃ v, e = .returned v ∧ Below w.heap.size w w' ∧ Own2 w.heap.size w' v (cycs p m) := by
  obtain ⟨hm1, hm2, hbij, _⟩ := hp
  have HB := hide hbij; clear hbij
  obtain ⟨i0, hi, hz0, hz1, hz2⟩ := info_parts info64
  obtain ⟨j0, hj, hy0, hy1, hy2⟩ := info_parts infoSl
  have I0 := hide (And.intro hi (And.intro hz0 (And.intro hz1 hz2))); clear hi hz0 hz1 hz2
  have J0 := hide (And.intro hj (And.intro hy0 (And.intro hy1 hy2))); clear hj hy0 hy1 hy2
  go_enter Try.func69, Try.ntmps69
  go_wp2
  rw [← bv_false]
  go_loopw [5, 11] (fun out i wr => ∃ k : Nat, k ≤ m ∧ i = .int .i64 k ∧ Below w.heap.size w wr ∧ cellsOf wr w.heap.size = av p ∧ cellsOf wr (w.heap.size + 1) = bv (cycs.met p k) ∧ rowOk wr (w.heap.size + 1) 16 ∧ Own2 (w.heap.size + 2) wr out (cycs p k))
    (fun _ i _ => m - (intOf i).toNat)
  case atStart => exact ⟨0, by omega, rfl, below2 _ _ _, cellsOf_heap (heap1 rfl), cellsOf_heap (heap_at _ _ _ (by simp)), ⟨_, _, heap_at _ _ _ (by simp), bv_size _⟩, Own2.nil _ _⟩
  case round =>
    obtain ⟨k, hk, rfl, hb, hcp, hcm, hrm, hown⟩ := hrel
    by_cases hlt : k < m
    · have hlt16 : k < 16 := by omega
      have l1 := hrm.lt
      have HC := hide hcp; clear hcp
      have HM := hide hcm; clear hcm
      rcases hmk : cycs.met p k k with _ | _
      · have c0 : wr.cell? ⟨w.heap.size + 1, k, none⟩ = some (.bool false) := by rw [cell_of_cells, HM.out, bv_get _ hlt16, hmk]
        have HK := hide hmk; clear hmk
        go_wp2
        clear c0
        obtain ⟨wo, rfl⟩ : ∃ wo : World, wo = wr := ⟨_, rfl⟩
        go_loopg [8, 9] (per p k) (fun gd own x wr => ∃ j : Nat, j ≤ per p k ∧ gd = per p k - j ∧ x = .int .i64 (it p j k) ∧ it p j k < m ∧ Own1 wo.heap.size wr own (orbTo p k j) ∧
            cellsOf wr w.heap.size = av p ∧ cellsOf wr (w.heap.size + 1) = bv (Mj p (cycs.met p k) k j) ∧ rowOk wr (w.heap.size + 1) 16 ∧ wo.grownBy wr (some (w.heap.size + 1)))
        case atStart => exact ⟨0, by omega, by omega, rfl, hlt, Own1.nil _ _, HC.out, by rw [Mj_zero]; exact HM.out, hrm, grown_refl _ _⟩
        case round =>
          obtain ⟨j, hj, rfl, rfl, hx, hown1, hcp1, hcm1, hrm1, hg1⟩ := hrel
          have HCP := hide hcp1; clear hcp1
          have HCM := hide hcm1; clear hcm1
          have l2 := hrm1.lt
          by_cases hjp : j < per p k
          · have c0 : wr.cell? ⟨w.heap.size + 1, it p j k, none⟩ = some (.bool false) := by rw [cell_of_cells, HCM.out, bv_get _ (by omega), Mj_false HB.out hm2 hlt HK.out hjp]
            have f0 : wr.frozen? ⟨w.heap.size + 1, it p j k, none⟩ = false := hrm1.frozen
            generalize hX : it p j k = X at *
            have HX := hide hX; clear hX
            have hownA : (wr.setCell ⟨w.heap.size + 1, X, none⟩ (.bool true)).ownsRow wo.heap.size 2 1 u8 (orbTo p k j).length (nums (orbTo p k j)) := ownsRow_setCell_below hown1 (by show w.heap.size + 1 < wo.heap.size; omega) _
            have hszs : wo.heap.size ≤ wr.heap.size := hg1.size
            have hj16 : j ≤ 16 := by have := (per_spec HB.out hlt).2.1; omega
            have hlen : (orbTo p k j).length = j := orbTo_length p k j
            have HL := hide hlen; clear hlen
            have hpX := HCP.out
            have hX16 : X < 16 := by omega
            go_wp2_with (at_builtin; refine wpList_append_own _ rfl _ _ 25 rfl wo.heap.size 2 i0 (.int .i64 0) 1 8 Try.underlying25 I0.out.1 I0.out.2.1 I0.out.2.2.1 I0.out.2.2.2 rfl (by decide) _ _ _ rfl (hownA.alloc _) ⟨wr.heap.size, 0, none⟩ 1 1 [.int .i64 X] rfl rfl ?c1 ?c2 ?c3 ?c4 ?c5 ?_)
            case c1 => exact one_new _ _ _ _ (by simp)
            case c2 => intro u hu; simp at hu; subst hu; rfl
            case c3 => rw [HL.out]; unfold maxLen; omega
            case c4 => rw [HL.out]; omega
            case c5 => simp; omega
            intro v' w1 hown' hg' _
            have hrow : ∀ g, u8.ownBlock = some g → wo.heap.size ≤ g := fun g hg => (hownA.lt g hg).1
            have G0 := grown_alloc (grown_setCell (i := X) (v := .bool true) hg1) (.cells #[.int .i64 X] 2)
            have G1 := grown_step G0 hg' (fun g hg => .inl (hrow g hg))
            have hpc : cellsOf w1 w.heap.size = av p := by
              rw [grown_cells hg' (by simp; omega) (fun e => by have := hrow _ e.symm; omega), cellsOf_past (by simp; omega), cellsOf_setCell_ne (by omega)]; exact HCP.out
            have hmc : cellsOf w1 (w.heap.size + 1) = bv (Mj p (cycs.met p k) k (j + 1)) := by
              rw [grown_cells hg' (by simp; omega) (fun e => by have := hrow _ e.symm; omega), cellsOf_past (by simp; omega), cellsOf_setCell, HCM.out, bv_set, ← HX.out, Mj_step]
            have hmr : rowOk w1 (w.heap.size + 1) 16 := (grown_row hg' (by simp; omega) (fun e => by have := hrow _ e.symm; omega)).2 ((rowOk_past (by simp; omega)).2 (rowOk_setCell hrm1))
            have hpx : p X < m := HB.out.1 X hx
            have c2 : w1.cell? ⟨w.heap.size, X, none⟩ = some (.int .u8 (p X)) := by rw [cell_of_cells, hpc, av_get p hX16]
            have hO : Own1 wo.heap.size w1 v' (orbTo p k (j + 1)) := by
              rw [orbTo_step, HX.out]
              unfold Own1 nums at *
              simpa using hown'
            have hit : it p (j + 1) k = p X := by rw [← HX.out]; rfl
            have H1 := hide hpc; clear hpc
            have H2 := hide hmc; clear hmc
            have HIT := hide hit; clear hit
            clear hown' hg' G0 hownA hrow c0 f0 hpX
            go_wp2
            go_roundg (per p k - (j + 1))
            case measure => omega
            case rel => exact ⟨j + 1, by omega, rfl, by rw [HIT.out], by rw [HIT.out]; exact hpx, hO, H1.out, H2.out, hmr, G1⟩
          · obtain rfl : j = per p k := by omega
            have hX16 : it p (per p k) k < 16 := by omega
            have c0 : wr.cell? ⟨w.heap.size + 1, it p (per p k) k, none⟩ = some (.bool true) := by rw [cell_of_cells, HCM.out, bv_get _ hX16, Mj_true HB.out hlt]
            obtain ⟨A, cc, rfl⟩ := own_slice hown1
            have hszs : wo.heap.size ≤ wr.heap.size := hg1.size
            obtain ⟨vs, hvl, ho0, hi0, hd0⟩ := hown
            have hC : ∀ (i : Nat) (x : Value), vs[i]? = some x → ∀ g, x.ownBlock = some g → g < wo.heap.size := by
              intro i x hx1 g hg
              have : i < (cycs p k).length := by rw [← hvl]; exact (List.getElem?_eq_some_iff.1 hx1).1
              exact (World.ownsRow.lt (hi0 i x _ hx1 (List.getElem?_eq_getElem this)) g hg).2
            have hk2 : Own2 (w.heap.size + 2) wr u5 (cycs p k) := Own2.kept ⟨vs, hvl, ho0, hi0, hd0⟩ hg1 (fun g hg => by simp at hg; omega)
            have far : ∀ {e : TypeId} {s n : Nat} {u : Value} {xs : List Value}, wo.ownsRow (w.heap.size + 2) e s u n xs → u.ownBlock = none ∨ u.ownBlock ≠ some (w.heap.size + 1) := by
              intro e s n u xs hu
              rcases hb : u.ownBlock with _ | g
              · exact .inl rfl
              · refine .inr fun e => ?_
                have := hu.lt g hb
                simp at e; omega
            have ho1 := ho0.kept hg1 (far ho0)
            have hi1 : ∀ (i : Nat) (u : Value) (l : List Nat), vs[i]? = some u → (cycs p k)[i]? = some l → Own1 (w.heap.size + 2) wr u l := fun i u l h1 h2 => (hi0 i u l h1 h2).kept hg1 (far (hi0 i u l h1 h2))
            have hvs16 : vs.length ≤ 16 := by rw [hvl]; exact cycs_len_le HB.out hm2 (by omega)
            have HVL := hide hvl; clear hvl
            have HI := hide hi1; clear hi1 hi0
            have HD := hide hd0; clear hd0
            have HCC := hide hC; clear hC
            have HO := hide hk2; clear hk2
            clear ho0
            have hll : (orbTo p k (per p k)).length ≤ 16 := by rw [orbTo_length]; have := (per_spec HB.out hlt).2.1; omega
            generalize hL : (orbTo p k (per p k)).length = L at *
            have HL := hide hL; clear hL
            clear far
            go_wp2_with (at_builtin; refine wpList_append_own _ rfl _ _ 26 rfl (w.heap.size + 2) 25 j0 (.slice none 0 0) 1 24 Try.underlying26 J0.out.1 J0.out.2.1 J0.out.2.2.1 J0.out.2.2.2 rfl (by decide) _ _ _ rfl (ho1.alloc _) ⟨wr.heap.size, 0, none⟩ 1 1 [.slice A L cc] rfl rfl ?d1 ?d2 ?d3 ?d4 ?d5 ?_)
            case d1 => exact one_new _ _ _ _ (by simp)
            case d2 => intro u hu; simp at hu; subst hu; rfl
            case d3 => unfold maxLen; omega
            case d4 => omega
            case d5 => simp; omega
            intro v' w1 hown' hg' _
            have hrow : ∀ g, u5.ownBlock = some g → w.heap.size + 2 ≤ g := fun g hg => (ho1.lt g hg).1
            have hpc : cellsOf w1 w.heap.size = av p := by
              rw [grown_cells hg' (by simp; omega) (fun e => by have := hrow _ e.symm; omega), cellsOf_past (by omega)]; exact HCP.out
            have hmc : cellsOf w1 (w.heap.size + 1) = bv (cycs.met p (k + 1)) := by
              rw [grown_cells hg' (by simp; omega) (fun e => by have := hrow _ e.symm; omega), cellsOf_past (by omega), HCM.out, (cycs_new HB.out hm2 hlt HK.out).2]
            have hmr : rowOk w1 (w.heap.size + 1) 16 := (grown_row hg' (by simp; omega) (fun e => by have := hrow _ e.symm; omega)).2 ((rowOk_past (by omega)).2 hrm1)
            have hbw : Below w.heap.size w w1 := ((hb.grown hg1 hb.size (fun g hg => by simp at hg; omega)).alloc (by have := hb.size; omega) _).grown hg' (by have := hb.size; simp; omega) (fun g hg => by have := hrow g hg; omega)
            have hOO : Own2 (w.heap.size + 2) w1 v' (cycs p (k + 1)) := by
              rw [(cycs_new HB.out hm2 hlt HK.out).1, ← orbTo_per]
              exact Own2.add HVL.out (ho1.alloc _) (fun i u l h1 h2 => World.ownsRow.alloc (HI.out i u l h1 h2) _) HD.out (World.ownsRow.alloc hown1 _) (by omega) HCC.out hown' hg'
            have H1 := hide hpc; clear hpc
            have H2 := hide hmc; clear hmc
            have H3 := hide hOO; clear hOO
            clear hown' hg' ho1 hrow c0
            go_wp2
            go_roundw
            case rel => exact ⟨k + 1, by omega, by go_num, hbw, H1.out, H2.out, hmr, H3.out⟩
            case measure => simp [intOf]; omega
      · have c0 : wr.cell? ⟨w.heap.size + 1, k, none⟩ = some (.bool true) := by rw [cell_of_cells, HM.out, bv_get _ hlt16, hmk]
        have HK := hide hmk; clear hmk
        go_wp2
        go_roundw
        case rel => exact ⟨k + 1, by omega, by go_num, hb, HC.out, by rw [HM.out, (cycs_old HK.out).2], hrm, by rw [(cycs_old HK.out).1]; exact hown⟩
        case measure => simp [intOf]; omega
    · obtain rfl : k = m := by omega
      clear hlt hk hcp hcm
      go_wp2
      go_ret
      exact ⟨_, rfl, hb, by obtain ⟨vs, a, b, c, d⟩ := hown; exact ⟨vs, a, ⟨b.1, b.2.imp id (fun ⟨g, cap, cur, h1, h2, h3⟩ => ⟨g, cap, cur, h1, by omega, h3⟩)⟩, fun i u l h1 h2 => (c i u l h1 h2).mono (by omega), d⟩⟩
end Go.Proofs.Ytmapjjfefjoemaa
