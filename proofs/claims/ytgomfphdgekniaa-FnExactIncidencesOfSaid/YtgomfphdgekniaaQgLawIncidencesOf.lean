/- Texts put together: IncS -/
import Derived.Test.YtgomfphdgekniaaQfLawIncidencesOf
import Derived.Test.YtgomfphdgekniaaChecked
import Derived.WalkKit
import Derived.WalkSpells
import Derived.WalkLawsBesides
import Derived.Deep.LoopGhost
import Derived.Deep.OwnRows
import Derived.Laws.Rows
import Derived.Laws.Tables
import Derived.Laws.CopyOwn
import Derived.ProofKit
import Derived.OpenShut
import Derived.ShutString
import Derived.ChangeOld
import Derived.Below
import Derived.Laws.OwnMore
import Derived.BigQuiet
import Derived.Deep.QuietTactic
import Derived.RegionTactic
import Derived.Deep.RegionWith
import Derived.Laws.CopyRow
import Derived.Deep.MidRow
import Derived.Deep.Quiet
import Derived.StillTail
import Derived.OwnWalk
import Derived.ChangeSlices
import Derived.ChangeKeysEq
import Derived.StillTailTactics
import Derived.Deep.RegionHeld3
import Derived.Laws.Cover3
import Derived.IntWalk
import Derived.Laws.StructEq
import Derived.Maps.Keyed
import Derived.DeepKeys4
import Derived.Maps.Own
import Derived.Carry
namespace Go.Proofs.Ytgomfphdgekniaa
open Go.RowKit

theorem rowsP_set : ∀ {vs : List Value} {ls : List (List Nat)} {i : Nat} {u : Value} (l : List Nat), vs[i]? = some u → vs.length = ls.length → (rowsP vs ls).set i (pInts u l) = rowsP vs (ls.set i l) := by
  intro vs
  induction vs with
  | nil => intro ls i u l h _; simp at h
  | cons v vs ih =>
    intro ls i u l h hl
    cases ls with
    | nil => simp at hl
    | cons m ls =>
      cases i with
      | zero => simp at h; subst h; rfl
      | succ i =>
        simp at h
        simp only [rowsP, List.set_cons_succ]
        rw [ih l h (by simpa using hl)]
theorem rowsL_zero (nb nw : Nat) : rowsL (fun _ => 0) nb nw = List.replicate nb (wl (fun _ => 0) nw) := by
  apply List.ext_getElem?
  intro i
  rcases Nat.lt_or_ge i nb with c | c
  · rw [rowsL_at _ c, List.getElem?_replicate, if_pos c]
  · rw [List.getElem?_eq_none (by rw [rowsL_length]; exact c), List.getElem?_replicate, if_neg (by omega)]

set_option maxRecDepth 100000 in
set_option maxHeartbeats 4000000 in
theorem sIncidencesOf_any (n : Int) (f g : Nat → Nat) (hf : ∀ i, f i < 256) (hg : ∀ i, g i < 256) (w : World) :
    Calls Try.prog 15 #[.agg (dv n f g)] w fun e w' => ∃ v, e = .returned (.tuple #[v, .int .i64 (incC n f g)]) ∧ Below w.heap.size w w' ∧ Own2 w.heap.size w' v (incR n f g) := by
  have C1 := hide fun w => sIs_any n f g hf hg w
  clear hf hg
  have HH0 := (Holds.start w).blk (dv n f g) 30 w.heap.size rfl
  rcases h1 : desB n f g with _ | _
  · rw [h1] at C1
    have hr : incR n f g = [] := by unfold incR; rw [if_neg (by simp [h1])]
    have hc : incC n f g = 1 := by unfold incC; rw [if_neg (by simp [h1])]
    rw [hr, hc]
    clear h1 hr hc
    go_enter Try.func15, Try.ntmps15
    go_wp2_with fail
    refine (C1.out _).mono ?_
    rintro e w1 ⟨rfl, hb⟩
    have HH1 := HH0.call hb
    clear hb HH0
    go_wp2
    go_ret2
    exact ⟨.slice none 0 0, rfl, HH1.low, Own2.nil _ _⟩
  rw [h1] at C1
  obtain ⟨m, rfl, hd⟩ := desB_true h1
  have hr : incR m f g = rowsL (incT (whichF f m) (whichF g m) m) (cycs f m).length (cycs g m).length := by unfold incR; rw [if_pos h1, Int.toNat_natCast]
  have hc : incC m f g = 0 := by unfold incC; rw [if_pos h1]
  rw [hr, hc]
  clear h1 hr hc
  have hm := hd.le
  have hn := dv_n m f g
  have CB := hide fun w => sWhich_any f m hd.black w
  have CW := hide fun w => sWhich_any g m hd.white w
  have kb := fun w => sCycles_any f m hd.black w
  have kw := fun w => sCycles_any g m hd.white w
  have LB := hide fun x (hx : x < m) => which_lt hd.black hx
  have LW := hide fun x (hx : x < m) => which_lt hd.white hx
  have hnb := cycs_le hd.black
  have hnw := cycs_le hd.white
  clear hd
  have KB : Hid (∀ w, Calls Try.prog 52 #[.agg (av f), .int .i64 m] w fun e w' => ∃ A c, e = .returned (.slice A (cycs f m).length c) ∧ Below w.heap.size w w') := hide fun w => (kb w).mono fun e w' ⟨v, h1, h2, h3⟩ => by
    obtain ⟨A, c, rfl⟩ := h3.form
    exact ⟨A, c, h1, h2⟩
  have KW : Hid (∀ w, Calls Try.prog 52 #[.agg (av g), .int .i64 m] w fun e w' => ∃ A c, e = .returned (.slice A (cycs g m).length c) ∧ Below w.heap.size w w') := hide fun w => (kw w).mono fun e w' ⟨v, h1, h2, h3⟩ => by
    obtain ⟨A, c, rfl⟩ := h3.form
    exact ⟨A, c, h1, h2⟩
  clear kb kw
  generalize whichF f m = hb at *
  generalize whichF g m = hw at *
  generalize (cycs f m).length = nb at *
  generalize (cycs g m).length = nw at *
  have HT := hide fun k => (show incT hb hw (k + 1) = fset (incT hb hw k) (16 * hb k + hw k) (incT hb hw k (16 * hb k + hw k) + 1) from rfl)
  have HT0 := hide (show incT hb hw 0 = fun _ => 0 from rfl)
  have HTL := hide fun k z => incT_le hb hw k z
  generalize incT hb hw = inc at *
  obtain ⟨i0, hi, hz0, hz1, hz2⟩ := info_parts info64
  have I0 := hide (And.intro hi (And.intro hz0 (And.intro hz1 hz2))); clear hi hz0 hz1 hz2
  go_enter Try.func15, Try.ntmps15
  go_wp2_with fail
  refine (C1.out _).mono ?_
  rintro e w1 ⟨rfl, hb0⟩
  have HH1 := HH0.call hb0
  clear hb0 HH0
  go_wp2
  apply Rd.region_PQ (w0 := w) ([pBlk w.heap.size (dv m f g) 30]) ([pBlk w.heap.size (dv m f g) 30]) [10, 11, 12, 13] (.q 0 <| .q 1 <| .q 2 <| .q 3 <| .q 4 <| .q 5 <| .q 6 <| .q 7 <| .q 8 <| .q 9 <| .s2 10 (.s1 11 <| .s1 12 <| .s1 13 .fin) 11 (.s1 10 <| .s1 12 <| .s1 13 .fin)) HH1 (.refl _) (by kernel_rfl) (by kernel_rfl) (by kernel_rfl) (F := fun g4 g5 => pBlk g5 (zv hw) 61 :: pBlk g4 (zv hb) 61 :: [pBlk w.heap.size (dv m f g) 30])
  case h =>
    intro K key
    iterate 4
      apply Rd.v_q
      · simp only [List.getElem?_toArray, List.getElem?_cons_zero, List.getElem?_cons_succ]; exact rfl
      · rfl
      · go_simp
      · intro wx hx
        have q1 := hx.cells 0 rfl
        have q2 := hx.cell 0 rfl hn
        unfold atG
        go_simp
        simp only [uponG]
        exact ⟨by trivial, rfl⟩
    iterate 1
      apply Rd.v_q
      · simp only [List.getElem?_toArray, List.getElem?_cons_zero, List.getElem?_cons_succ]; exact rfl
      · rfl
      · go_simp
      · intro wx hx
        have q1 := hx.cells 0 rfl
        have q2 := hx.cell 0 rfl hn
        unfold atG
        go_simp
        simp only [uponG]
        exact ⟨by trivial, CB.out wx⟩
    iterate 4
      apply Rd.v_q
      · simp only [List.getElem?_toArray, List.getElem?_cons_zero, List.getElem?_cons_succ]; exact rfl
      · rfl
      · go_simp
      · intro wx hx
        have q1 := hx.cells 0 rfl
        have q2 := hx.cell 0 rfl hn
        unfold atG
        go_simp
        simp only [uponG]
        exact ⟨by trivial, rfl⟩
    iterate 1
      apply Rd.v_q
      · simp only [List.getElem?_toArray, List.getElem?_cons_zero, List.getElem?_cons_succ]; exact rfl
      · rfl
      · go_simp
      · intro wx hx
        have q1 := hx.cells 0 rfl
        have q2 := hx.cell 0 rfl hn
        unfold atG
        go_simp
        simp only [uponG]
        exact ⟨by trivial, CW.out wx⟩
    refine ⟨?_, ?_⟩
    · refine Rd.v_box (zv fun _ => 0) 61 (by simp only [List.getElem?_toArray, List.getElem?_cons_zero, List.getElem?_cons_succ]; exact rfl) rfl (by go_simp) (fun wx hx hD => by rw [zv_zero]; go_simp) fun g4 => ?_
      refine Rd.v_box (zv fun _ => 0) 61 (by simp only [List.getElem?_toArray, List.getElem?_cons_zero, List.getElem?_cons_succ]; exact rfl) rfl (by go_simp) (fun wx hx hD => by rw [zv_zero]; go_simp) fun g5 => ?_
      refine Rd.v_s (Rd.rHolds w fun _ => pBlk g5 (zv fun _ => 0) 61 :: pBlk g4 (zv hb) 61 :: [pBlk w.heap.size (dv m f g) 30]) Rd.rHolds_stable (by simp only [List.getElem?_toArray, List.getElem?_cons_zero, List.getElem?_cons_succ]; exact rfl) rfl (by go_simp) (fun wx hx hD => ?_) ?_
      · have rr := hD.rowOk 1 rfl (zv_size _)
        go_simp
        simp only [Rd.uponE]
        have h2 := hD.setRow 1 rfl (zv hb)
        exact ⟨h2.tail.tail, h2⟩
      rintro vn -
      refine Rd.v_s (Rd.rHolds w fun _ => pBlk g5 (zv hw) 61 :: pBlk g4 (zv hb) 61 :: [pBlk w.heap.size (dv m f g) 30]) Rd.rHolds_stable (by simp only [List.getElem?_toArray, List.getElem?_cons_zero, List.getElem?_cons_succ]; exact rfl) rfl (by go_simp) (fun wx hx hD => ?_) ?_
      · have hD2 : Holds w wx (pBlk g5 (zv fun _ => 0) 61 :: pBlk g4 (zv hb) 61 :: [pBlk w.heap.size (dv m f g) 30]) := hD
        have rr := hD2.rowOk 0 rfl (zv_size _)
        go_simp
        simp only [Rd.uponE]
        have h2 := hD2.setRow 0 rfl (zv hw)
        exact ⟨h2.tail.tail, h2⟩
      rintro vn -
      rintro w' - hx
      go_simp
      exact key _ _ _ hx
    · refine Rd.v_box (zv fun _ => 0) 61 (by simp only [List.getElem?_toArray, List.getElem?_cons_zero, List.getElem?_cons_succ]; exact rfl) rfl (by go_simp) (fun wx hx hD => by rw [zv_zero]; go_simp) fun g5 => ?_
      refine Rd.v_box (zv fun _ => 0) 61 (by simp only [List.getElem?_toArray, List.getElem?_cons_zero, List.getElem?_cons_succ]; exact rfl) rfl (by go_simp) (fun wx hx hD => by rw [zv_zero]; go_simp) fun g4 => ?_
      refine Rd.v_s (Rd.rHolds w fun _ => pBlk g4 (zv hb) 61 :: pBlk g5 (zv fun _ => 0) 61 :: [pBlk w.heap.size (dv m f g) 30]) Rd.rHolds_stable (by simp only [List.getElem?_toArray, List.getElem?_cons_zero, List.getElem?_cons_succ]; exact rfl) rfl (by go_simp) (fun wx hx hD => ?_) ?_
      · have rr := hD.rowOk 0 rfl (zv_size _)
        go_simp
        simp only [Rd.uponE]
        have h2 := hD.setRow 0 rfl (zv hb)
        exact ⟨h2.tail.tail, h2⟩
      rintro vn -
      refine Rd.v_s (Rd.rHolds w fun _ => pBlk g4 (zv hb) 61 :: pBlk g5 (zv hw) 61 :: [pBlk w.heap.size (dv m f g) 30]) Rd.rHolds_stable (by simp only [List.getElem?_toArray, List.getElem?_cons_zero, List.getElem?_cons_succ]; exact rfl) rfl (by go_simp) (fun wx hx hD => ?_) ?_
      · have hD2 : Holds w wx (pBlk g4 (zv hb) 61 :: pBlk g5 (zv fun _ => 0) 61 :: [pBlk w.heap.size (dv m f g) 30]) := hD
        have rr := hD2.rowOk 1 rfl (zv_size _)
        go_simp
        simp only [Rd.uponE]
        have h2 := hD2.setRow 1 rfl (zv hw)
        exact ⟨h2.tail.tail, h2⟩
      rintro vn -
      rintro w' - hx
      go_simp
      exact key _ _ _ (Holds.perm hx (List.Perm.swap _ _ _))
  intro g4 g5 w3 H3
  clear HH1
  have H4 := H3.rowNew #[] 35 1 0 w3.heap.size rfl rfl (by unfold maxLen; omega)
  have n4 := H4.cell 3 rfl hn
  have c4 := H4.cells 3 rfl
  clear H3
  go_simp
  go_wp2_with fail
  refine (KW.out _).mono ?_
  rintro e w4 ⟨A, c, rfl, hb4⟩
  have H5 := H4.call hb4
  clear hb4 H4 n4 c4
  have n5 := H5.cell 3 rfl hn
  have c5 := H5.cells 3 rfl
  go_wp2_with fail
  refine (KB.out _).mono ?_
  rintro e w5 ⟨A2, c2, rfl, hb5⟩
  have H6 := H5.call hb5
  clear hb5 H5 n5 c5
  have H7 := H6.perm (List.perm_append_comm (l₁ := [_]) (l₂ := [_, _, _]))
  clear H6
  generalize w3.heap.size = G6 at *
  have H8 : Holds w w5 (pBlk g5 (zv hw) 61 :: pBlk g4 (zv hb) 61 :: pBlk w.heap.size (dv m f g) 30 :: pVals (.slice (some ⟨G6, 0, none⟩) 0 0) [] :: rowsP [] (List.replicate (nb - nb) (wl (fun _ => 0) nw))) := H7
  clear H7
  go_wp2
  go_loopw [8, 6] (fun t u wr => ∃ (i : Nat) (vs : List Value), i ≤ nb ∧ t = .int .i64 i ∧ vs.length = nb - i ∧ Holds w wr (pBlk g5 (zv hw) 61 :: pBlk g4 (zv hb) 61 :: pBlk w.heap.size (dv m f g) 30 :: pVals u vs :: rowsP vs (List.replicate (nb - i) (wl (fun _ => 0) nw)))) (fun t _ _ => (intOf t).toNat)
  case atStart => exact ⟨nb, [], by omega, rfl, by simp, H8⟩
  case round =>
    clear H8
    obtain ⟨i, vs, hi, rfl, hvs, hH⟩ := hrel
    obtain ⟨A0, c0, rfl⟩ := hH.valsForm 3 rfl
    by_cases hi0 : 0 < i
    · have hi0' : (0 : Int) < i := by omega
      have HVS := hide hvs; clear hvs
      have hvl : vs.length ≤ 16 := by rw [HVS.out]; omega
      go_wp2_with (refine makeH (P := Try.prog) rfl 35 _ _ rfl 2 i0 (.int .i64 0) 8 Try.underlying35 I0.out.1 I0.out.2.1 I0.out.2.2.1 I0.out.2.2.2 rfl nw .i64 .i64 rfl rfl (by omega) (by decide) hH ?_)
      intro w6 H6
      rw [wl_zero] at H6
      clear hH
      generalize wr.heap.size = gr at *
      have H7 : Holds w w6 (pInts (.slice (some ⟨gr, 0, none⟩) nw nw) (wl (fun _ => 0) nw) :: pBlk g5 (zv hw) 61 :: pBlk g4 (zv hb) 61 :: pBlk w.heap.size (dv m f g) 30 :: pVals (.slice A0 vs.length c0) vs :: rowsP vs (List.replicate (nb - i) (wl (fun _ => 0) nw))) := by unfold pInts; rw [wl_length]; exact H6
      clear H6
      go_wp2_with (at_builtin; refine appRow (H7.alloc _) 4 rfl w6.heap.size (.slice (some ⟨gr, 0, none⟩) nw nw) rfl 35 (heap_at _ _ _ rfl) (by omega) rfl _ _ rfl rfl rfl ?_)
      intro v' w7 H8
      have hr : List.replicate (nb - (i - 1)) (wl (fun _ => 0) nw) = (List.replicate (nb - i) (wl (fun _ => 0) nw)) ++ [wl (fun _ => 0) nw] := by
        rw [show nb - (i - 1) = (nb - i) + 1 by omega, List.replicate_succ']
      have H9 : Holds w w7 ([pBlk g5 (zv hw) 61, pBlk g4 (zv hb) 61, pBlk w.heap.size (dv m f g) 30, pVals v' (vs ++ [.slice (some ⟨gr, 0, none⟩) nw nw])] ++ rowsP (vs ++ [.slice (some ⟨gr, 0, none⟩) nw nw]) (List.replicate (nb - (i - 1)) (wl (fun _ => 0) nw))) := by
        rw [hr]
        exact Holds.rowEnd (A := [_, _, _, _]) (by rw [HVS.out, List.length_replicate]) H8
      clear H8 H7 hr
      go_wp2
      go_roundw
      case rel => exact ⟨i - 1, vs ++ [_], by omega, by go_num, by rw [List.length_append, HVS.out]; simp only [List.length_cons, List.length_nil]; omega, H9⟩
      case measure => simp [intOf]; omega
    · obtain rfl : i = 0 := by omega
      clear hi hi0
      rw [Nat.sub_zero, ← rowsL_zero, ← HT0.out] at hH
      rw [Nat.sub_zero] at hvs
      have HVS := hide hvs; clear hvs
      go_wp2
      go_loopw [9] (fun t wr => ∃ x : Nat, x ≤ m ∧ t = .int .i64 x ∧ Holds w wr (pBlk g5 (zv hw) 61 :: pBlk g4 (zv hb) 61 :: pBlk w.heap.size (dv m f g) 30 :: pVals (.slice A0 vs.length c0) vs :: rowsP vs (rowsL (inc x) nb nw))) (fun t _ => m - (intOf t).toNat)
      case atStart => exact ⟨0, by omega, rfl, hH⟩
      case round =>
        clear hH
        obtain ⟨x, hx, rfl, hH⟩ := hrel
        have nx := hH.cell 2 rfl hn
        by_cases hxm : x < m
        · have hx16 : x < 16 := by omega
          have hxm' : (x : Int) < m := by omega
          have hx' : (x : Int) < 16 := by omega
          have ht := HT.out x
          have hle := HTL.out x (16 * hb x + hw x)
          have hba := LB.out x hxm
          have hwa := LW.out x hxm
          have q1 := hH.cell 1 rfl (zv_get hb (i := x) hx16)
          have q2 := hH.cell 0 rfl (zv_get hw (i := x) hx16)
          obtain ⟨g0, c1, A', c', e0, hvi, x1, hpart⟩ := hH.rowAt (by rw [HVS.out, rowsL_length]) 3 rfl (fun _ => rfl) (i := hb x) (by rw [rowsL_length]; exact hba)
          have hrow : (rowsL (inc x) nb nw)[hb x]'(by rw [rowsL_length]; exact hba) = wl (fun b => inc x (16 * hb x + b)) nw := by
            have := rowsL_at (inc x) (nw := nw) hba
            rw [List.getElem?_eq_getElem (by rw [rowsL_length]; exact hba)] at this
            exact Option.some.inj this
          rw [hrow, wl_length] at hvi x1
          rw [hrow] at hpart
          have hpart2 : (pBlk g5 (zv hw) 61 :: pBlk g4 (zv hb) 61 :: pBlk w.heap.size (dv m f g) 30 :: pVals (.slice A0 vs.length c0) vs :: rowsP vs (rowsL (inc x) nb nw))[hb x + 4]? = some (pInts (.slice A' nw c') (wl (fun b => inc x (16 * hb x + b)) nw)) := by rw [hpart, wl_length]
          obtain ⟨g2, c2', e2, _, y1, y2⟩ := hH.ints (hb x + 4) hpart2 (k := hw x) (by rw [wl_length]; exact hwa)
          rw [wl_length] at e2
          injection e2 with e2 e2a e2b
          subst e2
          injection e0 with e0 e0a e0b
          subst e0
          have hwv : (wl (fun b => inc x (16 * hb x + b)) nw)[hw x]'(by rw [wl_length]; exact hwa) = inc x (16 * hb x + hw x) := by unfold wl; simp
          rw [hwv] at y1
          have hpart3 : (pBlk g5 (zv hw) 61 :: pBlk g4 (zv hb) 61 :: pBlk w.heap.size (dv m f g) 30 :: pVals (.slice (some ⟨g0, 0, none⟩) vs.length c0) vs :: rowsP vs (rowsL (inc x) nb nw))[hb x + 4]? = some (pRow (.slice (some ⟨g2, 0, none⟩) nw c') 2 1 nw (nums (wl (fun b => inc x (16 * hb x + b)) nw))) := by rw [hpart2]; unfold pInts; rw [wl_length]
          have hP := hH.put (hb x + 4) hpart3 (hw x) (.int .i64 (inc x (16 * hb x + hw x) + 1 : Nat))
          have hvi2 : vs[hb x]? = some (.slice (some ⟨g2, 0, none⟩) nw c') := hvi
          have hQ : Holds w (wr.setCell ⟨g2, hw x, none⟩ (.int .i64 (inc x (16 * hb x + hw x) + 1 : Nat))) (pBlk g5 (zv hw) 61 :: pBlk g4 (zv hb) 61 :: pBlk w.heap.size (dv m f g) 30 :: pVals (.slice (some ⟨g0, 0, none⟩) vs.length c0) vs :: rowsP vs (rowsL (inc (x + 1)) nb nw)) := by
            have e3 : rowsP vs (rowsL (inc (x + 1)) nb nw) = (rowsP vs (rowsL (inc x) nb nw)).set (hb x) (pInts (.slice (some ⟨g2, 0, none⟩) nw c') (wl (fset (fun b => inc x (16 * hb x + b)) (hw x) (inc x (16 * hb x + hw x) + 1)) nw)) := by
              rw [rowsP_set _ hvi2 (by rw [HVS.out, rowsL_length]), rowsL_set _ _ hwa (by omega), ht]
            rw [e3]
            rw [wl_set] at hP
            unfold pInts
            rw [wl_length]
            exact hP
          clear hP hpart hpart2 hpart3 hH ht hrow hwv hvi2 hvi
          have HQ := hide hQ; clear hQ
          have hwn : ((hw x : Nat) : Int) < nw := by omega
          have hbn : ((hb x : Nat) : Int) < vs.length := by rw [HVS.out]; omega
          have hadd := hide (show ((inc x (16 * hb x + hw x) : Nat) : Int) + 1 = ((inc x (16 * hb x + hw x) + 1 : Nat) : Int) by omega)
          go_wp2
          clear nx q1 q2 x1 y1 y2
          try rw [hadd.out]
          go_roundw
          case rel => exact ⟨x + 1, by omega, by go_num, by first | exact HQ.out | (rw [hadd.out]; exact HQ.out)⟩
          case measure => simp [intOf]; omega
        · obtain rfl : m = x := by omega
          clear hxm hx
          have hown : Own2 w.heap.size wr (.slice A0 vs.length c0) (rowsL (inc m) nb nw) := Holds.own2 (vs := vs) (A := [pBlk g5 (zv hw) 61, pBlk g4 (zv hb) 61, pBlk w.heap.size (dv m f g) 30]) (by rw [HVS.out, rowsL_length]) hH
          have hlow := hH.low
          clear hH
          go_wp2
          go_ret2
          exact ⟨_, rfl, hlow, hown⟩

set_option maxRecDepth 100000 in
set_option maxHeartbeats 1000000 in
theorem fnExactIncidencesOf_walk (n : Int) (f g : Nat → Nat) (_hn : -9223372036854775808 ≤ n ∧ n ≤ 9223372036854775807) (hf : ∀ i, f i < 256) (hg : ∀ i, g i < 256) (w : World) :
    Calls Try.prog 3 #[.agg (dv n f g)] w fun e w' => e = .returned (.bool true) ∧ Below w.heap.size w w' := by
  clear _hn 
  have C1 := hide fun w => incidencesOf_any n f g hf hg  w
  have C2 := hide fun w => sIncidencesOf_any n f g hf hg  w
  obtain ⟨hT, hL⟩ := incR_bound n f g
  generalize incR n f g = L at *
  generalize incC n f g = c at *
  clear hf hg
  have hne : (c != c) = false := by simp
  have hnt : (((1 + total L : Nat) : Int) != ((1 + total L : Nat) : Int)) = false := by simp
  have hneg : decide (((1 + total L : Nat) : Int) < 0) = false := decide_eq_false (by omega)
  go_enter Try.func3, Try.ntmps3
  go_wp2_with fail
  refine (toDessin_any n f g _).mono ?_
  rintro e w1 ⟨rfl, h1⟩
  go_wp2_with fail
  refine (C2.out _).mono ?_
  rintro e w2 ⟨v0, rfl, h2, o0⟩
  obtain ⟨A0, c0, vs0, rfl, p0⟩ := own2_form o0
  clear o0
  have b2 := h1.trans (h2.mono h1.size)
  have g2 : cellsOf w2 w.heap.size = dv n f g := (below_cells b2 (by simp)).trans (cellsOf_heap (heap_at _ _ _ rfl))
  have O0 := hide p0; clear p0
  clear h1 h2
  go_wp2_with fail
  refine (toDessin_any n f g _).mono ?_
  rintro e w3 ⟨rfl, h3⟩
  go_wp2_with fail
  refine (C1.out _).mono ?_
  rintro e w4 ⟨v1, rfl, h4, o1⟩
  obtain ⟨A1, c1, vs1, rfl, p1⟩ := own2_form o1
  clear o1
  have s23 := h3.size
  have s34 := h4.size
  have h24 := h3.trans (h4.mono h3.size)
  have O04 := hide (O0.out.below h24 (Nat.le_refl _))
  have O1 := hide p1; clear p1
  have b4 := b2.trans (h24.mono b2.size)
  clear h3 h4 h24 g2
  go_wp2_with fail
  refine (eqInt64SS_same L A1 A0 c1 c0 _ _ vs1 vs0 (by omega) (by omega) _ O1.out O04.out).mono ?_
  rintro e w5 ⟨rfl, h5⟩
  have s45 := h5.size
  have O05 := hide (O04.out.below h5 (Nat.le_refl _))
  have O15 := hide (O1.out.below h5 (Nat.le_refl _))
  have b5 := b4.trans (h5.mono b4.size)
  clear h5
  go_wp2_with fail
  refine (mark1 L A1 c1 _ vs1 (by omega) (by omega) _ (by omega) O15.out).mono ?_
  rintro e w6 ⟨rfl, h6, s56, o16⟩
  have O16 := hide o16; clear o16
  have O06 := hide (O05.out.lower h6 (fun k hk => by have := O0.out.lt.1 k hk; omega) (fun i u hu k hk => by have := O0.out.lt.2 i u hu k hk; omega))
  have b6 := b5.trans (h6.mono (by have := b2.size; omega))
  clear h6
  go_wp2_with fail
  refine (held1 L A1 c1 _ vs1 (by omega) (by omega) _ O16.out).mono ?_
  rintro e w7 ⟨rfl, h7⟩
  have s67 := h7.size
  have O17 := hide (O16.out.below h7 (Nat.le_refl _))
  have O07 := hide (O06.out.below h7 (Nat.le_refl _))
  have b7 := b6.trans (h7.mono b6.size)
  have g7 : cellsOf w7 w.heap.size = dv n f g := (below_cells b7 (by simp)).trans (cellsOf_heap (heap_at _ _ _ rfl))
  clear h7
  go_wp2_with fail
  refine (toDessin_any n f g _).mono ?_
  rintro e w8 ⟨rfl, h8⟩
  go_wp2_with fail
  refine (C1.out _).mono ?_
  rintro e w9 ⟨v2, rfl, h9, o2⟩
  obtain ⟨A2, c2, vs2, rfl, p2⟩ := own2_form o2
  clear o2
  have h79 := h8.trans (h9.mono h8.size)
  have O09 := hide (O07.out.below h79 (Nat.le_refl _))
  have O19 := hide (O17.out.below h79 (Nat.le_refl _))
  have O2 := hide p2; clear p2
  have b9 := b7.trans (h79.mono b7.size)
  clear h8 h9 h79 g7
  go_wp2_with fail
  refine (eqInt64SS_same L A2 A0 c2 c0 _ _ vs2 vs0 (by omega) (by omega) _ O2.out O09.out).mono ?_
  rintro e w10 ⟨rfl, h10⟩
  have O110 := hide (O19.out.below h10 (Nat.le_refl _))
  have b10 := b9.trans (h10.mono b9.size)
  clear h10
  go_wp2_with fail
  refine (held1 L A1 c1 _ vs1 (by omega) (by omega) _ O110.out).mono ?_
  rintro e w11 ⟨rfl, h11⟩
  have b11 := b10.trans (h11.mono b10.size)
  clear h11
  go_wp2
  go_ret
  exact ⟨rfl, (below1 w _).trans (b11.mono (by simp))⟩
end Go.Proofs.Ytgomfphdgekniaa
