/- What a set is, of both. -/
import Derived.Test.YtpkfjdaedaplfaaFrk
import Derived.Test.YtpkfjdaedaplfaaFrl
namespace Go.Proofs.Ytpkfjdaedaplfaa
open Go.RowKit

/-- no fraction, or not behind the one ahead of it -/
def bad (l : List (Int × Int)) (i : Nat) : Bool := !frB (l.getD i (0, 0)).1 (l.getD i (0, 0)).2 || (decide (0 < i) && decide (0 ≤ c3 ((l.getD (i - 1) (0, 0)).1 * (l.getD i (0, 0)).2) ((l.getD i (0, 0)).1 * (l.getD (i - 1) (0, 0)).2)))
def stB (l : List (Int × Int)) : Bool := (List.range l.length).all (fun i => !bad l i) && decide (l.length ≤ 12)
theorem stB_bad {l : List (Int × Int)} {i : Nat} (hi : i < l.length) (h : bad l i = true) : stB l = false := by
  unfold stB
  rw [Bool.and_eq_false_iff]
  left
  rw [List.all_eq_false]
  exact ⟨i, by simp [hi], by rw [h]; decide⟩
theorem stB_good {l : List (Int × Int)} (h : ∀ i, i < l.length → bad l i = false) : stB l = decide (l.length ≤ 12) := by
  unfold stB
  rw [show (List.range l.length).all (fun i => !bad l i) = true from by
    rw [List.all_eq_true]
    intro i hi
    rw [h i (by simpa using hi)]; rfl, Bool.true_and]
theorem stB_true {l : List (Int × Int)} (h : stB l = true) : (∀ i, i < l.length → bad l i = false) ∧ l.length ≤ 12 := by
  unfold stB at h
  rw [Bool.and_eq_true, List.all_eq_true] at h
  refine ⟨fun i hi => ?_, of_decide_eq_true h.2⟩
  have := h.1 i (by simp [hi])
  simpa using this
theorem bad_fr {l : List (Int × Int)} {i : Nat} (h : bad l i = false) : frB (l.getD i (0, 0)).1 (l.getD i (0, 0)).2 = true := by
  unfold bad at h
  rw [Bool.or_eq_false_iff] at h
  simpa using h.1

set_option maxRecDepth 100000 in
set_option maxHeartbeats 4000000 in
theorem isSet_any (l : List (Int × Int)) (v : Value) (w : World) (h : RdF w v l) :
    Calls Try.prog 31 #[v] w fun e w' => e = .returned (.bool (stB l)) ∧ Below w.heap.size w w' := by
  obtain ⟨A, c, rfl, hl⟩ := h.form
  have H := hide h; clear h
  obtain ⟨R, hR⟩ : ∃ R, stB l = R := ⟨_, rfl⟩
  rw [hR]
  have HR := hide hR; clear hR
  go_enter Try.func31, Try.ntmps31
  go_wp2
  go_loopw [7] (fun i wr => ∃ k : Nat, k ≤ l.length ∧ i = .int .i64 k ∧ Hid (∀ i, i < k → bad l i = false) ∧ Below w.heap.size w wr) (fun i _ => l.length - (intOf i).toNat)
  case atStart => exact ⟨0, by omega, rfl, hide (fun i hi => by omega), Below.refl _ _⟩
  case round =>
    obtain ⟨k, hk, rfl, hK, hb⟩ := hrel
    by_cases hlt : k < l.length
    · have hlt' : (k : Int) < l.length := by omega
      obtain ⟨a, rfl, _, _, _⟩ := (H.out.below hb (Nat.le_refl _)).at hlt
      have ek : l.getD k (0, 0) = l[k] := by rw [List.getD_eq_getElem?_getD, List.getElem?_eq_getElem hlt]; rfl
      have CA := hide fun (wx : World) (hx : Below w.heap.size w wx) => H.out.atC hx (Nat.le_refl _) hlt
      have HB := hide (show ∀ r, bad l k = r → (r = true → R = false) ∧ (r = false → ∀ i, i < k + 1 → bad l i = false) from fun r hr => ⟨fun e => by rw [← HR.out]; exact stB_bad hlt (hr.trans e), fun e i hi => by
        by_cases c : i = k
        · subst c; exact hr.trans e
        · exact hK.out i (by omega)⟩)
      have hbad : bad l k = (!frB l[k].1 l[k].2 || (decide (0 < k) && decide (0 ≤ c3 ((l.getD (k - 1) (0, 0)).1 * l[k].2) (l[k].1 * (l.getD (k - 1) (0, 0)).2)))) := by unfold bad; rw [ek]
      have hprev : 0 < k → frB (l.getD (k - 1) (0, 0)).1 (l.getD (k - 1) (0, 0)).2 = true := fun h0 => bad_fr (hK.out (k - 1) (by omega))
      have CP := hide fun (h0 : 0 < k) (wx : World) (hx : Below w.heap.size w wx) => (show wx.cell? (a.add ((k - 1) * 2)) = some (.int .i64 (l.getD (k - 1) (0, 0)).1) ∧ wx.cell? ⟨(a.add ((k - 1) * 2)).block, (a.add ((k - 1) * 2)).off + 1, none⟩ = some (.int .i64 (l.getD (k - 1) (0, 0)).2) from by
        have e := H.out.atC hx (Nat.le_refl _) (show k - 1 < l.length by omega)
        rw [List.getD_eq_getElem?_getD, List.getElem?_eq_getElem (show k - 1 < l.length by omega)]
        exact e)
      have C1 := hide fun w => isFraction_any l[k].1 l[k].2 w
      clear hK ek
      generalize l[k].1 = x at *
      generalize l[k].2 = y at *
      generalize (l.getD (k - 1) (0, 0)).1 = p at *
      generalize (l.getD (k - 1) (0, 0)).2 = q at *
      rcases h1 : frB x y with _ | _
      · rw [h1] at C1 hbad
        have hF := hide ((HB.out true (by rw [hbad]; rfl)).1 rfl)
        clear hbad h1 CP HB hprev
        have HH := (show Holds w wr [] from ⟨hb, by simp, List.Pairwise.nil⟩).blk #[.int .i64 x, .int .i64 y] 25 wr.heap.size rfl
        have c0 := (CA.out wr hb).1
        have c1 := (CA.out wr hb).2
        clear hb
        go_wp2_with fail
        clear c0 c1
        obtain ⟨X, hX⟩ : ∃ X, X = wr.heap.size := ⟨_, rfl⟩
        rw [← hX] at HH ⊢
        generalize wr.alloc (.cells #[.int .i64 x, .int .i64 y] 25) = W at *
        clear hX
        refine region_HW (w0 := w) (L := [pBlk X #[.int .i64 x, .int .i64 y] 25]) (by kernel_rfl) (by kernel_rfl) HH ?_
        apply wq_step
        · go_simp
        · intro wx hx
          have c0 := hx.cell 0 rfl (j := 0) (v := .int .i64 x) rfl
          have c1 := hx.cell 0 rfl (j := 1) (v := .int .i64 y) rfl
          go_simp
          exact rfl
        apply wq_step
        · go_simp
        · intro wx hx
          go_simp
          go_at_call 17
          exact Calls.mono (C1.out wx) fun e w' h => ⟨h.1, hx.call h.2⟩
        iterate 2 (
          apply wq_step
          · go_simp
          · intro wx hx
            have c0 := hx.cell 0 rfl (j := 0) (v := .int .i64 x) rfl
            have c1 := hx.cell 0 rfl (j := 1) (v := .int .i64 y) rfl
            go_simp
            exact rfl)
        iterate 12 (
          apply wq_skip
          · (go_simp; try decide))
        apply wq_step
        · go_simp
        · intro wx hx
          have c0 := hx.cell 0 rfl (j := 0) (v := .int .i64 x) rfl
          have c1 := hx.cell 0 rfl (j := 1) (v := .int .i64 y) rfl
          go_simp
          exact rfl
        refine wq_nil ?_
        intro w2 hx
        have hlo := hx.low
        clear hx HH C1 CA
        go_simp
        go_wp2_with fail
        go_ret
        exact ⟨by rw [hF.out]; rfl, hlo⟩
      · rw [h1] at C1 hbad
        rw [Bool.not_true, Bool.false_or] at hbad
        rcases Nat.eq_zero_or_pos k with hk0 | H0
        · have hN := hide ((HB.out false (by rw [hbad, hk0]; rfl)).2 rfl)
          have hd0 : decide ((0 : Int) < (k : Int)) = false := decide_eq_false (by omega)
          have hkn : ¬ (0 < k) := by omega
          clear hbad h1 CP HB hprev hk0
          have HH := (show Holds w wr [] from ⟨hb, by simp, List.Pairwise.nil⟩).blk #[.int .i64 x, .int .i64 y] 25 wr.heap.size rfl
          have c0 := (CA.out wr hb).1
          have c1 := (CA.out wr hb).2
          clear hb
          go_wp2_with fail
          clear c0 c1
          obtain ⟨X, hX⟩ : ∃ X, X = wr.heap.size := ⟨_, rfl⟩
          rw [← hX] at HH ⊢
          generalize wr.alloc (.cells #[.int .i64 x, .int .i64 y] 25) = W at *
          clear hX
          refine region_HW (w0 := w) (L := [pBlk X #[.int .i64 x, .int .i64 y] 25]) (by kernel_rfl) (by kernel_rfl) HH ?_
          apply wq_step
          · go_simp
          · intro wx hx
            have c0 := hx.cell 0 rfl (j := 0) (v := .int .i64 x) rfl
            have c1 := hx.cell 0 rfl (j := 1) (v := .int .i64 y) rfl
            go_simp
            exact rfl
          apply wq_step
          · go_simp
          · intro wx hx
            go_simp
            go_at_call 17
            exact Calls.mono (C1.out wx) fun e w' h => ⟨h.1, hx.call h.2⟩
          iterate 5 (
            apply wq_step
            · go_simp
            · intro wx hx
              have c0 := hx.cell 0 rfl (j := 0) (v := .int .i64 x) rfl
              have c1 := hx.cell 0 rfl (j := 1) (v := .int .i64 y) rfl
              go_simp
              exact rfl)
          iterate 8 (
            apply wq_skip
            · (go_simp; try decide))
          iterate 2 (
            apply wq_step
            · go_simp
            · intro wx hx
              have c0 := hx.cell 0 rfl (j := 0) (v := .int .i64 x) rfl
              have c1 := hx.cell 0 rfl (j := 1) (v := .int .i64 y) rfl
              go_simp
              exact rfl)
          refine wq_nil ?_
          intro w2 hx
          have hlo := hx.low
          clear hx HH C1 CA
          go_simp
          go_wp2_with fail
          go_roundw
          case rel => exact ⟨k + 1, by omega, by go_num, hN, hlo⟩
          case measure => simp [intOf]; omega
        · have hd0 : decide ((0 : Int) < (k : Int)) = true := decide_eq_true (by omega)
          rw [decide_eq_true H0, Bool.true_and] at hbad
          have hp := hprev H0
          obtain ⟨j, hj⟩ : ∃ j, j = k - 1 := ⟨_, rfl⟩
          have hk1 : wrap64 ((k : Int) - 1) = (j : Int) := by rw [wr64 (by omega) (by omega)]; omega
          have hk2 : IntKind.i64.wrap ((k : Int) - 1) = (j : Int) := by rw [wr64k (by omega) (by omega)]; omega
          have CQ := hide fun (wx : World) (hx : Below w.heap.size w wx) => CP.out H0 wx hx
          rw [← hj] at CQ
          obtain ⟨x1, x2, _⟩ := frB_true h1
          obtain ⟨y1, y2, _⟩ := frB_true hp
          have C2 := hide fun w => compareFractions_any p q x y (by omega) (by omega) (by omega) (by omega) w
          clear x1 x2 y1 y2
          clear hprev hp h1
          generalize c3 (p * y) (x * q) = z at *
          have hkm : (j : Int) < l.length := by omega
          have hjl : j < l.length := by omega
          clear hj CP
          rcases hz : decide (0 ≤ z) with _ | _
          · have hN := hide ((HB.out false (by rw [hbad, hz])).2 rfl)
            clear hbad HB
            have HH := (show Holds w wr [] from ⟨hb, by simp, List.Pairwise.nil⟩).blk #[.int .i64 x, .int .i64 y] 25 wr.heap.size rfl
            have c0 := (CA.out wr hb).1
            have c1 := (CA.out wr hb).2
            clear hb
            go_wp2_with fail
            clear c0 c1
            obtain ⟨X, hX⟩ : ∃ X, X = wr.heap.size := ⟨_, rfl⟩
            rw [← hX] at HH ⊢
            generalize wr.alloc (.cells #[.int .i64 x, .int .i64 y] 25) = W at *
            clear hX
            refine region_HW (w0 := w) (L := [pBlk X #[.int .i64 x, .int .i64 y] 25]) (by kernel_rfl) (by kernel_rfl) HH ?_
            apply wq_step
            · go_simp
            · intro wx hx
              have c0 := hx.cell 0 rfl (j := 0) (v := .int .i64 x) rfl
              have c1 := hx.cell 0 rfl (j := 1) (v := .int .i64 y) rfl
              have d0 := (CQ.out wx hx.low).1
              have d1 := (CQ.out wx hx.low).2
              go_simp
              exact rfl
            apply wq_step
            · go_simp
            · intro wx hx
              go_simp
              go_at_call 17
              exact Calls.mono (C1.out wx) fun e w' h => ⟨h.1, hx.call h.2⟩
            iterate 11 (
              apply wq_step
              · go_simp
              · intro wx hx
                have c0 := hx.cell 0 rfl (j := 0) (v := .int .i64 x) rfl
                have c1 := hx.cell 0 rfl (j := 1) (v := .int .i64 y) rfl
                have d0 := (CQ.out wx hx.low).1
                have d1 := (CQ.out wx hx.low).2
                go_simp
                exact rfl)
            apply wq_step
            · go_simp
            · intro wx hx
              go_simp
              go_at_call 62
              exact Calls.mono (C2.out wx) fun e w' h => ⟨h.1, hx.call h.2⟩
            iterate 3 (
              apply wq_step
              · go_simp
              · intro wx hx
                have c0 := hx.cell 0 rfl (j := 0) (v := .int .i64 x) rfl
                have c1 := hx.cell 0 rfl (j := 1) (v := .int .i64 y) rfl
                have d0 := (CQ.out wx hx.low).1
                have d1 := (CQ.out wx hx.low).2
                go_simp
                exact rfl)
            refine wq_nil ?_
            intro w2 hx
            have hlo := hx.low
            clear hx HH C1 C2 CA CQ
            go_simp
            go_wp2_with fail
            go_roundw
            case rel => exact ⟨k + 1, by omega, by go_num, hN, hlo⟩
            case measure => simp [intOf]; omega
          · have hF := hide ((HB.out true (by rw [hbad, hz])).1 rfl)
            clear hbad HB
            have HH := (show Holds w wr [] from ⟨hb, by simp, List.Pairwise.nil⟩).blk #[.int .i64 x, .int .i64 y] 25 wr.heap.size rfl
            have c0 := (CA.out wr hb).1
            have c1 := (CA.out wr hb).2
            clear hb
            go_wp2_with fail
            clear c0 c1
            obtain ⟨X, hX⟩ : ∃ X, X = wr.heap.size := ⟨_, rfl⟩
            rw [← hX] at HH ⊢
            generalize wr.alloc (.cells #[.int .i64 x, .int .i64 y] 25) = W at *
            clear hX
            refine region_HW (w0 := w) (L := [pBlk X #[.int .i64 x, .int .i64 y] 25]) (by kernel_rfl) (by kernel_rfl) HH ?_
            apply wq_step
            · go_simp
            · intro wx hx
              have c0 := hx.cell 0 rfl (j := 0) (v := .int .i64 x) rfl
              have c1 := hx.cell 0 rfl (j := 1) (v := .int .i64 y) rfl
              have d0 := (CQ.out wx hx.low).1
              have d1 := (CQ.out wx hx.low).2
              go_simp
              exact rfl
            apply wq_step
            · go_simp
            · intro wx hx
              go_simp
              go_at_call 17
              exact Calls.mono (C1.out wx) fun e w' h => ⟨h.1, hx.call h.2⟩
            iterate 11 (
              apply wq_step
              · go_simp
              · intro wx hx
                have c0 := hx.cell 0 rfl (j := 0) (v := .int .i64 x) rfl
                have c1 := hx.cell 0 rfl (j := 1) (v := .int .i64 y) rfl
                have d0 := (CQ.out wx hx.low).1
                have d1 := (CQ.out wx hx.low).2
                go_simp
                exact rfl)
            apply wq_step
            · go_simp
            · intro wx hx
              go_simp
              go_at_call 62
              exact Calls.mono (C2.out wx) fun e w' h => ⟨h.1, hx.call h.2⟩
            iterate 3 (
              apply wq_step
              · go_simp
              · intro wx hx
                have c0 := hx.cell 0 rfl (j := 0) (v := .int .i64 x) rfl
                have c1 := hx.cell 0 rfl (j := 1) (v := .int .i64 y) rfl
                have d0 := (CQ.out wx hx.low).1
                have d1 := (CQ.out wx hx.low).2
                go_simp
                exact rfl)
            refine wq_nil ?_
            intro w2 hx
            have hlo := hx.low
            clear hx HH C1 C2 CA CQ
            go_simp
            go_wp2_with fail
            go_ret
            exact ⟨by rw [hF.out]; rfl, hlo⟩
    · obtain rfl : k = l.length := by omega
      have hF := hide (show decide ((l.length : Int) ≤ 12) = R by
        rw [← HR.out, stB_good hK.out, decide_eq_decide]; omega)
      clear hlt hk hK
      go_wp2
      go_ret
      exact ⟨by rw [← hF.out]; rfl, hb⟩
set_option maxRecDepth 100000 in
set_option maxHeartbeats 4000000 in
theorem l10Set_any (l : List (Int × Int)) (v : Value) (w : World) (h : RdF w v l) :
    Calls Try.prog 67 #[v] w fun e w' => e = .returned (.bool (stB l)) ∧ Below w.heap.size w w' := by
  obtain ⟨A, c, rfl, hl⟩ := h.form
  have H := hide h; clear h
  obtain ⟨R, hR⟩ : ∃ R, stB l = R := ⟨_, rfl⟩
  rw [hR]
  have HR := hide hR; clear hR
  go_enter Try.func67, Try.ntmps67
  go_wp2
  go_loopw [3] (fun i wr => ∃ k : Nat, k ≤ l.length ∧ i = .int .i64 k ∧ Hid (∀ i, i < k → bad l i = false) ∧ Below w.heap.size w wr) (fun i _ => l.length - (intOf i).toNat)
  case atStart => exact ⟨0, by omega, rfl, hide (fun i hi => by omega), Below.refl _ _⟩
  case round =>
    obtain ⟨k, hk, rfl, hK, hb⟩ := hrel
    by_cases hlt : k < l.length
    · have hlt' : (k : Int) < l.length := by omega
      obtain ⟨a, rfl, _, _, _⟩ := (H.out.below hb (Nat.le_refl _)).at hlt
      have ek : l.getD k (0, 0) = l[k] := by rw [List.getD_eq_getElem?_getD, List.getElem?_eq_getElem hlt]; rfl
      have CA := hide fun (wx : World) (hx : Below w.heap.size w wx) => H.out.atC hx (Nat.le_refl _) hlt
      have HB := hide (show ∀ r, bad l k = r → (r = true → R = false) ∧ (r = false → ∀ i, i < k + 1 → bad l i = false) from fun r hr => ⟨fun e => by rw [← HR.out]; exact stB_bad hlt (hr.trans e), fun e i hi => by
        by_cases c : i = k
        · subst c; exact hr.trans e
        · exact hK.out i (by omega)⟩)
      have hbad : bad l k = (!frB l[k].1 l[k].2 || (decide (0 < k) && decide (0 ≤ c3 ((l.getD (k - 1) (0, 0)).1 * l[k].2) (l[k].1 * (l.getD (k - 1) (0, 0)).2)))) := by unfold bad; rw [ek]
      have hprev : 0 < k → frB (l.getD (k - 1) (0, 0)).1 (l.getD (k - 1) (0, 0)).2 = true := fun h0 => bad_fr (hK.out (k - 1) (by omega))
      have CP := hide fun (h0 : 0 < k) (wx : World) (hx : Below w.heap.size w wx) => (show wx.cell? (a.add ((k - 1) * 2)) = some (.int .i64 (l.getD (k - 1) (0, 0)).1) ∧ wx.cell? ⟨(a.add ((k - 1) * 2)).block, (a.add ((k - 1) * 2)).off + 1, none⟩ = some (.int .i64 (l.getD (k - 1) (0, 0)).2) from by
        have e := H.out.atC hx (Nat.le_refl _) (show k - 1 < l.length by omega)
        rw [List.getD_eq_getElem?_getD, List.getElem?_eq_getElem (show k - 1 < l.length by omega)]
        exact e)
      have C1 := hide fun w => l10Is_any l[k].1 l[k].2 w
      clear hK ek
      generalize l[k].1 = x at *
      generalize l[k].2 = y at *
      generalize (l.getD (k - 1) (0, 0)).1 = p at *
      generalize (l.getD (k - 1) (0, 0)).2 = q at *
      rcases h1 : frB x y with _ | _
      · rw [h1] at C1 hbad
        have hF := hide ((HB.out true (by rw [hbad]; rfl)).1 rfl)
        clear hbad h1 CP HB hprev
        have HH : Holds w wr [] := ⟨hb, by simp, List.Pairwise.nil⟩
        clear hb
        go_wp2_with fail
        refine region_HW (w0 := w) (L := []) (by kernel_rfl) (by kernel_rfl) HH ?_
        iterate 4 (
          apply wq_step
          · go_simp
          · intro wx hx
            have c0 := (CA.out wx hx.low).1
            have c1 := (CA.out wx hx.low).2
            go_simp
            exact rfl)
        apply wq_step
        · go_simp
        · intro wx hx
          go_simp
          go_at_call 56
          exact Calls.mono (C1.out wx) fun e w' h => ⟨h.1, hx.call h.2⟩
        iterate 2 (
          apply wq_step
          · go_simp
          · intro wx hx
            have c0 := (CA.out wx hx.low).1
            have c1 := (CA.out wx hx.low).2
            go_simp
            exact rfl)
        iterate 15 (
          apply wq_skip
          · (go_simp; try decide))
        apply wq_step
        · go_simp
        · intro wx hx
          have c0 := (CA.out wx hx.low).1
          have c1 := (CA.out wx hx.low).2
          go_simp
          exact rfl
        refine wq_nil ?_
        intro w2 hx
        have hlo := hx.low
        clear hx HH C1 CA
        go_simp
        go_wp2_with fail
        go_ret
        exact ⟨by rw [hF.out]; rfl, hlo⟩
      · rw [h1] at C1 hbad
        rw [Bool.not_true, Bool.false_or] at hbad
        rcases Nat.eq_zero_or_pos k with hk0 | H0
        · have hN := hide ((HB.out false (by rw [hbad, hk0]; rfl)).2 rfl)
          have hd0 : decide ((0 : Int) < (k : Int)) = false := decide_eq_false (by omega)
          have hkn : ¬ (0 < k) := by omega
          clear hbad h1 CP HB hprev hk0
          have HH : Holds w wr [] := ⟨hb, by simp, List.Pairwise.nil⟩
          clear hb
          go_wp2_with fail
          refine region_HW (w0 := w) (L := []) (by kernel_rfl) (by kernel_rfl) HH ?_
          iterate 4 (
            apply wq_step
            · go_simp
            · intro wx hx
              have c0 := (CA.out wx hx.low).1
              have c1 := (CA.out wx hx.low).2
              go_simp
              exact rfl)
          apply wq_step
          · go_simp
          · intro wx hx
            go_simp
            go_at_call 56
            exact Calls.mono (C1.out wx) fun e w' h => ⟨h.1, hx.call h.2⟩
          iterate 5 (
            apply wq_step
            · go_simp
            · intro wx hx
              have c0 := (CA.out wx hx.low).1
              have c1 := (CA.out wx hx.low).2
              go_simp
              exact rfl)
          iterate 11 (
            apply wq_skip
            · (go_simp; try decide))
          iterate 2 (
            apply wq_step
            · go_simp
            · intro wx hx
              have c0 := (CA.out wx hx.low).1
              have c1 := (CA.out wx hx.low).2
              go_simp
              exact rfl)
          refine wq_nil ?_
          intro w2 hx
          have hlo := hx.low
          clear hx HH C1 CA
          go_simp
          go_wp2_with fail
          go_roundw
          case rel => exact ⟨k + 1, by omega, by go_num, hN, hlo⟩
          case measure => simp [intOf]; omega
        · have hd0 : decide ((0 : Int) < (k : Int)) = true := decide_eq_true (by omega)
          rw [decide_eq_true H0, Bool.true_and] at hbad
          have hp := hprev H0
          obtain ⟨j, hj⟩ : ∃ j, j = k - 1 := ⟨_, rfl⟩
          have hk1 : wrap64 ((k : Int) - 1) = (j : Int) := by rw [wr64 (by omega) (by omega)]; omega
          have hk2 : IntKind.i64.wrap ((k : Int) - 1) = (j : Int) := by rw [wr64k (by omega) (by omega)]; omega
          have CQ := hide fun (wx : World) (hx : Below w.heap.size w wx) => CP.out H0 wx hx
          rw [← hj] at CQ
          have C2 := hide fun w => l10Compare_any p q x y hp h1 w
          clear hprev hp h1
          generalize c3 (p * y) (x * q) = z at *
          have hkm : (j : Int) < l.length := by omega
          have hjl : j < l.length := by omega
          clear hj CP
          rcases hz : decide (0 ≤ z) with _ | _
          · have hN := hide ((HB.out false (by rw [hbad, hz])).2 rfl)
            clear hbad HB
            have HH : Holds w wr [] := ⟨hb, by simp, List.Pairwise.nil⟩
            clear hb
            go_wp2_with fail
            refine region_HW (w0 := w) (L := []) (by kernel_rfl) (by kernel_rfl) HH ?_
            iterate 4 (
              apply wq_step
              · go_simp
              · intro wx hx
                have c0 := (CA.out wx hx.low).1
                have c1 := (CA.out wx hx.low).2
                have d0 := (CQ.out wx hx.low).1
                have d1 := (CQ.out wx hx.low).2
                go_simp
                exact rfl)
            apply wq_step
            · go_simp
            · intro wx hx
              go_simp
              go_at_call 56
              exact Calls.mono (C1.out wx) fun e w' h => ⟨h.1, hx.call h.2⟩
            iterate 14 (
              apply wq_step
              · go_simp
              · intro wx hx
                have c0 := (CA.out wx hx.low).1
                have c1 := (CA.out wx hx.low).2
                have d0 := (CQ.out wx hx.low).1
                have d1 := (CQ.out wx hx.low).2
                go_simp
                exact rfl)
            apply wq_step
            · go_simp
            · intro wx hx
              go_simp
              go_at_call 61
              exact Calls.mono (C2.out wx) fun e w' h => ⟨h.1, hx.call h.2⟩
            iterate 3 (
              apply wq_step
              · go_simp
              · intro wx hx
                have c0 := (CA.out wx hx.low).1
                have c1 := (CA.out wx hx.low).2
                have d0 := (CQ.out wx hx.low).1
                have d1 := (CQ.out wx hx.low).2
                go_simp
                exact rfl)
            refine wq_nil ?_
            intro w2 hx
            have hlo := hx.low
            clear hx HH C1 C2 CA CQ
            go_simp
            go_wp2_with fail
            go_roundw
            case rel => exact ⟨k + 1, by omega, by go_num, hN, hlo⟩
            case measure => simp [intOf]; omega
          · have hF := hide ((HB.out true (by rw [hbad, hz])).1 rfl)
            clear hbad HB
            have HH : Holds w wr [] := ⟨hb, by simp, List.Pairwise.nil⟩
            clear hb
            go_wp2_with fail
            refine region_HW (w0 := w) (L := []) (by kernel_rfl) (by kernel_rfl) HH ?_
            iterate 4 (
              apply wq_step
              · go_simp
              · intro wx hx
                have c0 := (CA.out wx hx.low).1
                have c1 := (CA.out wx hx.low).2
                have d0 := (CQ.out wx hx.low).1
                have d1 := (CQ.out wx hx.low).2
                go_simp
                exact rfl)
            apply wq_step
            · go_simp
            · intro wx hx
              go_simp
              go_at_call 56
              exact Calls.mono (C1.out wx) fun e w' h => ⟨h.1, hx.call h.2⟩
            iterate 14 (
              apply wq_step
              · go_simp
              · intro wx hx
                have c0 := (CA.out wx hx.low).1
                have c1 := (CA.out wx hx.low).2
                have d0 := (CQ.out wx hx.low).1
                have d1 := (CQ.out wx hx.low).2
                go_simp
                exact rfl)
            apply wq_step
            · go_simp
            · intro wx hx
              go_simp
              go_at_call 61
              exact Calls.mono (C2.out wx) fun e w' h => ⟨h.1, hx.call h.2⟩
            iterate 3 (
              apply wq_step
              · go_simp
              · intro wx hx
                have c0 := (CA.out wx hx.low).1
                have c1 := (CA.out wx hx.low).2
                have d0 := (CQ.out wx hx.low).1
                have d1 := (CQ.out wx hx.low).2
                go_simp
                exact rfl)
            refine wq_nil ?_
            intro w2 hx
            have hlo := hx.low
            clear hx HH C1 C2 CA CQ
            go_simp
            go_wp2_with fail
            go_ret
            exact ⟨by rw [hF.out]; rfl, hlo⟩
    · obtain rfl : k = l.length := by omega
      have hF := hide (show decide ((l.length : Int) ≤ 12) = R by
        rw [← HR.out, stB_good hK.out, decide_eq_decide]; omega)
      clear hlt hk hK
      go_wp2
      go_ret
      exact ⟨by rw [← hF.out]; rfl, hb⟩
end Go.Proofs.Ytpkfjdaedaplfaa
