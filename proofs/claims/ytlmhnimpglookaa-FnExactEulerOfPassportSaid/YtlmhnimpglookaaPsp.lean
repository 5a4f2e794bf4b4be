/- Passports: IsPassport, l04Is, EulerOfPassport of program and model. -/
import Derived.Test.YtlmhnimpglookaaTyW
namespace Go.Proofs.Ytlmhnimpglookaa
open Go.RowKit

/-- three types with one sum -/
def isPas (ls : List (List Int)) : Prop := ls.length = 3 ∧ ∀ l ∈ ls, isTyp l ∧ zs l = zs (ls.getD 0 [])
open Classical in
noncomputable def pasB (ls : List (List Int)) : Bool := decide (isPas ls)
open Classical in
theorem pasB_true {ls : List (List Int)} (h : isPas ls) : pasB ls = true := by unfold pasB; exact decide_eq_true h
open Classical in
theorem pasB_false {ls : List (List Int)} (h : ¬ isPas ls) : pasB ls = false := by unfold pasB; exact decide_eq_false h
theorem addr0 (a : Addr) : a.add 0 = a := by unfold Addr.add; split <;> simp_all
theorem neq_true {x y : Int} (h : x ≠ y) : (x != y) = true := by simp [h]
theorem neq_false {x y : Int} (h : x = y) : (x != y) = false := by simp [h]
theorem below_same {w wr wz : World} {n : Nat} (hb : Below w.heap.size w wr) (h : wz = wr.drewN n) : Below w.heap.size w wz := by subst h; exact below_drewN hb n

set_option maxRecDepth 100000 in
set_option maxHeartbeats 1000000 in
theorem isPassport_any (v : Value) (ls : List (List Int)) (w : World) (hv : RdZ2 w v ls) :
    Calls Try.prog 27 #[v] w fun e w' => e = .returned (.bool (pasB ls)) ∧ Below w.heap.size w w' := by
  have HV := hide hv
  obtain ⟨A, c, rfl, hlen⟩ := hv.form
  clear hv
  obtain ⟨r, hr⟩ : ∃ r, r = pasB ls := ⟨_, rfl⟩
  rw [← hr]
  have BAD := hide fun (h : ¬ isPas ls) => hr.trans (pasB_false h)
  have OK := hide fun (h : isPas ls) => hr.trans (pasB_true h)
  clear hr
  by_cases h3 : ls.length = 3
  · have hv3 : RdZ2 w (.slice A 3 c) ls := h3 ▸ HV.out
    rw [h3]
    replace HV := hide hv3
    clear hv3 hlen
    have h0 : 0 < ls.length := by omega
    replace h3 := hide h3
    go_enter Try.func27, Try.ntmps27
    go_wp2
    go_loopw [10] (fun t wr => ∃ i : Nat, i ≤ 3 ∧ t = .int .i64 i ∧ (∀ l ∈ ls.take i, isTyp l ∧ zs l = zs (ls.getD 0 [])) ∧ Below w.heap.size w wr) (fun t _ => 3 - (intOf t).toNat)
    case atStart => exact ⟨0, by omega, rfl, by simp, Below.refl _ _⟩
    case round =>
      obtain ⟨i, hi, rfl, hall, hb⟩ := hrel
      have hvm := HV.out.below hb (Nat.le_refl _)
      have HALL := hide hall; clear hall
      by_cases hlt : i < 3
      · obtain ⟨a, A', c', rfl, c1, hr⟩ := hvm.at (show i < ls.length by rw [h3.out]; exact hlt)
        obtain ⟨a', A0, c0, e0, c2, hr0⟩ := hvm.at h0
        injection e0 with e0
        subst e0
        rw [addr0] at c2
        have htk : ls.take (i + 1) = ls.take i ++ [ls[i]'(by rw [h3.out]; exact hlt)] := List.take_succ_eq_append_getElem (show i < ls.length by rw [h3.out]; exact hlt)
        have hg0 : ls.getD 0 [] = ls[0] := by simp [List.getD_eq_getElem?_getD, h0]
        have h00 : i ≠ 0 → isTyp ls[0] := fun h => (HALL.out ls[0] (List.mem_iff_getElem.2 ⟨0, by simp; omega, by simp⟩)).1
        have h01 : i = 0 → ls[i]'(by rw [h3.out]; exact hlt) = ls[0] := fun h => by subst h; rfl
        have hmem : ls[i]'(by rw [h3.out]; exact hlt) ∈ ls := List.getElem_mem _
        have HM := hide hmem; clear hmem
        have HTK := hide htk; clear htk
        have HG0 := hide hg0; clear hg0
        have HQ := hide (And.intro h00 h01); clear h00 h01
        generalize ls[0] = l0 at *
        generalize ls[i]'(by rw [h3.out]; exact hlt) = l at *
        have C1 := hide (fun (w' : World) (h : RdZ w' _ l) => isType_any (.slice A' l.length c') l w' h)
        have R1 := hide hr; clear hr
        have R0 := hide hr0; clear hr0
        by_cases ht : isTyp l
        · have htb := typB_true ht
          have ht0 : isTyp l0 := by
            by_cases e : i = 0
            · rw [← HQ.out.2 e]; exact ht
            · exact HQ.out.1 e
          have CS := hide (fun (w' : World) (h : RdZ w' _ l) => sumOf_any (.slice A' l.length c') l ht.small w' h)
          have CS0 := hide (fun (w' : World) (h : RdZ w' _ l0) => sumOf_any (.slice A0 l0.length c0) l0 ht0.small w' h)
          have HT := hide ht; clear ht
          rw [htb] at C1
          clear htb ht0
          by_cases he : zs l = zs l0
          · have d2 := neq_false he
            have HE := hide he; clear he
            go_wp2
            refine wp_region_quiet_lit (by kernel_rfl) (by kernel_rfl) ?_
            iterate 1 (quiet_step (fail))
            quiet_step ((go_at_call 17; exact quiet_eq (C1.out _ (R1.out.below (below_drewN (Below.refl _ _) _) (Nat.le_refl _)))))
            iterate 3 (quiet_step (fail))
            quiet_step ((go_at_call 58; exact quiet_eq (CS.out _ (R1.out.below (below_drewN (Below.refl _ _) _) (Nat.le_refl _)))))
            iterate 3 (quiet_step (fail))
            quiet_step ((go_at_call 58; exact quiet_eq (CS0.out _ (R0.out.below (below_drewN (Below.refl _ _) _) (Nat.le_refl _)))))
            iterate 2 (quiet_step (fail))
            refine wpQuiet_nil ?_
            intro _ hw'
            obtain ⟨nq, hw''⟩ := hw'
            subst hw''
            go_wp2
            go_roundw
            case rel =>
              refine ⟨i + 1, by omega, by go_num, fun x hx => ?_, below_drewN hb _⟩
              rw [HTK.out] at hx
              rcases List.mem_append.1 hx with k | k
              · exact HALL.out x k
              · rw [List.mem_singleton.1 k, HG0.out]; exact ⟨HT.out, HE.out⟩
            case measure => simp [intOf]; omega
          · have d2 := neq_true he
            have hbad := BAD.out fun h => he (by have := (h.2 l HM.out).2; rw [HG0.out] at this; exact this)
            subst hbad
            clear he
            go_wp2
            refine wp_region_quiet_lit (by kernel_rfl) (by kernel_rfl) ?_
            iterate 1 (quiet_step (fail))
            quiet_step ((go_at_call 17; exact quiet_eq (C1.out _ (R1.out.below (below_drewN (Below.refl _ _) _) (Nat.le_refl _)))))
            iterate 3 (quiet_step (fail))
            quiet_step ((go_at_call 58; exact quiet_eq (CS.out _ (R1.out.below (below_drewN (Below.refl _ _) _) (Nat.le_refl _)))))
            iterate 3 (quiet_step (fail))
            quiet_step ((go_at_call 58; exact quiet_eq (CS0.out _ (R0.out.below (below_drewN (Below.refl _ _) _) (Nat.le_refl _)))))
            iterate 2 (quiet_step (fail))
            refine wpQuiet_nil ?_
            intro _ hw'
            obtain ⟨nq, hw''⟩ := hw'
            subst hw''
            go_wp2
            go_ret
            exact ⟨rfl, below_drewN hb _⟩
        · have htb := typB_false ht
          rw [htb] at C1
          clear htb
          have hbad := BAD.out fun h => ht (h.2 l HM.out).1
          subst hbad
          clear ht
          go_wp2
          go_quiet ((go_at_call 17; exact quiet_eq (C1.out _ (R1.out.below (below_drewN (Below.refl _ _) _) (Nat.le_refl _)))))
          go_wp2
          go_ret
          exact ⟨rfl, below_drewN hb _⟩
      · obtain rfl : i = 3 := by omega
        have hall := HALL.out
        rw [← h3.out, List.take_length] at hall
        have hok := OK.out ⟨h3.out, hall⟩
        clear hall
        subst hok
        clear hlt hi HALL h0 h3 hvm
        go_wp2
        go_ret
        exact ⟨rfl, hb⟩
  · have d1 : ((ls.length : Int) != 3) = true := neq_true (by omega)
    have hbad := BAD.out fun h => h3 h.1
    subst hbad
    clear h3
    go_enter Try.func27, Try.ntmps27
    go_wp2
    go_ret
    exact ⟨rfl, Below.refl _ _⟩
set_option maxRecDepth 100000 in
set_option maxHeartbeats 1000000 in
theorem l04Is_any (v : Value) (ls : List (List Int)) (w : World) (hv : RdZ2 w v ls) :
    Calls Try.prog 57 #[v] w fun e w' => e = .returned (.bool (pasB ls)) ∧ Dr w w' := by
  have HV := hide hv
  obtain ⟨A, c, rfl, hlen⟩ := hv.form
  clear hv
  obtain ⟨r, hr⟩ : ∃ r, r = pasB ls := ⟨_, rfl⟩
  rw [← hr]
  have BAD := hide fun (h : ¬ isPas ls) => hr.trans (pasB_false h)
  have OK := hide fun (h : isPas ls) => hr.trans (pasB_true h)
  clear hr
  by_cases h3 : ls.length = 3
  · have hv3 : RdZ2 w (.slice A 3 c) ls := h3 ▸ HV.out
    rw [h3]
    replace HV := hide hv3
    clear hv3 hlen
    have h0 : 0 < ls.length := by omega
    replace h3 := hide h3
    go_enter Try.func57, Try.ntmps57
    go_wp2
    go_loopw [3] (fun t wr => ∃ i : Nat, i ≤ 3 ∧ t = .int .i64 i ∧ (∀ l ∈ ls.take i, isTyp l ∧ zs l = zs (ls.getD 0 [])) ∧ Dr w wr) (fun t _ => 3 - (intOf t).toNat)
    case atStart => exact ⟨0, by omega, rfl, by simp, Dr.refl _⟩
    case round =>
      obtain ⟨i, hi, rfl, hall, hb⟩ := hrel
      have hvm := HV.out.below hb.low (Nat.le_refl _)
      have HALL := hide hall; clear hall
      by_cases hlt : i < 3
      · obtain ⟨a, A', c', rfl, c1, hr⟩ := hvm.at (show i < ls.length by rw [h3.out]; exact hlt)
        obtain ⟨a', A0, c0, e0, c2, hr0⟩ := hvm.at h0
        injection e0 with e0
        subst e0
        rw [addr0] at c2
        have htk : ls.take (i + 1) = ls.take i ++ [ls[i]'(by rw [h3.out]; exact hlt)] := List.take_succ_eq_append_getElem (show i < ls.length by rw [h3.out]; exact hlt)
        have hg0 : ls.getD 0 [] = ls[0] := by simp [List.getD_eq_getElem?_getD, h0]
        have h00 : i ≠ 0 → isTyp ls[0] := fun h => (HALL.out ls[0] (List.mem_iff_getElem.2 ⟨0, by simp; omega, by simp⟩)).1
        have h01 : i = 0 → ls[i]'(by rw [h3.out]; exact hlt) = ls[0] := fun h => by subst h; rfl
        have hmem : ls[i]'(by rw [h3.out]; exact hlt) ∈ ls := List.getElem_mem _
        have HM := hide hmem; clear hmem
        have HTK := hide htk; clear htk
        have HG0 := hide hg0; clear hg0
        have HQ := hide (And.intro h00 h01); clear h00 h01
        generalize ls[0] = l0 at *
        generalize ls[i]'(by rw [h3.out]; exact hlt) = l at *
        have C1 := hide (fun (w' : World) (h : RdZ w' _ l) => l04Type_any (.slice A' l.length c') l w' h)
        have R1 := hide hr; clear hr
        have R0 := hide hr0; clear hr0
        by_cases ht : isTyp l
        · have htb := typB_true ht
          have ht0 : isTyp l0 := by
            by_cases e : i = 0
            · rw [← HQ.out.2 e]; exact ht
            · exact HQ.out.1 e
          have CS := hide (fun (w' : World) (h : RdZ w' _ l) => l04Sum_any (.slice A' l.length c') l ht.small w' h)
          have CS0 := hide (fun (w' : World) (h : RdZ w' _ l0) => l04Sum_any (.slice A0 l0.length c0) l0 ht0.small w' h)
          have HT := hide ht; clear ht
          rw [htb] at C1
          clear htb ht0
          by_cases he : zs l = zs l0
          · have d2 := neq_false he
            have HE := hide he; clear he
            go_wp2
            refine wp_region_quiet_lit (by kernel_rfl) (by kernel_rfl) ?_
            iterate 4 (quiet_step (fail))
            quiet_step ((go_at_call 49; exact Calls.quiet_of (C1.out _ (R1.out.below (below_drewN (Below.refl _ _) _) (Nat.le_refl _)))))
            iterate 6 (quiet_step (fail))
            quiet_step ((go_at_call 59; exact quiet_eq (CS.out _ (R1.out.below (below_drewN (Below.refl _ _) _) (Nat.le_refl _)))))
            iterate 3 (quiet_step (fail))
            quiet_step ((go_at_call 59; exact quiet_eq (CS0.out _ (R0.out.below (below_drewN (Below.refl _ _) _) (Nat.le_refl _)))))
            iterate 2 (quiet_step (fail))
            refine wpQuiet_nil ?_
            intro _ hw'
            obtain ⟨nq, hw''⟩ := hw'
            subst hw''
            go_wp2
            go_roundw
            case rel =>
              refine ⟨i + 1, by omega, by go_num, fun x hx => ?_, hb.more _⟩
              rw [HTK.out] at hx
              rcases List.mem_append.1 hx with k | k
              · exact HALL.out x k
              · rw [List.mem_singleton.1 k, HG0.out]; exact ⟨HT.out, HE.out⟩
            case measure => simp [intOf]; omega
          · have d2 := neq_true he
            have hbad := BAD.out fun h => he (by have := (h.2 l HM.out).2; rw [HG0.out] at this; exact this)
            subst hbad
            clear he
            go_wp2
            refine wp_region_quiet_lit (by kernel_rfl) (by kernel_rfl) ?_
            iterate 4 (quiet_step (fail))
            quiet_step ((go_at_call 49; exact Calls.quiet_of (C1.out _ (R1.out.below (below_drewN (Below.refl _ _) _) (Nat.le_refl _)))))
            iterate 6 (quiet_step (fail))
            quiet_step ((go_at_call 59; exact quiet_eq (CS.out _ (R1.out.below (below_drewN (Below.refl _ _) _) (Nat.le_refl _)))))
            iterate 3 (quiet_step (fail))
            quiet_step ((go_at_call 59; exact quiet_eq (CS0.out _ (R0.out.below (below_drewN (Below.refl _ _) _) (Nat.le_refl _)))))
            iterate 2 (quiet_step (fail))
            refine wpQuiet_nil ?_
            intro _ hw'
            obtain ⟨nq, hw''⟩ := hw'
            subst hw''
            go_wp2
            go_ret
            exact ⟨rfl, hb.more _⟩
        · have htb := typB_false ht
          rw [htb] at C1
          clear htb
          have hbad := BAD.out fun h => ht (h.2 l HM.out).1
          subst hbad
          clear ht
          go_wp2
          go_quiet ((go_at_call 49; exact Calls.quiet_of (C1.out _ (R1.out.below (below_drewN (Below.refl _ _) _) (Nat.le_refl _)))))
          go_wp2
          go_ret
          exact ⟨rfl, hb.more _⟩
      · obtain rfl : i = 3 := by omega
        have hall := HALL.out
        rw [← h3.out, List.take_length] at hall
        have hok := OK.out ⟨h3.out, hall⟩
        clear hall
        subst hok
        clear hlt hi HALL h0 h3 hvm
        go_wp2
        go_ret
        exact ⟨rfl, hb⟩
  · have d1 : ((ls.length : Int) != 3) = true := neq_true (by omega)
    have hbad := BAD.out fun h => h3 h.1
    subst hbad
    clear h3
    go_enter Try.func57, Try.ntmps57
    go_wp2
    go_ret
    exact ⟨rfl, Dr.refl _⟩
end Go.Proofs.Ytlmhnimpglookaa
