/- EulerOfPassport of program and model -/
import Derived.Test.YtlmhnimpglookaaPsp
namespace Go.Proofs.Ytlmhnimpglookaa
open Go.RowKit

def lenS : List (List Int) → Int
  | [] => 0
  | l :: ls => l.length + lenS ls
theorem lenS_append : ∀ a b, lenS (a ++ b) = lenS a + lenS b
  | [], b => by simp [lenS]
  | l :: a, b => by simp only [List.cons_append, lenS, lenS_append a b]; omega
theorem lenS_succ (ls : List (List Int)) {i : Nat} (hi : i < ls.length) : lenS (ls.take (i + 1)) = lenS (ls.take i) + ls[i].length := by
  rw [List.take_succ_eq_append_getElem hi, lenS_append]; simp [lenS]
theorem lenS_bd (ls : List (List Int)) (h : ∀ l ∈ ls, l.length ≤ 16) : ∀ i, i ≤ ls.length → 0 ≤ lenS (ls.take i) ∧ lenS (ls.take i) ≤ 16 * i
  | 0, _ => by simp [lenS]
  | i + 1, hi => by
    have h1 := lenS_bd ls h i (by omega)
    have h2 := h ls[i] (List.getElem_mem _)
    rw [lenS_succ ls (by omega)]
    omega
open Classical in
noncomputable def eulP (ls : List (List Int)) : Value := if isPas ls then .tuple #[.int .i64 (lenS ls - zs (ls.getD 0 [])), .int .i64 0] else .tuple #[.int .i64 0, .int .i64 1]
theorem eulP_eq (ls : List (List Int)) : ∃ (a c : Int), eulP ls = .tuple #[.int .i64 a, .int .i64 c] := by
  unfold eulP; split
  · exact ⟨_, _, rfl⟩
  · exact ⟨_, _, rfl⟩

set_option maxRecDepth 100000 in
set_option maxHeartbeats 1000000 in
theorem eulerOfPassport_any (v : Value) (ls : List (List Int)) (w : World) (hv : RdZ2 w v ls) :
    Calls Try.prog 29 #[v] w fun e w' => e = .returned (eulP ls) ∧ Below w.heap.size w w' := by
  have C := hide (isPassport_any v ls w hv)
  have HV := hide hv
  obtain ⟨A, c, rfl, hlen⟩ := hv.form
  clear hv hlen
  by_cases hp : isPas ls
  · have hr : eulP ls = .tuple #[.int .i64 (lenS ls - zs (ls.getD 0 [])), .int .i64 0] := by unfold eulP; rw [if_pos hp]
    rw [hr]
    rw [pasB_true hp] at C
    have h3 := hp.1
    have hv3 : RdZ2 w (.slice A 3 c) ls := h3 ▸ HV.out
    rw [h3] at C ⊢
    replace HV := hide hv3
    clear hv3 hr
    have h0 : 0 < ls.length := by omega
    have hg0 : ls.getD 0 [] = ls[0] := by simp [List.getD_eq_getElem?_getD, h0]
    have ht0 := (hp.2 ls[0] (List.getElem_mem _)).1
    have hs0 := ht0.sum
    have hlb := lenS_bd ls (fun l hl => (hp.2 l hl).1.len.2)
    have hst := fun i hi => lenS_succ ls (i := i) hi
    have hl16 := fun l (hl : l ∈ ls) => (hp.2 l hl).1.len.2
    rw [hg0]
    obtain ⟨l0, hl0⟩ : ∃ l0, l0 = ls[0] := ⟨_, rfl⟩
    obtain ⟨L, hL⟩ : ∃ L, L = lenS ls := ⟨_, rfl⟩
    rw [← hl0] at ht0 hs0 ⊢
    rw [← hL]
    obtain ⟨s, hs⟩ : ∃ s, s = zs l0 := ⟨_, rfl⟩
    rw [← hs] at hs0 ⊢
    have HE := hide (And.intro hl0 (And.intro hL hs)); clear hl0 hL hs
    have HP := hide (And.intro hp (And.intro hg0 (And.intro hst hl16))); clear hp hg0 hst hl16
    have HLB := hide hlb; clear hlb
    replace h3 := hide h3
    go_enter Try.func29, Try.ntmps29
    go_wp2_with fail
    refine C.out.mono ?_
    rintro e w1 ⟨rfl, hb1⟩
    have HV1 := hide (HV.out.below hb1 (Nat.le_refl _))
    obtain ⟨a, A0, c0, rfl, c1, hr0⟩ := HV1.out.at h0
    rw [addr0] at c1
    rw [← HE.out.1] at c1 hr0
    have cs := sumOf_any _ l0 ht0.small _ hr0
    rw [← HE.out.2.2] at cs
    have CS := hide cs
    clear hr0 ht0 cs
    go_wp2_with fail
    refine CS.out.mono ?_
    rintro e w' ⟨rfl, rfl⟩
    clear c1 CS C
    go_wp2
    go_loopw [4, 17] (fun q t wr => ∃ i : Nat, i ≤ 3 ∧ t = .int .i64 i ∧ q = .int .i64 (lenS (ls.take i) - s) ∧ w1 = wr) (fun _ t _ => 3 - (intOf t).toNat)
    case atStart => exact ⟨0, by omega, rfl, by simp [lenS], by trivial⟩
    case round =>
      obtain ⟨i, hi, rfl, rfl, rfl⟩ := hrel
      have hlb := HLB.out i (by rw [h3.out]; exact hi)
      by_cases hlt : i < 3
      · have hil : i < ls.length := by rw [h3.out]; exact hlt
        obtain ⟨a', A', c', e', c2, _⟩ := HV1.out.at hil
        injection e' with e'
        subst e'
        have hst := HP.out.2.2.1 i hil
        have hl16 := HP.out.2.2.2 ls[i] (List.getElem_mem hil)
        generalize lenS (ls.take i) = q at *
        generalize ls[i].length = n at *
        have HST := hide hst; clear hst
        go_wp2
        go_roundw
        case rel => exact ⟨i + 1, by omega, by go_num, by rw [HST.out]; congr 1; omega, by trivial⟩
        case measure => simp [intOf]; omega
      · obtain rfl : i = 3 := by omega
        rw [← h3.out, List.take_length] at hlb
        have htl : ls.take 3 = ls := by rw [← h3.out, List.take_length]
        rw [htl, ← HE.out.2.1]
        rw [← HE.out.2.1] at hlb
        clear hlt hi htl
        go_wp2
        go_ret2
        exact ⟨rfl, hb1⟩
  · have hr : eulP ls = .tuple #[.int .i64 0, .int .i64 1] := by unfold eulP; rw [if_neg hp]
    rw [hr]
    rw [pasB_false hp] at C
    clear hp hr
    go_enter Try.func29, Try.ntmps29
    go_wp2_with fail
    refine C.out.mono ?_
    rintro e w1 ⟨rfl, hb1⟩
    go_wp2
    go_ret2
    exact ⟨rfl, hb1⟩

set_option maxRecDepth 100000 in
set_option maxHeartbeats 1000000 in
theorem sEulerOfPassport_any (v : Value) (ls : List (List Int)) (w : World) (hv : RdZ2 w v ls) :
    Calls Try.prog 28 #[v] w fun e w' => e = .returned (eulP ls) ∧ Below w.heap.size w w' := by
  have C := hide (l04Is_any v ls w hv)
  have HV := hide hv
  obtain ⟨A, c, rfl, hlen⟩ := hv.form
  clear hv hlen
  by_cases hp : isPas ls
  · have hr : eulP ls = .tuple #[.int .i64 (lenS ls - zs (ls.getD 0 [])), .int .i64 0] := by unfold eulP; rw [if_pos hp]
    rw [hr]
    rw [pasB_true hp] at C
    have h3 := hp.1
    obtain ⟨l0, l1, l2, rfl⟩ : ∃ l0 l1 l2, ls = [l0, l1, l2] := by
      rcases ls with _ | ⟨l0, _ | ⟨l1, _ | ⟨l2, _ | ⟨l3, ls⟩⟩⟩⟩ <;> simp at h3
      exact ⟨l0, l1, l2, rfl⟩
    have hv3 : RdZ2 w (.slice A 3 c) [l0, l1, l2] := HV.out
    have C2 : Hid (Calls Try.prog 57 #[.slice A 3 c] w fun e w' => e = .returned (.bool true) ∧ Dr w w') := C
    show Calls Try.prog 28 #[.slice A 3 c] w _
    replace HV := hide hv3
    clear hv3 hr C h3
    have t0 := (hp.2 l0 (by simp)).1
    have t1 := (hp.2 l1 (by simp)).1.len.2
    have t2 := (hp.2 l2 (by simp)).1.len.2
    clear hp
    have t3 := t0.len.2
    have hs0 := t0.sum
    have e0 : lenS [l0, l1, l2] - zs ([l0, l1, l2].getD 0 []) = (l0.length : Int) + l1.length + l2.length - zs l0 := by simp [lenS, List.getD_cons_zero]; omega
    rw [e0]
    clear e0
    obtain ⟨s, hs⟩ : ∃ s, s = zs l0 := ⟨_, rfl⟩
    rw [← hs] at hs0 ⊢
    have HE := hide hs; clear hs
    have hw1 : IntKind.i64.wrap ((l0.length : Int) + l1.length) = (l0.length : Int) + l1.length := by rw [IntKind.wrap_i64]; omega
    have hw2 : IntKind.i64.wrap ((l0.length : Int) + l1.length + l2.length) = (l0.length : Int) + l1.length + l2.length := by rw [IntKind.wrap_i64]; omega
    have hw3 : IntKind.i64.wrap ((l0.length : Int) + l1.length + l2.length - s) = (l0.length : Int) + l1.length + l2.length - s := by rw [IntKind.wrap_i64]; omega
    go_enter Try.func28, Try.ntmps28
    go_wp2_with fail
    refine C2.out.mono ?_
    rintro e w1 ⟨rfl, hb1⟩
    have HV1 := hide (HV.out.below hb1.low (Nat.le_refl _))
    obtain ⟨a, A0, c0, rfl, c1, hr0⟩ := HV1.out.at (show 0 < [l0, l1, l2].length by simp)
    rw [addr0] at c1
    obtain ⟨a', A1, c1', e1, c2, _⟩ := HV1.out.at (show 1 < [l0, l1, l2].length by simp)
    injection e1 with e1
    subst e1
    obtain ⟨a', A2, c2', e1, c3, _⟩ := HV1.out.at (show 2 < [l0, l1, l2].length by simp)
    injection e1 with e1
    subst e1
    simp only [List.getElem_cons_zero, List.getElem_cons_succ] at c1 c2 c3 hr0
    rw [show a.add 1 = { block := a.block, off := a.off + 1 } by simp [Addr.add]] at c2
    rw [show a.add 2 = { block := a.block, off := a.off + 2 } by simp [Addr.add]] at c3
    have CS := hide (fun (w' : World) (h : RdZ w' (.slice A0 l0.length c0) l0) => l04Sum_any _ l0 t0.small w' h)
    have R0 := hide hr0; clear hr0 t0
    rw [← HE.out] at CS
    go_wp2
    refine wp_region_quiet_lit (by kernel_rfl) (by kernel_rfl) ?_
    iterate 17 (quiet_step (fail))
    quiet_step ((go_at_call 59; exact quiet_eq (CS.out _ (R0.out.below (below_drewN (Below.refl _ _) _) (Nat.le_refl _)))))
    iterate 3 (quiet_step (fail))
    refine wpQuiet_nil ?_
    intro _ hw'
    obtain ⟨nq, hw''⟩ := hw'
    subst hw''
    go_wp2
    go_ret2
    exact ⟨rfl, below_drewN hb1.low _⟩
  · have hr : eulP ls = .tuple #[.int .i64 0, .int .i64 1] := by unfold eulP; rw [if_neg hp]
    rw [hr]
    rw [pasB_false hp] at C
    clear hp hr
    go_enter Try.func28, Try.ntmps28
    go_wp2_with fail
    refine C.out.mono ?_
    rintro e w1 ⟨rfl, hb1⟩
    go_wp2
    go_ret2
    exact ⟨rfl, hb1.low⟩

theorem isType_low (v : Value) (l : List Int) (w : World) (hv : RdZ w v l) :
    Calls Try.prog 17 #[v] w fun e w' => e = .returned (.bool (typB l)) ∧ Below w.heap.size w w' := (isType_any v l w hv).mono fun _ _ h => ⟨h.1, h.2 ▸ Below.refl _ _⟩
/-- one call, handed on -/
theorem sIsType_any (v : Value) (l : List Int) (w : World) (hv : RdZ w v l) :
    Calls Try.prog 15 #[v] w fun e w' => e = .returned (.bool (typB l)) ∧ Below w.heap.size w w' := by
  have C := hide (l04Type_any v l w hv)
  obtain ⟨A, c, rfl, _⟩ := hv.form
  clear hv
  go_enter Try.func15, Try.ntmps15
  go_wp2_with fail
  refine C.out.mono ?_
  rintro e w1 ⟨rfl, hb1⟩
  go_wp2
  go_ret
  exact ⟨rfl, hb1.low⟩
theorem sIsPassport_any (v : Value) (ls : List (List Int)) (w : World) (hv : RdZ2 w v ls) :
    Calls Try.prog 25 #[v] w fun e w' => e = .returned (.bool (pasB ls)) ∧ Below w.heap.size w w' := by
  have C := hide (l04Is_any v ls w hv)
  obtain ⟨A, c, rfl, _⟩ := hv.form
  clear hv
  go_enter Try.func25, Try.ntmps25
  go_wp2_with fail
  refine C.out.mono ?_
  rintro e w1 ⟨rfl, hb1⟩
  go_wp2
  go_ret
  exact ⟨rfl, hb1.low⟩
end Go.Proofs.Ytlmhnimpglookaa
