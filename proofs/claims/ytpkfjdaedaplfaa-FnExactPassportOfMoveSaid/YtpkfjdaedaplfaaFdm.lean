/- DegreeOfMoves of both. -/
import Derived.Test.YtpkfjdaedaplfaaFdg
namespace Go.Proofs.Ytpkfjdaedaplfaa
open Go.RowKit

/-- the product of the degrees, as long as it is not too great -/
def dmF (p : Int) : List (Int × Int × Int) → Int × Int
  | [] => (p, 0)
  | x :: l => if 1000000000 < p * dg x.1 x.2.1 x.2.2 then (0, 3) else dmF (p * dg x.1 x.2.1 x.2.2) l
def dmR (l : List (Int × Int × Int)) : Int := if amB l = true then (if 20 < l.length then 0 else (dmF 1 l).1) else 0
def dmC (l : List (Int × Int × Int)) : Int := if amB l = true then (if 20 < l.length then 2 else (dmF 1 l).2) else 1
/-- the error of a list of moves -/
def lmC (l : List (Int × Int × Int)) : Int := if amB l = true then (if 20 < l.length then 2 else 0) else 1
theorem dg_in {k a b : Int} (h : mvB k a b = true) : 1 ≤ dg k a b ∧ dg k a b ≤ 40 := by
  have := mvB_true h
  unfold dg
  split <;> omega
set_option maxHeartbeats 1000000 in
theorem l10Degree_any (k a b : Int) (h : mvB k a b = true) (w : World) : Calls Try.prog 77 #[.agg #[.int .i64 k, .int .i64 a, .int .i64 b]] w fun e w' => e = .returned (.int .i64 (dg k a b)) ∧ Below w.heap.size w w' := by
  have hm := mvB_true h
  have hw : wrap64 (a + b) = a + b := wr64 (by omega) (by omega)
  have hd : dg k a b = max 1 (a + b) := by unfold dg; split <;> omega
  rw [hd]
  clear h hd
  by_cases h1 : 1 < a + b
  · have e : max 1 (a + b) = a + b := by omega
    rw [e]
    clear hm
    generalize hs : a + b = s at *
    go_enter Try.func77, Try.ntmps77
    go_wp2
    all_goals (try (exfalso; omega))
    all_goals (go_ret; first | exact ⟨rfl, below1 _ _⟩ | exact ⟨by rw [← hs]; rfl, below1 _ _⟩ | exact ⟨congrArg Ending.returned (congrArg (Value.int .i64) hw), below1 _ _⟩)
  · have e : max 1 (a + b) = 1 := by omega
    rw [e]
    clear hm
    generalize hs : a + b = s at *
    go_enter Try.func77, Try.ntmps77
    go_wp2
    all_goals (try (exfalso; omega))
    all_goals (go_ret; first | exact ⟨rfl, below1 _ _⟩ | exact ⟨by simp <;> omega, below1 _ _⟩)
set_option maxRecDepth 100000 in
set_option maxHeartbeats 1000000 in
theorem l10Moves_any (l : List (Int × Int × Int)) (v : Value) (w : World) (h : RdM w v l) :
    Calls Try.prog 76 #[v] w fun e w' => e = .returned (.int .i64 (lmC l)) ∧ Below w.heap.size w w' := by
  obtain ⟨A, c, rfl, hl⟩ := h.form
  have H := hide h; clear h
  obtain ⟨R, hR⟩ : ∃ R : Int, lmC l = R := ⟨_, rfl⟩
  rw [hR]
  have HR := hide hR; clear hR
  go_enter Try.func76, Try.ntmps76
  go_wp2
  go_loopw [3] (fun i wr => ∃ k : Nat, k ≤ l.length ∧ i = .int .i64 k ∧ Hid (∀ i (hi : i < l.length), i < k → mvB l[i].1 l[i].2.1 l[i].2.2 = true) ∧ Below w.heap.size w wr) (fun i _ => l.length - (intOf i).toNat)
  case atStart => exact ⟨0, by omega, rfl, hide (fun i hi h => by omega), Below.refl _ _⟩
  case round =>
    obtain ⟨k, hk, rfl, hK, hb⟩ := hrel
    by_cases hlt : k < l.length
    · obtain ⟨a, rfl, k1, c1, c2, c3⟩ := (H.out.below hb (Nat.le_refl _)).at hlt
      clear k1
      have C := hide fun w => l10Move_any l[k].1 l[k].2.1 l[k].2.2 w
      obtain ⟨b, hbt⟩ : ∃ b, mvB l[k].1 l[k].2.1 l[k].2.2 = b := ⟨_, rfl⟩
      rw [hbt] at C
      have HN := hide (show b = true → ∀ i (hi : i < l.length), i < k + 1 → mvB l[i].1 l[i].2.1 l[i].2.2 = true from fun e i hi h => by
        by_cases ce : i = k
        · subst ce; rw [hbt, e]
        · exact hK.out i hi (by omega))
      have HF := hide (show b = false → 1 = R from fun e => by
        rw [← HR.out]; unfold lmC; rw [amB_bad hlt (hbt.trans e)]; rfl)
      clear hK hbt
      generalize l[k].1 = x at *
      generalize l[k].2.1 = y at *
      generalize l[k].2.2 = z at *
      go_wp2_with fail
      refine (C.out _).mono ?_
      rintro e w2 ⟨rfl, hb2⟩
      have hb3 : Below w.heap.size w w2 := hb.trans (hb2.mono hb.size)
      clear hb hb2 C c1 c2 c3
      rcases b with _ | _
      · have hR := hide (HF.out rfl)
        clear HN HF
        go_wp2_with fail
        go_ret
        exact ⟨by rw [← hR.out]; rfl, hb3⟩
      · clear HF
        have HN' := hide (HN.out rfl)
        clear HN
        go_wp2_with fail
        go_roundw
        case rel => exact ⟨k + 1, by omega, by go_num, HN', hb3⟩
        case measure => simp [intOf]; omega
    · obtain rfl : k = l.length := by omega
      have hF : lmC l = if 20 < l.length then 2 else 0 := by unfold lmC; rw [if_pos (amB_good fun i hi => hK.out i hi hi)]
      have hR' := HR.out
      rw [hF] at hR'
      clear hF hlt hk hK
      by_cases h20 : 20 < l.length
      · rw [if_pos h20] at hR'
        subst hR'
        have hd20 := decide_eq_true (show (20 : Int) < l.length by omega)
        clear h20
        go_wp2
        go_ret
        exact ⟨rfl, hb⟩
      · rw [if_neg h20] at hR'
        subst hR'
        have hd20 := decide_eq_false (show ¬ ((20 : Int) < l.length) by omega)
        clear h20
        go_wp2
        go_ret
        exact ⟨rfl, hb⟩
set_option maxRecDepth 100000 in
set_option maxHeartbeats 4000000 in
theorem degreeOfMoves_any (l : List (Int × Int × Int)) (v : Value) (w : World) (h : RdM w v l) :
    Calls Try.prog 48 #[v] w fun e w' => e = .returned (.tuple #[.int .i64 (dmR l), .int .i64 (dmC l)]) ∧ Below w.heap.size w w' := by
  obtain ⟨A, c, rfl, hl⟩ := h.form
  have CM := hide fun w h => areMoves_any l (.slice A l.length c) w h
  have H := hide h; clear h
  obtain ⟨rR, hrR⟩ : ∃ r, r = dmR l := ⟨_, rfl⟩
  obtain ⟨rC, hrC⟩ : ∃ r, r = dmC l := ⟨_, rfl⟩
  rw [← hrR, ← hrC]
  rcases ha : amB l with _ | _
  · obtain rfl : rR = 0 := by rw [hrR]; unfold dmR; rw [if_neg (by rw [ha]; decide)]
    obtain rfl : rC = 1 := by rw [hrC]; unfold dmC; rw [if_neg (by rw [ha]; decide)]
    rw [ha] at CM
    clear hrR hrC ha
    go_enter Try.func48, Try.ntmps48
    go_wp2_with fail
    refine (CM.out _ H.out).mono ?_
    rintro e w1 ⟨rfl, hb⟩
    go_wp2_with fail
    go_ret2
    exact ⟨rfl, hb⟩
  by_cases h20 : 20 < l.length
  · obtain rfl : rR = 0 := by rw [hrR]; unfold dmR; rw [if_pos ha, if_pos h20]
    obtain rfl : rC = 2 := by rw [hrC]; unfold dmC; rw [if_pos ha, if_pos h20]
    rw [ha] at CM
    have hd20 := decide_eq_true (show (20 : Int) < l.length by omega)
    clear hrR hrC ha h20
    go_enter Try.func48, Try.ntmps48
    go_wp2_with fail
    refine (CM.out _ H.out).mono ?_
    rintro e w1 ⟨rfl, hb⟩
    go_wp2_with fail
    go_ret2
    exact ⟨rfl, hb⟩
  have hR := hide (show rR = (dmF 1 l).1 by rw [hrR]; unfold dmR; rw [if_pos ha, if_neg h20])
  have hC := hide (show rC = (dmF 1 l).2 by rw [hrC]; unfold dmC; rw [if_pos ha, if_neg h20])
  rw [ha] at CM
  have hd20 := decide_eq_false (show ¬ ((20 : Int) < l.length) by omega)
  have HA := hide ha
  clear hrR hrC ha h20
  go_enter Try.func48, Try.ntmps48
  go_wp2_with fail
  refine (CM.out _ H.out).mono ?_
  rintro e w1 ⟨rfl, hb0⟩
  clear CM
  go_wp2_with fail
  go_loopw [4, 15] (fun p i wr => ∃ (k : Nat) (x : Int), k ≤ l.length ∧ i = .int .i64 k ∧ p = .int .i64 x ∧ Hid (dmF x (l.drop k) = dmF 1 l ∧ 1 ≤ x ∧ x ≤ 1000000000) ∧ Below w.heap.size w wr) (fun _ i _ => l.length - (intOf i).toNat)
  case atStart => exact ⟨0, 1, by omega, rfl, rfl, hide ⟨by rw [List.drop_zero], by decide, by decide⟩, hb0⟩
  case round =>
    clear hb0
    obtain ⟨k, x, hk, rfl, rfl, hx, hb⟩ := hrel
    by_cases hlt : k < l.length
    · have hlt' : (k : Int) < l.length := by omega
      obtain ⟨a, rfl, k1, c1, c2, c3⟩ := (H.out.below hb (Nat.le_refl _)).at hlt
      clear k1
      have hm := amB_true HA.out hlt
      have hdr : l.drop k = l[k] :: l.drop (k + 1) := List.drop_eq_getElem_cons hlt
      obtain ⟨e1, e2, e3⟩ := hx.out
      rw [hdr, dmF] at e1
      have CL := hide fun w => ruleOf_any l[k].1 l[k].2.1 l[k].2.2 w
      have hdv := deg_rule hm
      have hdb := dg_in hm
      clear hm hdr hx
      generalize l[k].1 = m1 at *
      generalize l[k].2.1 = m2 at *
      generalize l[k].2.2 = m3 at *
      generalize dg m1 m2 m3 = d at *
      have hp : 1 ≤ x * d ∧ x * d ≤ 40000000000 := by
        constructor
        · have := Int.mul_le_mul e2 hdb.1 (by omega) (by omega); omega
        · have := Int.mul_le_mul e3 hdb.2 (by omega) (by omega); omega
      have hw : wrap64 (x * d) = x * d := wr64 (by omega) (by omega)
      obtain ⟨q, hq⟩ : ∃ q, x * d = q := ⟨_, rfl⟩
      rw [hq] at hw hp e1
      generalize rlV m1 m2 m3 = vr at *
      obtain ⟨T, xr, K, r, rfl, mt, nl, cl, CD⟩ := hdv
      have CDh := hide CD; clear CD
      by_cases hbig : 1000000000 < q
      · rw [if_pos hbig] at e1
        have hd := decide_eq_true hbig
        obtain rfl : rR = 0 := by rw [hR.out, ← e1]
        obtain rfl : rC = 3 := by rw [hC.out, ← e1]
        clear hbig hR hC e1 e2 e3 hp hdb
        go_wp2_with fail
        refine (CL.out _).mono ?_
        rintro e w2 ⟨rfl, hb2⟩
        have hb3 := hb.trans (((below1 wr (.cells #[.int .i64 m1, .int .i64 m2, .int .i64 m3] 38)).trans (hb2.mono (by simp))).mono hb.size)
        clear hb hb2 CL c1 c2 c3
        go_wp2_with fail
        refine (CDh.out _).mono ?_
        rintro e w3 ⟨rfl, hb4⟩
        have hb5 : Below w.heap.size w w3 := hb3.trans (hb4.mono hb3.size)
        clear hb3 hb4 CDh mt nl cl
        go_wp2_with fail
        go_ret2
        exact ⟨rfl, hb5⟩
      · rw [if_neg hbig] at e1
        have hd := decide_eq_false hbig
        have E1 := hide (And.intro e1 (And.intro hp.1 (by omega : q ≤ 1000000000)))
        clear hbig e1 e2 e3 hp hdb
        go_wp2_with fail
        refine (CL.out _).mono ?_
        rintro e w2 ⟨rfl, hb2⟩
        have hb3 := hb.trans (((below1 wr (.cells #[.int .i64 m1, .int .i64 m2, .int .i64 m3] 38)).trans (hb2.mono (by simp))).mono hb.size)
        clear hb hb2 CL c1 c2 c3
        go_wp2_with fail
        refine (CDh.out _).mono ?_
        rintro e w3 ⟨rfl, hb4⟩
        have hb5 : Below w.heap.size w w3 := hb3.trans (hb4.mono hb3.size)
        clear hb3 hb4 CDh mt nl cl
        go_wp2_with fail
        go_roundw
        case rel => exact ⟨k + 1, q, by omega, by go_num, by rw [hw], E1, hb5⟩
        case measure => simp [intOf]; omega
    · obtain rfl : k = l.length := by omega
      have e1 := hx.out.1
      rw [List.drop_length, dmF] at e1
      obtain rfl : rR = x := by rw [hR.out, ← e1]
      obtain rfl : rC = 0 := by rw [hC.out, ← e1]
      clear hlt hk hx e1 hR hC
      go_wp2
      go_ret2
      exact ⟨rfl, hb⟩
set_option maxRecDepth 100000 in
set_option maxHeartbeats 4000000 in
theorem sDegreeOfMoves_any (l : List (Int × Int × Int)) (v : Value) (w : World) (h : RdM w v l) :
    Calls Try.prog 46 #[v] w fun e w' => e = .returned (.tuple #[.int .i64 (dmR l), .int .i64 (dmC l)]) ∧ Below w.heap.size w w' := by
  obtain ⟨A, c, rfl, hl⟩ := h.form
  have CM := hide fun w h => l10Moves_any l (.slice A l.length c) w h
  have H := hide h; clear h
  obtain ⟨rR, hrR⟩ : ∃ r, r = dmR l := ⟨_, rfl⟩
  obtain ⟨rC, hrC⟩ : ∃ r, r = dmC l := ⟨_, rfl⟩
  rw [← hrR, ← hrC]
  rcases ha : amB l with _ | _
  · obtain rfl : rR = 0 := by rw [hrR]; unfold dmR; rw [if_neg (by rw [ha]; decide)]
    obtain rfl : rC = 1 := by rw [hrC]; unfold dmC; rw [if_neg (by rw [ha]; decide)]
    rw [show lmC l = 1 from if_neg (by rw [ha]; decide)] at CM
    clear hrR hrC ha
    go_enter Try.func46, Try.ntmps46
    go_wp2_with fail
    refine (CM.out _ H.out).mono ?_
    rintro e w1 ⟨rfl, hb⟩
    go_wp2_with fail
    go_ret2
    exact ⟨rfl, hb⟩
  by_cases h20 : 20 < l.length
  · obtain rfl : rR = 0 := by rw [hrR]; unfold dmR; rw [if_pos ha, if_pos h20]
    obtain rfl : rC = 2 := by rw [hrC]; unfold dmC; rw [if_pos ha, if_pos h20]
    rw [show lmC l = 2 from (if_pos ha).trans (if_pos h20)] at CM
    have hd20 := decide_eq_true (show (20 : Int) < l.length by omega)
    clear hrR hrC ha h20
    go_enter Try.func46, Try.ntmps46
    go_wp2_with fail
    refine (CM.out _ H.out).mono ?_
    rintro e w1 ⟨rfl, hb⟩
    go_wp2_with fail
    go_ret2
    exact ⟨rfl, hb⟩
  have hR := hide (show rR = (dmF 1 l).1 by rw [hrR]; unfold dmR; rw [if_pos ha, if_neg h20])
  have hC := hide (show rC = (dmF 1 l).2 by rw [hrC]; unfold dmC; rw [if_pos ha, if_neg h20])
  rw [show lmC l = 0 from (if_pos ha).trans (if_neg h20)] at CM
  have hd20 := decide_eq_false (show ¬ ((20 : Int) < l.length) by omega)
  have HA := hide ha
  clear hrR hrC ha h20
  go_enter Try.func46, Try.ntmps46
  go_wp2_with fail
  refine (CM.out _ H.out).mono ?_
  rintro e w1 ⟨rfl, hb0⟩
  clear CM
  go_wp2_with fail
  go_loopw [5, 6] (fun p i wr => ∃ (k : Nat) (x : Int), k ≤ l.length ∧ i = .int .i64 k ∧ p = .int .i64 x ∧ Hid (dmF x (l.drop k) = dmF 1 l ∧ 1 ≤ x ∧ x ≤ 1000000000) ∧ Below w.heap.size w wr) (fun _ i _ => l.length - (intOf i).toNat)
  case atStart => exact ⟨0, 1, by omega, rfl, rfl, hide ⟨by rw [List.drop_zero], by decide, by decide⟩, hb0⟩
  case round =>
    clear hb0
    obtain ⟨k, x, hk, rfl, rfl, hx, hb⟩ := hrel
    by_cases hlt : k < l.length
    · have hlt' : (k : Int) < l.length := by omega
      obtain ⟨a, rfl, k1, c1, c2, c3⟩ := (H.out.below hb (Nat.le_refl _)).at hlt
      clear k1
      have hm := amB_true HA.out hlt
      have hdr : l.drop k = l[k] :: l.drop (k + 1) := List.drop_eq_getElem_cons hlt
      obtain ⟨e1, e2, e3⟩ := hx.out
      rw [hdr, dmF] at e1
      have CD := hide fun w => l10Degree_any l[k].1 l[k].2.1 l[k].2.2 hm w
      have hdb := dg_in hm
      clear hm hdr hx
      generalize l[k].1 = m1 at *
      generalize l[k].2.1 = m2 at *
      generalize l[k].2.2 = m3 at *
      generalize dg m1 m2 m3 = d at *
      have hp : 1 ≤ x * d ∧ x * d ≤ 40000000000 := by
        constructor
        · have := Int.mul_le_mul e2 hdb.1 (by omega) (by omega); omega
        · have := Int.mul_le_mul e3 hdb.2 (by omega) (by omega); omega
      have hw : wrap64 (x * d) = x * d := wr64 (by omega) (by omega)
      obtain ⟨q, hq⟩ : ∃ q, x * d = q := ⟨_, rfl⟩
      rw [hq] at hw hp e1
      by_cases hbig : 1000000000 < q
      · rw [if_pos hbig] at e1
        have hd := decide_eq_true hbig
        obtain rfl : rR = 0 := by rw [hR.out, ← e1]
        obtain rfl : rC = 3 := by rw [hC.out, ← e1]
        clear hbig hR hC e1 e2 e3 hp hdb
        go_wp2_with fail
        refine (CD.out _).mono ?_
        rintro e w2 ⟨rfl, hb2⟩
        have hb3 : Below w.heap.size w w2 := hb.trans (hb2.mono hb.size)
        clear hb hb2 CD c1 c2 c3
        go_wp2_with fail
        go_ret2
        exact ⟨rfl, hb3⟩
      · rw [if_neg hbig] at e1
        have hd := decide_eq_false hbig
        have E1 := hide (And.intro e1 (And.intro hp.1 (by omega : q ≤ 1000000000)))
        clear hbig e1 e2 e3 hp hdb
        go_wp2_with fail
        refine (CD.out _).mono ?_
        rintro e w2 ⟨rfl, hb2⟩
        have hb3 : Below w.heap.size w w2 := hb.trans (hb2.mono hb.size)
        clear hb hb2 CD c1 c2 c3
        go_wp2_with fail
        go_roundw
        case rel => exact ⟨k + 1, q, by omega, by go_num, by rw [hw], E1, hb3⟩
        case measure => simp [intOf]; omega
    · obtain rfl : k = l.length := by omega
      have e1 := hx.out.1
      rw [List.drop_length, dmF] at e1
      obtain rfl : rR = x := by rw [hR.out, ← e1]
      obtain rfl : rC = 0 := by rw [hC.out, ← e1]
      clear hlt hk hx e1 hR hC
      go_wp2
      go_ret2
      exact ⟨rfl, hb⟩
end Go.Proofs.Ytpkfjdaedaplfaa
