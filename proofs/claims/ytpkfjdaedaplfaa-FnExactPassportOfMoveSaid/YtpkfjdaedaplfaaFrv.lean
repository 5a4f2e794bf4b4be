/- What a move is, of both; the walks of the laws CompareFractions and IsMove. -/
import Derived.Test.YtpkfjdaedaplfaaFrk
import Derived.Test.YtpkfjdaedaplfaaFrO
namespace Go.Proofs.Ytpkfjdaedaplfaa
open Go.RowKit

/-- a number of at most 20 -/
def pw (x : Int) : Bool := decide (1 ≤ x ∧ x ≤ 20)
/-- what a move is -/
def mvB (k a b : Int) : Bool := if k = 2 then pw a && pw b else (decide (k = 0 ∨ k = 1) && (decide (a = 0) && decide (b = 0)))
theorem mvB_true {k a b : Int} (h : mvB k a b = true) : (k = 2 ∧ (1 ≤ a ∧ a ≤ 20) ∧ 1 ≤ b ∧ b ≤ 20) ∨ ((k = 0 ∨ k = 1) ∧ a = 0 ∧ b = 0) := by
  unfold mvB pw at h
  split at h
  · simp at h; omega
  · simp at h; omega
set_option maxHeartbeats 400000 in
theorem isMovePower_any (x : Int) (w : World) : Calls Try.prog 64 #[.int .i64 x] w fun e w' => e = .returned (.bool (pw x)) ∧ w' = w := by
  by_cases h1 : 1 ≤ x
  · have d1 := decide_eq_true h1
    by_cases h2 : x ≤ 20
    · have d2 := decide_eq_true h2
      rw [show pw x = true from decide_eq_true ⟨h1, h2⟩]
      clear h1 h2
      go_enter Try.func64, Try.ntmps64
      go_wp2
      go_ret
      exact ⟨rfl, rfl⟩
    · have d2 := decide_eq_false h2
      rw [show pw x = false from decide_eq_false (fun h => h2 h.2)]
      clear h1 h2
      go_enter Try.func64, Try.ntmps64
      go_wp2
      go_ret
      exact ⟨rfl, rfl⟩
  · have d1 := decide_eq_false h1
    rw [show pw x = false from decide_eq_false (fun h => h1 h.1)]
    clear h1
    go_enter Try.func64, Try.ntmps64
    go_wp2
    go_ret
    exact ⟨rfl, rfl⟩
set_option maxRecDepth 100000 in
set_option maxHeartbeats 1000000 in
theorem isMove_any (k a b : Int) (w : World) : Calls Try.prog 25 #[.agg #[.int .i64 k, .int .i64 a, .int .i64 b]] w fun e w' => e = .returned (.bool (mvB k a b)) ∧ Below w.heap.size w w' := by
  rcases hk : (k == 2) with _ | _
  · have hk' : k ≠ 2 := by simpa using hk
    have e : mvB k a b = (eqM k a b 0 0 0 || eqM k a b 1 0 0) := by
      unfold mvB
      rw [if_neg hk', Bool.eq_iff_iff, Bool.or_eq_true, eqM_iff, eqM_iff]
      simp; omega
    rw [e]
    clear e hk'
    rcases h1 : eqM k a b 0 0 0 with _ | _
    · rcases h2 : eqM k a b 1 0 0 with _ | _
      · go_enter Try.func25, Try.ntmps25
        go_wp2
        go_ret
        exact ⟨rfl, below1 _ _⟩
      · go_enter Try.func25, Try.ntmps25
        go_wp2
        go_ret
        exact ⟨rfl, below1 _ _⟩
    · go_enter Try.func25, Try.ntmps25
      go_wp2
      go_ret
      exact ⟨rfl, below1 _ _⟩
  · have hk' : k = 2 := by simpa using hk
    have e : mvB k a b = (pw a && pw b) := by
      unfold mvB
      rw [if_pos hk']
    rw [e]
    clear e hk'
    rcases h1 : pw a with _ | _
    · go_enter Try.func25, Try.ntmps25
      go_wp2_with fail
      refine (isMovePower_any _ _).mono ?_
      rintro e w1 ⟨rfl, rfl⟩
      rw [h1]
      go_wp2_with fail
      go_ret
      exact ⟨rfl, below1 _ _⟩
    · rcases h2 : pw b with _ | _
      all_goals (
        go_enter Try.func25, Try.ntmps25
        go_wp2_with fail
        refine (isMovePower_any _ _).mono ?_
        rintro e w1 ⟨rfl, rfl⟩
        rw [h1]
        go_wp2_with fail
        refine (isMovePower_any _ _).mono ?_
        rintro e w1 ⟨rfl, rfl⟩
        rw [h2]
        go_wp2_with fail
        go_ret
        exact ⟨rfl, below1 _ _⟩)
set_option maxRecDepth 100000 in
set_option maxHeartbeats 1000000 in
theorem l10Move_any (k a b : Int) (w : World) : Calls Try.prog 63 #[.agg #[.int .i64 k, .int .i64 a, .int .i64 b]] w fun e w' => e = .returned (.bool (mvB k a b)) ∧ Below w.heap.size w w' := by
  have KEY : ∀ r, mvB k a b = r → (k = 0 ∨ k = 1) → Calls Try.prog 63 #[.agg #[.int .i64 k, .int .i64 a, .int .i64 b]] w fun e w' => e = .returned (.bool r) ∧ Below w.heap.size w w' := by
    intro r hr hk
    have e : mvB k a b = ((a == 0) && (b == 0)) := by
      unfold mvB
      rw [if_neg (by omega), decide_eq_true hk, Bool.true_and]; rfl
    rw [e] at hr
    clear e
    rcases h1 : (a == 0) with _ | _
    · rw [h1] at hr; subst hr
      rcases hk with rfl | rfl
      all_goals (
        go_enter Try.func63, Try.ntmps63
        go_wp2
        go_ret
        exact ⟨rfl, below1 _ _⟩)
    · rw [h1] at hr
      rcases h2 : (b == 0) with _ | _
      all_goals (
        rw [h2] at hr; subst hr
        rcases hk with rfl | rfl)
      all_goals (
        go_enter Try.func63, Try.ntmps63
        go_wp2
        go_ret
        exact ⟨rfl, below1 _ _⟩)
  by_cases hk : k = 0 ∨ k = 1
  · exact KEY _ rfl hk
  clear KEY
  have k0 : (k == 0) = false := by simp; omega
  have k1 : (k == 1) = false := by simp; omega
  rcases k2 : (k == 2) with _ | _
  · have e : mvB k a b = false := by
      unfold mvB
      rw [if_neg (by simpa using k2), decide_eq_false hk]; rfl
    rw [e]
    clear e hk
    go_enter Try.func63, Try.ntmps63
    go_wp2
    go_ret
    exact ⟨rfl, below1 _ _⟩
  · have e : mvB k a b = (pw a && pw b) := by
      unfold mvB
      rw [if_pos (by simpa using k2)]
    rw [e]
    clear e hk
    have IP : ∀ x, decide (1 ≤ x ∧ x ≤ 20) = pw x := fun _ => rfl
    have IP' := hide IP; clear IP
    rcases h1 : pw a with _ | _
    · go_enter Try.func63, Try.ntmps63
      go_wp2_with fail
      refine (in10_any _ _ _ _).mono ?_
      rintro e w1 ⟨rfl, rfl⟩
      rw [IP'.out, h1]
      go_wp2_with fail
      go_ret
      exact ⟨rfl, below1 _ _⟩
    · rcases h2 : pw b with _ | _
      all_goals (
        go_enter Try.func63, Try.ntmps63
        go_wp2_with fail
        refine (in10_any _ _ _ _).mono ?_
        rintro e w1 ⟨rfl, rfl⟩
        rw [IP'.out, h1]
        go_wp2_with fail
        refine (in10_any _ _ _ _).mono ?_
        rintro e w1 ⟨rfl, rfl⟩
        rw [IP'.out, h2]
        go_wp2_with fail
        go_ret
        exact ⟨rfl, below1 _ _⟩)
set_option maxHeartbeats 1000000 in
theorem sIsMove_any (k a b : Int) (w : World) : Calls Try.prog 23 #[.agg #[.int .i64 k, .int .i64 a, .int .i64 b]] w fun e w' => e = .returned (.bool (mvB k a b)) ∧ Below w.heap.size w w' := by
  have CF := hide fun w => l10Move_any k a b w
  have HH := (Holds.start w).blk #[.int .i64 k, .int .i64 a, .int .i64 b] 38 w.heap.size rfl
  generalize mvB k a b = r at *
  go_enter Try.func23, Try.ntmps23
  go_wp2_with fail
  refine (CF.out _).mono ?_
  rintro e w5 ⟨rfl, hb5⟩
  have H5 := (HH.call hb5).low
  go_wp2_with fail
  go_ret
  exact ⟨rfl, H5⟩
set_option maxHeartbeats 400000 in
theorem toMove_any (k a b : Int) (w : World) : Calls Try.prog 24 #[.agg #[.int .i64 k, .int .i64 a, .int .i64 b]] w fun e w' => e = .returned (.agg #[.int .i64 k, .int .i64 a, .int .i64 b]) ∧ Below w.heap.size w w' := by
  go_enter Try.func24, Try.ntmps24
  go_wp2
  exact res_agg (p := 2) (g := w.heap.size + 1) aggMv (by rfl) rfl rfl rfl (heap1 (by simp)) ⟨rfl, below3 _ _ _ _⟩
set_option maxHeartbeats 400000 in
theorem eqMove_same (k a b : Int) (w : World) : Calls Try.prog 39 #[.agg #[.int .i64 k, .int .i64 a, .int .i64 b], .agg #[.int .i64 k, .int .i64 a, .int .i64 b]] w fun e w' => e = .returned (.bool true) ∧ Below w.heap.size w w' := by
  have h0 : (k != k) = false := by simp
  have h1 : (a != a) = false := by simp
  have h2 : (b != b) = false := by simp
  go_enter Try.func39, Try.ntmps39
  go_wp2
  go_ret
  exact ⟨rfl, below2 _ _ _⟩
set_option maxRecDepth 100000 in
set_option maxHeartbeats 2000000 in
theorem fnExactIsMove_walk (k a b : Int) (_hn : -9223372036854775808 ≤ k ∧ k ≤ 9223372036854775807) (_hd : -9223372036854775808 ≤ a ∧ a ≤ 9223372036854775807) (_hc : -9223372036854775808 ≤ b ∧ b ≤ 9223372036854775807) (w : World) :
    Calls Try.prog 6 #[.agg #[.int .i64 k, .int .i64 a, .int .i64 b]] w fun e w' => e = .returned (.bool true) ∧ Below w.heap.size w w' := by
  clear _hn _hd _hc
  have C1 := hide fun w => isMove_any k a b w
  have C2 := hide fun w => sIsMove_any k a b w
  generalize mvB k a b = r at *
  have hne : (r != r) = false := by simp
  have H0 := (Holds.start w).blk #[.int .i64 k, .int .i64 a, .int .i64 b] 36 w.heap.size rfl
  go_enter Try.func6, Try.ntmps6
  go_wp2_with fail
  refine (toMove_any k a b _).mono ?_
  rintro e w1 ⟨rfl, hb⟩
  have H1 := H0.call hb
  clear hb H0
  go_wp2_with fail
  refine (C2.out _).mono ?_
  rintro e w2 ⟨rfl, hb⟩
  have H2 := H1.call hb
  clear hb H1
  have c0 := H2.cell 0 rfl (j := 0) (v := .int .i64 k) rfl
  have c1 := H2.cell 0 rfl (j := 1) (v := .int .i64 a) rfl
  have c2 := H2.cell 0 rfl (j := 2) (v := .int .i64 b) rfl
  go_wp2_with fail
  refine (toMove_any k a b _).mono ?_
  rintro e w3 ⟨rfl, hb⟩
  have H3 := H2.call hb
  clear hb H2 c0 c1 c2
  go_wp2_with fail
  refine (C1.out _).mono ?_
  rintro e w4 ⟨rfl, hb⟩
  have H4 := H3.call hb
  clear hb H3
  go_wp2
  go_ret
  exact ⟨rfl, H4.low⟩
set_option maxRecDepth 100000 in
set_option maxHeartbeats 2000000 in
theorem fnExactCompareFractions_walk (a b : Int) (_ha : -9223372036854775808 ≤ a ∧ a ≤ 9223372036854775807) (_hb : -9223372036854775808 ≤ b ∧ b ≤ 9223372036854775807) (c d : Int) (_hc : -9223372036854775808 ≤ c ∧ c ≤ 9223372036854775807) (_hd : -9223372036854775808 ≤ d ∧ d ≤ 9223372036854775807) (w : World) :
    Calls Try.prog 5 #[.agg #[.int .i64 a, .int .i64 b], .agg #[.int .i64 c, .int .i64 d]] w fun e w' => e = .returned (.bool true) ∧ Below w.heap.size w w' := by
  clear _ha _hb _hc _hd
  have C1 := hide fun w => compareF_any a b c d w
  have C2 := hide fun w => sCompareF_any a b c d w
  generalize cfR a b c d = r at *
  generalize cfC a b c d = q at *
  have hne : (r != r) = false := by simp
  have hne2 : (q != q) = false := by simp
  have H0 := ((Holds.start w).blk #[.int .i64 a, .int .i64 b] 23 w.heap.size rfl).blk #[.int .i64 c, .int .i64 d] 23 (w.heap.size + 1) (by simp)
  go_enter Try.func5, Try.ntmps5
  go_wp2
  refine region_H (w0 := w) (L := [pBlk (w.heap.size + 1) #[.int .i64 c, .int .i64 d] 23, pBlk w.heap.size #[.int .i64 a, .int .i64 b] 23]) (by kernel_rfl) (by kernel_rfl) H0 ?_
  iterate 1 (
    apply q_step
    · go_simp
    · intro wx hx
      have c0 := hx.cell 0 rfl (j := 0) (v := .int .i64 c) rfl
      have c1 := hx.cell 0 rfl (j := 1) (v := .int .i64 d) rfl
      have c2 := hx.cell 1 rfl (j := 0) (v := .int .i64 a) rfl
      have c3 := hx.cell 1 rfl (j := 1) (v := .int .i64 b) rfl
      go_simp
      exact rfl)
  apply q_step
  · go_simp
  · intro wx hx
    go_simp
    go_at_call 16
    exact Calls.mono (toFraction_any a b wx) fun e w' h => ⟨h.1, hx.call h.2⟩
  iterate 1 (
    apply q_step
    · go_simp
    · intro wx hx
      have c0 := hx.cell 0 rfl (j := 0) (v := .int .i64 c) rfl
      have c1 := hx.cell 0 rfl (j := 1) (v := .int .i64 d) rfl
      have c2 := hx.cell 1 rfl (j := 0) (v := .int .i64 a) rfl
      have c3 := hx.cell 1 rfl (j := 1) (v := .int .i64 b) rfl
      go_simp
      exact rfl)
  apply q_step
  · go_simp
  · intro wx hx
    go_simp
    go_at_call 16
    exact Calls.mono (toFraction_any c d wx) fun e w' h => ⟨h.1, hx.call h.2⟩
  apply q_step
  · go_simp
  · intro wx hx
    go_simp
    go_at_call 21
    exact Calls.mono (C2.out wx) fun e w' h => ⟨h.1, hx.call h.2⟩
  iterate 5 (
    apply q_step
    · go_simp
    · intro wx hx
      have c0 := hx.cell 0 rfl (j := 0) (v := .int .i64 c) rfl
      have c1 := hx.cell 0 rfl (j := 1) (v := .int .i64 d) rfl
      have c2 := hx.cell 1 rfl (j := 0) (v := .int .i64 a) rfl
      have c3 := hx.cell 1 rfl (j := 1) (v := .int .i64 b) rfl
      go_simp
      exact rfl)
  refine wpQuiet_nil ?_
  intro w1 H1
  clear H0
  go_wp2
  refine region_H (w0 := w) (L := [pBlk (w.heap.size + 1) #[.int .i64 c, .int .i64 d] 23, pBlk w.heap.size #[.int .i64 a, .int .i64 b] 23]) (by kernel_rfl) (by kernel_rfl) H1 ?_
  iterate 1 (
    apply q_step
    · go_simp
    · intro wx hx
      have c0 := hx.cell 0 rfl (j := 0) (v := .int .i64 c) rfl
      have c1 := hx.cell 0 rfl (j := 1) (v := .int .i64 d) rfl
      have c2 := hx.cell 1 rfl (j := 0) (v := .int .i64 a) rfl
      have c3 := hx.cell 1 rfl (j := 1) (v := .int .i64 b) rfl
      go_simp
      exact rfl)
  apply q_step
  · go_simp
  · intro wx hx
    go_simp
    go_at_call 16
    exact Calls.mono (toFraction_any a b wx) fun e w' h => ⟨h.1, hx.call h.2⟩
  iterate 1 (
    apply q_step
    · go_simp
    · intro wx hx
      have c0 := hx.cell 0 rfl (j := 0) (v := .int .i64 c) rfl
      have c1 := hx.cell 0 rfl (j := 1) (v := .int .i64 d) rfl
      have c2 := hx.cell 1 rfl (j := 0) (v := .int .i64 a) rfl
      have c3 := hx.cell 1 rfl (j := 1) (v := .int .i64 b) rfl
      go_simp
      exact rfl)
  apply q_step
  · go_simp
  · intro wx hx
    go_simp
    go_at_call 16
    exact Calls.mono (toFraction_any c d wx) fun e w' h => ⟨h.1, hx.call h.2⟩
  apply q_step
  · go_simp
  · intro wx hx
    go_simp
    go_at_call 22
    exact Calls.mono (C1.out wx) fun e w' h => ⟨h.1, hx.call h.2⟩
  iterate 5 (
    apply q_step
    · go_simp
    · intro wx hx
      have c0 := hx.cell 0 rfl (j := 0) (v := .int .i64 c) rfl
      have c1 := hx.cell 0 rfl (j := 1) (v := .int .i64 d) rfl
      have c2 := hx.cell 1 rfl (j := 0) (v := .int .i64 a) rfl
      have c3 := hx.cell 1 rfl (j := 1) (v := .int .i64 b) rfl
      go_simp
      exact rfl)
  refine wpQuiet_nil ?_
  intro w2 H2
  clear H1
  go_wp2
  go_ret
  exact ⟨rfl, H2.low⟩
end Go.Proofs.Ytpkfjdaedaplfaa
