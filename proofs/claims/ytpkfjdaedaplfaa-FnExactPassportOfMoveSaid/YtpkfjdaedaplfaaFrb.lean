/- Quotients in least terms: the model's. -/
import Derived.Test.YtpkfjdaedaplfaaFra
import Derived.Test.YtpkfjdaedaplfaaQTail
import Derived.Test.YtpkfjdaedaplfaaReg
import Derived.Test.YtpkfjdaedaplfaaWr
namespace Go.Proofs.Ytpkfjdaedaplfaa
open Go.RowKit

/-- a region whose operations yield one value each, whatever else has been made -/
theorem region_H {P : Program} {id : Nat} {Q : Exit → Act → World → Prop} {a : Act} {w w0 : World} {L : List Part} {l : List Oper} (hm : P.follows .mixedOrders = true) (hB : Region.lexB .any l.toArray = true) (H : Holds w0 w L)
    (h : wpQuiet P l.toArray (fun wx => Holds w0 wx L) (fun a' => ∀ wx, Holds w0 wx L → Q .normal a' wx) l a) : (Code.region id l.toArray true).wp P Q a w :=
  wp_region_quiet (C := fun wx => Holds w0 wx L) hm hB H.drew (by simpa using h)
theorem q_skip {P : Program} {ops : Array Oper} {C : World → Prop} {K : Act → Prop} {o : Oper} {rest : List Oper} {a : Act} (hw : Region.wanted o (yielded ops a.tmps) = false) (h2 : wpQuiet P ops C K rest (a.put o.dst undef)) : wpQuiet P ops C K (o :: rest) a := by
  unfold wpQuiet; rw [if_neg (by rw [hw]; decide)]; exact h2
/-- the same behind a word that no unifier opens -/
@[irreducible] def wqT (P : Program) (ops : Array Oper) (C : World → Prop) (K : Act → Prop) (l : List Oper) (a : Act) : Prop := wpQuiet P ops C K l a
section
variable {P : Program} {ops : Array Oper} {C : World → Prop} {K : Act → Prop} {o : Oper} {rest : List Oper} {a : Act}
theorem wq_step (hw : Region.wanted o (yielded ops a.tmps) = true) (v : Value) (h1 : ∀ w, C w → o.quietAt P a C w v) (h2 : wqT P ops C K rest (a.put o.dst v)) : wqT P ops C K (o :: rest) a := by
  unfold wqT at *; exact q_step hw v h1 h2
theorem wq_skip (hw : Region.wanted o (yielded ops a.tmps) = false) (h2 : wqT P ops C K rest (a.put o.dst undef)) : wqT P ops C K (o :: rest) a := by
  unfold wqT at *; exact q_skip hw h2
theorem wq_nil (h : K a) : wqT P ops C K [] a := by
  unfold wqT; exact wpQuiet_nil h
end
theorem region_HW {P : Program} {id : Nat} {Q : Exit → Act → World → Prop} {a : Act} {w w0 : World} {L : List Part} {l : List Oper} (hm : P.follows .mixedOrders = true) (hB : Region.lexB .any l.toArray = true) (H : Holds w0 w L)
    (h : wqT P l.toArray (fun wx => Holds w0 wx L) (fun a' => ∀ wx, Holds w0 wx L → Q .normal a' wx) l a) : (Code.region id l.toArray true).wp P Q a w := by
  unfold wqT at h; exact region_H hm hB H h
/-- the numbers of a quotient are small -/
theorem nrm_small {P Q : Int} (h : P ≠ 0 ∨ Q ≠ 0) : (nrm P Q).1.natAbs ≤ P.natAbs ∧ (nrm P Q).2.natAbs ≤ Q.natAbs := by
  obtain ⟨a, b, d, hd, rfl, rfl, hg, e⟩ := nrm_parts h
  rw [e]
  have h1 : (sgN a b).1.natAbs = a.natAbs ∧ (sgN a b).2.natAbs = b.natAbs := by unfold sgN; split <;> simp
  rw [h1.1, h1.2, Int.natAbs_mul, Int.natAbs_mul]
  exact ⟨Nat.le_mul_of_pos_right _ (by omega), Nat.le_mul_of_pos_right _ (by omega)⟩
theorem nrm_sign {P Q : Int} (h : P ≠ 0 ∨ Q ≠ 0) : ∃ g c : Int, 0 < g ∧ g = Int.gcd P Q ∧ g ≤ max P.natAbs Q.natAbs ∧ (c = -g ∧ (Q < 0 ∨ Q = 0 ∧ P < 0) ∨ c = g ∧ ¬ (Q < 0 ∨ Q = 0 ∧ P < 0)) ∧ P.tdiv c = (nrm P Q).1 ∧ Q.tdiv c = (nrm P Q).2 ∧ c ≠ 0 := by
  obtain ⟨a, b, d, hd, rfl, rfl, hg, e⟩ := nrm_parts h
  have hgd := gcd_scale hg hd
  have hs : (b * d < 0 ∨ b * d = 0 ∧ a * d < 0) ↔ (b < 0 ∨ b = 0 ∧ a < 0) := by
    have k1 : b * d < 0 ↔ b < 0 := by
      constructor
      · intro h; exact Int.lt_of_not_ge fun c => by have := Int.mul_nonneg c (Int.le_of_lt hd); omega
      · intro h; exact Int.mul_neg_of_neg_of_pos h hd
    have k2 : b * d = 0 ↔ b = 0 := by rw [Int.mul_eq_zero]; omega
    have k3 : a * d < 0 ↔ a < 0 := by
      constructor
      · intro h; exact Int.lt_of_not_ge fun c => by have := Int.mul_nonneg c (Int.le_of_lt hd); omega
      · intro h; exact Int.mul_neg_of_neg_of_pos h hd
    rw [k1, k2, k3]
  have hle : d ≤ max ((a * d).natAbs : Int) ((b * d).natAbs : Int) := by
    have : a ≠ 0 ∨ b ≠ 0 := by
      rcases h with h | h
      · left; rintro rfl; simp at h
      · right; rintro rfl; simp at h
    rw [Int.natAbs_mul, Int.natAbs_mul]
    rcases this with h | h
    · have := Nat.le_mul_of_pos_left d.natAbs (show 0 < a.natAbs by omega); omega
    · have := Nat.le_mul_of_pos_left d.natAbs (show 0 < b.natAbs by omega); omega
  rw [e]
  by_cases c : b < 0 ∨ b = 0 ∧ a < 0
  · refine ⟨d, -d, hd, hgd.symm, by omega, .inl ⟨rfl, hs.2 c⟩, ?_, ?_, by omega⟩
    · unfold sgN; rw [if_pos c, Int.tdiv_neg, Int.mul_tdiv_cancel _ (by omega)]
    · unfold sgN; rw [if_pos c, Int.tdiv_neg, Int.mul_tdiv_cancel _ (by omega)]
  · refine ⟨d, d, hd, hgd.symm, by omega, .inr ⟨rfl, fun k => c (hs.1 k)⟩, ?_, ?_, by omega⟩
    · unfold sgN; rw [if_neg c, Int.mul_tdiv_cancel _ (by omega)]
    · unfold sgN; rw [if_neg c, Int.mul_tdiv_cancel _ (by omega)]

set_option maxRecDepth 100000 in
set_option maxHeartbeats 1000000 in
theorem l10Make_any (P Q : Int) (h : P ≠ 0 ∨ Q ≠ 0) (hP : P.natAbs ≤ 4000000000) (hQ : Q.natAbs ≤ 4000000000) (w : World) :
    Calls Try.prog 58 #[.int .i64 P, .int .i64 Q] w fun e w' => e = .returned (.tuple #[.agg #[.int .i64 (nrm P Q).1, .int .i64 (nrm P Q).2], .bool (frB (nrm P Q).1 (nrm P Q).2)]) ∧ Below w.heap.size w w' := by
  have CG := hide fun w => l10Common_any P Q hP hQ w
  obtain ⟨s1, s2⟩ := nrm_small h
  obtain ⟨g, c, g0, hg, gle, hc, e1, e2, cne⟩ := nrm_sign h
  rw [← hg] at CG
  clear hg
  have C0 := hide h; clear h
  have w1 : wrap64 (nrm P Q).1 = (nrm P Q).1 := wr64 (by omega) (by omega)
  have w2 : wrap64 (nrm P Q).2 = (nrm P Q).2 := wr64 (by omega) (by omega)
  have w3 : wrap64 (-g) = -g := wr64 (by omega) (by omega)
  have CI := hide fun w => l10Is_any (nrm P Q).1 (nrm P Q).2 w
  generalize frB (nrm P Q).1 (nrm P Q).2 = fb at *
  generalize (nrm P Q).1 = p1 at *
  generalize (nrm P Q).2 = p2 at *
  clear hP hQ s1 s2 gle C0
  obtain ⟨bc, hbc⟩ : ∃ b, b = decide (Q < 0 ∨ Q = 0 ∧ P < 0) := ⟨_, rfl⟩
  obtain ⟨b1, h1⟩ : ∃ b, decide (Q < 0) = b := ⟨_, rfl⟩
  obtain ⟨b2, h2⟩ : ∃ b, (Q == 0) = b := ⟨_, rfl⟩
  obtain ⟨b3, h3⟩ : ∃ b, decide (P < 0) = b := ⟨_, rfl⟩
  have hcc : (bc = true → c = -g) ∧ (bc = false → c = g) := by
    subst hbc
    rcases hc with ⟨k1, k2⟩ | ⟨k1, k2⟩
    · exact ⟨fun _ => k1, fun k => absurd k2 (of_decide_eq_false k)⟩
    · exact ⟨fun k => absurd (of_decide_eq_true k) k2, fun _ => k1⟩
  have hb : bc = (b1 || (b2 && b3)) := by
    rw [hbc, ← h1, ← h2, ← h3]
    simp
    rfl
  clear hc hbc
  go_enter Try.func58, Try.ntmps58
  go_wp2_with fail
  refine (CG.out _).mono ?_
  rintro e w1 ⟨rfl, hb1⟩
  have HH := ((Holds.start w).blk #[.int .i64 0, .int .i64 0] 25 w.heap.size rfl).call hb1
  clear hb1 CG
  have q0 := HH.lt 0 rfl
  have hcc' : (b1 || (b2 && b3)) = bc := hb.symm
  clear hb
  have TAIL : ∀ (wa : World) (a : Act), True := fun _ _ => trivial
  clear TAIL
  cases bc
  · obtain rfl : c = g := hcc.2 rfl
    clear hcc w3
    cases b1 <;> cases b2 <;> cases b3 <;> first | (exfalso; revert hcc'; decide) | skip
    all_goals clear hcc'
    all_goals go_wp2
    all_goals go_region
    all_goals (
      have H2 := (HH.blk #[.int .i64 p1, .int .i64 p2] 25 w1.heap.size rfl).drew
      clear HH
      go_wp2
      generalize ((w1.alloc (Obj.cells #[Value.int IntKind.i64 p1, Value.int IntKind.i64 p2] 25)).drew) = W at *
      refine region_tail (fun wx => Holds w wx [pBlk w1.heap.size #[.int .i64 p1, .int .i64 p2] 25, pBlk w.heap.size #[.int .i64 0, .int .i64 0] 25]) 3 (by kernel_rfl) (by kernel_rfl) H2.drew ?_
      simp only [List.take_succ_cons, List.take_zero, List.drop_succ_cons, List.drop_zero]
      apply q_step
      · go_simp
      · intro wx hx
        have c0 := hx.cell 0 rfl (j := 0) (v := .int .i64 p1) rfl
        have c1 := hx.cell 0 rfl (j := 1) (v := .int .i64 p2) rfl
        go_simp
        exact rfl
      apply q_step
      · go_simp
      · intro wx hx
        have c0 := hx.cell 0 rfl (j := 0) (v := .int .i64 p1) rfl
        have c1 := hx.cell 0 rfl (j := 1) (v := .int .i64 p2) rfl
        go_simp
        exact rfl
      apply q_step
      · go_simp
      · intro wx hx
        go_simp
        go_at_call 56
        exact Calls.mono (CI.out wx) fun e w' h => ⟨h.1, hx.call h.2⟩
      refine wpQuiet_nil ?_
      intro w2 hx
      have c0 := hx.cell 1 rfl (j := 0) (v := .int .i64 0) rfl
      have c1 := hx.cell 1 rfl (j := 1) (v := .int .i64 0) rfl
      have r0 := hx.frozen 1 rfl 0
      have r1 := hx.frozen 1 rfl 1
      have r2 := hx.lt 1 rfl
      go_wp2
      have H5 := hx.set2 1 rfl (.int .i64 p1) (.int .i64 p2)
      exact res_agg2 (p := 4) (t := 5) (g := w.heap.size) (v := .bool fb) aggFr (by rfl) rfl rfl rfl rfl (H5.at 1 rfl) ⟨rfl, H5.low⟩)
  · have hc : c = -g := hcc.1 rfl
    have w4 : wrap64 (-g) = c := w3.trans hc.symm
    clear hcc w3
    cases b1 <;> cases b2 <;> cases b3 <;> first | (exfalso; revert hcc'; decide) | skip
    all_goals clear hcc'
    all_goals clear hc
    all_goals go_wp2
    all_goals go_region
    all_goals (
      have H2 := (HH.blk #[.int .i64 p1, .int .i64 p2] 25 w1.heap.size rfl).drew
      clear HH
      go_wp2
      generalize ((w1.alloc (Obj.cells #[Value.int IntKind.i64 p1, Value.int IntKind.i64 p2] 25)).drew) = W at *
      refine region_tail (fun wx => Holds w wx [pBlk w1.heap.size #[.int .i64 p1, .int .i64 p2] 25, pBlk w.heap.size #[.int .i64 0, .int .i64 0] 25]) 3 (by kernel_rfl) (by kernel_rfl) H2.drew ?_
      simp only [List.take_succ_cons, List.take_zero, List.drop_succ_cons, List.drop_zero]
      apply q_step
      · go_simp
      · intro wx hx
        have c0 := hx.cell 0 rfl (j := 0) (v := .int .i64 p1) rfl
        have c1 := hx.cell 0 rfl (j := 1) (v := .int .i64 p2) rfl
        go_simp
        exact rfl
      apply q_step
      · go_simp
      · intro wx hx
        have c0 := hx.cell 0 rfl (j := 0) (v := .int .i64 p1) rfl
        have c1 := hx.cell 0 rfl (j := 1) (v := .int .i64 p2) rfl
        go_simp
        exact rfl
      apply q_step
      · go_simp
      · intro wx hx
        go_simp
        go_at_call 56
        exact Calls.mono (CI.out wx) fun e w' h => ⟨h.1, hx.call h.2⟩
      refine wpQuiet_nil ?_
      intro w2 hx
      have c0 := hx.cell 1 rfl (j := 0) (v := .int .i64 0) rfl
      have c1 := hx.cell 1 rfl (j := 1) (v := .int .i64 0) rfl
      have r0 := hx.frozen 1 rfl 0
      have r1 := hx.frozen 1 rfl 1
      have r2 := hx.lt 1 rfl
      go_wp2
      have H5 := hx.set2 1 rfl (.int .i64 p1) (.int .i64 p2)
      exact res_agg2 (p := 4) (t := 5) (g := w.heap.size) (v := .bool fb) aggFr (by rfl) rfl rfl rfl rfl (H5.at 1 rfl) ⟨rfl, H5.low⟩)
end Go.Proofs.Ytpkfjdaedaplfaa
