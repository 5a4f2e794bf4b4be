/- '==' of fractions and of moves; FractionOf, IsFraction of both. -/
import Derived.Test.YtpkfjdaedaplfaaFrb
import Derived.Test.YtpkfjdaedaplfaaFrc
import Derived.Laws.StructEq
namespace Go.Proofs.Ytpkfjdaedaplfaa
open Go.RowKit

@[go_sem] theorem guardFr : Try.prog.eqGuardType Try.prog.depth 25 = false := by kernel_rfl
@[go_sem] theorem guardMv : Try.prog.eqGuardType Try.prog.depth 38 = false := by kernel_rfl
@[irreducible] def eqF (a b c d : Int) : Bool := (a == c) && (b == d)
@[irreducible] def eqM (a b c x y z : Int) : Bool := (a == x) && ((b == y) && (c == z))
theorem eqF_iff (a b c d : Int) : eqF a b c d = true ↔ a = c ∧ b = d := by unfold eqF; simp
theorem eqM_iff (a b c x y z : Int) : eqM a b c x y z = true ↔ a = x ∧ b = y ∧ c = z := by unfold eqM; simp
theorem fieldsFr : ((Try.prog.fieldsOf 25).toList.map fun f => (f.name != "_", f.type, f.offset)) = [(true, 2, 0), (true, 2, 1)] := by kernel_rfl
theorem fieldsMv : ((Try.prog.fieldsOf 38).toList.map fun f => (f.name != "_", f.type, f.offset)) = [(true, 2, 0), (true, 2, 1), (true, 2, 2)] := by kernel_rfl
theorem undFr : Try.prog.underlying 25 = some (.struct (Try.prog.fieldsOf 25)) := by kernel_rfl
theorem undMv : Try.prog.underlying 38 = some (.struct (Try.prog.fieldsOf 38)) := by kernel_rfl
theorem stoodFr : Try.prog.stoodInHeld 25 = false := by kernel_rfl
theorem stoodMv : Try.prog.stoodInHeld 38 = false := by kernel_rfl
theorem plain64 : Try.prog.plainKey 2 = true := by kernel_rfl
set_option maxHeartbeats 400000 in
@[go_sem high] theorem run_sameFr (a b c d : Int) (w : World) : (Op.equalIn 10000 25 (.agg #[.int .i64 a, .int .i64 b]) (.agg #[.int .i64 c, .int .i64 d])).run Try.prog w = .ok (eqF a b c d) w := by
  rw [run_equalIn_struct w 9999 _ _ _ undFr stoodFr]
  have h := fieldsFr
  rcases hl : (Try.prog.fieldsOf 25).toList with _ | ⟨f0, _ | ⟨f1, _ | ⟨f2, l⟩⟩⟩ <;> rw [hl] at h
  · cases h
  · simp at h
  · simp only [List.map_cons, List.map_nil, List.cons.injEq, Prod.mk.injEq, bne_iff_ne] at h
    obtain ⟨⟨n0, t0, o0⟩, ⟨n1, t1, o1⟩, -⟩ := h
    have p : ∀ (xs : Array Value) (i : Nat) (x : Int) (w : World), xs[i]? = some (.int .i64 x) → (part 2 xs i).run Try.prog w = .ok (.int .i64 x) w := fun xs i x w hx => run_part_plain w plain64 hx
    have q : ∀ (x y : Int) (w : World), (Op.equalIn 9999 2 (.int .i64 x) (.int .i64 y)).run Try.prog w = .ok (x == y) w := fun x y w => run_equalIn_int w 9998 2 .i64 .i64 x y Try.underlying2
    simp only [Op.eqFields, if_pos n0, if_pos n1, t0, t1, o0, o1, Sem.run_bind, p #[.int .i64 a, .int .i64 b] 0 a w rfl, p #[.int .i64 c, .int .i64 d] 0 c w rfl, q, Result.andThen_ok]
    unfold eqF
    rcases (a == c) with _ | _
    · simp
    · simp only [Bool.not_true, Bool.false_eq_true, if_false, Sem.run_bind, p #[.int .i64 a, .int .i64 b] 1 b w rfl, p #[.int .i64 c, .int .i64 d] 1 d w rfl, q, Result.andThen_ok]
      rcases (b == d) with _ | _ <;> simp
  · simp at h
set_option maxHeartbeats 400000 in
@[go_sem high] theorem run_sameMv (a b c x y z : Int) (w : World) : (Op.equalIn 10000 38 (.agg #[.int .i64 a, .int .i64 b, .int .i64 c]) (.agg #[.int .i64 x, .int .i64 y, .int .i64 z])).run Try.prog w = .ok (eqM a b c x y z) w := by
  rw [run_equalIn_struct w 9999 _ _ _ undMv stoodMv]
  have h := fieldsMv
  rcases hl : (Try.prog.fieldsOf 38).toList with _ | ⟨f0, _ | ⟨f1, _ | ⟨f2, _ | ⟨f3, l⟩⟩⟩⟩ <;> rw [hl] at h
  · cases h
  · simp at h
  · simp at h
  · simp only [List.map_cons, List.map_nil, List.cons.injEq, Prod.mk.injEq, bne_iff_ne] at h
    obtain ⟨⟨n0, t0, o0⟩, ⟨n1, t1, o1⟩, ⟨n2, t2, o2⟩, -⟩ := h
    have p : ∀ (xs : Array Value) (i : Nat) (x : Int) (w : World), xs[i]? = some (.int .i64 x) → (part 2 xs i).run Try.prog w = .ok (.int .i64 x) w := fun xs i x w hx => run_part_plain w plain64 hx
    have q : ∀ (x y : Int) (w : World), (Op.equalIn 9999 2 (.int .i64 x) (.int .i64 y)).run Try.prog w = .ok (x == y) w := fun x y w => run_equalIn_int w 9998 2 .i64 .i64 x y Try.underlying2
    simp only [Op.eqFields, if_pos n0, if_pos n1, if_pos n2, t0, t1, t2, o0, o1, o2, Sem.run_bind, p #[.int .i64 a, .int .i64 b, .int .i64 c] 0 a w rfl, p #[.int .i64 x, .int .i64 y, .int .i64 z] 0 x w rfl, q, Result.andThen_ok]
    unfold eqM
    rcases (a == x) with _ | _
    · simp
    · simp only [Bool.not_true, Bool.false_eq_true, if_false, Sem.run_bind, p #[.int .i64 a, .int .i64 b, .int .i64 c] 1 b w rfl, p #[.int .i64 x, .int .i64 y, .int .i64 z] 1 y w rfl, q, Result.andThen_ok]
      rcases (b == y) with _ | _
      · simp
      · simp only [Bool.not_true, Bool.false_eq_true, if_false, Sem.run_bind, p #[.int .i64 a, .int .i64 b, .int .i64 c] 2 c w rfl, p #[.int .i64 x, .int .i64 y, .int .i64 z] 2 z w rfl, q, Result.andThen_ok]
        rcases (c == z) with _ | _ <;> simp
  · simp at h
/-- what FractionOf tells -/
def foB (P Q : Int) : Bool := prt P && (prt Q && !((P == 0) && (Q == 0)))
def foN (P Q : Int) : Int := if foB P Q = true then (nrm P Q).1 else 0
def foD (P Q : Int) : Int := if foB P Q = true then (nrm P Q).2 else 0
def foC (P Q : Int) : Int := if foB P Q = true then 0 else 2
theorem foB_true {P Q : Int} (h : foB P Q = true) : isP P ∧ isP Q ∧ (P ≠ 0 ∨ Q ≠ 0) ∧ prt P = true ∧ prt Q = true := by
  unfold foB at h
  rw [Bool.and_eq_true, Bool.and_eq_true] at h
  obtain ⟨h1, h2, h3⟩ := h
  refine ⟨(prt_iff P).1 h1, (prt_iff Q).1 h2, ?_, h1, h2⟩
  simp at h3
  omega
theorem fo_res {P Q : Int} (h : foB P Q = true) : resN P Q = (nrm P Q).1 ∧ resD P Q = (nrm P Q).2 ∧ resC P Q 3 = 0 := by
  obtain ⟨h1, h2, h3, _⟩ := foB_true h
  obtain ⟨s1, s2⟩ := nrm_small h3
  have k : isP (nrm P Q).1 ∧ isP (nrm P Q).2 := by unfold isP at *; omega
  unfold resN resD resC
  rw [if_pos k, if_pos k, if_pos k]
  exact ⟨rfl, rfl, rfl⟩
set_option maxRecDepth 100000 in
set_option maxHeartbeats 1000000 in
theorem fractionOf_any (P Q : Int) (w : World) :
    Calls Try.prog 19 #[.int .i64 P, .int .i64 Q] w fun e w' => e = .returned (.tuple #[.agg #[.int .i64 (foN P Q), .int .i64 (foD P Q)], .int .i64 (foC P Q)]) ∧ Below w.heap.size w w' := by
  have HH := (Holds.start w).blk #[.int .i64 0, .int .i64 0] 25 w.heap.size rfl
  obtain ⟨b1, h1⟩ : ∃ b, prt P = b := ⟨_, rfl⟩
  obtain ⟨b2, h2⟩ : ∃ b, prt Q = b := ⟨_, rfl⟩
  obtain ⟨b3, h3⟩ : ∃ b, (P == 0) = b := ⟨_, rfl⟩
  obtain ⟨b4, h4⟩ : ∃ b, (Q == 0) = b := ⟨_, rfl⟩
  have hfo : foB P Q = (b1 && (b2 && !(b3 && b4))) := by unfold foB; rw [h1, h2, h3, h4]
  by_cases hb : (b1 && (b2 && !(b3 && b4))) = true
  · rw [hb] at hfo
    obtain ⟨i1, i2, hne, _, _⟩ := foB_true hfo
    have RES := fo_res hfo
    have CQ := hide fun (w1 : World) (va vb : Value) (L : List Part) H => quotientOf_any (w0 := w) (w := w1) (L := L) [P] [Q] va vb H (by simp) (by simp) (by simp) (by simp) (by simp; omega) (by simp; unfold isP at i1; omega) (by simp; unfold isP at i2; omega)
    simp only [prZ, Int.mul_one, RES.1, RES.2.1, RES.2.2] at CQ
    unfold foN foD foC
    rw [if_pos hfo, if_pos hfo, if_pos hfo]
    generalize (nrm P Q).1 = p at *
    generalize (nrm P Q).2 = q at *
    clear hfo RES i1 i2 hne
    have TAIL : True := trivial
    cases b1
    · cases hb
    cases b2
    · cases hb
    cases b3 <;> cases b4
    case true.true => cases hb
    all_goals (
      go_enter Try.func19, Try.ntmps19
      go_wp2_with fail
      refine (isPart_any _ _).mono ?_
      rintro e w4 ⟨rfl, rfl⟩
      rw [h1]
      go_wp2_with fail
      refine (isPart_any _ _).mono ?_
      rintro e w4 ⟨rfl, rfl⟩
      rw [h2]
      go_wp2_with fail
      have HX := ((HH.rowNew #[.int .i64 P] 2 1 1 (w.heap.size + 1) (by simp) rfl (by decide)).rowNew #[.int .i64 Q] 2 1 1 (w.heap.size + 1 + 1) (by simp) rfl (by decide)).perm (List.Perm.swap _ _ _)
      clear HH
      refine (CQ.out _ _ _ _ HX).mono ?_
      rintro e w5 ⟨rfl, H5⟩
      clear HX CQ
      have C4 := H5.cell 0 rfl (j := 0) (v := .int .i64 0) rfl
      have C5 := H5.cell 0 rfl (j := 1) (v := .int .i64 0) rfl
      have F4 := H5.frozen 0 rfl 0
      have F5 := H5.frozen 0 rfl 1
      have H6 := H5.set2 0 rfl (.int .i64 p) (.int .i64 q)
      have hl := H5.lt 0 rfl
      clear H5
      go_wp2_with fail
      exact res_agg2 (p := 4) (t := 5) (g := w.heap.size) (v := .int .i64 0) aggFr (by rfl) rfl rfl rfl rfl (H6.at 0 rfl) ⟨rfl, H6.low⟩)
  · have hb' : (b1 && (b2 && !(b3 && b4))) = false := by simpa using hb
    rw [hb'] at hfo
    clear hb
    unfold foN foD foC
    rw [hfo]
    simp only [Bool.false_eq_true, if_false]
    clear hfo
    cases b1
    · clear h2 h3 h4 hb'
      go_enter Try.func19, Try.ntmps19
      go_wp2_with fail
      refine (isPart_any _ _).mono ?_
      rintro e w4 ⟨rfl, rfl⟩
      rw [h1]
      go_wp2_with fail
      exact res_agg2 (p := 4) (t := 5) (g := w.heap.size) (v := .int .i64 2) aggFr (by rfl) rfl rfl rfl rfl (heap_at _ _ _ rfl) ⟨rfl, below1 _ _⟩
    cases b2
    · clear h3 h4 hb'
      go_enter Try.func19, Try.ntmps19
      go_wp2_with fail
      refine (isPart_any _ _).mono ?_
      rintro e w4 ⟨rfl, rfl⟩
      rw [h1]
      go_wp2_with fail
      refine (isPart_any _ _).mono ?_
      rintro e w4 ⟨rfl, rfl⟩
      rw [h2]
      go_wp2_with fail
      exact res_agg2 (p := 4) (t := 5) (g := w.heap.size) (v := .int .i64 2) aggFr (by rfl) rfl rfl rfl rfl (heap_at _ _ _ rfl) ⟨rfl, below1 _ _⟩
    cases b3
    · cases hb'
    cases b4
    · cases hb'
    go_enter Try.func19, Try.ntmps19
    go_wp2_with fail
    refine (isPart_any _ _).mono ?_
    rintro e w4 ⟨rfl, rfl⟩
    rw [h1]
    go_wp2_with fail
    refine (isPart_any _ _).mono ?_
    rintro e w4 ⟨rfl, rfl⟩
    rw [h2]
    go_wp2_with fail
    exact res_agg2 (p := 4) (t := 5) (g := w.heap.size) (v := .int .i64 2) aggFr (by rfl) rfl rfl rfl rfl (heap_at _ _ _ rfl) ⟨rfl, below1 _ _⟩
theorem in_prt (x : Int) : decide (-1000000000 ≤ x ∧ x ≤ 1000000000) = prt x := rfl
set_option maxRecDepth 100000 in
set_option maxHeartbeats 1000000 in
theorem sFractionOf_any (P Q : Int) (w : World) :
    Calls Try.prog 18 #[.int .i64 P, .int .i64 Q] w fun e w' => e = .returned (.tuple #[.agg #[.int .i64 (foN P Q), .int .i64 (foD P Q)], .int .i64 (foC P Q)]) ∧ Below w.heap.size w w' := by
  have HH := (Holds.start w).blk #[.int .i64 0, .int .i64 0] 25 w.heap.size rfl
  obtain ⟨b1, h1⟩ : ∃ b, prt P = b := ⟨_, rfl⟩
  obtain ⟨b2, h2⟩ : ∃ b, prt Q = b := ⟨_, rfl⟩
  obtain ⟨b3, h3⟩ : ∃ b, (P == 0) = b := ⟨_, rfl⟩
  obtain ⟨b4, h4⟩ : ∃ b, (Q == 0) = b := ⟨_, rfl⟩
  have hfo : foB P Q = (b1 && (b2 && !(b3 && b4))) := by unfold foB; rw [h1, h2, h3, h4]
  by_cases hb : (b1 && (b2 && !(b3 && b4))) = true
  · rw [hb] at hfo
    obtain ⟨i1, i2, hne, _, _⟩ := foB_true hfo
    have CQ := hide fun (w1 : World) => l10Make_any P Q hne (by unfold isP at i1; omega) (by unfold isP at i2; omega) w1
    unfold foN foD foC
    rw [if_pos hfo, if_pos hfo, if_pos hfo]
    generalize frB (nrm P Q).1 (nrm P Q).2 = fb at *
    generalize (nrm P Q).1 = p at *
    generalize (nrm P Q).2 = q at *
    clear hfo i1 i2 hne
    cases b1
    · cases hb
    cases b2
    · cases hb
    cases b3 <;> cases b4
    case true.true => cases hb
    all_goals (
      go_enter Try.func18, Try.ntmps18
      go_wp2_with fail
      refine (in10_any _ _ _ _).mono ?_
      rintro e w4 ⟨rfl, rfl⟩
      rw [in_prt, h1]
      go_wp2_with fail
      refine (in10_any _ _ _ _).mono ?_
      rintro e w4 ⟨rfl, rfl⟩
      rw [in_prt, h2]
      go_wp2_with fail
      refine (CQ.out _).mono ?_
      rintro e w5 ⟨rfl, hb5⟩
      have H5 := HH.call hb5
      clear HH hb5 CQ
      have C4 := H5.cell 0 rfl (j := 0) (v := .int .i64 0) rfl
      have C5 := H5.cell 0 rfl (j := 1) (v := .int .i64 0) rfl
      have F4 := H5.frozen 0 rfl 0
      have F5 := H5.frozen 0 rfl 1
      have H6 := (H5.set2 0 rfl (.int .i64 p) (.int .i64 q)).blk #[.int .i64 p, .int .i64 q] 25 w5.heap.size (by simp)
      have hl := H5.lt 0 rfl
      clear H5
      go_wp2_with fail
      exact res_agg2 (p := 4) (t := 5) (g := w.heap.size) (v := .int .i64 0) aggFr (by rfl) rfl rfl rfl rfl (H6.at 1 rfl) ⟨rfl, H6.low⟩)
  · have hb' : (b1 && (b2 && !(b3 && b4))) = false := by simpa using hb
    rw [hb'] at hfo
    clear hb
    unfold foN foD foC
    rw [hfo]
    simp only [Bool.false_eq_true, if_false]
    clear hfo
    cases b1
    · clear h2 h3 h4 hb'
      go_enter Try.func18, Try.ntmps18
      go_wp2_with fail
      refine (in10_any _ _ _ _).mono ?_
      rintro e w4 ⟨rfl, rfl⟩
      rw [in_prt, h1]
      go_wp2_with fail
      exact res_agg2 (p := 4) (t := 5) (g := w.heap.size) (v := .int .i64 2) aggFr (by rfl) rfl rfl rfl rfl (heap_at _ _ _ rfl) ⟨rfl, below1 _ _⟩
    cases b2
    · clear h3 h4 hb'
      go_enter Try.func18, Try.ntmps18
      go_wp2_with fail
      refine (in10_any _ _ _ _).mono ?_
      rintro e w4 ⟨rfl, rfl⟩
      rw [in_prt, h1]
      go_wp2_with fail
      refine (in10_any _ _ _ _).mono ?_
      rintro e w4 ⟨rfl, rfl⟩
      rw [in_prt, h2]
      go_wp2_with fail
      exact res_agg2 (p := 4) (t := 5) (g := w.heap.size) (v := .int .i64 2) aggFr (by rfl) rfl rfl rfl rfl (heap_at _ _ _ rfl) ⟨rfl, below1 _ _⟩
    cases b3
    · cases hb'
    cases b4
    · cases hb'
    go_enter Try.func18, Try.ntmps18
    go_wp2_with fail
    refine (in10_any _ _ _ _).mono ?_
    rintro e w4 ⟨rfl, rfl⟩
    rw [in_prt, h1]
    go_wp2_with fail
    refine (in10_any _ _ _ _).mono ?_
    rintro e w4 ⟨rfl, rfl⟩
    rw [in_prt, h2]
    go_wp2_with fail
    exact res_agg2 (p := 4) (t := 5) (g := w.heap.size) (v := .int .i64 2) aggFr (by rfl) rfl rfl rfl rfl (heap_at _ _ _ rfl) ⟨rfl, below1 _ _⟩
/-- the fractions are those that FractionOf leaves as they are -/
theorem fr_fo (n d : Int) : frB n d = ((foC n d == 0) && eqF n d (foN n d) (foD n d)) := by
  rw [Bool.eq_iff_iff, Bool.and_eq_true, eqF_iff]
  unfold frB foC foN foD
  rw [Bool.and_eq_true, Bool.and_eq_true, Bool.and_eq_true, Bool.or_eq_true, decide_eq_true_iff, decide_eq_true_iff, decide_eq_true_iff, decide_eq_true_iff, decide_eq_true_iff]
  have hs : ∀ {a b : Int}, Int.gcd a b = 1 → (0 ≤ b ∧ (0 < b ∨ a = 1)) → sgN a b = (a, b) := by
    intro a b _ h
    unfold sgN
    rw [if_neg (by omega)]
  constructor
  · rintro ⟨⟨⟨h1, h2⟩, h3⟩, h4⟩
    have hb : foB n d = true := by unfold foB prt; simp; omega
    rw [if_pos hb, if_pos hb, if_pos hb, nrm_cop (by omega), hs (by omega) (by omega)]
    exact ⟨rfl, rfl, rfl⟩
  · rintro ⟨h0, h1, h2⟩
    by_cases hb : foB n d = true
    · rw [if_pos hb] at h1 h2
      obtain ⟨i1, i2, hne, _, _⟩ := foB_true hb
      obtain ⟨a, b, e, he, ha, hb', hg, hn⟩ := nrm_parts hne
      rw [hn] at h1 h2
      have hg2 : Int.gcd n d = 1 := by rw [h1, h2, sgN_gcd]; exact hg
      have hsg : 0 ≤ d ∧ (0 < d ∨ n = 1) := by
        have k : (sgN a b).2 > 0 ∨ (sgN a b).2 = 0 ∧ (sgN a b).1 ≥ 0 := by
          unfold sgN; split <;> simp <;> omega
        rw [← h1, ← h2] at k
        rcases k with k | ⟨k, k'⟩
        · omega
        · rw [k, Int.gcd_zero_right] at hg2
          omega
      unfold isP at *
      exact ⟨⟨⟨i1, by omega⟩, by omega⟩, hsg.2⟩
    · rw [if_neg hb] at h0
      simp at h0
set_option maxRecDepth 100000 in
set_option maxHeartbeats 1000000 in
theorem isFraction_any (n d : Int) (w : World) : Calls Try.prog 17 #[.agg #[.int .i64 n, .int .i64 d]] w fun e w' => e = .returned (.bool (frB n d)) ∧ Below w.heap.size w w' := by
  have CF := hide fun w => fractionOf_any n d w
  have HH := (Holds.start w).blk #[.int .i64 n, .int .i64 d] 25 w.heap.size rfl
  rw [fr_fo]
  generalize foN n d = p at *
  generalize foD n d = q at *
  generalize foC n d = c at *
  obtain ⟨b1, h1⟩ : ∃ b, (c == 0) = b := ⟨_, rfl⟩
  obtain ⟨b2, h2⟩ : ∃ b, eqF n d p q = b := ⟨_, rfl⟩
  rw [h1, h2]
  go_enter Try.func17, Try.ntmps17
  go_wp2_with fail
  refine (CF.out _).mono ?_
  rintro e w5 ⟨rfl, hb5⟩
  have H5 := HH.call hb5
  clear HH hb5 CF
  have C4 := H5.cell 0 rfl (j := 0) (v := .int .i64 n) rfl
  have C5 := H5.cell 0 rfl (j := 1) (v := .int .i64 d) rfl
  have hl := H5.lt 0 rfl
  have H6 := (H5.blk #[.int .i64 p, .int .i64 q] 25 w5.heap.size (by simp)).low
  clear H5
  cases b1
  · clear h2
    go_wp2_with fail
    go_ret
    exact ⟨rfl, H6⟩
  · go_wp2_with fail
    go_ret
    exact ⟨rfl, H6⟩
set_option maxHeartbeats 1000000 in
theorem sIsFraction_any (n d : Int) (w : World) : Calls Try.prog 15 #[.agg #[.int .i64 n, .int .i64 d]] w fun e w' => e = .returned (.bool (frB n d)) ∧ Below w.heap.size w w' := by
  have CF := hide fun w => l10Is_any n d w
  have HH := (Holds.start w).blk #[.int .i64 n, .int .i64 d] 25 w.heap.size rfl
  generalize frB n d = b at *
  go_enter Try.func15, Try.ntmps15
  go_wp2_with fail
  refine (CF.out _).mono ?_
  rintro e w5 ⟨rfl, hb5⟩
  have H5 := (HH.call hb5).low
  go_wp2_with fail
  go_ret
  exact ⟨rfl, H5⟩
end Go.Proofs.Ytpkfjdaedaplfaa
