/- CountRooted of the model: l05Types, CountRooted. -/
import Derived.Test.YtdoehnckolhloaaCrt
import Derived.Test.YtdoehnckolhloaaArg
namespace Go.Proofs.Ytdoehnckolhloaa
open Go.RowKit

def okS (l : List Int) : Prop := preS l ∧ l.length ≤ 16
theorem okS_typ {l : List Int} (h : okS l) (h0 : 1 ≤ zs l) (h1 : zs l ≤ 16) : isTyp l := by
  refine h.1.typ ?_ h1
  rcases l with _ | ⟨x, l⟩
  · simp [zs] at h0
  · simp
theorem isTyp.okS {l : List Int} (h : isTyp l) : okS l := ⟨⟨fun x hx => by
  obtain ⟨i, hi, rfl⟩ := List.getElem_of_mem hx
  have := h.at hi
  omega, h.2.2.1⟩, h.len.2⟩
theorem okS_at {l : List Int} (h : okS l) {i : Nat} (hi : i < l.length) : 1 ≤ l[i] ∧ l[i] ≤ 16 ∧ (∀ _ : 0 < i, l[i] ≤ l[i - 1]) ∧ i < 16 :=
  ⟨(h.1.1 _ (List.getElem_mem hi)).1, (h.1.1 _ (List.getElem_mem hi)).2, fun h0 => List.pairwise_iff_getElem.1 h.1.2 (i - 1) i (by omega) hi (by omega), by have := h.2; omega⟩
theorem okS_sum {l : List Int} (h : okS l) : 0 ≤ zs l ∧ zs l ≤ 256 := by
  have := (h.1.small h.2).part l.length (Nat.le_refl _)
  have := h.2
  rw [List.take_length] at *
  omega
/-- two numbers -/
@[irreducible] def z2 (c : Nat → Int) : Array Value := row 2 fun i => .int .i64 (c i)
theorem z2_get (c : Nat → Int) {i : Nat} (h : i < 2) : (z2 c)[i]? = some (.int .i64 (c i)) := by unfold z2; exact row_get _ _ h
theorem z2_zero : z2 (fun _ => 0) = #[.int .i64 0, .int .i64 0] := by unfold z2 row; rfl
theorem z2_set (c : Nat → Int) {i : Nat} (x : Int) : (z2 c).setIfInBounds i (.int .i64 x) = z2 (iset c i x) := by
  unfold z2
  rw [row_set]
  apply row_congr
  intro j _
  unfold iset
  by_cases e : j = i
  · rw [if_pos e, if_pos e]
  · rw [if_neg e, if_neg e]
open Classical in
noncomputable def tyN (a b : List Int) : Int := if okS a ∧ okS b then zs a else 0
open Classical in
theorem tyN_yes {a b : List Int} (h : okS a ∧ okS b) : tyN a b = zs a := by unfold tyN; rw [if_pos h]
open Classical in
theorem tyN_no {a b : List Int} (h : ¬ (okS a ∧ okS b)) : tyN a b = 0 := by unfold tyN; rw [if_neg h]
def pk2 {α : Type} (a b : α) (k : Nat) : α := if k = 0 then a else b
/-- the sums that are told before list k -/
def sm2 (a b : List Int) (k : Nat) : Nat → Int := fun j => if j < k then zs (pk2 a b j) else 0
theorem sm2_zero (a b : List Int) : sm2 a b 0 = fun _ => 0 := by funext j; unfold sm2; rw [if_neg (by omega)]
theorem sm2_start (a b : List Int) (k : Nat) : iset (sm2 a b k) k (zs ((pk2 a b k).take 0)) = sm2 a b k := by
  funext j
  unfold iset sm2
  split
  · rename_i e; subst e; rw [if_neg (by omega)]; rfl
  · rfl
theorem sm2_end (a b : List Int) (k : Nat) : iset (sm2 a b k) k (zs ((pk2 a b k).take (pk2 a b k).length)) = sm2 a b (k + 1) := by
  rw [List.take_length]
  funext j
  unfold iset sm2
  split
  · rename_i e; subst e; rw [if_pos (by omega)]
  · rename_i e
    by_cases c : j < k
    · rw [if_pos c, if_pos (by omega)]
    · rw [if_neg c, if_neg (by omega)]

set_option maxRecDepth 100000 in
set_option maxHeartbeats 2000000 in
theorem l05Types_any (u v : Value) (a b : List Int) (w : World) (hu : RdZ w u a) (hv : RdZ w v b) :
    Calls Try.prog 50 #[u, v] w fun e w' => e = .returned (.tuple #[.int .i64 (tyN a b), .bool (twoB a b)]) ∧ Below w.heap.size w w' := by
  have HV := hide (fun (k : Nat) => show RdZ w (pk2 u v k) (pk2 a b k) by unfold pk2; split; exact hu; exact hv)
  obtain ⟨A, c, rfl, la⟩ := hu.form
  obtain ⟨A', c', rfl, lb⟩ := hv.form
  clear hu hv
  obtain ⟨R, hR⟩ : ∃ R, R = twoB a b := ⟨_, rfl⟩
  obtain ⟨N, hN0⟩ : ∃ N, N = tyN a b := ⟨_, rfl⟩
  rw [← hR, ← hN0]
  have hN1 : okS a ∧ okS b → N = zs a := fun h => hN0.trans (tyN_yes h)
  have hN2 : ¬ (okS a ∧ okS b) → N = 0 := fun h => hN0.trans (tyN_no h)
  have hY : isTyp a ∧ isTyp b ∧ zs a = zs b → R = true := fun h => by rw [hR]; exact twoB_true h
  have hN : ¬ (isTyp a ∧ isTyp b ∧ zs a = zs b) → R = false := fun h => by rw [hR]; exact twoB_false h
  have hbad : ∀ k, k < 2 → ¬ okS (pk2 a b k) → R = false ∧ N = 0 := fun k hk h => ⟨hN fun ⟨h1, h2, _⟩ => h (by unfold pk2; split; exact h1.okS; exact h2.okS), hN2 fun ⟨h1, h2⟩ => h (by unfold pk2; split; exact h1; exact h2)⟩
  have HN1 := hide hN1
  have BAD := hide hbad; clear hbad
  have HR := hide (And.intro hY hN); clear hR hY hN hN0 hN1 hN2
  have H0 : Holds w _ _ := ((Holds.start w).blk #[.slice A a.length c, .slice A' b.length c'] 32 w.heap.size rfl).blk (z2 fun _ => 0) 88 (w.heap.size + 1) (by simp)
  rw [← sm2_zero a b] at H0
  go_enter Try.func50, Try.ntmps50
  go_wp2
  rw [← z2_zero, ← sm2_zero a b]
  generalize hG : w.heap.size = G at *
  have HG := hide hG; clear hG
  go_loopw [8] (fun t wr => ∃ k : Nat, k ≤ 2 ∧ t = .int .i64 k ∧ (∀ j, j < k → okS (pk2 a b j)) ∧ Holds w wr [pBlk (G + 1) (z2 (sm2 a b k)) 88, pBlk G #[.slice A a.length c, .slice A' b.length c'] 32]) (fun t _ => 2 - (intOf t).toNat)
  case atStart => exact ⟨0, by omega, rfl, fun j hj => absurd hj (Nat.not_lt_zero j), H0⟩
  case round =>
    clear H0
    obtain ⟨k, hk, rfl, hok, hH⟩ := hrel
    have HOK := hide hok; clear hok
    by_cases hlt : k < 2
    · have hlt' : (k : Int) < 2 := by omega
      have hvk := HV.out k
      obtain ⟨Ak, ck, hform, hlk⟩ := hvk.form
      have hcell : (#[Value.slice A a.length c, Value.slice A' b.length c'] : Array Value)[k]? = some (.slice Ak (pk2 a b k).length ck) := by
        rw [← hform]
        unfold pk2
        have : k = 0 ∨ k = 1 := by omega
        rcases this with rfl | rfl <;> rfl
      rw [hform] at hvk
      have hst := sm2_start a b k
      have hen := sm2_end a b k
      have hbk := BAD.out k hlt
      have HM := hide (And.intro hcell hform); clear hcell hform
      rw [← hst] at hH
      have HE := hide (And.intro hst hen); clear hst hen
      obtain ⟨l, hl⟩ : ∃ l, l = pk2 a b k := ⟨_, rfl⟩
      rw [← hl] at hH hvk HM HE hlk hbk
      have HVK := hide hvk; clear hvk
      have HBK := hide hbk; clear hbk
      have HLL := hide hl; clear hl
      go_wp2
      go_loopw [9] (fun t wr => ∃ i : Nat, i ≤ l.length ∧ i ≤ 16 ∧ t = .int .i64 i ∧ preS (l.take i) ∧ Holds w wr [pBlk (G + 1) (z2 (iset (sm2 a b k) k (zs (l.take i)))) 88, pBlk G #[.slice A a.length c, .slice A' b.length c'] 32]) (fun t _ => l.length - (intOf t).toNat)
      case atStart => exact ⟨0, Nat.zero_le _, by omega, rfl, preS_nil, hH⟩
      case round =>
        clear hH
        obtain ⟨i, hi, hi16, rfl, hp, hH⟩ := hrel
        have HP := hide hp; clear hp
        have m1 := hH.cell 1 rfl HM.out.1
        by_cases hil : i < l.length
        · have hil' : (i : Int) < l.length := by omega
          have hat := fun (h : okS l) => okS_at h hil
          have hsc := HP.out.succ hil
          have hvi := HVK.out.below hH.low (Nat.le_refl _)
          obtain ⟨a1, rfl, _, c1⟩ := hvi.at hil
          have RD := hide (fun (wx : World) (hb : Below w.heap.size w wx) => show wx.cell? (a1.add i) = some (.int .i64 l[i]) by
            obtain ⟨z9, e9, _, q3⟩ := (HVK.out.below hb (Nat.le_refl _)).at hil
            injection e9 with e9
            rw [e9]
            exact q3)
          have hprev : 0 < i → ∃ q : Nat, q < l.length ∧ (i : Int) - 1 = (q : Int) ∧ q = i - 1 := fun h => ⟨i - 1, by omega, by omega, rfl⟩
          have hzs := zs_succ l hil
          have hsm : 0 ≤ zs (l.take i) ∧ zs (l.take i) ≤ 256 := okS_sum ⟨HP.out, by rw [List.length_take]; omega⟩
          have q2 : (z2 (iset (sm2 a b k) k (zs (l.take i))))[k]? = some (.int .i64 (zs (l.take i))) := by rw [z2_get _ hlt]; unfold iset; rw [if_pos rfl]
          have m2 := hH.cell 0 rfl q2
          have f2 := hH.frozen 0 rfl k
          generalize hx : l[i] = x at *
          have HX := hide hx; clear hx
          have HAT := hide hat; clear hat
          have HSC := hide hsc; clear hsc
          have HZ := hide hzs; clear hzs
          by_cases h1 : 1 ≤ x ∧ x ≤ 16
          · have HQ2 := hide q2; clear q2
            generalize zs (l.take i) = s at *
            by_cases h0 : 0 < i
            · have d0 : decide ((0 : Int) < (i : Int)) = true := decide_eq_true (by omega)
              obtain ⟨q, hq, hqi, hqe⟩ := hprev h0
              obtain ⟨a', e', _, c2⟩ := hvi.at hq
              injection e' with e'
              subst e'
              subst hqe
              obtain ⟨y, hy⟩ : ∃ y, y = l[i - 1] := ⟨_, rfl⟩
              rw [← hy] at c2
              have HY := hide hy; clear hy
              obtain ⟨q, hqq⟩ : ∃ q, q = i - 1 := ⟨_, rfl⟩
              rw [← hqq] at c2 hqi hq
              have HQ := hide hqq; clear hqq
              by_cases h3 : y < x
              · have d3 : decide (y < x) = true := decide_eq_true h3
                have hbad := HBK.out fun h => by have := (HAT.out h).2.2.1 h0; have := HY.out; omega
                obtain ⟨rfl, rfl⟩ := hbad
                clear h3
                clear hprev
                go_wp2
                go_quiet ((go_at_call 64; exact quiet_eq (in_yes _ _ _ _ h1.1 h1.2)))
                go_wp2
                go_ret2
                exact ⟨rfl, below_drewN hH.low _⟩
              · have d3 : decide (y < x) = false := decide_eq_false h3
                by_cases h16 : 16 ≤ i
                · have d16 : decide ((16 : Int) ≤ (i : Int)) = true := decide_eq_true (by omega)
                  have hbad := HBK.out fun h => by have := (HAT.out h).2.2.2; omega
                  obtain ⟨rfl, rfl⟩ := hbad
                  clear h3 h16
                  clear hprev
                  go_wp2
                  go_quiet ((go_at_call 64; exact quiet_eq (in_yes _ _ _ _ h1.1 h1.2)))
                  go_wp2
                  go_ret2
                  exact ⟨rfl, below_drewN hH.low _⟩
                · have d16 : decide ((16 : Int) ≤ (i : Int)) = false := decide_eq_false (by omega)
                  have hnew := HSC.out (by omega) (by omega) (fun _ => by have := HY.out; omega)
                  have HN := hide hnew; clear hnew
                  have h17 : i + 1 ≤ 16 := by omega
                  clear h3 h16
                  clear hprev
                  go_wp2
                  go_quiet ((go_at_call 64; exact quiet_eq (in_yes _ _ _ _ h1.1 h1.2)))
                  have hHq := hH.drewN nq
                  clear m1 m2 f2 c1 hH hvi c2
                  generalize wr.drewN nq = wq at *
                  go_wp2
                  refine region_tail (fun wx => Holds w wx _) 12 (by kernel_rfl) (by kernel_rfl) hHq.drew ?_
                  simp only [List.take_succ_cons, List.take_zero, List.drop_succ_cons, List.drop_zero]
                  iterate 12
                    apply q_step
                    · go_simp
                    · intro wx hx
                      have q1 := hx.cell 1 rfl HM.out.1
                      have q2 := hx.cell 0 rfl HQ2.out
                      have q3 := RD.out wx hx.low
                      go_simp
                      try exact rfl
                  refine wpQuiet_nil ?_
                  intro w4 H4
                  have q2 := H4.cell 0 rfl HQ2.out
                  have f2 := H4.frozen 0 rfl k
                  have H5 := H4.set 0 rfl k (.int .i64 (s + x))
                  rw [z2_set, iset_twice] at H5
                  clear H4 hHq
                  go_wp2
                  go_roundw
                  case rel => exact ⟨i + 1, by omega, by omega, by go_num, HN.out, by rw [HZ.out]; exact H5⟩
                  case measure => simp [intOf]; omega
            · have d0 : decide ((0 : Int) < (i : Int)) = false := decide_eq_false (by omega)
              have d16 : decide ((16 : Int) ≤ (i : Int)) = false := decide_eq_false (by omega)
              have hnew := HSC.out (by omega) (by omega) (fun h => absurd h h0)
              have HN := hide hnew; clear hnew
              clear hprev
              go_wp2
              go_quiet ((go_at_call 64; exact quiet_eq (in_yes _ _ _ _ h1.1 h1.2)))
              have hHq := hH.drewN nq
              clear m1 m2 f2 c1 hH hvi
              generalize wr.drewN nq = wq at *
              go_wp2
              refine region_tail (fun wx => Holds w wx _) 12 (by kernel_rfl) (by kernel_rfl) hHq.drew ?_
              simp only [List.take_succ_cons, List.take_zero, List.drop_succ_cons, List.drop_zero]
              iterate 12
                apply q_step
                · go_simp
                · intro wx hx
                  have q1 := hx.cell 1 rfl HM.out.1
                  have q2 := hx.cell 0 rfl HQ2.out
                  have q3 := RD.out wx hx.low
                  go_simp
                  try exact rfl
              refine wpQuiet_nil ?_
              intro w4 H4
              have q2 := H4.cell 0 rfl HQ2.out
              have f2 := H4.frozen 0 rfl k
              have H5 := H4.set 0 rfl k (.int .i64 (s + x))
              rw [z2_set, iset_twice] at H5
              clear H4 hHq
              go_wp2
              go_roundw
              case rel => exact ⟨i + 1, by omega, by omega, by go_num, HN.out, by rw [HZ.out]; exact H5⟩
              case measure => simp [intOf]; omega
          · have hbad := HBK.out fun h => by have := HAT.out h; omega
            obtain ⟨rfl, rfl⟩ := hbad
            clear hprev
            go_wp2
            go_quiet ((go_at_call 64; exact quiet_eq (in_no _ _ _ _ h1)))
            go_wp2
            go_ret2
            exact ⟨rfl, below_drewN hH.low _⟩
        · obtain rfl : i = l.length := by omega
          have hp := HP.out
          rw [List.take_length] at hp
          have hokl : okS l := ⟨hp, hi16⟩
          rw [HE.out.2] at hH
          have HOL := hide hokl; clear hokl hp HP hil hi
          go_wp2
          go_roundw
          case rel => exact ⟨k + 1, by omega, by go_num, fun j hj => by
            rcases Nat.lt_or_ge j k with c | c
            · exact HOK.out j c
            · obtain rfl : j = k := by omega
              rw [← HLL.out]; exact HOL.out, hH⟩
          case measure => simp [intOf]; omega
    · obtain rfl : k = 2 := by omega
      have oa : okS a := HOK.out 0 (by omega)
      have ob : okS b := HOK.out 1 (by omega)
      have m1 := hH.cell 0 rfl (show (z2 (sm2 a b 2))[0]? = some (.int .i64 (zs a)) from z2_get _ (by omega))
      have m2 := hH.cell 0 rfl (show (z2 (sm2 a b 2))[1]? = some (.int .i64 (zs b)) from z2_get _ (by omega))
      have la2 := okS_sum oa
      have lb2 := okS_sum ob
      have key : isTyp a ∧ isTyp b ∧ zs a = zs b ↔ zs a = zs b ∧ 1 ≤ zs a ∧ zs a ≤ 16 := ⟨fun h => ⟨h.2.2, h.1.sum⟩, fun h => ⟨okS_typ oa h.2.1 h.2.2, okS_typ ob (by omega) (by omega), h.1⟩⟩
      rw [key] at HR
      have hn := HN1.out ⟨oa, ob⟩
      have OA := hide (And.intro oa ob); clear oa ob key
      clear hlt hk HOK
      generalize zs a = s at *
      generalize zs b = t at *
      replace hn := hn.symm
      subst hn
      by_cases e1 : s = t
      · have d1 : (s == t) = true := by simp [e1]
        by_cases e2 : 1 ≤ s ∧ s ≤ 16
        · have hr := HR.out.1 ⟨e1, e2⟩
          subst hr
          clear HR
          have E1 := hide e1; clear e1
          go_wp2
          go_quiet ((go_at_call 64; exact quiet_eq (in_yes _ _ _ _ e2.1 e2.2)))
          go_wp2
          go_ret2
          exact ⟨rfl, below_drewN hH.low _⟩
        · have hr := HR.out.2 fun h => e2 h.2
          subst hr
          clear HR
          have E1 := hide e1; clear e1
          go_wp2
          go_quiet ((go_at_call 64; exact quiet_eq (in_no _ _ _ _ e2)))
          go_wp2
          go_ret2
          exact ⟨rfl, below_drewN hH.low _⟩
      · have d1 : (s == t) = false := by simp [e1]
        have hr := HR.out.2 fun h => e1 h.1
        subst hr
        clear HR
        go_wp2
        go_quiet (fail)
        go_wp2
        go_ret2
        exact ⟨rfl, below_drewN hH.low _⟩

set_option maxRecDepth 100000 in
set_option maxHeartbeats 1000000 in
theorem sCountRooted_any (u v : Value) (a b : List Int) (w : World) (hu : RdZ w u a) (hv : RdZ w v b) :
    Calls Try.prog 18 #[u, v] w fun e w' => e = .returned (crR a b) ∧ Below w.heap.size w w' := by
  have C1 := hide (l05Types_any u v a b w hu hv)
  have HU := hide hu
  have HV := hide hv
  obtain ⟨A, c, rfl, la⟩ := hu.form
  obtain ⟨A', c', rfl, lb⟩ := hv.form
  by_cases h : isTyp a ∧ isTyp b ∧ zs a = zs b
  · have hB := twoB_true h
    rw [hB, tyN_yes ⟨h.1.okS, h.2.1.okS⟩] at C1
    have ha16 := h.1.len
    have hb16 := h.2.1.len
    have hs := h.1.sum
    by_cases h2 : (a.length : Int) + b.length = zs a + 1
    · rw [crR_yes h h2]
      have d1 : ((a.length : Int) + b.length != zs a + 1) = false := neqF h2
      obtain ⟨m1, m2, m3, m4, m5, m6⟩ := cr_bd h.1 h.2.1 h2
      have C3 := hide fun (w' : World) (k : RdZ w' (.slice A a.length c) a) => l05Equal_any _ a h.1 w' k
      have C4 := hide fun (w' : World) (k : RdZ w' (.slice A' b.length c') b) => l05Equal_any _ b h.2.1 w' k
      have C5 := hide fun (w : World) => l05Factorial_any (a.length - 1) (by omega) w
      have C6 := hide fun (w : World) => l05Factorial_any (b.length - 1) (by omega) w
      rw [show ((a.length - 1 : Nat) : Int) = (a.length : Int) - 1 by omega] at C5
      rw [show ((b.length - 1 : Nat) : Int) = (b.length : Int) - 1 by omega] at C6
      have hcr : crN a b = (zs a * (fac (a.length - 1) : Nat) * (fac (b.length - 1) : Nat)).tdiv (eqT a a.length * eqT b b.length) := rfl
      have HCR := hide hcr; clear hcr
      clear hu hv hB h2 h
      generalize crN a b = RES at *
      generalize eqT a a.length = ea at *
      generalize eqT b b.length = eb at *
      generalize fac (a.length - 1) = fa at *
      generalize fac (b.length - 1) = fb at *
      generalize zs a = s at *
      have w1 := w64 (x := ea * eb) (by omega) (by omega)
      have w2 := w64 (x := s * (fa : Int)) (by omega) (by omega)
      have w3 := w64 (x := s * (fa : Int) * (fb : Int)) (by omega) (by omega)
      have hne : ¬ ea * eb = 0 := by omega
      have hq : 0 ≤ (s * (fa : Int) * (fb : Int)).tdiv (ea * eb) ∧ (s * (fa : Int) * (fb : Int)).tdiv (ea * eb) ≤ s * (fa : Int) * (fb : Int) := by
        rw [Int.tdiv_eq_ediv_of_nonneg m5]
        exact ⟨Int.ediv_nonneg m5 (by omega), Int.ediv_le_self _ m5⟩
      have w4 := w64 (x := (s * (fa : Int) * (fb : Int)).tdiv (ea * eb)) (by omega) (by omega)
      clear hq m1 m2 m3 m4 m5 m6
      go_enter Try.func18, Try.ntmps18
      go_wp2_with fail
      refine C1.out.mono ?_
      rintro e w1 ⟨rfl, b1⟩
      go_wp2_with fail
      refine (C5.out _).mono ?_
      rintro e w3 ⟨rfl, rfl⟩
      go_wp2_with fail
      refine (C6.out _).mono ?_
      rintro e w3 ⟨rfl, rfl⟩
      go_wp2_with fail
      refine (C3.out _ (HU.out.below b1 (Nat.le_refl _))).mono ?_
      rintro e w2 ⟨rfl, hd1⟩
      have b2 := b1.trans (hd1.low.mono b1.size)
      clear hd1 b1
      go_wp2_with fail
      refine (C4.out _ (HV.out.below b2 (Nat.le_refl _))).mono ?_
      rintro e w3 ⟨rfl, hd2⟩
      have b3 := b2.trans (hd2.low.mono b2.size)
      clear hd2 b2
      go_wp2
      go_ret2
      refine ⟨?_, b3⟩
      rw [w4, HCR.out]
      first | rfl | done
    · rw [crR_other h h2]
      have d1 : ((a.length : Int) + b.length != zs a + 1) = true := neqT h2
      clear hu hv hB h2 h
      generalize zs a = s at *
      go_enter Try.func18, Try.ntmps18
      go_wp2_with fail
      refine C1.out.mono ?_
      rintro e w1 ⟨rfl, b1⟩
      go_wp2
      go_ret2
      exact ⟨rfl, b1⟩
  · have hB := twoB_false h
    rw [hB] at C1
    rw [crR_no h]
    clear hu hv hB h
    generalize tyN a b = N at *
    go_enter Try.func18, Try.ntmps18
    go_wp2_with fail
    refine C1.out.mono ?_
    rintro e w1 ⟨rfl, b1⟩
    go_wp2
    go_ret2
    exact ⟨rfl, b1⟩

set_option maxRecDepth 100000 in
set_option maxHeartbeats 1000000 in
theorem fnExactCountRooted_walk (w : World) (v : Value) (l : List Int) (hv : RdZ w v l) (_hz : fits64 l) (v' : Value) (l' : List Int) (hv' : RdZ w v' l') (_hz' : fits64 l') :
    Calls Try.prog 4 #[v, v'] w fun e w' => e = .returned (.bool true) ∧ Below w.heap.size w w' := by
  clear _hz _hz'
  have c1 := fun (u : Value) (u' : Value) (wx : World) (h : RdZ wx u l) (h' : RdZ wx u' l') => countRooted_any u u' l l' wx h h'
  have c2 := fun (u : Value) (u' : Value) (wx : World) (h : RdZ wx u l) (h' : RdZ wx u' l') => sCountRooted_any u u' l l' wx h h'
  obtain ⟨a0, c0, hR⟩ := crR_eq l l'
  rw [hR] at c1 c2
  have hne : (a0 != a0) = false := by simp
  have hne2 : (c0 != c0) = false := by simp
  have C1 := hide c1; clear c1
  have C2 := hide c2; clear c2
  clear hR
  obtain ⟨A, cc, rfl, _⟩ := hv.form
  obtain ⟨A', cc', rfl, _⟩ := hv'.form
  have HV := hide hv; clear hv
  have HW := hide hv'; clear hv'
  by_cases hbig : (1048576 : Int) < l.length
  · have hd := decide_eq_true hbig
    clear hbig
    go_enter Try.func4, Try.ntmps4
    go_wp2
    go_ret
    exact ⟨rfl, Below.refl _ _⟩
  · have hd := decide_eq_false hbig
    have hl : l.length ≤ 1048576 := by omega
    clear hbig
    by_cases hbig : (1048576 : Int) < l'.length
    · have hd2 := decide_eq_true hbig
      clear hbig
      go_enter Try.func4, Try.ntmps4
      go_wp2
      go_ret
      exact ⟨rfl, Below.refl _ _⟩
    · have hd2 := decide_eq_false hbig
      have hl' : l'.length ≤ 1048576 := by omega
      clear hbig
      go_enter Try.func4, Try.ntmps4
      go_wp2_with fail
      refine (toInt64S_any l _ _ HV.out hl).mono ?_
      rintro e w1 ⟨u1, rfl, h1, hu1⟩
      have U1 := hide (hu1.rd (by omega)); clear hu1
      go_wp2_with fail
      refine (toInt64S_any l' _ _ (HW.out.below h1 (Nat.le_refl _)) hl').mono ?_
      rintro e w2 ⟨u2, rfl, h2, hu2⟩
      have U2 := hide (hu2.rd (by omega)); clear hu2
      have b2 := h1.trans (h2.mono h1.size)
      go_wp2_with fail
      refine (C2.out _ _ _ (U1.out.below h2 (Nat.le_refl _)) U2.out).mono ?_
      rintro e w3 ⟨rfl, h3⟩
      have b3 := b2.trans (h3.mono b2.size)
      clear h1 h2 h3 b2 U1 U2
      go_wp2_with fail
      refine (toInt64S_any l _ _ (HV.out.below b3 (Nat.le_refl _)) hl).mono ?_
      rintro e w4 ⟨u3, rfl, h4, hu3⟩
      have U3 := hide (hu3.rd (by omega)); clear hu3
      have b4 := b3.trans (h4.mono b3.size)
      clear h4 b3
      go_wp2_with fail
      refine (toInt64S_any l' _ _ (HW.out.below b4 (Nat.le_refl _)) hl').mono ?_
      rintro e w5 ⟨u4, rfl, h5, hu4⟩
      have U4 := hide (hu4.rd (by omega)); clear hu4
      have U35 := hide (U3.out.below h5 (Nat.le_refl _))
      have b5 := b4.trans (h5.mono b4.size)
      clear h5 b4 U3
      go_wp2_with fail
      refine (C1.out _ _ _ U35.out U4.out).mono ?_
      rintro e w6 ⟨rfl, h6⟩
      have U36 := hide (U35.out.below h6 (Nat.le_refl _))
      have U46 := hide (U4.out.below h6 (Nat.le_refl _))
      have b6 := b5.trans (h6.mono b5.size)
      clear h6 b5 U35 U4
      go_wp2_with fail
      refine (toInt64S_any l _ _ (HV.out.below b6 (Nat.le_refl _)) hl).mono ?_
      rintro e w7 ⟨u5, rfl, h7, hu5⟩
      have U5 := hide (hu5.rd (by omega)); clear hu5
      have U37 := hide (U36.out.below h7 (Nat.le_refl _))
      have U47 := hide (U46.out.below h7 (Nat.le_refl _))
      have b7 := b6.trans (h7.mono b6.size)
      clear h7 b6 U36 U46
      go_wp2_with fail
      refine (eqInt64S_rd l _ _ _ U37.out U5.out).mono ?_
      rintro e w8 ⟨rfl, h8⟩
      have U48 := hide (U47.out.below h8 (Nat.le_refl _))
      have b8 := b7.trans (h8.mono b7.size)
      clear h8 b7 U37 U5 U47
      go_wp2_with fail
      refine (toInt64S_any l' _ _ (HW.out.below b8 (Nat.le_refl _)) hl').mono ?_
      rintro e w9 ⟨u6, rfl, h9, hu6⟩
      have U6 := hide (hu6.rd (by omega)); clear hu6
      have U49 := hide (U48.out.below h9 (Nat.le_refl _))
      have b9 := b8.trans (h9.mono b8.size)
      clear h9 b8 U48
      go_wp2_with fail
      refine (eqInt64S_rd l' _ _ _ U49.out U6.out).mono ?_
      rintro e w10 ⟨rfl, h10⟩
      have b10 := b9.trans (h10.mono b9.size)
      clear h10 b9
      go_wp2
      go_ret
      exact ⟨rfl, b10⟩
end Go.Proofs.Ytdoehnckolhloaa
