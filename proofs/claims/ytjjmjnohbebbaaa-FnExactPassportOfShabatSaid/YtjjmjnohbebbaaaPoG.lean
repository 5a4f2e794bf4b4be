/- Divisors as sums of multiples; multiplicities fall: mathematics. -/
import Derived.Test.YtjjmjnohbebbaaaPoM
namespace Go.Proofs.Ytjjmjnohbebbaaa

theorem rem_spec {g : List Nat} (hg : PL g) (h0 : g ≠ []) : ∀ (n : Nat) (r : List Nat), r.length ≤ n → PL r → ∃ q, PL q ∧ sL (remL r g) = sA (sL r) (cv (sL q) (sL g))
  | n, r, hn, pr => by
    by_cases h : r.length < g.length
    · refine ⟨[], PL.nil, ?_⟩
      rw [remL_stop h, sL_nil, cv0]
      funext k
      simp only [sA, s0]; grind
    · have l0 := List.length_pos_iff.2 h0
      have hs := stepR_len hg.1 hg.2 h0 pr.1 (by omega)
      rw [← remL_step hg.1 hg.2 h0 pr.1 (by omega)]
      obtain ⟨n, rfl⟩ : ∃ k, n = k + 1 := ⟨n - 1, by omega⟩
      obtain ⟨q, hq, e⟩ := rem_spec hg h0 n (stepR g r) (by omega) ⟨stepR_po pr.1 (by omega), stepR_lz _ _⟩
      refine ⟨addL (trimN (List.replicate (r.length - g.length) 0 ++ [lastN r * shrN g % 10007])) q 1, PL.add _ _ _, ?_⟩
      rw [e, sL_add, cvDL, sL_con, cvS]
      have e2 : sL (stepR g r) = sA (sL r) (sC (nf (lastN r * shrN g % 10007)) (cv (sX (r.length - g.length)) (sL g))) := by
        unfold stepR
        rw [sL_trim, sL_row _ _ _ _ (by omega)]
      rw [e2]
      funext k
      simp only [sA]; grind
/-- divides both, and is a sum of multiples -/
def Bez (f g e : List Nat) : Prop := ∃ a b s t : List Nat, PL a ∧ PL b ∧ PL s ∧ PL t ∧ sL f = cv (sL a) (sL e) ∧ sL g = cv (sL b) (sL e) ∧ sL e = sA (cv (sL s) (sL f)) (cv (sL t) (sL g))
theorem gcd_spec : ∀ (n : Nat) (f g : List Nat), g.length ≤ n → PL f → PL g → Bez f g (gcdE f g)
  | n, f, g, hn, pf, pg => by
    by_cases h : g = []
    · subst h
      rw [gcdE_nil]
      refine ⟨[1], [], [1], [], PL.one, PL.nil, PL.one, PL.nil, ?_, ?_, ?_⟩
      · rw [sL_one, cvX0]
      · rw [sL_nil, cv0]
      · rw [sL_one, cvX0, sL_nil, cv0]
        funext k
        simp only [sA, s0]; grind
    · have l0 := List.length_pos_iff.2 h
      obtain ⟨h1, h2, h3⟩ := rem_all pg.1 pg.2 h _ f (Nat.le_refl _) pf.1 pf.2
      obtain ⟨q, hq, er⟩ := rem_spec pg h _ f (Nat.le_refl _) pf
      rw [← gcdE_step pf.1 pf.2 pg.1 pg.2 h]
      obtain ⟨n, rfl⟩ : ∃ k, n = k + 1 := ⟨n - 1, by omega⟩
      obtain ⟨a, b, s, t, pa, pb, ps, pt, e1, e2, e3⟩ := gcd_spec n g (remL f g) (by omega) pg ⟨h1, h2⟩
      generalize gcdE g (remL f g) = e at *
      refine ⟨addL b (timesL q a) (-1), a, t, addL s (timesL t q) 1, PL.add _ _ _, pa, pt, PL.add _ _ _, ?_, e1, ?_⟩
      · have e4 : sA (cv (sL (addL b (timesL q a) (-1))) (sL e)) (cv (cv (sL q) (sL a)) (sL e)) = cv (sL b) (sL e) := by
          rw [← cvDL]
          congr 1
          funext k
          have := sL_sub b (timesL q a) k
          rw [sL_times] at this
          simp only [sA]; grind
        rw [cvA, ← e1, ← e2, er] at e4
        funext k
        have := congrFun e4 k
        simp only [sA] at this
        grind
      · rw [sL_add, sL_times, cvDL, cvA]
        have e4 : sL e = sA (cv (sL s) (sL g)) (cv (sL t) (sA (sL f) (cv (sL q) (sL g)))) := by rw [← er]; exact e3
        rw [cvDR] at e4
        rw [e4]
        funext k
        simp only [sA]; grind
theorem sL_single (x : Nat) : sL [x] = sC (nf x) (sX 0) := by
  have := sL_con x 0
  rw [sL_trim] at this
  exact this
theorem com_spec {f g : List Nat} (pf : PL f) (pg : PL g) (h : f ≠ [] ∨ g ≠ []) : Bez f g (comL f g) := by
  obtain ⟨h1, h2, h3, _, _⟩ := gcd_all _ f g (Nat.le_refl _) pf.1 pf.2 pg.1 pg.2
  have hn := h3 h
  obtain ⟨a, b, s, t, pa, pb, ps, pt, e1, e2, e3⟩ := gcd_spec _ f g (Nat.le_refl _) pf pg
  have hl := lastN_lt h1
  have hl0 := lastN_pos h2 hn
  have hi := invN_mul (Nat.pos_of_ne_zero hl0) hl
  have hi2 := invN_lt (lastN (gcdE f g))
  have hi0 := invN_pos (Nat.pos_of_ne_zero hl0) hl
  unfold comL
  generalize gcdE f g = e at *
  generalize lastN e = l at *
  generalize invN l = v at *
  have p1 : PL [l] := ⟨one_po hl, .inr (by simpa [nth] using hl0)⟩
  have p2 : PL [v] := ⟨one_po hi2, .inr (by simpa [nth] using hi0)⟩
  have k1 : cv (sL [l]) (sL [v]) = sX 0 := by
    rw [sL_single, sL_single, cvS, cvX0]
    funext k
    simp only [sC]
    have : nf l * nf v = 1 := by rw [← nf_mul, ← nf_mod, hi, nf_one]
    grind
  have k2 : cv (sL [l]) (sL (timesL e [v])) = sL e := by
    rw [sL_times, cvC (sL e), ← cvA, k1, cvX0]
  refine ⟨timesL a [l], timesL b [l], timesL [v] s, timesL [v] t, pa.times p1, pb.times p1, p2.times ps, p2.times pt, ?_, ?_, ?_⟩
  · rw [sL_times, cvA, k2]; exact e1
  · rw [sL_times, cvA, k2]; exact e2
  · rw [sL_times e, sL_times, sL_times, cvA, cvA, ← cvDR, ← e3, cvC]
set_option maxHeartbeats 4000000 in
/-- roots are taken away no faster than before -/
theorem counts_fall {f : List Nat} (pf : PL f) (h0 : 2 ≤ f.length) (hl : f.length ≤ 10007) (h1 : 2 ≤ (comL f (dervL f)).length) :
    (comL f (dervL f)).length + (comL f (dervL f)).length ≤ f.length + (comL (comL f (dervL f)) (dervL (comL f (dervL f)))).length := by
  have hf : f ≠ [] := List.length_pos_iff.1 (by omega)
  have pD : PL (dervL f) := ⟨dervL_po _, dervL_lz pf.1 pf.2 hl⟩
  obtain ⟨c1, c2, c3, c4, _⟩ := com_all pf.1 pf.2 pD.1 pD.2 (.inl hf)
  have c5 := (gcd_all _ f (dervL f) (Nat.le_refl _) pf.1 pf.2 pD.1 pD.2).2.2.2.1
  have dl := dervL_length f
  obtain ⟨a, b, _, _, pa, pb, _, _, e1, e2, _⟩ := com_spec pf pD (.inl hf)
  generalize comL f (dervL f) = d1 at *
  have pd1 : PL d1 := ⟨c1, c2⟩
  have pD1 : PL (dervL d1) := ⟨dervL_po _, dervL_lz c1 c2 (by omega)⟩
  obtain ⟨g1, g2, g3, _, _⟩ := com_all pd1.1 pd1.2 pD1.1 pD1.2 (.inl c3)
  obtain ⟨c, e, s, t, pc, pe, ps, pt, e3, e4, e5⟩ := com_spec pd1 pD1 (.inl c3)
  generalize comL d1 (dervL d1) = d2 at *
  have pd2 : PL d2 := ⟨g1, g2⟩
  rw [sL_derv] at e2 e4 e5
  -- s c + t e = 1
  have hone : sA (cv (sL s) (sL c)) (cv (sL t) (sL e)) = sX 0 := by
    have hy : addL (addL (timesL s c) (timesL t e) 1) [1] (-1) = [] := by
      refine cancel (PL.add _ _ _) pd2 g3 ?_
      have q1 : sA (cv (sL (addL (addL (timesL s c) (timesL t e) 1) [1] (-1))) (sL d2)) (cv (sX 0) (sL d2)) = cv (sA (cv (sL s) (sL c)) (cv (sL t) (sL e))) (sL d2) := by
        rw [← cvDL]
        congr 1
        funext k
        have := sL_sub (addL (timesL s c) (timesL t e) 1) [1] k
        rw [sL_add, sL_times, sL_times, sL_one] at this
        simp only [sA] at this ⊢
        grind
      rw [cvDL, cvA, cvA, ← e3, ← e4, ← e5, cvX0] at q1
      funext k
      have := congrFun q1 k
      simp only [sA] at this
      simp only [s0]
      grind
    funext k
    have := sL_sub (addL (timesL s c) (timesL t e) 1) [1] k
    rw [hy, sL_add, sL_times, sL_times, sL_one, sL_nil] at this
    simp only [sA, s0] at this ⊢
    grind
  -- a e = (b - a') c
  have hw : cv (sL a) (sL e) = cv (sL (addL b (dervL a) (-1))) (sL c) := by
    have hy : addL (timesL a e) (timesL (addL b (dervL a) (-1)) c) (-1) = [] := by
      refine cancel (PL.add _ _ _) pd2 g3 ?_
      have q1 : sA (cv (sL (addL (timesL a e) (timesL (addL b (dervL a) (-1)) c) (-1))) (sL d2)) (cv (cv (sL (addL b (dervL a) (-1))) (sL c)) (sL d2)) = cv (cv (sL a) (sL e)) (sL d2) := by
        rw [← cvDL]
        congr 1
        funext k
        have := sL_sub (timesL a e) (timesL (addL b (dervL a) (-1)) c) k
        rw [sL_times, sL_times] at this
        simp only [sA] at this ⊢
        grind
      rw [cvA, cvA, ← e3, ← e4] at q1
      have q2 : sA (cv (sL (addL b (dervL a) (-1))) (sL d1)) (cv (sD (sL a)) (sL d1)) = cv (sL b) (sL d1) := by
        rw [← cvDL]
        congr 1
        funext k
        have := sL_sub b (dervL a) k
        rw [sL_derv] at this
        simp only [sA] at this ⊢
        grind
      have q3 : sD (sL f) = sA (cv (sD (sL a)) (sL d1)) (cv (sL a) (sD (sL d1))) := by rw [e1, sD_cv]
      funext k
      have r1 := congrFun q1 k
      have r2 := congrFun q2 k
      have r3 := congrFun q3 k
      have r4 := congrFun e2 k
      simp only [sA] at r1 r2 r3
      simp only [s0]
      grind
    funext k
    have := sL_sub (timesL a e) (timesL (addL b (dervL a) (-1)) c) k
    rw [hy, sL_times, sL_times, sL_nil] at this
    simp only [s0] at this
    grind
  -- c divides a
  have hz : sL a = cv (sL (addL (timesL a s) (timesL t (addL b (dervL a) (-1))) 1)) (sL c) := by
    rw [sL_add, sL_times, sL_times, cvDL, cvA, cvA, ← hw]
    have : cv (sL t) (cv (sL a) (sL e)) = cv (sL a) (cv (sL t) (sL e)) := by rw [← cvA, cvC (sL t), cvA]
    rw [this, ← cvDR, hone, cvC, cvX0]
  have ha0 : a ≠ [] := fun h => by
    rw [h, sL_nil, cv0] at e1
    exact hf (sL_inj pf.1 Po.nil pf.2 (.inl rfl) (by rw [e1, sL_nil]))
  have hz2 : a = timesL (addL (timesL a s) (timesL t (addL b (dervL a) (-1))) 1) c :=
    sL_inj pa.1 (timesL_po _ _) pa.2 (timesL_lz (PL.add _ _ _).1 pc.1 (PL.add _ _ _).2 pc.2) (by rw [sL_times]; exact hz)
  have hf2 : f = timesL a d1 := sL_inj pf.1 (timesL_po _ _) pf.2 (timesL_lz pa.1 c1 pa.2 c2) (by rw [sL_times]; exact e1)
  have hd2 : d1 = timesL c d2 := sL_inj c1 (timesL_po _ _) c2 (timesL_lz pc.1 g1 pc.2 g2) (by rw [sL_times]; exact e3)
  generalize addL (timesL a s) (timesL t (addL b (dervL a) (-1))) 1 = z at *
  have hzc : z ≠ [] ∧ c ≠ [] := by
    constructor <;> intro h
    · rw [timesL_none (.inl h)] at hz2; exact ha0 hz2
    · rw [timesL_none (.inr h)] at hz2; exact ha0 hz2
  have n1 := timesL_length hzc.1 hzc.2
  have n2 := timesL_length ha0 c3
  have n3 := timesL_length hzc.2 g3
  rw [← hz2] at n1
  rw [← hf2] at n2
  rw [← hd2] at n3
  have l1 := List.length_pos_iff.2 hzc.1
  have l2 := List.length_pos_iff.2 hzc.2
  have l3 := List.length_pos_iff.2 g3
  omega
end Go.Proofs.Ytjjmjnohbebbaaa
