/- The program's sums, products, remainders, divisors. -/
import Derived.Test.YtijgcjpngpifnaaPad
namespace Go.Proofs.Ytijgcjpngpifnaa
open Go.RowKit

theorem plus_low {f g : List Nat} (pf : Po f) (hl : g.length ≤ f.length) : rowL f 1 g 0 g.length = addR f g 1 :=
  rowL_addR (k := 1) pf (by decide) (by omega) hl fun n => by rw [if_pos (Nat.zero_le _), Nat.sub_zero]
set_option maxRecDepth 100000 in
set_option maxHeartbeats 1000000 in
theorem plus6_any (u v : Value) (f g : List Nat) (pf : Po f) (pg : Po g) (lf : f.length ≤ 1000) (lg : g.length ≤ 1000) (w : World) (hu : RdN w u f) (hv : RdN w v g) :
    Calls Try.prog 51 #[u, v] w fun e w' => ∃ r, e = .returned r ∧ Holds w w' [pPo r (addL f g 1)] := by
  obtain ⟨A, c, rfl, _⟩ := hu.form
  obtain ⟨B, d, rfl, _⟩ := hv.form
  by_cases hlt : f.length < g.length
  · have d0 : decide ((f.length : Int) < (g.length : Int)) = true := decide_eq_true (by omega)
    have C1 := hide (clone6_any _ g (by omega) w hv)
    have he : trimN (rowL g 1 f 0 f.length) = addL f g 1 := by rw [plus_low pg (by omega), addR_comm]; rfl
    have hn : (rowL g 1 f 0 f.length).length = g.length := rowL_length _ _ _ _ _
    have HU := hide hu; clear hu
    have CA := hide fun (r : Value) (w1 : World) (H : Holds w w1 [pPo r g]) => add6_any r g 1 (by decide) (.slice A f.length c) f 0 (by omega) pg pf w w1 _ H 0 rfl HU.out
    have HE := hide (And.intro he hn); clear he hn hv pf pg
    go_enter Try.func51, Try.ntmps51
    go_wp2_with fail
    refine C1.out.mono ?_
    rintro e w1 ⟨r, rfl, h1⟩
    obtain ⟨R, rc, rfl, hrc⟩ := h1.poForm 0 rfl
    go_wp2_with fail
    refine (CA.out _ w1 h1).mono ?_
    rintro e w2 ⟨rfl, h2⟩
    have h3 : Holds w w2 [pPo (.slice R g.length rc) (rowL g 1 f 0 f.length)] := h2
    have hcut := cut6_any R rc (rowL g 1 f 0 f.length) (by rw [HE.out.2]; exact hrc) (by rw [HE.out.2]; omega) w2 (by have := h3.poRd 0 rfl; rwa [HE.out.2])
    rw [HE.out.2] at hcut
    have HC := hide hcut; clear hcut
    have h4 := h3.poCut 0 rfl (show tl (rowL g 1 f 0 f.length) g.length ≤ (rowL g 1 f 0 f.length).length from by rw [HE.out.2]; exact tl_le _ _)
    have h5 : Holds w w2 [pPo (.slice R (tl (rowL g 1 f 0 f.length) g.length) (tl (rowL g 1 f 0 f.length) g.length)) (addL f g 1)] := by
      rw [← HE.out.1]
      unfold trimN
      rw [HE.out.2]
      exact h4
    have H5 := hide h5; clear h5 h4 h3 h2 h1
    go_wp2_with fail
    refine HC.out.mono ?_
    rintro e w3 ⟨rfl, rfl⟩
    go_wp2
    go_ret
    exact ⟨_, rfl, H5.out⟩
  · have d0 : decide ((f.length : Int) < (g.length : Int)) = false := decide_eq_false (by omega)
    have C1 := hide (clone6_any _ f (by omega) w hu)
    have he : trimN (rowL f 1 g 0 g.length) = addL f g 1 := by rw [plus_low pf (by omega)]; rfl
    have hn : (rowL f 1 g 0 g.length).length = f.length := rowL_length _ _ _ _ _
    have HU := hide hv; clear hv
    have CA := hide fun (r : Value) (w1 : World) (H : Holds w w1 [pPo r f]) => add6_any r f 1 (by decide) (.slice B g.length d) g 0 (by omega) pf pg w w1 _ H 0 rfl HU.out
    have HE := hide (And.intro he hn); clear he hn hu pf pg
    go_enter Try.func51, Try.ntmps51
    go_wp2_with fail
    refine C1.out.mono ?_
    rintro e w1 ⟨r, rfl, h1⟩
    obtain ⟨R, rc, rfl, hrc⟩ := h1.poForm 0 rfl
    go_wp2_with fail
    refine (CA.out _ w1 h1).mono ?_
    rintro e w2 ⟨rfl, h2⟩
    have h3 : Holds w w2 [pPo (.slice R f.length rc) (rowL f 1 g 0 g.length)] := h2
    have hcut := cut6_any R rc (rowL f 1 g 0 g.length) (by rw [HE.out.2]; exact hrc) (by rw [HE.out.2]; omega) w2 (by have := h3.poRd 0 rfl; rwa [HE.out.2])
    rw [HE.out.2] at hcut
    have HC := hide hcut; clear hcut
    have h4 := h3.poCut 0 rfl (show tl (rowL f 1 g 0 g.length) f.length ≤ (rowL f 1 g 0 g.length).length from by rw [HE.out.2]; exact tl_le _ _)
    have h5 : Holds w w2 [pPo (.slice R (tl (rowL f 1 g 0 g.length) f.length) (tl (rowL f 1 g 0 g.length) f.length)) (addL f g 1)] := by
      rw [← HE.out.1]
      unfold trimN
      rw [HE.out.2]
      exact h4
    have H5 := hide h5; clear h5 h4 h3 h2 h1
    go_wp2_with fail
    refine HC.out.mono ?_
    rintro e w3 ⟨rfl, rfl⟩
    go_wp2
    go_ret
    exact ⟨_, rfl, H5.out⟩

set_option maxRecDepth 100000 in
set_option maxHeartbeats 1000000 in
theorem times6_any (u v : Value) (f g : List Nat) (pf : Po f) (pg : Po g) (lf : f.length ≤ 1000) (lg : g.length ≤ 1000) (w : World) (hu : RdN w u f) (hv : RdN w v g) :
    Calls Try.prog 54 #[u, v] w fun e w' => ∃ r, e = .returned r ∧ Holds w w' [pPo r (timesL f g)] := by
  obtain ⟨A, c, rfl, _⟩ := hu.form
  obtain ⟨B, d, rfl, _⟩ := hv.form
  by_cases hf : f = []
  · have h1 := timesL_none (f := f) (g := g) (.inl hf)
    have h2 := (Holds.start w).poNil none 0
    rw [← h1] at h2
    have H2 := hide h2; clear h2 h1 hu hv pf pg
    have d0 : ((f.length : Int) == 0) = true := by rw [hf]; rfl
    clear hf
    go_enter Try.func54, Try.ntmps54
    go_wp2
    go_ret
    exact ⟨_, rfl, H2.out⟩
  · have lf0 := List.length_pos_iff.2 hf
    have d0 : ((f.length : Int) == 0) = false := by simp; exact hf
    by_cases hg : g = []
    · have h1 := timesL_none (f := f) (g := g) (.inr hg)
      have h2 := (Holds.start w).poNil none 0
      rw [← h1] at h2
      have H2 := hide h2; clear h2 h1 hu hv pf pg
      have d1 : ((g.length : Int) == 0) = true := by rw [hg]; rfl
      clear hg hf
      go_enter Try.func54, Try.ntmps54
      go_wp2
      go_ret
      exact ⟨_, rfl, H2.out⟩
    · have lg0 := List.length_pos_iff.2 hg
      have d1 : ((g.length : Int) == 0) = false := by simp; exact hg
      have hres := timesL_some hf hg
      have hml := mulT_length f g
      obtain ⟨m, hm⟩ : ∃ m, m = f.length + g.length - 1 := ⟨_, rfl⟩
      have hmi : (f.length : Int) + (g.length : Int) - 1 = (m : Int) := by omega
      have hmul : ∀ i, i ≤ f.length → Po (mulT f g i) := mulT_po f g hg
      rw [← hm] at hml
      have hm2 : m ≤ 2000 := by omega
      have HM := hide hm; clear hm
      have HML := hide hml; clear hml
      have HRES := hide hres; clear hres
      have HMUL := hide hmul; clear hmul
      have HU := hide hu; clear hu
      have HV := hide hv; clear hv
      have PF := hide pf; clear pf
      have PG := hide pg; clear pg hf hg
      have CA := hide fun (r : Value) (i : Nat) (hi : i < f.length) (w1 : World) (H : Holds w w1 [pPo r (mulT f g i)]) => add6_any r (mulT f g i) (nth f i) (PF.out.nth i) (.slice B g.length d) g i (by rw [HML.out]; have := HM.out; omega) (HMUL.out i (by omega)) PG.out w w1 _ H 0 rfl HV.out
      obtain ⟨i0, hi, hz0, hz1, hz2⟩ := info_parts infoRes
      have I0 := hide (And.intro hi (And.intro hz0 (And.intro hz1 hz2))); clear hi hz0 hz1 hz2
      go_enter Try.func54, Try.ntmps54
      go_wp2_with (refine makeH rfl 44 _ _ rfl 42 i0 (.int .i64 0) 8 Try.underlying44 I0.out.1 I0.out.2.1 I0.out.2.2.1 I0.out.2.2.2 rfl m .i64 .i64 rfl rfl (by omega) (by decide) (Holds.start w) ?_)
      intro w1 H1
      have H2 : Holds w w1 [pPo (.slice (some ⟨w.heap.size, 0, none⟩) m m) (mulT f g 0)] := by
        have e : mulT f g 0 = List.replicate m 0 := by rw [HM.out]; rfl
        rw [e]
        refine Holds.poRow (v := .slice (some ⟨w.heap.size, 0, none⟩) m m) (e := 42) (l := List.replicate m 0) (L := [pRow (.slice (some ⟨w.heap.size, 0, none⟩) m m) 42 1 (List.replicate m 0).length (nums (List.replicate m 0))]) ?_ 0 rfl (by simp; omega)
        rw [← nums_zero, List.length_replicate]
        exact H1
      clear H1
      generalize hG : w.heap.size = G at *
      have HG := hide hG; clear hG
      go_wp2
      go_loopw [25] (fun t wr => ∃ k : Nat, k ≤ f.length ∧ t = .int .i64 k ∧ Holds w wr [pPo (.slice (some ⟨G, 0, none⟩) m m) (mulT f g k)]) (fun t _ => f.length - (intOf t).toNat)
      case atStart => exact ⟨0, Nat.zero_le _, rfl, H2⟩
      case round =>
        clear H2
        obtain ⟨k, hk, rfl, hH⟩ := hrel
        by_cases hlt : k < f.length
        · obtain ⟨a, rfl, _, c1⟩ := (HU.out.below hH.low (Nat.le_refl _)).at hlt
          have hC := CA.out (.slice (some ⟨G, 0, none⟩) m m) k hlt
          have HC := hide hC; clear hC
          have hst : ∀ w', Holds w w' ([pPo (.slice (some ⟨G, 0, none⟩) m m) (mulT f g k)].set 0 (pPo (.slice (some ⟨G, 0, none⟩) m m) (rowL (mulT f g k) (nth f k) g k g.length))) → Holds w w' [pPo (.slice (some ⟨G, 0, none⟩) m m) (mulT f g (k + 1))] := fun _ h => h
          have HST := hide hst; clear hst
          generalize nth f k = x at *
          go_wp2_with fail
          refine (HC.out _ hH).mono ?_
          rintro e w3 ⟨rfl, h3⟩
          have h4 := HST.out _ h3
          have H4 := hide h4; clear h4 h3 hH
          go_wp2
          go_roundw
          case rel => exact ⟨k + 1, by omega, by go_num, H4.out⟩
          case measure => simp [intOf]; omega
        · obtain rfl : k = f.length := by omega
          have h5 : Holds w wr [pPo (.slice (some ⟨G, 0, none⟩) m m) (timesL f g)] := by rw [HRES.out]; exact hH
          have H5 := hide h5; clear h5 hH hlt hk
          go_wp2
          go_ret
          exact ⟨_, rfl, H5.out⟩

set_option maxRecDepth 100000 in
set_option maxHeartbeats 1000000 in
theorem scaled6_any (u : Value) (f : List Nat) (pf : Po f) (lf : f.length ≤ 1000) (b : Nat) (hb : b < 10007) (w : World) (hu : RdN w u f) :
    Calls Try.prog 64 #[u, .int .i64 (b : Nat)] w fun e w' => ∃ r, e = .returned r ∧ Holds w w' [pPo r (timesL f [b])] := by
  obtain ⟨A, c, rfl, _⟩ := hu.form
  have H1 := (Holds.start w).poNew #[.int .i64 (b : Nat)] 42 [b] (by simp) w.heap.size 1 rfl rfl (one_cells _)
  have C1 := hide (times6_any (.slice A f.length c) (.slice (some ⟨w.heap.size, 0, none⟩) 1 1) f [b] pf (one_po hb) lf (by simp) _ (hu.below H1.low (Nat.le_refl _)) (H1.poRd 0 rfl))
  have H2 := hide H1; clear H1 hu
  go_enter Try.func64, Try.ntmps64
  go_wp2_with fail
  refine C1.out.mono ?_
  rintro e w1 ⟨r, rfl, h1⟩
  have h2 := (H2.out.joinA h1).sub (List.cons_sublist_cons.2 (List.nil_sublist _))
  go_wp2
  go_ret
  exact ⟨_, rfl, h2⟩

set_option maxRecDepth 100000 in
set_option maxHeartbeats 1000000 in
theorem power6_any (u : Value) (f : List Nat) (pf : Po f) (n : Nat) (hn : n ≤ 16) (lf : f.length ≤ 2) (w : World) (hu : RdN w u f) :
    Calls Try.prog 62 #[u, .int .i64 (n : Nat)] w fun e w' => ∃ r, e = .returned r ∧ Holds w w' [pPo r (powL f n)] := by
  obtain ⟨A, c, rfl, _⟩ := hu.form
  have hpo : ∀ k, Po (powL f k) ∧ (powL f k).length ≤ k + 1 := fun k => by
    induction k with
    | zero => exact ⟨one_po (by decide), by simp [powL]⟩
    | succ k ih => exact ⟨timesL_po _ _, by unfold powL; have := timesL_len (powL f k) f; omega⟩
  have HPO := hide hpo; clear hpo
  have H1 := (Holds.start w).poNew #[.int .i64 ((1 : Nat) : Int)] 42 [1] (by simp) w.heap.size 1 rfl rfl (one_cells _)
  have HU := hide hu; clear hu
  go_enter Try.func62, Try.ntmps62
  go_wp2
  go_loopw [5, 8] (fun s t wr => ∃ k : Nat, k ≤ n ∧ t = .int .i64 k ∧ Below w.heap.size w wr ∧ Holds w wr [pPo s (powL f k)]) (fun _ t _ => n - (intOf t).toNat)
  case atStart => exact ⟨0, Nat.zero_le _, rfl, H1.low, H1⟩
  case round =>
    clear H1
    obtain ⟨k, hk, rfl, hb, hH⟩ := hrel
    by_cases hlt : k < n
    · have hC := times6_any _ (.slice A f.length c) (powL f k) f (HPO.out k).1 pf (by have := (HPO.out k).2; omega) (by omega) _ (hH.poRd 0 rfl) (HU.out.below hb (Nat.le_refl _))
      have HC := hide hC; clear hC
      go_wp2_with fail
      refine HC.out.mono ?_
      rintro e w3 ⟨r, rfl, h3⟩
      have h4 : Holds w w3 [pPo r (powL f (k + 1))] := (hH.joinA h3).sub (List.cons_sublist_cons.2 (List.nil_sublist _))
      have H4 := hide h4; clear h4 h3 hH
      go_wp2
      go_roundw
      case rel => exact ⟨k + 1, by omega, by go_num, H4.out.low, H4.out⟩
      case measure => simp [intOf]; omega
    · obtain rfl : k = n := by omega
      clear hlt hk
      go_wp2
      go_ret
      exact ⟨_, rfl, hH⟩
end Go.Proofs.Ytijgcjpngpifnaa
