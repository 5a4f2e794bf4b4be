/- spec.l08Table, spec.IsTable -/
import Derived.Test.YteeideminlcblaaTblB
import Derived.Test.YteeideminlcblaaTblI
import Derived.Test.YteeideminlcblaaSPoc
namespace Go.Proofs.Yteeideminlcblaa
open Go.RowKit

/-- what the model has met of column k ahead of row i -/
def metC (T : List (List Int)) (k i : Nat) (m : Nat → Bool) : Prop := ∀ v, m v = true ↔ ∃ j, j < i ∧ tE T k j = ((v : Nat) : Int)
theorem metC_zero (T : List (List Int)) (k : Nat) : metC T k 0 (fun _ => false) := fun v => ⟨fun h => (by cases h), fun ⟨j, h, _⟩ => (by omega)⟩
theorem metC_step {T : List (List Int)} {k i v : Nat} {m : Nat → Bool} (h : metC T k i m) (he : tE T k i = (v : Int)) : metC T k (i + 1) (mset m v) := by
  intro u
  unfold mset
  rw [Bool.or_eq_true, h u, beq_iff_eq]
  constructor
  · rintro (rfl | ⟨j, h1, h2⟩)
    · exact ⟨i, by omega, he⟩
    · exact ⟨j, by omega, h2⟩
  · rintro ⟨j, h1, h2⟩
    by_cases e : j = i
    · subst e; rw [he] at h2; exact .inl (by omega)
    · exact .inr ⟨j, by omega, h2⟩

set_option maxRecDepth 100000 in
set_option maxHeartbeats 2000000 in
theorem l08Table_any (T : List (List Int)) (v : Value) (w : World) (hv : RdZ2 w v T) :
    Calls Try.prog 43 #[v] w fun e w' => e = .returned (.bool (tabB T)) ∧ Below w.heap.size w w' := by
  obtain ⟨A, c, rfl, hl0⟩ := hv.form
  have HV := hide hv; clear hv
  obtain ⟨R, hR⟩ : ∃ R, R = tabB T := ⟨_, rfl⟩
  rw [← hR]
  have HRN := hide (fun h : ¬ okT T => hR.trans (tabB_no h))
  have HRY := hide (fun h : okT T => hR.trans (tabB_yes h))
  clear hR
  by_cases h1 : (1 : Int) ≤ (T.length : Int) ∧ (T.length : Int) ≤ 100
  · have H1 := Holds.start w
    have ROW := hide (tblRows HV.out)
    have HB := hide (And.intro (show 1 ≤ T.length by omega) (show T.length ≤ 100 by omega))
    have NOL := hide (fun (i : Nat) (hi : i < T.length) (h : T[i].length ≠ 2) => HRN.out (not_okT_len hi h))
    have NOA := hide (fun (i k : Nat) (hi : i < T.length) (hk : k < 2) (h : ¬ rowG T i k) => HRN.out (not_okT_at hi hk h))
    obtain ⟨ib, hib, hz0, hz1, hz2⟩ := infoBl
    have IB := hide (And.intro hib (And.intro hz0 (And.intro hz1 hz2))); clear hib hz0 hz1 hz2
    have C1 := hide h1; clear h1
    go_enter Try.func43, Try.ntmps43
    go_wp2_with fail
    refine (in_yes _ _ _ _ C1.out.1 C1.out.2).mono ?_
    rintro e w1 ⟨rfl, rfl⟩
    go_wp2
    go_loopw [4] (fun t wr => ∃ k : Nat, k ≤ 2 ∧ t = .int .i64 k ∧ (∀ k', k' < k → ∀ i, i < T.length → rowG T i k') ∧ Holds w wr []) (fun t _ => 2 - (intOf t).toNat)
    case atStart => exact ⟨0, by omega, rfl, fun j hj => absurd hj (Nat.not_lt_zero j), H1⟩
    case round =>
      clear H1
      obtain ⟨k, hk, rfl, hok, hH⟩ := hrel
      have HOK := hide hok; clear hok
      by_cases hk2 : k < 2
      · have hk2i : (k : Int) < 2 := by omega
        have hn0 : T.length ≤ 1000000 := by have := HB.out.2; omega
        go_wp2_with (refine makeH (P := Try.prog) rfl 112 _ _ rfl 4 ib (.bool false) 1 Try.underlying112 IB.out.1 IB.out.2.1 IB.out.2.2.1 IB.out.2.2.2 rfl T.length .i64 .i64 rfl rfl hn0 (by decide) hH ?_)
        intro w2 H2
        rw [← bls_false] at H2
        generalize wr.heap.size = G at *
        clear hH
        go_wp2
        go_loopw [6] (fun t wr => ∃ i : Nat, i ≤ T.length ∧ t = .int .i64 i ∧ (∀ j, j < i → rowG T j k) ∧ ∃ m : Nat → Bool, metC T k i m ∧ Holds w wr [pRow (.slice (some ⟨G, 0, none⟩) T.length T.length) 4 1 T.length (bls m T.length)]) (fun t _ => T.length - (intOf t).toNat)
        case atStart => exact ⟨0, Nat.zero_le _, rfl, fun j hj => absurd hj (Nat.not_lt_zero j), _, metC_zero T k, H2⟩
        case round =>
          clear H2
          obtain ⟨i, hi, rfl, hok2, m, hm, hH⟩ := hrel
          have HK2 := hide hok2; clear hok2
          have HM := hide hm; clear hm
          by_cases hlt : i < T.length
          · have hlt' : (i : Int) < (T.length : Int) := by omega
            obtain ⟨a, A', c', rfl, hc, hrow⟩ := ROW.out i hlt
            have c1 := hc wr hH.low
            clear hc
            by_cases h3 : T[i].length = 2
            · obtain ⟨a', rfl, hc2⟩ := hrow k (by omega)
              have c2 := hc2 wr hH.low
              clear hc2 hrow
              have hgk := rowG_of hlt h3 (show k < T[i].length by omega)
              have hte := tE_at hlt (show k < T[i].length by omega)
              obtain ⟨x, hx⟩ : ∃ x, x = T[i][k]'(by omega) := ⟨_, rfl⟩
              rw [← hx] at c2 hgk hte
              rw [h3] at c1
              clear hx h3
              have HTE := hide hte; clear hte
              by_cases h4 : (0 : Int) ≤ x ∧ x ≤ (T.length : Int) - 1
              · obtain ⟨y, rfl⟩ : ∃ y : Nat, x = (y : Int) := ⟨x.toNat, by omega⟩
                have hy : y < T.length := by omega
                have hyi : (y : Int) < (T.length : Int) := by omega
                have hit := HM.out y
                obtain ⟨c3, f3⟩ := hH.rowCell 0 rfl (bls_at m hy)
                have H4 := hide h4; clear h4
                rcases hmy : m y with _ | _
                · rw [hmy] at c3
                  have hg : rowG T i k := hgk.2 ⟨by omega, by omega, fun j hj e => by
                    have := hit.2 ⟨j, hj, e⟩
                    rw [hmy] at this; cases this⟩
                  have HST := hide (metC_step HM.out HTE.out)
                  have HG2 := hide hg; clear hg hgk hit hmy
                  have hH2 := hH.put 0 rfl y (.bool true)
                  rw [bls_set] at hH2
                  have HH2 := hide hH2; clear hH2 hH
                  go_wp2_with fail
                  refine (in_yes _ _ _ _ H4.out.1 H4.out.2).mono ?_
                  rintro e w3 ⟨rfl, rfl⟩
                  go_wp2
                  go_roundw
                  case rel => exact ⟨i + 1, by omega, by go_num, fun k' hk' => by
                    rcases Nat.lt_or_ge k' i with q | q
                    · exact HK2.out k' q
                    · obtain rfl : k' = i := by omega
                      exact HG2.out, _, HST.out, HH2.out⟩
                  case measure => simp [intOf]; omega
                · rw [hmy] at c3
                  have hr := NOA.out i k hlt hk2 fun h => by
                    obtain ⟨j, hj, e⟩ := hit.1 hmy
                    exact (hgk.1 h).2.2 j hj e
                  subst hr
                  clear hgk hit hmy
                  go_wp2_with fail
                  refine (in_yes _ _ _ _ H4.out.1 H4.out.2).mono ?_
                  rintro e w3 ⟨rfl, rfl⟩
                  go_wp2
                  go_ret
                  exact ⟨rfl, hH.low⟩
              · have hr := NOA.out i k hlt hk2 fun h => h4 ⟨(hgk.1 h).1, by have := (hgk.1 h).2.1; omega⟩
                subst hr
                have H4 := hide h4; clear h4 hgk
                go_wp2_with fail
                refine (in_no _ _ _ _ H4.out).mono ?_
                rintro e w3 ⟨rfl, rfl⟩
                go_wp2
                go_ret
                exact ⟨rfl, hH.low⟩
            · have d3 : ((T[i].length : Int) != 2) = true := by
                have : (T[i].length : Int) ≠ 2 := by omega
                simp [this]
              have hr := NOL.out i hlt h3
              subst hr
              obtain ⟨n2, hn2⟩ : ∃ n2, n2 = T[i].length := ⟨_, rfl⟩
              rw [← hn2] at c1 d3
              clear h3 hn2 hrow
              go_wp2
              go_ret
              exact ⟨rfl, hH.low⟩
          · obtain rfl : i = T.length := by omega
            clear hlt hi
            go_wp2
            go_roundw
            case rel => exact ⟨k + 1, by omega, by go_num, fun k' hk' => by
              rcases Nat.lt_or_ge k' k with q | q
              · exact HOK.out k' q
              · obtain rfl : k' = k := by omega
                exact HK2.out, hH.sub (.cons _ (.refl _))⟩
            case measure => simp [intOf]; omega
      · obtain rfl : k = 2 := by omega
        have hT : okT T := ⟨HB.out.1, HB.out.2, fun i hi k hk => HOK.out k hk i hi⟩
        have hr := HRY.out hT
        have CO := hide (sOrder_any T hT (.slice A T.length c) wr (HV.out.below hH.low (Nat.le_refl _)))
        have HR := hide hr
        clear hr hT hk2 hk
        go_wp2_with fail
        refine CO.out.mono ?_
        rintro e w2 ⟨u, rfl, h2⟩
        obtain ⟨A2, c2, rfl⟩ := h2.intsForm 0 rfl
        have hb := hH.call h2.low
        clear h2 hH
        go_wp2
        go_ret
        exact ⟨by first | rfl | (rw [HR.out]; rfl), hb.low⟩
  · have hr := HRN.out fun h => h1 ⟨by have := h.1; omega, by have := h.2.1; omega⟩
    subst hr
    have C1 := hide h1; clear h1
    go_enter Try.func43, Try.ntmps43
    go_wp2_with fail
    refine (in_no _ _ _ _ C1.out).mono ?_
    rintro e w1 ⟨rfl, rfl⟩
    go_wp2
    go_ret
    exact ⟨rfl, Below.refl _ _⟩
set_option maxRecDepth 100000 in
theorem sIsTable_any (T : List (List Int)) (v : Value) (w : World) (hv : RdZ2 w v T) :
    Calls Try.prog 16 #[v] w fun e w' => e = .returned (.bool (tabB T)) ∧ Below w.heap.size w w' := by
  have C := hide (l08Table_any T v w hv)
  clear hv
  generalize tabB T = R at *
  go_enter Try.func16, Try.ntmps16
  go_wp2_with fail
  refine C.out.mono ?_
  rintro e w1 ⟨rfl, h⟩
  go_wp2
  go_ret
  exact ⟨rfl, h⟩
end Go.Proofs.Yteeideminlcblaa
