/- impl.IsTable -/
import Derived.Test.YteeideminlcblaaTblA
namespace Go.Proofs.Yteeideminlcblaa
open Go.RowKit

theorem tblRows {T : List (List Int)} {w : World} {A : Option Addr} {n c : Nat} (hv : RdZ2 w (.slice A n c) T) (i : Nat) (hi : i < T.length) :
    ∃ a A' c', A = some a ∧ (∀ wx, Below w.heap.size w wx → wx.cell? (a.add i) = some (.slice A' T[i].length c')) ∧ ∀ k (hk : k < T[i].length), ∃ a', A' = some a' ∧ ∀ wx, Below w.heap.size w wx → wx.cell? (a'.add k) = some (.int .i64 T[i][k]) := by
  obtain ⟨a, A', c', rfl, h1, h2⟩ := hv.at hi
  have e : n = T.length := by
    obtain ⟨A2, c2, e, _⟩ := hv.form
    injection e
  subst e
  have h4 := rd2_lt hv hi
  refine ⟨a, A', c', rfl, fun wx hb => rd_cell hb h1 h4, fun k hk => ?_⟩
  obtain ⟨a', rfl, h5, h6⟩ := h2.at hk
  exact ⟨a', rfl, fun wx hb => rd_cell hb h6 h5⟩
theorem rowG_of {T : List (List Int)} {i k : Nat} (hi : i < T.length) (h2 : T[i].length = 2) (hk : k < T[i].length) : rowG T i k ↔ 0 ≤ T[i][k] ∧ T[i][k] < T.length ∧ ∀ j, j < i → tE T k j ≠ T[i][k] := by
  unfold rowG
  rw [getD_at hi, tE_at hi hk]
  exact ⟨fun h => h.2, fun h => ⟨h2, h⟩⟩
theorem not_okT_len {T : List (List Int)} {i : Nat} (hi : i < T.length) (h : T[i].length ≠ 2) : ¬ okT T := fun k => h (by have := (k.2.2 i hi 0 (by omega)).1; rwa [getD_at hi] at this)
theorem not_okT_at {T : List (List Int)} {i k : Nat} (hi : i < T.length) (hk : k < 2) (h : ¬ rowG T i k) : ¬ okT T := fun q => h (q.2.2 i hi k hk)
theorem met_hit {T : List (List Int)} {i k : Nat} {m : Nat → Bool} (hm : ∀ p, m p = true ↔ metP T i k p) (hk : k < 2) {v : Nat} (hv : v < 100) : m (k * 100 + v) = true ↔ ∃ j, j < i ∧ tE T k j = (v : Int) := by
  rw [hm, metP_iff hk hv]
  exact ⟨fun ⟨j, h1, h2⟩ => ⟨j, by omega, h2⟩, fun ⟨j, h1, h2⟩ => ⟨j, .inl h1, h2⟩⟩

set_option maxRecDepth 100000 in
set_option maxHeartbeats 2000000 in
theorem isTable_any (T : List (List Int)) (v : Value) (w : World) (hv : RdZ2 w v T) :
    Calls Try.prog 18 #[v] w fun e w' => e = .returned (.bool (tabB T)) ∧ Below w.heap.size w w' := by
  obtain ⟨A, c, rfl, _⟩ := hv.form
  have HV := hide hv; clear hv
  obtain ⟨R, hR⟩ : ∃ R, R = tabB T := ⟨_, rfl⟩
  rw [← hR]
  have HRN := hide (fun h : ¬ okT T => hR.trans (tabB_no h))
  have HRY := hide (fun h : okT T => hR.trans (tabB_yes h))
  clear hR
  by_cases h1 : T.length < 1
  · have d1 : decide ((T.length : Int) < 1) = true := decide_eq_true (by omega)
    have hr := HRN.out fun h => by have := h.1; omega
    subst hr
    clear h1
    go_enter Try.func18, Try.ntmps18
    go_wp2
    go_ret
    exact ⟨rfl, Below.refl _ _⟩
  have d1 : decide ((T.length : Int) < 1) = false := decide_eq_false (by omega)
  by_cases h2 : 100 < T.length
  · have d2 : decide ((100 : Int) < (T.length : Int)) = true := decide_eq_true (by omega)
    have hr := HRN.out fun h => by have := h.2.1; omega
    subst hr
    clear h1 h2
    go_enter Try.func18, Try.ntmps18
    go_wp2
    go_ret
    exact ⟨rfl, Below.refl _ _⟩
  have d2 : decide ((100 : Int) < (T.length : Int)) = false := decide_eq_false (by omega)
  have H1 := (Holds.start w).blk (ev fun _ => false) 67 w.heap.size rfl
  have ROW := hide (tblRows HV.out)
  have HB := hide (And.intro (show 1 ≤ T.length by omega) (show T.length ≤ 100 by omega)); clear h1 h2
  have NOL := hide (fun (i : Nat) (hi : i < T.length) (h : T[i].length ≠ 2) => HRN.out (not_okT_len hi h))
  have NOA := hide (fun (i k : Nat) (hi : i < T.length) (hk : k < 2) (h : ¬ rowG T i k) => HRN.out (not_okT_at hi hk h))
  go_enter Try.func18, Try.ntmps18
  go_wp2
  go_loopw [18] (fun t wr => ∃ i : Nat, i ≤ T.length ∧ t = .int .i64 i ∧ (∀ j, j < i → ∀ k, k < 2 → rowG T j k) ∧ ∃ m : Nat → Bool, (∀ p, m p = true ↔ metP T i 0 p) ∧ Holds w wr [pBlk w.heap.size (ev m) 67]) (fun t _ => T.length - (intOf t).toNat)
  case atStart => exact ⟨0, Nat.zero_le _, rfl, fun j hj => absurd hj (Nat.not_lt_zero j), _, metP_zero T, H1⟩
  case round =>
    clear H1
    obtain ⟨i, hi, rfl, hok, m, hm, hH⟩ := hrel
    have HOK := hide hok; clear hok
    have HM := hide hm; clear hm
    by_cases hlt : i < T.length
    · have hlt' : (i : Int) < (T.length : Int) := by omega
      obtain ⟨a, A', c', rfl, hc, hrow⟩ := ROW.out i hlt
      have c1 := hc wr hH.low
      have HROW := hide hrow; clear hrow hc
      by_cases h3 : T[i].length = 2
      · have hrg := fun (k : Nat) (hk : k < T[i].length) => rowG_of hlt h3 hk
        have NA := hide (fun (k : Nat) (hk : k < 2) (h : ¬ rowG T i k) => NOA.out i k hlt hk h)
        have TEQ := hide (fun (k : Nat) (hk : k < T[i].length) => tE_at hlt hk)
        have H3 := hide h3
        generalize hl : T[i] = l at *
        have HL := hide hl; clear hl
        have HRG := hide hrg; clear hrg
        rw [h3] at c1
        clear h3
        go_wp2
        clear c1
        go_loopw [27] (fun t wr => ∃ k : Nat, k ≤ 2 ∧ t = .int .i64 k ∧ (∀ k', k' < k → rowG T i k') ∧ ∃ m : Nat → Bool, (∀ p, m p = true ↔ metP T i k p) ∧ Holds w wr [pBlk w.heap.size (ev m) 67]) (fun t _ => 2 - (intOf t).toNat)
        case atStart => exact ⟨0, Nat.zero_le _, rfl, fun j hj => absurd hj (Nat.not_lt_zero j), m, HM.out, hH⟩
        case round =>
          clear hH
          clear HM
          clear m
          obtain ⟨k, hk, rfl, hok2, m, hm, hH⟩ := hrel
          have HK2 := hide hok2; clear hok2
          by_cases hk2 : k < 2
          · have hk2i : (k : Int) < 2 := by omega
            obtain ⟨a', rfl, hc2⟩ := HROW.out k (by rw [H3.out]; exact hk2)
            have c2 := hc2 wr hH.low
            clear hc2
            have hgk := HRG.out k (by rw [H3.out]; exact hk2)
            have hex : ∃ x, x = l[k]'(by rw [H3.out]; exact hk2) := ⟨_, rfl⟩
            obtain ⟨x, hx⟩ := hex
            rw [← hx] at c2 hgk
            have HX := hide hx; clear hx
            by_cases h4 : x < 0
            · have d4 : decide (x < 0) = true := decide_eq_true h4
              have hr := NA.out k hk2 fun h => by have := (hgk.1 h).1; omega
              subst hr
              clear hgk hm
              go_wp2
              go_ret
              exact ⟨rfl, hH.low⟩
            · have d4 : decide (x < 0) = false := decide_eq_false h4
              by_cases h5 : (T.length : Int) ≤ x
              · have d5 : decide ((T.length : Int) ≤ x) = true := decide_eq_true h5
                have hr := NA.out k hk2 fun h => by have := (hgk.1 h).2.1; omega
                subst hr
                clear hgk hm
                go_wp2
                go_ret
                exact ⟨rfl, hH.low⟩
              · have d5 : decide ((T.length : Int) ≤ x) = false := decide_eq_false h5
                obtain ⟨y, rfl⟩ : ∃ y : Nat, x = (y : Int) := ⟨x.toNat, by omega⟩
                have hy : y < 100 := by have := HB.out.2; omega
                have hyi : (y : Int) < 100 := by omega
                have hy0 : (0 : Int) ≤ (y : Int) := by omega
                have d6 : decide (T.length ≤ y) = false := decide_eq_false (by omega)
                have hit := met_hit hm hk2 hy
                have c3 := hH.cell 0 rfl (ev_get m (show k * 100 + y < 200 by omega))
                have f3 := hH.frozen 0 rfl (k * 100 + y)
                rcases hmy : m (k * 100 + y) with _ | _
                · rw [hmy] at c3
                  have hg : rowG T i k := hgk.2 ⟨by omega, by omega, fun j hj e => by
                    have := hit.2 ⟨j, hj, e⟩
                    rw [hmy] at this; cases this⟩
                  have hst := metP_step hk2 hy (show tE T k i = (y : Int) from (TEQ.out k (by rw [H3.out]; exact hk2)).trans HX.out.symm) hm
                  have HG2 := hide hg; clear hg
                  have HST := hide hst; clear hst hgk hm hit hmy h4 h5
                  have hH2 := hH.set 0 rfl (k * 100 + y) (.bool true)
                  rw [ev_set] at hH2
                  have HH2 := hide hH2; clear hH2 hH
                  go_wp2
                  go_roundw
                  case rel => exact ⟨k + 1, by omega, by go_num, fun k' hk' => by
                    rcases Nat.lt_or_ge k' k with q | q
                    · exact HK2.out k' q
                    · obtain rfl : k' = k := by omega
                      exact HG2.out, _, HST.out, HH2.out⟩
                  case measure => simp [intOf]; omega
                · rw [hmy] at c3
                  have hr := NA.out k hk2 fun h => by
                    obtain ⟨j, hj, e⟩ := hit.1 hmy
                    exact (hgk.1 h).2.2 j hj e
                  subst hr
                  clear hgk hm hit hmy
                  go_wp2
                  go_ret
                  exact ⟨rfl, hH.low⟩
          · obtain rfl : k = 2 := by omega
            have hrw := metP_row hm
            have HRW := hide hrw; clear hrw hm hk hk2
            go_wp2
            go_roundw
            case rel => exact ⟨i + 1, by omega, by go_num, fun j hj => by
              rcases Nat.lt_or_ge j i with q | q
              · exact HOK.out j q
              · obtain rfl : j = i := by omega
                exact HK2.out, m, HRW.out, hH⟩
            case measure => simp [intOf]; omega
      · have d3 : ((T[i].length : Int) != 2) = true := by
          have : (T[i].length : Int) ≠ 2 := by omega
          simp [this]
        have hr := NOL.out i hlt h3
        subst hr
        obtain ⟨n2, hn2⟩ : ∃ n2, n2 = T[i].length := ⟨_, rfl⟩
        rw [← hn2] at c1 d3
        clear h3 HROW hn2
        go_wp2
        go_ret
        exact ⟨rfl, hH.low⟩
    · obtain rfl : i = T.length := by omega
      have hT : okT T := ⟨HB.out.1, HB.out.2, HOK.out⟩
      have hr := HRY.out hT
      have CO := hide (cosets_any T hT (.slice A T.length c) wr (HV.out.below hH.low (Nat.le_refl _)))
      have HR := hide hr
      clear hr hT hlt hi
      go_wp2_with fail
      refine CO.out.mono ?_
      rintro e w2 ⟨u, rfl, h2⟩
      obtain ⟨A2, c2, rfl⟩ := h2.intsForm 0 rfl
      have hb := hH.call h2.low
      clear h2 hH
      go_wp2
      go_ret
      exact ⟨by first | rfl | (rw [HR.out]; rfl), hb.low⟩
end Go.Proofs.Yteeideminlcblaa
