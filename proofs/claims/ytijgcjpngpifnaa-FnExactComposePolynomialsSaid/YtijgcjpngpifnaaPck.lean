/- Is a list a polynomial? Program and model. -/
import Derived.Test.YtijgcjpngpifnaaP6
import Derived.Test.YtijgcjpngpifnaaMkZ
namespace Go.Proofs.Ytijgcjpngpifnaa
open Go.RowKit

def tn (l : List Int) : List Nat := l.map Int.toNat
def isPol (l : List Int) : Prop := l = (tn l).map Int.ofNat ∧ Po (tn l) ∧ (tn l).length ≤ 17 ∧ Lz (tn l)
noncomputable def polB (l : List Int) : Bool := @decide (isPol l) (Classical.propDecidable _)
theorem polB_yes {l : List Int} (h : isPol l) : polB l = true := @decide_eq_true _ (Classical.propDecidable _) h
theorem polB_no {l : List Int} (h : ¬ isPol l) : polB l = false := @decide_eq_false _ (Classical.propDecidable _) h
theorem tn_length (l : List Int) : (tn l).length = l.length := by simp [tn]
theorem tn_nth {l : List Int} {k : Nat} (h : k < l.length) : nth (tn l) k = l[k].toNat := by rw [nth_lt (by rw [tn_length]; exact h)]; simp [tn]
theorem isPol.at {l : List Int} (h : isPol l) {k : Nat} (hk : k < l.length) : 0 ≤ l[k] ∧ l[k] < 10007 := by
  obtain ⟨h1, h2, _⟩ := h
  have h3 := h2.nth k
  rw [tn_nth hk] at h3
  have h4 : l[k]? = ((tn l).map Int.ofNat)[k]? := by rw [← h1]
  rw [List.getElem?_eq_getElem hk, List.getElem?_map, List.getElem?_eq_getElem (by rw [tn_length]; exact hk), ← nth_lt (by rw [tn_length]; exact hk), tn_nth hk] at h4
  have h5 : l[k] = ((l[k].toNat : Nat) : Int) := Option.some.inj h4
  omega
theorem isPol.end {l : List Int} (h : isPol l) : l.length ≤ 17 ∧ ∀ h0 : 0 < l.length, l[l.length - 1] ≠ 0 := by
  obtain ⟨h1, h2, h3, h4⟩ := h
  rw [tn_length] at h3
  refine ⟨h3, fun h0 e => ?_⟩
  have h5 := lz_last h4 (fun e => by have := tn_length l; rw [e] at this; simp at this; omega)
  rw [tn_length, tn_nth (by omega), e] at h5
  exact h5 rfl
theorem isPol_of {l : List Int} (h : ∀ (k : Nat) (hk : k < l.length), 0 ≤ l[k] ∧ l[k] < 10007) (hl : l.length ≤ 17) (h0 : ∀ h0 : 0 < l.length, l[l.length - 1] ≠ 0) : isPol l := by
  refine ⟨?_, Po.of fun n hn => ?_, by rw [tn_length]; exact hl, ?_⟩
  · apply List.ext_getElem (by simp [tn])
    intro k h1 h2
    have := h k h1
    simp only [tn, List.map_map, List.getElem_map, Function.comp]
    exact (Int.toNat_of_nonneg this.1).symm
  · rw [tn_length] at hn
    rw [tn_nth hn]
    have := h n hn
    omega
  · rcases Nat.eq_zero_or_pos l.length with c | c
    · exact .inl (List.eq_nil_of_length_eq_zero (by rw [tn_length]; exact c))
    · refine .inr ?_
      rw [tn_length, tn_nth (by omega)]
      have := h (l.length - 1) (by omega)
      have := h0 c
      omega
theorem isPol.rd {l : List Int} (h : isPol l) {w : World} {v : Value} (hv : RdZ w v l) : RdN w v (tn l) := by
  have := h.1
  unfold RdN
  rwa [← this]

theorem isResidue_any (x : Int) (w : World) : Calls Try.prog 44 #[.int .i64 x] w fun e w' => e = .returned (.bool (decide (0 ≤ x ∧ x < 10007))) ∧ w = w' := by
  by_cases h1 : 0 ≤ x
  · have d1 := decide_eq_true h1
    by_cases h2 : x < 10007
    · have d2 := decide_eq_true h2
      rw [decide_eq_true (show 0 ≤ x ∧ x < 10007 from ⟨h1, h2⟩)]
      clear h1 h2
      go_enter Try.func44, Try.ntmps44
      go_wp2
      go_ret
      exact ⟨rfl, rfl⟩
    · have d2 := decide_eq_false h2
      rw [decide_eq_false (fun h => h2 h.2)]
      clear h1 h2
      go_enter Try.func44, Try.ntmps44
      go_wp2
      go_ret
      exact ⟨rfl, rfl⟩
  · have d1 := decide_eq_false h1
    rw [decide_eq_false (fun h => h1 h.1)]
    clear h1
    go_enter Try.func44, Try.ntmps44
    go_wp2
    go_ret
    exact ⟨rfl, rfl⟩
theorem isPower_any (x : Int) (w : World) : Calls Try.prog 61 #[.int .i64 x] w fun e w' => e = .returned (.bool (decide (1 ≤ x ∧ x ≤ 16))) ∧ w = w' := by
  by_cases h1 : 1 ≤ x
  · have d1 := decide_eq_true h1
    by_cases h2 : x ≤ 16
    · have d2 := decide_eq_true h2
      rw [decide_eq_true (show 1 ≤ x ∧ x ≤ 16 from ⟨h1, h2⟩)]
      clear h1 h2
      go_enter Try.func61, Try.ntmps61
      go_wp2
      go_ret
      exact ⟨rfl, rfl⟩
    · have d2 := decide_eq_false h2
      rw [decide_eq_false (fun h => h2 h.2)]
      clear h1 h2
      go_enter Try.func61, Try.ntmps61
      go_wp2
      go_ret
      exact ⟨rfl, rfl⟩
  · have d1 := decide_eq_false h1
    rw [decide_eq_false (fun h => h1 h.1)]
    clear h1
    go_enter Try.func61, Try.ntmps61
    go_wp2
    go_ret
    exact ⟨rfl, rfl⟩

set_option maxRecDepth 100000 in
set_option maxHeartbeats 1000000 in
theorem isPolynomial_any (v : Value) (l : List Int) (w : World) (hv : RdZ w v l) :
    Calls Try.prog 17 #[v] w fun e w' => e = .returned (.bool (polB l)) ∧ w = w' := by
  obtain ⟨A, c, rfl, hlen⟩ := hv.form
  have HV := hide hv; clear hv
  obtain ⟨r, hr⟩ : ∃ r, r = polB l := ⟨_, rfl⟩
  rw [← hr]
  have BAD := hide fun (h : ¬ isPol l) => hr.trans (polB_no h)
  have OK := hide fun (h : isPol l) => hr.trans (polB_yes h)
  have CR := hide isResidue_any
  clear hr
  go_enter Try.func17, Try.ntmps17
  go_wp2
  go_loopw [7] (fun t wr => ∃ i : Nat, i ≤ l.length ∧ t = .int .i64 i ∧ (∀ (k : Nat) (hk : k < l.length), k < i → 0 ≤ l[k] ∧ l[k] < 10007) ∧ w = wr) (fun t _ => l.length - (intOf t).toNat)
  case atStart => exact ⟨0, by omega, rfl, fun k hk h => by omega, rfl⟩
  case round =>
    obtain ⟨i, hi, rfl, hp, rfl⟩ := hrel
    have HP := hide hp; clear hp
    by_cases hlt : i < l.length
    · obtain ⟨a, rfl, _, c1⟩ := HV.out.at hlt
      have hbd := fun (h : isPol l) => h.at hlt
      have hst : (0 ≤ l[i] ∧ l[i] < 10007) → ∀ (k : Nat) (hk : k < l.length), k < i + 1 → 0 ≤ l[k] ∧ l[k] < 10007 := fun h k hk h2 => by
        rcases Nat.lt_or_ge k i with c | c
        · exact HP.out k hk c
        · obtain rfl : k = i := by omega
          exact h
      generalize l[i] = x at *
      have HBD := hide hbd; clear hbd
      have HST := hide hst; clear hst
      by_cases hx : 0 ≤ x ∧ x < 10007
      · have hc := CR.out x
        skip
        rw [decide_eq_true hx] at hc
        have hn := HST.out hx
        have HN := hide hn; clear hn hx
        have HC := hide hc; clear hc
        go_wp2_with fail
        refine (HC.out _).mono ?_
        rintro e w1 ⟨rfl, rfl⟩
        go_wp2
        go_roundw
        case rel => exact ⟨i + 1, by omega, by go_num, HN.out, by trivial⟩
        case measure => simp [intOf]; omega
      · have hc := CR.out x
        skip
        rw [decide_eq_false hx] at hc
        have hbad := BAD.out fun h => hx (HBD.out h)
        subst hbad
        have HC := hide hc; clear hc hx
        go_wp2_with fail
        refine (HC.out _).mono ?_
        rintro e w1 ⟨rfl, rfl⟩
        go_wp2
        go_ret
        exact ⟨rfl, rfl⟩
    · obtain rfl : i = l.length := by omega
      have hall : ∀ (k : Nat) (hk : k < l.length), 0 ≤ l[k] ∧ l[k] < 10007 := fun k hk => HP.out k hk hk
      have HA := hide hall; clear hall HP hlt hi
      by_cases h1 : l.length ≤ 17
      · have d1 : decide ((l.length : Int) ≤ 17) = true := decide_eq_true (by omega)
        by_cases h0 : l.length = 0
        · have hok := OK.out (isPol_of HA.out h1 (fun h => by omega))
          subst hok
          have e0 : ((l.length : Int) == 0) = true := by rw [h0]; rfl
          clear h1 h0
          go_wp2
          go_ret
          exact ⟨rfl, rfl⟩
        · obtain ⟨m, hm⟩ : ∃ m, l.length = m + 1 := ⟨l.length - 1, by omega⟩
          have hml : m < l.length := by omega
          obtain ⟨a, rfl, _, c1⟩ := HV.out.at hml
          have hmi : (l.length : Int) - 1 = (m : Int) := by omega
          have hne : ((l.length : Int) == 0) = false := by simp; intro e; apply h0; rw [e]; rfl
          have hy : l[m] ≠ 0 → isPol l := fun h => isPol_of HA.out h1 fun h2 => by simp only [hm, Nat.add_sub_cancel]; exact h
          have hn : l[m] = 0 → ¬ isPol l := fun h h2 => by have := h2.end.2 (by omega); simp only [hm, Nat.add_sub_cancel] at this; exact this h
          clear h0 h1
          replace hm := hide hm
          generalize l[m] = x at *
          by_cases hx : x = 0
          · have hbad := BAD.out (hn hx)
            subst hbad hx
            clear hn hy
            go_wp2
            go_ret
            exact ⟨rfl, rfl⟩
          · have hok := OK.out (hy hx)
            subst hok
            have d2 : (x != 0) = true := by simpa using hx
            clear hn hy hx
            go_wp2
            go_ret
            exact ⟨rfl, rfl⟩
      · have d1 : decide ((l.length : Int) ≤ 17) = false := decide_eq_false (by omega)
        have hbad := BAD.out fun h => h1 h.end.1
        subst hbad
        clear h1
        go_wp2
        go_ret
        exact ⟨rfl, rfl⟩

set_option maxRecDepth 100000 in
set_option maxHeartbeats 1000000 in
theorem s06Is_any (v : Value) (l : List Int) (w : World) (hv : RdZ w v l) :
    Calls Try.prog 43 #[v] w fun e w' => e = .returned (.bool (polB l)) ∧ w = w' := by
  obtain ⟨A, c, rfl, hlen⟩ := hv.form
  have HV := hide hv; clear hv
  obtain ⟨r, hr⟩ : ∃ r, r = polB l := ⟨_, rfl⟩
  rw [← hr]
  have BAD := hide fun (h : ¬ isPol l) => hr.trans (polB_no h)
  have OK := hide fun (h : isPol l) => hr.trans (polB_yes h)
  have CR := hide fun x w => in_any x 0 10006 w
  clear hr
  go_enter Try.func43, Try.ntmps43
  go_wp2
  go_loopw [3] (fun t wr => ∃ i : Nat, i ≤ l.length ∧ t = .int .i64 i ∧ (∀ (k : Nat) (hk : k < l.length), k < i → 0 ≤ l[k] ∧ l[k] < 10007) ∧ w = wr) (fun t _ => l.length - (intOf t).toNat)
  case atStart => exact ⟨0, by omega, rfl, fun k hk h => by omega, rfl⟩
  case round =>
    obtain ⟨i, hi, rfl, hp, rfl⟩ := hrel
    have HP := hide hp; clear hp
    by_cases hlt : i < l.length
    · obtain ⟨a, rfl, _, c1⟩ := HV.out.at hlt
      have hbd := fun (h : isPol l) => h.at hlt
      have hst : (0 ≤ l[i] ∧ l[i] < 10007) → ∀ (k : Nat) (hk : k < l.length), k < i + 1 → 0 ≤ l[k] ∧ l[k] < 10007 := fun h k hk h2 => by
        rcases Nat.lt_or_ge k i with c | c
        · exact HP.out k hk c
        · obtain rfl : k = i := by omega
          exact h
      generalize l[i] = x at *
      have HBD := hide hbd; clear hbd
      have HST := hide hst; clear hst
      by_cases hx : 0 ≤ x ∧ x < 10007
      · have hc := fun w => CR.out x w
        simp only [show (0 ≤ x ∧ x ≤ 10006) = (0 ≤ x ∧ x < 10007) from propext ⟨fun h => ⟨h.1, by omega⟩, fun h => ⟨h.1, by omega⟩⟩] at hc
        rw [decide_eq_true hx] at hc
        have hn := HST.out hx
        have HN := hide hn; clear hn hx
        have HC := hide hc; clear hc
        go_wp2_with fail
        refine (HC.out _).mono ?_
        rintro e w1 ⟨rfl, rfl⟩
        go_wp2
        go_roundw
        case rel => exact ⟨i + 1, by omega, by go_num, HN.out, by trivial⟩
        case measure => simp [intOf]; omega
      · have hc := fun w => CR.out x w
        simp only [show (0 ≤ x ∧ x ≤ 10006) = (0 ≤ x ∧ x < 10007) from propext ⟨fun h => ⟨h.1, by omega⟩, fun h => ⟨h.1, by omega⟩⟩] at hc
        rw [decide_eq_false hx] at hc
        have hbad := BAD.out fun h => hx (HBD.out h)
        subst hbad
        have HC := hide hc; clear hc hx
        go_wp2_with fail
        refine (HC.out _).mono ?_
        rintro e w1 ⟨rfl, rfl⟩
        go_wp2
        go_ret
        exact ⟨rfl, rfl⟩
    · obtain rfl : i = l.length := by omega
      have hall : ∀ (k : Nat) (hk : k < l.length), 0 ≤ l[k] ∧ l[k] < 10007 := fun k hk => HP.out k hk hk
      have HA := hide hall; clear hall HP hlt hi
      by_cases h1 : l.length ≤ 17
      · have d1 : decide ((l.length : Int) ≤ 17) = true := decide_eq_true (by omega)
        by_cases h0 : l.length = 0
        · have hok := OK.out (isPol_of HA.out h1 (fun h => by omega))
          subst hok
          have e0 : ((l.length : Int) == 0) = true := by rw [h0]; rfl
          clear h1 h0
          go_wp2
          go_ret
          exact ⟨rfl, rfl⟩
        · obtain ⟨m, hm⟩ : ∃ m, l.length = m + 1 := ⟨l.length - 1, by omega⟩
          have hml : m < l.length := by omega
          obtain ⟨a, rfl, _, c1⟩ := HV.out.at hml
          have hmi : (l.length : Int) - 1 = (m : Int) := by omega
          have hne : ((l.length : Int) == 0) = false := by simp; intro e; apply h0; rw [e]; rfl
          have hy : l[m] ≠ 0 → isPol l := fun h => isPol_of HA.out h1 fun h2 => by simp only [hm, Nat.add_sub_cancel]; exact h
          have hn : l[m] = 0 → ¬ isPol l := fun h h2 => by have := h2.end.2 (by omega); simp only [hm, Nat.add_sub_cancel] at this; exact this h
          clear h0 h1
          replace hm := hide hm
          generalize l[m] = x at *
          by_cases hx : x = 0
          · have hbad := BAD.out (hn hx)
            subst hbad hx
            clear hn hy
            go_wp2
            go_ret
            exact ⟨rfl, rfl⟩
          · have hok := OK.out (hy hx)
            subst hok
            have d2 : (x != 0) = true := by simpa using hx
            clear hn hy hx
            go_wp2
            go_ret
            exact ⟨rfl, rfl⟩
      · have d1 : decide ((l.length : Int) ≤ 17) = false := decide_eq_false (by omega)
        have hbad := BAD.out fun h => h1 h.end.1
        subst hbad
        clear h1
        go_wp2
        go_ret
        exact ⟨rfl, rfl⟩

theorem isPolynomial_low (u0 : Value) (l0 : List Int) (w : World) (h0 : RdZ w u0 l0) : Calls Try.prog 17 #[u0] w fun e w' => e = .returned (.bool (polB l0)) ∧ Below w.heap.size w w' :=
  (isPolynomial_any u0 l0 w h0).mono fun _ _ ⟨h1, h2⟩ => ⟨h1, by rw [← h2]; exact Below.refl _ _⟩
theorem sIsPolynomial_low (u0 : Value) (l0 : List Int) (w : World) (h0 : RdZ w u0 l0) : Calls Try.prog 15 #[u0] w fun e w' => e = .returned (.bool (polB l0)) ∧ Below w.heap.size w w' := by
  obtain ⟨A, c, rfl, hlen⟩ := h0.form
  have C := hide (s06Is_any _ l0 w h0)
  clear h0
  go_enter Try.func15, Try.ntmps15
  go_wp2_with fail
  refine C.out.mono ?_
  rintro e w1 ⟨rfl, rfl⟩
  go_wp2
  go_ret
  exact ⟨rfl, Below.refl _ _⟩
end Go.Proofs.Ytijgcjpngpifnaa
