/- A polynomial of a degree of at least 1, and values. -/
import Derived.Test.YtjjmjnohbebbaaaMs
import Derived.Test.YtjjmjnohbebbaaaBoth6
namespace Go.Proofs.Ytjjmjnohbebbaaa
open Go.RowKit

def resOk (vs : List Int) : Prop := ∀ x ∈ vs, 0 ≤ x ∧ x < 10007
noncomputable def vcode (l vs : List Int) : Int := @ite _ (isPol l) (Classical.propDecidable _) (@ite _ (resOk vs ∧ 2 ≤ l.length) (Classical.propDecidable _) 0 2) 1
theorem vc_pol {l vs : List Int} (h : ¬ isPol l) : vcode l vs = 1 := @if_neg _ (Classical.propDecidable _) h _ _ _
theorem vc_bad {l vs : List Int} (h : isPol l) (k : ¬ (resOk vs ∧ 2 ≤ l.length)) : vcode l vs = 2 := (@if_pos _ (Classical.propDecidable _) h _ _ _).trans (@if_neg _ (Classical.propDecidable _) k _ _ _)
theorem vc_ok {l vs : List Int} (h : isPol l) (k : resOk vs ∧ 2 ≤ l.length) : vcode l vs = 0 := (@if_pos _ (Classical.propDecidable _) h _ _ _).trans (@if_pos _ (Classical.propDecidable _) k _ _ _)
theorem vc_zero {l vs : List Int} (h : vcode l vs = 0) : isPol l ∧ resOk vs ∧ 2 ≤ l.length := by
  by_cases p : isPol l
  · by_cases k : resOk vs ∧ 2 ≤ l.length
    · exact ⟨p, k⟩
    · rw [vc_bad p k] at h; cases h
  · rw [vc_pol p] at h; cases h
theorem rdz_cells (w : World) (vs : List Int) (t : TypeId) (n : Nat) (hn : n = vs.length) (hl : n ≤ 1000) : RdZ (w.alloc (.cells (zc vs).toArray t)) (.slice (some ⟨w.heap.size, 0, none⟩) n n) vs := by
  subst hn
  refine ⟨some ⟨w.heap.size, 0, none⟩, vs.length, rfl, by omega, fun i x hx => ⟨_, rfl, by simp, ?_⟩⟩
  have hadd : (⟨w.heap.size, 0, none⟩ : Addr).add i = ⟨w.heap.size, i, none⟩ := by unfold Addr.add; split <;> simp_all
  rw [hadd, cell_of_cells, cellsOf_heap (heap_at _ _ _ rfl), List.getElem?_toArray, zc_get, hx]
  rfl
set_option maxRecDepth 100000 in
set_option maxHeartbeats 1000000 in
theorem valuesCode_any (u v : Value) (l vs : List Int) (w : World) (hu : RdZ w u l) (hv : RdZ w v vs) :
    Calls Try.prog 22 #[u, v] w fun e w' => e = .returned (.int .i64 (vcode l vs)) ∧ w = w' := by
  obtain ⟨A, c, rfl, _⟩ := hu.form
  obtain ⟨B, d, rfl, hlen⟩ := hv.form
  have CA := isPolynomial_any _ l w hu
  obtain ⟨r, hr⟩ : ∃ r, r = vcode l vs := ⟨_, rfl⟩
  rw [← hr]
  by_cases p : isPol l
  · rw [polB_yes p] at CA
    have HV := hide hv; clear hv hu
    have BAD := hide fun (h : ¬ (resOk vs ∧ 2 ≤ l.length)) => hr.trans (vc_bad p h)
    have OK := hide fun (h : resOk vs ∧ 2 ≤ l.length) => hr.trans (vc_ok p h)
    have hll := p.2.2.1
    rw [tn_length] at hll
    clear hr p
    have CA' := hide CA; clear CA
    have CR := hide isResidue_any
    go_enter Try.func22, Try.ntmps22
    go_wp2_with fail
    refine CA'.out.mono ?_
    rintro e w1 ⟨rfl, rfl⟩
    go_wp2
    go_loopw [12] (fun t wr => ∃ i : Nat, i ≤ vs.length ∧ t = .int .i64 i ∧ (∀ (k : Nat) (hk : k < vs.length), k < i → 0 ≤ vs[k] ∧ vs[k] < 10007) ∧ w = wr) (fun t _ => vs.length - (intOf t).toNat)
    case atStart => exact ⟨0, by omega, rfl, fun k hk h => by omega, rfl⟩
    case round =>
      obtain ⟨i, hi, rfl, hp, rfl⟩ := hrel
      have HP := hide hp; clear hp
      by_cases hlt : i < vs.length
      · obtain ⟨a, rfl, _, c1⟩ := HV.out.at hlt
        have hbd := fun (h : resOk vs) => h vs[i] (List.getElem_mem hlt)
        have hst : (0 ≤ vs[i] ∧ vs[i] < 10007) → ∀ (k : Nat) (hk : k < vs.length), k < i + 1 → 0 ≤ vs[k] ∧ vs[k] < 10007 := fun h k hk h2 => by
          rcases Nat.lt_or_ge k i with c | c
          · exact HP.out k hk c
          · obtain rfl : k = i := by omega
            exact h
        generalize vs[i] = x at *
        have HBD := hide hbd; clear hbd
        have HST := hide hst; clear hst
        have hc := fun w => CR.out x w
        skip
        by_cases hx : 0 ≤ x ∧ x < 10007
        · simp only [decide_eq_true hx] at hc
          have hn := HST.out hx
          have HN := hide hn; clear hn hx
          have HC := hide hc; clear hc
          go_wp2_with fail
          refine (HC.out _).mono ?_
          rintro e w1 ⟨rfl, rfl⟩
          go_wp2
          go_roundw
          case rel => exact ⟨i + 1, by omega, by go_num, HN.out, by trivial⟩
          case measure => simp [intOf]; omega
        · simp only [decide_eq_false hx] at hc
          have hbad := BAD.out fun h => hx (HBD.out h.1)
          subst hbad
          have HC := hide hc; clear hc hx
          go_wp2_with fail
          refine (HC.out _).mono ?_
          rintro e w1 ⟨rfl, rfl⟩
          go_wp2
          go_ret
          exact ⟨rfl, rfl⟩
      · obtain rfl : i = vs.length := by omega
        have hall : resOk vs := fun x hx => by
          obtain ⟨k, hk, rfl⟩ := List.getElem_of_mem hx
          exact HP.out k hk hk
        have HA := hide hall; clear hall HP hlt hi
        by_cases h2 : l.length < 2
        · have d2 : decide ((l.length : Int) < 2) = true := decide_eq_true (by omega)
          have hbad := BAD.out fun h => by omega
          subst hbad
          clear h2
          go_wp2
          go_ret
          exact ⟨rfl, rfl⟩
        · have d2 : decide ((l.length : Int) < 2) = false := decide_eq_false (by omega)
          have hok := OK.out ⟨HA.out, by omega⟩
          subst hok
          clear h2
          go_wp2
          go_ret
          exact ⟨rfl, rfl⟩
  · rw [polB_no p] at CA
    have hbad := hr.trans (vc_pol p)
    subst hbad
    clear hr p hu hv
    have CA' := hide CA; clear CA
    go_enter Try.func22, Try.ntmps22
    go_wp2_with fail
    refine CA'.out.mono ?_
    rintro e w1 ⟨rfl, rfl⟩
    go_wp2
    go_ret
    exact ⟨rfl, rfl⟩
set_option maxRecDepth 100000 in
set_option maxHeartbeats 1000000 in
theorem sCode6_any (u v : Value) (l vs : List Int) (w : World) (hu : RdZ w u l) (hv : RdZ w v vs) :
    Calls Try.prog 21 #[u, v] w fun e w' => e = .returned (.int .i64 (vcode l vs)) ∧ w = w' := by
  obtain ⟨A, c, rfl, _⟩ := hu.form
  obtain ⟨B, d, rfl, hlen⟩ := hv.form
  have CA := s06Is_any _ l w hu
  obtain ⟨r, hr⟩ : ∃ r, r = vcode l vs := ⟨_, rfl⟩
  rw [← hr]
  by_cases p : isPol l
  · rw [polB_yes p] at CA
    have HV := hide hv; clear hv hu
    have BAD := hide fun (h : ¬ (resOk vs ∧ 2 ≤ l.length)) => hr.trans (vc_bad p h)
    have OK := hide fun (h : resOk vs ∧ 2 ≤ l.length) => hr.trans (vc_ok p h)
    have hll := p.2.2.1
    rw [tn_length] at hll
    clear hr p
    have CA' := hide CA; clear CA
    have CR := hide fun x w => in_any x 0 10006 w
    go_enter Try.func21, Try.ntmps21
    go_wp2_with fail
    refine CA'.out.mono ?_
    rintro e w1 ⟨rfl, rfl⟩
    go_wp2
    go_loopw [5] (fun t wr => ∃ i : Nat, i ≤ vs.length ∧ t = .int .i64 i ∧ (∀ (k : Nat) (hk : k < vs.length), k < i → 0 ≤ vs[k] ∧ vs[k] < 10007) ∧ w = wr) (fun t _ => vs.length - (intOf t).toNat)
    case atStart => exact ⟨0, by omega, rfl, fun k hk h => by omega, rfl⟩
    case round =>
      obtain ⟨i, hi, rfl, hp, rfl⟩ := hrel
      have HP := hide hp; clear hp
      by_cases hlt : i < vs.length
      · obtain ⟨a, rfl, _, c1⟩ := HV.out.at hlt
        have hbd := fun (h : resOk vs) => h vs[i] (List.getElem_mem hlt)
        have hst : (0 ≤ vs[i] ∧ vs[i] < 10007) → ∀ (k : Nat) (hk : k < vs.length), k < i + 1 → 0 ≤ vs[k] ∧ vs[k] < 10007 := fun h k hk h2 => by
          rcases Nat.lt_or_ge k i with c | c
          · exact HP.out k hk c
          · obtain rfl : k = i := by omega
            exact h
        generalize vs[i] = x at *
        have HBD := hide hbd; clear hbd
        have HST := hide hst; clear hst
        have hc := fun w => CR.out x w
        simp only [show (0 ≤ x ∧ x ≤ 10006) = (0 ≤ x ∧ x < 10007) from propext ⟨fun h => ⟨h.1, by omega⟩, fun h => ⟨h.1, by omega⟩⟩] at hc
        by_cases hx : 0 ≤ x ∧ x < 10007
        · simp only [decide_eq_true hx] at hc
          have hn := HST.out hx
          have HN := hide hn; clear hn hx
          have HC := hide hc; clear hc
          go_wp2_with fail
          refine (HC.out _).mono ?_
          rintro e w1 ⟨rfl, rfl⟩
          go_wp2
          go_roundw
          case rel => exact ⟨i + 1, by omega, by go_num, HN.out, by trivial⟩
          case measure => simp [intOf]; omega
        · simp only [decide_eq_false hx] at hc
          have hbad := BAD.out fun h => hx (HBD.out h.1)
          subst hbad
          have HC := hide hc; clear hc hx
          go_wp2_with fail
          refine (HC.out _).mono ?_
          rintro e w1 ⟨rfl, rfl⟩
          go_wp2
          go_ret
          exact ⟨rfl, rfl⟩
      · obtain rfl : i = vs.length := by omega
        have hall : resOk vs := fun x hx => by
          obtain ⟨k, hk, rfl⟩ := List.getElem_of_mem hx
          exact HP.out k hk hk
        have HA := hide hall; clear hall HP hlt hi
        by_cases h2 : l.length < 2
        · have d2 : decide ((l.length : Int) < 2) = true := decide_eq_true (by omega)
          have hbad := BAD.out fun h => by omega
          subst hbad
          clear h2
          go_wp2
          go_ret
          exact ⟨rfl, rfl⟩
        · have d2 : decide ((l.length : Int) < 2) = false := decide_eq_false (by omega)
          have hok := OK.out ⟨HA.out, by omega⟩
          subst hok
          clear h2
          go_wp2
          go_ret
          exact ⟨rfl, rfl⟩
  · rw [polB_no p] at CA
    have hbad := hr.trans (vc_pol p)
    subst hbad
    clear hr p hu hv
    have CA' := hide CA; clear CA
    go_enter Try.func21, Try.ntmps21
    go_wp2_with fail
    refine CA'.out.mono ?_
    rintro e w1 ⟨rfl, rfl⟩
    go_wp2
    go_ret
    exact ⟨rfl, rfl⟩

noncomputable def TT (s : List Nat) : Nat := @dite _ (∃ t, isT s t) (Classical.propDecidable _) (fun h => Classical.choose h) fun _ => 0
theorem TT_ok {s : List Nat} (h : ∃ t, isT s t) : isT s (TT s) := by
  unfold TT
  rw [@dif_pos _ (Classical.propDecidable _) h]
  exact Classical.choose_spec h
/-- the multiplicities of x -/
noncomputable def res6 (l : List Int) (x : Int) : List Nat := mr (addL (tn l) (trimN [x.toNat]) (-1)) (TT (addL (tn l) (trimN [x.toNat]) (-1)))
theorem res6_ok {l : List Int} (h : isPol l) (h2 : 2 ≤ l.length) (x : Int) : isT (addL (tn l) (trimN [x.toNat]) (-1)) (TT (addL (tn l) (trimN [x.toNat]) (-1))) ∧ 0 < (res6 l x).length ∧ (res6 l x).length ≤ 17 ∧ nth (res6 l x) 0 ≤ 1000 := by
  obtain ⟨s1, s2, s3, s4⟩ := start_ok ⟨h.2.1, h.2.2.2⟩ (by rw [tn_length]; exact h2) h.2.2.1 x.toNat
  have hT := TT_ok (isT_ex _ _ (Nat.le_refl _) s1 (by omega))
  have hT0 : TT (addL (tn l) (trimN [x.toNat]) (-1)) ≠ 0 := fun e => by
    have h1 := hT.2
    rw [e] at h1
    have : (addL (tn l) (trimN [x.toNat]) (-1)).length ≤ 1 := h1
    omega
  have hTB := (mS_ok s1 s2 s3 _ hT.1).2.2
  have hp := mC_pos s1 s2 s3 (t := 0) (fun j hj => (show j = 0 by omega) ▸ s4)
  have hb : mC (addL (tn l) (trimN [x.toNat]) (-1)) 0 ≤ 17 := by
    have : mC (addL (tn l) (trimN [x.toNat]) (-1)) 0 ≤ (addL (tn l) (trimN [x.toNat]) (-1)).length := Nat.sub_le _ _
    omega
  have hlen : (res6 l x).length = mC (addL (tn l) (trimN [x.toNat]) (-1)) 0 := by
    unfold res6 mr
    rw [if_neg hT0, List.length_map, List.length_range]
  refine ⟨hT, by omega, by omega, ?_⟩
  unfold res6 mr
  rw [nth_map_range]
  have := kc_le (addL (tn l) (trimN [x.toNat]) (-1)) (TT (addL (tn l) (trimN [x.toNat]) (-1))) 0
  split
  · omega
  · omega
theorem multN_any (l : List Int) (x : Int) (h : isPol l) (h2 : 2 ≤ l.length) (hx : 0 ≤ x ∧ x < 10007) (u : Value) (w : World) (hu : RdN w u (tn l)) :
    Calls Try.prog 24 #[u, .int .i64 x] w fun e w' => ∃ r, e = .returned r ∧ Holds w w' [pInts r (res6 l x)] := by
  have e : x = ((x.toNat : Nat) : Int) := by omega
  have := mult6_any u (tn l) x.toNat (by omega) ⟨h.2.1, h.2.2.2⟩ (by rw [tn_length]; exact h2) h.2.2.1 _ (res6_ok h h2 x).1 w hu
  rw [← e] at this
  exact this
theorem sMultN_any (l : List Int) (x : Int) (h : isPol l) (h2 : 2 ≤ l.length) (hx : 0 ≤ x ∧ x < 10007) (u : Value) (w : World) (hu : RdN w u (tn l)) :
    Calls Try.prog 19 #[u, .int .i64 x] w fun e w' => ∃ r, e = .returned r ∧ Holds w w' [pInts r (res6 l x)] := by
  have e : x = ((x.toNat : Nat) : Int) := by omega
  have := sMult6_any u (tn l) x.toNat (by omega) ⟨h.2.1, h.2.2.2⟩ (by rw [tn_length]; exact h2) h.2.2.1 _ (res6_ok h h2 x).1 w hu
  rw [← e] at this
  exact this
end Go.Proofs.Ytjjmjnohbebbaaa
