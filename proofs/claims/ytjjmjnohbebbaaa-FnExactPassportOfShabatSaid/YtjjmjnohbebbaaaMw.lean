/- Multiplicities: the program's walk. -/
import Derived.Test.YtjjmjnohbebbaaaMlt
import Derived.Test.YtjjmjnohbebbaaaMd
namespace Go.Proofs.Ytjjmjnohbebbaaa
open Go.RowKit

theorem start_ok {f : List Nat} (pf : PL f) (h2 : 2 ≤ f.length) (lf : f.length ≤ 17) (v : Nat) : PL (addL f (trimN [v]) (-1)) ∧ addL f (trimN [v]) (-1) ≠ [] ∧ (addL f (trimN [v]) (-1)).length ≤ 17 ∧ 2 ≤ (addL f (trimN [v]) (-1)).length := by
  have a1 := addL_len f (trimN [v]) (-1)
  have a2 := trimN_le [v]
  rw [List.length_singleton] at a2
  have h3 : 2 ≤ (addL f (trimN [v]) (-1)).length := by
    rcases Nat.lt_or_ge (addL f (trimN [v]) (-1)).length f.length with c | c
    · exfalso
      have h4 := addL_nth f (trimN [v]) (-1) (f.length - 1)
      rw [nth_ge (by omega), nth_ge (l := trimN [v]) (by omega)] at h4
      have h5 := lz_last pf.2 (List.length_pos_iff.1 (by omega))
      have h6 := pf.1.nth (f.length - 1)
      unfold mdZ at h4
      omega
    · omega
  exact ⟨PL.add _ _ _, List.length_pos_iff.1 (by omega), by omega, h3⟩

set_option maxRecDepth 100000 in
set_option maxHeartbeats 2000000 in
theorem mult6_any (u : Value) (f : List Nat) (v : Nat) (hv : v < 10007) (pf : PL f) (h2 : 2 ≤ f.length) (lf : f.length ≤ 17) (T : Nat) (hT : isT (addL f (trimN [v]) (-1)) T) (w : World) (hu : RdN w u f) :
    Calls Try.prog 24 #[u, .int .i64 (v : Nat)] w fun e w' => ∃ r, e = .returned r ∧ Holds w w' [pInts r (mr (addL f (trimN [v]) (-1)) T)] := by
  obtain ⟨A, c, rfl, _⟩ := hu.form
  obtain ⟨s1, s2, s3, s4⟩ := start_ok pf h2 lf v
  have hcn := con_neg f hv
  have CN := hide (resNeg_any v hv)
  have CK := hide (constant6_any ((10007 - v) % 10007))
  have hcl : (trimN [(10007 - v) % 10007]).length ≤ 1 := trimN_le _
  have hcp : Po (trimN [(10007 - v) % 10007]) := trimN_po (one_po (Nat.mod_lt _ (by decide)))
  have CP := hide fun (w1 : World) (r : Value) (hb : Below w.heap.size w w1) (h : RdN w1 r (trimN [(10007 - v) % 10007])) => plus6_any (.slice A f.length c) r f _ pf.1 hcp (by omega) (by omega) w1 (hu.below hb (Nat.le_refl _)) h
  rw [hcn] at CP
  obtain ⟨s, hs⟩ : ∃ s, s = addL f (trimN [v]) (-1) := ⟨_, rfl⟩
  rw [← hs] at CP s1 s2 s3 s4 hT ⊢
  have HT := hide hT; clear hT hcn hs hcl hcp hu pf
  have OK := hide fun (t : Nat) (h : ∀ j, j < t → 2 ≤ (mS s j).length) => mS_ok s1 s2 s3 t h
  have MO := hide fun (t : Nat) (h : ∀ j, j < t → 2 ≤ (mS s j).length) (i d : Nat) (hd : i + d < t) => mC_mono s1 s2 s3 h (i := i) d hd
  clear s1 s2 s4
  have CD := hide degree6_any
  have CV := hide derivative6_any
  have CC := hide commonDivisor6_any
  go_enter Try.func24, Try.ntmps24
  go_wp2_with fail
  refine (CN.out _).mono ?_
  rintro e w1 ⟨rfl, rfl⟩
  go_wp2_with fail
  refine (CK.out _).mono ?_
  rintro e w1 ⟨r1, rfl, k1⟩
  go_wp2_with fail
  refine (CP.out w1 r1 k1.low (k1.poRd 0 rfl)).mono ?_
  rintro e w2 ⟨r2, rfl, k2⟩
  have h0 := ((k1.joinA k2).sub (show List.Sublist [pPo r2 s] _ from List.cons_sublist_cons.2 (List.nil_sublist _))).nilRow 2 1
  have H0 : Holds w w2 [pInts (.slice none 0 0) (mr s 0), pPo r2 (mS s 0)] := h0
  clear h0 k1 k2
  go_wp2
  go_loopw [5, 6] (fun a b wr => ∃ t : Nat, (∀ j, j < t → 2 ≤ (mS s j).length) ∧ Holds w wr [pInts b (mr s t), pPo a (mS s t)]) (fun a _ _ => lenV a)
  case atStart => exact ⟨0, fun j hj => by omega, H0⟩
  case round =>
    clear H0
    obtain ⟨t, hj, hH⟩ := hrel
    obtain ⟨⟨p1, p2⟩, p3, p4⟩ := OK.out t hj
    have HJ := hide hj; clear hj
    obtain ⟨R, rc, rfl, _⟩ := hH.poForm 1 rfl
    by_cases hlt : 2 ≤ (mS s t).length
    · have d0 : decide ((0 : Int) < ((mS s t).length : Int) - 1) = true := decide_eq_true (by omega)
      have hj2 : ∀ j, j < t + 1 → 2 ≤ (mS s j).length := fun j h => by
        rcases Nat.lt_or_ge j t with c | c
        · exact HJ.out j c
        · obtain rfl : j = t := by omega
          exact hlt
      obtain ⟨_, q3, q4⟩ := OK.out (t + 1) hj2
      have q5 : 0 < (mS s (t + 1)).length := List.length_pos_iff.2 q3
      have hc : mC s t = (mS s t).length - (mS s (t + 1)).length := rfl
      have hc0 : t ≠ 0 → mC s t ≤ mC s 0 := fun h => by have := MO.out (t + 1) hj2 0 t (by omega); rwa [Nat.zero_add] at this
      have hpd : PL (dervL (mS s t)) := ⟨dervL_po _, dervL_lz p1 p2 (by omega)⟩
      have hdl := dervL_length (mS s t)
      have hless := (com_less ⟨p1, p2⟩ hlt (by omega)).2.2
      have hless : (mS s (t + 1)).length < (mS s t).length := hless
      have hcs : comL (mS s t) (dervL (mS s t)) = mS s (t + 1) := rfl
      have c1 := hide fun (wx : World) (h : RdN wx (.slice R (mS s t).length rc) (mS s t)) => CV.out _ (mS s t) p1 (by omega) wx h
      have c2 := fun (wx : World) (r : Value) (h : RdN wx (.slice R (mS s t).length rc) (mS s t)) (k : RdN wx r (dervL (mS s t))) => CC.out _ r (mS s t) (dervL (mS s t)) p1 p2 hpd.1 hpd.2 (.inl p3) (by omega) (by omega) wx h k
      rw [hcs] at c2
      replace c2 := hide c2
      have HJ2 := hide hj2; clear hj2 hcs hpd hdl p1 p2 p3
      obtain ⟨cn, hcn⟩ : ∃ cn, cn = mC s t := ⟨_, rfl⟩
      rw [← hcn] at hc hc0
      have hcc : ((mS s t).length : Int) - 1 - (((mS s (t + 1)).length : Int) - 1) = (cn : Int) := by omega
      have hcb : cn ≤ 17 := by omega
      have HC0 := hide (And.intro hc0 hcn); clear hc hc0 hcn
      have hq17 : (mS s (t + 1)).length ≤ 17 := by omega
      have hl17 : (mS s t).length ≤ 17 := by omega
      go_wp2_with fail
      refine (CD.out R (mS s t).length rc (by omega) _).mono ?_
      rintro e w3 ⟨rfl, rfl⟩
      go_wp2_with fail
      refine (c1.out _ (hH.poRd 1 rfl)).mono ?_
      rintro e w3 ⟨r3, rfl, k3⟩
      have K3 := hH.joinA k3
      clear k3
      go_wp2_with fail
      refine (c2.out w3 r3 (K3.poRd 2 rfl) (K3.poRd 0 rfl)).mono ?_
      rintro e w4 ⟨r4, rfl, k4⟩
      have K4 := K3.joinA k4
      clear k4 K3
      obtain ⟨X, xc, rfl, _⟩ := K4.poForm 0 rfl
      have K5 : Holds w w4 [pInts u6 (ml s t 0), pPo (.slice X (mS s (t + 1)).length xc) (mS s (t + 1))] := by
        rw [← mr_start]
        exact (K4.sub (show List.Sublist [pPo (.slice X (mS s (t + 1)).length xc) (mS s (t + 1)), pInts u6 (mr s t)] _ from .cons_cons _ (.cons _ (.cons_cons _ (List.nil_sublist _))))).perm (List.Perm.swap _ _ _)
      clear K4 hH
      go_wp2_with fail
      refine (CD.out R (mS s t).length rc (by omega) _).mono ?_
      rintro e w5 ⟨rfl, rfl⟩
      go_wp2_with fail
      refine (CD.out X (mS s (t + 1)).length xc (by omega) _).mono ?_
      rintro e w5 ⟨rfl, rfl⟩
      go_wp2
      go_loopw [26, 6] (fun i' b wr => ∃ i : Nat, i ≤ cn ∧ i' = .int .i64 i ∧ Holds w wr [pInts b (ml s t i), pPo (.slice X (mS s (t + 1)).length xc) (mS s (t + 1))]) (fun i' _ _ => cn - (intOf i').toNat)
      case atStart => exact ⟨0, Nat.zero_le _, rfl, K5⟩
      case round =>
        clear K5
        obtain ⟨i, hi, rfl, hH⟩ := hrel
        by_cases hic : i < cn
        · by_cases ht : t = 0
          · have hal : (ml s t i).length = i := by rw [ml_length, if_pos ht]
            have hst : (ml s t i ++ [0]).set i 1 = ml s t (i + 1) := by rw [ht]; exact ml_first s i
            have e1 : ((i : Int) == (((ml s t i).length : Nat) : Int)) = true := by rw [hal]; simp
            have HTZ := hide ht; clear ht
            obtain ⟨al, hall⟩ : ∃ al, al = ml s t i := ⟨_, rfl⟩
            rw [← hall] at hal hst e1 hH
            have HAL := hide (And.intro hal hall)
            obtain ⟨B6, c6, rfl⟩ := hH.intsForm 0 rfl
            have h6 := hH.blk #[.int .i64 ((0 : Nat) : Int)] 2 wr.heap.size rfl
            have HST := hide hst; clear hst hall hal
            go_wp2_with (at_builtin; refine appI h6 1 rfl wr.heap.size [0] 2 (h6.at 0 rfl) (by have := HAL.out.1; simp; omega) rfl _ _ rfl rfl rfl ?_)
            intro v' w' h7
            have h8 : Holds w w' [pInts v' (al ++ [0]), pPo (.slice X (mS s (t + 1)).length xc) (mS s (t + 1))] := h7.tail
            clear h7 h6 hH
            have hll : i < (al ++ [0]).length := by have := HAL.out.1; simp; omega
            obtain ⟨g9, c9, rfl, _, hcell, hfr⟩ := h8.ints 0 rfl (k := i) hll
            have hval : (al ++ [0])[i] = 0 := by
              have := HAL.out.1
              rw [List.getElem_append_right (by omega)]
              simp
            rw [hval] at hcell
            have h9 : Holds w (w'.setCell ⟨g9, i, none⟩ (.int .i64 1)) [pInts (.slice (some ⟨g9, 0, none⟩) (al ++ [0]).length c9) (ml s t (i + 1)), pPo (.slice X (mS s (t + 1)).length xc) (mS s (t + 1))] := by
              rw [← HST.out]
              exact h8.putI 0 rfl i 1
            have H9 := hide h9; clear h9 h8 hval e1
            obtain ⟨nl, hnl⟩ : ∃ nl, nl = (al ++ [0]).length := ⟨_, rfl⟩
            rw [← hnl] at hll H9 ⊢
            have HNL := hide hnl; clear hnl
            go_wp2
            go_roundw
            case rel => exact ⟨i + 1, by omega, by go_num, H9.out⟩
            case measure => simp [intOf]; omega
          · have hal : (ml s t i).length = mC s 0 := by rw [ml_length, if_neg ht]
            have h0c := HC0.out.1 ht
            have hst := ml_next (s := s) ht (i := i) (by omega)
            have e1 : ((i : Int) == (((ml s t i).length : Nat) : Int)) = false := by rw [hal]; simp; omega
            have hb17 : nth (ml s t i) i ≤ 1000 := by
              rw [ml_nth (by rw [hal]; omega)]
              have := kc_le s t i
              split <;> omega
            obtain ⟨al, hall⟩ : ∃ al, al = ml s t i := ⟨_, rfl⟩
            rw [← hall] at hal hst e1 hH hb17
            have hll : i < al.length := by omega
            obtain ⟨g9, c9, rfl, _, hcell, hfr⟩ := hH.ints 0 rfl (k := i) hll
            rw [← nth_lt hll] at hcell
            have h9 := hH.putI 0 rfl i (nth al i + 1)
            rw [hst] at h9
            have H9 := hide h9; clear h9 hH hst hall hal h0c
            generalize nth al i = y at *
            go_wp2
            go_roundw
            case rel => exact ⟨i + 1, by omega, by go_num, H9.out⟩
            case measure => simp [intOf]; omega
        · obtain rfl : i = cn := by omega
          have he : ml s t i = mr s (t + 1) := by rw [HC0.out.2]; exact mr_end s t
          rw [he] at hH
          clear hi hic he
          go_wp2
          go_roundw
          case rel => exact ⟨t + 1, HJ2.out, hH⟩
          case measure => simp [lenV]; omega
    · have d0 : decide ((0 : Int) < ((mS s t).length : Int) - 1) = false := decide_eq_false (by omega)
      have hl17 : (mS s t).length ≤ 17 := by omega
      have ht : t = T := isT_one ⟨HJ.out, by omega⟩ HT.out
      have HTT := hide ht; clear ht
      go_wp2_with fail
      refine (CD.out R (mS s t).length rc (by omega) _).mono ?_
      rintro e w3 ⟨rfl, rfl⟩
      have h5 : Holds w wr [pInts u6 (mr s T)] := by rw [← HTT.out]; exact hH.sub (List.cons_sublist_cons.2 (List.nil_sublist _))
      have H5 := hide h5; clear h5 hH
      go_wp2
      go_ret
      exact ⟨_, rfl, H5.out⟩
end Go.Proofs.Ytjjmjnohbebbaaa
