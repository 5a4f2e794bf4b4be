/- Multiplicities: the model's walk. -/
import Derived.Test.YtjjmjnohbebbaaaMw
namespace Go.Proofs.Ytjjmjnohbebbaaa
open Go.RowKit

def cl6 (s : List Nat) (t : Nat) : List Nat := (List.range t).map (mC s)
theorem cl6_length (s : List Nat) (t : Nat) : (cl6 s t).length = t := by simp [cl6]
theorem cl6_succ (s : List Nat) (t : Nat) : cl6 s (t + 1) = cl6 s t ++ [mC s t] := by unfold cl6; rw [List.range_succ, List.map_append]; rfl
theorem cl6_at {s : List Nat} {t k : Nat} (h : k < (cl6 s t).length) : (cl6 s t)[k] = mC s k := by simp [cl6]

set_option maxRecDepth 100000 in
set_option maxHeartbeats 2000000 in
theorem sMult6_any (u : Value) (f : List Nat) (v : Nat) (hv : v < 10007) (pf : PL f) (h2 : 2 ≤ f.length) (lf : f.length ≤ 17) (T : Nat) (hT : isT (addL f (trimN [v]) (-1)) T) (w : World) (hu : RdN w u f) :
    Calls Try.prog 19 #[u, .int .i64 (v : Nat)] w fun e w' => ∃ r, e = .returned r ∧ Holds w w' [pInts r (mr (addL f (trimN [v]) (-1)) T)] := by
  obtain ⟨A, c, rfl, _⟩ := hu.form
  obtain ⟨s1, s2, s3, s4⟩ := start_ok pf h2 lf v
  have hb0 : Holds w (w.alloc (.cells #[.int .i64 (v : Nat)] 2)) [pInts (.slice (some ⟨w.heap.size, 0, none⟩) 1 1) [v]] := (Holds.start w).rowNew #[.int .i64 (v : Nat)] 2 1 1 w.heap.size rfl rfl (by decide)
  have CK := hide (strim6_any (some ⟨w.heap.size, 0, none⟩) 1 [v] (by simp) (by simp) _ (hb0.intsRd 0 rfl (by simp)))
  have hcl : (trimN [v]).length ≤ 1 := trimN_le _
  have hcp : Po (trimN [v]) := trimN_po (one_po hv)
  have CP := hide fun (w1 : World) (r : Value) (hb : Below w.heap.size w w1) (h : RdN w1 r (trimN [v])) => sAdd6_any (.slice A f.length c) r f _ (-1) (by decide) pf.1 hcp (by omega) (by omega) w1 (hu.below hb (Nat.le_refl _)) h
  obtain ⟨s, hs⟩ : ∃ s, s = addL f (trimN [v]) (-1) := ⟨_, rfl⟩
  rw [← hs] at CP s1 s2 s3 s4 hT ⊢
  have hT0 : T ≠ 0 := fun h => by have := hT.2; rw [h] at this; have : s.length ≤ 1 := this; omega
  have hTB := (mS_ok s1 s2 s3 T hT.1).2.2
  have HCL := hide hcl
  have HT := hide (And.intro hT hT0); clear hT hT0 hs hcl hcp hu pf
  have OK := hide fun (t : Nat) (h : ∀ j, j < t → 2 ≤ (mS s j).length) => mS_ok s1 s2 s3 t h
  have KV := hide fun (k m : Nat) (hk : k < T) (a : mCu s T (k + 1) ≤ m) (b : m < mC s k) => kc_val s1 s2 s3 HT.out.1.1 hk a b
  have FALL := hide fun (k : Nat) (hk : k < T) => (show mCu s T (k + 1) ≤ mC s k from by
    unfold mCu
    split
    · exact mC_fall s1 s2 s3 (t := k) fun j hj => HT.out.1.1 j (by omega)
    · exact Nat.zero_le _)
  have CB := hide fun (k : Nat) (hk : k < T) => (show mC s k ≤ 17 from by
    have := (mS_ok s1 s2 s3 k fun j hj => HT.out.1.1 j (by omega)).2.2
    unfold mC; omega)
  clear s1 s2 s4
  have CV := hide sSlope6_any
  have CC := hide sCommon6_any
  have HB0 := hide hb0; clear hb0
  have hTb : T ≤ 17 := by omega
  go_enter Try.func19, Try.ntmps19
  go_wp2_with fail
  refine CK.out.mono ?_
  rintro e w1 ⟨r1, rfl, k1⟩
  have K1 := HB0.out.joinA k1
  clear k1
  go_wp2_with fail
  refine (CP.out w1 r1 K1.low (K1.intsRd 0 rfl (by have := HCL.out; omega))).mono ?_
  rintro e w2 ⟨r2, rfl, k2⟩
  have h0 := ((K1.joinA k2).sub (show List.Sublist [pInts r2 s] _ from List.cons_sublist_cons.2 (List.nil_sublist _))).rowNew #[] 2 1 0 w2.heap.size rfl rfl (by decide)
  have H0 : Holds w (w2.alloc (.cells #[] 2)) [pInts (.slice (some ⟨w2.heap.size, 0, none⟩) 0 0) (cl6 s 0), pInts r2 (mS s 0)] := h0
  clear h0 K1 k2
  go_wp2
  go_loopw [5, 6] (fun a b wr => ∃ t : Nat, (∀ j, j < t → 2 ≤ (mS s j).length) ∧ Holds w wr [pInts b (cl6 s t), pInts a (mS s t)]) (fun a _ _ => lenV a)
  case atStart => exact ⟨0, fun j hj => by omega, H0⟩
  case round =>
    clear H0
    obtain ⟨t, hj, hH⟩ := hrel
    obtain ⟨⟨p1, p2⟩, p3, p4⟩ := OK.out t hj
    have HJ := hide hj; clear hj
    obtain ⟨R, rc, rfl⟩ := hH.intsForm 1 rfl
    by_cases hlt : 1 < (mS s t).length
    · have d0 : decide ((1 : Int) < ((mS s t).length : Int)) = true := decide_eq_true (by omega)
      have hj2 : ∀ j, j < t + 1 → 2 ≤ (mS s j).length := fun j h => by
        rcases Nat.lt_or_ge j t with c | c
        · exact HJ.out j c
        · obtain rfl : j = t := by omega
          exact hlt
      obtain ⟨_, q3, q4⟩ := OK.out (t + 1) hj2
      have hc : mC s t = (mS s t).length - (mS s (t + 1)).length := rfl
      have hpd : PL (dervL (mS s t)) := ⟨dervL_po _, dervL_lz p1 p2 (by omega)⟩
      have hdl := dervL_length (mS s t)
      have hless := (com_less ⟨p1, p2⟩ hlt (by omega)).2.2
      have hless : (mS s (t + 1)).length < (mS s t).length := hless
      have hcs : comL (mS s t) (dervL (mS s t)) = mS s (t + 1) := rfl
      have c1 := hide fun (wx : World) (h : RdN wx (.slice R (mS s t).length rc) (mS s t)) => CV.out _ (mS s t) p1 p2 (by omega) wx h
      have c2 := fun (wx : World) (r : Value) (h : RdN wx (.slice R (mS s t).length rc) (mS s t)) (k : RdN wx r (dervL (mS s t))) => CC.out _ r (mS s t) (dervL (mS s t)) p1 p2 hpd.1 hpd.2 (.inl p3) (by omega) (by omega) wx h k
      rw [hcs] at c2
      replace c2 := hide c2
      have hq17 : (mS s (t + 1)).length ≤ 17 := by omega
      have hl17 : (mS s t).length ≤ 17 := by omega
      have hct : (cl6 s t).length ≤ 17 := by rw [cl6_length]; omega
      have HJ2 := hide hj2; clear hj2 hcs hpd p1 p2 p3
      obtain ⟨cn, hcn⟩ : ∃ cn, cn = mC s t := ⟨_, rfl⟩
      have hst := cl6_succ s t
      rw [← hcn] at hc hst
      have hcc : ((mS s t).length : Int) - ((mS s (t + 1)).length : Int) = (cn : Int) := by omega
      have HDL := hide (And.intro hdl (And.intro hcn hst)); clear hdl hcn hst hc
      go_wp2_with fail
      refine (c1.out _ (hH.intsRd 1 rfl (by omega))).mono ?_
      rintro e w3 ⟨r3, rfl, k3⟩
      have K3 := hH.joinA k3
      clear k3
      go_wp2_with fail
      refine (c2.out w3 r3 (K3.intsRd 2 rfl (by omega)) (K3.intsRd 0 rfl (by have := HDL.out.1; omega))).mono ?_
      rintro e w4 ⟨r4, rfl, k4⟩
      have K4 := K3.joinA k4
      clear k4 K3
      obtain ⟨X, xc, rfl⟩ := K4.intsForm 0 rfl
      have K5 : Holds w w4 [pInts u6 (cl6 s t), pInts (.slice X (mS s (t + 1)).length xc) (mS s (t + 1))] :=
        (K4.sub (show List.Sublist [pInts (.slice X (mS s (t + 1)).length xc) (mS s (t + 1)), pInts u6 (cl6 s t)] _ from .cons_cons _ (.cons _ (.cons_cons _ (List.nil_sublist _))))).perm (List.Perm.swap _ _ _)
      clear K4 hH
      have K6 := K5.blk #[.int .i64 (cn : Nat)] 2 w4.heap.size rfl
      go_wp2_with (at_builtin; refine appI K6 1 rfl w4.heap.size [cn] 2 (K6.at 0 rfl) (by simp only [List.length_singleton]; omega) rfl _ _ rfl rfl rfl ?_)
      intro v' w' h7
      have h8 : Holds w w' [pInts v' (cl6 s (t + 1)), pInts (.slice X (mS s (t + 1)).length xc) (mS s (t + 1))] := by
        rw [HDL.out.2.2]
        exact h7.tail
      have H8 := hide h8; clear h8 h7 K6 K5
      go_wp2
      go_roundw
      case rel => exact ⟨t + 1, HJ2.out, H8.out⟩
      case measure => simp [lenV]; omega
    · have d0 : decide ((1 : Int) < ((mS s t).length : Int)) = false := decide_eq_false (by omega)
      have hl17 : (mS s t).length ≤ 17 := by omega
      have ht : t = T := isT_one ⟨HJ.out, by omega⟩ HT.out.1
      have h5 : Holds w wr [pInts u6 (cl6 s T)] := by rw [← ht]; exact hH.sub (List.cons_sublist_cons.2 (List.nil_sublist _))
      clear hH ht p1 p2 p3
      obtain ⟨Cg, cc, rfl⟩ := h5.intsForm 0 rfl
      have h6 : Holds w (wr.alloc (.cells #[] 2)) [pInts (.slice (some ⟨wr.heap.size, 0, none⟩) 0 0) (mo s T (mCu s T T)), pInts (.slice Cg (cl6 s T).length cc) (cl6 s T)] := by
        have e : mCu s T T = 0 := if_neg (Nat.lt_irrefl T)
        rw [e]
        exact h5.rowNew #[] 2 1 0 wr.heap.size rfl rfl (by decide)
      clear h5
      rw [cl6_length] at h6
      have hlc := cl6_length s T
      have HLC := hide hlc
      rw [hlc]
      clear hlc
      go_wp2
      go_loopw [8, 9] (fun o k wr => ∃ q : Nat, q ≤ T ∧ k = .int .i64 q ∧ Holds w wr [pInts o (mo s T (mCu s T q)), pInts (.slice Cg T cc) (cl6 s T)]) (fun _ k _ => (intOf k).toNat)
      case atStart => exact ⟨T, Nat.le_refl _, rfl, h6⟩
      case round =>
        clear h6
        obtain ⟨q1, hq, rfl, hH⟩ := hrel
        cases q1 with
        | zero =>
          have dz : decide ((0 : Int) < ((0 : Nat) : Int)) = false := rfl
          have he : mo s T (mCu s T 0) = mr s T := by
            have e : mCu s T 0 = mC s 0 := if_pos (Nat.pos_of_ne_zero HT.out.2)
            rw [e, mo_end HT.out.2]
          rw [he] at hH
          have H9 := hide (hH.sub (List.cons_sublist_cons.2 (List.nil_sublist _))); clear hH he
          go_wp2
          go_ret
          exact ⟨_, rfl, H9.out⟩
        | succ q =>
          have dz : decide ((0 : Int) < ((q + 1 : Nat) : Int)) = true := decide_eq_true (by omega)
          obtain ⟨k, hk⟩ : ∃ k, k = q + 1 := ⟨_, rfl⟩
          have hki : ((k : Nat) : Int) - 1 = (q : Int) := by omega
          have hqT : q < T := by omega
          have hkb : k ≤ 17 := by omega
          obtain ⟨b, c9, hb, _, c2, _⟩ := hH.ints 1 rfl (k := q) (by rw [HLC.out]; exact hqT)
          rw [cl6_at] at c2
          have hfall := FALL.out q hqT
          have hcb := CB.out q hqT
          have hkv := fun m a c => KV.out q m hqT a c
          have hsame : mCu s T q = mC s q := if_pos hqT
          injection hb with hb hb2 hb3
          clear hb2 hb3
          subst hb
          have hmore : k < T → ∃ _ : k < T, wr.cell? ⟨b, k, none⟩ = some (.int .i64 (mCu s T k : Nat)) := fun h => by
            obtain ⟨b', c9, hb, _, c3, _⟩ := hH.ints 1 rfl (k := k) (by rw [HLC.out]; exact h)
            injection hb with hb _ _
            injection hb with hb
            injection hb with hb _ _
            subst hb
            rw [cl6_at] at c3
            have e : mCu s T k = mC s k := if_pos h
            rw [e]
            exact ⟨h, c3⟩
          have hmz : ¬ k < T → mCu s T k = 0 := fun h => if_neg h
          rw [← hk] at dz hH hfall hkv ⊢
          have hk0 : 0 < k := by omega
          have HK := hide hk; clear hk
          have HKV := hide hkv; clear hkv
          have HSM := hide hsame; clear hsame
          obtain ⟨mu, hmu⟩ : ∃ mu, mu = mCu s T k := ⟨_, rfl⟩
          rw [← hmu] at hH hfall HKV
          have HMU := hide hmu
          obtain ⟨mc, hmc⟩ : ∃ mc, mc = mC s q := ⟨_, rfl⟩
          rw [← hmc] at hfall hcb c2 HKV
          have HMC := hide hmc; clear hmc
          have hdiff : (mc : Int) - (mu : Int) = ((mc - mu : Nat) : Int) := by omega
          have inner : ∀ (P : Prop), (∀ (more : Prop), P) → P := fun P h => h True
          clear inner
          by_cases hkT : k < T
          · have dk : decide ((k : Int) < (T : Int)) = true := decide_eq_true (by omega)
            obtain ⟨_, c3⟩ := hmore hkT
            rw [← hmu] at c3
            clear hmore hmz hmu
            go_wp2
            go_loopw [8, 11] (fun o x wr => ∃ m : Nat, mu ≤ m ∧ m ≤ mc ∧ x = .int .i64 ((mc - m : Nat) : Int) ∧ Holds w wr [pInts o (mo s T m), pInts (.slice (some ⟨b, 0, none⟩) T cc) (cl6 s T)]) (fun _ x _ => (intOf x).toNat)
            case atStart => exact ⟨mu, Nat.le_refl _, hfall, rfl, hH⟩
            case round =>
              clear hH
              obtain ⟨m, hm1, hm2, rfl, hH⟩ := hrel
              by_cases hmm : m < mc
              · have hkc := HKV.out m hm1 hmm
                have hst := mo_succ s T m
                rw [hkc] at hst
                have HST := hide hst; clear hst hkc
                obtain ⟨x, hx⟩ : ∃ x, x = mc - m := ⟨_, rfl⟩
                have hx1 : ((x : Nat) : Int) - 1 = ((mc - (m + 1) : Nat) : Int) := by omega
                have hx0 : 0 < x := by omega
                have hxb : x ≤ 17 := by omega
                have hx2 : mc - (m + 1) < x := by omega
                rw [← hx]
                have HX := hide hx; clear hx
                have hln : (mo s T m).length ≤ 1000 := by unfold mo; simp; omega
                have h6 := hH.blk #[.int .i64 (k : Nat)] 2 wr.heap.size rfl
                go_wp2_with (at_builtin; refine appI h6 1 rfl wr.heap.size [k] 2 (h6.at 0 rfl) (by simp only [List.length_singleton]; omega) rfl _ _ rfl rfl rfl ?_)
                intro v' w' h7
                have h8 : Holds w w' [pInts v' (mo s T (m + 1)), pInts (.slice (some ⟨b, 0, none⟩) T cc) (cl6 s T)] := by
                  rw [HST.out]
                  exact h7.tail
                have H8 := hide h8; clear h8 h7 h6 hH
                go_wp2
                go_roundw
                case rel => exact ⟨m + 1, by omega, by omega, by go_num, H8.out⟩
                case measure => simp [intOf]; omega
              · obtain rfl : m = mc := by omega
                have hx0 : m - m = 0 := Nat.sub_self _
                have h8 : Holds w wr [pInts u8 (mo s T (mCu s T q)), pInts (.slice (some ⟨b, 0, none⟩) T cc) (cl6 s T)] := by rw [HSM.out, ← HMC.out]; exact hH
                have H8 := hide h8; clear h8 hH
                rw [hx0]
                go_wp2
                go_roundw
                case rel => exact ⟨q, by omega, by go_num, H8.out⟩
                case measure => have := HK.out; simp [intOf]; omega
          · have dk : decide ((k : Int) < (T : Int)) = false := decide_eq_false (by omega)
            have hz := hmz hkT
            rw [← hmu] at hz
            clear hmore hmz hmu
            subst hz
            have hdiff0 : (mc : Int) - 0 = ((mc : Nat) : Int) := by omega
            have hdiff1 : mc - 0 = mc := rfl
            go_wp2
            go_loopw [8, 11] (fun o x wr => ∃ m : Nat, 0 ≤ m ∧ m ≤ mc ∧ x = .int .i64 ((mc - m : Nat) : Int) ∧ Holds w wr [pInts o (mo s T m), pInts (.slice (some ⟨b, 0, none⟩) T cc) (cl6 s T)]) (fun _ x _ => (intOf x).toNat)
            case atStart => exact ⟨0, Nat.le_refl _, hfall, rfl, hH⟩
            case round =>
              clear hH
              obtain ⟨m, hm1, hm2, rfl, hH⟩ := hrel
              by_cases hmm : m < mc
              · have hkc := HKV.out m hm1 hmm
                have hst := mo_succ s T m
                rw [hkc] at hst
                have HST := hide hst; clear hst hkc
                obtain ⟨x, hx⟩ : ∃ x, x = mc - m := ⟨_, rfl⟩
                have hx1 : ((x : Nat) : Int) - 1 = ((mc - (m + 1) : Nat) : Int) := by omega
                have hx0 : 0 < x := by omega
                have hxb : x ≤ 17 := by omega
                have hx2 : mc - (m + 1) < x := by omega
                rw [← hx]
                have HX := hide hx; clear hx
                have hln : (mo s T m).length ≤ 1000 := by unfold mo; simp; omega
                have h6 := hH.blk #[.int .i64 (k : Nat)] 2 wr.heap.size rfl
                go_wp2_with (at_builtin; refine appI h6 1 rfl wr.heap.size [k] 2 (h6.at 0 rfl) (by simp only [List.length_singleton]; omega) rfl _ _ rfl rfl rfl ?_)
                intro v' w' h7
                have h8 : Holds w w' [pInts v' (mo s T (m + 1)), pInts (.slice (some ⟨b, 0, none⟩) T cc) (cl6 s T)] := by
                  rw [HST.out]
                  exact h7.tail
                have H8 := hide h8; clear h8 h7 h6 hH
                go_wp2
                go_roundw
                case rel => exact ⟨m + 1, by omega, by omega, by go_num, H8.out⟩
                case measure => simp [intOf]; omega
              · obtain rfl : m = mc := by omega
                have hx0 : m - m = 0 := Nat.sub_self _
                have h8 : Holds w wr [pInts u8 (mo s T (mCu s T q)), pInts (.slice (some ⟨b, 0, none⟩) T cc) (cl6 s T)] := by rw [HSM.out, ← HMC.out]; exact hH
                have H8 := hide h8; clear h8 hH
                rw [hx0]
                go_wp2
                go_roundw
                case rel => exact ⟨q, by omega, by go_num, H8.out⟩
                case measure => have := HK.out; simp [intOf]; omega
end Go.Proofs.Ytjjmjnohbebbaaa
