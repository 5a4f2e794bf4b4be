/- Texts put together: ChW2, ChMd, GOrd, GReg, ChG, Ord, Com, SCyc, Typ, WOrd, Trio, Cnt, Eul, Pass, EulOf, Clo, LClo -/
import Derived.Test.YtfoaejdbgpgnhaaQgLawClosureGenus
import Derived.Test.YtfoaejdbgpgnhaaChecked
import Derived.WalkKit
import Derived.WalkSpells
import Derived.WalkLawsBesides
import Derived.Deep.LoopGhost
import Derived.Deep.OwnRows
import Derived.Laws.Rows
import Derived.Laws.Tables
import Derived.Laws.CopyOwn
import Derived.ProofKit
import Derived.OpenShut
import Derived.ShutString
import Derived.ChangeOld
import Derived.Below
import Derived.Laws.OwnMore
import Derived.Laws.CopyRow
import Derived.Deep.MidRow
import Derived.BigQuiet
import Derived.Deep.QuietTactic
import Derived.RegionTactic
import Derived.Deep.RegionWith
import Derived.Maps.Keyed
import Derived.DeepKeys4
import Derived.Maps.Own
import Derived.Carry
import Derived.Deep.Quiet
import Derived.StillTail
import Derived.ChangeKeysEq
import Derived.StillTailTactics
import Derived.Deep.RegionHeld3
import Derived.Laws.Cover3
import Derived.Lib.Bytealg
import Derived.Lib.BytesEntry
import Derived.Laws.Externs
import Derived.Laws.StructEq
import Derived.WalkMore
namespace Go.Proofs.Ytfoaejdbgpgnhaa
open Go.RowKit

set_option maxRecDepth 100000 in
set_option maxHeartbeats 4000000 in
theorem chAdd (n N : Nat) (hn : n ≤ 16) (hSt : StepSt n N) : AddSt n (N + 1) := by
  intro k p G H B M g w0 w L hN hk hq fq gq hl hp hb hH
  have HSt := hide hSt; clear hSt
  have H1 := (hH.blk (av p) 27 w.heap.size rfl).toL
  clear hH
  have hin := hl.inside hn (Nat.le_of_lt hk) hq fq
  have hS0 : ChAt (w.alloc (.cells (av p) 27)) g n G H B := H1.at 0 rfl
  have ci := l03Inside_any n hn g G H B hl.byPerm k (Nat.le_of_lt hk) p hq _ hS0
  have hk16 : (k : Int) < 16 := by omega
  have hn16 : (n : Int) ≤ 16 := by omega
  have hml : (M k).length ≤ 256 := Nat.le_trans (hb k (Nat.le_refl _)) (totH_le H 256)
  have d1 := H1.cells 17 (atP _ _ G M L)
  rcases hb' : insideT H B n (n - k) p with _ | _
  · rw [hb'] at ci
    have hni : ¬ In n (Uc H B n) k p := fun h => by rw [hin.2 h] at hb'; cases hb'
    have CI := hide ci; clear ci
    have ADS := hide (Adding.start hl hp hb hk hq fq gq)
    have ADE := hide (show ∀ H' B' M', Adding n k p H B M n H' B' M' → Added n k p H B M H' B' M' from fun H' B' M' h => h.end' hn hk hl hb hni)
    have HQ := hide (And.intro hq fq)
    clear hq fq gq hl hp hb hb' hin hS0 hni
    have HN := hide hN; clear hN
    go_enter Try.func169, Try.ntmps169
    go_wp2_with fail
    refine CI.out.mono ?_
    rintro e w2 ⟨rfl, hb2⟩
    have H2 := H1.call hb2
    clear hb2 H1 d1 CI
    generalize w.heap.size = Gp at *
    obtain ⟨A, c, hv⟩ := H2.plForm (k + 1) (gRows_at G M _ (by omega))
    have HV := hide hv; clear hv
    go_wp2
    refine Rd.region_PT (w0 := w0) [pBlk g (chv n G H B) 148, pBlk Gp (av p) 27] (pBlk g (chv n G H B) 148 :: (gRows G M ++ (pBlk Gp (av p) 27 :: L))) [9, 10] 13 (.q 0 <| .q 1 <| .q 2 <| .q 3 <| .q 4 <| .q 5 <| .q 6 <| .q 7 <| .q 8 <| .q 11 <| .q 12 <| .s1 9 <| .s1 10 .fin) H2 (.cons_cons _ (List.Sublist.trans (List.Sublist.cons_cons _ (List.nil_sublist _)) (List.sublist_append_right _ _))) (by kernel_rfl) (by kernel_rfl) ?_
    iterate 11
      apply Rd.v_q
      · simp only [List.getElem?_toArray, List.getElem?_cons_zero, List.getElem?_cons_succ]; exact rfl
      · rfl
      · go_simp
      · intro wx hx
        have q0 := hx.cells 1 rfl
        have q1 : wx.cell? ⟨g, 1 + k, none⟩ = some (.slice A (M k).length c) := by have := hx.cell 0 rfl (chv_gens n G H B (k := k) (by omega)); rw [HV.out] at this; exact this
        unfold atG
        go_simp
        simp only [uponG]
        exact ⟨by trivial, rfl⟩
    refine Rd.v_build (av p) 27 1 (by simp only [List.getElem?_toArray, List.getElem?_cons_zero, List.getElem?_cons_succ]; exact rfl) rfl (by go_simp) (fun wx hx hD => by go_simp) fun gq => ?_
    refine Rd.v_s (fun u wx => Holds w0 wx (pBlk g (chv n G H B) 148 :: (gRows (vset G k u) (rset M k (M k ++ [p])) ++ (pBlk Gp (av p) 27 :: L)))) (fun u _ _ h hb => h.call hb) (by simp only [List.getElem?_toArray, List.getElem?_cons_zero, List.getElem?_cons_succ]; exact rfl) rfl (by go_simp) (fun wx hx hD => ?_) ?_
    · refine upon_appPl hD (k + 2) (v := .slice A (M k).length c) (l := M k) (by rw [← HV.out]; exact gRows_at G M _ (by omega)) gq p 27 (hD.at 0 rfl) (by omega) (fun v' w' h2 => ?_) _ _ rfl (by go_simp) (by go_simp)
      have h3 : Holds w0 w' (pBlk gq (av p) 27 :: pBlk g (chv n G H B) 148 :: ((gRows G M ++ (pBlk Gp (av p) 27 :: L)).set k (pPl v' (M k ++ [p])))) := h2
      rw [gRows_set _ _ _ (by omega)] at h3
      exact ⟨h3.sub (.cons _ (.cons_cons _ (List.Sublist.trans (List.Sublist.cons_cons _ (List.nil_sublist _)) (List.sublist_append_right _ _)))), h3.tail⟩
    rintro u ⟨wy, hwy, hu⟩
    obtain ⟨Au, cu, hvu⟩ := hu.plForm (k + 1) (gRows_at _ _ _ (by omega))
    obtain ⟨nu, hnu⟩ : ∃ nu, nu = (rset M k (M k ++ [p]) k).length := ⟨_, rfl⟩
    rw [show vset G k u k = u from if_pos rfl, ← hnu] at hvu
    subst hvu
    clear hu hnu hwy wy
    rintro w6 - hx6
    have hx7 : Holds w0 w6 (pBlk g (chv n G H B) 148 :: (gRows (vset G k (.slice Au nu cu)) (rset M k (M k ++ [p])) ++ (pBlk Gp (av p) 27 :: L))) := hx6
    have c0 : w6.cell? ⟨g, 1 + k, none⟩ = some (.slice A (M k).length c) := by have := hx7.cell 0 rfl (chv_gens n G H B (k := k) (by omega)); rw [HV.out] at this; exact this
    have f0 := hx7.frozen 0 rfl (1 + k)
    have h7 := hx7.set 0 rfl (1 + k) (.slice Au nu cu)
    rw [chv_setGens n _ _ _ (by omega)] at h7
    obtain ⟨G1, hG1⟩ : ∃ G1, G1 = vset G k (.slice Au nu cu) := ⟨_, rfl⟩
    rw [← hG1] at h7
    have h8 : Holds w0 (w6.setCell ⟨g, 1 + k, none⟩ (.slice Au nu cu)) (pBlk g (chv n G1 H B) 148 :: (gRows G1 (rset M k (M k ++ [p])) ++ (pBlk Gp (av p) 27 :: L))) := h7
    clear h7 hx6 hx7 H2 hG1
    go_simp
    go_wp2
    clear c0 f0
    generalize w6.setCell ⟨g, 1 + k, none⟩ (.slice Au nu cu) = w7 at *
    go_loopw [6] (fun t wr => ∃ x G' H' B' M', x ≤ n ∧ t = .int .i64 ((x : Nat) : Int) ∧ Adding n k p H B M x H' B' M' ∧ Holds w0 wr (pBlk g (chv n G' H' B') 148 :: (gRows G' M' ++ (pBlk Gp (av p) 27 :: L)))) (fun t _ => n - (intOf t).toNat)
    case atStart => exact ⟨0, G1, _, _, _, by omega, rfl, ADS.out, h8⟩
    case round =>
      clear h8 ADS
      obtain ⟨x, G', H', B', M', hx, rfl, had, hH⟩ := hrel
      have HAD := hide had; clear had
      have n0 := hH.cell 0 rfl (chv_n n G' H' B')
      by_cases hxn : x < n
      · have hx16 : (x : Int) < 16 := by omega
        have hxn' : (x : Int) < n := by omega
        have hj : k * 16 + x < 256 := by omega
        have y2 : wr.cell? ⟨g, 17 + k * 16 + x, none⟩ = some (.bool (H' (k * 16 + x))) := by rw [Nat.add_assoc]; exact hH.cell 0 rfl (chv_has n G' H' B' hj)
        rcases hb' : H' (k * 16 + x) with _ | _
        · rw [hb'] at y2
          have HSK := hide (HAD.out.skip hb'); clear hb' HAD
          go_wp2
          go_roundw
          case rel => exact ⟨x + 1, G', H', B', M', by omega, by go_num, HSK.out, hH⟩
          case measure => simp [intOf]; omega
        · rw [hb'] at y2
          obtain ⟨w1, w2, w3, w4⟩ := HAD.out.lv.way k x hk hxn hb'
          obtain ⟨u, hu⟩ : ∃ u, u = byF B' (k * 16 + x) := ⟨_, rfl⟩
          rw [← hu] at w1 w2 w3 w4
          have nS : ∀ wx, Holds w0 wx (pBlk g (chv n G' H' B') 148 :: (gRows G' M' ++ (pBlk Gp (av p) 27 :: L))) → wx.cell? ⟨g, 0, none⟩ = some (.int .i64 n) ∧ cellsOf wx Gp = av p ∧ (loadT 27 (.pointer (some ⟨g, 273 + k * 256 + x * 16, none⟩))).run Try.prog wx = .ok (.value (.agg (av u))) wx := fun wx hx' => by
            refine ⟨hx'.cell 0 rfl (chv_n n G' H' B'), hx'.cells 17 (atP _ _ G' M' L), ?_⟩
            have h2 := run_loadBy (hx'.cells 0 rfl) hj
            rw [show 273 + k * 256 + x * 16 = 273 + (k * 16 + x) * 16 by omega, hu]
            exact h2
          have NS := hide nS; clear nS
          have CF := hide fun w => sThen_any u p n hn (fun i hi => w1.lt i (by omega)) w
          have hpM : p ∈ M' k := by rw [HAD.out.own]; simp
          have hq1 := thenF_perm w1 HQ.out.1
          have hf1 : ∀ z, z < k → thenF u p n z = z := fun z hz => by rw [thenF_at (by omega), w2 z hz, HQ.out.2 z hz]
          have hg1 : Gen n (Mk n M' k) (thenF u p n) := w4.prod (HAD.out.lv.mb k) (.of ⟨hk, hpM⟩) fun z hz => thenF_at hz
          have hms : 100 * (256 - totH H' 256) + 2 * (n - k) ≤ N := by have := HN.out; have := totH_mono HAD.out.ext.has 256; omega
          have hlen : (M' k).length ≤ 257 := by rw [HAD.out.own, List.length_append, List.length_singleton]; omega
          have HS := hide (And.intro hms (And.intro hq1 (And.intro hf1 (And.intro hg1 (And.intro hlen hb'))))); clear hms hq1 hf1 hg1 hlen hb' hpM w1 w2 w3 w4
          have HU := hide hu; clear hu
          go_wp2
          clear n0 y2
          refine region_tail (fun wx => Holds w0 wx _) 16 (by kernel_rfl) (by kernel_rfl) hH.drew ?_
          simp only [List.take_succ_cons, List.take_zero, List.drop_succ_cons, List.drop_zero]
          iterate 15
            apply q_step
            · go_simp
            · intro wx hx
              have q1 := (NS.out wx hx).1
              have q2 := (NS.out wx hx).2.1
              have q3 := (NS.out wx hx).2.2
              go_simp
              try exact rfl
          iterate 1
            apply q_step
            · go_simp
            · intro wx hx
              go_simp
              exact Calls.mono (CF.out wx) fun e w' h => ⟨h.1, hx.call h.2⟩
          refine wpQuiet_nil ?_
          intro w8 H8
          clear hH
          have cs := HSt.out k (thenF u p n) G' H' B' M' g w0 w8 _ HS.out.1 hk HS.out.2.1 HS.out.2.2.1 HS.out.2.2.2.1 HAD.out.lv HAD.out.pr HAD.out.bd HS.out.2.2.2.2.1 H8
          have CS := hide cs; clear cs H8
          go_wp2_with fail
          refine CS.out.mono ?_
          rintro e w9 ⟨⟨v, rfl⟩, G2, H2, B2, M2, H9, st⟩
          have HST := hide st; clear st CS
          go_wp2
          go_roundw
          case rel => exact ⟨x + 1, G2, H2, B2, M2, by omega, by go_num, HAD.out.next hn hk hxn HS.out.2.2.2.2.2 (HU.out ▸ HST.out), H9⟩
          case measure => simp [intOf]; omega
      · have hxe : x = n := by omega
        have hxn' : ¬ (x : Int) < n := by omega
        have hE := HAD.out
        rw [hxe] at hE
        have HE := hide (ADE.out _ _ _ hE); clear hE HAD hxn hxe
        go_wp2
        go_end0
        exact ⟨⟨_, rfl⟩, G', H', B', M', hH.offL, HE.out⟩
  · rw [hb'] at ci
    have CI := hide ci; clear ci
    have HAD := hide (Added.none hl hp hb (hin.1 hb'))
    clear hq fq gq hl hp hb hb' hin hS0
    go_enter Try.func169, Try.ntmps169
    go_wp2_with fail
    refine CI.out.mono ?_
    rintro e w2 ⟨rfl, hb2⟩
    have H2 := H1.call hb2
    clear hb2 H1 d1 CI
    go_wp2
    (try simp only [Exit.inBlock, Exit.then]); refine bodyPost_ret (results_none rfl _ _ _) rfl ?_
    exact ⟨⟨_, rfl⟩, G, H, B, M, H2.offL, HAD.out⟩

theorem chBoth (n : Nat) (hn : n ≤ 16) : ∀ N, AddSt n N ∧ StepSt n N
  | 0 => ⟨fun k p G H B M g w0 w L hN hk => absurd hN (by omega), fun k p G H B M g w0 w L hN hk => absurd hN (by omega)⟩
  | N + 1 => ⟨chAdd n N hn (chBoth n hn N).2, chStep n N hn (chBoth n hn N).1 (chBoth n hn N).2⟩
/-- adding a permutation to a chain -/
theorem l03Add_any (n : Nat) (hn : n ≤ 16) (k : Nat) (p : Nat → Nat) (G : Nat → Value) (H : Nat → Bool) (B : Nat → Nat) (M : Nat → List (Nat → Nat)) (g : Nat) (w0 w : World) (L : List Part)
    (hk : k < n) (hq : PermN p n) (fq : ∀ z, z < k → p z = z) (gq : ∀ j, k = j + 1 → Gen n (Mk n M j) p) (hl : Lv n H B M) (hp : Pr n H B M k) (hb : Bd M H k)
    (hH : Holds w0 w (pBlk g (chv n G H B) 148 :: (gRows G M ++ L))) :
    Calls Try.prog 169 #[.pointer (some ⟨g, 0, none⟩), .int .i64 k, .agg (av p)] w fun e w' => (∃ v, e = .returned v) ∧ ∃ G' H' B' M', Holds w0 w' (pBlk g (chv n G' H' B') 148 :: (gRows G' M' ++ L)) ∧ Added n k p H B M H' B' M' :=
  (chBoth n hn _).1 k p G H B M g w0 w L (Nat.le_refl _) hk hq fq gq hl hp hb hH
end Go.Proofs.Ytfoaejdbgpgnhaa

namespace Go.Proofs.Ytfoaejdbgpgnhaa
open Go.RowKit

def fac16 : Nat → Nat
  | 0 => 1
  | k + 1 => (k + 1) * fac16 k
/-- what holds of a chain when a list of permutations has been added -/
structure MadeI (n : Nat) (l : List (Nat → Nat)) (H : Nat → Bool) (B : Nat → Nat) (M : Nat → List (Nat → Nat)) : Prop where
  lv : Lv n H B M
  pr : Pr n H B M 0
  bd : Bd M H 0
  top : ∀ s ∈ M 0, s ∈ l
  goal : ∀ s ∈ l, In n (Uc H B n) 0 s
section
variable {n : Nat} {l : List (Nat → Nat)} {H H' : Nat → Bool} {B B' : Nat → Nat} {M M' : Nat → List (Nat → Nat)}
theorem bS_way {k i : Nat} (hk : k < n) (hi : i < 16) (hn : n ≤ 16) : byF (bS n n) (k * 16 + k) i = sameF n i := by
  unfold byF bS
  have e1 : ((k * 16 + k) * 16 + i) / 16 = k * 16 + k := by omega
  have e2 : ((k * 16 + k) * 16 + i) / 256 = k := by
    have : (k * 16 + k) * 16 + i = k * 256 + (k * 16 + i) := by omega
    rw [this, Nat.add_comm, Nat.add_mul_div_right _ _ (by omega), Nat.div_eq_of_lt (by omega)]
    omega
  rw [e1, e2, if_pos ⟨by omega, hk⟩, show ((k * 16 + k) * 16 + i) % 16 = i by omega]
theorem MadeI.start (hn : n ≤ 16) : MadeI n [] (hS n) (bS n n) (fun _ => []) where
  lv := by
    have key : ∀ k x, k < n → x < n → hS n (k * 16 + x) = true → x = k := fun k x hk hx hh => by
      unfold hS at hh
      have := of_decide_eq_true hh
      omega
    refine ⟨fun k x hk hx hh => ?_, fun k hk => ⟨?_, fun z hz => ?_⟩, fun k hk s hs => (by cases hs), fun k hk s hs => (by cases hs), fun j hj hh => ?_⟩
    · obtain rfl := key k x hk hx hh
      have e : EqN 16 (byF (bS n n) (x * 16 + x)) (sameF n) := fun z hz => bS_way hk hz hn
      have hi : ∀ z, z < n → byF (bS n n) (x * 16 + x) z = z := fun z hz => by rw [e z (by omega)]; exact upto_in hz
      exact ⟨(sameF_perm (by omega) hn).congr e, fun z hz => hi z (by omega), hi x hk, .one hi⟩
    · unfold hS; exact decide_eq_true (by omega)
    · rw [bS_way hk (by omega) hn]; exact upto_in hz
    · unfold hS at hh
      have := of_decide_eq_true hh
      omega
  pr := fun k x _ _ _ _ s hs => by cases hs
  bd := fun j _ => Nat.zero_le _
  top := fun s hs => by cases hs
  goal := fun s hs => by cases hs
theorem MadeI.next {p : Nat → Nat} (hn : n ≤ 16) (h : MadeI n l H B M) (ad : Added n 0 p H B M H' B' M') : MadeI n (l ++ [p]) H' B' M' where
  lv := ad.lv
  pr := ad.pr
  bd := ad.bd
  top := fun s hs => by
    rcases ad.own with e | e
    · rw [e] at hs; exact List.mem_append_left _ (h.top s hs)
    · rw [e] at hs
      rcases List.mem_append.1 hs with c | c
      · exact List.mem_append_left _ (h.top s c)
      · exact List.mem_append_right _ c
  goal := fun s hs => by
    rcases List.mem_append.1 hs with c | c
    · exact In.ext' hn h.lv (h.goal s c) ad.ext
    · rw [List.mem_singleton.1 c]; exact ad.mem
theorem MadeI.comp (h : MadeI n l H B M) : Comp n (Uc H B n) M 0 where
  way k _ hk u hu := by
    obtain ⟨x, hx, hh, rfl⟩ := Uc_mem.1 hu
    have := h.lv.way k x hk hx hh
    exact ⟨this.1.2.2.1, this.2.1, this.2.2.2⟩
  one k _ hk := by
    have := h.lv.one k hk
    exact ⟨_, Uc_mem.2 ⟨k, hk, this.1, rfl⟩, this.2⟩
  mks k _ hk s hs := ⟨(h.lv.mks k hk s hs).1.2.2.1, (h.lv.mks k hk s hs).2⟩
  down k _ hk := h.lv.down k hk
  prod k _ hk u hu s hs := by
    obtain ⟨x, hx, hh, rfl⟩ := Uc_mem.1 hu
    exact h.pr k x (Nat.zero_le _) hk hx hh s hs
theorem MadeI.dist (h : MadeI n l H B M) : Dist n (Uc H B n) := fun k hk => by
  unfold Uc
  rw [List.map_map]
  have e : ((List.range n).filter fun x => H (k * 16 + x)).map ((fun u => u k) ∘ fun x => byF B (k * 16 + x)) = (List.range n).filter fun x => H (k * 16 + x) := by
    conv => rhs; rw [← List.map_id ((List.range n).filter fun x => H (k * 16 + x))]
    refine List.map_congr_left fun x hx => ?_
    obtain ⟨h1, h2⟩ := List.mem_filter.1 hx
    exact (h.lv.way k x hk (List.mem_range.1 h1) h2).2.2.1
  rw [e]
  exact List.Pairwise.filter _ List.nodup_range
theorem MadeI.group (h : MadeI n l H B M) (hl : ∀ s ∈ l, Bij s n) (p : Nat → Nat) : Gen n (· ∈ l) p ↔ Gen n (Mk n M 0) p := by
  have hc := h.comp
  constructor
  · exact fun hp => hp.sub (h.lv.mb 0) fun s hs => (hc.inGen (Nat.le_refl _) (Nat.zero_le _) s).1 (h.goal s hs)
  · exact fun hp => hp.mono fun s hs => h.top s hs.2
theorem cntH_len (H : Nat → Bool) (B : Nat → Nat) (k : Nat) : ∀ x, cntH H k x = ((List.range x).filter fun x => H (k * 16 + x)).length
  | 0 => rfl
  | x + 1 => by
    rw [cntH, cntH_len H B k x, List.range_succ, List.filter_append, List.length_append]
    rcases e : H (k * 16 + x) with _ | _
    · simp [e]
    · simp [e]
theorem ordH_way (H : Nat → Bool) (B : Nat → Nat) (n : Nat) : ∀ k, ordH H n k = wayN (Uc H B n) k
  | 0 => rfl
  | k + 1 => by
    rw [ordH, wayN, ordH_way H B n k, cntH_len H B k n]
    unfold Uc
    rw [List.length_map]
theorem MadeI.order (h : MadeI n l H B M) (hl : ∀ s ∈ l, Bij s n) : ordH H n n = ordT n (Gen n (· ∈ l)) n := by
  rw [ordH_way H B n n]
  exact h.comp.order h.dist (h.group hl) n (Nat.le_refl _)
/-- small enough to be told -/
theorem cntH_low (h : MadeI n l H B M) (hn : n ≤ 16) {k : Nat} (hk : k < n) : cntH H k n ≤ n - k := by
  rw [cntH_len H B k n]
  have h1 := nodup_le ((List.range n).filter fun x => H (k * 16 + x)) ((List.range (n - k)).map (· + k)) (List.Pairwise.filter _ List.nodup_range) fun x hx => by
    obtain ⟨h1, h2⟩ := List.mem_filter.1 hx
    have hx := List.mem_range.1 h1
    obtain ⟨w1, w2, w3, _⟩ := h.lv.way k x hk hx h2
    have hge : k ≤ x := by
      rcases Nat.lt_or_ge x k with c | c
      · have e := w2 x c
        have := w1.2.2.1.2 x k hx hk (by rw [e, w3])
        omega
      · exact c
    exact List.mem_map.2 ⟨x - k, List.mem_range.2 (by omega), by omega⟩
  rwa [List.length_map, List.length_range] at h1
theorem MadeI.small (h : MadeI n l H B M) (hn : n ≤ 16) : ∀ k, k ≤ n → ordH H n k * fac16 (n - k) ≤ fac16 n
  | 0, _ => by simp [ordH]
  | k + 1, hk => by
    have h1 := h.small hn k (by omega)
    have h2 := cntH_low h hn (show k < n by omega)
    obtain ⟨j, hj⟩ : ∃ j, n - k = j + 1 := ⟨n - k - 1, by omega⟩
    rw [show n - (k + 1) = j by omega, ordH]
    rw [hj, fac16] at h1
    rw [hj] at h2
    refine Nat.le_trans ?_ h1
    rw [Nat.mul_assoc]
    exact Nat.mul_le_mul_left _ (Nat.mul_le_mul_right _ h2)
theorem fac16_pos : ∀ k, 1 ≤ fac16 k
  | 0 => Nat.le_refl _
  | k + 1 => Nat.mul_pos (Nat.succ_pos k) (fac16_pos k)
theorem fac16_mono (k : Nat) : ∀ j, fac16 k ≤ fac16 (k + j)
  | 0 => Nat.le_refl _
  | j + 1 => Nat.le_trans (fac16_mono k j) (by rw [← Nat.add_assoc, fac16]; exact Nat.le_mul_of_pos_left _ (Nat.succ_pos _))
theorem MadeI.big (h : MadeI n l H B M) (hn : n ≤ 16) {k : Nat} (hk : k ≤ n) : ordH H n k ≤ 9223372036854775807 := by
  have h1 := h.small hn k hk
  have h2 := Nat.le_mul_of_pos_right (ordH H n k) (fac16_pos (n - k))
  have h3 := fac16_mono n (16 - n)
  rw [show n + (16 - n) = 16 by omega] at h3
  have h4 : fac16 16 = 20922789888000 := by decide
  omega
/-- what belongs to the group -/
theorem MadeI.inside (h : MadeI n l H B M) (hl : ∀ s ∈ l, Bij s n) (hn : n ≤ 16) {p : Nat → Nat} (hp : PermN p n) : insideT H B n n p = true ↔ Gen n (· ∈ l) p := by
  have h1 := h.lv.inside hn (Nat.zero_le _) hp (fun x hx => absurd hx (Nat.not_lt_zero x))
  rw [Nat.sub_zero] at h1
  rw [h1, h.comp.inGen (Nat.le_refl _) (Nat.zero_le _), h.group hl]
end

set_option maxRecDepth 100000 in
set_option maxHeartbeats 1000000 in
theorem l03Made_any (n : Nat) (h1 : 1 ≤ n) (hn : n ≤ 16) (v : Value) (l : List (Nat → Nat)) (hl : ∀ p ∈ l, PermN p n) (hlen : l.length ≤ 1000000) (w : World) (hv : (pPl v l).ok w) :
    Calls Try.prog 134 #[v, .int .i64 n] w fun e w' => ∃ g G H B M, e = .returned (.pointer (some ⟨g, 0, none⟩)) ∧ Holds w w' (pBlk g (chv n G H B) 148 :: gRows G M) ∧ MadeI n l H B M := by
  obtain ⟨A, c, rfl⟩ := own_slice hv
  have HV := hide hv; clear hv
  have HL := hide hl; clear hl
  have CS := hide fun w => l03Start_any n hn w
  go_enter Try.func134, Try.ntmps134
  go_wp2_with fail
  refine (CS.out _).mono ?_
  rintro e w1 ⟨g, rfl, hN⟩
  go_wp2
  go_loopw [6] (fun t wr => ∃ i G H B M, i ≤ l.length ∧ t = .int .i64 ((i : Nat) : Int) ∧ MadeI n (l.take i) H B M ∧ Holds w wr (pBlk g (chv n G H B) 148 :: (gRows G M ++ []))) (fun t _ => l.length - (intOf t).toNat)
  case atStart => exact ⟨0, _, _, _, _, by omega, rfl, MadeI.start hn, by rw [List.append_nil]; exact hN⟩
  case round =>
    clear hN CS
    obtain ⟨i, G, H, B, M, hi, rfl, hM, hH⟩ := hrel
    have HM := hide hM; clear hM
    by_cases hil : i < l.length
    · obtain ⟨q0, c0, e0, -, lk⟩ := plOk_load (plOk_below HV.out hH.low) hil
      injection e0 with e0 e1 e2
      subst e0
      clear e1 e2
      have hp := HL.out _ (List.getElem_mem hil)
      have htk : l.take (i + 1) = l.take i ++ [l[i]] := List.take_succ_eq_append_getElem hil
      obtain ⟨p, hpe⟩ : ∃ p, p = l[i] := ⟨_, rfl⟩
      rw [← hpe] at hp lk htk
      have HTK := hide htk; clear htk hpe
      have ca := l03Add_any n hn 0 p G H B M g w wr [] (by omega) hp (fun z hz => absurd hz (Nat.not_lt_zero z)) (fun j e => absurd e (by omega)) HM.out.lv HM.out.pr HM.out.bd hH
      have CA := hide ca; clear ca hH hp
      have hil' : (i : Int) < l.length := by omega
      go_wp2_with fail
      refine CA.out.mono ?_
      rintro e w2 ⟨⟨v, rfl⟩, G2, H2, B2, M2, hH2, ad⟩
      have HAD := hide ad; clear ad CA lk
      go_wp2
      go_roundw
      case rel => exact ⟨i + 1, G2, H2, B2, M2, by omega, by go_num, by rw [HTK.out]; exact HM.out.next hn HAD.out, hH2⟩
      case measure => simp [intOf]; omega
    · have hie : i = l.length := by omega
      have hil' : ¬ (i : Int) < l.length := by omega
      have hM := HM.out
      rw [hie, List.take_length] at hM
      rw [List.append_nil] at hH
      have HM2 := hide hM; clear hM HM hie hil
      go_wp2
      go_ret
      refine ⟨g, ?_⟩
      first | exact ⟨G, H, B, M, rfl, hH, HM2.out⟩ | exact ⟨rfl, G, H, B, M, hH, HM2.out⟩
end Go.Proofs.Ytfoaejdbgpgnhaa

namespace Go.Proofs.Ytfoaejdbgpgnhaa
open Go.RowKit

def fact : Nat → Nat
  | 0 => 1
  | k + 1 => (k + 1) * fact k
section
variable {n : Nat} {G Q : (Nat → Nat) → Prop} {U M : Nat → List (Nat → Nat)} {W : List ((Nat → Nat) × Nat)}
theorem SInv.few (h : SInv n G Q U M W) {k : Nat} (hk : k < n) : (U k).length ≤ n - k := by
  have h1 := nodup_le ((U k).map fun u => u k) ((List.range (n - k)).map (· + k)) (h.dist k hk) fun x hx => by
    obtain ⟨u, hu, rfl⟩ := List.mem_map.1 hx
    have hw := h.way k hk u hu
    have hb := hw.1.2.2.1
    have hlt := hb.1 k hk
    have hge : k ≤ u k := by
      rcases Nat.lt_or_ge (u k) k with c | c
      · have := hw.2.1 (u k) c
        have := hb.2 (u k) k hlt hk this
        omega
      · exact c
    exact List.mem_map.2 ⟨u k - k, List.mem_range.2 (by omega), by omega⟩
  rwa [List.length_map, List.length_map, List.length_range] at h1
theorem SInv.way_le (h : SInv n G Q U M W) : ∀ k, k ≤ n → wayN U k * fact (n - k) ≤ fact n
  | 0, _ => by simp [wayN]
  | k + 1, hk => by
    have h1 := h.way_le k (by omega)
    have h2 := h.few (show k < n by omega)
    obtain ⟨j, hj⟩ : ∃ j, n - k = j + 1 := ⟨n - k - 1, by omega⟩
    rw [show n - (k + 1) = j by omega, wayN]
    rw [hj, fact] at h1
    rw [hj] at h2
    refine Nat.le_trans ?_ h1
    rw [Nat.mul_assoc]
    exact Nat.mul_le_mul_left _ (Nat.mul_le_mul_right _ h2)
theorem fact_pos : ∀ k, 1 ≤ fact k
  | 0 => Nat.le_refl _
  | k + 1 => Nat.mul_pos (Nat.succ_pos k) (fact_pos k)
theorem fact_mono (k : Nat) : ∀ j, fact k ≤ fact (k + j)
  | 0 => Nat.le_refl _
  | j + 1 => Nat.le_trans (fact_mono k j) (by rw [← Nat.add_assoc, fact]; exact Nat.le_mul_of_pos_left _ (Nat.succ_pos _))
theorem SInv.way_big (h : SInv n G Q U M W) (hn : n ≤ 16) {k : Nat} (hk : k ≤ n) : wayN U k ≤ 20922789888000 := by
  have h1 := h.way_le k hk
  have h2 := Nat.le_mul_of_pos_right (wayN U k) (fact_pos (n - k))
  have h3 := fact_mono n (16 - n)
  rw [show n + (16 - n) = 16 by omega] at h3
  have h4 : fact 16 = 20922789888000 := by decide
  omega
/-- the order that the sieve tells -/
theorem SInv.order {S : (Nat → Nat) → Prop} (h : SInv n (Gen n S) S U M []) (hS : ∀ s, S s → Bij s n) : wayN U n = ordT n (Gen n S) n := h.comp.order h.dist (h.group hS) n (Nat.le_refl _)
/-- what the sieve keeps is not in the group -/
theorem SInv.sift_in {S : (Nat → Nat) → Prop} (h : SInv n (Gen n S) S U M []) (hS : ∀ s, S s → Bij s n) (hn : n ≤ 16) {p : Nat → Nat} (hp : PermN p n) : (Proofs.Ytfoaejdbgpgnhaa.sift U n n p).2 = n ↔ Gen n S p := by
  obtain ⟨s1, _, s3, s4, s5, s6, s7, _⟩ := h.sift hn n (Nat.le_refl _) p hp (fun x hx => by omega)
  have hc := h.comp
  rw [h.group hS p]
  generalize Proofs.Ytfoaejdbgpgnhaa.sift U n n p = ry at *
  obtain ⟨r, y⟩ := ry
  simp only at s1 s3 s4 s5 s6 s7 ⊢
  constructor
  · intro e
    have := s6 U (fun _ _ hu => hu) (by rw [e]; exact .done fun x hx => s4 x (by omega))
    rw [Nat.sub_self] at this
    exact (hc.inGen (Nat.le_refl _) (Nat.zero_le _) p).1 this
  · intro hg
    rcases Nat.lt_or_ge y n with c | c
    · exfalso
      have lift : ∀ k, k < n → ∀ u ∈ U k, Gen n (Mk n M 0) u := fun k hk u hu => by
        have : ∀ j, j ≤ n → ∀ q, Gen n (Mk n M j) q → Gen n (Mk n M 0) q := by
          intro j
          induction j with
          | zero => exact fun _ _ hq => hq
          | succ j ih => exact fun hj q hq => ih (by omega) q (hc.genUp (Nat.zero_le _) hq)
        exact this k (by omega) u (h.way k hk u hu).2.2
      have hr := s7 (Mk n M 0) 0 (h.mb 0) (fun x hx _ => absurd hx (by omega)) (fun k _ hk u hu => lift k hk u hu) hg
      have hi := (hc.inGen (Nat.le_refl _) (Nat.zero_le _) _).2 hr
      have hi2 := h.from (by omega) hi s4
      cases hi2 with
      | done e => omega
      | step hk hu hq e =>
        exact s5 c _ hu (by
          have e1 := e y c
          rw [hq.fix h.wf y (by omega)] at e1
          exact e1.symm)
    · omega
end

/-- the order of the group of a dessin, and the error -/
noncomputable def ordN (n : Int) (f g : Nat → Nat) : Nat := if desB n f g then ordT n.toNat (Gen n.toNat (Two f g)) n.toNat else 0

-- left out here: loop.example/g01200/impl.GroupOrder
end Go.Proofs.Ytfoaejdbgpgnhaa

namespace Go.Proofs.Ytfoaejdbgpgnhaa
open Go.RowKit

/-- whether a dessin is regular -/
noncomputable def regB (n : Int) (f g : Nat → Nat) : Bool := desB n f g && decide (((ordN n f g : Nat) : Int) = n)

-- left out here: loop.example/g01200/impl.IsRegular
open Classical in
/-- whether a permutation belongs to the group -/
noncomputable def inB (n : Int) (f g p : Nat → Nat) : Bool := desB n f g && (permB p n && decide (Gen n.toNat (Two f g) p))
noncomputable def inC (n : Int) (f g p : Nat → Nat) : Int := if desB n f g then (if permB p n then 0 else 2) else 1

-- left out here: loop.example/g01200/impl.InGroup
end Go.Proofs.Ytfoaejdbgpgnhaa

namespace Go.Proofs.Ytfoaejdbgpgnhaa
open Go.RowKit

@[irreducible] def av2 (p q : Nat → Nat) : Array Value := (plB [p, q]).toArray
theorem av2_list (p q : Nat → Nat) : (av2 p q).toList = plB [p, q] := by unfold av2; rfl
theorem av2_size (p q : Nat → Nat) : (av2 p q).size = 32 := by rw [← Array.length_toList, av2_list, plB_length]; rfl
theorem fillP2 (p q : Nat → Nat) (cs : Array Value) (hcs : cs.size = 32) : Instr.fill (fun i => some (i * 16, 16)) cs [(0, .agg (av p)), (1, .agg (av q))] = some (av2 p q) := by
  simp only [Instr.fill, Value.cells, av_size, hcs, splice_eq, splice_size]
  rw [if_neg (by simp), if_neg (by simp)]
  congr 1
  apply Array.ext_getElem?
  intro i
  rw [foldset, splice_size, hcs, av_len]
  have hg : (av2 p q)[i]? = (plB [p, q])[i]? := by rw [← av2_list, Array.getElem?_toList]
  rw [hg, plB_cons]
  by_cases c : i < 16
  · rw [if_neg (by omega), foldset, hcs, av_len, if_pos (by omega), List.getElem?_append_left (by rw [av_len]; exact c)]
    congr 1
  · rw [List.getElem?_append_right (by rw [av_len]; omega), av_len]
    have e : plB [q] = (av q).toList := by unfold plB; simp
    rw [e]
    by_cases d : i < 32
    · rw [if_pos (by omega)]
    · rw [if_neg (by omega), foldset, hcs, av_len, if_neg (by omega), Array.getElem?_eq_none (by rw [hcs]; omega), List.getElem?_eq_none (by rw [av_len]; omega)]
@[go_sem] theorem run_bslP2 (p q : Nat → Nat) (w : World) : (buildSlP 2 #[(0, .agg (av p)), (1, .agg (av q))]).run Try.prog w = .ok (.value (.slice (some ⟨w.heap.size, 0, none⟩) 2 2)) (w.alloc (.cells (av2 p q) 27)) := by
  obtain ⟨i0, hi, hz0, hz1, _⟩ := info_parts infoPlc
  have hsz : ¬ (2 * i0.size > 2 ^ 24) := by rw [hz1]; decide
  have hnz : ¬ (2 * i0.size = 0) := by rw [hz1]; decide
  have hff : ∀ cs : Array Value, cs.size = 32 → Instr.fill (fun i => some (i * i0.size, i0.size)) cs [(0, .agg (av p)), (1, .agg (av q))] = some (av2 p q) := fun cs h => by rw [hz1]; exact fillP2 p q cs h
  simp only [buildSlP, Instr.buildSlice, run_underlying Try.underlying82, sizeOf, typeInfo, hi, zeroValue, hz0, Sem.run_bind, Sem.run_pure, Result.andThen_ok, run_program, hsz, hnz, if_false]
  rw [hff _ (by simp [hz1])]
  rfl
theorem two_row {w : World} {g : Nat} {p q : Nat → Nat} (h : (pBlk g (av2 p q) 27).ok w) : (pPl (.slice (some ⟨g, 0, none⟩) 2 2) [p, q]).ok w := by
  refine ⟨by rw [plB_length], .inr ⟨g, 2, av2 p q, rfl, Nat.zero_le _, h, Nat.le_refl _, by unfold maxLen; omega, av2_size p q, ?_⟩⟩
  rw [av2_list, show [p, q].length * 16 = (plB [p, q]).length by rw [plB_length], List.take_length]
theorem two_mem (f g : Nat → Nat) : (· ∈ [f, g]) = Two f g := by funext s; unfold Two; simp

set_option maxRecDepth 100000 in
set_option maxHeartbeats 1000000 in
theorem l03Of_any (f h : Nat → Nat) (m : Nat) (hd : DesN f h m) (w : World) :
    Calls Try.prog 82 #[.agg (dv m f h)] w fun e w' => ∃ g G H B M, e = .returned (.pointer (some ⟨g, 0, none⟩)) ∧ Holds w w' (pBlk g (chv m G H B) 148 :: gRows G M) ∧ MadeI m [f, h] H B M := by
  have hm := hd.le
  have H1 := (Holds.start w).blk (dv m f h) 29 w.heap.size rfl
  have n0 := H1.cell 0 rfl (dv_n m f h)
  have d0 := H1.cells 0 rfl
  have H2 := H1.blk (av2 f h) 27 (w.heap.size + 1) (by simp)
  have n1 := H2.cell 1 rfl (dv_n m f h)
  have cm := l03Made_any m hd.pos hm _ [f, h] (fun p hp => by
    simp only [List.mem_cons, List.not_mem_nil, or_false] at hp
    rcases hp with rfl | rfl
    · exact hd.black
    · exact hd.white) (by simp) _ (two_row (H2.at 0 rfl))
  have CM := hide cm; clear cm hd
  have HH2 := hide H2; clear H2
  go_enter Try.func82, Try.ntmps82
  go_wp2_with fail
  refine CM.out.mono ?_
  rintro e w3 ⟨g, G, H, B, M, rfl, hN, hM⟩
  have HM := hide hM; clear hM
  go_wp2
  go_ret
  refine ⟨g, ?_⟩
  have hT : Holds w w3 (pBlk g (chv m G H B) 148 :: gRows G M) := (HH2.out.join hN).sub (List.Sublist.trans (List.sublist_append_left _ _) (List.Sublist.refl _))
  first | exact ⟨G, H, B, M, rfl, hT, HM.out⟩ | exact ⟨rfl, G, H, B, M, hT, HM.out⟩

-- left out here: loop.example/g01200/spec.GroupOrder
-- left out here: loop.example/g01200/spec.IsRegular
-- left out here: loop.example/g01200/spec.InGroup
end Go.Proofs.Ytfoaejdbgpgnhaa

namespace Go.Proofs.Ytfoaejdbgpgnhaa
open Go.RowKit

/-- the k-th power -/
def powF (p : Nat → Nat) (m k : Nat) : Nat → Nat := upto (it p k) m
theorem powF_one {p : Nat → Nat} {m : Nat} (h : PermN p m) : av (powF p m 1) = av p := by
  refine av_congr fun i hi => ?_
  unfold powF upto it
  split
  · rfl
  · exact (h.2.2.2 i (by omega) hi).symm
theorem powF_step (p : Nat → Nat) (m k : Nat) : thenF (powF p m k) p m = powF p m (k + 1) := by
  funext i
  unfold thenF powF upto
  split
  · rename_i h
    show p (if i < m then it p k i else 0) = _
    rw [if_pos h]; rfl
  · rfl
theorem powF_same {p : Nat → Nat} {m : Nat} (hm : m ≤ 16) (k : Nat) : sameB (powF p m k) (sameF m) = true ↔ ∀ x, x < m → it p k x = x := by
  rw [sameB_iff]
  unfold powF sameF upto
  constructor
  · intro h x hx
    have := h x (by omega)
    rwa [if_pos hx, if_pos hx] at this
  · intro h x hx
    split
    · exact h x (by assumption)
    · rfl

noncomputable def ordR (p : Nat → Nat) (n : Int) : Value :=
  if permB p n = true then .tuple #[.int .i64 (lcms (lens p n.toNat)), .int .i64 0] else .tuple #[.int .i64 0, .int .i64 1]

set_option maxRecDepth 100000 in
set_option maxHeartbeats 1000000 in
theorem orderOf_any (p : Nat → Nat) (hp : ∀ i, p i < 256) (n : Int) (w : World) :
    Calls Try.prog 95 #[.agg (av p), .int .i64 n] w fun e w' => e = .returned (ordR p n) ∧ Below w.heap.size w w' := by
  have C1 := hide fun w => isPerm_any p hp n w
  clear hp
  rcases h1 : permB p n with _ | _
  · rw [h1] at C1
    have hr : ordR p n = .tuple #[.int .i64 0, .int .i64 1] := by unfold ordR; rw [if_neg (by simp [h1])]
    rw [hr]
    clear h1 hr
    go_enter Try.func95, Try.ntmps95
    go_wp2_with fail
    refine (C1.out _).mono ?_
    rintro e w1 ⟨rfl, hb⟩
    go_wp2
    go_ret2
    exact ⟨rfl, (below1 w _).trans (hb.mono (by simp))⟩
  · rw [h1] at C1
    obtain ⟨m, rfl, hpm⟩ := permB_true h1
    have hr : ordR p (m : Int) = .tuple #[.int .i64 (lcms (lens p m)), .int .i64 0] := by unfold ordR; rw [if_pos h1, Int.toNat_natCast]
    rw [hr]
    clear h1 hr
    have h16 := hpm.2.1
    have hbij := hpm.2.2.1
    have C2 := hide fun w => stay_any m h16 w
    have hle := lcms_le hbij h16
    have hpos := lcms_pos hbij h16
    have hall : ∀ x, x < m → it p (lcms (lens p m)) x = x := fun x hx => order_all hbij h16 hx
    have C3 := hide fun (k : Nat) (w : World) => (powF_step p m k ▸ follow_any (powF p m k) p m h16 (fun i hi => by unfold powF upto; rw [if_pos hi]; have := hbij.it_lt k hi; omega) w : Calls Try.prog 140 #[.agg (av (powF p m k)), .agg (av p), .int .i64 m] w fun e w' => e = .returned (.agg (av (powF p m (k + 1)))) ∧ Below w.heap.size w w')
    have HB := hide hbij; clear hbij
    have HA := hide hall; clear hall
    have hone := powF_one hpm
    have HP := hide hpm; clear hpm
    obtain ⟨L, hL⟩ : ∃ L, L = lcms (lens p m) := ⟨_, rfl⟩
    rw [← hL] at hle hpos HA ⊢
    have HL := hide hL; clear hL
    go_enter Try.func95, Try.ntmps95
    go_wp2_with fail
    refine (C1.out _).mono ?_
    rintro e w1 ⟨rfl, hb⟩
    have c1 : cellsOf w1 w.heap.size = av p := (below_cells hb (by simp)).trans (cellsOf_heap (heap_at _ _ _ rfl))
    have s1 : w.heap.size + 1 ≤ w1.heap.size := by have := hb.size; simpa using this
    have b1 := (below1 w _).trans (hb.mono (by simp))
    clear hb
    go_wp2_with fail
    refine (C2.out _).mono ?_
    rintro e w2 ⟨rfl, hb2⟩
    have c2 : cellsOf w2 w.heap.size = av p := (below_cells hb2 (by omega)).trans c1
    have s2 := hb2.size
    have b2 := b1.trans (hb2.mono (by omega))
    clear hb2 c1 b1
    have HO := hide hone; clear hone
    have hlt : w.heap.size < w2.heap.size := by omega
    go_wp2
    go_loopw [6, 8] (fun o q wr => ∃ k g : Nat, 1 ≤ k ∧ k ≤ L ∧ o = .int .i64 k ∧ q = .pointer (some ⟨g, 0, none⟩) ∧ Below w.heap.size w wr ∧ cellsOf wr w.heap.size = av p ∧ cellsOf wr w2.heap.size = av (sameF m) ∧ w2.heap.size < g ∧
        rowOk wr g 16 ∧ cellsOf wr g = av (powF p m k) ∧ ∀ j, 0 < j → j < k → ¬ ∀ x, x < m → it p j x = x) (fun o _ _ => L - (intOf o).toNat)
    case atStart => exact ⟨1, w2.heap.size + 1, by omega, by omega, rfl, rfl, (b2.alloc (by omega) _).alloc (by simp; omega) _, by rw [cellsOf_past (by simp; omega), cellsOf_past (by omega)]; exact c2, by rw [cellsOf_past (by simp)]; exact cellsOf_heap (heap_at _ _ _ rfl),
        by omega, ⟨_, _, heap_at _ _ _ (by simp), av_size _⟩, by rw [HO.out]; exact cellsOf_heap (heap_at _ _ _ (by simp)), fun j h1 h2 => by omega⟩
    case round =>
      obtain ⟨k, g, hk1, hk2, rfl, rfl, hbr, hcp, hcs, hgg, hrg, hcg, hmin⟩ := hrel
      have hgl := hrg.lt
      have HM := hide hmin; clear hmin
      have hsb := powF_same (p := p) h16 k
      rcases hs : sameB (powF p m k) (sameF m) with _ | _
      · have hne : ¬ ∀ x, x < m → it p k x = x := fun h => by rw [hsb.2 h] at hs; cases hs
        have hkL : k < L := by
          rcases Nat.lt_or_ge k L with c | c
          · exact c
          · obtain rfl : k = L := by omega
            exact absurd HA.out hne
        have HN := hide hne; clear hne
        clear hsb
        have HR := hide hrg; clear hrg
        have hlw : w.heap.size < wr.heap.size := by omega
        have hlw2 : w2.heap.size < wr.heap.size := by omega
        go_wp2_with fail
        refine (C3.out _ _).mono ?_
        rintro e w3 ⟨rfl, hb3⟩
        have r3 : rowOk w3 wr.heap.size 16 := (below_row hb3 (by simp)).2 ⟨_, _, heap_at _ _ _ rfl, av_size _⟩
        have p3 : cellsOf w3 w.heap.size = av p := by rw [below_cells hb3 (by simp; omega), cellsOf_past (by omega)]; exact hcp
        have q3 : cellsOf w3 w2.heap.size = av (sameF m) := by rw [below_cells hb3 (by simp; omega), cellsOf_past (by omega)]; exact hcs
        have b3 := (hbr.alloc (by omega) (.cells (av (powF p m k)) 27)).trans (hb3.mono (by simp; omega))
        clear hb3 hcp hcs hcg hbr
        go_wp2
        go_roundw
        case rel => exact ⟨k + 1, wr.heap.size, by omega, by omega, by go_num, rfl, below_setRow b3 (by omega) _, by rw [cellsOf_setRow_ne (by omega)]; exact p3, by rw [cellsOf_setRow_ne (by omega)]; exact q3, by omega,
            rowOk_setRow r3 (av_size _), cellsOf_setRow r3, fun j h1 h2 => by
              rcases Nat.lt_or_ge j k with c | c
              · exact HM.out j h1 c
              · obtain rfl : j = k := by omega
                exact HN.out⟩
        case measure => simp [intOf]; omega
      · have hkk : k = L := by rw [HL.out]; exact order_spec HB.out h16 (by omega) (hsb.1 hs) HM.out
        clear hsb
        have HK := hide hkk; clear hkk
        go_wp2
        go_ret2
        obtain rfl : k = L := HK.out
        exact ⟨rfl, hbr⟩
end Go.Proofs.Ytfoaejdbgpgnhaa

namespace Go.Proofs.Ytfoaejdbgpgnhaa
open Go.RowKit

theorem lcms_take_le {ls : List Nat} (h2 : lcms ls ≤ 65536) (h3 : 0 < lcms ls) (k : Nat) : 1 ≤ lcms (ls.take k) ∧ lcms (ls.take k) ≤ 65536 := by
  have hd : lcms (ls.take k) ∣ lcms ls := (lcms_dvd _ _).2 fun x hx => (lcms_dvd ls (lcms ls)).1 (Nat.dvd_refl _) x (List.mem_of_mem_take hx)
  have := Nat.le_of_dvd h3 hd
  have : 0 < lcms (ls.take k) := Nat.pos_of_dvd_of_pos hd h3
  omega
theorem lcms_take_succ {ls : List Nat} {k : Nat} (hk : k < ls.length) : lcms (ls.take (k + 1)) = Nat.lcm (lcms (ls.take k)) ls[k] := by
  unfold lcms
  rw [List.take_succ_eq_append_getElem hk, List.foldl_append]
  rfl
theorem lcm_quo (o x : Nat) : (o : Int) / ((Nat.gcd o x : Nat) : Int) * (x : Int) = ((Nat.lcm o x : Nat) : Int) := by
  have : Nat.lcm o x = o / Nat.gcd o x * x := by
    unfold Nat.lcm
    exact Nat.mul_div_right_comm (Nat.gcd_dvd_left o x) x
  rw [this]; simp

set_option maxRecDepth 100000 in
set_option maxHeartbeats 400000 in
theorem common_any (ls : List Nat) (A : Option Addr) (c B : Nat) (h1 : ∀ l ∈ ls, 1 ≤ l ∧ l ≤ 16) (h2 : lcms ls ≤ 65536) (h3 : 0 < lcms ls) (hlen : ls.length ≤ 16) (w : World) (ho : Own1 B w (.slice A ls.length c) ls) :
    Calls Try.prog 93 #[.slice A ls.length c] w fun e w' => e = .returned (.int .i64 (lcms ls)) ∧ Below w.heap.size w w' := by
  have H := hide ho; clear ho
  have H1 := hide h1; clear h1
  have HT := hide fun k => lcms_take_le h2 h3 k
  clear h2 h3
  go_enter Try.func93, Try.ntmps93
  go_wp2
  go_loopw [3, 4] (fun o i wr => ∃ k : Nat, k ≤ ls.length ∧ i = .int .i64 k ∧ o = .int .i64 (lcms (ls.take k)) ∧ Below w.heap.size w wr) (fun _ i _ => ls.length - (intOf i).toNat)
  case atStart => exact ⟨0, by omega, rfl, rfl, Below.refl _ _⟩
  case round =>
    obtain ⟨k, hk, rfl, rfl, hb⟩ := hrel
    by_cases hlt : k < ls.length
    · obtain ⟨g, rfl, _, hg, c1, _⟩ := H.out.at hlt
      have hx := H1.out ls[k] (List.getElem_mem hlt)
      have ho := HT.out k
      have hn := HT.out (k + 1)
      have hs := lcms_take_succ hlt
      rw [hs] at hn
      have HS := hide hs; clear hs
      generalize ls[k] = x at *
      generalize lcms (ls.take k) = o at *
      have C1 := hide c1
      have c1' : wr.cell? ⟨g, k, none⟩ = some (.int .i64 (x : Nat)) := (hb.cell (p := ⟨g, k, none⟩) hg).trans c1
      clear c1
      go_wp2
      go_region
      all_goals go_wp2
      all_goals (obtain ⟨wo, rfl⟩ : ∃ wo : World, wo = wr := ⟨_, rfl⟩)
      all_goals go_loopg [5, 6] x (fun gd a b wr => ∃ a' b' : Nat, gd = b' ∧ a = .int .i64 a' ∧ b = .int .i64 b' ∧ 1 ≤ a' ∧ a' ≤ 65536 ∧ b' ≤ 16 ∧ Nat.gcd a' b' = Nat.gcd o x ∧ Below w.heap.size w wr)
      case atStart => exact ⟨o, x, rfl, rfl, rfl, ho.1, ho.2, hx.2, rfl, hb.drew⟩
      case round =>
        obtain ⟨a, b, hgd, rfl, rfl, ha1, ha2, hb16, hgc, hbw⟩ := hrel
        by_cases hb0 : 0 < b
        · have hgb : decide ((0 : Int) < (b : Int)) = true := by simp; omega
          have hm : 0 ≤ (a : Int) % (b : Int) ∧ (a : Int) % (b : Int) < (b : Int) := ⟨Int.emod_nonneg _ (by omega), Int.emod_lt_of_pos _ (by omega)⟩
          have hne : ((b : Int) = 0) = False := by simp; omega
          have hgc2 : Nat.gcd b (a % b) = Nat.gcd o x := by rw [← hgc, Nat.gcd_comm a b, Nat.gcd_rec b a, Nat.gcd_comm]
          have hml : a % b < b := Nat.mod_lt _ hb0
          have HG := hide hgc2; clear hgc2 hgc
          go_wp2
          go_roundg (a % b)
          case measure => omega
          case rel => exact ⟨b, a % b, rfl, rfl, by simp, by omega, by omega, by omega, HG.out, hbw⟩
        · obtain rfl : b = 0 := by omega
          obtain rfl : a = Nat.gcd o x := by rw [← hgc, Nat.gcd_zero_right]
          have hq := lcm_quo o x
          have hq1 : 0 ≤ (o : Int) / ((Nat.gcd o x : Nat) : Int) ∧ (o : Int) / ((Nat.gcd o x : Nat) : Int) ≤ 65536 := ⟨Int.ediv_nonneg (by omega) (by omega), by have h := Nat.div_le_self o (Nat.gcd o x); rw [← Int.natCast_ediv]; generalize o / Nat.gcd o x = t at *; omega⟩
          have hq2 : 0 ≤ (o : Int) / ((Nat.gcd o x : Nat) : Int) * (x : Int) ∧ (o : Int) / ((Nat.gcd o x : Nat) : Int) * (x : Int) ≤ 65536 := by rw [hq]; omega
          have HQ := hide hq; clear hq
          have c2 : wr.cell? ⟨g, k, none⟩ = some (.int .i64 (x : Nat)) := (hbw.cell (p := ⟨g, k, none⟩) hg).trans C1.out
          clear c1'
          go_wp2
          go_region
          all_goals go_wp2
          all_goals go_roundw
          case rel => exact ⟨k + 1, by omega, by go_num, by rw [HS.out, HQ.out], hbw.drew⟩
          case measure => simp [intOf]; omega
    · obtain rfl : k = ls.length := by omega
      rw [List.take_length]
      go_wp2
      go_ret
      exact ⟨rfl, hb⟩
end Go.Proofs.Ytfoaejdbgpgnhaa

namespace Go.Proofs.Ytfoaejdbgpgnhaa
open Go.RowKit

set_option maxRecDepth 100000 in
set_option maxHeartbeats 1000000 in
theorem sCycles_any (p : Nat → Nat) (m : Nat) (hp : PermN p m) (w : World) :
    Calls Try.prog 143 #[.agg (av p), .int .i64 m] w fun e w' => ∃ v, e = .returned v ∧ Below w.heap.size w w' ∧ Own2 w.heap.size w' v (cycs p m) := by
  obtain ⟨hm1, hm2, hbij, _⟩ := hp
  have HB := hide hbij; clear hbij
  obtain ⟨i0, hi, hz0, hz1, hz2⟩ := info_parts info64
  obtain ⟨j0, hj, hy0, hy1, hy2⟩ := info_parts infoSl
  have I0 := hide (And.intro hi (And.intro hz0 (And.intro hz1 hz2))); clear hi hz0 hz1 hz2
  have J0 := hide (And.intro hj (And.intro hy0 (And.intro hy1 hy2))); clear hj hy0 hy1 hy2
  go_enter Try.func143, Try.ntmps143
  go_wp2
  rw [← bv_false]
  go_loopw [5, 7] (fun out i wr => ∃ k : Nat, k ≤ m ∧ i = .int .i64 k ∧ Below w.heap.size w wr ∧ cellsOf wr w.heap.size = av p ∧ wr.heap[w.heap.size + 1 + 1]? = some (.cells (bv (cycs.met p k)) 143 (0, 0)) ∧ Own2 (w.heap.size + 1) wr out (cycs p k))
    (fun _ i _ => m - (intOf i).toNat)
  case atStart =>
    refine ⟨0, by omega, rfl, below3 _ _ _ _, cellsOf_heap (heap2 rfl), heap_at _ _ _ (by simp), [], rfl, ?_, fun i u l h => by simp at h, fun i j u u' _ h => by simp at h⟩
    have h := (own_empty (w.alloc (.cells (av p) 27)) 32 1 (w.heap.size + 1) (by simp)).alloc (.cells (bv fun _ => false) 143)
    simp only [World.size_alloc] at h
    exact h
  case round =>
    obtain ⟨k, hk, rfl, hb, hcp, hhm, hown⟩ := hrel
    by_cases hlt : k < m
    · have hlt16 : k < 16 := by omega
      have l1 : w.heap.size + 1 + 1 < wr.heap.size := by
        rcases Nat.lt_or_ge (w.heap.size + 1 + 1) wr.heap.size with c | c
        · exact c
        · rw [Array.getElem?_eq_none c] at hhm; cases hhm
      obtain ⟨J, hJ16, hJf, hJt, hJc, hJm⟩ := cyc_J HB.out hm2 hlt
      have HC := hide hcp; clear hcp
      have HM := hide hhm; clear hhm
      have HJf := hide hJf; clear hJf
      have HJt := hide hJt; clear hJt
      have HJc := hide hJc; clear hJc
      have HJm := hide hJm; clear hJm
      go_wp2
      obtain ⟨wo, rfl⟩ : ∃ wo : World, wo = wr := ⟨_, rfl⟩
      go_loopg [8, 9] J (fun gd own x wr => ∃ j : Nat, j ≤ J ∧ gd = J - j ∧ x = .int .i64 (it p j k) ∧ it p j k < m ∧ Own1 wo.heap.size wr own (orbTo p k j) ∧
          cellsOf wr w.heap.size = av p ∧ wr.heap[w.heap.size + 1 + 1]? = some (.cells (bv (Mj p (cycs.met p k) k j)) 143 (0, 0)) ∧ wo.grownBy wr (some (w.heap.size + 1 + 1)))
      case atStart => exact ⟨0, by omega, by omega, rfl, hlt, own_empty wo 2 1 _ (Nat.le_refl _), by rw [cellsOf_past (by omega)]; exact HC.out, by rw [heap_past _ _ _ l1, Mj_zero]; exact HM.out, grown_alloc (grown_refl _ _) _⟩
      case round =>
        obtain ⟨j, hj, rfl, rfl, hx, hown1, hcp1, hhm1, hg1⟩ := hrel
        have HCP := hide hcp1; clear hcp1
        have hszs : wo.heap.size ≤ wr.heap.size := hg1.size
        have hcm1 : cellsOf wr (w.heap.size + 1 + 1) = bv (Mj p (cycs.met p k) k j) := cellsOf_heap hhm1
        have HCM := hide hcm1; clear hcm1
        have HH := hide hhm1; clear hhm1
        by_cases hjp : j < J
        · have c0 : wr.cell? ⟨w.heap.size + 1 + 1, it p j k, none⟩ = some (.bool false) := by rw [cell_of_cells, HCM.out, bv_get _ (by omega), HJf.out j hjp]
          have f0 : wr.frozen? ⟨w.heap.size + 1 + 1, it p j k, none⟩ = false := by have := HH.out; simp [World.frozen?, this]
          generalize hX : it p j k = X at *
          have HX := hide hX; clear hX
          have hownA : (wr.setCell ⟨w.heap.size + 1 + 1, X, none⟩ (.bool true)).ownsRow wo.heap.size 2 1 u8 (orbTo p k j).length (nums (orbTo p k j)) := ownsRow_setCell_below hown1 (by show w.heap.size + 1 + 1 < wo.heap.size; omega) _
          have hlen : (orbTo p k j).length = j := orbTo_length p k j
          have HL := hide hlen; clear hlen
          have hX16 : X < 16 := by omega
          go_wp2_with (at_builtin; refine wpList_append_own _ rfl _ _ 32 rfl wo.heap.size 2 i0 (.int .i64 0) 1 8 Try.underlying32 I0.out.1 I0.out.2.1 I0.out.2.2.1 I0.out.2.2.2 rfl (by decide) _ _ _ rfl (hownA.alloc _) ⟨wr.heap.size, 0, none⟩ 1 1 [.int .i64 X] rfl rfl ?c1 ?c2 ?c3 ?c4 ?c5 ?_)
          case c1 => exact one_new _ _ _ _ (by simp)
          case c2 => intro u hu; simp at hu; subst hu; rfl
          case c3 => rw [HL.out]; unfold maxLen; omega
          case c4 => rw [HL.out]; omega
          case c5 => simp; omega
          intro v' w1 hown' hg' _
          have hrow : ∀ g, u8.ownBlock = some g → wo.heap.size ≤ g := fun g hg => (hownA.lt g hg).1
          have G0 := grown_alloc (grown_setCell (i := X) (v := .bool true) hg1) (.cells #[.int .i64 X] 2)
          have G1 := grown_step G0 hg' (fun g hg => .inl (hrow g hg))
          have hpc : cellsOf w1 w.heap.size = av p := by
            rw [grown_cells hg' (by simp; omega) (fun e => by have := hrow _ e.symm; omega), cellsOf_past (by simp; omega), cellsOf_setCell_ne (by omega)]; exact HCP.out
          have hmc : w1.heap[w.heap.size + 1 + 1]? = some (.cells (bv (Mj p (cycs.met p k) k (j + 1))) 143 (0, 0)) := by
            rw [hg'.block _ (by simp; omega) (fun e => by have := hrow _ e.symm; omega), heap_past _ _ _ (by simp; omega), heap_setCell_same _ _ _ _ _ _ HH.out, bv_set, ← HX.out, Mj_step]
          have hpx : p X < m := HB.out.1 X hx
          have c2 : w1.cell? ⟨w.heap.size, X, none⟩ = some (.int .u8 (p X)) := by rw [cell_of_cells, hpc, av_get p hX16]
          have hO : Own1 wo.heap.size w1 v' (orbTo p k (j + 1)) := by
            rw [orbTo_step, HX.out]
            unfold Own1 nums at *
            simpa using hown'
          have hit : it p (j + 1) k = p X := by rw [← HX.out]; rfl
          have H1 := hide hpc; clear hpc
          have H2 := hide hmc; clear hmc
          have HIT := hide hit; clear hit
          clear hown' hg' G0 hownA hrow c0 f0
          go_wp2
          go_roundg (J - (j + 1))
          case measure => omega
          case rel => exact ⟨j + 1, by omega, rfl, by rw [HIT.out], by rw [HIT.out]; exact hpx, hO, H1.out, H2.out, G1⟩
        · obtain rfl : j = J := by omega
          have hX16 : it p j k < 16 := by omega
          have c0 : wr.cell? ⟨w.heap.size + 1 + 1, it p j k, none⟩ = some (.bool true) := by rw [cell_of_cells, HCM.out, bv_get _ hX16, HJt.out]
          obtain ⟨A, cc, rfl⟩ := own_slice hown1
          have hll : (orbTo p k j).length = j := orbTo_length p k j
          rw [hll]
          have HL := hide hll; clear hll
          have hbr : Below w.heap.size w wr := hb.grown hg1 hb.size (fun g hg => by simp at hg; omega)
          obtain ⟨vs, hvl, ho0, hi0, hd0⟩ := hown
          have hC : ∀ (i : Nat) (x : Value), vs[i]? = some x → ∀ g, x.ownBlock = some g → g < wo.heap.size := by
            intro i x hx1 g hg
            have : i < (cycs p k).length := by rw [← hvl]; exact (List.getElem?_eq_some_iff.1 hx1).1
            exact (World.ownsRow.lt (hi0 i x _ hx1 (List.getElem?_eq_getElem this)) g hg).2
          have hk2 : Own2 (w.heap.size + 1) wr u5 (cycs p k) := Own2.keptBlk ⟨vs, hvl, ho0, hi0, hd0⟩ hg1 HM.out (by decide) (by decide)
          have ho1 := ho0.kept hg1 (own_ne_blk ho0 HM.out (by decide))
          have hi1 : ∀ (i : Nat) (u : Value) (l : List Nat), vs[i]? = some u → (cycs p k)[i]? = some l → Own1 (w.heap.size + 1) wr u l := fun i u l h1 h2 => (hi0 i u l h1 h2).kept hg1 (own_ne_blk (hi0 i u l h1 h2) HM.out (by decide))
          have hvs16 : vs.length ≤ 16 := by rw [hvl]; exact cycs_len_le HB.out hm2 (by omega)
          have HVL := hide hvl; clear hvl
          have HI := hide hi1; clear hi1 hi0
          have HD := hide hd0; clear hd0
          have HCC := hide hC; clear hC
          have HO := hide hk2; clear hk2
          clear ho0
          by_cases hj0 : j = 0
          · have H00 := hide hj0
            have hd : decide (0 < j) = false := by simp; omega
            clear hj0
            go_wp2
            go_roundw
            case rel => exact ⟨k + 1, by omega, by go_num, hbr, HCP.out, by rw [HJm.out]; exact HH.out, by rw [HJc.out, if_pos H00.out]; exact HO.out⟩
            case measure => simp [intOf]; omega
          · have hd : decide (0 < j) = true := by simp; omega
            have hjp0 : 0 < j := by omega
            go_wp2_with (at_builtin; refine wpList_append_own _ rfl _ _ 42 rfl (w.heap.size + 1) 32 j0 (.slice none 0 0) 1 24 Try.underlying42 J0.out.1 J0.out.2.1 J0.out.2.2.1 J0.out.2.2.2 rfl (by decide) _ _ _ rfl (ho1.alloc _) ⟨wr.heap.size, 0, none⟩ 1 1 [.slice A j cc] rfl rfl ?d1 ?d2 ?d3 ?d4 ?d5 ?_)
            case d1 => exact one_new _ _ _ _ (by simp)
            case d2 => intro u hu; simp at hu; subst hu; rfl
            case d3 => unfold maxLen; omega
            case d4 => omega
            case d5 => simp; omega
            intro v' w1 hown' hg' _
            have hrow : ∀ g, u5.ownBlock = some g → w.heap.size + 1 ≤ g := fun g hg => (ho1.lt g hg).1
            have hnm := own_ne_blk ho1 HH.out (by decide)
            have hpc : cellsOf w1 w.heap.size = av p := by
              rw [grown_cells hg' (by simp; omega) (fun e => by have := hrow _ e.symm; omega), cellsOf_past (by omega)]; exact HCP.out
            have hmc : w1.heap[w.heap.size + 1 + 1]? = some (.cells (bv (cycs.met p (k + 1))) 143 (0, 0)) := by
              rw [hg'.block _ (by simp; omega) (fun e => by rcases hnm with c | c; rw [c] at e; cases e; exact c e.symm), heap_past _ _ _ (by omega), HJm.out]; exact HH.out
            have hbw : Below w.heap.size w w1 := (hbr.alloc hbr.size _).grown hg' (by have := hbr.size; simp; omega) (fun g hg => by have := hrow g hg; omega)
            have hOO : Own2 (w.heap.size + 1) w1 v' (cycs p (k + 1)) := by
              rw [HJc.out, if_neg hj0]
              have hown1' : Own1 wo.heap.size wr (.slice A j cc) (orbTo p k j) := by have := hown1; rwa [HL.out] at this
              exact Own2.add HVL.out (ho1.alloc _) (fun i u l h1 h2 => World.ownsRow.alloc (HI.out i u l h1 h2) _) HD.out (World.ownsRow.alloc hown1' _) (by omega) HCC.out hown' hg'
            have H1 := hide hpc; clear hpc
            have H2 := hide hmc; clear hmc
            have H3 := hide hOO; clear hOO
            clear hown' hg' ho1 hrow c0 hnm
            go_wp2
            go_roundw
            case rel => exact ⟨k + 1, by omega, by go_num, hbw, H1.out, H2.out, H3.out⟩
            case measure => simp [intOf]; omega
    · obtain rfl : k = m := by omega
      clear hlt hk hcp hhm
      go_wp2
      go_ret
      exact ⟨_, rfl, hb, hown.mono (by omega)⟩
end Go.Proofs.Ytfoaejdbgpgnhaa

namespace Go.Proofs.Ytfoaejdbgpgnhaa
open Go.RowKit

@[irreducible] def cv (f : Nat → Nat) : Array Value := row 17 fun i => .int .i64 (f i)
theorem cv_size (f : Nat → Nat) : (cv f).size = 17 := by unfold cv; exact row_size _ _
theorem cv_get (f : Nat → Nat) {i : Nat} (h : i < 17) : (cv f)[i]? = some (.int .i64 (f i)) := by unfold cv; exact row_get _ _ h
theorem cv_set (f g : Nat → Nat) (i : Nat) (x : Int) (hx : x = g i) (h : ∀ j, j ≠ i → g j = f j) : (cv f).setIfInBounds i (.int .i64 x) = cv g := by
  unfold cv
  rw [row_set]
  refine row_congr fun j _ => ?_
  show (if j = i then _ else _) = _
  split
  · rename_i e; subst e; rw [hx]
  · rename_i e; rw [h j e]
theorem cv_cells (f : Nat → Nat) : (cv f).all (·.oneCell') = true := by unfold cv row; simp [Value.oneCell']
theorem cv_zero : cv (fun _ => 0) = #[.int .i64 0, .int .i64 0, .int .i64 0, .int .i64 0, .int .i64 0, .int .i64 0, .int .i64 0, .int .i64 0, .int .i64 0, .int .i64 0, .int .i64 0, .int .i64 0, .int .i64 0, .int .i64 0, .int .i64 0, .int .i64 0, .int .i64 0] := by
  unfold cv row; rfl
/-- how many of the first k lists have each length -/
def cntF (ls : List (List Nat)) (k : Nat) : Nat → Nat := fun l => ((ls.take k).map List.length).count l
theorem cntF_zero (ls : List (List Nat)) : cntF ls 0 = fun _ => 0 := by funext l; simp [cntF]
theorem cntF_step {ls : List (List Nat)} {k : Nat} (hk : k < ls.length) (l : Nat) : cntF ls (k + 1) l = cntF ls k l + if ls[k].length = l then 1 else 0 := by
  unfold cntF
  rw [List.take_succ_eq_append_getElem hk, List.map_append, List.count_append]
  congr 1
  simp [List.count_singleton]
theorem cntF_le (ls : List (List Nat)) (k l : Nat) : cntF ls k l ≤ ls.length := by
  unfold cntF
  refine Nat.le_trans List.count_le_length ?_
  simp; omega
theorem aggC : AggT 149 17 := ⟨⟨_, Try.underlying149, rfl⟩, by kernel_rfl⟩
def Is17 (c : Array Value) : Prop := c.size = 17
@[go_sem] theorem is17_cv (f : Nat → Nat) : Is17 (cv f) ↔ True := ⟨fun _ => trivial, fun _ => cv_size f⟩
@[go_sem] theorem ones_cv (f : Nat → Nat) : Ones (cv f) ↔ True := ⟨fun _ => trivial, fun _ => cv_cells f⟩

set_option maxRecDepth 100000 in
set_option maxHeartbeats 1000000 in
theorem sType_any (p : Nat → Nat) (m : Nat) (hp : PermN p m) (w : World) :
    Calls Try.prog 86 #[.agg (av p), .int .i64 m] w fun e w' => ∃ v, e = .returned v ∧ Below w.heap.size w w' ∧ Own1 w.heap.size w' v (sortD (lens p m)) := by
  have C := hide fun w => sCycles_any p m hp w
  have hle := cycs_len_le hp.2.2.1 hp.2.1 (Nat.le_refl m)
  have hm16 := hp.2.1
  have hls : ∀ l ∈ cycs p m, 1 ≤ l.length ∧ l.length ≤ m := fun l hl => lens_pos hp.2.2.1 hp.2.1 (List.mem_map_of_mem hl)
  have hD : countD (lens p m) m = sortD (lens p m) := countD_sort fun x hx => lens_pos hp.2.2.1 hp.2.1 hx
  have hDl : (countD (lens p m) m).length ≤ 16 := by rw [hD, (sortD_perm _).length_eq]; unfold lens; rw [List.length_map]; exact hle
  have hcnt : ∀ l, cntF (cycs p m) (cycs p m).length l = (lens p m).count l := fun l => by unfold cntF lens; rw [List.take_length]
  rw [← hD]
  clear hD hp
  generalize lens p m = D at *
  have HC := hide hcnt; clear hcnt
  have HL := hide hls; clear hls
  have HD := hide hDl; clear hDl
  obtain ⟨i0, hi, hz0, hz1, hz2⟩ := info_parts info64
  have I0 := hide (And.intro hi (And.intro hz0 (And.intro hz1 hz2))); clear hi hz0 hz1 hz2
  go_enter Try.func86, Try.ntmps86
  go_wp2_with fail
  refine (C.out _).mono ?_
  rintro e w2 ⟨v, rfl, hb, ho⟩
  generalize cycs p m = ls at *
  obtain ⟨A, c, rfl⟩ := ho.form
  obtain ⟨vs, hv⟩ := own2v.1 ho
  clear ho
  have HV := hide hv; clear hv
  have b2 := (below1 w _).trans (hb.mono (by simp))
  have s2 := b2.size
  clear hb
  go_wp2
  rw [← cv_zero]
  go_loopw [8] (fun i wr => ∃ k : Nat, k ≤ ls.length ∧ i = .int .i64 k ∧ wr = (w2.alloc (.cells #[] 2)).alloc (.cells (cv (cntF ls k)) 149)) (fun i _ => ls.length - (intOf i).toNat)
  case atStart => exact ⟨0, by omega, rfl, by rw [cntF_zero]⟩
  case round =>
    obtain ⟨k, hk, rfl, rfl⟩ := hrel
    by_cases hlt : k < ls.length
    · obtain ⟨g, A', c', rfl, hg, _, c1, _⟩ := HV.out.at hlt
      have hx := HL.out ls[k] (List.getElem_mem hlt)
      have hst := cntF_step hlt
      have hcl := cntF_le ls k
      generalize ls[k].length = x at *
      have h4 := cv_get (cntF ls k) (i := x) (by omega)
      have h3 := cv_set (cntF ls k) (cntF ls (k + 1)) x ((cntF ls k x : Nat) + 1 : Int) (by rw [hst x, if_pos rfl]; simp) (fun j hj => by rw [hst j, if_neg (fun e => hj e.symm)]; rfl)
      have hclx := hcl x
      have HST := hide hst; clear hst hcl
      generalize cntF ls k x = y at *
      go_wp2
      go_roundw
      case rel => exact ⟨k + 1, by omega, by go_num, rfl⟩
      case measure => simp [intOf]; omega
    · obtain rfl : k = ls.length := by omega
      clear hlt hk HV
      have hcf : cntF ls ls.length = fun l => D.count l := by funext l; exact HC.out l
      rw [hcf]
      clear hcf HC HL
      go_wp2
      go_loopw [7, 9] (fun out k wr => ∃ (j : Nat) (S : List Nat), j ≤ m ∧ k = .int .i64 j ∧ S ++ countD D j = countD D m ∧ Below w.heap.size w wr ∧ w2.heap.size + 1 < wr.heap.size ∧ wr.heap[w2.heap.size + 1]? = some (.cells (cv fun l => D.count l) 149 (0, 0)) ∧ Own1 w2.heap.size wr out S) (fun _ k _ => (intOf k).toNat)
      case atStart => exact ⟨m, [], by omega, rfl, rfl, (b2.alloc (by omega) _).alloc (by simp; omega) _, by simp, heap_at _ _ _ (by simp), (own_empty w2 2 1 _ (Nat.le_refl _)).alloc _⟩
      case round =>
        obtain ⟨j, S, hj, rfl, hS, hb, hsz, hh, hown⟩ := hrel
        by_cases hj0 : 0 < j
        · obtain ⟨i, hi⟩ : ∃ i, j = i + 1 := ⟨j - 1, by omega⟩
          have hcD : countD D j = List.replicate (D.count j) j ++ countD D i := by subst hi; rfl
          rw [hcD] at hS
          clear hcD
          have hi1 : i ≤ m := by omega
          have HI := hide hi; clear hi
          have hjd : decide ((0 : Int) < (j : Int)) = true := by simp; omega
          have hD16 := HD.out
          have hlen : S.length + (D.count j) ≤ 16 := by
            have := congrArg List.length hS
            rw [List.length_append, List.length_append, List.length_replicate] at this
            omega
          have c1 : wr.cell? ⟨w2.heap.size + 1, j, none⟩ = some (.int .i64 (D.count j)) := by rw [cell_of_cells, cellsOf_heap hh, cv_get _ (by omega)]
          have HH := hide hh; clear hh
          have HS := hide hS; clear hS
          obtain ⟨y, hy⟩ : ∃ y, y = D.count j := ⟨_, rfl⟩
          rw [← hy] at c1 hlen
          have HY := hide hy; clear hy
          go_wp2
          clear c1
          obtain ⟨wo, rfl⟩ : ∃ wo : World, wo = wr := ⟨_, rfl⟩
          go_loopg [7, 10] y (fun gd out c wr => ∃ (b : Nat) (T : List Nat), gd = b ∧ c = .int .i64 b ∧ T.length + b ≤ 16 ∧ T ++ List.replicate b j ++ countD D i = countD D m ∧ Below w.heap.size w wr ∧ w2.heap.size + 1 < wr.heap.size ∧ wr.heap[w2.heap.size + 1]? = some (.cells (cv fun l => D.count l) 149 (0, 0)) ∧ Own1 w2.heap.size wr out T)
          case atStart => exact ⟨y, S, rfl, rfl, hlen, by rw [HY.out, List.append_assoc]; exact HS.out, hb, hsz, HH.out, hown⟩
          case round =>
            clear hb hsz HH hown HS
            obtain ⟨b, T, hgd, rfl, hTl, hT, hbw, hsw, hhw, how⟩ := hrel
            have HW := hide hhw; clear hhw
            have HT := hide hT; clear hT
            by_cases hb0 : 0 < b
            · have hb1 : decide ((0 : Int) < (b : Int)) = true := by simp; omega
              have how' := how
              unfold Own1 at how'
              have hTl' : T.length ≤ 15 := by omega
              go_wp2_with (at_builtin; refine wpList_append_own _ rfl _ _ 32 rfl w2.heap.size 2 i0 (.int .i64 0) 1 8 Try.underlying32 I0.out.1 I0.out.2.1 I0.out.2.2.1 I0.out.2.2.2 rfl (by decide) _ _ _ rfl (how'.alloc _) ⟨wr.heap.size, 0, none⟩ 1 1 [.int .i64 j] rfl rfl ?c1 ?c2 ?c3 ?c4 ?c5 ?_)
              case c1 => exact one_new _ _ _ _ (by simp)
              case c2 => intro u hu; simp at hu; subst hu; rfl
              case c3 => unfold maxLen; omega
              case c4 => omega
              case c5 => simp; omega
              intro v' w1 hown' hg' _
              have hnm := own_ne_blk how' HW.out (by decide)
              have hs1 : wr.heap.size + 1 ≤ w1.heap.size := by have := hg'.size; simpa using this
              have hmc : w1.heap[w2.heap.size + 1]? = some (.cells (cv fun l => D.count l) 149 (0, 0)) := by
                rw [hg'.block _ (by simp; omega) (fun e => by rcases hnm with c | c; rw [c] at e; cases e; exact c e.symm), heap_past _ _ _ (by omega)]; exact HW.out
              have hbw1 : Below w.heap.size w w1 := (hbw.alloc (by omega) _).grown hg' (by simp; omega) (fun g hg => by have := (how'.lt g hg).1; omega)
              have hO : Own1 w2.heap.size w1 v' (T ++ [j]) := by
                unfold Own1 nums at *
                simpa using hown'
              have hTT : (T ++ [j]) ++ List.replicate (b - 1) j ++ countD D i = countD D m := by
                rw [← HT.out]
                obtain ⟨b, rfl⟩ : ∃ b', b = b' + 1 := ⟨b - 1, by omega⟩
                simp [List.replicate_succ]
              have H1 := hide hmc; clear hmc
              have H2 := hide hTT; clear hTT
              clear hown' hg' how' hnm
              go_wp2
              go_roundg (b - 1)
              case measure => omega
              case rel => exact ⟨b - 1, T ++ [j], rfl, by go_num, by simp; omega, H2.out, hbw1, by omega, H1.out, hO⟩
            · obtain rfl : b = 0 := by omega
              go_wp2
              go_roundw
              case rel => exact ⟨i, T, hi1, by have := HI.out; go_num, by simpa using HT.out, hbw, hsw, HW.out, how⟩
              case measure => have := HI.out; simp [intOf]; omega
        · obtain rfl : j = 0 := by omega
          clear hh
          have hO : Own1 w.heap.size wr u7 (countD D m) := by rw [← hS]; simpa [countD] using hown.mono s2
          clear hS hown
          go_wp2
          go_ret
          exact ⟨_, rfl, hb, hO⟩
end Go.Proofs.Ytfoaejdbgpgnhaa

namespace Go.Proofs.Ytfoaejdbgpgnhaa
open Go.RowKit

theorem lcms_sortD (l : List Nat) : lcms (sortD l) = lcms l := by
  refine Nat.dvd_antisymm ((lcms_dvd _ _).2 fun x hx => (lcms_dvd l _).1 (Nat.dvd_refl _) x ((sortD_perm l).mem_iff.1 hx)) ((lcms_dvd _ _).2 fun x hx => (lcms_dvd (sortD l) _).1 (Nat.dvd_refl _) x ((sortD_perm l).mem_iff.2 hx))
theorem own1_form {B : Nat} {w : World} {v : Value} {l : List Nat} (h : Own1 B w v l) : ∃ A c, v = .slice A l.length c := by
  obtain ⟨A, c, e⟩ := own_slice h
  exact ⟨A, c, e⟩

-- left out here: loop.example/g01200/spec.OrderOf
theorem ordR_eq (p : Nat → Nat) (n : Int) : ∃ a c : Int, ordR p n = .tuple #[.int .i64 a, .int .i64 c] := by
  unfold ordR; split
  · exact ⟨_, _, rfl⟩
  · exact ⟨_, _, rfl⟩

-- left out here: loop.example/g01200/laws.FnExactOrderOf
end Go.Proofs.Ytfoaejdbgpgnhaa

namespace Go.Proofs.Ytfoaejdbgpgnhaa
open Go.RowKit

def pick3 (f g h : Nat → Nat) (k : Nat) : Nat → Nat := if k = 0 then f else if k = 1 then g else h
@[irreducible] def tv (f g h : Nat → Nat) : Array Value := row 48 fun i => if i < 16 then .int .u8 (f i) else if i < 32 then .int .u8 (g (i - 16)) else .int .u8 (h (i - 32))
theorem tv_size (f g h : Nat → Nat) : (tv f g h).size = 48 := by unfold tv; exact row_size _ _
theorem tv_cases (f g h : Nat → Nat) (i : Nat) : (tv f g h)[i]? = if i < 48 then some (if i < 16 then .int .u8 (f i) else if i < 32 then .int .u8 (g (i - 16)) else .int .u8 (h (i - 32))) else none := by
  unfold tv
  by_cases c : i < 48
  · rw [row_get _ _ c, if_pos c]
  · rw [row_none _ _ c, if_neg c]
theorem tv_cells (f g h : Nat → Nat) : (tv f g h).all (·.oneCell') = true := by
  unfold tv row
  simp only [List.all_toArray, List.all_map, List.all_eq_true, Function.comp]
  intro i _
  split
  · rfl
  · split <;> rfl
theorem tv_part (f g h : Nat → Nat) {k : Nat} (hk : k < 3) : (tv f g h).extract (k * 16) (k * 16 + 16) = av (pick3 f g h k) := by
  apply Array.ext_getElem?
  intro i
  rw [Array.getElem?_extract, tv_cases, av_cases, tv_size]
  by_cases c : i < 16
  · rw [if_pos (by omega), if_pos (by omega), if_pos c]
    unfold pick3
    have : k = 0 ∨ k = 1 ∨ k = 2 := by omega
    rcases this with rfl | rfl | rfl
    · simp [c]
    · have h1 : ¬ 16 + i < 16 := by omega
      have h2 : 16 + i < 32 := by omega
      have h3 : 16 + i - 16 = i := by omega
      simp [h1, h2, h3]
    · have h1 : ¬ 32 + i < 16 := by omega
      have h2 : ¬ 32 + i < 32 := by omega
      have h3 : 32 + i - 32 = i := by omega
      simp [h1, h2, h3]
  · rw [if_neg (by omega), if_neg c]
theorem aggT : AggT 98 48 := ⟨⟨_, Try.underlying98, rfl⟩, by kernel_rfl⟩
def Is48 (c : Array Value) : Prop := c.size = 48
@[go_sem] theorem is48_tv (f g h : Nat → Nat) : Is48 (tv f g h) ↔ True := ⟨fun _ => trivial, fun _ => tv_size f g h⟩
@[go_sem] theorem ones_tv (f g h : Nat → Nat) : Ones (tv f g h) ↔ True := ⟨fun _ => trivial, fun _ => tv_cells f g h⟩

/-- an entry of it by value -/
def idxT (v i : Value) : Sem Next := do pure (.value (← Instr.index 98 v i))
theorem run_idx3 (f g h : Nat → Nat) {k : Nat} (hk : k < 3) (w : World) : (Instr.index 98 (.agg (tv f g h)) (.int .i64 k)).run Try.prog w = .ok (.agg (av (pick3 f g h k))) w := by
  obtain ⟨d, hd, hd'⟩ := aggP.und
  have hz : Try.prog.cellsOf 27 = 16 := by kernel_rfl
  have hn : (Try.prog.info? 27).map (·.size) = some 16 := infoP
  rcases hi : Try.prog.info? 27 with _ | it
  · rw [hi] at hn; cases hn
  · have hb : (0 : Int) ≤ (k : Int) ∧ (k : Int) < ((3 : Nat) : Int) := by omega
    have ha : (isAgg 27).run Try.prog w = .ok true w := by
      cases d <;> first | (simp at hd'; done) | simp [isAgg, run_underlying hd]
    have hz' : (sizeOf 27).run Try.prog w = .ok 16 w := by rw [run_sizeOf w hi, hz]
    simp only [Instr.index, asIntOf, run_underlying Try.underlying98, Sem.run_bind, Sem.run_pure, Result.andThen_ok]
    rw [if_pos hb]
    simp only [part, Sem.run_bind, hz', ha, Result.andThen_ok, if_true, Sem.run_pure, Int.toNat_natCast, tv_part f g h hk]
section
variable (ρ : Operand → Value) (dst : Option Tmp) (x y : Operand) (ty : TypeId) (pos : String) (after : Array Edge) (guard : Option (Nat × Bool))
@[go_sem ↓] theorem exec_idxT : execOp ρ { dst, op := .index 98 x y, type := ty, pos, after, guard } = idxT (ρ x) (ρ y) := rfl
@[go_sem ↓] theorem exec_storeT : execOp ρ { dst, op := .store 98 x y, type := ty, pos, after, guard } = storeT 98 (ρ x) (ρ y) := rfl
end
@[go_sem] theorem run_idxT (f g h : Nat → Nat) {k : Nat} (hk : k < 3) (w : World) : (idxT (.agg (tv f g h)) (.int .i64 k)).run Try.prog w = .ok (.value (.agg (av (pick3 f g h k)))) w := by
  simp only [idxT, Sem.run_bind, run_idx3 f g h hk w, Result.andThen_ok, Sem.run_pure]
@[go_sem] theorem run_storeT3 {w : World} {g : Nat} {cs : Array Value} (h : rowOk w g 48) (hs : Is48 cs) (hc : Ones cs) :
    (storeT 98 (.pointer (some ⟨g, 0, none⟩)) (.agg cs)).run Try.prog w = .ok .skip (w.setRow g cs) := run_storeT aggT h hs hc

set_option maxRecDepth 100000 in
theorem builtT (f g h : Nat → Nat) : Try.prog.built 98 [(0, .agg (av f)), (1, .agg (av g)), (2, .agg (av h))] = some (tv f g h) := by
  have hu := Try.underlying98
  have hz : (Try.prog.info? 98).map (·.zero) = some (some (.agg (tv (fun _ => 0) (fun _ => 0) (fun _ => 0)))) := by unfold tv row; kernel_rfl
  have hn : (Try.prog.info? 27).map (·.size) = some 16 := infoP
  unfold Program.built
  rcases hi : Try.prog.info? 98 with _ | it
  · rw [hi] at hz; cases hz
  · rcases hj : Try.prog.info? 27 with _ | ip
    · rw [hj] at hn; cases hn
    · rw [hi] at hz
      rw [hj] at hn
      have hz' : it.zero = some (.agg (tv (fun _ => 0) (fun _ => 0) (fun _ => 0))) := by simpa using hz
      have hn' : ip.size = 16 := by simpa using hn
      rw [hu]
      simp only [hz', hj, hn', Instr.fill, Value.cells, Nat.zero_mul, Nat.one_mul, av_size, splice_eq, splice_size, tv_size]
      rw [if_neg (by simp), if_neg (by simp), if_neg (by simp)]
      congr 1
      apply Array.ext_getElem?
      intro i
      have l1 : (av f).toList.length = 16 := by simpa using av_size f
      have l2 : (av g).toList.length = 16 := by simpa using av_size g
      have l3 : (av h).toList.length = 16 := by simpa using av_size h
      rw [foldset, foldset, foldset, tv_cases, tv_cases, splice_size, splice_size, tv_size, l1, l2, l3, Array.getElem?_toList, Array.getElem?_toList, Array.getElem?_toList, av_cases, av_cases, av_cases]
      by_cases h1 : i < 16
      · rw [if_neg (by omega), if_neg (by omega), if_pos (by omega), if_pos (by omega), if_pos (by omega), if_pos h1]; simp
      · by_cases h2 : i < 32
        · rw [if_neg (by omega), if_pos (by omega), if_pos (by omega), if_pos (by omega), if_neg h1, if_pos h2]
        · by_cases h3 : i < 48
          · rw [if_pos (by omega), if_pos (by omega), if_pos h3, if_neg h1, if_neg h2]
          · rw [if_neg (by omega), if_neg (by omega), if_neg (by omega), if_neg h3, if_neg h3]
def buildT (ps : Array (Nat × Value)) : Sem Next := do pure (.value (← Instr.build 98 ps))
@[go_sem ↓] theorem exec_buildT (ρ : Operand → Value) (dst : Option Tmp) (parts : Array (Nat × Operand)) (ty : TypeId) (pos : String) (after : Array Edge) (guard : Option (Nat × Bool)) :
    execOp ρ { dst, op := .build 98 parts, type := ty, pos, after, guard } = buildT (parts.map fun (i, x) => (i, ρ x)) := rfl
@[go_sem] theorem run_buildT (f g h : Nat → Nat) (w : World) : (buildT #[(0, .agg (av f)), (1, .agg (av g)), (2, .agg (av h))]).run Try.prog w = .ok (.value (.agg (tv f g h))) w := by
  simp only [buildT, Sem.run_bind, run_build (P := Try.prog) w 98 #[(0, .agg (av f)), (1, .agg (av g)), (2, .agg (av h))] _ (builtT f g h), Result.andThen_ok, Sem.run_pure]

set_option maxRecDepth 100000 in
set_option maxHeartbeats 1000000 in
theorem turnsOf_any (f g : Nat → Nat) (m : Nat) (hd : DesN f g m) (w : World) :
    Calls Try.prog 94 #[.agg (dv m f g)] w fun e w' => e = .returned (.agg (tv f g (faceF f g m))) ∧ Below w.heap.size w w' := by
  have C1 := hide fun w => face_any f g m hd.le hd.bf.1 hd.bg.1 w
  generalize faceF f g m = F at *
  clear hd
  have hn := dv_n m f g
  go_enter Try.func94, Try.ntmps94
  go_wp2
  generalize hW : (w.alloc (.cells (dv m f g) 29)).alloc _ = W
  have c0 : cellsOf W w.heap.size = dv m f g := by rw [← hW]; exact cellsOf_heap (heap1 rfl)
  have r1 : rowOk W (w.heap.size + 1) 48 := by rw [← hW]; exact ⟨_, _, heap_at _ _ _ (by simp), by simp⟩
  have b0 : Below w.heap.size w W := by rw [← hW]; exact below2 _ _ _
  have l0 : w.heap.size < W.heap.size := by rw [← hW]; simp <;> omega
  clear hW
  refine region_tail (Grown W) 7 (by kernel_rfl) (by kernel_rfl) (Grown.drew W) ?_
  simp only [List.take_succ_cons, List.take_zero, List.drop_succ_cons, List.drop_zero]
  iterate 7
    apply q_step
    · go_simp
    · intro wx hx
      have e0 := hx.cells c0 l0
      have n0 : wx.cell? ⟨w.heap.size, 0, none⟩ = some (.int .i64 m) := by rw [cell_of_cells, e0]; exact hn
      first
        | (go_simp; exact rfl)
        | (go_simp; go_at_call 151; exact Calls.mono (C1.out wx) fun e w' h => ⟨h.1, hx.call h.2⟩)
  refine wpQuiet_nil ?_
  intro w1 hx
  have r2 := hx.row r1
  have b2 : Below w.heap.size w w1 := b0.trans (Below.mono hx b0.size)
  clear c0 r1 b0 l0 hx
  go_wp2
  obtain ⟨t, ht, _⟩ := r2.heap
  exact res_agg (p := 2) (g := w.heap.size + 1) aggT (tv_size f g F) rfl rfl rfl (setRow_heap _ _ _ _ t (0, 0) ht) ⟨rfl, below_setRow b2 (by omega) _⟩
end Go.Proofs.Ytfoaejdbgpgnhaa

namespace Go.Proofs.Ytfoaejdbgpgnhaa
open Go.RowKit

theorem tuple2 {a b c d : Value} (h1 : a = c) (h2 : b = d) : Ending.returned (.tuple #[a, b]) = .returned (.tuple #[c, d]) := by rw [h1, h2]
theorem cycs_le {p : Nat → Nat} {m : Nat} (hp : PermN p m) : (cycs p m).length ≤ m := by
  rw [cycs_length hp.2.2.1 hp.2.1]; exact orb_le p m

-- left out here: loop.example/g01200/impl.countCycles
end Go.Proofs.Ytfoaejdbgpgnhaa

namespace Go.Proofs.Ytfoaejdbgpgnhaa
open Go.RowKit

/-- the numbers of cycles of the three, and less the darts -/
def cyN (f g : Nat → Nat) (m : Nat) (k : Nat) : Nat := (cycs (pick3 f g (faceF f g m) k) m).length
def sumTo (L : Nat → Nat) (m : Nat) : Nat → Int
  | 0 => -(m : Int)
  | k + 1 => sumTo L m k + L k
def eulN (f g : Nat → Nat) (m : Nat) : Int := sumTo (cyN f g m) m 3
theorem DesN.pick {f g : Nat → Nat} {m : Nat} (h : DesN f g m) (k : Nat) : PermN (pick3 f g (faceF f g m) k) m := by
  unfold pick3
  split
  · exact h.black
  · split
    · exact h.white
    · exact h.face
theorem sumTo_bound {L : Nat → Nat} {m : Nat} (hm : m ≤ 16) (hL : ∀ k, L k ≤ 16) : ∀ k, -16 ≤ sumTo L m k ∧ sumTo L m k ≤ 16 * k := by
  intro k
  induction k with
  | zero => simp [sumTo]; omega
  | succ k ih =>
    have := hL k
    show -16 ≤ sumTo L m k + L k ∧ sumTo L m k + L k ≤ _
    omega

-- left out here: loop.example/g01200/impl.euler
end Go.Proofs.Ytfoaejdbgpgnhaa

namespace Go.Proofs.Ytfoaejdbgpgnhaa
open Go.RowKit

def passN (f g : Nat → Nat) (m : Nat) : List (List Nat) := [sortD (lens f m), sortD (lens g m), sortD (lens (faceF f g m) m)]

theorem Own1.old {B : Nat} {w0 w1 w : World} {v : Value} {l : List Nat} (h : Own1 B w0 v l) (h1 : Grown w0 w1) (h2 : Grown w1 w) : Own1 B w v l :=
  h.kept (grown_of_below (Grown.trans h1 h2) none) (by rcases v.ownBlock with _ | g; exact .inl rfl; exact .inr (by simp))
theorem Own1.apart {B : Nat} {w0 w1 : World} {v u : Value} {l k : List Nat} (h : Own1 B w0 v l) (hu : Own1 w0.heap.size w1 u k) : v.ownBlock = none ∨ v.ownBlock ≠ u.ownBlock := by
  rcases hv : v.ownBlock with _ | g
  · exact .inl rfl
  · refine .inr fun e => ?_
    have a := (World.ownsRow.lt h g hv).2
    have b := (World.ownsRow.lt hu g e.symm).1
    omega
theorem apart_symm {v u : Value} (h : v.ownBlock = none ∨ v.ownBlock ≠ u.ownBlock) : u.ownBlock = none ∨ u.ownBlock ≠ v.ownBlock := by
  rcases hu : u.ownBlock with _ | g
  · exact .inl rfl
  · refine .inr fun e => ?_
    rw [hu] at h
    rcases h with c | c
    · rw [c] at e; cases e
    · exact c e.symm

theorem own_lit (w : World) (e : TypeId) (B : Nat) (hB : B ≤ w.heap.size) (xs : List Value) (h : xs.length ≤ 1000) : (w.alloc (.cells xs.toArray e)).ownsRow B e 1 (.slice (some ⟨w.heap.size, 0, none⟩) xs.length xs.length) xs.length xs :=
  ⟨by simp, .inr ⟨w.heap.size, xs.length, xs.toArray, rfl, hB, heap_at _ _ _ rfl, Nat.le_refl _, by unfold maxLen; omega, by simp, by simp⟩⟩
theorem own2_lit3 {B : Nat} {w : World} {v1 v2 v3 : Value} {k1 k2 k3 : List Nat} (hB : B ≤ w.heap.size) (h1 : Own1 B w v1 k1) (h2 : Own1 B w v2 k2) (h3 : Own1 B w v3 k3) (a12 : v1.ownBlock = none ∨ v1.ownBlock ≠ v2.ownBlock) (a13 : v1.ownBlock = none ∨ v1.ownBlock ≠ v3.ownBlock)
    (a23 : v2.ownBlock = none ∨ v2.ownBlock ≠ v3.ownBlock) : Own2 B (w.alloc (.cells #[v1, v2, v3] 32)) (.slice (some ⟨w.heap.size, 0, none⟩) 3 3) [k1, k2, k3] := by
  refine ⟨[v1, v2, v3], rfl, own_lit w 32 B hB [v1, v2, v3] (by simp), ?_, ?_⟩
  · intro i u l e1 e2
    have k : ∀ {v : Value} {l : List Nat}, Own1 B w v l → Own1 B (w.alloc (.cells #[v1, v2, v3] 32)) v l := fun h => World.ownsRow.alloc h _
    match i with
    | 0 => simp at e1 e2; subst e1 e2; exact k h1
    | 1 => simp at e1 e2; subst e1 e2; exact k h2
    | 2 => simp at e1 e2; subst e1 e2; exact k h3
    | n + 3 => simp at e1
  · intro i j u u' hij e1 e2
    match i, j with
    | 0, 0 => omega
    | 0, 1 => simp at e1 e2; subst e1 e2; exact a12
    | 0, 2 => simp at e1 e2; subst e1 e2; exact a13
    | 1, 2 => simp at e1 e2; subst e1 e2; exact a23
    | 1, 0 => omega
    | 1, 1 => omega
    | 2, 0 => omega
    | 2, 1 => omega
    | 2, 2 => omega
    | _, n + 3 => simp at e2
    | n + 3, _ => simp at e1

set_option maxRecDepth 100000 in
set_option maxHeartbeats 1000000 in
theorem sPassport_any (f g : Nat → Nat) (m : Nat) (hd : DesN f g m) (w : World) :
    Calls Try.prog 92 #[.agg (dv m f g)] w fun e w' => ∃ v, e = .returned v ∧ Below w.heap.size w w' ∧ Own2 w.heap.size w' v (passN f g m) := by
  have C1 := hide fun w => sType_any f m hd.black w
  have C2 := hide fun w => sType_any g m hd.white w
  have C3 := hide fun w => sType_any (faceF f g m) m hd.face w
  have CF := hide fun w => sFace_any f g m hd.le hd.bf.1 hd.bg.1 w
  unfold passN
  generalize sortD (lens f m) = k1 at *
  generalize sortD (lens g m) = k2 at *
  generalize sortD (lens (faceF f g m) m) = k3 at *
  generalize faceF f g m = F at *
  clear hd
  have hn := dv_n m f g
  go_enter Try.func92, Try.ntmps92
  go_wp2
  generalize hW : w.alloc (.cells (dv m f g) _) = W
  have c0 : cellsOf W w.heap.size = dv m f g := by rw [← hW]; exact cellsOf_heap (heap_at _ _ _ rfl)
  have b0 : Below w.heap.size w W := by rw [← hW]; exact below1 _ _
  have l0 : w.heap.size < W.heap.size := by rw [← hW]; simp
  clear hW
  refine region_V (w := W) (fun k => if k = 4 then some (fun w v w' => Own1 w.heap.size w' v k1) else if k = 9 then some (fun w v w' => Own1 w.heap.size w' v k2) else if k = 14 then some (fun w v w' => Own1 w.heap.size w' v k3) else if k = 15 then some (fun w v w' => v = .slice (some ⟨w.heap.size, 0, none⟩) 3 3 ∧ Own2 W.heap.size w' v [k1, k2, k3]) else none) (fun _ => false) [4, 9, 14, 15] (.q 0 <| .q 1 <| .q 2 <| .q 3 <| .q 5 <| .q 6 <| .q 7 <| .q 8 <| .q 10 <| .q 12 <| .q 13 <| .s1 4 <| .s1 9 <| .q 11 <| .s1 14 <| .s1 15 <| .q 16 .fin) (by kernel_rfl) (by kernel_rfl) (by kernel_rfl) (fun k hk => ?_) ?_
  · simp at hk; simp [hk]
  apply v_other
  · simp only [List.getElem?_toArray, List.getElem?_cons_zero, List.getElem?_cons_succ]; exact rfl
  · rfl
  · rfl
  · go_simp
  · intro wx hx
    have e0 := hx.cells c0 l0
    have n0 : wx.cell? ⟨w.heap.size, 0, none⟩ = some (.int .i64 m) := by rw [cell_of_cells, e0]; exact hn
    unfold atG
    go_simp
    simp only [uponG]
    exact ⟨by trivial, rfl⟩
  apply v_other
  · simp only [List.getElem?_toArray, List.getElem?_cons_zero, List.getElem?_cons_succ]; exact rfl
  · rfl
  · rfl
  · go_simp
  · intro wx hx
    have e0 := hx.cells c0 l0
    have n0 : wx.cell? ⟨w.heap.size, 0, none⟩ = some (.int .i64 m) := by rw [cell_of_cells, e0]; exact hn
    unfold atG
    go_simp
    simp only [uponG]
    exact ⟨by trivial, rfl⟩
  apply v_other
  · simp only [List.getElem?_toArray, List.getElem?_cons_zero, List.getElem?_cons_succ]; exact rfl
  · rfl
  · rfl
  · go_simp
  · intro wx hx
    have e0 := hx.cells c0 l0
    have n0 : wx.cell? ⟨w.heap.size, 0, none⟩ = some (.int .i64 m) := by rw [cell_of_cells, e0]; exact hn
    unfold atG
    go_simp
    simp only [uponG]
    exact ⟨by trivial, rfl⟩
  apply v_other
  · simp only [List.getElem?_toArray, List.getElem?_cons_zero, List.getElem?_cons_succ]; exact rfl
  · rfl
  · rfl
  · go_simp
  · intro wx hx
    have e0 := hx.cells c0 l0
    have n0 : wx.cell? ⟨w.heap.size, 0, none⟩ = some (.int .i64 m) := by rw [cell_of_cells, e0]; exact hn
    unfold atG
    go_simp
    simp only [uponG]
    exact ⟨by trivial, rfl⟩
  apply v_other
  · simp only [List.getElem?_toArray, List.getElem?_cons_zero, List.getElem?_cons_succ]; exact rfl
  · rfl
  · rfl
  · go_simp
  · intro wx hx
    have e0 := hx.cells c0 l0
    have n0 : wx.cell? ⟨w.heap.size, 0, none⟩ = some (.int .i64 m) := by rw [cell_of_cells, e0]; exact hn
    unfold atG
    go_simp
    simp only [uponG]
    exact ⟨by trivial, rfl⟩
  apply v_other
  · simp only [List.getElem?_toArray, List.getElem?_cons_zero, List.getElem?_cons_succ]; exact rfl
  · rfl
  · rfl
  · go_simp
  · intro wx hx
    have e0 := hx.cells c0 l0
    have n0 : wx.cell? ⟨w.heap.size, 0, none⟩ = some (.int .i64 m) := by rw [cell_of_cells, e0]; exact hn
    unfold atG
    go_simp
    simp only [uponG]
    exact ⟨by trivial, rfl⟩
  apply v_other
  · simp only [List.getElem?_toArray, List.getElem?_cons_zero, List.getElem?_cons_succ]; exact rfl
  · rfl
  · rfl
  · go_simp
  · intro wx hx
    have e0 := hx.cells c0 l0
    have n0 : wx.cell? ⟨w.heap.size, 0, none⟩ = some (.int .i64 m) := by rw [cell_of_cells, e0]; exact hn
    unfold atG
    go_simp
    simp only [uponG]
    exact ⟨by trivial, rfl⟩
  apply v_other
  · simp only [List.getElem?_toArray, List.getElem?_cons_zero, List.getElem?_cons_succ]; exact rfl
  · rfl
  · rfl
  · go_simp
  · intro wx hx
    have e0 := hx.cells c0 l0
    have n0 : wx.cell? ⟨w.heap.size, 0, none⟩ = some (.int .i64 m) := by rw [cell_of_cells, e0]; exact hn
    unfold atG
    go_simp
    simp only [uponG]
    exact ⟨by trivial, rfl⟩
  apply v_other
  · simp only [List.getElem?_toArray, List.getElem?_cons_zero, List.getElem?_cons_succ]; exact rfl
  · rfl
  · rfl
  · go_simp
  · intro wx hx
    have e0 := hx.cells c0 l0
    have n0 : wx.cell? ⟨w.heap.size, 0, none⟩ = some (.int .i64 m) := by rw [cell_of_cells, e0]; exact hn
    unfold atG
    go_simp
    simp only [uponG]
    exact ⟨by trivial, rfl⟩
  apply v_other
  · simp only [List.getElem?_toArray, List.getElem?_cons_zero, List.getElem?_cons_succ]; exact rfl
  · rfl
  · rfl
  · go_simp
  · intro wx hx
    have e0 := hx.cells c0 l0
    have n0 : wx.cell? ⟨w.heap.size, 0, none⟩ = some (.int .i64 m) := by rw [cell_of_cells, e0]; exact hn
    unfold atG
    go_simp
    simp only [uponG]
    exact ⟨by trivial, rfl⟩
  apply v_other
  · simp only [List.getElem?_toArray, List.getElem?_cons_zero, List.getElem?_cons_succ]; exact rfl
  · rfl
  · rfl
  · go_simp
  · intro wx hx
    have e0 := hx.cells c0 l0
    have n0 : wx.cell? ⟨w.heap.size, 0, none⟩ = some (.int .i64 m) := by rw [cell_of_cells, e0]; exact hn
    unfold atG
    go_simp
    simp only [uponG]
    exact ⟨by trivial, rfl⟩
  refine v_E (by simp only [List.getElem?_toArray, List.getElem?_cons_zero, List.getElem?_cons_succ]; exact rfl) rfl (by go_simp) (fun wx hx _ => ?_) ?_
  · go_simp
    simp only [uponE]
    exact ⟨by trivial, (C1.out wx).mono fun e w' ⟨v, h1, h2, h3⟩ => ⟨v, h1, h2, h3⟩⟩
  rintro v1 ⟨_, _, _, ho⟩
  obtain ⟨A1, d1, rfl⟩ := own_slice ho
  clear ho
  refine v_E (by simp only [List.getElem?_toArray, List.getElem?_cons_zero, List.getElem?_cons_succ]; exact rfl) rfl (by go_simp) (fun wx hx _ => ?_) ?_
  · go_simp
    simp only [uponE]
    exact ⟨by trivial, (C2.out wx).mono fun e w' ⟨v, h1, h2, h3⟩ => ⟨v, h1, h2, h3⟩⟩
  rintro v2 ⟨_, _, _, ho⟩
  obtain ⟨A2, d2, rfl⟩ := own_slice ho
  clear ho
  apply v_other
  · simp only [List.getElem?_toArray, List.getElem?_cons_zero, List.getElem?_cons_succ]; exact rfl
  · rfl
  · rfl
  · go_simp
  · intro wx hx
    have e0 := hx.cells c0 l0
    have n0 : wx.cell? ⟨w.heap.size, 0, none⟩ = some (.int .i64 m) := by rw [cell_of_cells, e0]; exact hn
    unfold atG
    go_simp
    simp only [uponG]
    exact ⟨by trivial, CF.out wx⟩
  refine v_E (by simp only [List.getElem?_toArray, List.getElem?_cons_zero, List.getElem?_cons_succ]; exact rfl) rfl (by go_simp) (fun wx hx _ => ?_) ?_
  · go_simp
    simp only [uponE]
    exact ⟨by trivial, (C3.out wx).mono fun e w' ⟨v, h1, h2, h3⟩ => ⟨v, h1, h2, h3⟩⟩
  rintro v3 ⟨_, _, _, ho⟩
  obtain ⟨A3, d3, rfl⟩ := own_slice ho
  clear ho
  refine v_E (by simp only [List.getElem?_toArray, List.getElem?_cons_zero, List.getElem?_cons_succ]; exact rfl) rfl (by go_simp) (fun wx hx hd => ?_) ?_
  · go_simp
    simp only [uponE]
    refine ⟨(Below.refl _ _).alloc (Nat.le_refl _) _, by trivial, ?_⟩
    obtain ⟨w2, w3, ⟨w4, w5, ⟨w6, w7, _, j1, j2, o1, j3⟩, i1, i2, o2, i3⟩, h1, h2, o3, h3⟩ := hd
    have s6 := j1.size
    have s4 := i1.size
    have s2 := h1.size
    have p1 : Own1 W.heap.size w4 _ k1 := (o1.mono s6).old (Below.refl _ _) j3
    have p1' : Own1 W.heap.size w2 _ k1 := p1.old i2 i3
    have p2 : Own1 W.heap.size w2 _ k2 := (o2.mono s4).old (Below.refl _ _) i3
    have q1 := (p1'.old h2 h3)
    have q2 := (p2.old h2 h3)
    have q3 : Own1 W.heap.size wx _ k3 := (o3.mono s2).old (Below.refl _ _) h3
    have a12 := p1.apart o2
    have a13 := p1'.apart o3
    have a23 := p2.apart o3
    exact own2_lit3 hx.size q1 q2 q3 a12 a13 a23
  rintro v4 ⟨_, _, _, rfl, _⟩
  apply v_other
  · simp only [List.getElem?_toArray, List.getElem?_cons_zero, List.getElem?_cons_succ]; exact rfl
  · rfl
  · rfl
  · go_simp
  · intro wx hx
    unfold atG
    go_simp
    simp only [uponG]
    exact ⟨by trivial, rfl⟩
  rintro w1 hx ⟨wa, wb, _, g1, g2, ⟨e1, hO⟩, g3⟩
  have hO1 : Own2 w.heap.size w1 _ [k1, k2, k3] := Own2.mono (hO.kept (grown_of_below g3 none) (fun g hg => by cases hg)) b0.size
  have b1 : Below w.heap.size w w1 := b0.trans (Below.mono hx b0.size)
  clear hO e1 g1 g2 g3 hx c0 l0 b0
  have HO := hide hO1; clear hO1
  go_wp2
  go_simp
  go_ret
  exact ⟨_, rfl, b1, HO.out⟩
end Go.Proofs.Ytfoaejdbgpgnhaa

namespace Go.Proofs.Ytfoaejdbgpgnhaa
open Go.RowKit

-- left out here: loop.example/g01200/spec.l01Euler
noncomputable def eulerR (n : Int) (f g : Nat → Nat) : Value := if desB n f g = true then .tuple #[.int .i64 (eulN f g n.toNat), .int .i64 0] else .tuple #[.int .i64 0, .int .i64 1]
noncomputable def genusR (n : Int) (f g : Nat → Nat) : Value := if desB n f g = true then .tuple #[.int .i64 (1 - eulN f g n.toNat / 2), .int .i64 0] else .tuple #[.int .i64 0, .int .i64 1]
theorem eulerR_eq (n : Int) (f g : Nat → Nat) : ∃ a c : Int, eulerR n f g = .tuple #[.int .i64 a, .int .i64 c] := by
  unfold eulerR; split
  · exact ⟨_, _, rfl⟩
  · exact ⟨_, _, rfl⟩
theorem genusR_eq (n : Int) (f g : Nat → Nat) : ∃ a c : Int, genusR n f g = .tuple #[.int .i64 a, .int .i64 c] := by
  unfold genusR; split
  · exact ⟨_, _, rfl⟩
  · exact ⟨_, _, rfl⟩
theorem DesN.eul {f g : Nat → Nat} {m : Nat} (h : DesN f g m) : ∃ a : Int, eulN f g m = 2 * a ∧ -8 ≤ a ∧ a ≤ 1 := by
  have h1 := h.euler
  have h2 := h.le
  have e : eulN f g m = -(m : Int) + (cycs f m).length + (cycs g m).length + (cycs (faceF f g m) m).length := rfl
  exact ⟨eulN f g m / 2, by omega, by omega, by omega⟩

-- left out here: loop.example/g01200/impl.EulerOf
-- left out here: loop.example/g01200/spec.EulerOf
-- left out here: loop.example/g01200/spec.l01Genus
-- left out here: loop.example/g01200/impl.GenusOf
-- left out here: loop.example/g01200/spec.GenusOf
-- left out here: loop.example/g01200/laws.FnExactEulerOf
-- left out here: loop.example/g01200/laws.FnExactGenusOf
end Go.Proofs.Ytfoaejdbgpgnhaa

namespace Go.Proofs.Ytfoaejdbgpgnhaa
open Go.RowKit

/-- the orders of the three permutations -/
def dOf (f g : Nat → Nat) (m k : Nat) : Nat := lcms (lens (pick3 f g (faceF f g m) k) m)
/-- the vertices and faces of the closure, of the first kinds -/
def cloQ (N : Nat) (d : Nat → Nat) : Nat → Int
  | 0 => 0
  | k + 1 => cloQ N d k + (N : Int) / (d k : Int)
theorem cloQ_bd {N : Nat} {d : Nat → Nat} : ∀ k, 0 ≤ cloQ N d k ∧ cloQ N d k ≤ k * N
  | 0 => by simp [cloQ]
  | k + 1 => by
    have h1 := cloQ_bd (N := N) (d := d) k
    have h2 : 0 ≤ (N : Int) / (d k : Int) := Int.ediv_nonneg (by omega) (by omega)
    have h3 : (N : Int) / (d k : Int) ≤ N := by rw [← Int.natCast_ediv]; have := Nat.div_le_self N (d k); omega
    rw [cloQ]
    have : ((k + 1 : Nat) : Int) * N = k * N + N := by rw [Int.natCast_add, Int.add_mul]; simp
    omega
theorem cloQ_lin {N : Nat} {d : Nat → Nat} (hN : N ≤ 20922789888000) {k : Nat} (hk : k ≤ 3) : 0 ≤ cloQ N d k ∧ cloQ N d k ≤ 62768369664000 := by
  have h := cloQ_bd (N := N) (d := d) k
  have hm : (k : Int) * N ≤ 3 * 20922789888000 := Int.mul_le_mul (by omega) (by omega) (by omega) (by omega)
  omega
noncomputable def cloP (n : Int) (f g : Nat → Nat) : Int := if desB n f g then 1 - (cloQ (ordN n f g) (dOf f g n.toNat) 3 - ordN n f g).tdiv 2 else 0
theorem permB_of_perm {p : Nat → Nat} {m : Nat} (h : PermN p m) : permB p (m : Int) = true := permB_yes h
theorem backTo_le (p : Nat → Nat) : ∀ k i, backTo p k i ≤ k
  | 0, _ => Nat.le_refl _
  | k + 1, i => by
    have := backTo_le p k i
    unfold backTo fset
    split <;> omega
theorem pick_low {f g : Nat → Nat} {m : Nat} (hm : m ≤ 16) (hf : ∀ i, f i < 256) (hg : ∀ i, g i < 256) (k i : Nat) : pick3 f g (faceF f g m) k i < 256 := by
  unfold pick3
  split
  · exact hf i
  · split
    · exact hg i
    · have := backTo_le (thenF f g m) m i
      show backTo (thenF f g m) m i < 256
      omega
theorem tdiv2_bd {x B : Int} (h1 : -B ≤ x) (h2 : x ≤ B) : -B ≤ x.tdiv 2 ∧ x.tdiv 2 ≤ B := by
  rcases Int.le_total 0 x with c | c
  · rw [Int.tdiv_eq_ediv_of_nonneg c]; omega
  · obtain ⟨y, rfl⟩ : ∃ y, x = -y := ⟨-x, by omega⟩
    rw [Int.neg_tdiv, Int.tdiv_eq_ediv_of_nonneg (by omega)]; omega
theorem passN_at (f g : Nat → Nat) (m : Nat) {k : Nat} (hk : k < 3) : (passN f g m)[k]? = some (sortD (lens (pick3 f g (faceF f g m) k) m)) := by
  unfold passN pick3
  rcases k with _ | _ | _ | k
  · rfl
  · rfl
  · rfl
  · omega
theorem sType_facts {p : Nat → Nat} {m : Nat} (hp : PermN p m) : (∀ l ∈ sortD (lens p m), 1 ≤ l ∧ l ≤ 16) ∧ lcms (sortD (lens p m)) ≤ 65536 ∧ 0 < lcms (sortD (lens p m)) ∧ (sortD (lens p m)).length ≤ 16 := by
  have hbij := hp.2.2.1
  have h16 := hp.2.1
  exact ⟨fun l hl => by have := lens_pos hbij h16 ((sortD_perm _).mem_iff.1 hl); omega, by rw [lcms_sortD]; exact lcms_le hbij h16, by rw [lcms_sortD]; exact lcms_pos hbij h16, by rw [(sortD_perm _).length_eq]; unfold lens; rw [List.length_map]; exact cycs_len_le hbij h16 (Nat.le_refl m)⟩

set_option maxRecDepth 100000 in
set_option maxHeartbeats 1000000 in
theorem closureGenus_any (n : Int) (f g : Nat → Nat) (hf : ∀ i, f i < 256) (hg : ∀ i, g i < 256) (w : World) :
    Calls Try.prog 34 #[.agg (dv n f g)] w fun e w' => e = .returned (.tuple #[.int .i64 (cloP n f g), .int .i64 (if desB n f g then 0 else 1)]) ∧ Below w.heap.size w w' := by
  have C1 := hide fun w => isDessin_any n f g hf hg w
  have HFG := hide (And.intro hf hg)
  clear hf hg
  have H1 := (Holds.start w).blk (dv n f g) 29 w.heap.size rfl
  rcases h1 : desB n f g with _ | _
  · rw [h1] at C1
    have hr : cloP n f g = 0 := by unfold cloP; rw [if_neg (by simp [h1])]
    rw [hr]
    clear h1 hr
    go_enter Try.func34, Try.ntmps34
    go_wp2_with fail
    refine (C1.out _).mono ?_
    rintro e w1 ⟨rfl, hb⟩
    have H2 := H1.call hb
    go_wp2
    go_ret2
    exact ⟨rfl, H2.low⟩
  · rw [h1] at C1
    have hr : ordN n f g = ordT n.toNat (Gen n.toNat (Two f g)) n.toNat := by unfold ordN; rw [if_pos h1]
    have hr2 : cloP n f g = 1 - (cloQ (ordN n f g) (dOf f g n.toNat) 3 - ordN n f g).tdiv 2 := by unfold cloP; rw [if_pos h1]
    obtain ⟨m, rfl, hd⟩ := desB_true h1
    simp only [Int.toNat_natCast] at hr hr2
    rw [hr] at hr2
    clear h1 hr
    have hm := hd.le
    have hS : ∀ s, Two f g s → Bij s m := by
      rintro s (rfl | rfl)
      · exact hd.black.2.2.1
      · exact hd.white.2.2.1
    have HS := hide hS; clear hS
    have C2 := hide fun w => groupOf_any f g m hd w
    have C3 := hide fun w => turnsOf_any f g m hd w
    have hpk := fun k => hd.pick k
    have HPK := hide hpk; clear hpk
    have hn' := dv_n m f g
    clear hd
    generalize ho : ordT m (Gen m (Two f g)) m = o at *
    obtain ⟨D, hD⟩ : ∃ D, D = dOf f g m := ⟨_, rfl⟩
    rw [← hD] at hr2
    obtain ⟨RES, hRES⟩ : ∃ RES, RES = cloP (m : Int) f g := ⟨_, rfl⟩
    rw [← hRES]
    have HR := hide (And.intro ho (And.intro hD (hRES.trans hr2))); clear ho hD hr2 hRES
    have hQ := fun k => cloQ_bd (N := o) (d := D) k
    have HQ := hide hQ; clear hQ
    go_enter Try.func34, Try.ntmps34
    go_wp2_with fail
    refine (C1.out _).mono ?_
    rintro e w1 ⟨rfl, hb⟩
    have H2 := H1.call hb
    clear hb H1
    have d1 := H2.cells 0 rfl
    go_wp2_with fail
    refine (C2.out _).mono ?_
    rintro e w2 ⟨gs, vs, R, rfl, hN, hI, hB⟩
    have hSv : SvAt w2 gs m vs R := ⟨hN.at 0 rfl, fun k hk => hN.at (k + 1) (svRows_at vs R hk)⟩
    have H3 := H2.call hN.low
    clear H2 d1 hN
    have hord := hI.order HS.out
    rw [HR.out.1] at hord
    have hbig := hI.way_big hm (Nat.le_refl m)
    have hob : o ≤ 20922789888000 := hord ▸ hbig
    have c3 := order_any m hm gs vs R (fun k hk => by have := hI.way_big hm hk; exact Nat.le_trans this (by decide)) w2 hSv
    have hord' : wayN (fun k => R (k * 2)) m = o := hord
    rw [hord'] at c3
    clear hSv hI hB hord hord' hbig
    go_wp2_with fail
    refine c3.mono ?_
    rintro e w3 ⟨rfl, hb⟩
    have H4 := H3.call hb
    have d4 := H4.cells 0 rfl
    clear hb H3 c3
    go_wp2_with fail
    refine (C3.out _).mono ?_
    rintro e w4 ⟨rfl, hb⟩
    have H5 := H4.call hb
    clear hb H4 d4
    go_wp2
    go_loopw [20, 5] (fun t s wr => ∃ k : Nat, k ≤ 3 ∧ t = .int .i64 k ∧ s = .int .i64 (cloQ o D k - o) ∧ Holds w wr [pBlk w.heap.size (dv m f g) 29]) (fun t _ _ => 3 - (intOf t).toNat)
    case atStart => exact ⟨0, by omega, rfl, by simp [cloQ], H5⟩
    case round =>
      clear H5
      obtain ⟨k, hk, rfl, rfl, hH⟩ := hrel
      have hq := cloQ_lin (d := D) hob hk
      by_cases hlt : k < 3
      · have hpk := HPK.out k
        have hpl := hpk.lt
        have hor : ordR (pick3 f g (faceF f g m) k) (m : Int) = .tuple #[.int .i64 ((D k : Nat) : Int), .int .i64 0] := by unfold ordR; rw [if_pos (permB_of_perm hpk), Int.toNat_natCast, HR.out.2.1]; rfl
        have hDk : 1 ≤ D k := by rw [HR.out.2.1]; exact lcms_pos hpk.2.2.1 hpk.2.1
        have co := fun w => orderOf_any (pick3 f g (faceF f g m) k) (pick_low hm HFG.out.1 HFG.out.2 k) (m : Int) w
        rw [hor] at co
        have CO := hide co; clear co hor
        have hst : cloQ o D (k + 1) = cloQ o D k + (o : Int) / (D k : Int) := rfl
        have hqb := cloQ_lin (d := D) hob (show k + 1 ≤ 3 by omega)
        rw [hst] at hqb
        have HST := hide hst; clear hst
        have hq3 : 0 ≤ (o : Int) / (D k : Int) ∧ (o : Int) / (D k : Int) ≤ o := ⟨Int.ediv_nonneg (by omega) (by omega), by rw [← Int.natCast_ediv]; have := Nat.div_le_self o (D k); omega⟩
        generalize cloQ o D k = q at *
        obtain ⟨dk, hdk⟩ : ∃ dk, dk = D k := ⟨_, rfl⟩
        rw [← hdk] at hDk CO hqb hq3 HST
        have hHD := hide hdk; clear hdk hpl
        have hP := hide hpk; clear hpk
        have hdne : (((dk : Nat) : Int) == 0) = false := by rw [beq_eq_false_iff_ne]; omega
        have hdne2 : (((dk : Nat) : Int) = 0) = False := by simp; omega
        have H6 := hH.blk (av (pick3 f g (faceF f g m) k)) 27 wr.heap.size rfl
        have n0 := H6.cell 1 rfl hn'
        go_wp2_with fail
        refine (CO.out _).mono ?_
        rintro e w6 ⟨rfl, hb⟩
        have H7 := (H6.call hb).tail
        clear hb H6 hH n0
        go_wp2
        go_roundw
        case rel => exact ⟨k + 1, by omega, by go_num, by rw [HST.out]; congr 1; omega, H7⟩
        case measure => simp [intOf]; omega
      · obtain rfl : k = 3 := by omega
        have hres := HR.out.2.2
        generalize cloQ o D 3 = q at *
        have ht := tdiv2_bd (x := q - o) (B := 100000000000000) (by omega) (by omega)
        have hle : RES = 1 - (q - o).tdiv 2 := hres
        subst hle
        clear hlt hk
        go_wp2
        go_ret2
        exact ⟨rfl, hH.low⟩

set_option maxRecDepth 100000 in
set_option maxHeartbeats 1000000 in
theorem sClosureGenus_any (n : Int) (f g : Nat → Nat) (hf : ∀ i, f i < 256) (hg : ∀ i, g i < 256) (w : World) :
    Calls Try.prog 33 #[.agg (dv n f g)] w fun e w' => e = .returned (.tuple #[.int .i64 (cloP n f g), .int .i64 (if desB n f g then 0 else 1)]) ∧ Below w.heap.size w w' := by
  have C1 := hide fun w => sIs_any n f g hf hg w
  clear hf hg
  have H1 := (Holds.start w).blk (dv n f g) 29 w.heap.size rfl
  rcases h1 : desB n f g with _ | _
  · rw [h1] at C1
    have hr : cloP n f g = 0 := by unfold cloP; rw [if_neg (by simp [h1])]
    rw [hr]
    clear h1 hr
    go_enter Try.func33, Try.ntmps33
    go_wp2_with fail
    refine (C1.out _).mono ?_
    rintro e w1 ⟨rfl, hb⟩
    have H2 := H1.call hb
    go_wp2
    go_ret2
    exact ⟨rfl, H2.low⟩
  · rw [h1] at C1
    have hr : ordN n f g = ordT n.toNat (Gen n.toNat (Two f g)) n.toNat := by unfold ordN; rw [if_pos h1]
    have hr2 : cloP n f g = 1 - (cloQ (ordN n f g) (dOf f g n.toNat) 3 - ordN n f g).tdiv 2 := by unfold cloP; rw [if_pos h1]
    obtain ⟨m, rfl, hd⟩ := desB_true h1
    simp only [Int.toNat_natCast] at hr hr2
    rw [hr] at hr2
    clear h1 hr
    have hm := hd.le
    have hS : ∀ s ∈ [f, g], Bij s m := fun s hs => by
      simp only [List.mem_cons, List.not_mem_nil, or_false] at hs
      rcases hs with rfl | rfl
      · exact hd.black.2.2.1
      · exact hd.white.2.2.1
    have HS := hide hS; clear hS
    have C2 := hide fun w => l03Of_any f g m hd w
    have C3 := hide fun w => sPassport_any f g m hd w
    have hpk := fun k => hd.pick k
    have HPK := hide hpk; clear hpk
    clear hd
    generalize ho : ordT m (Gen m (Two f g)) m = o at *
    obtain ⟨D, hD⟩ : ∃ D, D = dOf f g m := ⟨_, rfl⟩
    rw [← hD] at hr2
    obtain ⟨RES, hRES⟩ : ∃ RES, RES = cloP (m : Int) f g := ⟨_, rfl⟩
    rw [← hRES]
    have HR := hide (And.intro ho (And.intro hD (hRES.trans hr2))); clear ho hD hr2 hRES
    have hQ := fun k => cloQ_bd (N := o) (d := D) k
    have HQ := hide hQ; clear hQ
    go_enter Try.func33, Try.ntmps33
    go_wp2_with fail
    refine (C1.out _).mono ?_
    rintro e w1 ⟨rfl, hb⟩
    have H2 := H1.call hb
    clear hb H1
    go_wp2
    refine Rd.region_P (w0 := w) [pBlk w.heap.size (dv m f g) 29] [pBlk w.heap.size (dv m f g) 29] [1, 2, 4] (.q 0 <| .q 3 <| .s1 1 <| .s1 2 <| .s1 4 <| .q 5 <| .q 6 <| .q 7 .fin) H2 (.refl _) (by kernel_rfl) (by kernel_rfl) (by kernel_rfl) ?_
    iterate 2
      apply Rd.v_q
      · simp only [List.getElem?_toArray, List.getElem?_cons_zero, List.getElem?_cons_succ]; exact rfl
      · rfl
      · go_simp
      · intro wx hx
        have q0 := hx.cells 0 rfl
        unfold atG
        go_simp
        simp only [uponG]
        exact ⟨by trivial, rfl⟩
    refine Rd.v_s (fun u wx => ∃ gs G H B M, u = .pointer (some ⟨gs, 0, none⟩) ∧ ChAt wx gs m G H B ∧ MadeI m [f, g] H B M) (fun u _ _ ⟨gs, G, H, B, M, e, h, h'⟩ hb => ⟨gs, G, H, B, M, e, h.below hb, h'⟩) (by simp only [List.getElem?_toArray, List.getElem?_cons_zero, List.getElem?_cons_succ]; exact rfl) rfl (by go_simp) (fun wx hx hD => ?_) ?_
    · go_simp
      simp only [Rd.uponE]
      refine ⟨by trivial, (C2.out wx).mono ?_⟩
      rintro e w' ⟨gs, G, H, B, M, rfl, hN, hM⟩
      exact ⟨_, rfl, hx.call hN.low, gs, rfl, G, H, B, hN.at 0 rfl, M, hM⟩
    rintro u ⟨wy, hwy, gs, G0, H0, B0, M0, rfl, hx0, hM0⟩
    have hob : o ≤ 9223372036854775807 ∧ o ≤ 20922789888000 := by
      have hord := hM0.order HS.out
      rw [two_mem, HR.out.1] at hord
      have h1 := hM0.small hm m (Nat.le_refl m)
      rw [Nat.sub_self, fac16, Nat.mul_one, hord] at h1
      have h3 := fac16_mono m (16 - m)
      rw [show m + (16 - m) = 16 by omega] at h3
      have h4 : fac16 16 = 20922789888000 := by decide
      omega
    clear hx0 hM0 hwy wy
    refine Rd.v_s (fun u _ => u = .int .i64 ((o : Nat) : Int)) (fun u _ _ h _ => h) (by simp only [List.getElem?_toArray, List.getElem?_cons_zero, List.getElem?_cons_succ]; exact rfl) rfl (by go_simp) (fun wx hx hD => ?_) ?_
    · obtain ⟨gs', G, H, B, M, e, hC, hM⟩ := hD
      simp only [Value.pointer.injEq, Option.some.injEq, Addr.mk.injEq, and_true] at e
      subst e
      have hord := hM.order HS.out
      rw [two_mem, HR.out.1] at hord
      have c3 := l03Order_any m hm gs G H B (fun k hk => hM.big hm hk) wx hC
      rw [hord] at c3
      go_simp
      simp only [Rd.uponE]
      refine ⟨by trivial, c3.mono ?_⟩
      rintro e w' ⟨rfl, rfl⟩
      exact ⟨_, rfl, hx, rfl⟩
    rintro u ⟨wy, hwy, rfl⟩
    clear hwy wy
    refine Rd.v_s (fun u wx => Own2 w.heap.size wx u (passN f g m)) (fun u _ _ h hb => h.kept (grown_of_below hb none) (fun g hg => by cases hg)) (by simp only [List.getElem?_toArray, List.getElem?_cons_zero, List.getElem?_cons_succ]; exact rfl) rfl (by go_simp) (fun wx hx hD => ?_) ?_
    · have hsz := hx.size
      go_simp
      simp only [Rd.uponE]
      refine ⟨by trivial, (C3.out wx).mono ?_⟩
      rintro e w' ⟨v, rfl, hb, hO⟩
      exact ⟨_, rfl, hx.call hb, hO.mono hsz⟩
    rintro u ⟨wy, hwy, hO⟩
    obtain ⟨A, c, rfl⟩ := hO.form
    clear hO hwy wy
    iterate 3
      apply Rd.v_q
      · simp only [List.getElem?_toArray, List.getElem?_cons_zero, List.getElem?_cons_succ]; exact rfl
      · rfl
      · go_simp
      · intro wx hx
        unfold atG
        go_simp
        simp only [uponG]
        exact ⟨by trivial, rfl⟩
    rintro w6 hx6 hO
    have hl3 : (passN f g m).length = 3 := rfl
    rw [hl3]
    have HO := hide hO; clear hO
    have hlow := hx6.low
    clear hx6 H2
    go_simp
    go_wp2
    go_loopw [7, 6] (fun t s wr => ∃ k : Nat, k ≤ 3 ∧ t = .int .i64 k ∧ s = .int .i64 (cloQ o D k) ∧ Below w6.heap.size w6 wr) (fun t _ _ => 3 - (intOf t).toNat)
    case atStart => exact ⟨0, by omega, rfl, by simp [cloQ], Below.refl _ _⟩
    case round =>
      obtain ⟨k, hk, rfl, rfl, hb⟩ := hrel
      have hq := cloQ_lin (d := D) hob.2 hk
      by_cases hlt : k < 3
      · have hpk := HPK.out k
        obtain ⟨vs, v1, v2, v3, v4⟩ := Own2.kept HO.out (grown_of_below hb none) (fun g hg => by cases hg)
        have v5 : vs.length = 3 := v1.trans hl3
        rw [v5] at v2
        obtain ⟨gv, cv', e0, -, -, -, -, hcell, -⟩ := row_at v2 (by omega)
        injection e0 with e0 e1 e2
        subst e0
        clear e1 e2
        have hvk : vs[k]? = some vs[k] := List.getElem?_eq_getElem (by omega)
        have ho1 := v3 k _ _ hvk (passN_at f g m hlt)
        have c0 := hcell k _ hvk
        obtain ⟨A1, c1, hvv⟩ := own1_form ho1
        rw [hvv] at c0 ho1
        have hDk : D k = lcms (sortD (lens (pick3 f g (faceF f g m) k) m)) := by rw [HR.out.2.1, lcms_sortD]; rfl
        obtain ⟨t1, t2, t3, t4⟩ := sType_facts hpk
        rw [← hDk] at t2 t3
        have cc := fun (w : World) (B : Nat) (h : Own1 B w (.slice A1 (sortD (lens (pick3 f g (faceF f g m) k) m)).length c1) (sortD (lens (pick3 f g (faceF f g m) k) m))) => common_any _ A1 c1 B t1 (by rw [← hDk]; exact t2) (by rw [← hDk]; exact t3) t4 w h
        rw [← hDk] at cc
        clear v1 v2 v3 v4 hvk hvv hcell
        generalize sortD (lens (pick3 f g (faceF f g m) k) m) = S at *
        have CC := hide (cc _ _ ho1); clear cc ho1 t1 hpk
        have hst : cloQ o D (k + 1) = cloQ o D k + (o : Int) / (D k : Int) := rfl
        have hqb := cloQ_lin (d := D) hob.2 (show k + 1 ≤ 3 by omega)
        rw [hst] at hqb
        have HST := hide hst; clear hst
        have hq3 : 0 ≤ (o : Int) / (D k : Int) ∧ (o : Int) / (D k : Int) ≤ o := ⟨Int.ediv_nonneg (by omega) (by omega), by rw [← Int.natCast_ediv]; have := Nat.div_le_self o (D k); omega⟩
        generalize cloQ o D k = q at *
        obtain ⟨dk, hdk⟩ : ∃ dk, dk = D k := ⟨_, rfl⟩
        rw [← hdk] at hqb hq3 HST CC t3 t2
        have hHD := hide (And.intro hdk hDk); clear hdk hDk
        have hdne : (((dk : Nat) : Int) == 0) = false := by rw [beq_eq_false_iff_ne]; omega
        have hdne2 : (((dk : Nat) : Int) = 0) = False := by simp; omega
        have hvv5 := hide v5; clear v5 t4
        go_wp2_with fail
        refine CC.out.mono ?_
        rintro e w7 ⟨rfl, hb7⟩
        have hb8 := hb.trans (hb7.mono hb.size)
        clear hb7 hb c0 CC
        go_wp2
        go_roundw
        case rel => exact ⟨k + 1, by omega, by go_num, by rw [HST.out], hb8⟩
        case measure => simp [intOf]; omega
      · obtain rfl : k = 3 := by omega
        have hres := HR.out.2.2
        generalize cloQ o D 3 = q at *
        have ht := tdiv2_bd (x := q - o) (B := 100000000000000) (by omega) (by omega)
        subst hres
        clear hlt hk
        go_wp2
        go_ret2
        exact ⟨rfl, hlow.trans (hb.mono hlow.size)⟩
end Go.Proofs.Ytfoaejdbgpgnhaa

namespace Go.Proofs.Ytfoaejdbgpgnhaa
open Go.RowKit

set_option maxRecDepth 100000 in
set_option maxHeartbeats 1000000 in
theorem fnExactClosureGenus_walk (n : Int) (f g : Nat → Nat) (_hn : -9223372036854775808 ≤ n ∧ n ≤ 9223372036854775807) (hf : ∀ i, f i < 256) (hg : ∀ i, g i < 256) (w : World) :
    Calls Try.prog 8 #[.agg (dv n f g)] w fun e w' => e = .returned (.bool true) ∧ Below w.heap.size w w' := by
  clear _hn
  have c1 := fun w => closureGenus_any n f g hf hg w
  have c2 := fun w => sClosureGenus_any n f g hf hg w
  obtain ⟨a, ha⟩ : ∃ a, a = cloP n f g := ⟨_, rfl⟩
  obtain ⟨c, hc⟩ : ∃ c : Int, c = (if desB n f g then 0 else 1) := ⟨_, rfl⟩
  rw [← ha, ← hc] at c1 c2
  have C1 := hide c1; clear c1
  have C2 := hide c2; clear c2
  clear ha hc hf hg
  have hne : (c != c) = false := by simp
  have hna : (a != a) = false := by simp
  have HH0 := (Holds.start w).blk (dv n f g) 24 w.heap.size rfl
  go_enter Try.func8, Try.ntmps8
  go_wp2_with fail
  refine (toDessin_any n f g _).mono ?_
  rintro e w1 ⟨rfl, hb1⟩
  have HH1 := HH0.call hb1
  have cd1 := HH1.cells 0 rfl
  clear hb1
  go_wp2_with fail
  refine (C2.out _).mono ?_
  rintro e w2 ⟨rfl, hb2⟩
  have HH2 := HH1.call hb2
  have cd2 := HH2.cells 0 rfl
  clear hb2 cd1
  go_wp2_with fail
  refine (toDessin_any n f g _).mono ?_
  rintro e w3 ⟨rfl, hb3⟩
  have HH3 := HH2.call hb3
  have cd3 := HH3.cells 0 rfl
  clear hb3 cd2
  go_wp2_with fail
  refine (C1.out _).mono ?_
  rintro e w4 ⟨rfl, hb4⟩
  have HH4 := HH3.call hb4
  have cd4 := HH4.cells 0 rfl
  clear hb4 cd3
  go_wp2
  go_ret
  exact ⟨rfl, HH4.low⟩
end Go.Proofs.Ytfoaejdbgpgnhaa
