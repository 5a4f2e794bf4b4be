/- Texts put together: ChW, ChW2, ChMd, GOrd, GReg, ChG, LInG -/
import Derived.Test.YtlmhnimpglookaaQfLawInGroup
import Derived.Test.YtlmhnimpglookaaChecked
import Derived.WalkKit
import Derived.WalkSpells
import Derived.WalkLawsBesides
import Derived.Deep.LoopGhost
import Derived.Deep.OwnRows
import Derived.Laws.Rows
import Derived.Laws.Tables
import Derived.Laws.CopyOwn
import Derived.ProofKit
import Derived.OpenShut
import Derived.ShutString
import Derived.ChangeOld
import Derived.Below
import Derived.Laws.OwnMore
import Derived.Laws.CopyRow
import Derived.Deep.MidRow
import Derived.BigQuiet
import Derived.Deep.QuietTactic
import Derived.RegionTactic
import Derived.Deep.RegionWith
import Derived.Maps.Keyed
import Derived.DeepKeys4
import Derived.Maps.Own
import Derived.Carry
import Derived.Deep.Quiet
import Derived.StillTail
import Derived.ChangeKeysEq
import Derived.StillTailTactics
import Derived.Deep.RegionHeld3
import Derived.Laws.Cover3
import Derived.Lib.Bytealg
import Derived.Lib.BytesEntry
import Derived.Laws.Externs
import Derived.Laws.StructEq
import Derived.WalkMore
namespace Go.Proofs.Ytlmhnimpglookaa
open Go.RowKit

theorem gRows_length (G : Nat → Value) (M : Nat → List (Nat → Nat)) : (gRows G M).length = 16 := by unfold gRows; simp
theorem gRows_at (G : Nat → Value) (M : Nat → List (Nat → Nat)) (L : List Part) {i : Nat} (hi : i < 16) : (gRows G M ++ L)[i]? = some (pPl (G i) (M i)) := by
  rw [List.getElem?_append_left (by rw [gRows_length]; exact hi)]; unfold gRows; simp [hi]
theorem gRows_past (G : Nat → Value) (M : Nat → List (Nat → Nat)) (a : Part) (L : List Part) : (gRows G M ++ (a :: L))[16]? = some a := by
  rw [List.getElem?_append_right (by rw [gRows_length]; exact Nat.le_refl _), gRows_length]; rfl
theorem atP (b a : Part) (G : Nat → Value) (M : Nat → List (Nat → Nat)) (L : List Part) : (b :: (gRows G M ++ (a :: L)))[17]? = some a := gRows_past G M a L
theorem gRows_set (G : Nat → Value) (M : Nat → List (Nat → Nat)) (L : List Part) {i : Nat} (hi : i < 16) (v : Value) (l : List (Nat → Nat)) : (gRows G M ++ L).set i (pPl v l) = gRows (vset G i v) (rset M i l) ++ L := by
  rw [List.set_append_left _ _ (by rw [gRows_length]; exact hi)]
  congr 1
  apply List.ext_getElem?
  intro j
  rw [List.getElem?_set, gRows_length]
  rcases Nat.lt_or_ge j 16 with c | c
  · by_cases e : i = j
    · subst e; unfold gRows vset rset; simp [hi]
    · unfold gRows vset rset; simp [c, e, Ne.symm e]
  · rw [if_neg (by omega), List.getElem?_eq_none (by rw [gRows_length]; exact c), List.getElem?_eq_none (by rw [gRows_length]; exact c)]
theorem Holds.toL {w0 w : World} {a b : Part} {R L : List Part} (h : Holds w0 w (a :: b :: (R ++ L))) : Holds w0 w (b :: (R ++ (a :: L))) :=
  h.perm ((List.Perm.swap b a (R ++ L)).trans (.cons _ List.perm_middle.symm))
theorem Holds.offL {w0 w : World} {a b : Part} {R L : List Part} (h : Holds w0 w (b :: (R ++ (a :: L)))) : Holds w0 w (b :: (R ++ L)) :=
  h.sub (.cons_cons _ (List.Sublist.append (List.Sublist.refl _) (List.sublist_cons_self _ _)))

abbrev chP (g n : Nat) (G : Nat → Value) (H : Nat → Bool) (B : Nat → Nat) : Part := pBlk g (chv n G H B) 93
def StepSt (n N : Nat) : Prop := ∀ (k : Nat) (q : Nat → Nat) (G : Nat → Value) (H : Nat → Bool) (B : Nat → Nat) (M : Nat → List (Nat → Nat)) (g : Nat) (w0 w : World) (L : List Part),
  100 * (256 - totH H 256) + 2 * (n - k) ≤ N → k < n → PermN q n → (∀ z, z < k → q z = z) → Gen n (Mk n M k) q → Lv n H B M → Pr n H B M (k + 1) → Bd M H (k + 1) → (M k).length ≤ 257 →
  Holds w0 w (pBlk g (chv n G H B) 93 :: (gRows G M ++ L)) →
  Calls Try.prog 117 #[.pointer (some ⟨g, 0, none⟩), .int .i64 k, .agg (av q)] w fun e w' => (∃ v, e = .returned v) ∧ ∃ G' H' B' M', Holds w0 w' (pBlk g (chv n G' H' B') 93 :: (gRows G' M' ++ L)) ∧ Stepped n k q H B M H' B' M'
def AddSt (n N : Nat) : Prop := ∀ (k : Nat) (p : Nat → Nat) (G : Nat → Value) (H : Nat → Bool) (B : Nat → Nat) (M : Nat → List (Nat → Nat)) (g : Nat) (w0 w : World) (L : List Part),
  100 * (256 - totH H 256) + 2 * (n - k) + 1 ≤ N → k < n → PermN p n → (∀ z, z < k → p z = z) → (∀ j, k = j + 1 → Gen n (Mk n M j) p) → Lv n H B M → Pr n H B M k → Bd M H k →
  Holds w0 w (pBlk g (chv n G H B) 93 :: (gRows G M ++ L)) →
  Calls Try.prog 106 #[.pointer (some ⟨g, 0, none⟩), .int .i64 k, .agg (av p)] w fun e w' => (∃ v, e = .returned v) ∧ ∃ G' H' B' M', Holds w0 w' (pBlk g (chv n G' H' B') 93 :: (gRows G' M' ++ L)) ∧ Added n k p H B M H' B' M'

set_option maxRecDepth 100000 in
set_option maxHeartbeats 4000000 in
theorem chStep (n N : Nat) (hn : n ≤ 16) (hA : AddSt n N) (hSt : StepSt n N) : StepSt n (N + 1) := by
  intro k q G H B M g w0 w L hN hk hq fq gq hl hp hb hM hH
  have HA := hide hA; clear hA
  have HSt := hide hSt; clear hSt
  have H1 := (hH.blk (av q) 42 w.heap.size rfl).toL
  clear hH
  have hqk := hq.2.2.1.1 k hk
  have hj : k * 16 + q k < 256 := by omega
  have hk16 : (k : Int) < 16 := by omega
  have hkn : (k : Int) < n := by omega
  have hqi : ((q k : Nat) : Int) < 16 := by omega
  have hn16 : (n : Int) ≤ 16 := by omega
  have n0 := H1.cell 0 rfl (chv_n n G H B)
  have y1 := H1.cell 17 (atP _ _ G M L) (av_get q (i := k) (by omega))
  have y2 : (w.alloc (.cells (av q) 42)).cell? ⟨g, 17 + k * 16 + q k, none⟩ = some (.bool (H (k * 16 + q k))) := by rw [Nat.add_assoc]; exact H1.cell 0 rfl (chv_has n G H B hj)
  rcases hb' : H (k * 16 + q k) with _ | _
  · -- a new way
    rw [hb'] at y2
    have f0 := H1.frozen 0 rfl (17 + k * 16 + q k)
    have h1 := H1.set 0 rfl (17 + (k * 16 + q k)) (.bool true)
    rw [chv_setHas n _ _ _ hj] at h1
    have h2 : Holds w0 ((w.alloc (.cells (av q) 42)).setCell ⟨g, 17 + k * 16 + q k, none⟩ (.bool true)) (pBlk g (chv n G (hset H (k * 16 + q k) true) B) 93 :: (gRows G M ++ (pBlk w.heap.size (av q) 42 :: L))) := by rw [Nat.add_assoc]; exact h1
    have LO := hide (Looped.start hn hl hp hb hk hq fq gq hb')
    have HQ := hide (And.intro hq (And.intro fq (And.intro gq (And.intro hl hb')))); clear hq fq gq hl hp hb hb' h1
    have HN := hide hN; clear hN
    go_enter Try.func117, Try.ntmps117
    go_wp2
    clear n0 y1 y2 f0 H1
    generalize (w.alloc (.cells (av q) 42)).setCell ⟨g, 17 + k * 16 + q k, none⟩ (.bool true) = w2 at *
    generalize w.heap.size = Gp at *
    refine region_tail (fun wx => Holds w0 wx _) 8 (by kernel_rfl) (by kernel_rfl) h2.drew ?_
    simp only [List.take_succ_cons, List.take_zero, List.drop_succ_cons, List.drop_zero]
    iterate 8
      apply q_step
      · go_simp
      · intro wx hx
        have q1 := hx.cells 17 (atP _ _ G M L)
        go_simp
        try exact rfl
    refine wpQuiet_nil ?_
    intro w4 H4
    have rr := H4.rowOk 0 rfl (chv_size _ _ _ _)
    have sb := run_storeBy rr (H4.cells 0 rfl) hj q
    rw [show 273 + (k * 16 + q k) * 16 = 273 + k * 256 + q k * 16 by omega] at sb
    have H5 := H4.setRow 0 rfl (chv n G (hset H (k * 16 + q k) true) (bset B (k * 16 + q k) q))
    clear rr h2
    go_wp2
    clear sb H4
    generalize w4.setRow g _ = w5 at *
    go_loopw [7] (fun t wr => ∃ i G' H' B' M', i ≤ (M k).length ∧ t = .int .i64 ((i : Nat) : Int) ∧ Looped n k q H B M i H' B' M' ∧ Holds w0 wr (pBlk g (chv n G' H' B') 93 :: (gRows G' M' ++ (pBlk Gp (av q) 42 :: L)))) (fun t _ => (M k).length - (intOf t).toNat)
    case atStart => exact ⟨0, G, _, _, M, by omega, rfl, LO.out, H5⟩
    case round =>
      clear H5 LO
      obtain ⟨i, G', H', B', M', hi, rfl, hlo, hH⟩ := hrel
      obtain ⟨A, c, hv⟩ := hH.plForm (k + 1) (gRows_at G' M' _ (by omega))
      rw [hlo.own] at hv
      have x1 := hH.cell 0 rfl (chv_gens n G' H' B' (k := k) (by omega))
      rw [hv] at x1
      have HV := hide hv; clear hv
      have HLO := hide hlo; clear hlo
      by_cases hil : i < (M k).length
      · have hs : (M k)[i]? = some (M k)[i] := List.getElem?_eq_getElem hil
        obtain ⟨s, hse⟩ : ∃ s, s = (M k)[i] := ⟨_, rfl⟩
        rw [← hse] at hs
        obtain ⟨q0, c0, e0, -, -⟩ := plOk_load (v := G' k) (l := M' k) (hH.at (k + 1) (gRows_at G' M' _ (by omega))) (k := i) (by rw [HLO.out.own]; exact hil)
        rw [HLO.out.own, HV.out] at e0
        injection e0 with e1 e2 e3
        subst e1
        clear e2 e3
        have hsp : PermN s n := (HLO.out.lv.mks k hk s (by rw [HLO.out.own, hse]; exact List.getElem_mem hil)).1
        have nS : ∀ wx, Holds w0 wx (pBlk g (chv n G' H' B') 93 :: (gRows G' M' ++ (pBlk Gp (av q) 42 :: L))) → wx.cell? ⟨g, 0, none⟩ = some (.int .i64 n) ∧ wx.cell? ⟨g, 1 + k, none⟩ = some (.slice (some ⟨q0, 0, none⟩) (M k).length c) ∧ cellsOf wx Gp = av q ∧ (loadT 42 (.pointer (some ⟨q0, i * 16, none⟩))).run Try.prog wx = .ok (.value (.agg (av s))) wx := fun wx hx' => by
          refine ⟨hx'.cell 0 rfl (chv_n n G' H' B'), ?_, hx'.cells 17 (atP _ _ G' M' L), ?_⟩
          · have := hx'.cell 0 rfl (chv_gens n G' H' B' (k := k) (by omega))
            rwa [HV.out] at this
          · obtain ⟨q1, c1, e1, _, lk⟩ := plOk_load (v := G' k) (l := M' k) (hx'.at (k + 1) (gRows_at G' M' _ (by omega))) (k := i) (by rw [HLO.out.own]; exact hil)
            rw [HV.out] at e1
            injection e1 with e1 _ _
            injection e1 with e1
            injection e1 with e1
            subst e1
            have e2 : (M' k)[i]'(by rw [HLO.out.own]; exact hil) = s := by rw [hse]; congr 1; exact HLO.out.own
            rw [e2] at lk
            exact lk
        have NS := hide nS; clear nS
        have CF := hide fun w => sThen_any q s n hn (fun i hi => HQ.out.1.lt i (by omega)) w
        have HSP := hide (And.intro hsp (And.intro hs hse)); clear hsp hs hse
        have hil' : (i : Int) < (M k).length := by omega
        have hbig := HLO.out.big
        have h256 := totH_le H' 256
        have hms : 100 * (256 - totH H' 256) + 2 * (n - k) ≤ N := by have := HN.out; omega
        have HMS := hide hms; clear hms hbig h256
        go_wp2
        clear x1
        refine region_tail (fun wx => Holds w0 wx _) 17 (by kernel_rfl) (by kernel_rfl) hH.drew ?_
        simp only [List.take_succ_cons, List.take_zero, List.drop_succ_cons, List.drop_zero]
        iterate 16
          apply q_step
          · go_simp
          · intro wx hx
            have q1 := (NS.out wx hx).1
            have q2 := (NS.out wx hx).2.1
            have q3 := (NS.out wx hx).2.2.1
            have q4 := (NS.out wx hx).2.2.2
            go_simp
            try exact rfl
        iterate 1
          apply q_step
          · go_simp
          · intro wx hx
            go_simp
            exact Calls.mono (CF.out wx) fun e w' h => ⟨h.1, hx.call h.2⟩
        refine wpQuiet_nil ?_
        intro w6 H6
        clear hH
        go_wp2_with fail
        refine (HSt.out k (thenF q s n) G' H' B' M' g w0 w6 _ HMS.out hk (thenF_perm HQ.out.1 HSP.out.1) (fun z hz => ?_) ?_ HLO.out.lv HLO.out.pr HLO.out.bd (by rw [HLO.out.own]; exact hM) H6).mono ?_
        · rw [thenF_at (by omega), HQ.out.2.1 z hz]
          exact (HLO.out.lv.mks k hk s (by rw [HLO.out.own]; exact List.mem_of_getElem? HSP.out.2.1)).2 z hz
        · have g1 : Gen n (Mk n M' k) q := HQ.out.2.2.1.mono fun t ht => ⟨ht.1, by rw [HLO.out.own]; exact ht.2⟩
          exact g1.prod (HLO.out.lv.mb k) (.of ⟨hk, by rw [HLO.out.own]; exact List.mem_of_getElem? HSP.out.2.1⟩) fun x hx => thenF_at hx
        rintro e w7 ⟨⟨v, rfl⟩, G2, H2, B2, M2, H7, st⟩
        have HST := hide st; clear st H6
        go_wp2
        go_roundw
        case rel => exact ⟨i + 1, G2, H2, B2, M2, by omega, by go_num, HLO.out.next hn hk HSP.out.2.1 HQ.out.1 HQ.out.2.2.2.1 HST.out, H7⟩
        case measure => simp [intOf]; omega
      · have hie : i = (M k).length := by omega
        have hil' : ¬ (i : Int) < (M k).length := by omega
        have hlo := HLO.out
        rw [hie] at hlo
        have HE := hide (And.intro hie (hlo.end' hn hk HQ.out.1)); clear hlo hie HLO hil
        go_wp2
        go_end0
        exact ⟨⟨_, rfl⟩, G', H', B', M', hH.offL, HE.out.2⟩
  · -- a number that is reached
    rw [hb'] at y2
    obtain ⟨w1, w2, w3, w4⟩ := hl.way k (q k) hk hqk hb'
    obtain ⟨r1, r2, r3⟩ := rest_ok hq w1 hk fq w2 w3
    have r4 := hl.genInv hn w1 gq w4
    obtain ⟨u, hu⟩ : ∃ u, u = byF B (k * 16 + q k) := ⟨_, rfl⟩
    rw [← hu] at w1 w2 w3 w4 r1 r2 r3 r4
    by_cases hk1 : k + 1 < n
    · have hk1' : (k : Int) + 1 < n := by omega
      have nS : ∀ wx, Holds w0 wx (pBlk g (chv n G H B) 93 :: (gRows G M ++ (pBlk w.heap.size (av q) 42 :: L))) → wx.cell? ⟨g, 0, none⟩ = some (.int .i64 n) ∧ cellsOf wx w.heap.size = av q ∧ (loadT 42 (.pointer (some ⟨g, 273 + k * 256 + q k * 16, none⟩))).run Try.prog wx = .ok (.value (.agg (av u))) wx := fun wx hx' => by
        refine ⟨hx'.cell 0 rfl (chv_n n G H B), hx'.cells 17 (atP _ _ G M L), ?_⟩
        have h2 := run_loadBy (hx'.cells 0 rfl) hj
        rw [show 273 + k * 256 + q k * 16 = 273 + (k * 16 + q k) * 16 by omega, hu]
        exact h2
      have NS := hide nS; clear nS
      have CU := hide fun w => sBack_any u n hn (fun i hi => w1.lt i (by omega)) w
      have CF := hide fun w => sThen_any q (backF u n) n hn (fun i hi => hq.lt i (by omega)) w
      have HS4 := hide (show ∀ H' B' M', Added n (k + 1) (thenF q (backF (byF B (k * 16 + q k)) n) n) H B M H' B' M' → Stepped n k q H B M H' B' M' from fun H' B' M' => Stepped.old hl hk hq fq hb')
      have HQ := hide (And.intro r1 (And.intro r2 (And.intro r4 (And.intro hl (And.intro hp hb))))); clear hq fq gq hl hp hb hb' r1 r2 r3 r4 w1 w2 w3 w4
      have HU := hide hu; clear hu
      have HN := hide hN; clear hN
      generalize hr : thenF q (backF u n) n = r at *
      have HR := hide hr; clear hr
      go_enter Try.func117, Try.ntmps117
      go_wp2
      clear n0 y1 y2
      generalize w.alloc (.cells (av q) 42) = w1 at *
      generalize w.heap.size = Gp at *
      refine region_tail (fun wx => Holds w0 wx _) 22 (by kernel_rfl) (by kernel_rfl) H1.drew ?_
      simp only [List.take_succ_cons, List.take_zero, List.drop_succ_cons, List.drop_zero]
      iterate 16
        apply q_step
        · go_simp
        · intro wx hx
          have q1 := (NS.out wx hx).1
          have q2 := (NS.out wx hx).2.1
          have q3 := (NS.out wx hx).2.2
          go_simp
          try exact rfl
      iterate 1
        apply q_step
        · go_simp
        · intro wx hx
          go_simp
          exact Calls.mono (CU.out wx) fun e w' h => ⟨h.1, hx.call h.2⟩
      iterate 4
        apply q_step
        · go_simp
        · intro wx hx
          have q1 := (NS.out wx hx).1
          go_simp
          try exact rfl
      iterate 1
        apply q_step
        · go_simp
        · intro wx hx
          go_simp
          exact Calls.mono (CF.out wx) fun e w' h => ⟨h.1, hx.call h.2⟩
      refine wpQuiet_nil ?_
      intro w4 H4
      clear H1
      have hms : 100 * (256 - totH H 256) + 2 * (n - (k + 1)) + 1 ≤ N := by have := HN.out; omega
      have HMS := hide hms; clear hms
      have HG1 := hide (show ∀ j, k + 1 = j + 1 → Gen n (Mk n M j) r from fun j e => (show k = j by omega) ▸ HQ.out.2.2.1)
      have ca := HA.out (k + 1) r G H B M g w0 w4 _ HMS.out hk1 HQ.out.1 HQ.out.2.1 HG1.out HQ.out.2.2.2.1 HQ.out.2.2.2.2.1 HQ.out.2.2.2.2.2 H4
      have CA := hide ca; clear ca H4
      go_wp2_with fail
      refine CA.out.mono ?_
      rintro e w7 ⟨⟨v, rfl⟩, G2, H2, B2, M2, H7, ad⟩
      have HST := hide ad; clear ad CA
      go_wp2
      (try simp only [Exit.inBlock, Exit.then]); refine bodyPost_ret (results_none rfl _ _ _) rfl ?_
      refine ⟨⟨_, rfl⟩, G2, H2, B2, M2, H7.offL, HS4.out _ _ _ ?_⟩
      rw [← HU.out, HR.out]
      exact HST.out
    · have hk1' : ¬ (k : Int) + 1 < n := by omega
      have HST := hide (Stepped.last hl hp hb (show k + 1 = n by omega) hq fq hb')
      clear hq fq gq hl hp hb hb' r1 r2 r3 r4 w1 w2 w3 w4
      go_enter Try.func117, Try.ntmps117
      go_wp2
      (try simp only [Exit.inBlock, Exit.then]); refine bodyPost_ret (results_none rfl _ _ _) rfl ?_
      exact ⟨⟨_, rfl⟩, G, H, B, M, H1.offL, HST.out⟩
end Go.Proofs.Ytlmhnimpglookaa

namespace Go.Proofs.Ytlmhnimpglookaa
open Go.RowKit

set_option maxRecDepth 100000 in
set_option maxHeartbeats 4000000 in
theorem chAdd (n N : Nat) (hn : n ≤ 16) (hSt : StepSt n N) : AddSt n (N + 1) := by
  intro k p G H B M g w0 w L hN hk hq fq gq hl hp hb hH
  have HSt := hide hSt; clear hSt
  have H1 := (hH.blk (av p) 42 w.heap.size rfl).toL
  clear hH
  have hin := hl.inside hn (Nat.le_of_lt hk) hq fq
  have hS0 : ChAt (w.alloc (.cells (av p) 42)) g n G H B := H1.at 0 rfl
  have ci := l03Inside_any n hn g G H B hl.byPerm k (Nat.le_of_lt hk) p hq _ hS0
  have hk16 : (k : Int) < 16 := by omega
  have hn16 : (n : Int) ≤ 16 := by omega
  have hml : (M k).length ≤ 256 := Nat.le_trans (hb k (Nat.le_refl _)) (totH_le H 256)
  have d1 := H1.cells 17 (atP _ _ G M L)
  rcases hb' : insideT H B n (n - k) p with _ | _
  · rw [hb'] at ci
    have hni : ¬ In n (Uc H B n) k p := fun h => by rw [hin.2 h] at hb'; cases hb'
    have CI := hide ci; clear ci
    have ADS := hide (Adding.start hl hp hb hk hq fq gq)
    have ADE := hide (show ∀ H' B' M', Adding n k p H B M n H' B' M' → Added n k p H B M H' B' M' from fun H' B' M' h => h.end' hn hk hl hb hni)
    have HQ := hide (And.intro hq fq)
    clear hq fq gq hl hp hb hb' hin hS0 hni
    have HN := hide hN; clear hN
    go_enter Try.func106, Try.ntmps106
    go_wp2_with fail
    refine CI.out.mono ?_
    rintro e w2 ⟨rfl, hb2⟩
    have H2 := H1.call hb2
    clear hb2 H1 d1 CI
    generalize w.heap.size = Gp at *
    obtain ⟨A, c, hv⟩ := H2.plForm (k + 1) (gRows_at G M _ (by omega))
    have HV := hide hv; clear hv
    go_wp2
    refine Rd.region_PT (w0 := w0) [pBlk g (chv n G H B) 93, pBlk Gp (av p) 42] (pBlk g (chv n G H B) 93 :: (gRows G M ++ (pBlk Gp (av p) 42 :: L))) [9, 10] 13 (.q 0 <| .q 1 <| .q 2 <| .q 3 <| .q 4 <| .q 5 <| .q 6 <| .q 7 <| .q 8 <| .q 11 <| .q 12 <| .s1 9 <| .s1 10 .fin) H2 (.cons_cons _ (List.Sublist.trans (List.Sublist.cons_cons _ (List.nil_sublist _)) (List.sublist_append_right _ _))) (by kernel_rfl) (by kernel_rfl) ?_
    iterate 11
      apply Rd.v_q
      · simp only [List.getElem?_toArray, List.getElem?_cons_zero, List.getElem?_cons_succ]; exact rfl
      · rfl
      · go_simp
      · intro wx hx
        have q0 := hx.cells 1 rfl
        have q1 : wx.cell? ⟨g, 1 + k, none⟩ = some (.slice A (M k).length c) := by have := hx.cell 0 rfl (chv_gens n G H B (k := k) (by omega)); rw [HV.out] at this; exact this
        unfold atG
        go_simp
        simp only [uponG]
        exact ⟨by trivial, rfl⟩
    refine Rd.v_build (av p) 42 1 (by simp only [List.getElem?_toArray, List.getElem?_cons_zero, List.getElem?_cons_succ]; exact rfl) rfl (by go_simp) (fun wx hx hD => by go_simp) fun gq => ?_
    refine Rd.v_s (fun u wx => Holds w0 wx (pBlk g (chv n G H B) 93 :: (gRows (vset G k u) (rset M k (M k ++ [p])) ++ (pBlk Gp (av p) 42 :: L)))) (fun u _ _ h hb => h.call hb) (by simp only [List.getElem?_toArray, List.getElem?_cons_zero, List.getElem?_cons_succ]; exact rfl) rfl (by go_simp) (fun wx hx hD => ?_) ?_
    · refine upon_appPl hD (k + 2) (v := .slice A (M k).length c) (l := M k) (by rw [← HV.out]; exact gRows_at G M _ (by omega)) gq p 42 (hD.at 0 rfl) (by omega) (fun v' w' h2 => ?_) _ _ rfl (by go_simp) (by go_simp)
      have h3 : Holds w0 w' (pBlk gq (av p) 42 :: pBlk g (chv n G H B) 93 :: ((gRows G M ++ (pBlk Gp (av p) 42 :: L)).set k (pPl v' (M k ++ [p])))) := h2
      rw [gRows_set _ _ _ (by omega)] at h3
      exact ⟨h3.sub (.cons _ (.cons_cons _ (List.Sublist.trans (List.Sublist.cons_cons _ (List.nil_sublist _)) (List.sublist_append_right _ _)))), h3.tail⟩
    rintro u ⟨wy, hwy, hu⟩
    obtain ⟨Au, cu, hvu⟩ := hu.plForm (k + 1) (gRows_at _ _ _ (by omega))
    obtain ⟨nu, hnu⟩ : ∃ nu, nu = (rset M k (M k ++ [p]) k).length := ⟨_, rfl⟩
    rw [show vset G k u k = u from if_pos rfl, ← hnu] at hvu
    subst hvu
    clear hu hnu hwy wy
    rintro w6 - hx6
    have hx7 : Holds w0 w6 (pBlk g (chv n G H B) 93 :: (gRows (vset G k (.slice Au nu cu)) (rset M k (M k ++ [p])) ++ (pBlk Gp (av p) 42 :: L))) := hx6
    have c0 : w6.cell? ⟨g, 1 + k, none⟩ = some (.slice A (M k).length c) := by have := hx7.cell 0 rfl (chv_gens n G H B (k := k) (by omega)); rw [HV.out] at this; exact this
    have f0 := hx7.frozen 0 rfl (1 + k)
    have h7 := hx7.set 0 rfl (1 + k) (.slice Au nu cu)
    rw [chv_setGens n _ _ _ (by omega)] at h7
    obtain ⟨G1, hG1⟩ : ∃ G1, G1 = vset G k (.slice Au nu cu) := ⟨_, rfl⟩
    rw [← hG1] at h7
    have h8 : Holds w0 (w6.setCell ⟨g, 1 + k, none⟩ (.slice Au nu cu)) (pBlk g (chv n G1 H B) 93 :: (gRows G1 (rset M k (M k ++ [p])) ++ (pBlk Gp (av p) 42 :: L))) := h7
    clear h7 hx6 hx7 H2 hG1
    go_simp
    go_wp2
    clear c0 f0
    generalize w6.setCell ⟨g, 1 + k, none⟩ (.slice Au nu cu) = w7 at *
    go_loopw [6] (fun t wr => ∃ x G' H' B' M', x ≤ n ∧ t = .int .i64 ((x : Nat) : Int) ∧ Adding n k p H B M x H' B' M' ∧ Holds w0 wr (pBlk g (chv n G' H' B') 93 :: (gRows G' M' ++ (pBlk Gp (av p) 42 :: L)))) (fun t _ => n - (intOf t).toNat)
    case atStart => exact ⟨0, G1, _, _, _, by omega, rfl, ADS.out, h8⟩
    case round =>
      clear h8 ADS
      obtain ⟨x, G', H', B', M', hx, rfl, had, hH⟩ := hrel
      have HAD := hide had; clear had
      have n0 := hH.cell 0 rfl (chv_n n G' H' B')
      by_cases hxn : x < n
      · have hx16 : (x : Int) < 16 := by omega
        have hxn' : (x : Int) < n := by omega
        have hj : k * 16 + x < 256 := by omega
        have y2 : wr.cell? ⟨g, 17 + k * 16 + x, none⟩ = some (.bool (H' (k * 16 + x))) := by rw [Nat.add_assoc]; exact hH.cell 0 rfl (chv_has n G' H' B' hj)
        rcases hb' : H' (k * 16 + x) with _ | _
        · rw [hb'] at y2
          have HSK := hide (HAD.out.skip hb'); clear hb' HAD
          go_wp2
          go_roundw
          case rel => exact ⟨x + 1, G', H', B', M', by omega, by go_num, HSK.out, hH⟩
          case measure => simp [intOf]; omega
        · rw [hb'] at y2
          obtain ⟨w1, w2, w3, w4⟩ := HAD.out.lv.way k x hk hxn hb'
          obtain ⟨u, hu⟩ : ∃ u, u = byF B' (k * 16 + x) := ⟨_, rfl⟩
          rw [← hu] at w1 w2 w3 w4
          have nS : ∀ wx, Holds w0 wx (pBlk g (chv n G' H' B') 93 :: (gRows G' M' ++ (pBlk Gp (av p) 42 :: L))) → wx.cell? ⟨g, 0, none⟩ = some (.int .i64 n) ∧ cellsOf wx Gp = av p ∧ (loadT 42 (.pointer (some ⟨g, 273 + k * 256 + x * 16, none⟩))).run Try.prog wx = .ok (.value (.agg (av u))) wx := fun wx hx' => by
            refine ⟨hx'.cell 0 rfl (chv_n n G' H' B'), hx'.cells 17 (atP _ _ G' M' L), ?_⟩
            have h2 := run_loadBy (hx'.cells 0 rfl) hj
            rw [show 273 + k * 256 + x * 16 = 273 + (k * 16 + x) * 16 by omega, hu]
            exact h2
          have NS := hide nS; clear nS
          have CF := hide fun w => sThen_any u p n hn (fun i hi => w1.lt i (by omega)) w
          have hpM : p ∈ M' k := by rw [HAD.out.own]; simp
          have hq1 := thenF_perm w1 HQ.out.1
          have hf1 : ∀ z, z < k → thenF u p n z = z := fun z hz => by rw [thenF_at (by omega), w2 z hz, HQ.out.2 z hz]
          have hg1 : Gen n (Mk n M' k) (thenF u p n) := w4.prod (HAD.out.lv.mb k) (.of ⟨hk, hpM⟩) fun z hz => thenF_at hz
          have hms : 100 * (256 - totH H' 256) + 2 * (n - k) ≤ N := by have := HN.out; have := totH_mono HAD.out.ext.has 256; omega
          have hlen : (M' k).length ≤ 257 := by rw [HAD.out.own, List.length_append, List.length_singleton]; omega
          have HS := hide (And.intro hms (And.intro hq1 (And.intro hf1 (And.intro hg1 (And.intro hlen hb'))))); clear hms hq1 hf1 hg1 hlen hb' hpM w1 w2 w3 w4
          have HU := hide hu; clear hu
          go_wp2
          clear n0 y2
          refine region_tail (fun wx => Holds w0 wx _) 16 (by kernel_rfl) (by kernel_rfl) hH.drew ?_
          simp only [List.take_succ_cons, List.take_zero, List.drop_succ_cons, List.drop_zero]
          iterate 15
            apply q_step
            · go_simp
            · intro wx hx
              have q1 := (NS.out wx hx).1
              have q2 := (NS.out wx hx).2.1
              have q3 := (NS.out wx hx).2.2
              go_simp
              try exact rfl
          iterate 1
            apply q_step
            · go_simp
            · intro wx hx
              go_simp
              exact Calls.mono (CF.out wx) fun e w' h => ⟨h.1, hx.call h.2⟩
          refine wpQuiet_nil ?_
          intro w8 H8
          clear hH
          have cs := HSt.out k (thenF u p n) G' H' B' M' g w0 w8 _ HS.out.1 hk HS.out.2.1 HS.out.2.2.1 HS.out.2.2.2.1 HAD.out.lv HAD.out.pr HAD.out.bd HS.out.2.2.2.2.1 H8
          have CS := hide cs; clear cs H8
          go_wp2_with fail
          refine CS.out.mono ?_
          rintro e w9 ⟨⟨v, rfl⟩, G2, H2, B2, M2, H9, st⟩
          have HST := hide st; clear st CS
          go_wp2
          go_roundw
          case rel => exact ⟨x + 1, G2, H2, B2, M2, by omega, by go_num, HAD.out.next hn hk hxn HS.out.2.2.2.2.2 (HU.out ▸ HST.out), H9⟩
          case measure => simp [intOf]; omega
      · have hxe : x = n := by omega
        have hxn' : ¬ (x : Int) < n := by omega
        have hE := HAD.out
        rw [hxe] at hE
        have HE := hide (ADE.out _ _ _ hE); clear hE HAD hxn hxe
        go_wp2
        go_end0
        exact ⟨⟨_, rfl⟩, G', H', B', M', hH.offL, HE.out⟩
  · rw [hb'] at ci
    have CI := hide ci; clear ci
    have HAD := hide (Added.none hl hp hb (hin.1 hb'))
    clear hq fq gq hl hp hb hb' hin hS0
    go_enter Try.func106, Try.ntmps106
    go_wp2_with fail
    refine CI.out.mono ?_
    rintro e w2 ⟨rfl, hb2⟩
    have H2 := H1.call hb2
    clear hb2 H1 d1 CI
    go_wp2
    (try simp only [Exit.inBlock, Exit.then]); refine bodyPost_ret (results_none rfl _ _ _) rfl ?_
    exact ⟨⟨_, rfl⟩, G, H, B, M, H2.offL, HAD.out⟩

theorem chBoth (n : Nat) (hn : n ≤ 16) : ∀ N, AddSt n N ∧ StepSt n N
  | 0 => ⟨fun k p G H B M g w0 w L hN hk => absurd hN (by omega), fun k p G H B M g w0 w L hN hk => absurd hN (by omega)⟩
  | N + 1 => ⟨chAdd n N hn (chBoth n hn N).2, chStep n N hn (chBoth n hn N).1 (chBoth n hn N).2⟩
/-- adding a permutation to a chain -/
theorem l03Add_any (n : Nat) (hn : n ≤ 16) (k : Nat) (p : Nat → Nat) (G : Nat → Value) (H : Nat → Bool) (B : Nat → Nat) (M : Nat → List (Nat → Nat)) (g : Nat) (w0 w : World) (L : List Part)
    (hk : k < n) (hq : PermN p n) (fq : ∀ z, z < k → p z = z) (gq : ∀ j, k = j + 1 → Gen n (Mk n M j) p) (hl : Lv n H B M) (hp : Pr n H B M k) (hb : Bd M H k)
    (hH : Holds w0 w (pBlk g (chv n G H B) 93 :: (gRows G M ++ L))) :
    Calls Try.prog 106 #[.pointer (some ⟨g, 0, none⟩), .int .i64 k, .agg (av p)] w fun e w' => (∃ v, e = .returned v) ∧ ∃ G' H' B' M', Holds w0 w' (pBlk g (chv n G' H' B') 93 :: (gRows G' M' ++ L)) ∧ Added n k p H B M H' B' M' :=
  (chBoth n hn _).1 k p G H B M g w0 w L (Nat.le_refl _) hk hq fq gq hl hp hb hH
end Go.Proofs.Ytlmhnimpglookaa

namespace Go.Proofs.Ytlmhnimpglookaa
open Go.RowKit

def fac16 : Nat → Nat
  | 0 => 1
  | k + 1 => (k + 1) * fac16 k
/-- what holds of a chain when a list of permutations has been added -/
structure MadeI (n : Nat) (l : List (Nat → Nat)) (H : Nat → Bool) (B : Nat → Nat) (M : Nat → List (Nat → Nat)) : Prop where
  lv : Lv n H B M
  pr : Pr n H B M 0
  bd : Bd M H 0
  top : ∀ s ∈ M 0, s ∈ l
  goal : ∀ s ∈ l, In n (Uc H B n) 0 s
section
variable {n : Nat} {l : List (Nat → Nat)} {H H' : Nat → Bool} {B B' : Nat → Nat} {M M' : Nat → List (Nat → Nat)}
theorem bS_way {k i : Nat} (hk : k < n) (hi : i < 16) (hn : n ≤ 16) : byF (bS n n) (k * 16 + k) i = sameF n i := by
  unfold byF bS
  have e1 : ((k * 16 + k) * 16 + i) / 16 = k * 16 + k := by omega
  have e2 : ((k * 16 + k) * 16 + i) / 256 = k := by
    have : (k * 16 + k) * 16 + i = k * 256 + (k * 16 + i) := by omega
    rw [this, Nat.add_comm, Nat.add_mul_div_right _ _ (by omega), Nat.div_eq_of_lt (by omega)]
    omega
  rw [e1, e2, if_pos ⟨by omega, hk⟩, show ((k * 16 + k) * 16 + i) % 16 = i by omega]
theorem MadeI.start (hn : n ≤ 16) : MadeI n [] (hS n) (bS n n) (fun _ => []) where
  lv := by
    have key : ∀ k x, k < n → x < n → hS n (k * 16 + x) = true → x = k := fun k x hk hx hh => by
      unfold hS at hh
      have := of_decide_eq_true hh
      omega
    refine ⟨fun k x hk hx hh => ?_, fun k hk => ⟨?_, fun z hz => ?_⟩, fun k hk s hs => (by cases hs), fun k hk s hs => (by cases hs), fun j hj hh => ?_⟩
    · obtain rfl := key k x hk hx hh
      have e : EqN 16 (byF (bS n n) (x * 16 + x)) (sameF n) := fun z hz => bS_way hk hz hn
      have hi : ∀ z, z < n → byF (bS n n) (x * 16 + x) z = z := fun z hz => by rw [e z (by omega)]; exact upto_in hz
      exact ⟨(sameF_perm (by omega) hn).congr e, fun z hz => hi z (by omega), hi x hk, .one hi⟩
    · unfold hS; exact decide_eq_true (by omega)
    · rw [bS_way hk (by omega) hn]; exact upto_in hz
    · unfold hS at hh
      have := of_decide_eq_true hh
      omega
  pr := fun k x _ _ _ _ s hs => by cases hs
  bd := fun j _ => Nat.zero_le _
  top := fun s hs => by cases hs
  goal := fun s hs => by cases hs
theorem MadeI.next {p : Nat → Nat} (hn : n ≤ 16) (h : MadeI n l H B M) (ad : Added n 0 p H B M H' B' M') : MadeI n (l ++ [p]) H' B' M' where
  lv := ad.lv
  pr := ad.pr
  bd := ad.bd
  top := fun s hs => by
    rcases ad.own with e | e
    · rw [e] at hs; exact List.mem_append_left _ (h.top s hs)
    · rw [e] at hs
      rcases List.mem_append.1 hs with c | c
      · exact List.mem_append_left _ (h.top s c)
      · exact List.mem_append_right _ c
  goal := fun s hs => by
    rcases List.mem_append.1 hs with c | c
    · exact In.ext' hn h.lv (h.goal s c) ad.ext
    · rw [List.mem_singleton.1 c]; exact ad.mem
theorem MadeI.comp (h : MadeI n l H B M) : Comp n (Uc H B n) M 0 where
  way k _ hk u hu := by
    obtain ⟨x, hx, hh, rfl⟩ := Uc_mem.1 hu
    have := h.lv.way k x hk hx hh
    exact ⟨this.1.2.2.1, this.2.1, this.2.2.2⟩
  one k _ hk := by
    have := h.lv.one k hk
    exact ⟨_, Uc_mem.2 ⟨k, hk, this.1, rfl⟩, this.2⟩
  mks k _ hk s hs := ⟨(h.lv.mks k hk s hs).1.2.2.1, (h.lv.mks k hk s hs).2⟩
  down k _ hk := h.lv.down k hk
  prod k _ hk u hu s hs := by
    obtain ⟨x, hx, hh, rfl⟩ := Uc_mem.1 hu
    exact h.pr k x (Nat.zero_le _) hk hx hh s hs
theorem MadeI.dist (h : MadeI n l H B M) : Dist n (Uc H B n) := fun k hk => by
  unfold Uc
  rw [List.map_map]
  have e : ((List.range n).filter fun x => H (k * 16 + x)).map ((fun u => u k) ∘ fun x => byF B (k * 16 + x)) = (List.range n).filter fun x => H (k * 16 + x) := by
    conv => rhs; rw [← List.map_id ((List.range n).filter fun x => H (k * 16 + x))]
    refine List.map_congr_left fun x hx => ?_
    obtain ⟨h1, h2⟩ := List.mem_filter.1 hx
    exact (h.lv.way k x hk (List.mem_range.1 h1) h2).2.2.1
  rw [e]
  exact List.Pairwise.filter _ List.nodup_range
theorem MadeI.group (h : MadeI n l H B M) (hl : ∀ s ∈ l, Bij s n) (p : Nat → Nat) : Gen n (· ∈ l) p ↔ Gen n (Mk n M 0) p := by
  have hc := h.comp
  constructor
  · exact fun hp => hp.sub (h.lv.mb 0) fun s hs => (hc.inGen (Nat.le_refl _) (Nat.zero_le _) s).1 (h.goal s hs)
  · exact fun hp => hp.mono fun s hs => h.top s hs.2
theorem cntH_len (H : Nat → Bool) (B : Nat → Nat) (k : Nat) : ∀ x, cntH H k x = ((List.range x).filter fun x => H (k * 16 + x)).length
  | 0 => rfl
  | x + 1 => by
    rw [cntH, cntH_len H B k x, List.range_succ, List.filter_append, List.length_append]
    rcases e : H (k * 16 + x) with _ | _
    · simp [e]
    · simp [e]
theorem ordH_way (H : Nat → Bool) (B : Nat → Nat) (n : Nat) : ∀ k, ordH H n k = wayN (Uc H B n) k
  | 0 => rfl
  | k + 1 => by
    rw [ordH, wayN, ordH_way H B n k, cntH_len H B k n]
    unfold Uc
    rw [List.length_map]
theorem MadeI.order (h : MadeI n l H B M) (hl : ∀ s ∈ l, Bij s n) : ordH H n n = ordT n (Gen n (· ∈ l)) n := by
  rw [ordH_way H B n n]
  exact h.comp.order h.dist (h.group hl) n (Nat.le_refl _)
/-- small enough to be told -/
theorem cntH_low (h : MadeI n l H B M) (hn : n ≤ 16) {k : Nat} (hk : k < n) : cntH H k n ≤ n - k := by
  rw [cntH_len H B k n]
  have h1 := nodup_le ((List.range n).filter fun x => H (k * 16 + x)) ((List.range (n - k)).map (· + k)) (List.Pairwise.filter _ List.nodup_range) fun x hx => by
    obtain ⟨h1, h2⟩ := List.mem_filter.1 hx
    have hx := List.mem_range.1 h1
    obtain ⟨w1, w2, w3, _⟩ := h.lv.way k x hk hx h2
    have hge : k ≤ x := by
      rcases Nat.lt_or_ge x k with c | c
      · have e := w2 x c
        have := w1.2.2.1.2 x k hx hk (by rw [e, w3])
        omega
      · exact c
    exact List.mem_map.2 ⟨x - k, List.mem_range.2 (by omega), by omega⟩
  rwa [List.length_map, List.length_range] at h1
theorem MadeI.small (h : MadeI n l H B M) (hn : n ≤ 16) : ∀ k, k ≤ n → ordH H n k * fac16 (n - k) ≤ fac16 n
  | 0, _ => by simp [ordH]
  | k + 1, hk => by
    have h1 := h.small hn k (by omega)
    have h2 := cntH_low h hn (show k < n by omega)
    obtain ⟨j, hj⟩ : ∃ j, n - k = j + 1 := ⟨n - k - 1, by omega⟩
    rw [show n - (k + 1) = j by omega, ordH]
    rw [hj, fac16] at h1
    rw [hj] at h2
    refine Nat.le_trans ?_ h1
    rw [Nat.mul_assoc]
    exact Nat.mul_le_mul_left _ (Nat.mul_le_mul_right _ h2)
theorem fac16_pos : ∀ k, 1 ≤ fac16 k
  | 0 => Nat.le_refl _
  | k + 1 => Nat.mul_pos (Nat.succ_pos k) (fac16_pos k)
theorem fac16_mono (k : Nat) : ∀ j, fac16 k ≤ fac16 (k + j)
  | 0 => Nat.le_refl _
  | j + 1 => Nat.le_trans (fac16_mono k j) (by rw [← Nat.add_assoc, fac16]; exact Nat.le_mul_of_pos_left _ (Nat.succ_pos _))
theorem MadeI.big (h : MadeI n l H B M) (hn : n ≤ 16) {k : Nat} (hk : k ≤ n) : ordH H n k ≤ 9223372036854775807 := by
  have h1 := h.small hn k hk
  have h2 := Nat.le_mul_of_pos_right (ordH H n k) (fac16_pos (n - k))
  have h3 := fac16_mono n (16 - n)
  rw [show n + (16 - n) = 16 by omega] at h3
  have h4 : fac16 16 = 20922789888000 := by decide
  omega
/-- what belongs to the group -/
theorem MadeI.inside (h : MadeI n l H B M) (hl : ∀ s ∈ l, Bij s n) (hn : n ≤ 16) {p : Nat → Nat} (hp : PermN p n) : insideT H B n n p = true ↔ Gen n (· ∈ l) p := by
  have h1 := h.lv.inside hn (Nat.zero_le _) hp (fun x hx => absurd hx (Nat.not_lt_zero x))
  rw [Nat.sub_zero] at h1
  rw [h1, h.comp.inGen (Nat.le_refl _) (Nat.zero_le _), h.group hl]
end

set_option maxRecDepth 100000 in
set_option maxHeartbeats 1000000 in
theorem l03Made_any (n : Nat) (h1 : 1 ≤ n) (hn : n ≤ 16) (v : Value) (l : List (Nat → Nat)) (hl : ∀ p ∈ l, PermN p n) (hlen : l.length ≤ 1000000) (w : World) (hv : (pPl v l).ok w) :
    Calls Try.prog 84 #[v, .int .i64 n] w fun e w' => ∃ g G H B M, e = .returned (.pointer (some ⟨g, 0, none⟩)) ∧ Holds w w' (pBlk g (chv n G H B) 93 :: gRows G M) ∧ MadeI n l H B M := by
  obtain ⟨A, c, rfl⟩ := own_slice hv
  have HV := hide hv; clear hv
  have HL := hide hl; clear hl
  have CS := hide fun w => l03Start_any n hn w
  go_enter Try.func84, Try.ntmps84
  go_wp2_with fail
  refine (CS.out _).mono ?_
  rintro e w1 ⟨g, rfl, hN⟩
  go_wp2
  go_loopw [6] (fun t wr => ∃ i G H B M, i ≤ l.length ∧ t = .int .i64 ((i : Nat) : Int) ∧ MadeI n (l.take i) H B M ∧ Holds w wr (pBlk g (chv n G H B) 93 :: (gRows G M ++ []))) (fun t _ => l.length - (intOf t).toNat)
  case atStart => exact ⟨0, _, _, _, _, by omega, rfl, MadeI.start hn, by rw [List.append_nil]; exact hN⟩
  case round =>
    clear hN CS
    obtain ⟨i, G, H, B, M, hi, rfl, hM, hH⟩ := hrel
    have HM := hide hM; clear hM
    by_cases hil : i < l.length
    · obtain ⟨q0, c0, e0, -, lk⟩ := plOk_load (plOk_below HV.out hH.low) hil
      injection e0 with e0 e1 e2
      subst e0
      clear e1 e2
      have hp := HL.out _ (List.getElem_mem hil)
      have htk : l.take (i + 1) = l.take i ++ [l[i]] := List.take_succ_eq_append_getElem hil
      obtain ⟨p, hpe⟩ : ∃ p, p = l[i] := ⟨_, rfl⟩
      rw [← hpe] at hp lk htk
      have HTK := hide htk; clear htk hpe
      have ca := l03Add_any n hn 0 p G H B M g w wr [] (by omega) hp (fun z hz => absurd hz (Nat.not_lt_zero z)) (fun j e => absurd e (by omega)) HM.out.lv HM.out.pr HM.out.bd hH
      have CA := hide ca; clear ca hH hp
      have hil' : (i : Int) < l.length := by omega
      go_wp2_with fail
      refine CA.out.mono ?_
      rintro e w2 ⟨⟨v, rfl⟩, G2, H2, B2, M2, hH2, ad⟩
      have HAD := hide ad; clear ad CA lk
      go_wp2
      go_roundw
      case rel => exact ⟨i + 1, G2, H2, B2, M2, by omega, by go_num, by rw [HTK.out]; exact HM.out.next hn HAD.out, hH2⟩
      case measure => simp [intOf]; omega
    · have hie : i = l.length := by omega
      have hil' : ¬ (i : Int) < l.length := by omega
      have hM := HM.out
      rw [hie, List.take_length] at hM
      rw [List.append_nil] at hH
      have HM2 := hide hM; clear hM HM hie hil
      go_wp2
      go_ret
      refine ⟨g, ?_⟩
      first | exact ⟨G, H, B, M, rfl, hH, HM2.out⟩ | exact ⟨rfl, G, H, B, M, hH, HM2.out⟩
end Go.Proofs.Ytlmhnimpglookaa

namespace Go.Proofs.Ytlmhnimpglookaa
open Go.RowKit

def fact : Nat → Nat
  | 0 => 1
  | k + 1 => (k + 1) * fact k
section
variable {n : Nat} {G Q : (Nat → Nat) → Prop} {U M : Nat → List (Nat → Nat)} {W : List ((Nat → Nat) × Nat)}
theorem SInv.few (h : SInv n G Q U M W) {k : Nat} (hk : k < n) : (U k).length ≤ n - k := by
  have h1 := nodup_le ((U k).map fun u => u k) ((List.range (n - k)).map (· + k)) (h.dist k hk) fun x hx => by
    obtain ⟨u, hu, rfl⟩ := List.mem_map.1 hx
    have hw := h.way k hk u hu
    have hb := hw.1.2.2.1
    have hlt := hb.1 k hk
    have hge : k ≤ u k := by
      rcases Nat.lt_or_ge (u k) k with c | c
      · have := hw.2.1 (u k) c
        have := hb.2 (u k) k hlt hk this
        omega
      · exact c
    exact List.mem_map.2 ⟨u k - k, List.mem_range.2 (by omega), by omega⟩
  rwa [List.length_map, List.length_map, List.length_range] at h1
theorem SInv.way_le (h : SInv n G Q U M W) : ∀ k, k ≤ n → wayN U k * fact (n - k) ≤ fact n
  | 0, _ => by simp [wayN]
  | k + 1, hk => by
    have h1 := h.way_le k (by omega)
    have h2 := h.few (show k < n by omega)
    obtain ⟨j, hj⟩ : ∃ j, n - k = j + 1 := ⟨n - k - 1, by omega⟩
    rw [show n - (k + 1) = j by omega, wayN]
    rw [hj, fact] at h1
    rw [hj] at h2
    refine Nat.le_trans ?_ h1
    rw [Nat.mul_assoc]
    exact Nat.mul_le_mul_left _ (Nat.mul_le_mul_right _ h2)
theorem fact_pos : ∀ k, 1 ≤ fact k
  | 0 => Nat.le_refl _
  | k + 1 => Nat.mul_pos (Nat.succ_pos k) (fact_pos k)
theorem fact_mono (k : Nat) : ∀ j, fact k ≤ fact (k + j)
  | 0 => Nat.le_refl _
  | j + 1 => Nat.le_trans (fact_mono k j) (by rw [← Nat.add_assoc, fact]; exact Nat.le_mul_of_pos_left _ (Nat.succ_pos _))
theorem SInv.way_big (h : SInv n G Q U M W) (hn : n ≤ 16) {k : Nat} (hk : k ≤ n) : wayN U k ≤ 20922789888000 := by
  have h1 := h.way_le k hk
  have h2 := Nat.le_mul_of_pos_right (wayN U k) (fact_pos (n - k))
  have h3 := fact_mono n (16 - n)
  rw [show n + (16 - n) = 16 by omega] at h3
  have h4 : fact 16 = 20922789888000 := by decide
  omega
/-- the order that the sieve tells -/
theorem SInv.order {S : (Nat → Nat) → Prop} (h : SInv n (Gen n S) S U M []) (hS : ∀ s, S s → Bij s n) : wayN U n = ordT n (Gen n S) n := h.comp.order h.dist (h.group hS) n (Nat.le_refl _)
/-- what the sieve keeps is not in the group -/
theorem SInv.sift_in {S : (Nat → Nat) → Prop} (h : SInv n (Gen n S) S U M []) (hS : ∀ s, S s → Bij s n) (hn : n ≤ 16) {p : Nat → Nat} (hp : PermN p n) : (Proofs.Ytlmhnimpglookaa.sift U n n p).2 = n ↔ Gen n S p := by
  obtain ⟨s1, _, s3, s4, s5, s6, s7, _⟩ := h.sift hn n (Nat.le_refl _) p hp (fun x hx => by omega)
  have hc := h.comp
  rw [h.group hS p]
  generalize Proofs.Ytlmhnimpglookaa.sift U n n p = ry at *
  obtain ⟨r, y⟩ := ry
  simp only at s1 s3 s4 s5 s6 s7 ⊢
  constructor
  · intro e
    have := s6 U (fun _ _ hu => hu) (by rw [e]; exact .done fun x hx => s4 x (by omega))
    rw [Nat.sub_self] at this
    exact (hc.inGen (Nat.le_refl _) (Nat.zero_le _) p).1 this
  · intro hg
    rcases Nat.lt_or_ge y n with c | c
    · exfalso
      have lift : ∀ k, k < n → ∀ u ∈ U k, Gen n (Mk n M 0) u := fun k hk u hu => by
        have : ∀ j, j ≤ n → ∀ q, Gen n (Mk n M j) q → Gen n (Mk n M 0) q := by
          intro j
          induction j with
          | zero => exact fun _ _ hq => hq
          | succ j ih => exact fun hj q hq => ih (by omega) q (hc.genUp (Nat.zero_le _) hq)
        exact this k (by omega) u (h.way k hk u hu).2.2
      have hr := s7 (Mk n M 0) 0 (h.mb 0) (fun x hx _ => absurd hx (by omega)) (fun k _ hk u hu => lift k hk u hu) hg
      have hi := (hc.inGen (Nat.le_refl _) (Nat.zero_le _) _).2 hr
      have hi2 := h.from (by omega) hi s4
      cases hi2 with
      | done e => omega
      | step hk hu hq e =>
        exact s5 c _ hu (by
          have e1 := e y c
          rw [hq.fix h.wf y (by omega)] at e1
          exact e1.symm)
    · omega
end

/-- the order of the group of a dessin, and the error -/
noncomputable def ordN (n : Int) (f g : Nat → Nat) : Nat := if desB n f g then ordT n.toNat (Gen n.toNat (Two f g)) n.toNat else 0

set_option maxRecDepth 100000 in
set_option maxHeartbeats 1000000 in
theorem groupOrder_any (n : Int) (f g : Nat → Nat) (hf : ∀ i, f i < 256) (hg : ∀ i, g i < 256) (w : World) :
    Calls Try.prog 36 #[.agg (dv n f g)] w fun e w' => e = .returned (.tuple #[.int .i64 (ordN n f g), .int .i64 (if desB n f g then 0 else 1)]) ∧ Below w.heap.size w w' := by
  have C1 := hide fun w => isDessin_any n f g hf hg w
  clear hf hg
  have H1 := (Holds.start w).blk (dv n f g) 44 w.heap.size rfl
  rcases h1 : desB n f g with _ | _
  · rw [h1] at C1
    have hr : ordN n f g = 0 := by unfold ordN; rw [if_neg (by simp [h1])]
    rw [hr]
    clear h1 hr
    go_enter Try.func36, Try.ntmps36
    go_wp2_with fail
    refine (C1.out _).mono ?_
    rintro e w1 ⟨rfl, hb⟩
    have H2 := H1.call hb
    go_wp2
    go_ret2
    exact ⟨rfl, H2.low⟩
  · rw [h1] at C1
    have hr : ordN n f g = ordT n.toNat (Gen n.toNat (Two f g)) n.toNat := by unfold ordN; rw [if_pos h1]
    rw [hr]
    obtain ⟨m, rfl, hd⟩ := desB_true h1
    simp only [Int.toNat_natCast]
    clear h1 hr
    have hm := hd.le
    have hS : ∀ s, Two f g s → Bij s m := by
      rintro s (rfl | rfl)
      · exact hd.black.2.2.1
      · exact hd.white.2.2.1
    have HS := hide hS; clear hS
    have C2 := hide fun w => groupOf_any f g m hd w
    clear hd
    generalize ho : ordT m (Gen m (Two f g)) m = o at *
    have HO := hide ho; clear ho
    go_enter Try.func36, Try.ntmps36
    go_wp2_with fail
    refine (C1.out _).mono ?_
    rintro e w1 ⟨rfl, hb⟩
    have H2 := H1.call hb
    clear hb H1
    have d1 := H2.cells 0 rfl
    go_wp2_with fail
    refine (C2.out _).mono ?_
    rintro e w2 ⟨gs, vs, R, rfl, hN, hI, hB⟩
    have hSv : SvAt w2 gs m vs R := ⟨hN.at 0 rfl, fun k hk => hN.at (k + 1) (svRows_at vs R hk)⟩
    have H3 := H2.call hN.low
    clear H2 d1 hN
    have hord := hI.order HS.out
    rw [HO.out] at hord
    have c3 := order_any m hm gs vs R (fun k hk => by have := hI.way_big hm hk; exact Nat.le_trans this (by decide)) w2 hSv
    have hord' : wayN (fun k => R (k * 2)) m = o := hord
    rw [hord'] at c3
    clear hSv hI hB hord hord'
    go_wp2_with fail
    refine c3.mono ?_
    rintro e w3 ⟨rfl, hb⟩
    have H4 := H3.call hb
    clear hb H3
    go_wp2
    go_ret2
    exact ⟨rfl, H4.low⟩
end Go.Proofs.Ytlmhnimpglookaa

namespace Go.Proofs.Ytlmhnimpglookaa
open Go.RowKit

/-- whether a dessin is regular -/
noncomputable def regB (n : Int) (f g : Nat → Nat) : Bool := desB n f g && decide (((ordN n f g : Nat) : Int) = n)

set_option maxRecDepth 100000 in
set_option maxHeartbeats 1000000 in
theorem isRegular_any (n : Int) (f g : Nat → Nat) (hf : ∀ i, f i < 256) (hg : ∀ i, g i < 256) (w : World) :
    Calls Try.prog 41 #[.agg (dv n f g)] w fun e w' => e = .returned (.tuple #[.bool (regB n f g), .int .i64 (if desB n f g then 0 else 1)]) ∧ Below w.heap.size w w' := by
  have C1 := hide fun w => groupOrder_any n f g hf hg w
  clear hf hg
  have H1 := (Holds.start w).blk (dv n f g) 44 w.heap.size rfl
  unfold regB
  generalize ordN n f g = o at *
  rcases h1 : desB n f g with _ | _
  · rw [h1] at C1
    clear h1
    rw [Bool.false_and]
    go_enter Try.func41, Try.ntmps41
    go_wp2_with fail
    refine (C1.out _).mono ?_
    rintro e w1 ⟨rfl, hb⟩
    have H2 := H1.call hb
    go_wp2
    go_ret2
    exact ⟨rfl, H2.low⟩
  · rw [h1] at C1
    clear h1
    rw [Bool.true_and]
    have hbe : (((o : Nat) : Int) == n) = decide (((o : Nat) : Int) = n) := by
      by_cases c : ((o : Nat) : Int) = n
      · rw [decide_eq_true c, beq_iff_eq]; exact c
      · rw [decide_eq_false c, beq_eq_false_iff_ne]; exact c
    rw [← hbe]
    have HBE := hide hbe; clear hbe
    go_enter Try.func41, Try.ntmps41
    go_wp2_with fail
    refine (C1.out _).mono ?_
    rintro e w1 ⟨rfl, hb⟩
    have H2 := H1.call hb
    have n0 := H2.cell 0 rfl (dv_n n f g)
    go_wp2
    go_ret2
    exact ⟨by trivial, H2.low⟩

open Classical in
/-- whether a permutation belongs to the group -/
noncomputable def inB (n : Int) (f g p : Nat → Nat) : Bool := desB n f g && (permB p n && decide (Gen n.toNat (Two f g) p))
noncomputable def inC (n : Int) (f g p : Nat → Nat) : Int := if desB n f g then (if permB p n then 0 else 2) else 1

open Classical in
set_option maxRecDepth 100000 in
set_option maxHeartbeats 1000000 in
theorem inGroup_any (n : Int) (f g p : Nat → Nat) (hf : ∀ i, f i < 256) (hg : ∀ i, g i < 256) (hp : ∀ i, p i < 256) (w : World) :
    Calls Try.prog 39 #[.agg (dv n f g), .agg (av p)] w fun e w' => e = .returned (.tuple #[.bool (inB n f g p), .int .i64 (inC n f g p)]) ∧ Below w.heap.size w w' := by
  have C1 := hide fun w => isDessin_any n f g hf hg w
  have C2 := hide fun w => isPerm_any p hp n w
  clear hf hg hp
  have H1 := ((Holds.start w).blk (dv n f g) 44 w.heap.size rfl).blk (av p) 42 (w.heap.size + 1) (by simp)
  unfold inB inC
  rcases h1 : desB n f g with _ | _
  · rw [h1] at C1
    clear h1 C2
    rw [Bool.false_and, if_neg (by simp)]
    go_enter Try.func39, Try.ntmps39
    go_wp2_with fail
    refine (C1.out _).mono ?_
    rintro e w1 ⟨rfl, hb⟩
    have H2 := H1.call hb
    go_wp2
    go_ret2
    exact ⟨rfl, H2.low⟩
  · rw [h1] at C1
    rw [Bool.true_and, if_pos rfl]
    rcases h2 : permB p n with _ | _
    · rw [h2] at C2
      clear h1 h2
      rw [Bool.false_and, if_neg (by simp)]
      go_enter Try.func39, Try.ntmps39
      go_wp2_with fail
      refine (C1.out _).mono ?_
      rintro e w1 ⟨rfl, hb⟩
      have H2 := H1.call hb
      have n0 := H2.cell 1 rfl (dv_n n f g)
      have d1 := H2.cells 0 rfl
      go_wp2_with fail
      refine (C2.out _).mono ?_
      rintro e w2 ⟨rfl, hb2⟩
      have H3 := H2.call hb2
      go_wp2
      go_ret2
      exact ⟨rfl, H3.low⟩
    · rw [h2] at C2
      rw [Bool.true_and, if_pos rfl]
      obtain ⟨m, rfl, hd⟩ := desB_true h1
      obtain ⟨m', e', hpm⟩ := permB_true h2
      obtain rfl : m = m' := by omega
      simp only [Int.toNat_natCast]
      clear h1 h2 e'
      have hm := hd.le
      have hS : ∀ s, Two f g s → Bij s m := by
        rintro s (rfl | rfl)
        · exact hd.black.2.2.1
        · exact hd.white.2.2.1
      have HS := hide hS; clear hS
      have HP := hide hpm; clear hpm
      have C3 := hide fun w => groupOf_any f g m hd w
      have hn' := dv_n m f g
      clear hd
      generalize ho : (decide (Gen m (Two f g) p)) = o at *
      have HO := hide ho; clear ho
      go_enter Try.func39, Try.ntmps39
      go_wp2_with fail
      refine (C1.out _).mono ?_
      rintro e w1 ⟨rfl, hb⟩
      have H2 := H1.call hb
      have n0 := H2.cell 1 rfl hn'
      have d1 := H2.cells 0 rfl
      go_wp2_with fail
      refine (C2.out _).mono ?_
      rintro e w2 ⟨rfl, hb2⟩
      have H3 := H2.call hb2
      clear n0 d1 H1 H2 hb hb2
      go_wp2
      refine Rd.region_P (w0 := w) [pBlk (w.heap.size + 1) (av p) 42, pBlk w.heap.size (dv m f g) 44] [pBlk (w.heap.size + 1) (av p) 42, pBlk w.heap.size (dv m f g) 44] [1, 3] (.q 0 <| .q 2 <| .s1 1 <| .s1 3 <| .q 4 <| .q 5 .fin) H3 (.refl _) (by kernel_rfl) (by kernel_rfl) (by kernel_rfl) ?_
      iterate 2
        apply Rd.v_q
        · simp only [List.getElem?_toArray, List.getElem?_cons_zero, List.getElem?_cons_succ]; exact rfl
        · rfl
        · go_simp
        · intro wx hx
          have q0 := hx.cells 0 rfl
          have q1 := hx.cells 1 rfl
          unfold atG
          go_simp
          simp only [uponG]
          exact ⟨by trivial, rfl⟩
      refine Rd.v_s (fun u wx => ∃ gs vs R, u = .pointer (some ⟨gs, 0, none⟩) ∧ SvAt wx gs m vs R ∧ SInv m (Gen m (Two f g)) (Two f g) (Uf R) (Mf R) [] ∧ ∀ i, (R i).length ≤ totN R m) (fun u _ _ ⟨gs, vs, R, e, h, h'⟩ hb => ⟨gs, vs, R, e, h.below hb, h'⟩) (by simp only [List.getElem?_toArray, List.getElem?_cons_zero, List.getElem?_cons_succ]; exact rfl) rfl (by go_simp) (fun wx hx hD => ?_) ?_
      · go_simp
        simp only [Rd.uponE]
        refine ⟨by trivial, (C3.out wx).mono ?_⟩
        rintro e w' ⟨gs, vs, R, rfl, hN, hI, hB⟩
        exact ⟨_, rfl, hx.call hN.low, gs, rfl, vs, R, ⟨hN.at 0 rfl, fun k hk => hN.at (k + 1) (svRows_at vs R hk)⟩, hI, hB⟩
      rintro u ⟨wy, hwy, gs, vs0, R0', rfl, hx0⟩
      clear hx0 hwy wy
      refine Rd.v_s (fun u _ => u = .bool o) (fun u _ _ h _ => h) (by simp only [List.getElem?_toArray, List.getElem?_cons_zero, List.getElem?_cons_succ]; exact rfl) rfl (by go_simp) (fun wx hx hD => ?_) ?_
      · obtain ⟨gs', vs, R, e, hSv, hI, hB⟩ := hD
        simp only [Value.pointer.injEq, Option.some.injEq, Addr.mk.injEq, and_true] at e
        subst e
        have htot := hI.tot hm
        have ch := has_any m hm gs vs R (fun k hk u hu => (hI.way k hk u hu).1) (fun i => by have := hB i; omega) p HP.out wx hSv
        have hsi : decide ((sift (fun k => R (k * 2)) m m p).2 = m) = o := by
          rw [← HO.out]
          exact decide_eq_decide.2 (hI.sift_in HS.out hm HP.out)
        rw [hsi] at ch
        go_simp
        simp only [Rd.uponE]
        refine ⟨by trivial, ch.mono ?_⟩
        rintro e w' ⟨rfl, hb⟩
        exact ⟨_, rfl, hx.call hb, rfl⟩
      rintro u ⟨wy, hwy, rfl⟩
      clear hwy wy
      iterate 2
        apply Rd.v_q
        · simp only [List.getElem?_toArray, List.getElem?_cons_zero, List.getElem?_cons_succ]; exact rfl
        · rfl
        · go_simp
        · intro wx hx
          have q0 := hx.cells 0 rfl
          have q1 := hx.cells 1 rfl
          unfold atG
          go_simp
          simp only [uponG]
          exact ⟨by trivial, rfl⟩
      rintro w6 hx6 -
      go_simp
      go_wp2
      go_ret2
      exact ⟨rfl, hx6.low⟩
end Go.Proofs.Ytlmhnimpglookaa

namespace Go.Proofs.Ytlmhnimpglookaa
open Go.RowKit

@[irreducible] def av2 (p q : Nat → Nat) : Array Value := (plB [p, q]).toArray
theorem av2_list (p q : Nat → Nat) : (av2 p q).toList = plB [p, q] := by unfold av2; rfl
theorem av2_size (p q : Nat → Nat) : (av2 p q).size = 32 := by rw [← Array.length_toList, av2_list, plB_length]; rfl
theorem fillP2 (p q : Nat → Nat) (cs : Array Value) (hcs : cs.size = 32) : Instr.fill (fun i => some (i * 16, 16)) cs [(0, .agg (av p)), (1, .agg (av q))] = some (av2 p q) := by
  simp only [Instr.fill, Value.cells, av_size, hcs, splice_eq, splice_size]
  rw [if_neg (by simp), if_neg (by simp)]
  congr 1
  apply Array.ext_getElem?
  intro i
  rw [foldset, splice_size, hcs, av_len]
  have hg : (av2 p q)[i]? = (plB [p, q])[i]? := by rw [← av2_list, Array.getElem?_toList]
  rw [hg, plB_cons]
  by_cases c : i < 16
  · rw [if_neg (by omega), foldset, hcs, av_len, if_pos (by omega), List.getElem?_append_left (by rw [av_len]; exact c)]
    congr 1
  · rw [List.getElem?_append_right (by rw [av_len]; omega), av_len]
    have e : plB [q] = (av q).toList := by unfold plB; simp
    rw [e]
    by_cases d : i < 32
    · rw [if_pos (by omega)]
    · rw [if_neg (by omega), foldset, hcs, av_len, if_neg (by omega), Array.getElem?_eq_none (by rw [hcs]; omega), List.getElem?_eq_none (by rw [av_len]; omega)]
@[go_sem] theorem run_bslP2 (p q : Nat → Nat) (w : World) : (buildSlP 2 #[(0, .agg (av p)), (1, .agg (av q))]).run Try.prog w = .ok (.value (.slice (some ⟨w.heap.size, 0, none⟩) 2 2)) (w.alloc (.cells (av2 p q) 42)) := by
  obtain ⟨i0, hi, hz0, hz1, _⟩ := info_parts infoPlc
  have hsz : ¬ (2 * i0.size > 2 ^ 24) := by rw [hz1]; decide
  have hnz : ¬ (2 * i0.size = 0) := by rw [hz1]; decide
  have hff : ∀ cs : Array Value, cs.size = 32 → Instr.fill (fun i => some (i * i0.size, i0.size)) cs [(0, .agg (av p)), (1, .agg (av q))] = some (av2 p q) := fun cs h => by rw [hz1]; exact fillP2 p q cs h
  simp only [buildSlP, Instr.buildSlice, run_underlying Try.underlying86, sizeOf, typeInfo, hi, zeroValue, hz0, Sem.run_bind, Sem.run_pure, Result.andThen_ok, run_program, hsz, hnz, if_false]
  rw [hff _ (by simp [hz1])]
  rfl
theorem two_row {w : World} {g : Nat} {p q : Nat → Nat} (h : (pBlk g (av2 p q) 42).ok w) : (pPl (.slice (some ⟨g, 0, none⟩) 2 2) [p, q]).ok w := by
  refine ⟨by rw [plB_length], .inr ⟨g, 2, av2 p q, rfl, Nat.zero_le _, h, Nat.le_refl _, by unfold maxLen; omega, av2_size p q, ?_⟩⟩
  rw [av2_list, show [p, q].length * 16 = (plB [p, q]).length by rw [plB_length], List.take_length]
theorem two_mem (f g : Nat → Nat) : (· ∈ [f, g]) = Two f g := by funext s; unfold Two; simp

set_option maxRecDepth 100000 in
set_option maxHeartbeats 1000000 in
theorem l03Of_any (f h : Nat → Nat) (m : Nat) (hd : DesN f h m) (w : World) :
    Calls Try.prog 66 #[.agg (dv m f h)] w fun e w' => ∃ g G H B M, e = .returned (.pointer (some ⟨g, 0, none⟩)) ∧ Holds w w' (pBlk g (chv m G H B) 93 :: gRows G M) ∧ MadeI m [f, h] H B M := by
  have hm := hd.le
  have H1 := (Holds.start w).blk (dv m f h) 44 w.heap.size rfl
  have n0 := H1.cell 0 rfl (dv_n m f h)
  have d0 := H1.cells 0 rfl
  have H2 := H1.blk (av2 f h) 42 (w.heap.size + 1) (by simp)
  have n1 := H2.cell 1 rfl (dv_n m f h)
  have cm := l03Made_any m hd.pos hm _ [f, h] (fun p hp => by
    simp only [List.mem_cons, List.not_mem_nil, or_false] at hp
    rcases hp with rfl | rfl
    · exact hd.black
    · exact hd.white) (by simp) _ (two_row (H2.at 0 rfl))
  have CM := hide cm; clear cm hd
  have HH2 := hide H2; clear H2
  go_enter Try.func66, Try.ntmps66
  go_wp2_with fail
  refine CM.out.mono ?_
  rintro e w3 ⟨g, G, H, B, M, rfl, hN, hM⟩
  have HM := hide hM; clear hM
  go_wp2
  go_ret
  refine ⟨g, ?_⟩
  have hT : Holds w w3 (pBlk g (chv m G H B) 93 :: gRows G M) := (HH2.out.join hN).sub (List.Sublist.trans (List.sublist_append_left _ _) (List.Sublist.refl _))
  first | exact ⟨G, H, B, M, rfl, hT, HM.out⟩ | exact ⟨rfl, G, H, B, M, hT, HM.out⟩

set_option maxRecDepth 100000 in
set_option maxHeartbeats 1000000 in
theorem sGroupOrder_any (n : Int) (f g : Nat → Nat) (hf : ∀ i, f i < 256) (hg : ∀ i, g i < 256) (w : World) :
    Calls Try.prog 34 #[.agg (dv n f g)] w fun e w' => e = .returned (.tuple #[.int .i64 (ordN n f g), .int .i64 (if desB n f g then 0 else 1)]) ∧ Below w.heap.size w w' := by
  have C1 := hide fun w => sIs_any n f g hf hg w
  clear hf hg
  have H1 := (Holds.start w).blk (dv n f g) 44 w.heap.size rfl
  rcases h1 : desB n f g with _ | _
  · rw [h1] at C1
    have hr : ordN n f g = 0 := by unfold ordN; rw [if_neg (by simp [h1])]
    rw [hr]
    clear h1 hr
    go_enter Try.func34, Try.ntmps34
    go_wp2_with fail
    refine (C1.out _).mono ?_
    rintro e w1 ⟨rfl, hb⟩
    have H2 := H1.call hb
    go_wp2
    go_ret2
    exact ⟨rfl, H2.low⟩
  · rw [h1] at C1
    have hr : ordN n f g = ordT n.toNat (Gen n.toNat (Two f g)) n.toNat := by unfold ordN; rw [if_pos h1]
    rw [hr]
    obtain ⟨m, rfl, hd⟩ := desB_true h1
    simp only [Int.toNat_natCast]
    clear h1 hr
    have hm := hd.le
    have hS : ∀ s ∈ [f, g], Bij s m := fun s hs => by
      simp only [List.mem_cons, List.not_mem_nil, or_false] at hs
      rcases hs with rfl | rfl
      · exact hd.black.2.2.1
      · exact hd.white.2.2.1
    have HS := hide hS; clear hS
    have C2 := hide fun w => l03Of_any f g m hd w
    clear hd
    generalize ho : ordT m (Gen m (Two f g)) m = o at *
    have HO := hide ho; clear ho
    go_enter Try.func34, Try.ntmps34
    go_wp2_with fail
    refine (C1.out _).mono ?_
    rintro e w1 ⟨rfl, hb⟩
    have H2 := H1.call hb
    clear hb H1
    have d1 := H2.cells 0 rfl
    go_wp2_with fail
    refine (C2.out _).mono ?_
    rintro e w2 ⟨gc, G, H, B, M, rfl, hN, hM⟩
    have H3 := H2.call hN.low
    have hord := hM.order HS.out
    rw [two_mem, HO.out] at hord
    have c3 := l03Order_any m hm gc G H B (fun k hk => hM.big hm hk) w2 (hN.at 0 rfl)
    rw [hord] at c3
    clear hN hM hord H2 d1
    go_wp2_with fail
    refine c3.mono ?_
    rintro e w3 ⟨rfl, rfl⟩
    go_wp2
    go_ret2
    exact ⟨rfl, H3.low⟩

set_option maxRecDepth 100000 in
set_option maxHeartbeats 1000000 in
theorem sIsRegular_any (n : Int) (f g : Nat → Nat) (hf : ∀ i, f i < 256) (hg : ∀ i, g i < 256) (w : World) :
    Calls Try.prog 40 #[.agg (dv n f g)] w fun e w' => e = .returned (.tuple #[.bool (regB n f g), .int .i64 (if desB n f g then 0 else 1)]) ∧ Below w.heap.size w w' := by
  have C1 := hide fun w => sIs_any n f g hf hg w
  clear hf hg
  have H1 := (Holds.start w).blk (dv n f g) 44 w.heap.size rfl
  unfold regB
  rcases h1 : desB n f g with _ | _
  · rw [h1] at C1
    clear h1
    rw [Bool.false_and]
    generalize ordN n f g = o at *
    go_enter Try.func40, Try.ntmps40
    go_wp2_with fail
    refine (C1.out _).mono ?_
    rintro e w1 ⟨rfl, hb⟩
    have H2 := H1.call hb
    go_wp2
    go_ret2
    exact ⟨rfl, H2.low⟩
  · rw [h1] at C1
    rw [Bool.true_and]
    have hr : ordN n f g = ordT n.toNat (Gen n.toNat (Two f g)) n.toNat := by unfold ordN; rw [if_pos h1]
    obtain ⟨m, rfl, hd⟩ := desB_true h1
    simp only [Int.toNat_natCast] at hr
    rw [hr]
    clear h1 hr
    have hm := hd.le
    have hS : ∀ s ∈ [f, g], Bij s m := fun s hs => by
      simp only [List.mem_cons, List.not_mem_nil, or_false] at hs
      rcases hs with rfl | rfl
      · exact hd.black.2.2.1
      · exact hd.white.2.2.1
    have HS := hide hS; clear hS
    have C2 := hide fun w => l03Of_any f g m hd w
    have hn' := dv_n m f g
    clear hd
    generalize ho : ordT m (Gen m (Two f g)) m = o at *
    have HO := hide ho; clear ho
    have hbe : (((o : Nat) : Int) == (m : Int)) = decide (((o : Nat) : Int) = (m : Int)) := by
      by_cases c : ((o : Nat) : Int) = m
      · rw [decide_eq_true c, beq_iff_eq]; exact c
      · rw [decide_eq_false c, beq_eq_false_iff_ne]; exact c
    rw [← hbe]
    have HBE := hide hbe; clear hbe
    go_enter Try.func40, Try.ntmps40
    go_wp2_with fail
    refine (C1.out _).mono ?_
    rintro e w1 ⟨rfl, hb⟩
    have H2 := H1.call hb
    clear hb H1
    go_wp2
    refine Rd.region_P (w0 := w) [pBlk w.heap.size (dv m f g) 44] [pBlk w.heap.size (dv m f g) 44] [1, 2] (.q 0 <| .q 3 <| .q 4 <| .s1 1 <| .s1 2 <| .q 5 <| .q 6 <| .q 7 .fin) H2 (.refl _) (by kernel_rfl) (by kernel_rfl) (by kernel_rfl) ?_
    iterate 3
      apply Rd.v_q
      · simp only [List.getElem?_toArray, List.getElem?_cons_zero, List.getElem?_cons_succ]; exact rfl
      · rfl
      · go_simp
      · intro wx hx
        have q0 := hx.cells 0 rfl
        have q1 := hx.cell 0 rfl hn'
        unfold atG
        go_simp
        simp only [uponG]
        exact ⟨by trivial, rfl⟩
    refine Rd.v_s (fun u wx => ∃ gs G H B M, u = .pointer (some ⟨gs, 0, none⟩) ∧ ChAt wx gs m G H B ∧ MadeI m [f, g] H B M) (fun u _ _ ⟨gs, G, H, B, M, e, h, h'⟩ hb => ⟨gs, G, H, B, M, e, h.below hb, h'⟩) (by simp only [List.getElem?_toArray, List.getElem?_cons_zero, List.getElem?_cons_succ]; exact rfl) rfl (by go_simp) (fun wx hx hD => ?_) ?_
    · go_simp
      simp only [Rd.uponE]
      refine ⟨by trivial, (C2.out wx).mono ?_⟩
      rintro e w' ⟨gs, G, H, B, M, rfl, hN, hM⟩
      exact ⟨_, rfl, hx.call hN.low, gs, rfl, G, H, B, hN.at 0 rfl, M, hM⟩
    rintro u ⟨wy, hwy, gs, G0, H0, B0, M0, rfl, hx0⟩
    clear hx0 hwy wy
    refine Rd.v_s (fun u _ => u = .int .i64 ((o : Nat) : Int)) (fun u _ _ h _ => h) (by simp only [List.getElem?_toArray, List.getElem?_cons_zero, List.getElem?_cons_succ]; exact rfl) rfl (by go_simp) (fun wx hx hD => ?_) ?_
    · obtain ⟨gs', G, H, B, M, e, hC, hM⟩ := hD
      simp only [Value.pointer.injEq, Option.some.injEq, Addr.mk.injEq, and_true] at e
      subst e
      have hord := hM.order HS.out
      rw [two_mem, HO.out] at hord
      have c3 := l03Order_any m hm gs G H B (fun k hk => hM.big hm hk) wx hC
      rw [hord] at c3
      go_simp
      simp only [Rd.uponE]
      refine ⟨by trivial, c3.mono ?_⟩
      rintro e w' ⟨rfl, rfl⟩
      exact ⟨_, rfl, hx, rfl⟩
    rintro u ⟨wy, hwy, rfl⟩
    clear hwy wy
    iterate 3
      apply Rd.v_q
      · simp only [List.getElem?_toArray, List.getElem?_cons_zero, List.getElem?_cons_succ]; exact rfl
      · rfl
      · go_simp
      · intro wx hx
        unfold atG
        go_simp
        simp only [uponG]
        exact ⟨by trivial, rfl⟩
    rintro w6 hx6 -
    go_simp
    go_wp2
    go_ret2
    exact ⟨rfl, hx6.low⟩

open Classical in
set_option maxRecDepth 100000 in
set_option maxHeartbeats 1000000 in
theorem sInGroup_any (n : Int) (f g p : Nat → Nat) (hf : ∀ i, f i < 256) (hg : ∀ i, g i < 256) (hp : ∀ i, p i < 256) (w : World) :
    Calls Try.prog 37 #[.agg (dv n f g), .agg (av p)] w fun e w' => e = .returned (.tuple #[.bool (inB n f g p), .int .i64 (inC n f g p)]) ∧ Below w.heap.size w w' := by
  have C1 := hide fun w => sIs_any n f g hf hg w
  have C2 := hide fun w => sPerm_any p hp n w
  clear hf hg hp
  have H1 := ((Holds.start w).blk (dv n f g) 44 w.heap.size rfl).blk (av p) 42 (w.heap.size + 1) (by simp)
  unfold inB inC
  rcases h1 : desB n f g with _ | _
  · rw [h1] at C1
    clear h1 C2
    rw [Bool.false_and, if_neg (by simp)]
    go_enter Try.func37, Try.ntmps37
    go_wp2_with fail
    refine (C1.out _).mono ?_
    rintro e w1 ⟨rfl, hb⟩
    have H2 := H1.call hb
    go_wp2
    go_ret2
    exact ⟨rfl, H2.low⟩
  · rw [h1] at C1
    rw [Bool.true_and, if_pos rfl]
    rcases h2 : permB p n with _ | _
    · rw [h2] at C2
      clear h1 h2
      rw [Bool.false_and, if_neg (by simp)]
      go_enter Try.func37, Try.ntmps37
      go_wp2_with fail
      refine (C1.out _).mono ?_
      rintro e w1 ⟨rfl, hb⟩
      have H2 := H1.call hb
      have n0 := H2.cell 1 rfl (dv_n n f g)
      have d1 := H2.cells 0 rfl
      go_wp2_with fail
      refine (C2.out _).mono ?_
      rintro e w2 ⟨rfl, hb2⟩
      have H3 := H2.call hb2
      go_wp2
      go_ret2
      exact ⟨rfl, H3.low⟩
    · rw [h2] at C2
      rw [Bool.true_and, if_pos rfl]
      obtain ⟨m, rfl, hd⟩ := desB_true h1
      obtain ⟨m', e', hpm⟩ := permB_true h2
      obtain rfl : m = m' := by omega
      simp only [Int.toNat_natCast]
      clear h1 h2 e'
      have hm := hd.le
      have hS : ∀ s ∈ [f, g], Bij s m := fun s hs => by
        simp only [List.mem_cons, List.not_mem_nil, or_false] at hs
        rcases hs with rfl | rfl
        · exact hd.black.2.2.1
        · exact hd.white.2.2.1
      have HS := hide hS; clear hS
      have HP := hide hpm; clear hpm
      have C3 := hide fun w => l03Of_any f g m hd w
      have hn' := dv_n m f g
      clear hd
      generalize ho : (decide (Gen m (Two f g) p)) = o at *
      have HO := hide ho; clear ho
      go_enter Try.func37, Try.ntmps37
      go_wp2_with fail
      refine (C1.out _).mono ?_
      rintro e w1 ⟨rfl, hb⟩
      have H2 := H1.call hb
      have n0 := H2.cell 1 rfl hn'
      have d1 := H2.cells 0 rfl
      go_wp2_with fail
      refine (C2.out _).mono ?_
      rintro e w2 ⟨rfl, hb2⟩
      have H3 := H2.call hb2
      clear n0 d1 H1 H2 hb hb2
      go_wp2
      refine Rd.region_P (w0 := w) [pBlk (w.heap.size + 1) (av p) 42, pBlk w.heap.size (dv m f g) 44] [pBlk (w.heap.size + 1) (av p) 42, pBlk w.heap.size (dv m f g) 44] [1, 3] (.q 0 <| .q 2 <| .s1 1 <| .s1 3 <| .q 4 <| .q 5 .fin) H3 (.refl _) (by kernel_rfl) (by kernel_rfl) (by kernel_rfl) ?_
      iterate 2
        apply Rd.v_q
        · simp only [List.getElem?_toArray, List.getElem?_cons_zero, List.getElem?_cons_succ]; exact rfl
        · rfl
        · go_simp
        · intro wx hx
          have q0 := hx.cells 0 rfl
          have q1 := hx.cells 1 rfl
          unfold atG
          go_simp
          simp only [uponG]
          exact ⟨by trivial, rfl⟩
      refine Rd.v_s (fun u wx => ∃ gs G H B M, u = .pointer (some ⟨gs, 0, none⟩) ∧ ChAt wx gs m G H B ∧ MadeI m [f, g] H B M) (fun u _ _ ⟨gs, G, H, B, M, e, h, h'⟩ hb => ⟨gs, G, H, B, M, e, h.below hb, h'⟩) (by simp only [List.getElem?_toArray, List.getElem?_cons_zero, List.getElem?_cons_succ]; exact rfl) rfl (by go_simp) (fun wx hx hD => ?_) ?_
      · go_simp
        simp only [Rd.uponE]
        refine ⟨by trivial, (C3.out wx).mono ?_⟩
        rintro e w' ⟨gs, G, H, B, M, rfl, hN, hM⟩
        exact ⟨_, rfl, hx.call hN.low, gs, rfl, G, H, B, hN.at 0 rfl, M, hM⟩
      rintro u ⟨wy, hwy, gs, G0, H0, B0, M0, rfl, hx0⟩
      clear hx0 hwy wy
      refine Rd.v_s (fun u _ => u = .bool o) (fun u _ _ h _ => h) (by simp only [List.getElem?_toArray, List.getElem?_cons_zero, List.getElem?_cons_succ]; exact rfl) rfl (by go_simp) (fun wx hx hD => ?_) ?_
      · obtain ⟨gs', G, H, B, M, e, hC, hM⟩ := hD
        simp only [Value.pointer.injEq, Option.some.injEq, Addr.mk.injEq, and_true] at e
        subst e
        have ch := l03Inside_any m hm gs G H B hM.lv.byPerm 0 (Nat.zero_le _) p HP.out wx hC
        have hsi : insideT H B m (m - 0) p = o := by
          have h2 := hM.inside HS.out hm HP.out
          rw [two_mem] at h2
          rw [Nat.sub_zero, ← HO.out]
          rcases hc : insideT H B m m p with _ | _
          · exact (decide_eq_false fun k => by rw [h2.2 k] at hc; cases hc).symm
          · exact (decide_eq_true (h2.1 hc)).symm
        rw [hsi] at ch
        go_simp
        simp only [Rd.uponE]
        refine ⟨by trivial, ch.mono ?_⟩
        rintro e w' ⟨rfl, hb⟩
        exact ⟨_, rfl, hx.call hb, rfl⟩
      rintro u ⟨wy, hwy, rfl⟩
      clear hwy wy
      iterate 2
        apply Rd.v_q
        · simp only [List.getElem?_toArray, List.getElem?_cons_zero, List.getElem?_cons_succ]; exact rfl
        · rfl
        · go_simp
        · intro wx hx
          unfold atG
          go_simp
          simp only [uponG]
          exact ⟨by trivial, rfl⟩
      rintro w6 hx6 -
      go_simp
      go_wp2
      go_ret2
      exact ⟨rfl, hx6.low⟩
end Go.Proofs.Ytlmhnimpglookaa

namespace Go.Proofs.Ytlmhnimpglookaa
open Go.RowKit

set_option maxRecDepth 100000 in
set_option maxHeartbeats 1000000 in
theorem fnExactInGroup_walk (n : Int) (f g : Nat → Nat) (_hn : -9223372036854775808 ≤ n ∧ n ≤ 9223372036854775807) (hf : ∀ i, f i < 256) (hg : ∀ i, g i < 256) (p : Nat → Nat) (hp : ∀ i, p i < 256) (w : World) :
    Calls Try.prog 10 #[.agg (dv n f g), .agg (av p)] w fun e w' => e = .returned (.bool true) ∧ Below w.heap.size w w' := by
  clear _hn
  have c1 := fun w => inGroup_any n f g p hf hg hp w
  have c2 := fun w => sInGroup_any n f g p hf hg hp w
  obtain ⟨a, ha⟩ : ∃ a, a = inB n f g p := ⟨_, rfl⟩
  obtain ⟨c, hc⟩ : ∃ c, c = inC n f g p := ⟨_, rfl⟩
  rw [← ha, ← hc] at c1 c2
  have C1 := hide c1; clear c1
  have C2 := hide c2; clear c2
  have TD := hide fun w => toDessin_any n f g w
  have TP := hide fun w => toPlaces_any p w
  clear ha hc hf hg hp
  have hne : (c != c) = false := by simp
  have hna : (a != a) = false := by simp
  have HH0 := ((Holds.start w).blk (dv n f g) 40 w.heap.size rfl).blk (av p) 38 (w.heap.size + 1) (by simp)
  go_enter Try.func10, Try.ntmps10
  go_wp2
  refine Rd.region_P (w0 := w) [pBlk (w.heap.size + 1) (av p) 38, pBlk w.heap.size (dv n f g) 40] [pBlk (w.heap.size + 1) (av p) 38, pBlk w.heap.size (dv n f g) 40] [] (.q 0 <| .q 1 <| .q 2 <| .q 3 <| .q 4 <| .q 5 <| .q 6 <| .q 7 <| .q 8 <| .q 9 .fin) HH0 (.refl _) (by kernel_rfl) (by kernel_rfl) (by kernel_rfl) ?_
  apply Rd.v_q
  · simp only [List.getElem?_toArray, List.getElem?_cons_zero, List.getElem?_cons_succ]; exact rfl
  · rfl
  · go_simp
  · intro wx hx
    have q0 := hx.cells 0 rfl
    have q1 := hx.cells 1 rfl
    unfold atG
    go_simp
    simp only [uponG]
    exact ⟨by trivial, rfl⟩
  apply Rd.v_q
  · simp only [List.getElem?_toArray, List.getElem?_cons_zero, List.getElem?_cons_succ]; exact rfl
  · rfl
  · go_simp
  · intro wx hx
    have q0 := hx.cells 0 rfl
    have q1 := hx.cells 1 rfl
    unfold atG
    go_simp
    simp only [uponG]
    exact ⟨by trivial, TD.out wx⟩
  apply Rd.v_q
  · simp only [List.getElem?_toArray, List.getElem?_cons_zero, List.getElem?_cons_succ]; exact rfl
  · rfl
  · go_simp
  · intro wx hx
    have q0 := hx.cells 0 rfl
    have q1 := hx.cells 1 rfl
    unfold atG
    go_simp
    simp only [uponG]
    exact ⟨by trivial, rfl⟩
  apply Rd.v_q
  · simp only [List.getElem?_toArray, List.getElem?_cons_zero, List.getElem?_cons_succ]; exact rfl
  · rfl
  · go_simp
  · intro wx hx
    have q0 := hx.cells 0 rfl
    have q1 := hx.cells 1 rfl
    unfold atG
    go_simp
    simp only [uponG]
    exact ⟨by trivial, TP.out wx⟩
  apply Rd.v_q
  · simp only [List.getElem?_toArray, List.getElem?_cons_zero, List.getElem?_cons_succ]; exact rfl
  · rfl
  · go_simp
  · intro wx hx
    have q0 := hx.cells 0 rfl
    have q1 := hx.cells 1 rfl
    unfold atG
    go_simp
    simp only [uponG]
    exact ⟨by trivial, C2.out wx⟩
  apply Rd.v_q
  · simp only [List.getElem?_toArray, List.getElem?_cons_zero, List.getElem?_cons_succ]; exact rfl
  · rfl
  · go_simp
  · intro wx hx
    have q0 := hx.cells 0 rfl
    have q1 := hx.cells 1 rfl
    unfold atG
    go_simp
    simp only [uponG]
    exact ⟨by trivial, rfl⟩
  apply Rd.v_q
  · simp only [List.getElem?_toArray, List.getElem?_cons_zero, List.getElem?_cons_succ]; exact rfl
  · rfl
  · go_simp
  · intro wx hx
    have q0 := hx.cells 0 rfl
    have q1 := hx.cells 1 rfl
    unfold atG
    go_simp
    simp only [uponG]
    exact ⟨by trivial, rfl⟩
  apply Rd.v_q
  · simp only [List.getElem?_toArray, List.getElem?_cons_zero, List.getElem?_cons_succ]; exact rfl
  · rfl
  · go_simp
  · intro wx hx
    have q0 := hx.cells 0 rfl
    have q1 := hx.cells 1 rfl
    unfold atG
    go_simp
    simp only [uponG]
    exact ⟨by trivial, rfl⟩
  apply Rd.v_q
  · simp only [List.getElem?_toArray, List.getElem?_cons_zero, List.getElem?_cons_succ]; exact rfl
  · rfl
  · go_simp
  · intro wx hx
    have q0 := hx.cells 0 rfl
    have q1 := hx.cells 1 rfl
    unfold atG
    go_simp
    simp only [uponG]
    exact ⟨by trivial, rfl⟩
  apply Rd.v_q
  · simp only [List.getElem?_toArray, List.getElem?_cons_zero, List.getElem?_cons_succ]; exact rfl
  · rfl
  · go_simp
  · intro wx hx
    have q0 := hx.cells 0 rfl
    have q1 := hx.cells 1 rfl
    unfold atG
    go_simp
    simp only [uponG]
    exact ⟨by trivial, rfl⟩
  rintro wa hwa -
  go_simp
  go_wp2
  refine Rd.region_P (w0 := w) [pBlk (w.heap.size + 1) (av p) 38, pBlk w.heap.size (dv n f g) 40] [pBlk (w.heap.size + 1) (av p) 38, pBlk w.heap.size (dv n f g) 40] [] (.q 0 <| .q 1 <| .q 2 <| .q 3 <| .q 4 <| .q 5 <| .q 6 <| .q 7 <| .q 8 <| .q 9 .fin) hwa (.refl _) (by kernel_rfl) (by kernel_rfl) (by kernel_rfl) ?_
  apply Rd.v_q
  · simp only [List.getElem?_toArray, List.getElem?_cons_zero, List.getElem?_cons_succ]; exact rfl
  · rfl
  · go_simp
  · intro wx hx
    have q0 := hx.cells 0 rfl
    have q1 := hx.cells 1 rfl
    unfold atG
    go_simp
    simp only [uponG]
    exact ⟨by trivial, rfl⟩
  apply Rd.v_q
  · simp only [List.getElem?_toArray, List.getElem?_cons_zero, List.getElem?_cons_succ]; exact rfl
  · rfl
  · go_simp
  · intro wx hx
    have q0 := hx.cells 0 rfl
    have q1 := hx.cells 1 rfl
    unfold atG
    go_simp
    simp only [uponG]
    exact ⟨by trivial, TD.out wx⟩
  apply Rd.v_q
  · simp only [List.getElem?_toArray, List.getElem?_cons_zero, List.getElem?_cons_succ]; exact rfl
  · rfl
  · go_simp
  · intro wx hx
    have q0 := hx.cells 0 rfl
    have q1 := hx.cells 1 rfl
    unfold atG
    go_simp
    simp only [uponG]
    exact ⟨by trivial, rfl⟩
  apply Rd.v_q
  · simp only [List.getElem?_toArray, List.getElem?_cons_zero, List.getElem?_cons_succ]; exact rfl
  · rfl
  · go_simp
  · intro wx hx
    have q0 := hx.cells 0 rfl
    have q1 := hx.cells 1 rfl
    unfold atG
    go_simp
    simp only [uponG]
    exact ⟨by trivial, TP.out wx⟩
  apply Rd.v_q
  · simp only [List.getElem?_toArray, List.getElem?_cons_zero, List.getElem?_cons_succ]; exact rfl
  · rfl
  · go_simp
  · intro wx hx
    have q0 := hx.cells 0 rfl
    have q1 := hx.cells 1 rfl
    unfold atG
    go_simp
    simp only [uponG]
    exact ⟨by trivial, C1.out wx⟩
  apply Rd.v_q
  · simp only [List.getElem?_toArray, List.getElem?_cons_zero, List.getElem?_cons_succ]; exact rfl
  · rfl
  · go_simp
  · intro wx hx
    have q0 := hx.cells 0 rfl
    have q1 := hx.cells 1 rfl
    unfold atG
    go_simp
    simp only [uponG]
    exact ⟨by trivial, rfl⟩
  apply Rd.v_q
  · simp only [List.getElem?_toArray, List.getElem?_cons_zero, List.getElem?_cons_succ]; exact rfl
  · rfl
  · go_simp
  · intro wx hx
    have q0 := hx.cells 0 rfl
    have q1 := hx.cells 1 rfl
    unfold atG
    go_simp
    simp only [uponG]
    exact ⟨by trivial, rfl⟩
  apply Rd.v_q
  · simp only [List.getElem?_toArray, List.getElem?_cons_zero, List.getElem?_cons_succ]; exact rfl
  · rfl
  · go_simp
  · intro wx hx
    have q0 := hx.cells 0 rfl
    have q1 := hx.cells 1 rfl
    unfold atG
    go_simp
    simp only [uponG]
    exact ⟨by trivial, rfl⟩
  apply Rd.v_q
  · simp only [List.getElem?_toArray, List.getElem?_cons_zero, List.getElem?_cons_succ]; exact rfl
  · rfl
  · go_simp
  · intro wx hx
    have q0 := hx.cells 0 rfl
    have q1 := hx.cells 1 rfl
    unfold atG
    go_simp
    simp only [uponG]
    exact ⟨by trivial, rfl⟩
  apply Rd.v_q
  · simp only [List.getElem?_toArray, List.getElem?_cons_zero, List.getElem?_cons_succ]; exact rfl
  · rfl
  · go_simp
  · intro wx hx
    have q0 := hx.cells 0 rfl
    have q1 := hx.cells 1 rfl
    unfold atG
    go_simp
    simp only [uponG]
    exact ⟨by trivial, rfl⟩
  rintro wb hwb -
  go_simp
  go_wp2
  go_ret
  exact ⟨rfl, hwb.low⟩
end Go.Proofs.Ytlmhnimpglookaa
