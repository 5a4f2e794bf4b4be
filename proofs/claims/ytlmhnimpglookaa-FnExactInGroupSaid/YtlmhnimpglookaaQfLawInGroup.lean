/- Texts put together: RegT, Add, SvO, Has, Chn, Chn2, ChI, ChM, ChO, ChA, ChS -/
import Derived.Test.YtlmhnimpglookaaQeLawInGroup
import Derived.Test.YtlmhnimpglookaaChecked
import Derived.WalkKit
import Derived.WalkSpells
import Derived.WalkLawsBesides
import Derived.Deep.LoopGhost
import Derived.Deep.OwnRows
import Derived.Laws.Rows
import Derived.Laws.Tables
import Derived.Laws.CopyOwn
import Derived.ProofKit
import Derived.OpenShut
import Derived.ShutString
import Derived.ChangeOld
import Derived.Below
import Derived.Laws.OwnMore
import Derived.Laws.CopyRow
import Derived.Deep.MidRow
import Derived.BigQuiet
import Derived.Deep.QuietTactic
import Derived.RegionTactic
import Derived.Deep.RegionWith
import Derived.Maps.Keyed
import Derived.DeepKeys4
import Derived.Maps.Own
import Derived.Carry
import Derived.Deep.Quiet
import Derived.StillTail
import Derived.ChangeKeysEq
import Derived.StillTailTactics
import Derived.Deep.RegionHeld3
import Derived.Laws.Cover3
import Derived.Lib.Bytealg
import Derived.Lib.BytesEntry
import Derived.Laws.Externs
import Derived.Laws.StructEq
import Derived.WalkMore
namespace Go.Proofs.Ytlmhnimpglookaa.Rd
open Go.RowKit

section
variable (P : Program) (md : Region.Mode) (ops : Array Oper) (C : World → Prop) (E : Nat → Bool) (K : Act → World → Prop)

/-- k operations more, all below n, whichever comes up; then L -/
def anyT (n : Nat) (L : Array Bool → Act → (World → Prop) → Prop) : Nat → Array Bool → Act → (World → Prop) → Prop
  | 0, done, a, D => L done a D
  | k + 1, done, a, D => Region.ready md ops done ≠ [] ∧ ∀ i ∈ Region.ready md ops done, i < n ∧ opV P ops C E i (anyT n L k (done.setIfInBounds i true)) a D

theorem anyT_any (hC : ∀ w w', C w → Below w.heap.size w w' → C w') {n g : Nat} {L : Array Bool → Act → (World → Prop) → Prop} {Q : Exit → Act → World → Prop} (hL : ∀ done a D w, C w → D w → L done a D → wpAny P md ops Q g done a w) (k : Nat) :
    ∀ (done : Array Bool) (a : Act) (D : World → Prop) (w : World), Stable D → C w → D w → anyT P md ops C E n L k done a D → wpAny P md ops Q (k + g) done a w := by
  induction k with
  | zero => intro done a D w _ hw hDw h; rw [Nat.zero_add]; exact hL _ _ _ _ hw hDw h
  | succ k ih =>
    intro done a D w hD hw hDw h
    rw [show k + 1 + g = (k + g) + 1 by omega]
    exact ⟨fun e => absurd e h.1, fun i hi => op_sound P ops C E hC hD hw hDw (fun a' D' w' h1 h2 h3 h4 => ih _ a' D' w' h1 h2 h3 h4) (h.2 i hi).2⟩

theorem anyT_first {n i : Nat} {o : Oper} {v : Value} {L : Array Bool → Act → (World → Prop) → Prop} (hi : ops[i]? = some o) (hE : E i = false) (hsel : ∀ (j : Nat) (o : Oper) cs b, ops[j]? = some o → o.op ≠ .select cs b)
    (hs : Region.sinkB md ops n = true) (hc : Region.chainB md ops n = true) (hn : n < ops.size) (hin : i < n) (hdone : ∀ done a D, L done a D → ∀ j ∈ Region.ready md ops done, n ≤ j) (k : Nat) :
    ∀ (done : Array Bool) (a : Act) (D : World → Prop), HeadInv md ops n done →
      (∀ j oj, ops[j]? = some oj → j ≠ i → done.getD j true = false → (∀ e ∈ oj.after, Region.binds md e = true → e.on ≠ i) → o.apart ops oj = true) →
      i ∈ Region.ready md ops done → YieldsG P ops C o v a →
      anyT P md ops C E n L k (done.setIfInBounds i true) (a.put o.dst v) D → anyT P md ops C E n L (k + 1) done a D := by
  have low : ∀ (done : Array Bool), HeadInv md ops n done → i ∈ Region.ready md ops done → ∀ j ∈ Region.ready md ops done, j < n := by
    intro done inv hr j hj
    rcases Nat.lt_or_ge j n with h | h
    · exact h
    · exact absurd hj (tail_waits hs hc hn inv _ i rfl hin (mem_ready.1 hr).1 j h)
  have some_ready : ∀ (done : Array Bool), i ∈ Region.ready md ops done → Region.ready md ops done ≠ [] := fun done hr e => by rw [e] at hr; cases hr
  induction k with
  | zero =>
    intro done a D inv _ hr hy H
    refine ⟨some_ready done hr, fun j hj => ⟨low done inv hr j hj, ?_⟩⟩
    by_cases e : j = i
    · subst e; exact hy.op P ops C E hi hE H
    · have := hdone _ _ _ H j (ready_mono hj e)
      have := low done inv hr j hj
      omega
  | succ k ih =>
    intro done a D inv hfree hr hy H
    refine ⟨some_ready done hr, fun j hj => ⟨low done inv hr j hj, ?_⟩⟩
    by_cases e : j = i
    · subst e; exact hy.op P ops C E hi hE H
    · obtain ⟨hjun, oj, hoj, hall⟩ := mem_ready.1 hj
      have hun := (mem_ready.1 hr).1
      have hno : ∀ e ∈ oj.after, Region.binds md e = true → e.on ≠ i := fun e he hb h => by
        have := hall e he hb
        rw [h, getD_both hun] at this
        cases this
      refine opV_mono P ops C E (fun a' D' h3 => ih (done.setIfInBounds j true) a' D' (inv.set hj (low done inv hr j hj)) (fun k' ok hk hki hk' hnk => hfree k' ok hk hki ?_ hnk) (ready_mono hr (Ne.symm e)) h3.1 ?_)
        (opV_put P ops C E hoj (hfree j oj hoj e hjun hno) (fun cs b => hsel i o cs b hi) (fun cs b => hsel j oj cs b hoj) hy (H.2 j (ready_mono hj e)).2)
      · by_cases e' : j = k'
        · subst e'; exact hjun
        · rw [getD_set_ne true e'] at hk'; exact hk'
      · rw [Array.setIfInBounds_comm _ _ e]; exact h3.2

/-- a plan of the head, and that the tail is forced -/
def planT (sp : List Nat) (n g : Nat) : Plan → Nat → Array Bool → Bool
  | .fin, k, done => decide (k = 0) && Region.seqB md ops g n done
  | .q i p, k, done => !sp.contains i && ((Region.ready md ops done).contains i && Region.free md ops done i && (decide (i < ops.size) && (decide (i < n) && (decide (0 < k) && planT sp n g p (k - 1) (done.setIfInBounds i true)))))
  | .s1 i p, k, done => decide (Region.ready md ops done = [i]) && (decide (i < n) && (decide (0 < k) && planT sp n g p (k - 1) (done.setIfInBounds i true)))
  | .s2 _ _ _ _, _, _ => false
  | .s3 _ _ _ _ _ _, _, _ => false

theorem anyT_walk (hsel : Region.noSelect ops = true) (sp : List Nat) (hsp : ∀ k, sp.contains k = false → E k = false) {n g : Nat} (hs : Region.sinkB md ops n = true) (hc : Region.chainB md ops n = true) (hn : n < ops.size) (p : Plan) :
    ∀ (k : Nat) (done : Array Bool) (a : Act) (D : World → Prop), HeadInv md ops n done → planT md ops sp n g p k done = true → walkV P ops C E K p a D →
      anyT P md ops C E n (fun done' a' D' => Region.seqB md ops g n done' = true ∧ ∀ w, C w → D' w → K a' w) k done a D := by
  induction p with
  | fin =>
    intro k done a D _ hB h
    simp only [planT, Bool.and_eq_true, decide_eq_true_eq] at hB
    obtain ⟨rfl, hB⟩ := hB
    exact ⟨hB, h⟩
  | q i p ih =>
    intro k done a D inv hB h
    simp only [planT, Bool.and_eq_true, decide_eq_true_eq, Bool.not_eq_true'] at hB
    obtain ⟨hcn, ⟨hr, hfree⟩, hk, hin, h0, hB'⟩ := hB
    obtain ⟨j, rfl⟩ : ∃ j, k = j + 1 := ⟨k - 1, by omega⟩
    have hE := hsp i hcn
    have hr' : i ∈ Region.ready md ops done := by simpa using hr
    have hi : ops[i]? = some ops[i] := Array.getElem?_eq_getElem hk
    obtain ⟨v, hy, hK⟩ := yieldsG_of P ops C E hi hE h
    exact anyT_first P md ops C E hi hE (Region.noSelect_spec hsel) hs hc hn hin (fun done' a' D' hL => seqB_ready hL.1) j done a D inv (Region.free_spec hi hfree) hr' hy (ih _ _ _ _ (inv.set hr' hin) hB' hK)
  | s1 i p ih =>
    intro k done a D inv hB h
    simp only [planT, Bool.and_eq_true, decide_eq_true_eq] at hB
    obtain ⟨hr, hin, h0, hB'⟩ := hB
    obtain ⟨j, rfl⟩ : ∃ j, k = j + 1 := ⟨k - 1, by omega⟩
    refine ⟨fun e => (by rw [hr] at e; cases e), fun i' hi => ?_⟩
    have hi0 := hi
    rw [hr] at hi
    obtain rfl : i' = i := by simpa using hi
    exact ⟨hin, opV_mono P ops C E (fun a' D' h' => ih _ _ _ _ (inv.set hi0 hin) hB' h') h⟩
  | s2 => intro k done a D _ hB; simp [planT] at hB
  | s3 => intro k done a D _ hB; simp [planT] at hB
end
def tailB (l : List Oper) (sp : List Nat) (n : Nat) (p : Plan) : Bool :=
  Region.noSelect l.toArray && (decide (n < l.length) && (Region.sinkB .any l.toArray n && (Region.chainB .any l.toArray n && planT .any l.toArray sp n (l.toArray.size - n) p n (Array.replicate l.toArray.size false))))
/-- a region by parts of memory, with a forced tail -/
theorem region_PT {P : Program} {id : Nat} {Q : Exit → Act → World → Prop} {a : Act} {w w0 : World} {l : List Oper} (L : List Part) (L1 : List Part) (sp : List Nat) (n : Nat) (p : Plan) (H : Holds w0 w L1) (hL : L.Sublist L1)
    (hm : P.follows .mixedOrders = true) (hB : tailB l sp n p = true)
    (h : walkV P l.toArray (fun wx => Holds w0 wx L) (fun k => sp.contains k) (fun a' w' => wpList P l.toArray Q (l.drop n) a' w') p a (fun wx => Holds w0 wx L1)) : (Code.region id l.toArray true).wp P Q a w := by
  simp only [tailB, Bool.and_eq_true, decide_eq_true_eq] at hB
  obtain ⟨hsel, hn, hs, hc, hplan⟩ := hB
  have hd : (l.drop n).length = l.toArray.size - n := by simp
  have hn' : n < l.toArray.size := by simpa using hn
  have X := anyT_walk P .any l.toArray (fun wx => Holds w0 wx L) (fun k => sp.contains k) (fun a' w' => wpList P l.toArray Q (l.drop n) a' w') hsel sp (fun _ h => h) hs hc hn' p n (Array.replicate l.toArray.size false) a (fun wx => Holds w0 wx L1)
    ⟨by simp, fun j oj _ e => (by rw [getD_replicate_false] at e; cases e), fun t _ e => getD_in (by simpa using e) (getD_replicate_false _ _)⟩ hplan h
  refine wp_region_any hm ?_
  have := anyT_any P .any l.toArray (fun wx => Holds w0 wx L) (fun k => sp.contains k) (fun _ _ h hb => h.call hb) (Q := Q) (g := l.toArray.size - n) (fun done a' D' w' hw' hDw' hL' => by
    have := wpAny_of_seq (md := .any) (Q' := Q) (l.drop n) n done a' w' (fun j => by simp [List.getElem?_drop]) (by rw [hd]; exact hL'.1) (hL'.2 w' hw' hDw')
    rwa [hd] at this) n (Array.replicate l.toArray.size false) a (fun wx => Holds w0 wx L1) w.drew (fun _ _ h hb => h.call hb) (H.drew.sub hL) H.drew X
  rw [show n + (l.toArray.size - n) = l.toArray.size by omega] at this
  exact this
end Go.Proofs.Ytlmhnimpglookaa.Rd

namespace Go.Proofs.Ytlmhnimpglookaa
open Go.RowKit

theorem rows_at (vs : Nat → Value) (R : Nat → List (Nat → Nat)) (L : List Part) {k : Nat} (hk : k < 32) : (svRows vs R ++ L)[k]? = some (pPl (vs k) (R k)) := by
  rw [List.getElem?_append_left (by rw [svRows_length]; exact hk), svRows_at vs R hk]
theorem rows_set (vs : Nat → Value) (R : Nat → List (Nat → Nat)) (L : List Part) (i : Nat) (v : Value) (l : List (Nat → Nat)) (hi : i < 32) : (svRows vs R ++ L).set i (pPl v l) = svRows (vset vs i v) (rset R i l) ++ L := by
  rw [List.set_append_left _ _ (by rw [svRows_length]; exact hi), svRows_set]
def lenV : Value → Nat
  | .slice _ n _ => n
  | _ => 0
/-- the number of ways, as it stands in memory -/
def totW (w : World) (g : Nat) : Nat → Nat
  | 0 => 0
  | k + 1 => totW w g k + lenV ((cellsOf w g).getD (1 + k * 2) undef)
theorem totW_eq {w : World} {g m : Nat} {vs : Nat → Value} {R : Nat → List (Nat → Nat)} (h : SvAt w g m vs R) : ∀ x, x ≤ 16 → totW w g x = totN R x
  | 0, _ => rfl
  | x + 1, hx => by
    obtain ⟨A, c, hv⟩ := h.form (i := x * 2) (by omega)
    rw [totW, totN, totW_eq h x (by omega), cellsOf_heap h.1, Array.getD_eq_getD_getElem?, sv_at m vs (by omega), Option.getD_some, hv]
    rfl

set_option maxRecDepth 100000 in
set_option maxHeartbeats 4000000 in
theorem add_any (m : Nat) (hm : m ≤ 16) (g : Nat) (vs1 : Nat → Value) (R1 : Nat → List (Nat → Nat)) (S Q : (Nat → Nat) → Prop) (hS : ∀ s, S s → Bij s m) (h : SInv m (Gen m S) Q (Uf R1) (Mf R1) []) (hB : ∀ i, (R1 i).length ≤ totN R1 m)
    (p : Nat → Nat) (hp : PermN p m) (hG : Gen m S p) (w0 w : World) (L : List Part) (H : Holds w0 w (pBlk g (sv m vs1) 102 :: (svRows vs1 R1 ++ L))) :
    Calls Try.prog 87 #[.pointer (some ⟨g, 0, none⟩), .agg (av p)] w fun e w' => (∃ v, e = .returned v) ∧ ∃ vs' R', Holds w0 w' (pBlk g (sv m vs') 102 :: (svRows vs' R' ++ L)) ∧ SInv m (Gen m S) (fun q => Q q ∨ q = p) (Uf R') (Mf R') [] ∧ ∀ i, (R' i).length ≤ totN R' m := by
  have HSM := hide hS; clear hS
  have HI0 := hide (add_start h hp hG); clear h hG hp
  have HB0 := hide hB; clear hB
  have H1 := H.blk (av p) 42 w.heap.size rfl
  have H2 := H1.blk (gv p ((0 : Nat) : Int)) 122 (w.heap.size + 1) (by simp)
  have H3 := H2.conv 0 rfl (pGr (.slice (some ⟨w.heap.size + 1, 0, none⟩) 1 1) [(p, 0)]) (one_grain (H2.at 0 rfl)) (fun k hk => by simpa [pGr, pRow, Value.ownBlock, pBlk, eq_comm] using hk)
  have H4 := H3.sub (.cons_cons _ (.cons _ (.refl _)) : (pGr (.slice (some ⟨w.heap.size + 1, 0, none⟩) 1 1) [(p, 0)] :: pBlk g (sv m vs1) 102 :: (svRows vs1 R1 ++ L)).Sublist _)
  clear H1 H2 H3 H
  go_enter Try.func87, Try.ntmps87
  go_wp2
  go_loopw [4] (fun v wr => ∃ vs R Wt, SInv m (Gen m S) (fun q => Q q ∨ q = p) (Uf R) (Mf R) Wt ∧ (∀ i, (R i).length ≤ totN R m) ∧ Wt.length ≤ 1 + 600 * totN R m ∧ Holds w0 wr (pGr v Wt :: pBlk g (sv m vs) 102 :: (svRows vs R ++ L))) (fun v wr => (256 - totW wr g m) * 600 + lenV v)
  case atStart => exact ⟨vs1, R1, [(p, 0)], HI0.out, HB0.out, by simp, H4⟩
  case round =>
    clear H4 HI0 HB0
    obtain ⟨vs, R, Wt, hI, hB, hW, hH⟩ := hrel
    rcases List.eq_nil_or_concat Wt with rfl | ⟨W0, ⟨q, l⟩, hc⟩
    · obtain ⟨A, c, rfl⟩ := hH.grForm 0 rfl
      go_wp2
      go_end0
      exact ⟨⟨_, rfl⟩, vs, R, hH.tail, hI, hB⟩
    · rw [List.concat_eq_append] at hc
      subst hc
      have hSv : SvAt wr g m vs R := ⟨hH.at 1 rfl, fun k hk => hH.at (k + 2) (rows_at vs R L hk)⟩
      obtain ⟨q0, c0, rfl, hc0, hq0, lk, hpop⟩ := gr_last (hH.at 0 rfl)
      have htot := hI.tot hm
      have hTW := totW_eq hSv m hm
      obtain ⟨⟨r, y⟩, hsf⟩ : ∃ ry, sift (Uf R) m m q = ry := ⟨_, rfl⟩
      obtain ⟨hq, hr, hy, hly, hlm⟩ := hI.sifted hm hsf
      have hwl : W0.length + 1 ≤ 1 + 600 * totN R m := by simpa using hW
      have hP := hH.conv 0 rfl (pGr (.slice (some ⟨q0, 0, none⟩) W0.length c0) W0) hpop (fun k hk => by simpa [pGr, pRow, Value.ownBlock] using hk)
      have H1 : Holds w0 (wr.alloc (.cells (gv q (l : Int)) 122)) (pBlk wr.heap.size (gv q (l : Int)) 122 :: pGr (.slice (some ⟨q0, 0, none⟩) W0.length c0) W0 :: pBlk g (sv m vs) 102 :: (svRows vs R ++ L)) := hP.blk (gv q (l : Int)) 122 wr.heap.size rfl
      have hSv2 : SvAt (wr.alloc (.cells (gv q (l : Int)) 122)) g m vs R := ⟨H1.at 2 rfl, fun k hk => H1.at (k + 3) (rows_at vs R L hk)⟩
      have lp := run_loadGp (H1.cells 0 rfl)
      have cs := sift_any m hm g vs R (fun k hk u hu => (hI.way k hk u hu).1) (fun i => by have := hB i; omega) q hq _ hSv2
      have hsf' : sift (fun k => R (k * 2)) m m q = (r, y) := hsf
      rw [hsf'] at cs
      simp only at cs
      clear hsf' hSv2 hSv hP hpop hH
      have hwi : W0.length ≤ 153600 := by omega
      have HI := hide hI; clear hI
      have HB := hide hB; clear hB
      have HSF := hide hsf; clear hsf
      have HTW := hide hTW; clear hTW
      have HR := hide hr; clear hr hq
      have CS := hide cs; clear cs
      have HW := hide hwl; clear hwl hW
      have HTT := hide htot; clear htot
      have hcI : (W0.length : Int) + 1 ≤ c0 := by omega
      go_wp2_with fail
      refine CS.out.mono ?_
      rintro e w3 ⟨rfl, hb⟩
      clear lk lp CS
      have H3 := (H1.call hb).blk (av r) 42 w3.heap.size rfl
      clear H1 hb
      have n0 := H3.cell 3 rfl (sv_n m vs)
      have lv := H3.cell 1 rfl (gv_level q l)
      by_cases hym : y = m
      · have hyi : ((y : Int) == (m : Int)) = true := by rw [beq_iff_eq]; omega
        go_wp2
        go_roundw
        case rel => exact ⟨vs, R, W0, add_away HI.out hm (by rw [HSF.out]; exact hym), HB.out, by have := HW.out; omega, H3.sub (.cons _ (.cons _ (.refl _)))⟩
        case measure =>
          have hSv : SvAt (w3.alloc (.cells (av r) 42)) g m vs R := ⟨H3.at 3 rfl, fun k hk => H3.at (k + 4) (rows_at vs R L hk)⟩
          show (256 - totW _ g m) * 600 + lenV _ < (256 - totW _ g m) * 600 + lenV _
          rw [HTW.out, totW_eq hSv m hm]
          simp [lenV]
      · have hyi : ((y : Int) == (m : Int)) = false := by rw [beq_eq_false_iff_ne]; omega
        have hym' : y < m := by omega
        clear hym
        go_wp2
        clear n0 lv hyi
        have H4 : Holds w0 (w3.alloc (.cells (av r) 42)) (pBlk w3.heap.size (av r) 42 :: pGr (.slice (some ⟨q0, 0, none⟩) W0.length c0) W0 :: pBlk g (sv m vs) 102 :: (svRows vs R ++ L)) := H3.sub (.cons_cons _ (.cons _ (.refl _)))
        clear H3
        generalize w3.alloc (.cells (av r) 42) = w4 at *
        generalize w3.heap.size = G6 at *
        go_loopw [4, 8] (fun v t wx => ∃ j vs2, l + j ≤ y + 1 ∧ t = .int .i64 ((l + j : Nat) : Int) ∧ Holds w0 wx (pBlk G6 (av r) 42 :: pGr v (W0 ++ grL R r m l j) :: pBlk g (sv m vs2) 102 :: (svRows vs2 (mkR R r l (l + j)) ++ L))) (fun _ t _ => y + 1 - (intOf t).toNat)
        case atStart => exact ⟨0, vs, by omega, rfl, by rw [Nat.add_zero, mkR_zero, grL, List.append_nil]; exact H4⟩
        case round =>
          clear H4
          obtain ⟨j, vs2, hj, rfl, hH⟩ := hrel
          have hgl := grL_len (R := R) (r := r) (m := m) (l := l) j
          have hgt := totN_mono R (l + j)
          by_cases hxy : l + j ≤ y
          · have hrd := hgt (m - (l + j))
            rw [show l + j + (m - (l + j)) = m by omega] at hrd
            have hgn : grL R r m l (j + 1) = grL R r m l j ++ prodL (R ((l + j) * 2)) [r] m (l + j + 1) := rfl
            have hU1 : (R ((l + j) * 2)).length ≤ 256 := by have := HB.out ((l + j) * 2); have := HTT.out; omega
            have hM1 : (R ((l + j) * 2 + 1)).length ≤ 256 := by have := HB.out ((l + j) * 2 + 1); have := HTT.out; omega
            have hWp : ∀ u ∈ R ((l + j) * 2), ∀ i, i < m → u i < 16 := fun u hu i hi => (HI.out.way (l + j) (by omega) u hu).1.lt i (by omega)
            have hWL : (W0 ++ grL R r m l j).length ≤ 200000 := by have := HW.out; have := HTT.out; rw [List.length_append]; omega
            obtain ⟨W1, hW1⟩ : ∃ W1, W1 = W0 ++ grL R r m l j := ⟨_, rfl⟩
            have hgn2 : W0 ++ grL R r m l (j + 1) = W1 ++ prodL (R ((l + j) * 2)) [r] m (l + j + 1) := by rw [hgn, hW1, List.append_assoc]
            rw [← hW1] at hWL hH
            have HGN := hide hgn2; clear hgn2 hgn hW1 hgl hgt hrd
            have HWP := hide hWp; clear hWp
            have HSS := hide (show l + j + 1 = l + (j + 1) by omega)
            have hstep := mkR_step (R := R) (r := r) (l := l) (x := l + j) (by omega)
            have hown := mkR_own (R := R) (r := r) (l := l) (x := l + j)
            have hway := mkR_way (R := R) (r := r) (l := l) (x := l + j + 1) (l + j)
            have HLJ := hide (show l ≤ l + j by omega)
            generalize hx : l + j = x at *
            have HX := hide hx; clear hx
            have hx16 : (x : Int) < 16 := by omega
            have hx16n : x < 16 := by omega
            have hxyi : (x : Int) ≤ y := by omega
            have hwr : IntKind.i64.wrap ((x : Int) + 1) = (x : Int) + 1 := by rw [IntKind.wrap_i64]; omega
            obtain ⟨RR, hRR⟩ : ∃ RR, RR = mkR R r l x := ⟨_, rfl⟩
            obtain ⟨R3, hR3⟩ : ∃ R3, R3 = mkR R r l (x + 1) := ⟨_, rfl⟩
            rw [← hRR, ← hR3] at hstep
            rw [← hRR] at hown hH
            rw [← hR3] at hway
            have HR3 := hide hR3; clear hR3 hRR
            obtain ⟨A', c', rfl⟩ := hH.grForm 1 rfl
            obtain ⟨AM, cM, hvM⟩ := hH.plForm (x * 2 + 1 + 3) (rows_at vs2 RR L (by omega))
            rw [← hown] at hM1 hstep
            have HST := hide hstep; clear hstep
            have HWY := hide hway; clear hway
            have HOW := hide hown; clear hown
            have HVM := hide hvM; clear hvM
            go_wp2
            refine Rd.region_PT (w0 := w0) [pBlk G6 (av r) 42, pBlk g (sv m vs2) 102] (pBlk G6 (av r) 42 :: pGr (.slice A' W1.length c') W1 :: pBlk g (sv m vs2) 102 :: (svRows vs2 RR ++ L)) [6, 7] 8 (.q 0 <| .q 1 <| .q 2 <| .q 3 <| .q 4 <| .q 5 <| .s1 6 <| .s1 7 .fin) hH (.cons_cons _ (.cons _ (.cons_cons _ (List.nil_sublist _)))) (by kernel_rfl) (by kernel_rfl) ?_
            iterate 6
              apply Rd.v_q
              · simp only [List.getElem?_toArray, List.getElem?_cons_zero, List.getElem?_cons_succ]; exact rfl
              · rfl
              · go_simp
              · intro wx hx
                have q0 := hx.cells 0 rfl
                have q1 : wx.cell? ⟨g, 1 + x * 2 + 1, none⟩ = some (.slice AM (RR (x * 2 + 1)).length cM) := by have := hx.cell 1 rfl (sv_at m vs2 (i := x * 2 + 1) (by omega)); rw [HVM.out] at this; exact this
                unfold atG
                go_simp
                simp only [uponG]
                exact ⟨by trivial, rfl⟩
            refine Rd.v_build (av r) 42 1 (by simp only [List.getElem?_toArray, List.getElem?_cons_zero, List.getElem?_cons_succ]; exact rfl) rfl (by go_simp) (fun wx hx hD => by go_simp) fun gq => ?_
            refine Rd.v_s (fun u wx => Holds w0 wx (pBlk G6 (av r) 42 :: pGr (.slice A' W1.length c') W1 :: pBlk g (sv m vs2) 102 :: (svRows (vset vs2 (x * 2 + 1) u) R3 ++ L))) (fun u _ _ h hb => h.call hb) (by simp only [List.getElem?_toArray, List.getElem?_cons_zero, List.getElem?_cons_succ]; exact rfl) rfl (by go_simp) (fun wx hx hD => ?_) ?_
            · refine upon_appPl hD (x * 2 + 1 + 4) (v := .slice AM (RR (x * 2 + 1)).length cM) (l := RR (x * 2 + 1)) (by rw [← HVM.out]; exact rows_at vs2 RR L (by omega)) gq r 42 (hD.at 0 rfl) (by omega) (fun v' w' h2 => ?_) _ _ rfl (by go_simp) (by go_simp)
              have h3 : Holds w0 w' (pBlk gq (av r) 42 :: pBlk G6 (av r) 42 :: pGr (.slice A' W1.length c') W1 :: pBlk g (sv m vs2) 102 :: ((svRows vs2 RR ++ L).set (x * 2 + 1) (pPl v' (RR (x * 2 + 1) ++ [r])))) := h2
              rw [rows_set _ _ _ _ _ _ (by omega), HST.out] at h3
              exact ⟨h3.sub (.cons _ (.cons_cons _ (.cons _ (.cons_cons _ (List.nil_sublist _))))), h3.tail⟩
            rintro u ⟨wy, hwy, hu⟩
            obtain ⟨Au, cu, hvu⟩ := hu.plForm (x * 2 + 1 + 3) (rows_at _ R3 L (by omega))
            obtain ⟨nu, hnu⟩ : ∃ nu, nu = (R3 (x * 2 + 1)).length := ⟨_, rfl⟩
            rw [show vset vs2 (x * 2 + 1) u (x * 2 + 1) = u from if_pos rfl, ← hnu] at hvu
            subst hvu
            clear hu hnu hwy wy
            rintro w6 - hx6
            have hx7 : Holds w0 w6 (pBlk G6 (av r) 42 :: pGr (.slice A' W1.length c') W1 :: pBlk g (sv m vs2) 102 :: (svRows (vset vs2 (x * 2 + 1) (.slice Au nu cu)) R3 ++ L)) := hx6
            have c0 : w6.cell? ⟨g, 1 + x * 2 + 1, none⟩ = some (.slice AM (RR (x * 2 + 1)).length cM) := by have := hx7.cell 2 rfl (sv_at m vs2 (i := x * 2 + 1) (by omega)); rw [HVM.out] at this; exact this
            have f0 := hx7.frozen 2 rfl (1 + x * 2 + 1)
            have h7 := hx7.set 2 rfl (1 + (x * 2 + 1)) (.slice Au nu cu)
            rw [sv_set] at h7
            obtain ⟨vs3, hvs3⟩ : ∃ vs3, vs3 = vset vs2 (x * 2 + 1) (.slice Au nu cu) := ⟨_, rfl⟩
            rw [← hvs3] at h7
            have h8 : Holds w0 (w6.setCell ⟨g, 1 + x * 2 + 1, none⟩ (.slice Au nu cu)) (pBlk G6 (av r) 42 :: pGr (.slice A' W1.length c') W1 :: pBlk g (sv m vs3) 102 :: (svRows vs3 R3 ++ L)) := h7
            clear h7 hx6 hx7 hH hvs3
            go_simp
            go_wp2
            clear c0 f0
            generalize w6.setCell ⟨g, 1 + x * 2 + 1, none⟩ (.slice Au nu cu) = w7 at *
            obtain ⟨AW, cW, hvW⟩ := h8.plForm (x * 2 + 3) (rows_at vs3 R3 L (by omega))
            have HVW := hide hvW; clear hvW
            refine Rd.region_P (w0 := w0) [pBlk G6 (av r) 42, pBlk g (sv m vs3) 102] (pBlk G6 (av r) 42 :: pGr (.slice A' W1.length c') W1 :: pBlk g (sv m vs3) 102 :: (svRows vs3 R3 ++ L)) [7, 9, 10] (.q 0 <| .q 1 <| .q 2 <| .q 3 <| .q 4 <| .q 5 <| .q 6 <| .q 8 <| .s1 7 <| .s1 9 <| .s1 10 <| .q 11 .fin) h8 (.cons_cons _ (.cons _ (.cons_cons _ (List.nil_sublist _)))) (by kernel_rfl) (by kernel_rfl) (by kernel_rfl) ?_
            iterate 8
              apply Rd.v_q
              · simp only [List.getElem?_toArray, List.getElem?_cons_zero, List.getElem?_cons_succ]; exact rfl
              · rfl
              · go_simp
              · intro wx hx
                have q0 := hx.cells 0 rfl
                have q1 : wx.cell? ⟨g, 1 + x * 2, none⟩ = some (.slice AW (R3 (x * 2)).length cW) := by have := hx.cell 1 rfl (sv_at m vs3 (i := x * 2) (by omega)); rw [HVW.out] at this; exact this
                unfold atG
                go_simp
                simp only [uponG]
                exact ⟨by trivial, rfl⟩
            refine Rd.v_build (av r) 42 1 (by simp only [List.getElem?_toArray, List.getElem?_cons_zero, List.getElem?_cons_succ]; exact rfl) rfl (by go_simp) (fun wx hx hD => by go_simp) fun gz => ?_
            refine Rd.v_s (fun u wx => Holds w0 wx (pGr u (prodL (R (x * 2)) [r] m (x + 1)) :: pBlk G6 (av r) 42 :: pGr (.slice A' W1.length c') W1 :: pBlk g (sv m vs3) 102 :: (svRows vs3 R3 ++ L))) (fun u _ _ h hb => h.call hb) (by simp only [List.getElem?_toArray, List.getElem?_cons_zero, List.getElem?_cons_succ]; exact rfl) rfl (by go_simp) (fun wx hx hD => ?_) ?_
            · have o1 : (pPl (.slice AW (R3 (x * 2)).length cW) (R3 (x * 2))).ok wx := by rw [← HVW.out]; exact hD.at (x * 2 + 4) (rows_at vs3 R3 L (by omega))
              rw [HWY.out] at o1
              have o2 : (pPl (.slice (some ⟨gz, 0, none⟩) 1 1) [r]).ok wx := one_row (hD.at 0 rfl)
              have o3 : (pBlk g (sv m vs3) 102).ok wx := hD.at 3 rfl
              have pc := products_any m hm g vs3 _ _ (R (x * 2)) [r] x (by omega) HWP.out (by simp; omega) (by omega) (by simp) wx o3 o1 o2
              rw [HWY.out]
              go_simp
              simp only [Rd.uponE]
              refine ⟨by trivial, pc.mono ?_⟩
              rintro e w' ⟨v, rfl, hN⟩
              exact ⟨_, rfl, hx.call hN.low, hD.tail.join hN⟩
            rintro u2 -
            refine Rd.v_s (fun u wx => Holds w0 wx (pBlk G6 (av r) 42 :: pGr u (W1 ++ prodL (R (x * 2)) [r] m (x + 1)) :: pBlk g (sv m vs3) 102 :: (svRows vs3 R3 ++ L))) (fun u _ _ h hb => h.call hb) (by simp only [List.getElem?_toArray, List.getElem?_cons_zero, List.getElem?_cons_succ]; exact rfl) rfl (by go_simp) (fun wx hx hD => ?_) ?_
            · exact upon_appGrs hD 2 rfl (hD.at 0 rfl) (by rw [prodL_len, List.length_singleton]; omega) (fun v' w' h2 => ⟨h2.sub (.cons _ (.cons_cons _ (.cons _ (.cons_cons _ (List.nil_sublist _))))), h2.tail⟩) _ _ rfl (by go_simp) (by go_simp)
            rintro u3 -
            iterate 1
              apply Rd.v_q
              · simp only [List.getElem?_toArray, List.getElem?_cons_zero, List.getElem?_cons_succ]; exact rfl
              · rfl
              · go_simp
              · intro wx hx
                have q0 := hx.cells 0 rfl
                unfold atG
                go_simp
                simp only [uponG]
                exact ⟨by trivial, rfl⟩
            rintro w8 - hx8
            have hx9 : Holds w0 w8 (pBlk G6 (av r) 42 :: pGr u3 (W1 ++ prodL (R (x * 2)) [r] m (x + 1)) :: pBlk g (sv m vs3) 102 :: (svRows vs3 R3 ++ L)) := hx8
            clear hx8 h8
            go_simp
            go_wp2
            go_roundw
            case rel =>
              refine ⟨j + 1, vs3, ?_, ?_, ?_⟩
              · have := HX.out; omega
              · rw [show l + (j + 1) = x + 1 by have := HX.out; omega]; go_num
              · rw [show l + (j + 1) = x + 1 by have := HX.out; omega, HGN.out, ← HR3.out]; exact hx9
            case measure => simp [intOf]; omega
          · have hxe : l + j = y + 1 := by omega
            have hje : j = y + 1 - l := by omega
            have hrd := totN_mono R (y + 1) (m - (y + 1))
            rw [show y + 1 + (m - (y + 1)) = m by omega] at hrd
            rw [hxe] at hgl
            obtain ⟨W1, hW1⟩ : ∃ W1, W1 = W0 ++ grL R r m l j := ⟨_, rfl⟩
            have hWl : W1.length ≤ W0.length + 256 := by have := HTT.out; rw [hW1, List.length_append]; omega
            rw [← hW1, hxe] at hH
            rw [hje] at hW1
            have hWL : W1.length ≤ 200000 := by omega
            have hkeep := add_keep HSM.out HI.out hm HSF.out hym'
            rw [← hW1] at hkeep
            obtain ⟨RR, hRR⟩ : ∃ RR, RR = mkR R r l (y + 1) := ⟨_, rfl⟩
            have hown : RR (y * 2) = R (y * 2) := by rw [hRR]; exact mkR_way y
            rw [← hRR] at hH
            have hM1 : (RR (y * 2)).length ≤ 256 := by have := HB.out (y * 2); have := HTT.out; rw [hown]; omega
            have hB3 := adR_len (r := r) (l := l) (y := y) HB.out
            have ht3 := adR_tot (R := R) (r := r) (l := l) (y := y) m
            rw [if_pos hym'] at ht3
            have hst : rset RR (y * 2) (RR (y * 2) ++ [r]) = adR R r l y := by rw [hown, hRR]; rfl
            generalize adR R r l y = R3 at *
            have hM3 : (R3 (y * 2 + 1)).length ≤ 257 := by have := hB3 (y * 2 + 1); have := HTT.out; omega
            have hrl : ∀ u ∈ [r], ∀ i, i < m → u i < 16 := fun u hu i hi => by rw [List.mem_singleton] at hu; subst hu; exact HR.out.lt i (by omega)
            have HRL := hide hrl; clear hrl
            have HB3 := hide hB3; clear hB3
            have HT3 := hide ht3; clear ht3
            have HKP := hide hkeep; clear hkeep
            have HST := hide hst; clear hst hown hRR hW1 hje hgl hgt hrd
            have HWl := hide hWl; clear hWl
            have hyi16 : (y : Int) < 16 := by omega
            have hy16 : y < 16 := by omega
            have hxi : ¬ (((l + j : Nat) : Int) ≤ (y : Int)) := by omega
            have hwr : IntKind.i64.wrap ((y : Int) + 1) = (y : Int) + 1 := by rw [IntKind.wrap_i64]; omega
            rw [hxe]
            obtain ⟨A', c', rfl⟩ := hH.grForm 1 rfl
            obtain ⟨AM, cM, hvM⟩ := hH.plForm (y * 2 + 3) (rows_at vs2 RR L (by omega))
            have HVM := hide hvM; clear hvM hxy
            have HJ := hide (And.intro hj (And.intro hxe hxi)); clear hj hxe hxi
            go_wp2
            refine Rd.region_PT (w0 := w0) [pBlk G6 (av r) 42, pBlk g (sv m vs2) 102] (pBlk G6 (av r) 42 :: pGr (.slice A' W1.length c') W1 :: pBlk g (sv m vs2) 102 :: (svRows vs2 RR ++ L)) [6, 7] 8 (.q 0 <| .q 1 <| .q 2 <| .q 3 <| .q 4 <| .q 5 <| .s1 6 <| .s1 7 .fin) hH (.cons_cons _ (.cons _ (.cons_cons _ (List.nil_sublist _)))) (by kernel_rfl) (by kernel_rfl) ?_
            iterate 6
              apply Rd.v_q
              · simp only [List.getElem?_toArray, List.getElem?_cons_zero, List.getElem?_cons_succ]; exact rfl
              · rfl
              · go_simp
              · intro wx hx
                have q0 := hx.cells 0 rfl
                have q1 : wx.cell? ⟨g, 1 + y * 2, none⟩ = some (.slice AM (RR (y * 2)).length cM) := by have := hx.cell 1 rfl (sv_at m vs2 (i := y * 2) (by omega)); rw [HVM.out] at this; exact this
                unfold atG
                go_simp
                simp only [uponG]
                exact ⟨by trivial, rfl⟩
            refine Rd.v_build (av r) 42 1 (by simp only [List.getElem?_toArray, List.getElem?_cons_zero, List.getElem?_cons_succ]; exact rfl) rfl (by go_simp) (fun wx hx hD => by go_simp) fun gq => ?_
            refine Rd.v_s (fun u wx => Holds w0 wx (pBlk G6 (av r) 42 :: pGr (.slice A' W1.length c') W1 :: pBlk g (sv m vs2) 102 :: (svRows (vset vs2 (y * 2) u) R3 ++ L))) (fun u _ _ h hb => h.call hb) (by simp only [List.getElem?_toArray, List.getElem?_cons_zero, List.getElem?_cons_succ]; exact rfl) rfl (by go_simp) (fun wx hx hD => ?_) ?_
            · refine upon_appPl hD (y * 2 + 4) (v := .slice AM (RR (y * 2)).length cM) (l := RR (y * 2)) (by rw [← HVM.out]; exact rows_at vs2 RR L (by omega)) gq r 42 (hD.at 0 rfl) (by omega) (fun v' w' h2 => ?_) _ _ rfl (by go_simp) (by go_simp)
              have h3 : Holds w0 w' (pBlk gq (av r) 42 :: pBlk G6 (av r) 42 :: pGr (.slice A' W1.length c') W1 :: pBlk g (sv m vs2) 102 :: ((svRows vs2 RR ++ L).set (y * 2) (pPl v' (RR (y * 2) ++ [r])))) := h2
              rw [rows_set _ _ _ _ _ _ (by omega), HST.out] at h3
              exact ⟨h3.sub (.cons _ (.cons_cons _ (.cons _ (.cons_cons _ (List.nil_sublist _))))), h3.tail⟩
            rintro u ⟨wy, hwy, hu⟩
            obtain ⟨Au, cu, hvu⟩ := hu.plForm (y * 2 + 3) (rows_at _ R3 L (by omega))
            obtain ⟨nu, hnu⟩ : ∃ nu, nu = (R3 (y * 2)).length := ⟨_, rfl⟩
            rw [show vset vs2 (y * 2) u (y * 2) = u from if_pos rfl, ← hnu] at hvu
            subst hvu
            clear hu hnu hwy wy
            rintro w6 - hx6
            have hx7 : Holds w0 w6 (pBlk G6 (av r) 42 :: pGr (.slice A' W1.length c') W1 :: pBlk g (sv m vs2) 102 :: (svRows (vset vs2 (y * 2) (.slice Au nu cu)) R3 ++ L)) := hx6
            have c0 : w6.cell? ⟨g, 1 + y * 2, none⟩ = some (.slice AM (RR (y * 2)).length cM) := by have := hx7.cell 2 rfl (sv_at m vs2 (i := y * 2) (by omega)); rw [HVM.out] at this; exact this
            have f0 := hx7.frozen 2 rfl (1 + y * 2)
            have h7 := hx7.set 2 rfl (1 + y * 2) (.slice Au nu cu)
            rw [sv_set] at h7
            obtain ⟨vs3, hvs3⟩ : ∃ vs3, vs3 = vset vs2 (y * 2) (.slice Au nu cu) := ⟨_, rfl⟩
            rw [← hvs3] at h7
            have h8 : Holds w0 (w6.setCell ⟨g, 1 + y * 2, none⟩ (.slice Au nu cu)) (pBlk G6 (av r) 42 :: pGr (.slice A' W1.length c') W1 :: pBlk g (sv m vs3) 102 :: (svRows vs3 R3 ++ L)) := h7
            clear h7 hx6 hx7 hH hvs3
            go_simp
            go_wp2
            clear c0 f0
            generalize w6.setCell ⟨g, 1 + y * 2, none⟩ (.slice Au nu cu) = w7 at *
            obtain ⟨AW, cW, hvW⟩ := h8.plForm (y * 2 + 1 + 3) (rows_at vs3 R3 L (by omega))
            have HVW := hide hvW; clear hvW
            refine Rd.region_P (w0 := w0) [pBlk G6 (av r) 42, pBlk g (sv m vs3) 102] (pBlk G6 (av r) 42 :: pGr (.slice A' W1.length c') W1 :: pBlk g (sv m vs3) 102 :: (svRows vs3 R3 ++ L)) [3, 9, 10] (.q 0 <| .q 1 <| .q 2 <| .q 4 <| .q 5 <| .q 6 <| .q 7 <| .q 8 <| .s1 3 <| .s1 9 <| .s1 10 <| .q 11 .fin) h8 (.cons_cons _ (.cons _ (.cons_cons _ (List.nil_sublist _)))) (by kernel_rfl) (by kernel_rfl) (by kernel_rfl) ?_
            iterate 8
              apply Rd.v_q
              · simp only [List.getElem?_toArray, List.getElem?_cons_zero, List.getElem?_cons_succ]; exact rfl
              · rfl
              · go_simp
              · intro wx hx
                have q0 := hx.cells 0 rfl
                have q1 : wx.cell? ⟨g, 1 + y * 2 + 1, none⟩ = some (.slice AW (R3 (y * 2 + 1)).length cW) := by have := hx.cell 1 rfl (sv_at m vs3 (i := y * 2 + 1) (by omega)); rw [HVW.out] at this; exact this
                unfold atG
                go_simp
                simp only [uponG]
                exact ⟨by trivial, rfl⟩
            refine Rd.v_build (av r) 42 1 (by simp only [List.getElem?_toArray, List.getElem?_cons_zero, List.getElem?_cons_succ]; exact rfl) rfl (by go_simp) (fun wx hx hD => by go_simp) fun gz => ?_
            refine Rd.v_s (fun u wx => Holds w0 wx (pGr u (prodL [r] (R3 (y * 2 + 1)) m (y + 1)) :: pBlk G6 (av r) 42 :: pGr (.slice A' W1.length c') W1 :: pBlk g (sv m vs3) 102 :: (svRows vs3 R3 ++ L))) (fun u _ _ h hb => h.call hb) (by simp only [List.getElem?_toArray, List.getElem?_cons_zero, List.getElem?_cons_succ]; exact rfl) rfl (by go_simp) (fun wx hx hD => ?_) ?_
            · have o1 : (pPl (.slice AW (R3 (y * 2 + 1)).length cW) (R3 (y * 2 + 1))).ok wx := by rw [← HVW.out]; exact hD.at (y * 2 + 1 + 4) (rows_at vs3 R3 L (by omega))
              have o2 : (pPl (.slice (some ⟨gz, 0, none⟩) 1 1) [r]).ok wx := one_row (hD.at 0 rfl)
              have o3 : (pBlk g (sv m vs3) 102).ok wx := hD.at 3 rfl
              have pc := products_any m hm g vs3 _ _ [r] (R3 (y * 2 + 1)) y (by omega) HRL.out (by simp; omega) (by simp) (by omega) wx o3 o2 o1
              go_simp
              simp only [Rd.uponE]
              refine ⟨by trivial, pc.mono ?_⟩
              rintro e w' ⟨v, rfl, hN⟩
              exact ⟨_, rfl, hx.call hN.low, hD.tail.join hN⟩
            rintro u2 -
            refine Rd.v_s (fun u wx => Holds w0 wx (pBlk G6 (av r) 42 :: pGr u (W1 ++ prodL [r] (R3 (y * 2 + 1)) m (y + 1)) :: pBlk g (sv m vs3) 102 :: (svRows vs3 R3 ++ L))) (fun u _ _ h hb => h.call hb) (by simp only [List.getElem?_toArray, List.getElem?_cons_zero, List.getElem?_cons_succ]; exact rfl) rfl (by go_simp) (fun wx hx hD => ?_) ?_
            · exact upon_appGrs hD 2 rfl (hD.at 0 rfl) (by rw [prodL_len, List.length_singleton]; omega) (fun v' w' h2 => ⟨h2.sub (.cons _ (.cons_cons _ (.cons _ (.cons_cons _ (List.nil_sublist _))))), h2.tail⟩) _ _ rfl (by go_simp) (by go_simp)
            rintro u3 -
            iterate 1
              apply Rd.v_q
              · simp only [List.getElem?_toArray, List.getElem?_cons_zero, List.getElem?_cons_succ]; exact rfl
              · rfl
              · go_simp
              · intro wx hx
                have q0 := hx.cells 0 rfl
                unfold atG
                go_simp
                simp only [uponG]
                exact ⟨by trivial, rfl⟩
            rintro w8 - hx8
            have hx9 : Holds w0 w8 (pBlk G6 (av r) 42 :: pGr u3 (W1 ++ prodL [r] (R3 (y * 2 + 1)) m (y + 1)) :: pBlk g (sv m vs3) 102 :: (svRows vs3 R3 ++ L)) := hx8
            clear hx8 h8
            have hpl : (prodL [r] (R3 (y * 2 + 1)) m (y + 1)).length ≤ 257 := by rw [prodL_len, List.length_singleton]; omega
            go_simp
            go_wp2
            go_roundw
            case rel =>
              exact ⟨vs3, R3, _, HKP.out, fun i => by rw [HT3.out]; exact HB3.out i, by have := HT3.out; have := HWl.out; have := HW.out; rw [List.length_append]; omega, hx9.tail⟩
            case measure =>
              obtain ⟨A3, c3, rfl⟩ := hx9.grForm 1 rfl
              have hSv : SvAt w8 g m vs3 R3 := ⟨hx9.at 2 rfl, fun k hk => hx9.at (k + 3) (rows_at vs3 R3 L hk)⟩
              have h256 := HKP.out.tot hm
              have h1 := HT3.out
              have h2 := HWl.out
              show (256 - totW _ g m) * 600 + lenV _ < (256 - totW _ g m) * 600 + lenV _
              rw [HTW.out, totW_eq hSv m hm, h1]
              rw [h1] at h256
              simp only [lenV, List.length_append]
              omega
end Go.Proofs.Ytlmhnimpglookaa

namespace Go.Proofs.Ytlmhnimpglookaa
open Go.RowKit

set_option maxRecDepth 100000 in
set_option maxHeartbeats 2000000 in
theorem order_any (m : Nat) (hm : m ≤ 16) (g : Nat) (vs : Nat → Value) (R : Nat → List (Nat → Nat)) (hO : ∀ k, k ≤ m → wayN (fun k => R (k * 2)) k ≤ 9223372036854775807) (w : World) (hS : SvAt w g m vs R) :
    Calls Try.prog 69 #[.pointer (some ⟨g, 0, none⟩)] w fun e w' => e = .returned (.int .i64 (wayN (fun k => R (k * 2)) m)) ∧ Below w.heap.size w w' := by
  have HS := hide hS; clear hS
  have HO := hide hO; clear hO
  have n0 := HS.out.cell (sv_n m vs)
  have hg := lt_of_some HS.out.1
  have HST := hide fun k => (show wayN (fun k => R (k * 2)) (k + 1) = wayN (fun k => R (k * 2)) k * (R (k * 2)).length from rfl)
  have HS0 := hide (show wayN (fun k => R (k * 2)) 0 = 1 from rfl)
  generalize wayN (fun k => R (k * 2)) = F at *
  have HH := Holds.start w
  go_enter Try.func69, Try.ntmps69
  go_wp2
  have nS : ∀ wx, Holds w wx [] → wx.cell? ⟨g, 0, none⟩ = some (.int .i64 m) := fun wx hx => (HS.out.below hx.low).cell (sv_n m vs)
  have NS := hide nS; clear nS n0
  have hm' : (m : Int) ≤ 16 := by omega
  refine Rd.region_P (w0 := w) [] [] [] (.q 0 <| .q 1 <| .q 2 <| .q 3 <| .q 4 <| .q 5 <| .q 6 <| .q 7 <| .q 8 <| .q 9 .fin) HH (.refl _) (by kernel_rfl) (by kernel_rfl) (by kernel_rfl) ?_
  iterate 10
    apply Rd.v_q
    · simp only [List.getElem?_toArray, List.getElem?_cons_zero, List.getElem?_cons_succ]; exact rfl
    · rfl
    · go_simp
    · intro wx hx
      have q3 := NS.out wx hx
      unfold atG
      go_simp
      simp only [uponG]
      exact ⟨by trivial, rfl⟩
  rintro w1 - H1
  clear HH
  go_simp
  go_wp2
  go_loopw [3, 15] (fun s t wr => ∃ x : Nat, x ≤ m ∧ t = .int .i64 x ∧ s = .int .i64 (F x) ∧ Holds w wr []) (fun _ t _ => m - (intOf t).toNat)
  case atStart => exact ⟨0, by omega, rfl, by rw [HS0.out]; rfl, H1⟩
  case round =>
    clear H1
    obtain ⟨x, hx, rfl, rfl, hH⟩ := hrel
    by_cases hxm : x < m
    · have hSr := HS.out.below hH.low
      have hx16 : (x : Int) < 16 := by omega
      have hxm' : (x : Int) < m := by omega
      obtain ⟨A, c, hv⟩ := hSr.form (i := x * 2) (by omega)
      obtain ⟨A2, c2, hv2⟩ := hSr.form (i := x * 2 + 1) (by omega)
      have x1 := hSr.cell (sv_at m vs (i := x * 2) (by omega))
      have x2 := hSr.cell (sv_at m vs (i := x * 2 + 1) (by omega))
      rw [hv] at x1
      rw [hv2, show 1 + (x * 2 + 1) = 1 + x * 2 + 1 by omega] at x2
      have hst := HST.out x
      have hlt := HO.out (x + 1) (by omega)
      rw [hst] at hlt
      generalize (R (x * 2)).length = n at *
      generalize (R (x * 2 + 1)).length = n2 at *
      generalize hFx : F x = y at *
      have HSF := hide hst; clear hst hSr hFx
      have hwr : IntKind.i64.wrap ((y : Int) * (n : Int)) = ((y * n : Nat) : Int) := by
        rw [IntKind.wrap_i64, ← Int.natCast_mul]; omega
      have H2 := hH.blk #[.slice A n c, .slice A2 n2 c2] 99 wr.heap.size rfl
      go_wp2
      clear x1 x2
      go_roundw
      case rel => exact ⟨x + 1, by omega, by go_num, by rw [HSF.out, Int.natCast_mul], H2.tail⟩
      case measure => simp [intOf]; omega
    · obtain ⟨X, hX⟩ : ∃ X, X = m := ⟨_, rfl⟩
      obtain rfl : X = x := by omega
      rw [← hX]
      clear hxm hx
      go_wp2
      go_ret
      exact ⟨by rw [← hX]; rfl, hH.low⟩
end Go.Proofs.Ytlmhnimpglookaa

namespace Go.Proofs.Ytlmhnimpglookaa
open Go.RowKit

set_option maxRecDepth 100000 in
set_option maxHeartbeats 1000000 in
theorem has_any (m : Nat) (hm : m ≤ 16) (g : Nat) (vs : Nat → Value) (R : Nat → List (Nat → Nat)) (hU : ∀ k, k < m → ∀ u ∈ R (k * 2), PermN u m) (hRl : ∀ i, (R i).length ≤ 100000) (p : Nat → Nat) (hp : PermN p m) (w : World) (hS : SvAt w g m vs R) :
    Calls Try.prog 73 #[.pointer (some ⟨g, 0, none⟩), .agg (av p)] w fun e w' => e = .returned (.bool (decide ((sift (fun k => R (k * 2)) m m p).2 = m))) ∧ Below w.heap.size w w' := by
  have H1 := (Holds.start w).blk (av p) 42 w.heap.size rfl
  have cs := sift_any m hm g vs R hU hRl p hp (w.alloc (.cells (av p) 42)) (hS.below H1.low)
  have HS := hide hS; clear hS hU hRl hp
  obtain ⟨⟨r, y⟩, hsf⟩ : ∃ ry, sift (fun k => R (k * 2)) m m p = ry := ⟨_, rfl⟩
  rw [hsf] at cs ⊢
  simp only at cs ⊢
  clear hsf
  have CS := hide cs; clear cs
  go_enter Try.func73, Try.ntmps73
  go_wp2_with fail
  refine CS.out.mono ?_
  rintro e w3 ⟨rfl, hb⟩
  have H3 := (H1.call hb).blk (av r) 42 w3.heap.size rfl
  have n0 := (HS.out.below H3.low).cell (sv_n m vs)
  have hbe : ((y : Int) == (m : Int)) = decide (y = m) := by
    by_cases c : y = m
    · rw [decide_eq_true c, beq_iff_eq]; omega
    · rw [decide_eq_false c, beq_eq_false_iff_ne]; omega
  go_wp2
  go_ret
  exact ⟨by simp [hbe], H3.low⟩

theorem upto_in {f : Nat → Nat} {k x : Nat} (h : x < k) : upto f k x = f x := by unfold upto; rw [if_pos h]
theorem upto_past {f : Nat → Nat} {k x : Nat} (h : k ≤ x) : upto f k x = 0 := by unfold upto; rw [if_neg (by omega)]
theorem sameF_perm {m : Nat} (h1 : 1 ≤ m) (hm : m ≤ 16) : PermN (sameF m) m := by
  refine ⟨h1, hm, ⟨fun x hx => ?_, fun x y hx hy e => ?_⟩, fun i hi _ => upto_past hi⟩
  · unfold sameF; rw [upto_in hx]; exact hx
  · unfold sameF at e; rwa [upto_in hx, upto_in hy] at e
theorem sInv_start (m : Nat) (hm : m ≤ 16) (S : (Nat → Nat) → Prop) : SInv m (Gen m S) (fun _ => False) (Uf (R0 m m)) (Mf (R0 m m)) [] where
  way k hk u hu := by
    have e : Uf (R0 m m) k = [sameF m] := by unfold Uf R0; rw [if_pos (by omega)]
    rw [e, List.mem_singleton] at hu; subst hu
    exact ⟨sameF_perm (by omega) hm, fun x hx => upto_in (by omega), .one fun x hx => upto_in hx⟩
  one k hk := ⟨sameF m, by unfold Uf R0; rw [if_pos (by omega)]; simp, fun x hx => upto_in hx⟩
  mks k hk s hs := by unfold Mf R0 at hs; rw [if_neg (by omega)] at hs; cases hs
  down k hk s hs := by unfold Mf R0 at hs; rw [if_neg (by omega)] at hs; cases hs
  dist k hk := by unfold Uf R0; rw [if_pos (by omega)]; simp
  prod k hk u hu s hs := by unfold Mf R0 at hs; rw [if_neg (by omega)] at hs; cases hs
  grain w hw := by cases hw
  top s hs := by unfold Mf R0 at hs; rw [if_neg (by omega)] at hs; cases hs
  goal g hg := hg.elim
theorem R0_tot (m : Nat) : ∀ x, x ≤ m → totN (R0 m m) x = x
  | 0, _ => rfl
  | x + 1, hx => by rw [totN, R0_tot m x (by omega)]; unfold R0; rw [if_pos (by omega)]; rfl
theorem R0_len (m : Nat) (hm : 0 < m) (i : Nat) : (R0 m m i).length ≤ totN (R0 m m) m := by
  rw [R0_tot m m (Nat.le_refl _)]
  unfold R0
  split
  · simp; omega
  · simp
/-- the two permutations of a dessin -/
def Two (f g : Nat → Nat) : (Nat → Nat) → Prop := fun s => s = f ∨ s = g

set_option maxRecDepth 100000 in
set_option maxHeartbeats 1000000 in
theorem groupOf_any (f h : Nat → Nat) (m : Nat) (hd : DesN f h m) (w : World) :
    Calls Try.prog 68 #[.agg (dv m f h)] w fun e w' => ∃ g vs R, e = .returned (.pointer (some ⟨g, 0, none⟩)) ∧ Holds w w' (pBlk g (sv m vs) 102 :: svRows vs R) ∧ SInv m (Gen m (Two f h)) (Two f h) (Uf R) (Mf R) [] ∧ ∀ i, (R i).length ≤ totN R m := by
  have hm := hd.le
  have hb := hd.black
  have hw := hd.white
  have hS : ∀ s, Two f h s → Bij s m := by
    rintro s (rfl | rfl)
    · exact hb.2.2.1
    · exact hw.2.2.1
  have H1 := (Holds.start w).blk (dv m f h) 44 w.heap.size rfl
  have C1 := hide fun w => emptySieve_any m hm w
  have n0 := H1.cell 0 rfl (dv_n m f h)
  have C2 := hide (add_any m hm)
  have R0L := hide (R0_len m hd.pos)
  have HS := hide hS; clear hS
  have HB := hide hb; clear hb
  have HW := hide hw; clear hw
  clear hd
  go_enter Try.func68, Try.ntmps68
  go_wp2_with fail
  refine (C1.out _).mono ?_
  rintro e w1 ⟨g, vs0, rfl, hN⟩
  have H2 := H1.join hN
  clear n0 H1 hN
  have d1 : cellsOf w1 w.heap.size = dv m f h := H2.cells 33 (by rw [List.getElem?_append_right (by simp [svRows_length]), List.length_cons, svRows_length]; rfl)
  go_wp2_with fail
  refine (C2.out g vs0 (R0 m m) (Two f h) (fun _ => False) HS.out (sInv_start m hm _) R0L.out f HB.out (.of (.inl rfl)) w w1 [pBlk w.heap.size (dv m f h) 44] H2).mono ?_
  rintro e w2 ⟨⟨v2, rfl⟩, vs1, R1, H3, hI1, hB1⟩
  clear d1 H2
  have d2 : cellsOf w2 w.heap.size = dv m f h := H3.cells 33 (by rw [← List.cons_append, List.getElem?_append_right (by simp [svRows_length]), List.length_cons, svRows_length]; rfl)
  go_wp2_with fail
  refine (C2.out g vs1 R1 (Two f h) _ HS.out hI1 hB1 h HW.out (.of (.inr rfl)) w w2 [pBlk w.heap.size (dv m f h) 44] H3).mono ?_
  rintro e w3 ⟨⟨v3, rfl⟩, vs2, R2, H4, hI2, hB2⟩
  clear d2 H3
  go_wp2
  go_ret
  refine ⟨g, vs2, R2, rfl, H4.sub (List.Sublist.cons_cons _ (List.sublist_append_left _ _)), ?_, hB2⟩
  have e : (fun q => (False ∨ q = f) ∨ q = h) = Two f h := by funext q; unfold Two; simp
  rw [e] at hI2
  exact hI2
end Go.Proofs.Ytlmhnimpglookaa

namespace Go.Proofs.Ytlmhnimpglookaa
open Go.RowKit

@[irreducible] def chv (n : Nat) (G : Nat → Value) (H : Nat → Bool) (B : Nat → Nat) : Array Value :=
  row 4369 fun i => if i = 0 then .int .i64 n else if i < 17 then G (i - 1) else if i < 273 then .bool (H (i - 17)) else .int .u8 (B (i - 273))
theorem chv_size (n : Nat) (G : Nat → Value) (H : Nat → Bool) (B : Nat → Nat) : (chv n G H B).size = 4369 := by unfold chv; exact row_size _ _
theorem chv_n (n : Nat) (G : Nat → Value) (H : Nat → Bool) (B : Nat → Nat) : (chv n G H B)[0]? = some (.int .i64 n) := by unfold chv; rw [row_get _ _ (by omega)]; rfl
theorem chv_gens (n : Nat) (G : Nat → Value) (H : Nat → Bool) (B : Nat → Nat) {k : Nat} (hk : k < 16) : (chv n G H B)[1 + k]? = some (G k) := by
  unfold chv
  rw [row_get _ _ (by omega), if_neg (by omega), if_pos (by omega), show 1 + k - 1 = k by omega]
theorem chv_has (n : Nat) (G : Nat → Value) (H : Nat → Bool) (B : Nat → Nat) {j : Nat} (hj : j < 256) : (chv n G H B)[17 + j]? = some (.bool (H j)) := by
  unfold chv
  rw [row_get _ _ (by omega), if_neg (by omega), if_neg (by omega), if_pos (by omega), show 17 + j - 17 = j by omega]
theorem chv_at (n : Nat) (G : Nat → Value) (H : Nat → Bool) (B : Nat → Nat) {j : Nat} (hj : j < 4096) : (chv n G H B)[273 + j]? = some (.int .u8 (B j)) := by
  unfold chv
  rw [row_get _ _ (by omega), if_neg (by omega), if_neg (by omega), if_neg (by omega), show 273 + j - 273 = j by omega]
/-- one way, as it lies in the block -/
theorem chv_by (n : Nat) (G : Nat → Value) (H : Nat → Bool) (B : Nat → Nat) {j : Nat} (hj : j < 256) : (chv n G H B).extract (273 + j * 16) (273 + j * 16 + 16) = av fun i => B (j * 16 + i) := by
  apply Array.ext_getElem?
  intro i
  rw [Array.getElem?_extract, chv_size]
  by_cases c : i < 16
  · rw [if_pos (by omega), av_get _ c, show 273 + j * 16 + i = 273 + (j * 16 + i) by omega, chv_at n G H B (by omega)]
  · rw [if_neg (by omega), Array.getElem?_eq_none (by rw [av_size]; omega)]
def hset (H : Nat → Bool) (j : Nat) (b : Bool) : Nat → Bool := fun i => if i = j then b else H i
def bset (B : Nat → Nat) (j : Nat) (p : Nat → Nat) : Nat → Nat := fun i => if j * 16 ≤ i ∧ i < j * 16 + 16 then p (i - j * 16) else B i
theorem chv_setHas (n : Nat) (G : Nat → Value) (H : Nat → Bool) (B : Nat → Nat) {j : Nat} (hj : j < 256) (b : Bool) : (chv n G H B).setIfInBounds (17 + j) (.bool b) = chv n G (hset H j b) B := by
  unfold chv
  rw [row_set]
  apply row_congr
  intro i _
  unfold hset
  by_cases c : i = 17 + j
  · subst c; rw [if_pos rfl, if_neg (by omega), if_neg (by omega), if_pos (by omega), if_pos (by omega)]
  · rw [if_neg c]
    by_cases d : 17 ≤ i ∧ i < 273
    · rw [if_neg (by omega), if_neg (by omega), if_pos (by omega), if_neg (by omega), if_neg (by omega), if_pos (by omega), if_neg (by omega)]
    · by_cases e : i = 0
      · rw [if_pos e, if_pos e]
      · rw [if_neg e, if_neg e]
        by_cases f : i < 17
        · rw [if_pos f, if_pos f]
        · rw [if_neg f, if_neg f, if_neg (by omega), if_neg (by omega)]
theorem chv_setGens (n : Nat) (G : Nat → Value) (H : Nat → Bool) (B : Nat → Nat) {k : Nat} (hk : k < 16) (v : Value) : (chv n G H B).setIfInBounds (1 + k) v = chv n (vset G k v) H B := by
  unfold chv
  rw [row_set]
  apply row_congr
  intro i _
  unfold vset
  by_cases c : i = 1 + k
  · subst c; rw [if_pos rfl, if_neg (by omega), if_pos (by omega), if_pos (by omega)]
  · rw [if_neg c]
    by_cases e : i = 0
    · rw [if_pos e, if_pos e]
    · rw [if_neg e, if_neg e]
      by_cases f : i < 17
      · rw [if_pos f, if_pos f, if_neg (by omega)]
      · rw [if_neg f, if_neg f]
set_option maxRecDepth 100000 in
theorem chv_zero : (Try.prog.info? 93).map (·.zero) = some (some (.agg (chv 0 (fun _ => .slice none 0 0) (fun _ => false) (fun _ => 0)))) := by kernel_rfl
end Go.Proofs.Ytlmhnimpglookaa

namespace Go.Proofs.Ytlmhnimpglookaa
open Go.RowKit

theorem chv_setBy (n : Nat) (G : Nat → Value) (H : Nat → Bool) (B : Nat → Nat) {j : Nat} (hj : j < 256) (p : Nat → Nat) :
    ((chv n G H B).toList.take (273 + j * 16) ++ (av p).toList ++ (chv n G H B).toList.drop (273 + j * 16 + 16)).toArray = chv n G H (bset B j p) := by
  apply Array.ext_getElem?
  intro i
  have l1 : (chv n G H B).toList.length = 4369 := by rw [Array.length_toList, chv_size]
  have l2 : (av p).toList.length = 16 := by rw [Array.length_toList, av_size]
  have l3 : ((chv n G H B).toList.take (273 + j * 16)).length = 273 + j * 16 := by rw [List.length_take, l1]; omega
  have key : ∀ i, i < 4369 → ¬ (273 + j * 16 ≤ i ∧ i < 273 + j * 16 + 16) → (chv n G H B)[i]? = (chv n G H (bset B j p))[i]? := by
    intro i hi hc
    unfold chv
    rw [row_get _ _ hi, row_get _ _ hi]
    by_cases e : i < 273
    · by_cases e0 : i = 0
      · rw [if_pos e0, if_pos e0]
      · rw [if_neg e0, if_neg e0]
        by_cases e1 : i < 17
        · rw [if_pos e1, if_pos e1]
        · rw [if_neg e1, if_neg e1, if_pos e, if_pos e]
    · rw [if_neg (by omega), if_neg (by omega), if_neg e, if_neg (by omega), if_neg (by omega), if_neg e]
      unfold bset
      rw [if_neg (by omega)]
  rw [List.getElem?_toArray]
  by_cases h1 : i < 273 + j * 16
  · rw [List.append_assoc, List.getElem?_append_left (by rw [l3]; exact h1), List.getElem?_take_of_lt h1, Array.getElem?_toList]
    exact key i (by omega) (by omega)
  · rw [List.append_assoc, List.getElem?_append_right (by rw [l3]; omega), l3]
    by_cases h2 : i < 273 + j * 16 + 16
    · rw [List.getElem?_append_left (by rw [l2]; omega), Array.getElem?_toList, av_get _ (by omega)]
      have := chv_at n G H (bset B j p) (j := i - 273) (by omega)
      rw [show 273 + (i - 273) = i by omega] at this
      rw [this]
      unfold bset
      rw [if_pos (by omega), show i - 273 - j * 16 = i - (273 + j * 16) by omega]
    · rw [List.getElem?_append_right (by rw [l2]; omega), l2, List.getElem?_drop, show 273 + j * 16 + 16 + (i - (273 + j * 16) - 16) = i by omega, Array.getElem?_toList]
      rcases Nat.lt_or_ge i 4369 with c | c
      · exact key i c (by omega)
      · rw [Array.getElem?_eq_none (by rw [chv_size]; exact c), Array.getElem?_eq_none (by rw [chv_size]; exact c)]
theorem run_storeBy {w : World} {g n : Nat} {G : Nat → Value} {H : Nat → Bool} {B : Nat → Nat} (hr : rowOk w g 4369) (hc : cellsOf w g = chv n G H B) {j : Nat} (hj : j < 256) (p : Nat → Nat) :
    (storeT 42 (.pointer (some ⟨g, 273 + j * 16, none⟩)) (.agg (av p))).run Try.prog w = .ok .skip (w.setRow g (chv n G H (bset B j p))) := by
  rw [run_store_mid aggP hr (by omega) (av_size p) (av_cells p), hc, chv_setBy n G H B hj p]
theorem run_loadBy {w : World} {g n : Nat} {G : Nat → Value} {H : Nat → Bool} {B : Nat → Nat} (hc : cellsOf w g = chv n G H B) {j : Nat} (hj : j < 256) :
    (loadT 42 (.pointer (some ⟨g, 273 + j * 16, none⟩))).run Try.prog w = .ok (.value (.agg (av fun i => B (j * 16 + i)))) w :=
  run_load_mid aggP (by rw [hc]; exact chv_by n G H B hj) (av_size _)
set_option maxRecDepth 100000 in
theorem builtCh (n : Nat) : Try.prog.built 93 [(0, .int .i64 n)] = some (chv n (fun _ => .slice none 0 0) (fun _ => false) (fun _ => 0)) := by
  have hu : Try.prog.underlying 93 = some (.struct _) := Try.underlying93
  have hz := chv_zero
  unfold Program.built
  rcases hi : Try.prog.info? 93 with _ | it
  · rw [hi] at hz; cases hz
  · rw [hi] at hz
    have hz' : it.zero = some (.agg (chv 0 (fun _ => .slice none 0 0) (fun _ => false) (fun _ => 0))) := by simpa using hz
    rw [hu]
    simp only [hz']
    generalize he : List.mapM (fun (f : Field) => Option.map (fun i => (f.offset, i.size)) (Try.prog.info? f.type)) _ = z
    have hz2 : z = some [(0, 1), (1, 16), (17, 256), (273, 4096)] := he.symm.trans (by kernel_rfl)
    subst hz2
    simp only [Instr.fill, Value.cells, List.getElem?_toArray, List.getElem?_cons_zero, splice_eq, chv_size]
    rw [if_neg (by simp)]
    congr 1
    apply Array.ext_getElem?
    intro i
    rw [foldset, chv_size]
    by_cases h0 : i = 0
    · subst h0; rw [if_pos (by simp)]; rw [chv_n]; rfl
    · rw [if_neg (by simp; omega)]
      unfold chv
      by_cases c : i < 4369
      · rw [row_get _ _ c, row_get _ _ c, if_neg h0, if_neg h0]
      · rw [row_none _ _ c, row_none _ _ c]
def buildCh (ps : Array (Nat × Value)) : Sem Next := do pure (.value (← Instr.build 93 ps))
@[go_sem ↓] theorem exec_buildCh (ρ : Operand → Value) (dst : Option Tmp) (parts : Array (Nat × Operand)) (ty : TypeId) (pos : String) (after : Array Edge) (guard : Option (Nat × Bool)) :
    execOp ρ { dst, op := .build 93 parts, type := ty, pos, after, guard } = buildCh (parts.map fun (i, x) => (i, ρ x)) := rfl
@[go_sem] theorem run_buildCh (n : Nat) (w : World) : (buildCh #[(0, .int .i64 n)]).run Try.prog w = .ok (.value (.agg (chv n (fun _ => .slice none 0 0) (fun _ => false) (fun _ => 0)))) w := by
  simp only [buildCh, Sem.run_bind, run_build (P := Try.prog) w 93 #[(0, .int .i64 n)] _ (builtCh n), Result.andThen_ok, Sem.run_pure]
end Go.Proofs.Ytlmhnimpglookaa

namespace Go.Proofs.Ytlmhnimpglookaa
open Go.RowKit

def byF (B : Nat → Nat) (j : Nat) : Nat → Nat := fun i => B (j * 16 + i)
/-- whether a permutation is used up by the ways from a level on -/
def insideT (H : Nat → Bool) (B : Nat → Nat) (n : Nat) : Nat → (Nat → Nat) → Bool
  | 0, _ => true
  | j + 1, p => if H ((n - (j + 1)) * 16 + p (n - (j + 1))) then insideT H B n j (thenF p (backF (byF B ((n - (j + 1)) * 16 + p (n - (j + 1)))) n) n) else false
theorem inside_yes {H : Nat → Bool} {B : Nat → Nat} {n x : Nat} {q : Nat → Nat} (hx : x < n) (h : H (x * 16 + q x) = true) : insideT H B n (n - x) q = insideT H B n (n - (x + 1)) (thenF q (backF (byF B (x * 16 + q x)) n) n) := by
  obtain ⟨j, hj⟩ : ∃ j, n - x = j + 1 := ⟨n - x - 1, by omega⟩
  rw [hj, insideT, show n - (j + 1) = x by omega, if_pos h, show n - (x + 1) = j by omega]
theorem inside_no {H : Nat → Bool} {B : Nat → Nat} {n x : Nat} {q : Nat → Nat} (hx : x < n) (h : H (x * 16 + q x) = false) : insideT H B n (n - x) q = false := by
  obtain ⟨j, hj⟩ : ∃ j, n - x = j + 1 := ⟨n - x - 1, by omega⟩
  rw [hj, insideT, show n - (j + 1) = x by omega, if_neg (by rw [h]; simp)]
def ChAt (w : World) (g n : Nat) (G : Nat → Value) (H : Nat → Bool) (B : Nat → Nat) : Prop := (pBlk g (chv n G H B) 93).ok w
theorem ChAt.below {w w' : World} {g n : Nat} {G : Nat → Value} {H : Nat → Bool} {B : Nat → Nat} (h : ChAt w g n G H B) (hb : Below w.heap.size w w') : ChAt w' g n G H B :=
  (pBlk g (chv n G H B) 93).keep _ _ h fun k hk => hb.block k ((pBlk g (chv n G H B) 93).lt _ _ h hk)
theorem ChAt.cell {w : World} {g n : Nat} {G : Nat → Value} {H : Nat → Bool} {B : Nat → Nat} (h : ChAt w g n G H B) {i : Nat} {v : Value} (hv : (chv n G H B)[i]? = some v) : w.cell? ⟨g, i, none⟩ = some v := by
  rw [cell_of_cells, cellsOf_heap h]; exact hv

set_option maxRecDepth 100000 in
set_option maxHeartbeats 600000 in
theorem l03Inside_any (m : Nat) (hm : m ≤ 16) (g : Nat) (G : Nat → Value) (H : Nat → Bool) (B : Nat → Nat) (hBy : ∀ j, j < 256 → H j = true → PermN (byF B j) m) (k : Nat) (hk : k ≤ m) (p : Nat → Nat) (hp : PermN p m) (w : World) (hS : ChAt w g m G H B) :
    Calls Try.prog 71 #[.pointer (some ⟨g, 0, none⟩), .int .i64 k, .agg (av p)] w fun e w' => e = .returned (.bool (insideT H B m (m - k) p)) ∧ Below w.heap.size w w' := by
  have HS := hide hS; clear hS
  have HBY := hide hBy; clear hBy
  have hgs : g < w.heap.size := lt_of_some HS.out
  have HH := (Holds.start w).blk (av p) 42 w.heap.size rfl
  obtain ⟨RES, hRES⟩ : ∃ RES, RES = insideT H B m (m - k) p := ⟨_, rfl⟩
  rw [← hRES]
  have HR := hide hRES; clear hRES
  go_enter Try.func71, Try.ntmps71
  go_wp2
  generalize w.alloc (.cells (av p) 42) = w1 at *
  go_loopw [1] (fun t wr => ∃ (x : Nat) (q : Nat → Nat), x ≤ m ∧ t = .int .i64 x ∧ PermN q m ∧ RES = insideT H B m (m - x) q ∧ Holds w wr [pBlk w.heap.size (av q) 42]) (fun t _ => m - (intOf t).toNat)
  case atStart => exact ⟨k, p, hk, rfl, hp, HR.out, HH⟩
  case round =>
    clear HH HR hp
    obtain ⟨x, q, hx, rfl, hq, hres, hH⟩ := hrel
    have HRES := hide hres; clear hres
    have HQ := hide hq; clear hq
    have hSr := HS.out.below hH.low
    have n0 := hSr.cell (chv_n m G H B)
    by_cases hxm : x < m
    · have hx16 : (x : Int) < 16 := by omega
      have hxm' : (x : Int) < m := by omega
      have hqx : q x < m := HQ.out.2.2.1.1 x hxm
      have hqx16 : q x < 16 := by omega
      have hqxi : ((q x : Nat) : Int) < 16 := by omega
      have hj : x * 16 + q x < 256 := by omega
      have y1 := hH.cell 0 rfl (av_get q (i := x) (by omega))
      have y2 : wr.cell? ⟨g, 17 + x * 16 + q x, none⟩ = some (.bool (H (x * 16 + q x))) := by rw [Nat.add_assoc]; exact hSr.cell (chv_has m G H B hj)
      have hyes := inside_yes (H := H) (B := B) (q := q) hxm
      have hno := inside_no (H := H) (B := B) (q := q) hxm
      have hby := HBY.out _ hj
      have HYES := hide hyes; clear hyes
      have HNO := hide hno; clear hno
      have HBP := hide hby; clear hby
      clear hSr
      rcases hb : H (x * 16 + q x) with _ | _
      · rw [hb] at y2
        have hr0 := HNO.out hb
        have hrr : RES = false := by rw [HRES.out, hr0]
        clear hr0
        subst hrr
        go_wp2
        go_ret
        exact ⟨rfl, hH.low⟩
      · rw [hb] at y2
        have hyq := HYES.out hb
        have hpj := HBP.out hb
        obtain ⟨u, hu⟩ : ∃ u, u = byF B (x * 16 + q x) := ⟨_, rfl⟩
        rw [← hu] at hyq hpj
        have hrr : RES = insideT H B m (m - (x + 1)) (thenF q (backF u m) m) := by rw [HRES.out, hyq]
        have HRR := hide hrr; clear hrr hyq
        have HU := hide hu; clear hu
        have hq2 : PermN (thenF q (backF u m) m) m := thenF_perm HQ.out (backF_perm hpj)
        have HQ2 := hide hq2; clear hq2
        have CU := hide fun w => sBack_any u m hm (fun i hi => hpj.lt i (by omega)) w
        have CF := hide fun w => sThen_any q (backF u m) m hm (fun i hi => HQ.out.lt i (by omega)) w
        clear hpj
        have nS : ∀ wx, Holds w wx [pBlk w.heap.size (av q) 42] → wx.cell? ⟨g, 0, none⟩ = some (.int .i64 m) ∧ (loadT 42 (.pointer (some ⟨g, 273 + x * 256 + q x * 16, none⟩))).run Try.prog wx = .ok (.value (.agg (av u))) wx := fun wx hx' => by
          have h1 := HS.out.below hx'.low
          refine ⟨h1.cell (chv_n m G H B), ?_⟩
          have h2 := run_loadBy (cellsOf_heap h1) hj
          rw [show 273 + x * 256 + q x * 16 = 273 + (x * 16 + q x) * 16 by omega, HU.out]
          exact h2
        have NS := hide nS; clear nS
        go_wp2
        clear n0 y1 y2
        refine region_tail (fun wx => Holds w wx _) 19 (by kernel_rfl) (by kernel_rfl) hH.drew ?_
        simp only [List.take_succ_cons, List.take_zero, List.drop_succ_cons, List.drop_zero]
        iterate 13
          apply q_step
          · go_simp
          · intro wx hx
            have q1 := hx.cells 0 rfl
            have q3 := (NS.out wx hx).1
            have q4 := (NS.out wx hx).2
            go_simp
            try exact rfl
        iterate 1
          apply q_step
          · go_simp
          · intro wx hx
            have q1 := hx.cells 0 rfl
            have q3 := (NS.out wx hx).1
            have q4 := (NS.out wx hx).2
            go_simp
            exact Calls.mono (CU.out wx) fun e w' h => ⟨h.1, hx.call h.2⟩
        iterate 4
          apply q_step
          · go_simp
          · intro wx hx
            have q1 := hx.cells 0 rfl
            have q3 := (NS.out wx hx).1
            have q4 := (NS.out wx hx).2
            go_simp
            try exact rfl
        iterate 1
          apply q_step
          · go_simp
          · intro wx hx
            have q1 := hx.cells 0 rfl
            have q3 := (NS.out wx hx).1
            have q4 := (NS.out wx hx).2
            go_simp
            exact Calls.mono (CF.out wx) fun e w' h => ⟨h.1, hx.call h.2⟩
        refine wpQuiet_nil ?_
        intro w4 H4
        have rr := H4.rowOk 0 rfl (av_size _)
        have H5 := H4.setRow 0 rfl (av (thenF q (backF u m) m))
        go_wp2
        go_roundw
        case rel => exact ⟨x + 1, thenF q (backF u m) m, by omega, by go_num, HQ2.out, HRR.out, H5⟩
        case measure => simp [intOf]; omega
    · obtain ⟨X, hX⟩ : ∃ X, X = m := ⟨_, rfl⟩
      obtain rfl : X = x := by omega
      have hres : RES = true := by rw [HRES.out, hX, Nat.sub_self]; rfl
      subst hres
      rw [hX]
      clear hxm hx hX hSr
      go_wp2
      go_ret
      exact ⟨rfl, hH.low⟩
end Go.Proofs.Ytlmhnimpglookaa

namespace Go.Proofs.Ytlmhnimpglookaa

theorem back_at' {p : Nat → Nat} {m y : Nat} (h : PermN p m) (hy : y < m) : p (backF p m y) = y :=
  (backF_perm h).2.2.1.2 _ _ (h.2.2.1.1 _ ((backF_perm h).2.2.1.1 y hy)) hy (backF_at h.2.2.1 ((backF_perm h).2.2.1.1 y hy))
/-- the ways of a level of the chain -/
def Uc (H : Nat → Bool) (B : Nat → Nat) (n : Nat) : Nat → List (Nat → Nat) := fun k => ((List.range n).filter fun x => H (k * 16 + x)).map fun x => byF B (k * 16 + x)
theorem Uc_mem {H : Nat → Bool} {B : Nat → Nat} {n k : Nat} {u : Nat → Nat} : u ∈ Uc H B n k ↔ ∃ x, x < n ∧ H (k * 16 + x) = true ∧ u = byF B (k * 16 + x) := by
  unfold Uc
  rw [List.mem_map]
  constructor
  · rintro ⟨x, hx, rfl⟩
    obtain ⟨h1, h2⟩ := List.mem_filter.1 hx
    exact ⟨x, List.mem_range.1 h1, h2, rfl⟩
  · rintro ⟨x, h1, h2, rfl⟩
    exact ⟨x, List.mem_filter.2 ⟨List.mem_range.2 h1, h2⟩, rfl⟩
theorem inside_in {H : Nat → Bool} {B : Nat → Nat} {n : Nat} (hn : n ≤ 16) (hb : ∀ k x, k < n → x < n → H (k * 16 + x) = true → PermN (byF B (k * 16 + x)) n ∧ (∀ z, z < k → byF B (k * 16 + x) z = z) ∧ byF B (k * 16 + x) k = x) :
    ∀ j, j ≤ n → ∀ p, PermN p n → (∀ x, x < n - j → p x = x) → (insideT H B n j p = true ↔ In n (Uc H B n) (n - j) p)
  | 0, _, p, _, hx => by
    rw [Nat.sub_zero] at hx ⊢
    exact ⟨fun _ => .done hx, fun _ => rfl⟩
  | j + 1, hj, p, hp, hx => by
    obtain ⟨k, hk⟩ : ∃ k, k = n - (j + 1) := ⟨_, rfl⟩
    have hk1 : n - j = k + 1 := by omega
    have hkn : k < n := by omega
    rw [insideT, ← hk]
    rw [← hk] at hx
    have hpk : p k < n := hp.2.2.1.1 k hkn
    have rest : H (k * 16 + p k) = true → PermN (thenF p (backF (byF B (k * 16 + p k)) n) n) n ∧ ∀ x, x < n - j → thenF p (backF (byF B (k * 16 + p k)) n) n x = x := by
      intro h
      obtain ⟨b1, b2, b3⟩ := hb k (p k) hkn hpk h
      refine ⟨thenF_perm hp (backF_perm b1), fun x hx' => ?_⟩
      rw [thenF_at (by omega)]
      by_cases c : x = k
      · subst c
        have := backF_at b1.2.2.1 hkn
        rwa [b3] at this
      · have e1 := hx x (by omega)
        have := backF_at b1.2.2.1 (show x < n by omega)
        rw [b2 x (by omega)] at this
        rw [e1]; exact this
    constructor
    · intro h
      split at h
      · rename_i hh
        obtain ⟨b1, b2, b3⟩ := hb k (p k) hkn hpk hh
        obtain ⟨r1, r2⟩ := rest hh
        have ih := (inside_in hn hb j (by omega) _ r1 r2).1 h
        rw [hk1] at ih
        refine .step hkn (Uc_mem.2 ⟨p k, hpk, hh, rfl⟩) ih fun x hx' => ?_
        rw [thenF_at hx']
        exact (back_at' b1 (hp.2.2.1.1 x hx')).symm
      · cases h
    · intro h
      cases h with
      | done e => omega
      | step h1 hu hq e =>
        rename_i u q
        obtain ⟨x, hxn, hh, rfl⟩ := Uc_mem.1 hu
        obtain ⟨b1, b2, b3⟩ := hb k x hkn hxn hh
        have hqk : q k = k := hq.fix (fun k' hk' u' hu' z hz => by
          obtain ⟨x', hx', hh', rfl⟩ := Uc_mem.1 hu'
          exact (hb k' x' hk' hx' hh').2.1 z hz) k (by omega)
        have hpx : p k = x := by rw [e k hkn, hqk, b3]
        subst hpx
        rw [if_pos hh]
        obtain ⟨r1, r2⟩ := rest hh
        refine (inside_in hn hb j (by omega) _ r1 r2).2 ?_
        rw [hk1]
        have hqb : Bij q n := hq.bij fun k' hk' u' hu' => by
          obtain ⟨x', hx', hh', rfl⟩ := Uc_mem.1 hu'
          exact (hb k' x' hk' hx' hh').1.2.2.1
        refine hq.ext fun z hz => ?_
        rw [thenF_at hz, e z hz]
        exact (backF_at b1.2.2.1 (hqb.1 z hz)).symm
end Go.Proofs.Ytlmhnimpglookaa

namespace Go.Proofs.Ytlmhnimpglookaa
open Go.RowKit

/-- how many darts a level reaches, of those below x; the product over the levels below k -/
def cntH (H : Nat → Bool) (k : Nat) : Nat → Nat
  | 0 => 0
  | x + 1 => if H (k * 16 + x) then cntH H k x + 1 else cntH H k x
def ordH (H : Nat → Bool) (n : Nat) : Nat → Nat
  | 0 => 1
  | k + 1 => ordH H n k * cntH H k n
theorem cntH_le (H : Nat → Bool) (k : Nat) : ∀ x, cntH H k x ≤ x
  | 0 => Nat.le_refl _
  | x + 1 => by have := cntH_le H k x; rw [cntH]; split <;> omega

set_option maxRecDepth 100000 in
set_option maxHeartbeats 1000000 in
theorem l03Order_any (m : Nat) (hm : m ≤ 16) (g : Nat) (G : Nat → Value) (H : Nat → Bool) (B : Nat → Nat) (hO : ∀ k, k ≤ m → ordH H m k ≤ 9223372036854775807) (w : World) (hS : ChAt w g m G H B) :
    Calls Try.prog 65 #[.pointer (some ⟨g, 0, none⟩)] w fun e w' => e = .returned (.int .i64 (ordH H m m)) ∧ w' = w := by
  have n0 := hS.cell (chv_n m G H B)
  have HS := hide hS; clear hS
  have HO := hide hO; clear hO
  go_enter Try.func65, Try.ntmps65
  go_wp2
  go_loopw [3, 4] (fun o t wr => ∃ k : Nat, k ≤ m ∧ t = .int .i64 k ∧ o = .int .i64 (ordH H m k) ∧ w = wr) (fun _ t _ => m - (intOf t).toNat)
  case atStart => exact ⟨0, by omega, rfl, rfl, rfl⟩
  case round =>
    obtain ⟨k, hk, rfl, rfl, rfl⟩ := hrel
    by_cases hkm : k < m
    · have hk16 : (k : Int) < 16 := by omega
      have hkm' : (k : Int) < m := by omega
      have ho1 := HO.out (k + 1) (by omega)
      have ho2 : ordH H m (k + 1) = ordH H m k * cntH H k m := rfl
      rw [ho2] at ho1
      have HO2 := hide ho2; clear ho2
      obtain ⟨o, ho⟩ : ∃ o, o = ordH H m k := ⟨_, rfl⟩
      rw [← ho] at ho1 HO2
      rw [← ho]
      clear ho
      go_wp2
      go_loopw [5, 6] (fun c t wr => ∃ x : Nat, x ≤ m ∧ t = .int .i64 x ∧ c = .int .i64 (cntH H k x) ∧ w = wr) (fun _ t _ => m - (intOf t).toNat)
      case atStart => exact ⟨0, by omega, rfl, rfl, rfl⟩
      case round =>
        obtain ⟨x, hx, rfl, rfl, rfl⟩ := hrel
        by_cases hxm : x < m
        · have hx16 : (x : Int) < 16 := by omega
          have hxm' : (x : Int) < m := by omega
          have y2 : w.cell? ⟨g, 17 + k * 16 + x, none⟩ = some (.bool (H (k * 16 + x))) := by rw [Nat.add_assoc]; exact HS.out.cell (chv_has m G H B (by omega))
          have hcl := cntH_le H k x
          have hst : cntH H k (x + 1) = if H (k * 16 + x) then cntH H k x + 1 else cntH H k x := rfl
          have HST := hide hst; clear hst
          obtain ⟨c, hc⟩ : ∃ c, c = cntH H k x := ⟨_, rfl⟩
          rw [← hc] at hcl HST
          rw [← hc]
          clear hc
          have hwr : IntKind.i64.wrap ((c : Int) + 1) = (c : Int) + 1 := by rw [IntKind.wrap_i64]; omega
          rcases hb : H (k * 16 + x) with _ | _
          · rw [hb] at y2 HST
            go_wp2
            go_roundw
            case rel => exact ⟨x + 1, by omega, by go_num, by rw [HST.out]; rfl, by trivial⟩
            case measure => simp [intOf]; omega
          · rw [hb] at y2 HST
            go_wp2
            go_roundw
            case rel => exact ⟨x + 1, by omega, by go_num, by rw [HST.out]; rfl, by trivial⟩
            case measure => simp [intOf]; omega
        · obtain rfl : x = m := by omega
          clear hxm hx
          have hw : IntKind.i64.wrap (((o * cntH H k x : Nat)) : Int) = ((o * cntH H k x : Nat) : Int) := by rw [IntKind.wrap_i64]; omega
          have hwm : wrap64 ((o : Int) * (cntH H k x : Int)) = ((o * cntH H k x : Nat) : Int) := by rw [← Int.natCast_mul, ← IntWalk.i64_left]; exact hw
          have HWM := hide hwm; clear hwm hw
          go_wp2
          go_roundw
          case rel => exact ⟨k + 1, by omega, by go_num, by rw [HO2.out, Int.natCast_mul], by trivial⟩
          case measure => simp [intOf]; omega
    · obtain rfl : k = m := by omega
      go_wp2
      go_ret
      exact ⟨rfl, rfl⟩
end Go.Proofs.Ytlmhnimpglookaa

namespace Go.Proofs.Ytlmhnimpglookaa

/-- the number of entries that stand -/
def totH (H : Nat → Bool) : Nat → Nat
  | 0 => 0
  | j + 1 => totH H j + if H j then 1 else 0
theorem totH_le (H : Nat → Bool) : ∀ j, totH H j ≤ j
  | 0 => Nat.le_refl _
  | j + 1 => by have := totH_le H j; rw [totH]; split <;> omega
theorem totH_mono {H H' : Nat → Bool} (h : ∀ j, H j = true → H' j = true) : ∀ j, totH H j ≤ totH H' j
  | 0 => Nat.le_refl _
  | j + 1 => by
    have h1 := totH_mono h j
    have h2 := h j
    rw [totH, totH]
    rcases e : H j with _ | _
    · simp; omega
    · rw [h2 e]; simp; exact h1
theorem totH_same {H H' : Nat → Bool} (h : ∀ j, H j = true → H' j = true) : ∀ j, totH H' j ≤ totH H j → ∀ i, i < j → H' i = H i
  | 0, _, i, hi => by omega
  | j + 1, hle, i, hi => by
    have h1 := totH_mono h j
    have h2 := h j
    rw [totH, totH] at hle
    have hj : H' j = H j := by
      rcases e : H j with _ | _
      · rcases e' : H' j with _ | _
        · rfl
        · rw [e, e'] at hle; simp at hle; omega
      · exact h2 e
    rw [hj] at hle
    rcases Nat.lt_or_ge i j with c | c
    · exact totH_same h j (by omega) i c
    · obtain rfl : i = j := by omega
      exact hj
theorem totH_set {H : Nat → Bool} {i : Nat} (h : H i = false) : ∀ j, i < j → totH (hset H i true) j = totH H j + 1 := by
  have low : ∀ j, j ≤ i → totH (hset H i true) j = totH H j := by
    intro j
    induction j with
    | zero => intro _; rfl
    | succ j ih =>
      intro hj
      have e : hset H i true j = H j := by unfold hset; rw [if_neg (by omega)]
      rw [totH, totH, ih (by omega), e]
  intro j
  induction j with
  | zero => intro hj; omega
  | succ j ih =>
    intro hj
    rw [totH, totH]
    rcases Nat.lt_or_ge i j with c | c
    · rw [ih c]
      have : hset H i true j = H j := by unfold hset; rw [if_neg (by omega)]
      rw [this]; omega
    · obtain rfl : i = j := by omega
      rw [low i (Nat.le_refl _), h]
      have : hset H i true i = true := by unfold hset; rw [if_pos rfl]
      rw [this]; simp

/-- all levels keep what they must -/
structure Lv (n : Nat) (H : Nat → Bool) (B : Nat → Nat) (M : Nat → List (Nat → Nat)) : Prop where
  way : ∀ k x, k < n → x < n → H (k * 16 + x) = true → PermN (byF B (k * 16 + x)) n ∧ (∀ z, z < k → byF B (k * 16 + x) z = z) ∧ byF B (k * 16 + x) k = x ∧ Gen n (Mk n M k) (byF B (k * 16 + x))
  one : ∀ k, k < n → H (k * 16 + k) = true ∧ EqN n (byF B (k * 16 + k)) (fun x => x)
  mks : ∀ k, k < n → ∀ s ∈ M k, PermN s n ∧ ∀ x, x < k → s x = x
  down : ∀ k, k + 1 < n → ∀ s ∈ M (k + 1), Gen n (Mk n M k) s
  dom : ∀ j, j < 256 → H j = true → j / 16 < n ∧ j % 16 < n
/-- from a level on, products of ways and makers are products of ways -/
def Pr (n : Nat) (H : Nat → Bool) (B : Nat → Nat) (M : Nat → List (Nat → Nat)) (k0 : Nat) : Prop :=
  ∀ k x, k0 ≤ k → k < n → x < n → H (k * 16 + x) = true → ∀ s ∈ M k, In n (Uc H B n) k (fun z => s (byF B (k * 16 + x) z))
/-- nothing is lost -/
structure Ext (n : Nat) (H : Nat → Bool) (B : Nat → Nat) (M : Nat → List (Nat → Nat)) (H' : Nat → Bool) (B' : Nat → Nat) (M' : Nat → List (Nat → Nat)) : Prop where
  has : ∀ j, H j = true → H' j = true
  by' : ∀ k x, k < n → x < n → H (k * 16 + x) = true → EqN 16 (byF B' (k * 16 + x)) (byF B (k * 16 + x))
  mks : ∀ k, ∀ s ∈ M k, s ∈ M' k
/-- a level is as it was -/
def LvSame (n : Nat) (H : Nat → Bool) (B : Nat → Nat) (M : Nat → List (Nat → Nat)) (H' : Nat → Bool) (B' : Nat → Nat) (M' : Nat → List (Nat → Nat)) (k : Nat) : Prop :=
  M' k = M k ∧ ∀ x, x < n → H' (k * 16 + x) = H (k * 16 + x) ∧ EqN 16 (byF B' (k * 16 + x)) (byF B (k * 16 + x))
def Bd (M : Nat → List (Nat → Nat)) (H : Nat → Bool) (k : Nat) : Prop := ∀ j, k ≤ j → (M j).length ≤ totH H 256
theorem PermN.congr {n : Nat} {p q : Nat → Nat} (h : PermN p n) (e : EqN 16 q p) : PermN q n := by
  have h2 := h.2.1
  exact ⟨h.1, h.2.1, h.2.2.1.congr fun x hx => (e x (by omega)).symm, fun i h1 h3 => by rw [e i h3]; exact h.2.2.2 i h1 h3⟩
section
variable {n : Nat} {H H' H2 : Nat → Bool} {B B' B2 : Nat → Nat} {M M' M2 : Nat → List (Nat → Nat)}
theorem Ext.refl (H : Nat → Bool) (B : Nat → Nat) (M : Nat → List (Nat → Nat)) : Ext n H B M H B M := ⟨fun _ h => h, fun _ _ _ _ _ _ _ => rfl, fun _ _ h => h⟩
theorem Ext.trans (h : Ext n H B M H' B' M') (k : Ext n H' B' M' H2 B2 M2) : Ext n H B M H2 B2 M2 :=
  ⟨fun j hj => k.has j (h.has j hj), fun i x hi hx hh => (k.by' i x hi hx (h.has _ hh)).trans (h.by' i x hi hx hh), fun i s hs => k.mks i s (h.mks i s hs)⟩
theorem LvSame.refl (k : Nat) : LvSame n H B M H B M k := ⟨rfl, fun _ _ => ⟨rfl, fun _ _ => rfl⟩⟩
theorem LvSame.trans {k : Nat} (h : LvSame n H B M H' B' M' k) (h' : LvSame n H' B' M' H2 B2 M2 k) : LvSame n H B M H2 B2 M2 k :=
  ⟨h'.1.trans h.1, fun x hx => ⟨(h'.2 x hx).1.trans (h.2 x hx).1, (h'.2 x hx).2.trans (h.2 x hx).2⟩⟩
theorem Lv.ub (h : Lv n H B M) : ∀ k, k < n → ∀ u ∈ Uc H B n k, Bij u n := fun k hk u hu => by
  obtain ⟨x, hx, hh, rfl⟩ := Uc_mem.1 hu
  exact (h.way k x hk hx hh).1.2.2.1
theorem In.ext' {k : Nat} {p : Nat → Nat} (hn : n ≤ 16) (hl : Lv n H B M) (h : In n (Uc H B n) k p) (e : Ext n H B M H' B' M') : In n (Uc H' B' n) k p := by
  induction h with
  | done h => exact .done h
  | step h1 h2 h3 h4 ih =>
    obtain ⟨x, hx, hh, rfl⟩ := Uc_mem.1 h2
    have hb := h3.bij hl.ub
    exact .step h1 (Uc_mem.2 ⟨x, hx, e.has _ hh, rfl⟩) ih fun z hz => by rw [h4 z hz]; exact (e.by' _ x h1 hx hh _ (by have := hb.1 z hz; omega)).symm
theorem Lv.inside (h : Lv n H B M) (hn : n ≤ 16) {k : Nat} (hk : k ≤ n) {p : Nat → Nat} (hp : PermN p n) (hx : ∀ x, x < k → p x = x) : insideT H B n (n - k) p = true ↔ In n (Uc H B n) k p := by
  have := inside_in hn (H := H) (B := B) (fun k x hk hx hh => by have := h.way k x hk hx hh; exact ⟨this.1, this.2.1, this.2.2.1⟩) (n - k) (by omega) p hp (by rw [show n - (n - k) = k by omega]; exact hx)
  rwa [show n - (n - k) = k by omega] at this
theorem Lv.byPerm (h : Lv n H B M) (j : Nat) (hj : j < 256) (hh : H j = true) : PermN (byF B j) n := by
  obtain ⟨h1, h2⟩ := h.dom j hj hh
  have e : j = j / 16 * 16 + j % 16 := by omega
  rw [e] at hh ⊢
  exact (h.way _ _ h1 h2 hh).1
theorem Lv.ones (h : Lv n H B M) : ∀ j k, k + j = n → In n (Uc H B n) k (fun x => x)
  | 0, k, e => by obtain rfl : k = n := by omega
                  exact .done fun _ _ => rfl
  | j + 1, k, e => by
    have h1 := h.one k (by omega)
    exact .step (by omega) (Uc_mem.2 ⟨k, by omega, h1.1, rfl⟩) (h.ones j (k + 1) (by omega)) fun x hx => (h1.2 x hx).symm
theorem Lv.mb (h : Lv n H B M) (k : Nat) : ∀ s, Mk n M k s → Bij s n := fun s hs => (h.mks k hs.1 s hs.2).1.2.2.1
theorem rest_ok {k : Nat} {q u : Nat → Nat} (hq : PermN q n) (hu : PermN u n) (hk : k < n) (fq : ∀ z, z < k → q z = z) (fu : ∀ z, z < k → u z = z) (e : u k = q k) :
    PermN (thenF q (backF u n) n) n ∧ (∀ z, z < k + 1 → thenF q (backF u n) n z = z) ∧ ∀ z, z < n → q z = u (thenF q (backF u n) n z) := by
  have key : ∀ z, z < n → q z = u (thenF q (backF u n) n z) := fun z hz => by
    rw [thenF_at hz]
    exact (back_at' hu (hq.2.2.1.1 z hz)).symm
  have hr := thenF_perm hq (backF_perm hu)
  refine ⟨hr, fun z hz => ?_, key⟩
  have hzn : z < n := by omega
  refine hu.2.2.1.2 _ _ (hr.2.2.1.1 z hzn) hzn ?_
  rw [← key z hzn]
  rcases Nat.lt_or_ge z k with c | c
  · rw [fq z c, fu z c]
  · obtain rfl : z = k := by omega
    exact e.symm
theorem Lv.genInv (h : Lv n H B M) (hn : n ≤ 16) {k : Nat} {q u : Nat → Nat} (hu : PermN u n) (gq : Gen n (Mk n M k) q) (gu : Gen n (Mk n M k) u) : Gen n (Mk n M k) (thenF q (backF u n) n) :=
  gq.prod (h.mb k) (gu.inv hn (h.mb k) fun x hx => backF_at hu.2.2.1 hx) fun x hx => thenF_at hx
theorem Bd.up {k k1 : Nat} (h : Bd M H k) (hk : k ≤ k1) : Bd M H k1 := fun j hj => h j (by omega)
theorem Pr.up {k k1 : Nat} (h : Pr n H B M k) (hk : k ≤ k1) : Pr n H B M k1 := fun j x hj => h j x (by omega)

/-- what adding a permutation at a level makes -/
structure Added (n k : Nat) (p : Nat → Nat) (H : Nat → Bool) (B : Nat → Nat) (M : Nat → List (Nat → Nat)) (H' : Nat → Bool) (B' : Nat → Nat) (M' : Nat → List (Nat → Nat)) : Prop where
  lv : Lv n H' B' M'
  pr : Pr n H' B' M' k
  bd : Bd M' H' k
  ext : Ext n H B M H' B' M'
  same : ∀ j, j < k → LvSame n H B M H' B' M' j
  own : M' k = M k ∨ M' k = M k ++ [p]
  mem : In n (Uc H' B' n) k p
/-- what a step at a level makes -/
structure Stepped (n k : Nat) (q : Nat → Nat) (H : Nat → Bool) (B : Nat → Nat) (M : Nat → List (Nat → Nat)) (H' : Nat → Bool) (B' : Nat → Nat) (M' : Nat → List (Nat → Nat)) : Prop where
  lv : Lv n H' B' M'
  pr : Pr n H' B' M' (k + 1)
  bd : Bd M' H' (k + 1)
  ext : Ext n H B M H' B' M'
  same : ∀ j, j < k → LvSame n H B M H' B' M' j
  own : M' k = M k
  mem : In n (Uc H' B' n) k q
  new : ∀ x, x < n → H' (k * 16 + x) = true → H (k * 16 + x) = false → ∀ s ∈ M k, In n (Uc H' B' n) k (fun z => s (byF B' (k * 16 + x) z))
/-- nothing to add -/
theorem Added.none {k : Nat} {p : Nat → Nat} (h : Lv n H B M) (hp : Pr n H B M k) (hb : Bd M H k) (hi : In n (Uc H B n) k p) : Added n k p H B M H B M :=
  ⟨h, hp, hb, .refl _ _ _, fun _ _ => .refl _, .inl rfl, hi⟩
/-- a step to a number that is reached: what is left has been added below -/
theorem Stepped.old {k : Nat} {q : Nat → Nat} (h : Lv n H B M) (hk : k < n) (hq : PermN q n) (fq : ∀ z, z < k → q z = z) (hh : H (k * 16 + q k) = true)
    (ha : Added n (k + 1) (thenF q (backF (byF B (k * 16 + q k)) n) n) H B M H' B' M') : Stepped n k q H B M H' B' M' := by
  obtain ⟨w1, w2, w3, w4⟩ := h.way k (q k) hk (hq.2.2.1.1 k hk) hh
  obtain ⟨r1, r2, r3⟩ := rest_ok hq w1 hk fq w2 w3
  have hs := ha.same k (by omega)
  refine ⟨ha.lv, ha.pr, ha.bd, ha.ext, fun j hj => ha.same j (by omega), hs.1, ?_, fun x hx h1 h2 => ?_⟩
  · refine .step hk (Uc_mem.2 ⟨q k, hq.2.2.1.1 k hk, ha.ext.has _ hh, rfl⟩) ha.mem fun z hz => ?_
    rw [r3 z hz]
    have h16 := hq.2.1
    exact (ha.ext.by' k (q k) hk (hq.2.2.1.1 k hk) hh _ (by have := r1.2.2.1.1 z hz; omega)).symm
  · rw [(hs.2 x hx).1, h2] at h1; cases h1
/-- .. at the last level nothing is left -/
theorem Stepped.last {k : Nat} {q : Nat → Nat} (h : Lv n H B M) (hp : Pr n H B M (k + 1)) (hb : Bd M H (k + 1)) (hk : k + 1 = n) (hq : PermN q n) (fq : ∀ z, z < k → q z = z) (hh : H (k * 16 + q k) = true) : Stepped n k q H B M H B M := by
  have hkn : k < n := by omega
  obtain ⟨w1, w2, w3, w4⟩ := h.way k (q k) hkn (hq.2.2.1.1 k hkn) hh
  obtain ⟨r1, r2, r3⟩ := rest_ok hq w1 hkn fq w2 w3
  refine ⟨h, hp, hb, .refl _ _ _, fun _ _ => .refl _, rfl, ?_, fun x hx h1 h2 => by rw [h1] at h2; cases h2⟩
  refine .step hkn (Uc_mem.2 ⟨q k, hq.2.2.1.1 k hkn, hh, rfl⟩) ?_ r3
  rw [hk]
  exact .done fun x hx => r2 x (by omega)
theorem idx_ne {k x k' x' : Nat} (hx : x < 16) (hx' : x' < 16) (h : ¬ (k = k' ∧ x = x')) : k * 16 + x ≠ k' * 16 + x' := by omega
theorem byF_bset_same (B : Nat → Nat) (j : Nat) (p : Nat → Nat) {x : Nat} (hx : x < 16) : byF (bset B j p) j x = p x := by
  unfold byF bset
  rw [if_pos (by omega)]
  congr 1
  omega
theorem byF_bset_ne (B : Nat → Nat) {i j : Nat} (p : Nat → Nat) (h : i ≠ j) {x : Nat} (hx : x < 16) : byF (bset B j p) i x = byF B i x := by
  unfold byF bset
  rw [if_neg (by omega)]
/-- a new way -/
theorem Lv.new (h : Lv n H B M) {k : Nat} {q : Nat → Nat} (hk : k < n) (hq : PermN q n) (fq : ∀ z, z < k → q z = z) (gq : Gen n (Mk n M k) q) (hh : H (k * 16 + q k) = false) :
    Lv n (hset H (k * 16 + q k) true) (bset B (k * 16 + q k) q) M ∧ Ext n H B M (hset H (k * 16 + q k) true) (bset B (k * 16 + q k) q) M := by
  have h16 := hq.2.1
  have hqk := hq.2.2.1.1 k hk
  have ext : Ext n H B M (hset H (k * 16 + q k) true) (bset B (k * 16 + q k) q) M := by
    refine ⟨fun j hj => ?_, fun k' x hk' hx hj z hz => ?_, fun _ _ h => h⟩
    · unfold hset; split
      · rfl
      · exact hj
    · refine byF_bset_ne B q (fun e => ?_) hz
      rw [e, hh] at hj; cases hj
  have key : ∀ k' x, k' < n → x < n → hset H (k * 16 + q k) true (k' * 16 + x) = true → (k' = k ∧ x = q k) ∨ H (k' * 16 + x) = true := fun k' x hk' hx hj => by
    unfold hset at hj
    split at hj
    · left; omega
    · exact .inr hj
  refine ⟨⟨fun k' x hk' hx hj => ?_, fun k' hk' => ?_, h.mks, h.down, fun j hj hh' => ?_⟩, ext⟩
  · rcases key k' x hk' hx hj with ⟨rfl, rfl⟩ | c
    · have e : EqN 16 (byF (bset B (k' * 16 + q k') q) (k' * 16 + q k')) q := fun z hz => byF_bset_same B _ q hz
      exact ⟨hq.congr e, fun z hz => by rw [e z (by omega)]; exact fq z hz, by rw [e k' (by omega)], gq.ext fun z hz => (e z (by omega)).symm⟩
    · obtain ⟨w1, w2, w3, w4⟩ := h.way k' x hk' hx c
      have e := ext.by' k' x hk' hx c
      exact ⟨w1.congr e, fun z hz => by rw [e z (by omega)]; exact w2 z hz, by rw [e k' (by omega)]; exact w3, w4.ext fun z hz => (e z (by omega)).symm⟩
  · obtain ⟨o1, o2⟩ := h.one k' hk'
    exact ⟨ext.has _ o1, fun z hz => by rw [ext.by' k' k' hk' hk' o1 z (by omega)]; exact o2 z hz⟩
  · unfold hset at hh'
    split at hh'
    · omega
    · exact h.dom j hj hh'
theorem Pr.ext' {k : Nat} (hn : n ≤ 16) (h : Lv n H B M) (hp : Pr n H B M k) (e : Ext n H B M H' B' M') (hs : ∀ j, k ≤ j → j < n → LvSame n H B M H' B' M' j) : Pr n H' B' M' k := fun j x hj hjn hx hh s hsm => by
  have hl := hs j hj hjn
  rw [(hl.2 x hx).1] at hh
  rw [hl.1] at hsm
  refine (In.ext' hn h (hp j x hj hjn hx hh s hsm) e).ext fun z hz => ?_
  rw [(hl.2 x hx).2 z (by omega)]
/-- other levels do not feel a new way -/
theorem new_same {k j : Nat} {q : Nat → Nat} (hn : n ≤ 16) (hk : k < n) (hj : j ≠ k) (hq : PermN q n) : LvSame n H B M (hset H (k * 16 + q k) true) (bset B (k * 16 + q k) q) M j := by
  have hqk := hq.2.2.1.1 k hk
  refine ⟨rfl, fun x hx => ⟨?_, fun z hz => byF_bset_ne B q (by omega) hz⟩⟩
  unfold hset
  rw [if_neg (by omega)]
theorem Bd.more {k : Nat} (h : Bd M H k) (e : ∀ j, H j = true → H' j = true) : Bd M H' k := fun j hj => Nat.le_trans (h j hj) (totH_mono e 256)

/-- the loop of a step behind a new way -/
structure Looped (n k : Nat) (q : Nat → Nat) (H : Nat → Bool) (B : Nat → Nat) (M : Nat → List (Nat → Nat)) (i : Nat) (H' : Nat → Bool) (B' : Nat → Nat) (M' : Nat → List (Nat → Nat)) : Prop where
  lv : Lv n H' B' M'
  pr : Pr n H' B' M' (k + 1)
  bd : Bd M' H' (k + 1)
  ext : Ext n H B M H' B' M'
  same : ∀ j, j < k → LvSame n H B M H' B' M' j
  own : M' k = M k
  way : H' (k * 16 + q k) = true ∧ EqN 16 (byF B' (k * 16 + q k)) q
  big : totH H 256 + 1 ≤ totH H' 256
  done : ∀ j s, j < i → (M k)[j]? = some s → In n (Uc H' B' n) k (fun z => s (q z))
  new : ∀ x, x < n → H' (k * 16 + x) = true → H (k * 16 + x) = false → x ≠ q k → ∀ s ∈ M k, In n (Uc H' B' n) k (fun z => s (byF B' (k * 16 + x) z))
theorem Looped.start {k : Nat} {q : Nat → Nat} (hn : n ≤ 16) (h : Lv n H B M) (hp : Pr n H B M (k + 1)) (hb : Bd M H (k + 1)) (hk : k < n) (hq : PermN q n) (fq : ∀ z, z < k → q z = z) (gq : Gen n (Mk n M k) q) (hh : H (k * 16 + q k) = false) :
    Looped n k q H B M 0 (hset H (k * 16 + q k) true) (bset B (k * 16 + q k) q) M := by
  obtain ⟨l1, l2⟩ := h.new hk hq fq gq hh
  have hqk := hq.2.2.1.1 k hk
  have hj : k * 16 + q k < 256 := by omega
  refine ⟨l1, hp.ext' hn h l2 fun j hj _ => new_same hn hk (by omega) hq, hb.more l2.has, l2, fun j hj => new_same hn hk (by omega) hq, rfl, ⟨by unfold hset; rw [if_pos rfl], fun z hz => byF_bset_same B _ q hz⟩, by rw [totH_set hh 256 hj]; exact Nat.le_refl _, fun j s hj => absurd hj (Nat.not_lt_zero j), fun x hx h1 h2 h3 => ?_⟩
  unfold hset at h1
  rw [if_neg (by omega), h2] at h1
  cases h1
theorem Looped.next {k i : Nat} {q s : Nat → Nat} (hn : n ≤ 16) (hk : k < n) (h : Looped n k q H B M i H' B' M') (hs : (M k)[i]? = some s) (hq : PermN q n) (hl : Lv n H B M)
    (st : Stepped n k (thenF q s n) H' B' M' H2 B2 M2) : Looped n k q H B M (i + 1) H2 B2 M2 := by
  have hqk := hq.2.2.1.1 k hk
  refine ⟨st.lv, st.pr, st.bd, h.ext.trans st.ext, fun j hj => (h.same j hj).trans (st.same j hj), st.own.trans h.own, ⟨st.ext.has _ h.way.1, (st.ext.by' k (q k) hk hqk h.way.1).trans h.way.2⟩, Nat.le_trans h.big (totH_mono st.ext.has 256), fun j t hj ht => ?_, fun x hx h1 h2 h3 t ht => ?_⟩
  · rcases Nat.lt_or_ge j i with c | c
    · exact In.ext' hn h.lv (h.done j t c ht) st.ext
    · obtain rfl : j = i := by omega
      rw [hs] at ht
      cases ht
      exact st.mem.ext fun z hz => thenF_at hz
  · rcases hc : H' (k * 16 + x) with _ | _
    · exact st.new x hx h1 hc t (by rw [h.own]; exact ht)
    · refine (In.ext' hn h.lv (h.new x hx hc h2 h3 t ht) st.ext).ext fun z hz => ?_
      rw [st.ext.by' k x hk hx hc z (by omega)]
theorem Looped.end' {k : Nat} {q : Nat → Nat} (hn : n ≤ 16) (hk : k < n) (hq : PermN q n) (h : Looped n k q H B M (M k).length H' B' M') : Stepped n k q H B M H' B' M' := by
  have hqk := hq.2.2.1.1 k hk
  refine ⟨h.lv, h.pr, h.bd, h.ext, h.same, h.own, ?_, fun x hx h1 h2 s hs => ?_⟩
  · refine .step hk (Uc_mem.2 ⟨q k, hqk, h.way.1, rfl⟩) (h.lv.ones (n - (k + 1)) (k + 1) (by omega)) fun z hz => (h.way.2 z (by omega)).symm
  · by_cases c : x = q k
    · subst c
      obtain ⟨j, hj, rfl⟩ := List.getElem_of_mem hs
      refine (h.done j _ hj (List.getElem?_eq_getElem hj)).ext fun z hz => ?_
      rw [h.way.2 z (by omega)]
    · exact h.new x hx h1 h2 c s hs

/-- the loop of adding a maker -/
structure Adding (n k : Nat) (p : Nat → Nat) (H : Nat → Bool) (B : Nat → Nat) (M : Nat → List (Nat → Nat)) (i : Nat) (H' : Nat → Bool) (B' : Nat → Nat) (M' : Nat → List (Nat → Nat)) : Prop where
  lv : Lv n H' B' M'
  pr : Pr n H' B' M' (k + 1)
  bd : Bd M' H' (k + 1)
  ext : Ext n H B M H' B' M'
  same : ∀ j, j < k → LvSame n H B M H' B' M' j
  own : M' k = M k ++ [p]
  old : ∀ x, x < n → H' (k * 16 + x) = true → ∀ s ∈ M k, In n (Uc H' B' n) k (fun z => s (byF B' (k * 16 + x) z))
  new : ∀ x, x < n → H' (k * 16 + x) = true → (x < i ∨ H (k * 16 + x) = false) → In n (Uc H' B' n) k (fun z => p (byF B' (k * 16 + x) z))
theorem Adding.start {k : Nat} {p : Nat → Nat} (h : Lv n H B M) (hp : Pr n H B M k) (hb : Bd M H k) (hk : k < n) (hq : PermN p n) (fq : ∀ z, z < k → p z = z) (gq : ∀ j, k = j + 1 → Gen n (Mk n M j) p) :
    Adding n k p H B M 0 H B (rset M k (M k ++ [p])) := by
  have hmem : ∀ j, ∀ s ∈ M j, s ∈ rset M k (M k ++ [p]) j := fun j s hs => by
    unfold rset; split
    · rename_i e; subst e; exact List.mem_append_left _ hs
    · exact hs
  have hmm : ∀ j q, Gen n (Mk n M j) q → Gen n (Mk n (rset M k (M k ++ [p])) j) q := fun j q hg => hg.mono fun s hs => ⟨hs.1, hmem j s hs.2⟩
  have hcase : ∀ j s, s ∈ rset M k (M k ++ [p]) j → s ∈ M j ∨ (j = k ∧ s = p) := fun j s hs => by
    unfold rset at hs
    split at hs
    · rename_i e
      subst e
      rcases List.mem_append.1 hs with c | c
      · exact .inl c
      · exact .inr ⟨rfl, List.mem_singleton.1 c⟩
    · exact .inl hs
  have ne : ∀ j, j ≠ k → rset M k (M k ++ [p]) j = M j := fun j hj => by unfold rset; rw [if_neg hj]
  refine ⟨⟨fun k' x hk' hx hh => ?_, h.one, fun k' hk' s hs => ?_, fun k' hk' s hs => ?_, h.dom⟩, fun j x hj hjn hx hh s hs => ?_, fun j hj => ?_, ⟨fun _ h => h, fun _ _ _ _ _ _ _ => rfl, hmem⟩, fun j hj => ⟨ne j (by omega), fun _ _ => ⟨rfl, fun _ _ => rfl⟩⟩, by unfold rset; rw [if_pos rfl], fun x hx hh s hs => hp k x (Nat.le_refl _) hk hx hh s hs, fun x hx hh hc => ?_⟩
  · obtain ⟨w1, w2, w3, w4⟩ := h.way k' x hk' hx hh
    exact ⟨w1, w2, w3, hmm k' _ w4⟩
  · rcases hcase k' s hs with c | ⟨rfl, rfl⟩
    · exact h.mks k' hk' s c
    · exact ⟨hq, fq⟩
  · rcases hcase (k' + 1) s hs with c | ⟨e, rfl⟩
    · exact hmm k' s (h.down k' hk' s c)
    · exact hmm k' s (gq k' e.symm)
  · rw [ne j (by omega)] at hs
    exact hp j x (by omega) hjn hx hh s hs
  · rw [ne j (by omega)]
    exact hb j (by omega)
  · rcases hc with c | c
    · omega
    · rw [hh] at c; cases c
theorem Adding.skip {k i : Nat} {p : Nat → Nat} (h : Adding n k p H B M i H' B' M') (hh : H' (k * 16 + i) = false) : Adding n k p H B M (i + 1) H' B' M' :=
  ⟨h.lv, h.pr, h.bd, h.ext, h.same, h.own, h.old, fun x hx h1 h2 => by
    rcases h2 with c | c
    · rcases Nat.lt_or_ge x i with d | d
      · exact h.new x hx h1 (.inl d)
      · obtain rfl : x = i := by omega
        rw [hh] at h1; cases h1
    · exact h.new x hx h1 (.inr c)⟩
theorem Adding.next {k i : Nat} {p : Nat → Nat} (hn : n ≤ 16) (hk : k < n) (hi : i < n) (h : Adding n k p H B M i H' B' M') (hh : H' (k * 16 + i) = true)
    (st : Stepped n k (thenF (byF B' (k * 16 + i)) p n) H' B' M' H2 B2 M2) : Adding n k p H B M (i + 1) H2 B2 M2 := by
  have grow : ∀ x, x < n → H' (k * 16 + x) = true → ∀ s : Nat → Nat, In n (Uc H' B' n) k (fun z => s (byF B' (k * 16 + x) z)) → In n (Uc H2 B2 n) k (fun z => s (byF B2 (k * 16 + x) z)) := fun x hx hc s hin =>
    (In.ext' hn h.lv hin st.ext).ext fun z hz => by rw [st.ext.by' k x hk hx hc z (by omega)]
  have fresh : ∀ x, x < n → H2 (k * 16 + x) = true → H' (k * 16 + x) = false → ∀ s, s ∈ M k ++ [p] → In n (Uc H2 B2 n) k (fun z => s (byF B2 (k * 16 + x) z)) := fun x hx h1 hc s hs => st.new x hx h1 hc s (by rw [h.own]; exact hs)
  refine ⟨st.lv, st.pr, st.bd, h.ext.trans st.ext, fun j hj => (h.same j hj).trans (st.same j hj), st.own.trans h.own, fun x hx h1 s hs => ?_, fun x hx h1 h2 => ?_⟩
  · rcases hc : H' (k * 16 + x) with _ | _
    · exact fresh x hx h1 hc s (List.mem_append_left _ hs)
    · exact grow x hx hc s (h.old x hx hc s hs)
  · rcases hc : H' (k * 16 + x) with _ | _
    · exact fresh x hx h1 hc p (by simp)
    · by_cases e : x = i
      · subst e
        refine st.mem.ext fun z hz => ?_
        rw [thenF_at hz, st.ext.by' k x hk hx hc z (by omega)]
      · refine grow x hx hc p (h.new x hx hc ?_)
        rcases h2 with c | c
        · exact .inl (by omega)
        · exact .inr c
theorem Adding.end' {k : Nat} {p : Nat → Nat} (hn : n ≤ 16) (hk : k < n) (hl : Lv n H B M) (hb : Bd M H k) (hni : ¬ In n (Uc H B n) k p) (h : Adding n k p H B M n H' B' M') : Added n k p H B M H' B' M' := by
  have hpr : Pr n H' B' M' k := fun j x hj hjn hx hh s hs => by
    by_cases e : j = k
    · subst e
      rw [h.own] at hs
      rcases List.mem_append.1 hs with c | c
      · exact h.old x hx hh s c
      · rw [List.mem_singleton.1 c]; exact h.new x hx hh (.inl hx)
    · exact h.pr j x (by omega) hjn hx hh s hs
  have hmem : In n (Uc H' B' n) k p := by
    obtain ⟨o1, o2⟩ := h.lv.one k hk
    have hp := (h.lv.mks k hk p (by rw [h.own]; simp)).1.2.2.1
    refine (h.new k hk o1 (.inl hk)).ext fun z hz => ?_
    show p (byF B' (k * 16 + k) z) = p z
    rw [o2 z hz]
  have hbig : totH H 256 + 1 ≤ totH H' 256 := by
    refine Classical.byContradiction fun c => hni ?_
    have hs := totH_same h.ext.has 256 (by omega)
    -- nothing new: the ways are the old ones
    have back : ∀ {j r}, k ≤ j → In n (Uc H' B' n) j r → In n (Uc H B n) j r := by
      intro j r hj hin
      induction hin with
      | done e => exact .done e
      | step h1 h2 h3 h4 ih =>
        obtain ⟨x, hx, hh, rfl⟩ := Uc_mem.1 h2
        rw [hs _ (by omega)] at hh
        have hbij := h3.bij h.lv.ub
        refine .step h1 (Uc_mem.2 ⟨x, hx, hh, rfl⟩) (ih (by omega)) fun z hz => ?_
        rw [h4 z hz]
        exact h.ext.by' _ x h1 hx hh _ (by have := hbij.1 z hz; omega)
    exact back (Nat.le_refl _) hmem
  refine ⟨h.lv, hpr, fun j hj => ?_, h.ext, h.same, .inr h.own, hmem⟩
  by_cases e : j = k
  · subst e
    rw [h.own, List.length_append, List.length_singleton]
    have := hb j (Nat.le_refl _)
    omega
  · exact h.bd j (by omega)
end
end Go.Proofs.Ytlmhnimpglookaa

namespace Go.Proofs.Ytlmhnimpglookaa
open Go.RowKit

def hS (x : Nat) : Nat → Bool := fun j => decide (j % 16 = j / 16 ∧ j / 16 < x)
def bS (m x : Nat) : Nat → Nat := fun i => if i / 16 % 16 = i / 256 ∧ i / 256 < x then sameF m (i % 16) else 0
theorem hS_step {x : Nat} (hx : x < 16) : hset (hS x) (x * 16 + x) true = hS (x + 1) := by
  funext j
  unfold hset hS
  by_cases c : j = x * 16 + x
  · subst c; rw [if_pos rfl]; exact (decide_eq_true (by omega)).symm
  · rw [if_neg c]; exact decide_eq_decide.2 (by omega)
theorem bS_step {m x : Nat} (hx : x < 16) : bset (bS m x) (x * 16 + x) (sameF m) = bS m (x + 1) := by
  funext i
  unfold bset bS
  by_cases c : (x * 16 + x) * 16 ≤ i ∧ i < (x * 16 + x) * 16 + 16
  · have e1 : i / 16 = x * 16 + x := by omega
    have e2 : i / 256 = x := by omega
    rw [if_pos c, if_pos (by rw [e1, e2]; omega), show i % 16 = i - (x * 16 + x) * 16 by omega]
  · rw [if_neg c]
    by_cases d : i / 16 % 16 = i / 256 ∧ i / 256 < x
    · rw [if_pos d, if_pos ⟨d.1, by omega⟩]
    · rw [if_neg d, if_neg (fun h => ?_)]
      by_cases e : i / 256 = x
      · have e1 : i / 16 = x * 16 + x := by
          have h1 := h.1
          rw [e] at h1
          have h2 : i / 16 / 16 = x := by rw [Nat.div_div_eq_div_mul]; exact e
          omega
        exact c (by omega)
      · exact d ⟨h.1, by omega⟩
/-- the rows of a chain's generators -/
def gRows (G : Nat → Value) (M : Nat → List (Nat → Nat)) : List Part := (List.range 16).map fun k => pPl (G k) (M k)
theorem gRows_nil : gRows (fun _ => .slice none 0 0) (fun _ => []) = List.replicate 16 (pPl (.slice none 0 0) []) := by
  apply List.ext_getElem?
  intro i
  unfold gRows
  rw [List.getElem?_map, List.getElem?_replicate]
  rcases Nat.lt_or_ge i 16 with c | c
  · rw [if_pos c, List.getElem?_range c]; rfl
  · rw [if_neg (by omega), List.getElem?_eq_none (by rw [List.length_range]; exact c)]; rfl

set_option maxRecDepth 100000 in
set_option maxHeartbeats 1000000 in
theorem l03Start_any (m : Nat) (hm : m ≤ 16) (w : World) :
    Calls Try.prog 105 #[.int .i64 m] w fun e w' => ∃ g, e = .returned (.pointer (some ⟨g, 0, none⟩)) ∧ Holds w w' (pBlk g (chv m (fun _ => .slice none 0 0) (hS m) (bS m m)) 93 :: gRows (fun _ => .slice none 0 0) (fun _ => [])) := by
  have C1 := hide fun w => sSame_any m hm w
  have hh0 : hS 0 = fun _ => false := by funext j; unfold hS; simp
  have hb0 : bS m 0 = fun _ => 0 := by funext j; unfold bS; simp
  have HH : Holds w (w.alloc (.cells (chv m (fun _ => .slice none 0 0) (fun _ => false) (fun _ => 0)) 93)) (pBlk w.heap.size (chv m (fun _ => .slice none 0 0) (hS 0) (bS m 0)) 93 :: gRows (fun _ => .slice none 0 0) (fun _ => [])) := by
    rw [gRows_nil, hh0, hb0]
    exact ((Holds.start w).blk _ _ _ rfl).nils w 16
  clear hh0 hb0
  go_enter Try.func105, Try.ntmps105
  go_wp2
  generalize w.alloc (.cells (chv m (fun _ => .slice none 0 0) (fun _ => false) (fun _ => 0)) 93) = w1 at *
  generalize w.heap.size = g at *
  go_loopw [4] (fun t wr => ∃ x : Nat, x ≤ m ∧ t = .int .i64 x ∧ Holds w wr (pBlk g (chv m (fun _ => .slice none 0 0) (hS x) (bS m x)) 93 :: gRows (fun _ => .slice none 0 0) (fun _ => []))) (fun t _ => m - (intOf t).toNat)
  case atStart => exact ⟨0, by omega, rfl, HH⟩
  case round =>
    clear HH
    obtain ⟨x, hx, rfl, hH⟩ := hrel
    by_cases hxm : x < m
    · have hx16 : (x : Int) < 16 := by omega
      have hxm' : (x : Int) < m := by omega
      have hj : x * 16 + x < 256 := by omega
      have c0 : wr.cell? ⟨g, 17 + x * 16 + x, none⟩ = some (.bool (hS x (x * 16 + x))) := by rw [Nat.add_assoc]; exact hH.cell 0 rfl (chv_has m _ (hS x) (bS m x) hj)
      have f0 := hH.frozen 0 rfl (17 + x * 16 + x)
      have h1 := hH.set 0 rfl (17 + (x * 16 + x)) (.bool true)
      rw [chv_setHas m _ _ _ hj, hS_step (by omega)] at h1
      have h2 : Holds w (wr.setCell ⟨g, 17 + x * 16 + x, none⟩ (.bool true)) (pBlk g (chv m (fun _ => .slice none 0 0) (hS (x + 1)) (bS m x)) 93 :: gRows (fun _ => .slice none 0 0) (fun _ => [])) := by rw [Nat.add_assoc]; exact h1
      have hbs := bS_step (m := m) (x := x) (by omega)
      have HBS := hide hbs; clear hbs h1 hH
      go_wp2
      clear c0 f0
      generalize wr.setCell ⟨g, 17 + x * 16 + x, none⟩ (.bool true) = w2 at *
      refine region_tail (fun wx => Holds w wx _) 9 (by kernel_rfl) (by kernel_rfl) h2.drew ?_
      simp only [List.take_succ_cons, List.take_zero, List.drop_succ_cons, List.drop_zero]
      iterate 4
        apply q_step
        · go_simp
        · intro wx hx
          go_simp
          try exact rfl
      iterate 1
        apply q_step
        · go_simp
        · intro wx hx
          go_simp
          exact Calls.mono (C1.out wx) fun e w' h => ⟨h.1, hx.call h.2⟩
      iterate 4
        apply q_step
        · go_simp
        · intro wx hx
          go_simp
          try exact rfl
      refine wpQuiet_nil ?_
      intro w4 H4
      have rr := H4.rowOk 0 rfl (chv_size _ _ _ _)
      have sb := run_storeBy rr (H4.cells 0 rfl) hj (sameF m)
      rw [HBS.out] at sb
      rw [show 273 + (x * 16 + x) * 16 = 273 + x * 256 + x * 16 by omega] at sb
      have H5 := H4.setRow 0 rfl (chv m (fun _ => .slice none 0 0) (hS (x + 1)) (bS m (x + 1)))
      clear rr
      go_wp2
      go_roundw
      case rel => exact ⟨x + 1, by omega, by go_num, H5⟩
      case measure => simp [intOf]; omega
    · obtain rfl : x = m := by omega
      clear hxm hx
      go_wp2
      go_ret
      exact ⟨g, rfl, hH⟩
end Go.Proofs.Ytlmhnimpglookaa
