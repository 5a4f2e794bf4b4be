/- Texts put together: RegT, RegS, SCyc, Cnt, Boc, Slc, Pcs, Face, PF, Trio, Two, Cyq, Spt, RegC, Pr -/
import Derived.Test.YtmapjjfefjoemaaQdLawIsUnbranched
import Derived.Test.YtmapjjfefjoemaaChecked
import Derived.WalkKit
import Derived.WalkSpells
import Derived.WalkLawsBesides
import Derived.Deep.LoopGhost
import Derived.Deep.OwnRows
import Derived.Laws.Rows
import Derived.Laws.Tables
import Derived.Laws.CopyOwn
import Derived.ProofKit
import Derived.OpenShut
import Derived.ShutString
import Derived.ChangeOld
import Derived.Below
import Derived.Laws.OwnMore
import Derived.BigQuiet
import Derived.Deep.QuietTactic
import Derived.OwnWalk
import Derived.ChangeSlices
import Derived.RegionTactic
import Derived.Deep.Quiet
import Derived.StillTail
import Derived.Deep.Slices
import Derived.WideShapes
import Derived.Laws.CopyRow
import Derived.Deep.MidRow
import Derived.Deep.RegionWith
import Derived.ChangeKeysEq
import Derived.StillTailTactics
import Derived.Deep.RegionHeld3
import Derived.DataElems
namespace Go.Proofs.Ytmapjjfefjoemaa.Rd
open Go.RowKit

section
variable (P : Program) (md : Region.Mode) (ops : Array Oper) (C : World → Prop) (E : Nat → Bool) (K : Act → World → Prop)

/-- k operations more, all below n, whichever comes up; then L -/
def anyT (n : Nat) (L : Array Bool → Act → (World → Prop) → Prop) : Nat → Array Bool → Act → (World → Prop) → Prop
  | 0, done, a, D => L done a D
  | k + 1, done, a, D => Region.ready md ops done ≠ [] ∧ ∀ i ∈ Region.ready md ops done, i < n ∧ opV P ops C E i (anyT n L k (done.setIfInBounds i true)) a D

theorem anyT_any (hC : ∀ w w', C w → Below w.heap.size w w' → C w') {n g : Nat} {L : Array Bool → Act → (World → Prop) → Prop} {Q : Exit → Act → World → Prop} (hL : ∀ done a D w, C w → D w → L done a D → wpAny P md ops Q g done a w) (k : Nat) :
    ∀ (done : Array Bool) (a : Act) (D : World → Prop) (w : World), Stable D → C w → D w → anyT P md ops C E n L k done a D → wpAny P md ops Q (k + g) done a w := by
  induction k with
  | zero => intro done a D w _ hw hDw h; rw [Nat.zero_add]; exact hL _ _ _ _ hw hDw h
  | succ k ih =>
    intro done a D w hD hw hDw h
    rw [show k + 1 + g = (k + g) + 1 by omega]
    exact ⟨fun e => absurd e h.1, fun i hi => op_sound P ops C E hC hD hw hDw (fun a' D' w' h1 h2 h3 h4 => ih _ a' D' w' h1 h2 h3 h4) (h.2 i hi).2⟩

theorem anyT_first {n i : Nat} {o : Oper} {v : Value} {L : Array Bool → Act → (World → Prop) → Prop} (hi : ops[i]? = some o) (hE : E i = false) (hsel : ∀ (j : Nat) (o : Oper) cs b, ops[j]? = some o → o.op ≠ .select cs b)
    (hs : Region.sinkB md ops n = true) (hc : Region.chainB md ops n = true) (hn : n < ops.size) (hin : i < n) (hdone : ∀ done a D, L done a D → ∀ j ∈ Region.ready md ops done, n ≤ j) (k : Nat) :
    ∀ (done : Array Bool) (a : Act) (D : World → Prop), HeadInv md ops n done →
      (∀ j oj, ops[j]? = some oj → j ≠ i → done.getD j true = false → (∀ e ∈ oj.after, Region.binds md e = true → e.on ≠ i) → o.apart ops oj = true) →
      i ∈ Region.ready md ops done → YieldsG P ops C o v a →
      anyT P md ops C E n L k (done.setIfInBounds i true) (a.put o.dst v) D → anyT P md ops C E n L (k + 1) done a D := by
  have low : ∀ (done : Array Bool), HeadInv md ops n done → i ∈ Region.ready md ops done → ∀ j ∈ Region.ready md ops done, j < n := by
    intro done inv hr j hj
    rcases Nat.lt_or_ge j n with h | h
    · exact h
    · exact absurd hj (tail_waits hs hc hn inv _ i rfl hin (mem_ready.1 hr).1 j h)
  have some_ready : ∀ (done : Array Bool), i ∈ Region.ready md ops done → Region.ready md ops done ≠ [] := fun done hr e => by rw [e] at hr; cases hr
  induction k with
  | zero =>
    intro done a D inv _ hr hy H
    refine ⟨some_ready done hr, fun j hj => ⟨low done inv hr j hj, ?_⟩⟩
    by_cases e : j = i
    · subst e; exact hy.op P ops C E hi hE H
    · have := hdone _ _ _ H j (ready_mono hj e)
      have := low done inv hr j hj
      omega
  | succ k ih =>
    intro done a D inv hfree hr hy H
    refine ⟨some_ready done hr, fun j hj => ⟨low done inv hr j hj, ?_⟩⟩
    by_cases e : j = i
    · subst e; exact hy.op P ops C E hi hE H
    · obtain ⟨hjun, oj, hoj, hall⟩ := mem_ready.1 hj
      have hun := (mem_ready.1 hr).1
      have hno : ∀ e ∈ oj.after, Region.binds md e = true → e.on ≠ i := fun e he hb h => by
        have := hall e he hb
        rw [h, getD_both hun] at this
        cases this
      refine opV_mono P ops C E (fun a' D' h3 => ih (done.setIfInBounds j true) a' D' (inv.set hj (low done inv hr j hj)) (fun k' ok hk hki hk' hnk => hfree k' ok hk hki ?_ hnk) (ready_mono hr (Ne.symm e)) h3.1 ?_)
        (opV_put P ops C E hoj (hfree j oj hoj e hjun hno) (fun cs b => hsel i o cs b hi) (fun cs b => hsel j oj cs b hoj) hy (H.2 j (ready_mono hj e)).2)
      · by_cases e' : j = k'
        · subst e'; exact hjun
        · rw [getD_set_ne true e'] at hk'; exact hk'
      · rw [Array.setIfInBounds_comm _ _ e]; exact h3.2

/-- a plan of the head, and that the tail is forced -/
def planT (sp : List Nat) (n g : Nat) : Plan → Nat → Array Bool → Bool
  | .fin, k, done => decide (k = 0) && Region.seqB md ops g n done
  | .q i p, k, done => !sp.contains i && ((Region.ready md ops done).contains i && Region.free md ops done i && (decide (i < ops.size) && (decide (i < n) && (decide (0 < k) && planT sp n g p (k - 1) (done.setIfInBounds i true)))))
  | .s1 i p, k, done => decide (Region.ready md ops done = [i]) && (decide (i < n) && (decide (0 < k) && planT sp n g p (k - 1) (done.setIfInBounds i true)))
  | .s2 _ _ _ _, _, _ => false
  | .s3 _ _ _ _ _ _, _, _ => false

theorem anyT_walk (hsel : Region.noSelect ops = true) (sp : List Nat) (hsp : ∀ k, sp.contains k = false → E k = false) {n g : Nat} (hs : Region.sinkB md ops n = true) (hc : Region.chainB md ops n = true) (hn : n < ops.size) (p : Plan) :
    ∀ (k : Nat) (done : Array Bool) (a : Act) (D : World → Prop), HeadInv md ops n done → planT md ops sp n g p k done = true → walkV P ops C E K p a D →
      anyT P md ops C E n (fun done' a' D' => Region.seqB md ops g n done' = true ∧ ∀ w, C w → D' w → K a' w) k done a D := by
  induction p with
  | fin =>
    intro k done a D _ hB h
    simp only [planT, Bool.and_eq_true, decide_eq_true_eq] at hB
    obtain ⟨rfl, hB⟩ := hB
    exact ⟨hB, h⟩
  | q i p ih =>
    intro k done a D inv hB h
    simp only [planT, Bool.and_eq_true, decide_eq_true_eq, Bool.not_eq_true'] at hB
    obtain ⟨hcn, ⟨hr, hfree⟩, hk, hin, h0, hB'⟩ := hB
    obtain ⟨j, rfl⟩ : ∃ j, k = j + 1 := ⟨k - 1, by omega⟩
    have hE := hsp i hcn
    have hr' : i ∈ Region.ready md ops done := by simpa using hr
    have hi : ops[i]? = some ops[i] := Array.getElem?_eq_getElem hk
    obtain ⟨v, hy, hK⟩ := yieldsG_of P ops C E hi hE h
    exact anyT_first P md ops C E hi hE (Region.noSelect_spec hsel) hs hc hn hin (fun done' a' D' hL => seqB_ready hL.1) j done a D inv (Region.free_spec hi hfree) hr' hy (ih _ _ _ _ (inv.set hr' hin) hB' hK)
  | s1 i p ih =>
    intro k done a D inv hB h
    simp only [planT, Bool.and_eq_true, decide_eq_true_eq] at hB
    obtain ⟨hr, hin, h0, hB'⟩ := hB
    obtain ⟨j, rfl⟩ : ∃ j, k = j + 1 := ⟨k - 1, by omega⟩
    refine ⟨fun e => (by rw [hr] at e; cases e), fun i' hi => ?_⟩
    have hi0 := hi
    rw [hr] at hi
    obtain rfl : i' = i := by simpa using hi
    exact ⟨hin, opV_mono P ops C E (fun a' D' h' => ih _ _ _ _ (inv.set hi0 hin) hB' h') h⟩
  | s2 => intro k done a D _ hB; simp [planT] at hB
  | s3 => intro k done a D _ hB; simp [planT] at hB
end
def tailB (l : List Oper) (sp : List Nat) (n : Nat) (p : Plan) : Bool :=
  Region.noSelect l.toArray && (decide (n < l.length) && (Region.sinkB .any l.toArray n && (Region.chainB .any l.toArray n && planT .any l.toArray sp n (l.toArray.size - n) p n (Array.replicate l.toArray.size false))))
/-- a region by parts of memory, with a forced tail -/
theorem region_PT {P : Program} {id : Nat} {Q : Exit → Act → World → Prop} {a : Act} {w w0 : World} {l : List Oper} (L : List Part) (L1 : List Part) (sp : List Nat) (n : Nat) (p : Plan) (H : Holds w0 w L1) (hL : L.Sublist L1)
    (hm : P.follows .mixedOrders = true) (hB : tailB l sp n p = true)
    (h : walkV P l.toArray (fun wx => Holds w0 wx L) (fun k => sp.contains k) (fun a' w' => wpList P l.toArray Q (l.drop n) a' w') p a (fun wx => Holds w0 wx L1)) : (Code.region id l.toArray true).wp P Q a w := by
  simp only [tailB, Bool.and_eq_true, decide_eq_true_eq] at hB
  obtain ⟨hsel, hn, hs, hc, hplan⟩ := hB
  have hd : (l.drop n).length = l.toArray.size - n := by simp
  have hn' : n < l.toArray.size := by simpa using hn
  have X := anyT_walk P .any l.toArray (fun wx => Holds w0 wx L) (fun k => sp.contains k) (fun a' w' => wpList P l.toArray Q (l.drop n) a' w') hsel sp (fun _ h => h) hs hc hn' p n (Array.replicate l.toArray.size false) a (fun wx => Holds w0 wx L1)
    ⟨by simp, fun j oj _ e => (by rw [getD_replicate_false] at e; cases e), fun t _ e => getD_in (by simpa using e) (getD_replicate_false _ _)⟩ hplan h
  refine wp_region_any hm ?_
  have := anyT_any P .any l.toArray (fun wx => Holds w0 wx L) (fun k => sp.contains k) (fun _ _ h hb => h.call hb) (Q := Q) (g := l.toArray.size - n) (fun done a' D' w' hw' hDw' hL' => by
    have := wpAny_of_seq (md := .any) (Q' := Q) (l.drop n) n done a' w' (fun j => by simp [List.getElem?_drop]) (by rw [hd]; exact hL'.1) (hL'.2 w' hw' hDw')
    rwa [hd] at this) n (Array.replicate l.toArray.size false) a (fun wx => Holds w0 wx L1) w.drew (fun _ _ h hb => h.call hb) (H.drew.sub hL) H.drew X
  rw [show n + (l.toArray.size - n) = l.toArray.size by omega] at this
  exact this
end Go.Proofs.Ytmapjjfefjoemaa.Rd

namespace Go.Proofs.Ytmapjjfefjoemaa.Rd
open Go.RowKit
section
variable {P : Program} {ops : Array Oper} {E : Nat → Bool} {k : Nat} {a : Act} {N : Act → (World → Prop) → Prop} {w0 : World} {L L1 : List Part}
theorem v_put {o : Oper} (i g : Nat) (cs cs' : Array Value) (t : TypeId) (hi : L1[i]? = some (pBlk g cs t)) (hsub : L.Sublist (L1.set i (pBlk g cs' t))) (ho : ops[k]? = some o) (hE : E k = true) (hw : Region.wanted o (yielded ops a.tmps) = true)
    (h1 : ∀ w, Holds w0 w L → Holds w0 w L1 → (execOp a.eval o).run P w = .ok .skip (w.setRow g cs'))
    (h2 : N (a.put o.dst undef) (fun wx => Holds w0 wx (L1.set i (pBlk g cs' t)))) : opV P ops (fun wx => Holds w0 wx L) E k N a (fun wx => Holds w0 wx L1) := by
  refine v_s (fun u w => u = undef ∧ Holds w0 w (L1.set i (pBlk g cs' t))) (fun _ _ _ h hb => ⟨h.1, h.2.call hb⟩) ho hE hw (fun w hx hD => ?_) fun v hv => ?_
  · rw [h1 w hx hD]
    exact ⟨(hD.setRow i hi cs').sub hsub, rfl, hD.setRow i hi cs'⟩
  · obtain ⟨w, _, rfl, hr⟩ := hv
    refine cast (congrArg (N _) ?_) h2
    funext wx
    exact propext ⟨fun h => ⟨rfl, h⟩, fun h => h.2⟩
end
theorem region_R1 {P : Program} {id : Nat} {Q : Exit → Act → World → Prop} {a : Act} {w w0 : World} {l : List Oper} (L : List Part) (L1 : List Part) (sp : List Nat) (p : Plan) (H : Holds w0 w L1) (hL : L.Sublist L1)
    (hm : P.follows .mixedOrders = true) (hsel : Region.noSelect l.toArray = true) (hB : planB .any l.toArray sp l.toArray.size p (Array.replicate l.toArray.size false) = true)
    {α : Type} (F : α → List Part) (act : α → Act)
    (h : ∀ K : Act → World → Prop, (∀ g wx, Holds w0 wx (F g) → K (act g) wx) → walkV P l.toArray (fun wx => Holds w0 wx L) (fun k => sp.contains k) K p a (fun wx => Holds w0 wx L1))
    (key : ∀ g wx, Holds w0 wx (F g) → Q .normal (act g) wx) : (Code.region id l.toArray true).wp P Q a w :=
  region_P L L1 sp p H hL hm hsel hB (h (fun a' w' => Q .normal a' w') key)
theorem region_R2 {P : Program} {id : Nat} {Q : Exit → Act → World → Prop} {a : Act} {w w0 : World} {l : List Oper} (L : List Part) (L1 : List Part) (sp : List Nat) (p : Plan) (H : Holds w0 w L1) (hL : L.Sublist L1)
    (hm : P.follows .mixedOrders = true) (hsel : Region.noSelect l.toArray = true) (hB : planB .any l.toArray sp l.toArray.size p (Array.replicate l.toArray.size false) = true)
    {α β : Type} (F : α → β → List Part) (act : α → β → Act)
    (h : ∀ K : Act → World → Prop, (∀ g g' wx, Holds w0 wx (F g g') → K (act g g') wx) → walkV P l.toArray (fun wx => Holds w0 wx L) (fun k => sp.contains k) K p a (fun wx => Holds w0 wx L1))
    (key : ∀ g g' wx, Holds w0 wx (F g g') → Q .normal (act g g') wx) : (Code.region id l.toArray true).wp P Q a w :=
  region_P L L1 sp p H hL hm hsel hB (h (fun a' w' => Q .normal a' w') key)
theorem region_R3 {P : Program} {id : Nat} {Q : Exit → Act → World → Prop} {a : Act} {w w0 : World} {l : List Oper} (L : List Part) (L1 : List Part) (sp : List Nat) (p : Plan) (H : Holds w0 w L1) (hL : L.Sublist L1)
    (hm : P.follows .mixedOrders = true) (hsel : Region.noSelect l.toArray = true) (hB : planB .any l.toArray sp l.toArray.size p (Array.replicate l.toArray.size false) = true)
    {α β γ : Type} (F : α → β → γ → List Part) (act : α → β → γ → Act)
    (h : ∀ K : Act → World → Prop, (∀ g g' g'' wx, Holds w0 wx (F g g' g'') → K (act g g' g'') wx) → walkV P l.toArray (fun wx => Holds w0 wx L) (fun k => sp.contains k) K p a (fun wx => Holds w0 wx L1))
    (key : ∀ g g' g'' wx, Holds w0 wx (F g g' g'') → Q .normal (act g g' g'') wx) : (Code.region id l.toArray true).wp P Q a w :=
  region_P L L1 sp p H hL hm hsel hB (h (fun a' w' => Q .normal a' w') key)
end Go.Proofs.Ytmapjjfefjoemaa.Rd

namespace Go.Proofs.Ytmapjjfefjoemaa
open Go.RowKit

set_option maxRecDepth 100000 in
set_option maxHeartbeats 1000000 in
theorem sCycles_any (p : Nat → Nat) (m : Nat) (hp : PermN p m) (w : World) :
    Calls Try.prog 67 #[.agg (av p), .int .i64 m] w fun e w' => ∃ v, e = .returned v ∧ Below w.heap.size w w' ∧ Own2 w.heap.size w' v (cycs p m) := by
  obtain ⟨hm1, hm2, hbij, _⟩ := hp
  have HB := hide hbij; clear hbij
  obtain ⟨i0, hi, hz0, hz1, hz2⟩ := info_parts info64
  obtain ⟨j0, hj, hy0, hy1, hy2⟩ := info_parts infoSl
  have I0 := hide (And.intro hi (And.intro hz0 (And.intro hz1 hz2))); clear hi hz0 hz1 hz2
  have J0 := hide (And.intro hj (And.intro hy0 (And.intro hy1 hy2))); clear hj hy0 hy1 hy2
  go_enter Try.func67, Try.ntmps67
  go_wp2
  rw [← bv_false]
  go_loopw [5, 7] (fun out i wr => ∃ k : Nat, k ≤ m ∧ i = .int .i64 k ∧ Below w.heap.size w wr ∧ cellsOf wr w.heap.size = av p ∧ wr.heap[w.heap.size + 1 + 1]? = some (.cells (bv (cycs.met p k)) 85 (0, 0)) ∧ Own2 (w.heap.size + 1) wr out (cycs p k))
    (fun _ i _ => m - (intOf i).toNat)
  case atStart =>
    refine ⟨0, by omega, rfl, below3 _ _ _ _, cellsOf_heap (heap2 rfl), heap_at _ _ _ (by simp), [], rfl, ?_, fun i u l h => by simp at h, fun i j u u' _ h => by simp at h⟩
    have h := (own_empty (w.alloc (.cells (av p) 29)) 25 1 (w.heap.size + 1) (by simp)).alloc (.cells (bv fun _ => false) 85)
    simp only [World.size_alloc] at h
    exact h
  case round =>
    obtain ⟨k, hk, rfl, hb, hcp, hhm, hown⟩ := hrel
    by_cases hlt : k < m
    · have hlt16 : k < 16 := by omega
      have l1 : w.heap.size + 1 + 1 < wr.heap.size := by
        rcases Nat.lt_or_ge (w.heap.size + 1 + 1) wr.heap.size with c | c
        · exact c
        · rw [Array.getElem?_eq_none c] at hhm; cases hhm
      obtain ⟨J, hJ16, hJf, hJt, hJc, hJm⟩ := cyc_J HB.out hm2 hlt
      have HC := hide hcp; clear hcp
      have HM := hide hhm; clear hhm
      have HJf := hide hJf; clear hJf
      have HJt := hide hJt; clear hJt
      have HJc := hide hJc; clear hJc
      have HJm := hide hJm; clear hJm
      go_wp2
      obtain ⟨wo, rfl⟩ : ∃ wo : World, wo = wr := ⟨_, rfl⟩
      go_loopg [8, 9] J (fun gd own x wr => ∃ j : Nat, j ≤ J ∧ gd = J - j ∧ x = .int .i64 (it p j k) ∧ it p j k < m ∧ Own1 wo.heap.size wr own (orbTo p k j) ∧
          cellsOf wr w.heap.size = av p ∧ wr.heap[w.heap.size + 1 + 1]? = some (.cells (bv (Mj p (cycs.met p k) k j)) 85 (0, 0)) ∧ wo.grownBy wr (some (w.heap.size + 1 + 1)))
      case atStart => exact ⟨0, by omega, by omega, rfl, hlt, own_empty wo 2 1 _ (Nat.le_refl _), by rw [cellsOf_past (by omega)]; exact HC.out, by rw [heap_past _ _ _ l1, Mj_zero]; exact HM.out, grown_alloc (grown_refl _ _) _⟩
      case round =>
        obtain ⟨j, hj, rfl, rfl, hx, hown1, hcp1, hhm1, hg1⟩ := hrel
        have HCP := hide hcp1; clear hcp1
        have hszs : wo.heap.size ≤ wr.heap.size := hg1.size
        have hcm1 : cellsOf wr (w.heap.size + 1 + 1) = bv (Mj p (cycs.met p k) k j) := cellsOf_heap hhm1
        have HCM := hide hcm1; clear hcm1
        have HH := hide hhm1; clear hhm1
        by_cases hjp : j < J
        · have c0 : wr.cell? ⟨w.heap.size + 1 + 1, it p j k, none⟩ = some (.bool false) := by rw [cell_of_cells, HCM.out, bv_get _ (by omega), HJf.out j hjp]
          have f0 : wr.frozen? ⟨w.heap.size + 1 + 1, it p j k, none⟩ = false := by have := HH.out; simp [World.frozen?, this]
          generalize hX : it p j k = X at *
          have HX := hide hX; clear hX
          have hownA : (wr.setCell ⟨w.heap.size + 1 + 1, X, none⟩ (.bool true)).ownsRow wo.heap.size 2 1 u8 (orbTo p k j).length (nums (orbTo p k j)) := ownsRow_setCell_below hown1 (by show w.heap.size + 1 + 1 < wo.heap.size; omega) _
          have hlen : (orbTo p k j).length = j := orbTo_length p k j
          have HL := hide hlen; clear hlen
          have hX16 : X < 16 := by omega
          go_wp2_with (at_builtin; refine wpList_append_own _ rfl _ _ 25 rfl wo.heap.size 2 i0 (.int .i64 0) 1 8 Try.underlying25 I0.out.1 I0.out.2.1 I0.out.2.2.1 I0.out.2.2.2 rfl (by decide) _ _ _ rfl (hownA.alloc _) ⟨wr.heap.size, 0, none⟩ 1 1 [.int .i64 X] rfl rfl ?c1 ?c2 ?c3 ?c4 ?c5 ?_)
          case c1 => exact one_new _ _ _ _ (by simp)
          case c2 => intro u hu; simp at hu; subst hu; rfl
          case c3 => rw [HL.out]; unfold maxLen; omega
          case c4 => rw [HL.out]; omega
          case c5 => simp; omega
          intro v' w1 hown' hg' _
          have hrow : ∀ g, u8.ownBlock = some g → wo.heap.size ≤ g := fun g hg => (hownA.lt g hg).1
          have G0 := grown_alloc (grown_setCell (i := X) (v := .bool true) hg1) (.cells #[.int .i64 X] 2)
          have G1 := grown_step G0 hg' (fun g hg => .inl (hrow g hg))
          have hpc : cellsOf w1 w.heap.size = av p := by
            rw [grown_cells hg' (by simp; omega) (fun e => by have := hrow _ e.symm; omega), cellsOf_past (by simp; omega), cellsOf_setCell_ne (by omega)]; exact HCP.out
          have hmc : w1.heap[w.heap.size + 1 + 1]? = some (.cells (bv (Mj p (cycs.met p k) k (j + 1))) 85 (0, 0)) := by
            rw [hg'.block _ (by simp; omega) (fun e => by have := hrow _ e.symm; omega), heap_past _ _ _ (by simp; omega), heap_setCell_same _ _ _ _ _ _ HH.out, bv_set, ← HX.out, Mj_step]
          have hpx : p X < m := HB.out.1 X hx
          have c2 : w1.cell? ⟨w.heap.size, X, none⟩ = some (.int .u8 (p X)) := by rw [cell_of_cells, hpc, av_get p hX16]
          have hO : Own1 wo.heap.size w1 v' (orbTo p k (j + 1)) := by
            rw [orbTo_step, HX.out]
            unfold Own1 nums at *
            simpa using hown'
          have hit : it p (j + 1) k = p X := by rw [← HX.out]; rfl
          have H1 := hide hpc; clear hpc
          have H2 := hide hmc; clear hmc
          have HIT := hide hit; clear hit
          clear hown' hg' G0 hownA hrow c0 f0
          go_wp2
          go_roundg (J - (j + 1))
          case measure => omega
          case rel => exact ⟨j + 1, by omega, rfl, by rw [HIT.out], by rw [HIT.out]; exact hpx, hO, H1.out, H2.out, G1⟩
        · obtain rfl : j = J := by omega
          have hX16 : it p j k < 16 := by omega
          have c0 : wr.cell? ⟨w.heap.size + 1 + 1, it p j k, none⟩ = some (.bool true) := by rw [cell_of_cells, HCM.out, bv_get _ hX16, HJt.out]
          obtain ⟨A, cc, rfl⟩ := own_slice hown1
          have hll : (orbTo p k j).length = j := orbTo_length p k j
          rw [hll]
          have HL := hide hll; clear hll
          have hbr : Below w.heap.size w wr := hb.grown hg1 hb.size (fun g hg => by simp at hg; omega)
          obtain ⟨vs, hvl, ho0, hi0, hd0⟩ := hown
          have hC : ∀ (i : Nat) (x : Value), vs[i]? = some x → ∀ g, x.ownBlock = some g → g < wo.heap.size := by
            intro i x hx1 g hg
            have : i < (cycs p k).length := by rw [← hvl]; exact (List.getElem?_eq_some_iff.1 hx1).1
            exact (World.ownsRow.lt (hi0 i x _ hx1 (List.getElem?_eq_getElem this)) g hg).2
          have hk2 : Own2 (w.heap.size + 1) wr u5 (cycs p k) := Own2.keptBlk ⟨vs, hvl, ho0, hi0, hd0⟩ hg1 HM.out (by decide) (by decide)
          have ho1 := ho0.kept hg1 (own_ne_blk ho0 HM.out (by decide))
          have hi1 : ∀ (i : Nat) (u : Value) (l : List Nat), vs[i]? = some u → (cycs p k)[i]? = some l → Own1 (w.heap.size + 1) wr u l := fun i u l h1 h2 => (hi0 i u l h1 h2).kept hg1 (own_ne_blk (hi0 i u l h1 h2) HM.out (by decide))
          have hvs16 : vs.length ≤ 16 := by rw [hvl]; exact cycs_len_le HB.out hm2 (by omega)
          have HVL := hide hvl; clear hvl
          have HI := hide hi1; clear hi1 hi0
          have HD := hide hd0; clear hd0
          have HCC := hide hC; clear hC
          have HO := hide hk2; clear hk2
          clear ho0
          by_cases hj0 : j = 0
          · have H00 := hide hj0
            have hd : decide (0 < j) = false := by simp; omega
            clear hj0
            go_wp2
            go_roundw
            case rel => exact ⟨k + 1, by omega, by go_num, hbr, HCP.out, by rw [HJm.out]; exact HH.out, by rw [HJc.out, if_pos H00.out]; exact HO.out⟩
            case measure => simp [intOf]; omega
          · have hd : decide (0 < j) = true := by simp; omega
            have hjp0 : 0 < j := by omega
            go_wp2_with (at_builtin; refine wpList_append_own _ rfl _ _ 26 rfl (w.heap.size + 1) 25 j0 (.slice none 0 0) 1 24 Try.underlying26 J0.out.1 J0.out.2.1 J0.out.2.2.1 J0.out.2.2.2 rfl (by decide) _ _ _ rfl (ho1.alloc _) ⟨wr.heap.size, 0, none⟩ 1 1 [.slice A j cc] rfl rfl ?d1 ?d2 ?d3 ?d4 ?d5 ?_)
            case d1 => exact one_new _ _ _ _ (by simp)
            case d2 => intro u hu; simp at hu; subst hu; rfl
            case d3 => unfold maxLen; omega
            case d4 => omega
            case d5 => simp; omega
            intro v' w1 hown' hg' _
            have hrow : ∀ g, u5.ownBlock = some g → w.heap.size + 1 ≤ g := fun g hg => (ho1.lt g hg).1
            have hnm := own_ne_blk ho1 HH.out (by decide)
            have hpc : cellsOf w1 w.heap.size = av p := by
              rw [grown_cells hg' (by simp; omega) (fun e => by have := hrow _ e.symm; omega), cellsOf_past (by omega)]; exact HCP.out
            have hmc : w1.heap[w.heap.size + 1 + 1]? = some (.cells (bv (cycs.met p (k + 1))) 85 (0, 0)) := by
              rw [hg'.block _ (by simp; omega) (fun e => by rcases hnm with c | c; rw [c] at e; cases e; exact c e.symm), heap_past _ _ _ (by omega), HJm.out]; exact HH.out
            have hbw : Below w.heap.size w w1 := (hbr.alloc hbr.size _).grown hg' (by have := hbr.size; simp; omega) (fun g hg => by have := hrow g hg; omega)
            have hOO : Own2 (w.heap.size + 1) w1 v' (cycs p (k + 1)) := by
              rw [HJc.out, if_neg hj0]
              have hown1' : Own1 wo.heap.size wr (.slice A j cc) (orbTo p k j) := by have := hown1; rwa [HL.out] at this
              exact Own2.add HVL.out (ho1.alloc _) (fun i u l h1 h2 => World.ownsRow.alloc (HI.out i u l h1 h2) _) HD.out (World.ownsRow.alloc hown1' _) (by omega) HCC.out hown' hg'
            have H1 := hide hpc; clear hpc
            have H2 := hide hmc; clear hmc
            have H3 := hide hOO; clear hOO
            clear hown' hg' ho1 hrow c0 hnm
            go_wp2
            go_roundw
            case rel => exact ⟨k + 1, by omega, by go_num, hbw, H1.out, H2.out, H3.out⟩
            case measure => simp [intOf]; omega
    · obtain rfl : k = m := by omega
      clear hlt hk hcp hhm
      go_wp2
      go_ret
      exact ⟨_, rfl, hb, hown.mono (by omega)⟩
end Go.Proofs.Ytmapjjfefjoemaa

namespace Go.Proofs.Ytmapjjfefjoemaa
open Go.RowKit

theorem tuple2 {a b c d : Value} (h1 : a = c) (h2 : b = d) : Ending.returned (.tuple #[a, b]) = .returned (.tuple #[c, d]) := by rw [h1, h2]
theorem cycs_le {p : Nat → Nat} {m : Nat} (hp : PermN p m) : (cycs p m).length ≤ m := by
  rw [cycs_length hp.2.2.1 hp.2.1]; exact orb_le p m

-- left out here: loop.example/g01200/impl.countCycles
end Go.Proofs.Ytmapjjfefjoemaa

namespace Go.Proofs.Ytmapjjfefjoemaa
open Go.RowKit

theorem infoSl9 : (Try.prog.info? 25).map (fun i => (i.zero, i.size, i.bytes)) = some (some (.slice none 0 0), 1, 24) := by kernel_rfl
theorem rowsP_append9 : ∀ {vs us : List Value} {ls ms : List (List Nat)}, vs.length = ls.length → rowsP (vs ++ us) (ls ++ ms) = rowsP vs ls ++ rowsP us ms
  | [], us, [], ms, _ => rfl
  | [], _, _ :: _, _, h => by simp at h
  | _ :: _, _, [], _, h => by simp at h
  | v :: vs, us, l :: ls, ms, h => by
    have ih := rowsP_append9 (vs := vs) (us := us) (ls := ls) (ms := ms) (by simpa using h)
    simp only [List.cons_append, rowsP, ih]
theorem Holds.noVals9 {w0 w : World} {L : List Part} (h : Holds w0 w L) (i : Nat) {g : Nat} (hi : L[i]? = some (pBlk g #[] 25)) : Holds w0 w (L.set i (pVals (.slice (some ⟨g, 0, none⟩) 0 0) [])) := by
  refine h.turn i hi _ ?_ rfl rfl rfl (Nat.le_refl _) (fun _ _ _ => rfl) fun k hk => .inl ?_
  · exact ⟨rfl, .inr ⟨g, 0, #[], rfl, Nat.zero_le _, h.at i hi, Nat.le_refl 0, by decide, rfl, rfl⟩⟩
  · have : g = k := by simpa [pVals, pRow, Value.ownBlock] using hk
    exact this.symm
namespace Rd
/-- uponE behind a name that nothing unfolds -/
@[irreducible] def upon9 (P : Program) (C : World → Prop) (R : Value → World → Prop) (w : World) (r : Result Next) : Prop := uponE P C R w r
theorem upon9_eq {P : Program} {C : World → Prop} {R : Value → World → Prop} {w : World} {r : Result Next} : upon9 P C R w r = uponE P C R w r := by unfold upon9; rfl
theorem v_s9 {P : Program} {ops : Array Oper} {C : World → Prop} {E : Nat → Bool} {k : Nat} {a : Act} {D : World → Prop} {N : Act → (World → Prop) → Prop} {o : Oper} (R : Value → World → Prop) (hR : ∀ v, Stable (R v)) (ho : ops[k]? = some o) (hE : E k = true) (hw : Region.wanted o (yielded ops a.tmps) = true) (h1 : ∀ w, C w → D w → upon9 P C R w ((execOp a.eval o).run P w))
    (h2 : ∀ v, (∃ w, C w ∧ R v w) → N (a.put o.dst v) (R v)) : opV P ops C E k N a D :=
  v_s R hR ho hE hw (fun w hc hd => by have := h1 w hc hd; rwa [upon9_eq] at this) h2
/-- a value of some form, with lists of slices of given lengths, and what is held then -/
def rV9 (w0 : World) (n : Nat) (F : Value → List Value → List Part) : Value → World → Prop := fun v w => ∃ A c vs, v = .slice A n c ∧ vs.length = n ∧ Holds w0 w (F v vs)
theorem rV9_stable {w0 : World} {n : Nat} {F : Value → List Value → List Part} (v : Value) : Stable (rV9 w0 n F v) := fun _ _ ⟨A, c, vs, e, hl, h⟩ hb => ⟨A, c, vs, e, hl, h.call hb⟩
theorem rV9_form {w0 : World} {n : Nat} {F : Value → List Value → List Part} {v : Value} {w : World} (h : rV9 w0 n F v w) : ∃ A c, v = .slice A n c := by
  obtain ⟨A, c, vs, e, _⟩ := h
  exact ⟨A, c, e⟩
theorem rV9_elim {w0 : World} {n : Nat} {F : Value → List Value → List Part} {v : Value} {w : World} (h : rV9 w0 n F v w) {Q : Prop} (k : ∀ vs, vs.length = n → Holds w0 w (F v vs) → Q) : Q := by
  obtain ⟨A, c, vs, _, hl, h⟩ := h
  exact k vs hl h
def rN9 (w0 : World) (n : Nat) (F : Nat → List Value → List Part) : Value → World → Prop := fun v w => ∃ g vs, v = .slice (some ⟨g, 0, none⟩) 0 0 ∧ vs.length = n ∧ Holds w0 w (F g vs)
theorem rN9_stable {w0 : World} {n : Nat} {F : Nat → List Value → List Part} (v : Value) : Stable (rN9 w0 n F v) := fun _ _ ⟨g, vs, e, hl, h⟩ hb => ⟨g, vs, e, hl, h.call hb⟩
theorem rN9_form {w0 : World} {n : Nat} {F : Nat → List Value → List Part} {v : Value} {w : World} (h : rN9 w0 n F v w) : ∃ g, v = .slice (some ⟨g, 0, none⟩) 0 0 := by
  obtain ⟨g, vs, e, _⟩ := h
  exact ⟨g, e⟩
theorem rN9_elim {w0 : World} {n g : Nat} {F : Nat → List Value → List Part} {w : World} (h : rN9 w0 n F (.slice (some ⟨g, 0, none⟩) 0 0) w) {Q : Prop} (k : ∀ vs, vs.length = n → Holds w0 w (F g vs) → Q) : Q := by
  obtain ⟨g', vs, e, hl, h⟩ := h
  injection e with e
  injection e with e
  injection e with e
  subst e
  exact k vs hl h
def rW9 (w0 : World) (n k : Nat) (F : Value → List Value → List Value → List Part) : Value → World → Prop := fun v w => ∃ A c vs us, v = .slice A n c ∧ vs.length = n ∧ us.length = k ∧ Holds w0 w (F v vs us)
theorem rW9_stable {w0 : World} {n k : Nat} {F : Value → List Value → List Value → List Part} (v : Value) : Stable (rW9 w0 n k F v) := fun _ _ ⟨A, c, vs, us, e, hl, hk, h⟩ hb => ⟨A, c, vs, us, e, hl, hk, h.call hb⟩
theorem rW9_form {w0 : World} {n k : Nat} {F : Value → List Value → List Value → List Part} {v : Value} {w : World} (h : rW9 w0 n k F v w) : ∃ A c, v = .slice A n c := by
  obtain ⟨A, c, vs, us, e, _⟩ := h
  exact ⟨A, c, e⟩
theorem rW9_elim {w0 : World} {n j : Nat} {F : Value → List Value → List Value → List Part} {v : Value} {w : World} (h : rW9 w0 n j F v w) {Q : Prop} (k : ∀ vs us, vs.length = n → us.length = j → Holds w0 w (F v vs us) → Q) : Q := by
  obtain ⟨A, c, vs, us, _, hl, hk, h⟩ := h
  exact k vs us hl hk h
theorem region_RV9 {P : Program} {id : Nat} {Q : Exit → Act → World → Prop} {a : Act} {w w0 : World} {l : List Oper} (L : List Part) (L1 : List Part) (sp : List Nat) (p : Plan) (H : Holds w0 w L1) (hL : L.Sublist L1)
    (hm : P.follows .mixedOrders = true) (hsel : Region.noSelect l.toArray = true) (hB : planB .any l.toArray sp l.toArray.size p (Array.replicate l.toArray.size false) = true)
    (R : Value → World → Prop) (act : Value → Nat → Option Addr → Nat → Option Addr → Nat → Option Addr → Nat → Act)
    (h : ∀ K : Act → World → Prop, (∀ q g A1 c1 A2 c2 A3 c3 wx, R q wx → K (act q g A1 c1 A2 c2 A3 c3) wx) → walkV P l.toArray (fun wx => Holds w0 wx L) (fun k => sp.contains k) K p a (fun wx => Holds w0 wx L1))
    (key : ∀ q g A1 c1 A2 c2 A3 c3 wx, R q wx → Q .normal (act q g A1 c1 A2 c2 A3 c3) wx) : (Code.region id l.toArray true).wp P Q a w :=
  region_P L L1 sp p H hL hm hsel hB (h (fun a' w' => Q .normal a' w') key)
/-- a list's slices behind those of another one -/
theorem upon_rows9 {o : Oper} {a : Act} {w0 w : World} {L : List Part} (H : Holds w0 w L) (k j : Nat) {v u : Value} {vs us : List Value} (hk : L[k]? = some (pVals v vs)) (hj : L[j]? = some (pVals u us)) (hu : 0 < us.length) (h1 : ∀ x ∈ us, x.oneCell' = true) (hb : vs.length + us.length ≤ 100000) {C : World → Prop} {R : Value → World → Prop}
    (h : ∀ v' w', Holds w0 w' (L.set k (pVals v' (vs ++ us))) → C w' ∧ R v' w') (s x : Operand)
    (ho : o.op = .call { callee := .builtin .append, args := #[s, x], argTypes := #[26, 26] })
    (hs : a.eval s = v) (hx : a.eval x = u) : upon9 Try.prog C R w ((execOp a.eval o).run Try.prog w) := by
  obtain ⟨g, c, rfl, _, _, h3, h4, h5, _⟩ := row_at (H.row j hj) hu
  obtain ⟨i0, hi, hz0, hz1, hz2⟩ := info_parts infoSl9
  obtain ⟨v', w', hr, h2, _⟩ := run_appH (P := Try.prog) 26 o.type 25 i0 (.slice none 0 0) 1 24 Try.underlying26 hi hz0 hz1 hz2 rfl (by decide) v vs.length vs H k hk ⟨g, 0, none⟩ us.length c us (by omega) (fun j y hj => by
    have : ((⟨g, 0, none⟩ : Addr).add j) = ⟨g, j, none⟩ := by simp [Addr.add]; exact Eq.symm
    rw [this]; exact h5 j y hj) h1 (by unfold maxLen; omega) (by omega)
  rw [upon9_eq, exec_append ho hs hx hr]
  refine h v' w' ?_
  unfold pVals at *
  rw [List.length_append]
  exact h2
theorem rV9_of {w0 w : World} {n : Nat} {F : Value → List Value → List Part} {v : Value} {vs : List Value} {L' : List Part} (hF : F v vs = pVals v vs :: L') (hl : vs.length = n) (h : Holds w0 w (F v vs)) : rV9 w0 n F v w := by
  have h' := h
  rw [hF] at h'
  obtain ⟨A, c, e⟩ := own_slice (h'.row 0 rfl)
  exact ⟨A, c, vs, by rw [e, hl], hl, h⟩
/-- a call that hands back a list of its own -/
theorem upon9_call {P : Program} {f : Nat} {args : Array Value} {w0 wx : World} {L L1 : List Part} {l : List Nat} (hx : Holds w0 wx L) (hD : Holds w0 wx L1) (h : Calls P f args wx fun e wy => ∃ u, e = .returned u ∧ Holds wx wy [pInts u l]) :
    upon9 P (fun w => Holds w0 w L) (fun v w => Holds w0 w (pInts v l :: L1)) wx (.ok (.enter f args) wx) := by
  rw [upon9_eq]
  refine ⟨rfl, h.mono ?_⟩
  rintro e wy ⟨u, rfl, hu⟩
  exact ⟨u, rfl, hx.call hu.low, (hD.joinL hu).perm List.perm_append_comm⟩
theorem v_own9 {P : Program} {ops : Array Oper} {E : Nat → Bool} {k : Nat} {a : Act} {N : Act → (World → Prop) → Prop} {w0 : World} {L L1 : List Part} {o : Oper} (l : List Nat) (ho : ops[k]? = some o) (hE : E k = true) (hw : Region.wanted o (yielded ops a.tmps) = true)
    (h1 : ∀ w, Holds w0 w L → Holds w0 w L1 → upon9 P (fun w => Holds w0 w L) (fun v w => Holds w0 w (pInts v l :: L1)) w ((execOp a.eval o).run P w))
    (h2 : ∀ v, N (a.put o.dst v) (fun wx => Holds w0 wx (pInts v l :: L1))) : opV P ops (fun wx => Holds w0 wx L) E k N a (fun wx => Holds w0 wx L1) :=
  v_s9 (fun v w => Holds w0 w (pInts v l :: L1)) (fun _ _ _ h hb => h.call hb) ho hE hw h1 fun v _ => h2 v
end Rd
theorem vals_one9 {w0 w : World} {vs : List Value} {cs : List (List Nat)} {L : List Part} (hl : vs.length = cs.length) (h : Holds w0 w L) (hs : ∀ a ∈ rowsP vs cs, a ∈ L) : ∀ x ∈ vs, x.oneCell' = true := by
  intro x hx
  obtain ⟨i, hi, rfl⟩ := List.getElem_of_mem hx
  have h1 := rowsP_at (List.getElem?_eq_getElem hi) (List.getElem?_eq_getElem (show i < cs.length by omega))
  have h2 := (h.2.1 _ (hs _ (List.mem_of_getElem? h1))).1
  obtain ⟨A, c, e⟩ := own_slice (show w.ownsRow 0 _ _ _ _ _ from h2)
  rw [e]; rfl
end Go.Proofs.Ytmapjjfefjoemaa

namespace Go.Proofs.Ytmapjjfefjoemaa
open Go.RowKit

/-- s[k:] -/
@[irreducible] def lo9 (A : Option Addr) (n c k : Nat) : Value := .slice (if c = k then A else A.map (·.add (k * 1))) (n - k) (c - k)
theorem lo9_eq (A : Option Addr) (n c k : Nat) : lo9 A n c k = .slice (if c = k then A else A.map (·.add (k * 1))) (n - k) (c - k) := by unfold lo9; rfl
def slLo9 (x y : Value) : Sem Next := do pure (.value (← Instr.sliceAt 25 x (some y) none none))
@[go_sem ↓] theorem exec_slLo9 (ρ : Operand → Value) (dst : Option Tmp) (x y : Operand) (ty : TypeId) (pos : String) (after : Array Edge) (guard : Option (Nat × Bool)) :
    execOp ρ { dst, op := .slice 25 x (some y) none none, type := ty, pos, after, guard } = slLo9 (ρ x) (ρ y) := rfl
theorem run_slLo9 (A : Option Addr) (n c k : Nat) (h1 : k ≤ n) (w : World) : (slLo9 (.slice A n c) (.int .i64 k)).run Try.prog w = .ok (.value (lo9 A n c k)) w := by
  rw [lo9_eq]
  have hn := infoI9
  have hz : Try.prog.cellsOf 2 = 1 := by kernel_rfl
  rcases hi : Try.prog.info? 2 with _ | it
  · rw [hi] at hn; cases hn
  have hz' : (sizeOf 2).run Try.prog w = .ok 1 w := by rw [run_sizeOf w hi, hz]
  have hb : (0 : Int) ≤ (k : Int) ∧ (k : Int) ≤ (n : Int) := by omega
  simp only [slLo9, Instr.sliceAt, Instr.slice, Instr.sliceBounds, Instr.sliceBound, asIntOf, run_underlying Try.underlying25, Sem.run_bind, Sem.run_pure, Result.andThen_ok]
  rw [if_pos hb]
  simp only [Sem.run_pure, Result.andThen_ok, hz', Int.toNat_natCast]
theorem RdZ.drop9 {w : World} {A : Option Addr} {n c k : Nat} {l : List Int} (h : RdZ w (.slice A n c) l) (hk : k ≤ n) (hc : n ≤ c) : RdZ w (lo9 A n c k) (l.drop k) := by
  obtain ⟨A', c', e, h1, h2⟩ := h
  injection e with e1 e2 e3
  subst e1 e2 e3
  rw [lo9_eq]
  refine ⟨_, _, by rw [List.length_drop], by rw [List.length_drop]; omega, fun i x hx => ?_⟩
  rw [List.getElem?_drop] at hx
  obtain ⟨a, rfl, h3, h4⟩ := h2 _ _ hx
  have := (List.getElem?_eq_some_iff.1 hx).1
  rw [if_neg (by omega)]
  refine ⟨a.add (k * 1), rfl, ?_, ?_⟩
  · unfold Addr.add; split <;> exact h3
  · rw [Addr.add_add, Nat.mul_one]; exact h4
theorem RdZ.take9 {w : World} {A : Option Addr} {n c k : Nat} {l : List Int} (h : RdZ w (.slice A n c) l) (hk : k ≤ n) : RdZ w (.slice A k c) (l.take k) := by
  obtain ⟨A', c', e, h1, h2⟩ := h
  injection e with e1 e2 e3
  subst e1 e2 e3
  have hl : (l.take k).length = k := by rw [List.length_take]; omega
  refine ⟨_, _, by rw [hl], by rw [hl]; omega, fun i x hx => ?_⟩
  have := (List.getElem?_eq_some_iff.1 hx).1
  rw [List.getElem?_take_of_lt (by omega)] at hx
  exact h2 _ _ hx
theorem lo9_form (A : Option Addr) (n c k : Nat) : ∃ B d, lo9 A n c k = .slice B (n - k) d := by rw [lo9_eq]; exact ⟨_, _, rfl⟩
/-- two slices in a block, as a list of lists that reads -/
theorem rd_two9 {w : World} {g : Nat} {s1 s2 : Value} {l1 l2 : List Int} (hb : w.heap[g]? = some (.cells #[s1, s2] 25 (0, 0))) (h1 : RdZ w s1 l1) (h2 : RdZ w s2 l2) : RdZ2 w (.slice (some ⟨g, 0, none⟩) 2 2) [l1, l2] := by
  refine ⟨_, _, [s1, s2], rfl, by simp, rfl, fun i u hu => ?_, fun i u l hu hl => ?_⟩
  · refine ⟨⟨g, 0, none⟩, rfl, lt_of_some hb, ?_⟩
    rw [show ((⟨g, 0, none⟩ : Addr).add i) = ⟨g, i, none⟩ by simp [Addr.add]; exact Eq.symm, cell_of_cells, cellsOf_heap hb]
    simpa using hu
  · rcases i with _ | _ | i
    · simp at hu hl; subst hu hl; exact h1
    · simp at hu hl; subst hu hl; exact h2
    · simp at hu
namespace Rd
/-- a call that hands back a list of whole numbers of its own -/
theorem upon9_callZ {P : Program} {f : Nat} {args : Array Value} {w0 wx : World} {L L1 : List Part} {l : List Int} (hx : Holds w0 wx L) (hD : Holds w0 wx L1) (h : Calls P f args wx fun e wy => ∃ u, e = .returned u ∧ Holds wx wy [pZ9 u l]) :
    upon9 P (fun w => Holds w0 w L) (fun v w => Holds w0 w (pZ9 v l :: L1)) wx (.ok (.enter f args) wx) := by
  rw [upon9_eq]
  refine ⟨rfl, h.mono ?_⟩
  rintro e wy ⟨u, rfl, hu⟩
  exact ⟨u, rfl, hx.call hu.low, (hD.joinL hu).perm List.perm_append_comm⟩
theorem v_ownZ9 {P : Program} {ops : Array Oper} {E : Nat → Bool} {k : Nat} {a : Act} {N : Act → (World → Prop) → Prop} {w0 : World} {L L1 : List Part} {o : Oper} (l : List Int) (ho : ops[k]? = some o) (hE : E k = true) (hw : Region.wanted o (yielded ops a.tmps) = true)
    (h1 : ∀ w, Holds w0 w L → Holds w0 w L1 → upon9 P (fun w => Holds w0 w L) (fun v w => Holds w0 w (pZ9 v l :: L1)) w ((execOp a.eval o).run P w))
    (h2 : ∀ v, N (a.put o.dst v) (fun wx => Holds w0 wx (pZ9 v l :: L1))) : opV P ops (fun wx => Holds w0 wx L) E k N a (fun wx => Holds w0 wx L1) :=
  v_s9 (fun v w => Holds w0 w (pZ9 v l :: L1)) (fun _ _ _ h hb => h.call hb) ho hE hw h1 fun v _ => h2 v
/-- a value that is known by what is held -/
theorem v_known9 {P : Program} {ops : Array Oper} {E : Nat → Bool} {k : Nat} {a : Act} {N : Act → (World → Prop) → Prop} {w0 : World} {L L1 : List Part} {o : Oper} (c : Value) (ho : ops[k]? = some o) (hE : E k = true) (hw : Region.wanted o (yielded ops a.tmps) = true)
    (h1 : ∀ w, Holds w0 w L → Holds w0 w L1 → upon9 P (fun w => Holds w0 w L) (fun u w => u = c ∧ Holds w0 w L1) w ((execOp a.eval o).run P w))
    (h2 : N (a.put o.dst c) (fun wx => Holds w0 wx L1)) : opV P ops (fun wx => Holds w0 wx L) E k N a (fun wx => Holds w0 wx L1) := by
  refine v_s9 (fun u w => u = c ∧ Holds w0 w L1) (fun _ _ _ h hb => ⟨h.1, h.2.call hb⟩) ho hE hw h1 ?_
  rintro v ⟨w, _, rfl, _⟩
  refine cast (congrArg (N _) ?_) h2
  funext wx
  exact propext ⟨fun h => ⟨rfl, h⟩, fun h => h.2⟩
theorem upon9_callK {P : Program} {f : Nat} {args : Array Value} {w0 wx : World} {L L1 : List Part} {c : Value} (hx : Holds w0 wx L) (hD : Holds w0 wx L1) (h : Calls P f args wx fun e wy => e = .returned c ∧ Below wx.heap.size wx wy) :
    upon9 P (fun w => Holds w0 w L) (fun u w => u = c ∧ Holds w0 w L1) wx (.ok (.enter f args) wx) := by
  rw [upon9_eq]
  refine ⟨rfl, h.mono ?_⟩
  rintro e wy ⟨rfl, hb⟩
  exact ⟨c, rfl, hx.call hb, rfl, hD.call hb⟩
theorem region_Q3 {P : Program} {id : Nat} {Q : Exit → Act → World → Prop} {a : Act} {w w0 : World} {l : List Oper} (L : List Part) (L1 : List Part) (sp : List Nat) (p : Plan) (H : Holds w0 w L1) (hL : L.Sublist L1)
    (hm : P.follows .mixedOrders = true) (hsel : Region.noSelect l.toArray = true) (hB : planB .any l.toArray sp l.toArray.size p (Array.replicate l.toArray.size false) = true)
    {α β γ : Type} (F : α → β → γ → List Part) (act : α → β → γ → Act)
    (h : ∀ K : Act → World → Prop, (∀ g g' g'' wx, Holds w0 wx (F g g' g'') → K (act g g' g'') wx) → walkV P l.toArray (fun wx => Holds w0 wx L) (fun k => sp.contains k) K p a (fun wx => Holds w0 wx L1))
    (key : ∀ g g' g'' wx, Holds w0 wx (F g g' g'') → Q .normal (act g g' g'') wx) : (Code.region id l.toArray true).wp P Q a w :=
  region_P L L1 sp p H hL hm hsel hB (h (fun a' w' => Q .normal a' w') key)
end Rd
end Go.Proofs.Ytmapjjfefjoemaa

namespace Go.Proofs.Ytmapjjfefjoemaa
open Go.RowKit

theorem nv9_e0 (e0 e1 : Nat → Nat) {x : Nat} (h : x < 16) : (nv9 (lk9 e0 e1))[x * 2]? = some (.int .i64 (e0 x)) := by rw [nv9_get _ (by omega), lk9_0]
theorem nv9_e1 (e0 e1 : Nat → Nat) {x : Nat} (h : x < 16) : (nv9 (lk9 e0 e1))[x * 2 + 1]? = some (.int .i64 (e1 x)) := by rw [nv9_get _ (by omega), lk9_1]
/-- the first k places told -/
def upn9 (k : Nat) : Nat → Nat := fun p => if p < k then p else 0
theorem upn9_step (k : Nat) : fset (upn9 k) k k = upn9 (k + 1) := by
  funext p; unfold fset upn9
  by_cases h : p = k
  · subst h; rw [if_pos rfl, if_pos (by omega)]
  · rw [if_neg h]; by_cases h2 : p < k
    · rw [if_pos h2, if_pos (by omega)]
    · rw [if_neg h2, if_neg (by omega)]
def mid9 (h h' : Nat → Nat) (k : Nat) : Nat → Nat := fun p => if p < k then h' p else h p
theorem mid9_zero (h h' : Nat → Nat) : mid9 h h' 0 = h := by funext p; unfold mid9; rw [if_neg (by omega)]
theorem mid9_step (h h' : Nat → Nat) (k : Nat) : fset (mid9 h h' k) k (h' k) = mid9 h h' (k + 1) := by
  funext p; unfold fset mid9
  by_cases c : p = k
  · subst c; rw [if_pos rfl, if_pos (by omega)]
  · rw [if_neg c]; by_cases h2 : p < k
    · rw [if_pos h2, if_pos (by omega)]
    · rw [if_neg h2, if_neg (by omega)]
theorem mid9_keep (h h' : Nat → Nat) (k : Nat) (e : h' k = h k) : mid9 h h' k = mid9 h h' (k + 1) := by
  funext p; unfold mid9
  by_cases c : p = k
  · subst c; rw [if_neg (by omega), if_pos (by omega), e]
  · by_cases h2 : p < k
    · rw [if_pos h2, if_pos (by omega)]
    · rw [if_neg h2, if_neg (by omega)]
set_option maxRecDepth 100000 in
set_option maxHeartbeats 2000000 in
theorem pieces_any (e0 e1 : Nat → Nat) (he : ∀ x, x < 16 → e0 x < 32 ∧ e1 x < 32) (v : Value) (l : List Nat) (hl : ∀ x ∈ l, x < 16) (hn : l.length ≤ 1000) (w : World) (hv : RdZ w v (zs9 l)) :
    Calls Try.prog 110 #[.agg (nv9 (lk9 e0 e1)), v] w fun e w' => e = .returned (.agg (nv9 (pcs9 e0 e1 l))) ∧ Below w.heap.size w w' := by
  obtain ⟨A, c, rfl, _⟩ := hv.form
  have HV := hide hv; clear hv
  rw [zs9_length]
  have HE := hide he; clear he
  have HL := hide hl; clear hl
  have HP := hide fun k (p : Nat) (h : p < 32) => pcs9_lt (e0 := e0) (e1 := e1) (l.take k) (fun x hx => HE.out x (HL.out x (List.mem_of_mem_take hx))) p h
  have HH0 := (((Holds.start w).blk (nv9 (lk9 e0 e1)) 118 w.heap.size rfl).blk (nv9 fun _ => 0) 122 (w.heap.size + 1) (by simp)).blk (nv9 fun _ => 0) 122 (w.heap.size + 1 + 1) (by simp)
  have HZ : Hid (nv9 (upn9 0) = nv9 fun _ => 0) := hide (nv9_congr fun i _ => by unfold upn9; rw [if_neg (by omega)])
  rw [nv9_zero] at HH0
  go_enter Try.func110, Try.ntmps110
  go_wp2
  go_loopw [13] (fun t wr => ∃ k : Nat, k ≤ 32 ∧ t = .int .i64 k ∧ Holds w wr [pBlk (w.heap.size + 1 + 1) (nv9 (upn9 k)) 122, pBlk (w.heap.size + 1) (nv9 fun _ => 0) 122, pBlk w.heap.size (nv9 (lk9 e0 e1)) 118]) (fun t _ => 32 - (intOf t).toNat)
  case atStart => exact ⟨0, Nat.zero_le _, rfl, by rw [HZ.out, nv9_zero]; exact HH0⟩
  case round =>
    clear HH0
    obtain ⟨k, hk, rfl, hH⟩ := hrel
    by_cases hlt : k < 32
    · have hlti : (k : Int) < 32 := by omega
      have z0 := hH.cell 0 rfl (nv9_get (upn9 k) hlt)
      have z1 := hH.frozen 0 rfl k
      have hP := hH.set 0 rfl k (.int .i64 (k : Nat))
      rw [nv9_set, upn9_step] at hP
      have HP2 := hide hP; clear hP hH
      go_wp2
      go_roundw
      case rel => exact ⟨k + 1, by omega, by go_num, HP2.out⟩
      case measure => simp [intOf]; omega
    · obtain rfl : k = 32 := by omega
      have e32 : nv9 (upn9 32) = nv9 (pcs9 e0 e1 (l.take 0)) := nv9_congr fun i hi => by unfold upn9; rw [if_pos hi]; rfl
      rw [e32] at hH
      clear e32 hk hlt HZ
      go_wp2
      go_loopw [22] (fun t wr => ∃ i : Nat, i ≤ l.length ∧ t = .int .i64 i ∧ Holds w wr [pBlk (w.heap.size + 1 + 1) (nv9 (pcs9 e0 e1 (l.take i))) 122, pBlk (w.heap.size + 1) (nv9 fun _ => 0) 122, pBlk w.heap.size (nv9 (lk9 e0 e1)) 118]) (fun t _ => l.length - (intOf t).toNat)
      case atStart => exact ⟨0, Nat.zero_le _, rfl, hH⟩
      case round =>
        clear hH
        obtain ⟨i, hi, rfl, hH⟩ := hrel
        by_cases hil : i < l.length
        · have hil' : i < (zs9 l).length := by rw [zs9_length]; exact hil
          obtain ⟨p0, rfl, _, d1⟩ := (HV.out.below hH.low (Nat.le_refl _)).at hil'
          rw [zs9_get hil] at d1
          have hx := HL.out _ (List.getElem_mem hil)
          have hst : pcs9 e0 e1 (l.take (i + 1)) = pst9 e0 e1 (pcs9 e0 e1 (l.take i)) l[i] := by rw [List.take_succ_eq_append_getElem hil, pcs9_snoc]
          have hpl := fun p h => HP.out i p h
          generalize l[i] = x at *
          generalize pcs9 e0 e1 (l.take i) = h at *
          obtain ⟨hx0, hx1⟩ := HE.out x hx
          have y0 := hH.cell 2 rfl (nv9_e0 e0 e1 hx)
          have y1 := hH.cell 2 rfl (nv9_e1 e0 e1 hx)
          have y2 := hH.cell 0 rfl (nv9_get h hx0)
          have y3 := hH.cell 0 rfl (nv9_get h hx1)
          obtain ⟨h2, hh2⟩ : ∃ h2, h2 = pst9 e0 e1 h x := ⟨_, rfl⟩
          have hh3 : ∀ p, h2 p = if h p = h (e1 x) then h (e0 x) else h p := fun p => by rw [hh2]; rfl
          rw [← hh2] at hst
          have HST := hide hst; clear hst hh2 hil'
          have hxi : (x : Int) < 16 := by omega
          generalize e0 x = a0 at *
          generalize e1 x = a1 at *
          have hk0 := hpl a0 hx0
          have hk1 := hpl a1 hx1
          have HPL := hide hpl; clear hpl
          have q0 : (a0 : Int) < 32 := by omega
          have q1 : (a1 : Int) < 32 := by omega
          generalize hkept : h a0 = kept at *
          generalize hlost : h a1 = lost at *
          have HH3 := hide hh3; clear hh3 hkept hlost
          go_wp2
          go_quiet (fail)
          have hHz := hH.drewN nq
          clear hH d1 y0 y1 y2 y3
          generalize wr.drewN nq = wz at *
          have cd := hHz.cells 0 rfl
          have HM : Hid (nv9 h = nv9 (mid9 h h2 0)) := hide (by rw [mid9_zero])
          go_wp2
          clear cd
          go_loopw [39] (fun t wx => ∃ k : Nat, k ≤ 32 ∧ t = .int .i64 k ∧ Holds w wx [pBlk (w.heap.size + 1 + 1) (nv9 (mid9 h h2 k)) 122, pBlk (w.heap.size + 1) (nv9 fun _ => 0) 122, pBlk w.heap.size (nv9 (lk9 e0 e1)) 118]) (fun t _ => 32 - (intOf t).toNat)
          case atStart => exact ⟨0, Nat.zero_le _, rfl, by rw [← HM.out]; exact hHz⟩
          case round =>
            clear hHz
            obtain ⟨k, hk, rfl, hH⟩ := hrel
            by_cases hkl : k < 32
            · have hki : (k : Int) < 32 := by omega
              have h3 := HH3.out k
              have z0 := hH.cell 0 rfl (nv9_get (mid9 h h2 k) hkl)
              have z1 := hH.frozen 0 rfl k
              have hP := hH.set 0 rfl k (.int .i64 (kept : Nat))
              rw [nv9_set] at hP
              have HP2 := hide hP; clear hP
              generalize mid9 h h2 k k = cur at z0
              have HKE : Hid (∃ pk, h k = pk) := hide ⟨_, rfl⟩
              by_cases e : h k = lost
              · have hq : (((h k : Nat) : Int) == (lost : Int)) = true := by rw [e]; simp
                rw [if_pos e] at h3
                have HF : Hid (fset (mid9 h h2 k) k kept = mid9 h h2 (k + 1)) := hide (by rw [← h3]; exact mid9_step h h2 k)
                clear e h3 HKE
                go_wp2
                go_roundw
                case rel => exact ⟨k + 1, by omega, by go_num, by rw [← HF.out]; exact HP2.out⟩
                case measure => simp [intOf]; omega
              · have hq : (((h k : Nat) : Int) == (lost : Int)) = false := by simp; omega
                rw [if_neg e] at h3
                have HF := hide (mid9_keep h h2 k h3)
                have HQ := hide hH
                clear e h3 HKE hH
                go_wp2
                go_roundw
                case rel => exact ⟨k + 1, by omega, by go_num, by rw [← HF.out]; exact HQ.out⟩
                case measure => simp [intOf]; omega
            · obtain rfl : k = 32 := by omega
              have e32 : nv9 (mid9 h h2 32) = nv9 (pcs9 e0 e1 (l.take (i + 1))) := nv9_congr fun j hj => by unfold mid9; rw [if_pos hj, HST.out]
              rw [e32] at hH
              have HQ := hide hH
              clear e32 hk hkl hH
              go_wp2
              go_roundw
              case rel => exact ⟨i + 1, by omega, by go_num, HQ.out⟩
              case measure => simp [intOf]; omega
        · obtain rfl : i = l.length := by omega
          rw [List.take_length] at hH
          have cc := hH.cells 0 rfl
          have rr := hH.rowOk 1 rfl (nv9_size _)
          have HQ := hide hH
          clear hi hil hH
          go_wp2
          have H2 := HQ.out.setRow 1 rfl (nv9 (pcs9 e0 e1 l))
          exact res_agg (p := 4) (g := (w.heap.size + 1)) aggN9 (nv9_size _) rfl rfl rfl (H2.at 1 rfl) ⟨rfl, H2.low⟩
end Go.Proofs.Ytmapjjfefjoemaa

namespace Go.Proofs.Ytmapjjfefjoemaa
open Go.RowKit

/-- what is held of a boxed dessin, in worlds that only grow -/
theorem keepD {B b : Nat} {w w1 w' : World} {cs : Array Value} {v : Value} (hB : B ≤ b) (h : cellsOf w1 b = cs ∧ w1.cell? ⟨b, 0, none⟩ = some v ∧ b < w1.heap.size ∧ Below B w w1) (hb : Below w1.heap.size w1 w') :
    cellsOf w' b = cs ∧ w'.cell? ⟨b, 0, none⟩ = some v ∧ b < w'.heap.size ∧ Below B w w' :=
  ⟨(below_cells hb h.2.2.1).trans h.1, (hb.cell (p := ⟨b, 0, none⟩) h.2.2.1).trans h.2.1, Nat.lt_of_lt_of_le h.2.2.1 hb.size, h.2.2.2.trans (hb.mono (by have := h.2.2.1; omega))⟩

def faceF (f g : Nat → Nat) (m : Nat) : Nat → Nat := backF (thenF f g m) m

theorem thenF_lt {f g : Nat → Nat} {m : Nat} (hm : m ≤ 16) (hf : ∀ i, i < m → f i < m) (hg : ∀ i, i < m → g i < m) (i : Nat) (hi : i < m) : thenF f g m i < 16 := by
  unfold thenF upto
  rw [if_pos hi]
  have := hg _ (hf i hi)
  show g (f i) < 16
  omega

set_option maxRecDepth 100000 in
set_option maxHeartbeats 1000000 in
theorem face_any (f g : Nat → Nat) (m : Nat) (hm : m ≤ 16) (hf : ∀ i, i < m → f i < m) (hg : ∀ i, i < m → g i < m) (w : World) :
    Calls Try.prog 70 #[.agg (dv m f g)] w fun e w' => e = .returned (.agg (av (faceF f g m))) ∧ Below w.heap.size w w' := by
  have C1 := hide fun w => follow_any f g m hm (fun i hi => by have := hf i hi; omega) w
  have C2 := hide fun w => undo_any (thenF f g m) m hm (thenF_lt hm hf hg) w
  have hF : faceF f g m = backF (thenF f g m) m := rfl
  rw [hF]
  generalize thenF f g m = T at *
  generalize backF T m = F at *
  clear hf hg hF
  have hn := dv_n m f g
  go_enter Try.func70, Try.ntmps70
  go_wp2
  rw [← av_zero]
  generalize hW : (w.alloc (.cells (dv m f g) 31)).alloc (.cells (av fun _ => 0) 29) = W
  have c0 : cellsOf W w.heap.size = dv m f g := by rw [← hW]; exact cellsOf_heap (heap1 rfl)
  have r1 : rowOk W (w.heap.size + 1) 16 := by rw [← hW]; exact ⟨_, _, heap_at _ _ _ (by simp), av_size _⟩
  have b0 : Below w.heap.size w W := by rw [← hW]; exact below2 _ _ _
  have l0 : w.heap.size < W.heap.size := by rw [← hW]; simp <;> omega
  clear hW
  refine region_tail (Grown W) 10 (by kernel_rfl) (by kernel_rfl) (Grown.drew W) ?_
  simp only [List.take_succ_cons, List.take_zero, List.drop_succ_cons, List.drop_zero]
  iterate 10
    apply q_step
    · go_simp
    · intro wx hx
      have e0 := hx.cells c0 l0
      have n0 : wx.cell? ⟨w.heap.size, 0, none⟩ = some (.int .i64 m) := by rw [cell_of_cells, e0]; exact hn
      first
        | (go_simp; exact rfl)
        | (go_simp; go_at_call 103; exact Calls.mono (C1.out wx) fun e w' h => ⟨h.1, hx.call h.2⟩)
        | (go_simp; go_at_call 102; exact Calls.mono (C2.out wx) fun e w' h => ⟨h.1, hx.call h.2⟩)
  refine wpQuiet_nil ?_
  intro w1 hx
  have r2 := hx.row r1
  have b2 : Below w.heap.size w w1 := b0.trans (Below.mono hx b0.size)
  clear c0 r1 b0 l0 hx
  go_wp2
  obtain ⟨t, ht, _⟩ := r2.heap
  exact res_agg (p := 2) (g := w.heap.size + 1) aggP (av_size F) rfl rfl rfl (setRow_heap _ _ _ _ t (0, 0) ht) ⟨rfl, below_setRow b2 (by omega) _⟩

set_option maxRecDepth 100000 in
set_option maxHeartbeats 1000000 in
theorem sFace_any (f g : Nat → Nat) (m : Nat) (hm : m ≤ 16) (hf : ∀ i, i < m → f i < m) (hg : ∀ i, i < m → g i < m) (w : World) :
    Calls Try.prog 68 #[.agg (dv m f g)] w fun e w' => e = .returned (.agg (av (faceF f g m))) ∧ Below w.heap.size w w' := by
  have C1 := hide fun w => sThen_any f g m hm (fun i hi => by have := hf i hi; omega) w
  have C2 := hide fun w => sBack_any (thenF f g m) m hm (thenF_lt hm hf hg) w
  have hF : faceF f g m = backF (thenF f g m) m := rfl
  rw [hF]
  generalize thenF f g m = T at *
  generalize backF T m = F at *
  clear hf hg hF
  have hn := dv_n m f g
  go_enter Try.func68, Try.ntmps68
  go_wp2
  rw [← av_zero]
  generalize hW : (w.alloc (.cells (dv m f g) 31)).alloc (.cells (av fun _ => 0) 29) = W
  have c0 : cellsOf W w.heap.size = dv m f g := by rw [← hW]; exact cellsOf_heap (heap1 rfl)
  have r1 : rowOk W (w.heap.size + 1) 16 := by rw [← hW]; exact ⟨_, _, heap_at _ _ _ (by simp), av_size _⟩
  have b0 : Below w.heap.size w W := by rw [← hW]; exact below2 _ _ _
  have l0 : w.heap.size < W.heap.size := by rw [← hW]; simp <;> omega
  clear hW
  refine region_tail (Grown W) 10 (by kernel_rfl) (by kernel_rfl) (Grown.drew W) ?_
  simp only [List.take_succ_cons, List.take_zero, List.drop_succ_cons, List.drop_zero]
  iterate 10
    apply q_step
    · go_simp
    · intro wx hx
      have e0 := hx.cells c0 l0
      have n0 : wx.cell? ⟨w.heap.size, 0, none⟩ = some (.int .i64 m) := by rw [cell_of_cells, e0]; exact hn
      first
        | (go_simp; exact rfl)
        | (go_simp; go_at_call 97; exact Calls.mono (C1.out wx) fun e w' h => ⟨h.1, hx.call h.2⟩)
        | (go_simp; go_at_call 62; exact Calls.mono (C2.out wx) fun e w' h => ⟨h.1, hx.call h.2⟩)
  refine wpQuiet_nil ?_
  intro w1 hx
  have r2 := hx.row r1
  have b2 : Below w.heap.size w w1 := b0.trans (Below.mono hx b0.size)
  clear c0 r1 b0 l0 hx
  go_wp2
  obtain ⟨t, ht, _⟩ := r2.heap
  exact res_agg (p := 2) (g := w.heap.size + 1) aggP (av_size F) rfl rfl rfl (setRow_heap _ _ _ _ t (0, 0) ht) ⟨rfl, below_setRow b2 (by omega) _⟩
end Go.Proofs.Ytmapjjfefjoemaa

namespace Go.Proofs.Ytmapjjfefjoemaa
open Go.RowKit

theorem backTo_at {p : Nat → Nat} {n : Nat} (h : Bij p n) : ∀ k, k ≤ n → ∀ x, x < k → backTo p k (p x) = x := by
  intro k
  induction k with
  | zero => intro _ x hx; omega
  | succ k ih =>
    intro hk x hx
    show fset (backTo p k) (p k) k (p x) = x
    unfold fset
    by_cases c : p x = p k
    · rw [if_pos c]; exact (h.2 x k (by omega) (by omega) c).symm
    · rw [if_neg c]
      by_cases d : x = k
      · subst d; exact absurd rfl c
      · exact ih (by omega) x (by omega)
theorem backTo_none {p : Nat → Nat} {y : Nat} : ∀ k, (∀ x, x < k → p x ≠ y) → backTo p k y = 0 := by
  intro k
  induction k with
  | zero => intro _; rfl
  | succ k ih =>
    intro h
    show fset (backTo p k) (p k) k y = 0
    unfold fset
    rw [if_neg (fun e => h k (by omega) e.symm)]
    exact ih fun x hx => h x (by omega)
theorem backF_at {p : Nat → Nat} {m : Nat} (h : Bij p m) {x : Nat} (hx : x < m) : backF p m (p x) = x := backTo_at h m (Nat.le_refl m) x hx
theorem Bij.onto {p : Nat → Nat} {m : Nat} (h : Bij p m) {y : Nat} (hy : y < m) : ∃ x, x < m ∧ p x = y := by
  obtain ⟨L, h0, _, e⟩ := h.period hy
  obtain ⟨k, rfl⟩ : ∃ k, L = k + 1 := ⟨L - 1, by omega⟩
  exact ⟨it p k y, h.it_lt k hy, e⟩
theorem backF_perm {p : Nat → Nat} {m : Nat} (h : PermN p m) : PermN (backF p m) m := by
  obtain ⟨h1, h2, h3, _⟩ := h
  refine ⟨h1, h2, ⟨fun y hy => ?_, fun y z hy hz e => ?_⟩, fun y h4 _ => ?_⟩
  · obtain ⟨x, hx, rfl⟩ := h3.onto hy
    rw [backF_at h3 hx]; exact hx
  · obtain ⟨x, hx, rfl⟩ := h3.onto hy
    obtain ⟨x', hx', rfl⟩ := h3.onto hz
    rw [backF_at h3 hx, backF_at h3 hx'] at e
    rw [e]
  · exact backTo_none m fun x hx e => by have := h3.1 x hx; omega
theorem thenF_at {p q : Nat → Nat} {m x : Nat} (hx : x < m) : thenF p q m x = q (p x) := by unfold thenF upto; rw [if_pos hx]
theorem thenF_out {p q : Nat → Nat} {m x : Nat} (hx : m ≤ x) : thenF p q m x = 0 := by unfold thenF upto; rw [if_neg (by omega)]
theorem thenF_perm {p q : Nat → Nat} {m : Nat} (hp : PermN p m) (hq : PermN q m) : PermN (thenF p q m) m := by
  refine ⟨hp.1, hp.2.1, ⟨fun x hx => ?_, fun x y hx hy e => ?_⟩, fun x hx _ => thenF_out hx⟩
  · rw [thenF_at hx]; exact hq.2.2.1.1 _ (hp.2.2.1.1 x hx)
  · rw [thenF_at hx, thenF_at hy] at e
    exact hp.2.2.1.2 x y hx hy (hq.2.2.1.2 _ _ (hp.2.2.1.1 x hx) (hp.2.2.1.1 y hy) e)
theorem faceF_perm {f g : Nat → Nat} {m : Nat} (hf : PermN f m) (hg : PermN g m) : PermN (faceF f g m) m := backF_perm (thenF_perm hf hg)
theorem faceF_at {f g : Nat → Nat} {m x : Nat} (hf : PermN f m) (hg : PermN g m) (hx : x < m) : faceF f g m (g (f x)) = x := by
  have := backF_at (thenF_perm hf hg).2.2.1 hx
  rwa [thenF_at hx] at this
theorem DesN.face {f g : Nat → Nat} {m : Nat} (h : DesN f g m) : PermN (faceF f g m) m := faceF_perm h.black h.white
/-- the numbers of cycles of a dessin -/
theorem DesN.euler {f g : Nat → Nat} {m : Nat} (h : DesN f g m) : ((cycs f m).length + (cycs g m).length + (cycs (faceF f g m) m).length + m) % 2 = 0 ∧ (cycs f m).length + (cycs g m).length + (cycs (faceF f g m) m).length ≤ m + 2 := by
  rw [cycs_length h.bf h.le, cycs_length h.bg h.le, cycs_length h.face.2.2.1 h.le]
  exact euler_dessin h.bf h.bg h.face.2.2.1 h.pos h.conn fun x hx => faceF_at h.black h.white hx
theorem PermN.lt {f : Nat → Nat} {m : Nat} (h : PermN f m) (i : Nat) (hi : i < 16) : f i < 16 := by
  rcases Nat.lt_or_ge i m with c | c
  · have := h.2.2.1.1 i c; have := h.2.1; omega
  · rw [h.2.2.2 i c hi]; omega
end Go.Proofs.Ytmapjjfefjoemaa

namespace Go.Proofs.Ytmapjjfefjoemaa
open Go.RowKit

def pick3 (f g h : Nat → Nat) (k : Nat) : Nat → Nat := if k = 0 then f else if k = 1 then g else h
@[irreducible] def tv (f g h : Nat → Nat) : Array Value := row 48 fun i => if i < 16 then .int .u8 (f i) else if i < 32 then .int .u8 (g (i - 16)) else .int .u8 (h (i - 32))
theorem tv_size (f g h : Nat → Nat) : (tv f g h).size = 48 := by unfold tv; exact row_size _ _
theorem tv_cases (f g h : Nat → Nat) (i : Nat) : (tv f g h)[i]? = if i < 48 then some (if i < 16 then .int .u8 (f i) else if i < 32 then .int .u8 (g (i - 16)) else .int .u8 (h (i - 32))) else none := by
  unfold tv
  by_cases c : i < 48
  · rw [row_get _ _ c, if_pos c]
  · rw [row_none _ _ c, if_neg c]
theorem tv_cells (f g h : Nat → Nat) : (tv f g h).all (·.oneCell') = true := by
  unfold tv row
  simp only [List.all_toArray, List.all_map, List.all_eq_true, Function.comp]
  intro i _
  split
  · rfl
  · split <;> rfl
theorem tv_part (f g h : Nat → Nat) {k : Nat} (hk : k < 3) : (tv f g h).extract (k * 16) (k * 16 + 16) = av (pick3 f g h k) := by
  apply Array.ext_getElem?
  intro i
  rw [Array.getElem?_extract, tv_cases, av_cases, tv_size]
  by_cases c : i < 16
  · rw [if_pos (by omega), if_pos (by omega), if_pos c]
    unfold pick3
    have : k = 0 ∨ k = 1 ∨ k = 2 := by omega
    rcases this with rfl | rfl | rfl
    · simp [c]
    · have h1 : ¬ 16 + i < 16 := by omega
      have h2 : 16 + i < 32 := by omega
      have h3 : 16 + i - 16 = i := by omega
      simp [h1, h2, h3]
    · have h1 : ¬ 32 + i < 16 := by omega
      have h2 : ¬ 32 + i < 32 := by omega
      have h3 : 32 + i - 32 = i := by omega
      simp [h1, h2, h3]
  · rw [if_neg (by omega), if_neg c]
theorem aggT : AggT 64 48 := ⟨⟨_, Try.underlying64, rfl⟩, by kernel_rfl⟩
def Is48 (c : Array Value) : Prop := c.size = 48
@[go_sem] theorem is48_tv (f g h : Nat → Nat) : Is48 (tv f g h) ↔ True := ⟨fun _ => trivial, fun _ => tv_size f g h⟩
@[go_sem] theorem ones_tv (f g h : Nat → Nat) : Ones (tv f g h) ↔ True := ⟨fun _ => trivial, fun _ => tv_cells f g h⟩

/-- an entry of it by value -/
def idxT (v i : Value) : Sem Next := do pure (.value (← Instr.index 64 v i))
theorem run_idx3 (f g h : Nat → Nat) {k : Nat} (hk : k < 3) (w : World) : (Instr.index 64 (.agg (tv f g h)) (.int .i64 k)).run Try.prog w = .ok (.agg (av (pick3 f g h k))) w := by
  obtain ⟨d, hd, hd'⟩ := aggP.und
  have hz : Try.prog.cellsOf 29 = 16 := by kernel_rfl
  have hn : (Try.prog.info? 29).map (·.size) = some 16 := infoP
  rcases hi : Try.prog.info? 29 with _ | it
  · rw [hi] at hn; cases hn
  · have hb : (0 : Int) ≤ (k : Int) ∧ (k : Int) < ((3 : Nat) : Int) := by omega
    have ha : (isAgg 29).run Try.prog w = .ok true w := by
      cases d <;> first | (simp at hd'; done) | simp [isAgg, run_underlying hd]
    have hz' : (sizeOf 29).run Try.prog w = .ok 16 w := by rw [run_sizeOf w hi, hz]
    simp only [Instr.index, asIntOf, run_underlying Try.underlying64, Sem.run_bind, Sem.run_pure, Result.andThen_ok]
    rw [if_pos hb]
    simp only [part, Sem.run_bind, hz', ha, Result.andThen_ok, if_true, Sem.run_pure, Int.toNat_natCast, tv_part f g h hk]
section
variable (ρ : Operand → Value) (dst : Option Tmp) (x y : Operand) (ty : TypeId) (pos : String) (after : Array Edge) (guard : Option (Nat × Bool))
@[go_sem ↓] theorem exec_idxT : execOp ρ { dst, op := .index 64 x y, type := ty, pos, after, guard } = idxT (ρ x) (ρ y) := rfl
@[go_sem ↓] theorem exec_storeT : execOp ρ { dst, op := .store 64 x y, type := ty, pos, after, guard } = storeT 64 (ρ x) (ρ y) := rfl
end
@[go_sem] theorem run_idxT (f g h : Nat → Nat) {k : Nat} (hk : k < 3) (w : World) : (idxT (.agg (tv f g h)) (.int .i64 k)).run Try.prog w = .ok (.value (.agg (av (pick3 f g h k)))) w := by
  simp only [idxT, Sem.run_bind, run_idx3 f g h hk w, Result.andThen_ok, Sem.run_pure]
@[go_sem] theorem run_storeT3 {w : World} {g : Nat} {cs : Array Value} (h : rowOk w g 48) (hs : Is48 cs) (hc : Ones cs) :
    (storeT 64 (.pointer (some ⟨g, 0, none⟩)) (.agg cs)).run Try.prog w = .ok .skip (w.setRow g cs) := run_storeT aggT h hs hc

set_option maxRecDepth 100000 in
theorem builtT (f g h : Nat → Nat) : Try.prog.built 64 [(0, .agg (av f)), (1, .agg (av g)), (2, .agg (av h))] = some (tv f g h) := by
  have hu := Try.underlying64
  have hz : (Try.prog.info? 64).map (·.zero) = some (some (.agg (tv (fun _ => 0) (fun _ => 0) (fun _ => 0)))) := by unfold tv row; kernel_rfl
  have hn : (Try.prog.info? 29).map (·.size) = some 16 := infoP
  unfold Program.built
  rcases hi : Try.prog.info? 64 with _ | it
  · rw [hi] at hz; cases hz
  · rcases hj : Try.prog.info? 29 with _ | ip
    · rw [hj] at hn; cases hn
    · rw [hi] at hz
      rw [hj] at hn
      have hz' : it.zero = some (.agg (tv (fun _ => 0) (fun _ => 0) (fun _ => 0))) := by simpa using hz
      have hn' : ip.size = 16 := by simpa using hn
      rw [hu]
      simp only [hz', hj, hn', Instr.fill, Value.cells, Nat.zero_mul, Nat.one_mul, av_size, splice_eq, splice_size, tv_size]
      rw [if_neg (by simp), if_neg (by simp), if_neg (by simp)]
      congr 1
      apply Array.ext_getElem?
      intro i
      have l1 : (av f).toList.length = 16 := by simpa using av_size f
      have l2 : (av g).toList.length = 16 := by simpa using av_size g
      have l3 : (av h).toList.length = 16 := by simpa using av_size h
      rw [foldset, foldset, foldset, tv_cases, tv_cases, splice_size, splice_size, tv_size, l1, l2, l3, Array.getElem?_toList, Array.getElem?_toList, Array.getElem?_toList, av_cases, av_cases, av_cases]
      by_cases h1 : i < 16
      · rw [if_neg (by omega), if_neg (by omega), if_pos (by omega), if_pos (by omega), if_pos (by omega), if_pos h1]; simp
      · by_cases h2 : i < 32
        · rw [if_neg (by omega), if_pos (by omega), if_pos (by omega), if_pos (by omega), if_neg h1, if_pos h2]
        · by_cases h3 : i < 48
          · rw [if_pos (by omega), if_pos (by omega), if_pos h3, if_neg h1, if_neg h2]
          · rw [if_neg (by omega), if_neg (by omega), if_neg (by omega), if_neg h3, if_neg h3]
def buildT (ps : Array (Nat × Value)) : Sem Next := do pure (.value (← Instr.build 64 ps))
@[go_sem ↓] theorem exec_buildT (ρ : Operand → Value) (dst : Option Tmp) (parts : Array (Nat × Operand)) (ty : TypeId) (pos : String) (after : Array Edge) (guard : Option (Nat × Bool)) :
    execOp ρ { dst, op := .build 64 parts, type := ty, pos, after, guard } = buildT (parts.map fun (i, x) => (i, ρ x)) := rfl
@[go_sem] theorem run_buildT (f g h : Nat → Nat) (w : World) : (buildT #[(0, .agg (av f)), (1, .agg (av g)), (2, .agg (av h))]).run Try.prog w = .ok (.value (.agg (tv f g h))) w := by
  simp only [buildT, Sem.run_bind, run_build (P := Try.prog) w 64 #[(0, .agg (av f)), (1, .agg (av g)), (2, .agg (av h))] _ (builtT f g h), Result.andThen_ok, Sem.run_pure]

set_option maxRecDepth 100000 in
set_option maxHeartbeats 1000000 in
theorem turnsOf_any (f g : Nat → Nat) (m : Nat) (hd : DesN f g m) (w : World) :
    Calls Try.prog 54 #[.agg (dv m f g)] w fun e w' => e = .returned (.agg (tv f g (faceF f g m))) ∧ Below w.heap.size w w' := by
  have C1 := hide fun w => face_any f g m hd.le hd.bf.1 hd.bg.1 w
  generalize faceF f g m = F at *
  clear hd
  have hn := dv_n m f g
  go_enter Try.func54, Try.ntmps54
  go_wp2
  generalize hW : (w.alloc (.cells (dv m f g) 31)).alloc _ = W
  have c0 : cellsOf W w.heap.size = dv m f g := by rw [← hW]; exact cellsOf_heap (heap1 rfl)
  have r1 : rowOk W (w.heap.size + 1) 48 := by rw [← hW]; exact ⟨_, _, heap_at _ _ _ (by simp), by simp⟩
  have b0 : Below w.heap.size w W := by rw [← hW]; exact below2 _ _ _
  have l0 : w.heap.size < W.heap.size := by rw [← hW]; simp <;> omega
  clear hW
  refine region_tail (Grown W) 7 (by kernel_rfl) (by kernel_rfl) (Grown.drew W) ?_
  simp only [List.take_succ_cons, List.take_zero, List.drop_succ_cons, List.drop_zero]
  iterate 7
    apply q_step
    · go_simp
    · intro wx hx
      have e0 := hx.cells c0 l0
      have n0 : wx.cell? ⟨w.heap.size, 0, none⟩ = some (.int .i64 m) := by rw [cell_of_cells, e0]; exact hn
      first
        | (go_simp; exact rfl)
        | (go_simp; go_at_call 70; exact Calls.mono (C1.out wx) fun e w' h => ⟨h.1, hx.call h.2⟩)
  refine wpQuiet_nil ?_
  intro w1 hx
  have r2 := hx.row r1
  have b2 : Below w.heap.size w w1 := b0.trans (Below.mono hx b0.size)
  clear c0 r1 b0 l0 hx
  go_wp2
  obtain ⟨t, ht, _⟩ := r2.heap
  exact res_agg (p := 2) (g := w.heap.size + 1) aggT (tv_size f g F) rfl rfl rfl (setRow_heap _ _ _ _ t (0, 0) ht) ⟨rfl, below_setRow b2 (by omega) _⟩
end Go.Proofs.Ytmapjjfefjoemaa

namespace Go.Proofs.Ytmapjjfefjoemaa
open Go.RowKit

def pick2 (f g : Nat → Nat) (k : Nat) : Nat → Nat := if k = 0 then f else g
@[irreducible] def tw9 (f g : Nat → Nat) : Array Value := row 32 fun i => if i < 16 then .int .u8 (f i) else .int .u8 (g (i - 16))
theorem tw9_size (f g : Nat → Nat) : (tw9 f g).size = 32 := by unfold tw9; exact row_size _ _
theorem tw9_cases (f g : Nat → Nat) (i : Nat) : (tw9 f g)[i]? = if i < 32 then some (if i < 16 then .int .u8 (f i) else .int .u8 (g (i - 16))) else none := by
  unfold tw9
  by_cases c : i < 32
  · rw [row_get _ _ c, if_pos c]
  · rw [row_none _ _ c, if_neg c]
theorem tw9_part (f g : Nat → Nat) {k : Nat} (hk : k < 2) : (tw9 f g).extract (k * 16) (k * 16 + 16) = av (pick2 f g k) := by
  apply Array.ext_getElem?
  intro i
  rw [Array.getElem?_extract, tw9_cases, av_cases, tw9_size]
  by_cases c : i < 16
  · rw [if_pos (by omega), if_pos (by omega), if_pos c]
    unfold pick2
    have : k = 0 ∨ k = 1 := by omega
    rcases this with rfl | rfl
    · simp [c]
    · have h1 : ¬ 16 + i < 16 := by omega
      have h3 : 16 + i - 16 = i := by omega
      simp [h1, h3]
  · rw [if_neg (by omega), if_neg c]
def idxW (v i : Value) : Sem Next := do pure (.value (← Instr.index 111 v i))
theorem run_idx2 (f g : Nat → Nat) {k : Nat} (hk : k < 2) (w : World) : (Instr.index 111 (.agg (tw9 f g)) (.int .i64 k)).run Try.prog w = .ok (.agg (av (pick2 f g k))) w := by
  obtain ⟨d, hd, hd'⟩ := aggP.und
  have hz : Try.prog.cellsOf 29 = 16 := by kernel_rfl
  have hn : (Try.prog.info? 29).map (·.size) = some 16 := infoP
  rcases hi : Try.prog.info? 29 with _ | it
  · rw [hi] at hn; cases hn
  · have hb : (0 : Int) ≤ (k : Int) ∧ (k : Int) < ((2 : Nat) : Int) := by omega
    have ha : (isAgg 29).run Try.prog w = .ok true w := by
      cases d <;> first | (simp at hd'; done) | simp [isAgg, run_underlying hd]
    have hz' : (sizeOf 29).run Try.prog w = .ok 16 w := by rw [run_sizeOf w hi, hz]
    simp only [Instr.index, asIntOf, run_underlying Try.underlying111, Sem.run_bind, Sem.run_pure, Result.andThen_ok]
    rw [if_pos hb]
    simp only [part, Sem.run_bind, hz', ha, Result.andThen_ok, if_true, Sem.run_pure, Int.toNat_natCast, tw9_part f g hk]
@[go_sem ↓] theorem exec_idxW (ρ : Operand → Value) (dst : Option Tmp) (x y : Operand) (ty : TypeId) (pos : String) (after : Array Edge) (guard : Option (Nat × Bool)) :
    execOp ρ { dst, op := .index 111 x y, type := ty, pos, after, guard } = idxW (ρ x) (ρ y) := rfl
@[go_sem] theorem run_idxW (f g : Nat → Nat) {k : Nat} (hk : k < 2) (w : World) : (idxW (.agg (tw9 f g)) (.int .i64 k)).run Try.prog w = .ok (.value (.agg (av (pick2 f g k)))) w := by
  simp only [idxW, Sem.run_bind, run_idx2 f g hk w, Result.andThen_ok, Sem.run_pure]
set_option maxRecDepth 100000 in
theorem builtW (f g : Nat → Nat) : Try.prog.built 111 [(0, .agg (av f)), (1, .agg (av g))] = some (tw9 f g) := by
  have h := built_arr (P := Try.prog) (T := 111) (E := 29) (n := 2) (s := 16) (N := 32) Try.underlying111 (by kernel_rfl) infoP [(0, .agg (av f)), (1, .agg (av g))]
    (by simp [Fits, Value.cells, av_size]) (by simp [flatC, Value.cells, av_size])
  rw [h]
  congr 1
  apply Array.ext_getElem?
  intro i
  rw [tw9_cases]
  have l1 : (av f).toList.length = 16 := by simpa using av_size f
  have l2 : (av g).toList.length = 16 := by simpa using av_size g
  simp only [flatC, List.flatMap_cons, List.flatMap_nil, List.append_nil, Value.cells, List.getElem?_toArray]
  by_cases h1 : i < 16
  · rw [List.getElem?_append_left (by omega), Array.getElem?_toList, av_cases, if_pos h1, if_pos (by omega), if_pos h1]
  · rw [List.getElem?_append_right (by omega), l1, Array.getElem?_toList, av_cases]
    by_cases h2 : i < 32
    · rw [if_pos (by omega), if_pos h2, if_neg h1]
    · rw [if_neg (by omega), if_neg h2]
def buildW (ps : Array (Nat × Value)) : Sem Next := do pure (.value (← Instr.build 111 ps))
@[go_sem ↓] theorem exec_buildW (ρ : Operand → Value) (dst : Option Tmp) (parts : Array (Nat × Operand)) (ty : TypeId) (pos : String) (after : Array Edge) (guard : Option (Nat × Bool)) :
    execOp ρ { dst, op := .build 111 parts, type := ty, pos, after, guard } = buildW (parts.map fun (i, x) => (i, ρ x)) := rfl
@[go_sem] theorem run_buildW (f g : Nat → Nat) (w : World) : (buildW #[(0, .agg (av f)), (1, .agg (av g))]).run Try.prog w = .ok (.value (.agg (tw9 f g))) w := by
  simp only [buildW, Sem.run_bind, run_build (P := Try.prog) w 111 #[(0, .agg (av f)), (1, .agg (av g))] _ (builtW f g), Result.andThen_ok, Sem.run_pure]
end Go.Proofs.Ytmapjjfefjoemaa

namespace Go.Proofs.Ytmapjjfefjoemaa
open Go.RowKit

def zer9 (l : List Int) (cs : List (List Nat)) : Bool := cs.all fun c => sm9 l c == 0
theorem zer9_bad {l : List Int} {cs : List (List Nat)} {i : Nat} (h : i < cs.length) (hb : (sm9 l cs[i] != 0) = true) : zer9 l cs = false := by
  unfold zer9
  rw [List.all_eq_false]
  exact ⟨cs[i], List.getElem_mem h, by simpa using hb⟩
theorem zer9_good {l : List Int} {cs : List (List Nat)} (h : ∀ i (hi : i < cs.length), (sm9 l cs[i] != 0) = false) : zer9 l cs = true := by
  unfold zer9
  rw [List.all_eq_true]
  intro c hc
  obtain ⟨i, hi, rfl⟩ := List.getElem_of_mem hc
  simpa using h i hi
theorem zer9_append (l : List Int) (a b : List (List Nat)) : zer9 l (a ++ b) = (zer9 l a && zer9 l b) := by unfold zer9; exact List.all_append
/-- a chain that sums up to nothing at each vertex -/
def cyc9 (l : List Int) (f g : Nat → Nat) (m : Nat) : Bool := zer9 l (cycs f m ++ cycs g m)
theorem pick2_perm {f g : Nat → Nat} {m k : Nat} (hd : DesN f g m) : PermN (pick2 f g k) m := by
  unfold pick2
  split
  · exact hd.black
  · exact hd.white
theorem cyc_lt9 {p : Nat → Nat} {m : Nat} (hp : PermN p m) {x : Nat} {c : List Nat} (h1 : c ∈ cycs p m) (h2 : x ∈ c) : x < m :=
  List.mem_range.1 ((cycs_flat hp.2.2.1 hp.2.1).subset (List.mem_flatten.2 ⟨c, h1, h2⟩))
theorem cyc_len9 {p : Nat → Nat} {m : Nat} (hp : PermN p m) {c : List Nat} (h1 : c ∈ cycs p m) : c.length ≤ 16 := by
  have := (lens_pos hp.2.2.1 hp.2.1 (List.mem_map.2 ⟨c, h1, rfl⟩)).2
  have := hp.2.1
  omega
theorem rd_nums {B : Nat} {w : World} {v : Value} {l : List Nat} (h : Own1 B w v l) (hl : l.length ≤ 1000000) : RdZ w v (zs9 l) := by
  have h1 := h.z
  exact OwnZ.rd h1 (by rw [zs9_length]; omega)
set_option maxRecDepth 100000 in
set_option maxHeartbeats 2000000 in
theorem isCycle_any (v : Value) (l : List Int) (f g : Nat → Nat) (m : Nat) (hd : DesN f g m) (hl : l.length = m) (hs : ∀ x ∈ l, -100000 ≤ x ∧ x ≤ 100000) (w : World) (hv : RdZ w v l) :
    Calls Try.prog 75 #[.agg (dv m f g), v] w fun e w' => e = .returned (.bool (cyc9 l f g m)) ∧ Below w.heap.size w w' := by
  have CL := hide fun (k : Nat) w => cycleList_any (pick2 f g k) m (pick2_perm hd) w
  have CB := hide fun (k : Nat) (x : Nat) (c : List Nat) (h1 : c ∈ cycs (pick2 f g k) m) (h2 : x ∈ c) => cyc_lt9 (pick2_perm hd) h1 h2
  have CN := hide fun (k : Nat) (c : List Nat) (h1 : c ∈ cycs (pick2 f g k) m) => cyc_len9 (pick2_perm hd) h1
  have CK := hide fun (k : Nat) => cycs_le (pick2_perm (k := k) hd)
  obtain ⟨r, hr⟩ : ∃ r, r = cyc9 l f g m := ⟨_, rfl⟩
  rw [← hr]
  have HR := hide (hr.trans (zer9_append l (cycs f m) (cycs g m))); clear hr
  have HS := hide hs; clear hs
  have HL := hide hl; clear hl
  have HV := hide hv
  have hm := hd.le
  clear hd
  obtain ⟨A0, c0, rfl, _⟩ := hv.form
  clear hv
  have HH0 := (Holds.start w).blk (dv m f g) 31 w.heap.size rfl
  have hn := dv_n m f g
  go_enter Try.func75, Try.ntmps75
  go_wp2
  go_loopw [14] (fun t wr => ∃ k : Nat, k ≤ 2 ∧ t = .int .i64 k ∧ Hid (∀ j, j < k → zer9 l (cycs (pick2 f g j) m) = true) ∧ Holds w wr [pBlk w.heap.size (dv m f g) 31]) (fun t _ => 2 - (intOf t).toNat)
  case atStart => exact ⟨0, Nat.zero_le _, rfl, hide (fun j h => by omega), HH0⟩
  case round =>
    clear HH0
    obtain ⟨k, hk, rfl, hZ, hH⟩ := hrel
    by_cases hlt : k < 2
    · have hlti : (k : Int) < 2 := by omega
      have cn := hH.cell 0 rfl hn
      have HB := (hH.blk (av (pick2 f g k)) 29 wr.heap.size rfl)
      have cn2 := hH.lt 0 rfl
      have cd2 := hH.cells 0 rfl
      have CL2 := hide fun w => CL.out k w
      have CB2 := hide fun x c h1 h2 => CB.out k x c h1 h2
      have CN2 := hide fun c h1 => CN.out k c h1
      have hK := CK.out k
      have hF1 := hide (fun (h : zer9 l (cycs (pick2 f g k) m) = false) => (by
        rw [HR.out]
        have : k = 0 ∨ k = 1 := by omega
        rcases this with rfl | rfl
        · have e : pick2 f g 0 = f := rfl
          rw [e] at h; rw [h, Bool.false_and]
        · have e : pick2 f g 1 = g := rfl
          rw [e] at h; rw [h, Bool.and_false] : r = false))
      have hF2 := hide (fun (h : zer9 l (cycs (pick2 f g k) m) = true) => (fun (j : Nat) (hj : j < k + 1) => (by
        by_cases e : j = k
        · subst e; exact h
        · exact hZ.out j (by omega) : zer9 l (cycs (pick2 f g j) m) = true)))
      clear hZ
      generalize cycs (pick2 f g k) m = cs at *
      go_wp2_with fail
      refine (CL2.out _).mono ?_
      rintro e w1 ⟨v1, rfl, hb, ho⟩
      obtain ⟨A, c, vs, rfl, hv⟩ := own2_form ho
      have HLV := hide hv.len
      have H1 := (HB.joinL (Holds.ofOwn2 hb hv)).tail
      clear hb ho hv HB hH cn cn2 cd2
      go_wp2
      go_loopw [22] (fun t wq => ∃ i : Nat, i ≤ cs.length ∧ t = .int .i64 i ∧ Hid (∀ j (hj : j < cs.length), j < i → (sm9 l cs[j] != 0) = false) ∧ Holds w wq (pBlk w.heap.size (dv m f g) 31 :: pVals (.slice A cs.length c) vs :: rowsP vs cs)) (fun t _ => cs.length - (intOf t).toNat)
      case atStart => exact ⟨0, Nat.zero_le _, rfl, hide (fun j hj h => by omega), H1⟩
      case round =>
        clear H1
        obtain ⟨i, hi, rfl, hZ, hH⟩ := hrel
        by_cases hil : i < cs.length
        · have hil' : (i : Int) < cs.length := by omega
          obtain ⟨g0, d0, A', c', e0, hvi, x1, hpart⟩ := hH.rowAt HLV.out 1 rfl (fun _ => rfl) hil
          injection e0 with e0 e0a e0b
          subst e0
          clear e0a e0b hvi
          have hmem := List.getElem_mem hil
          have hci := CN2.out _ hmem
          have RU := hide (rd_nums (hH.own1 (i + (1 + 1)) hpart) (by omega))
          have SC := hide fun (w : World) => sumAt_any (.slice A0 l.length c0) (.slice A' cs[i].length c') l cs[i] HS.out (by omega) (fun x hx => by rw [HL.out]; exact CB2.out x _ hmem hx) w
          have RV := hide (HV.out.below hH.low (Nat.le_refl _))
          rcases hz : (sm9 l cs[i] != 0) with _ | _
          · have hZ' := hide (fun (j : Nat) (hj : j < cs.length) (h : j < i + 1) => (by
              by_cases e : j = i
              · subst e; exact hz
              · exact hZ.out j hj (by omega) : (sm9 l cs[j] != 0) = false))
            clear hpart hmem
            generalize cs[i] = ci at *
            generalize sm9 l ci = s at *
            go_wp2_with fail
            refine (SC.out _ RV.out RU.out).mono ?_
            rintro e w2 ⟨rfl, rfl⟩
            go_wp2
            go_roundw
            case rel => exact ⟨i + 1, by omega, by go_num, hZ', hH⟩
            case measure => simp [intOf]; omega
          · have hF := hide (hF1.out (zer9_bad hil hz))
            clear hpart hmem
            generalize cs[i] = ci at *
            generalize sm9 l ci = s at *
            go_wp2_with fail
            refine (SC.out _ RV.out RU.out).mono ?_
            rintro e w2 ⟨rfl, rfl⟩
            go_wp2
            go_ret
            exact ⟨by rw [hF.out]; rfl, hH.low⟩
        · obtain rfl : i = cs.length := by omega
          have hF := hide (hF2.out (zer9_good fun j hj => hZ.out j hj hj))
          have hH2 := hH.sub (L' := [pBlk w.heap.size (dv m f g) 31]) (.cons_cons _ (List.nil_sublist _))
          clear hZ hH hi hil
          go_wp2
          go_roundw
          case rel => exact ⟨k + 1, by omega, by go_num, hF, hH2⟩
          case measure => simp [intOf]; omega
    · obtain rfl : k = 2 := by omega
      have hF := hide (show r = true by rw [HR.out]; have a := hZ.out 0 (by omega); have b := hZ.out 1 (by omega); exact (Bool.and_eq_true _ _).mpr ⟨a, b⟩)
      clear hZ hk hlt
      go_wp2
      go_ret
      exact ⟨by rw [hF.out]; rfl, hH.low⟩
end Go.Proofs.Ytmapjjfefjoemaa

namespace Go.Proofs.Ytmapjjfefjoemaa
open Go.RowKit

set_option maxRecDepth 100000 in
set_option maxHeartbeats 2000000 in
theorem split_any (e0 e1 : Nat → Nat) (he : ∀ x, x < 16 → e0 x < 32 ∧ e1 x < 32) (v : Value) (l : List Nat) (hl : ∀ x ∈ l, x < 16) (hn : l.length ≤ 16) (w : World) (hv : RdZ w v (zs9 l)) :
    Calls Try.prog 108 #[.agg (nv9 (lk9 e0 e1)), v] w fun e w' => ∃ v1 v2, e = .returned (.tuple #[v1, v2]) ∧ Holds w w' [pInts v1 (spl9 e0 e1 l).1, pInts v2 (spl9 e0 e1 l).2] := by
  obtain ⟨A, c, rfl, _⟩ := hv.form
  have HV := hide hv; clear hv
  rw [zs9_length]
  have HE := hide he; clear he
  have HL := hide hl; clear hl
  have CP := hide fun v c hc hn w hv => pieces_any e0 e1 HE.out v c hc hn w hv
  have HM := hide fun k x => spl9_mem e0 e1 (l.take k) x
  have HN := hide fun k => spl9_len e0 e1 (l.take k)
  have HT := hide fun k (h : k < l.length) => spl9_take e0 e1 l h
  have HH0 := (Holds.start w).blk (nv9 (lk9 e0 e1)) 118 w.heap.size rfl
  have HH1 := (HH0.nilRow 2 1).nilRow 2 1
  go_enter Try.func108, Try.ntmps108
  go_wp2
  go_loopw [4, 5, 11] (fun q1 q2 t wr => ∃ i : Nat, i ≤ l.length ∧ t = .int .i64 i ∧ Holds w wr [pInts q1 (spl9 e0 e1 (l.take i)).1, pInts q2 (spl9 e0 e1 (l.take i)).2, pBlk w.heap.size (nv9 (lk9 e0 e1)) 118]) (fun _ _ t _ => l.length - (intOf t).toNat)
  case atStart => exact ⟨0, Nat.zero_le _, rfl, HH1⟩
  case round =>
    clear HH0 HH1
    obtain ⟨i, hi, rfl, hH⟩ := hrel
    have hnn := HN.out i
    rw [List.length_take] at hnn
    by_cases hil : i < l.length
    · have hil' : i < (zs9 l).length := by rw [zs9_length]; exact hil
      obtain ⟨p0, rfl, _, d1⟩ := (HV.out.below hH.low (Nat.le_refl _)).at hil'
      rw [zs9_get hil] at d1
      have hx := HL.out _ (List.getElem_mem hil)
      have hst := HT.out i hil
      have hmem := fun x h => HL.out x (List.mem_of_mem_take ((HM.out i x).2 (.inl h)))
      obtain ⟨s, hs⟩ : ∃ s, s = spl9 e0 e1 (l.take i) := ⟨_, rfl⟩
      rw [← hs] at hH hst hmem hnn
      generalize l[i] = x at *
      clear hs hil'
      obtain ⟨c1, o1⟩ := s
      simp only at hH hnn hmem
      have RC := hide (rd_nums (hH.own1 0 rfl) (by omega))
      have CP2 := hide fun v w hv => CP.out v c1 hmem (by omega) w hv
      have hst' := hst
      unfold spst9 at hst'
      simp only at hst'
      have hpl := pcs9_lt (e0 := e0) (e1 := e1) c1 (fun y hy => HE.out y (hmem y hy))
      clear hst hmem
      obtain ⟨hx0, hx1⟩ := HE.out x hx
      generalize pcs9 e0 e1 c1 = h at *
      have HST := hide hst'; clear hst'
      have cd := hH.cells 2 rfl
      obtain ⟨A1, n1, rfl⟩ := hH.intsForm 0 rfl
      obtain ⟨A2, n2, rfl⟩ := hH.intsForm 1 rfl
      have y0 := nv9_e0 e0 e1 hx
      have y1 := nv9_e1 e0 e1 hx
      have hxi : (x : Int) < 16 := by omega
      generalize e0 x = a0 at *
      generalize e1 x = a1 at *
      have q0 : (a0 : Int) < 32 := by omega
      have q1 : (a1 : Int) < 32 := by omega
      have y2 := nv9_get h hx0
      have y3 := nv9_get h hx1
      have hk0 := hpl a0 hx0
      have hk1 := hpl a1 hx1
      generalize h a0 = k0 at *
      generalize h a1 = k1 at *
      clear hpl
      go_wp2_with fail
      refine (CP2.out _ _ RC.out).mono ?_
      rintro e w1 ⟨rfl, hb⟩
      have H1 := hH.call hb
      have HB := H1.blk (nv9 h) 122 w1.heap.size rfl
      clear hb hH cd d1
      go_wp2
      have HB2 := hide HB
      have z0 := HB.cell 3 rfl y0
      have z1 := HB.cell 3 rfl y1
      have z2 := HB.cell 0 rfl y2
      have z3 := HB.cell 0 rfl y3
      clear HB H1
      generalize w1.alloc (.cells (nv9 h) 122) = w2 at *
      have hln1 : c1.length < 9223372036854775807 := by omega
      by_cases hq : k0 = k1
      · have hne : ((k0 : Int) != (k1 : Int)) = false := by simp; omega
        rw [if_pos hq] at HST
        clear hq
        go_quiet (fail)
        have hHz := HB2.out.drewN nq
        clear HB2 z0 z1 z2 z3
        generalize w2.drewN nq = wz at *
        go_wp2_with (at_builtin; refine appI ((hHz.tail).alloc _) 1 rfl wz.heap.size [x] 2 ?_ ?_ rfl _ _ rfl rfl rfl ?_)
        · exact heap_at _ _ _ rfl
        · simp only [List.length_cons, List.length_nil]; omega
        intro v' w' h1
        have HQ := hide h1
        clear hHz h1
        go_wp2
        go_roundw
        case rel => exact ⟨i + 1, by omega, by go_num, by rw [HST.out]; exact HQ.out⟩
        case measure => simp [intOf]; omega
      · have hne : ((k0 : Int) != (k1 : Int)) = true := by simp; omega
        rw [if_neg hq] at HST
        clear hq
        go_quiet (fail)
        have hHz := HB2.out.drewN nq
        clear HB2 z0 z1 z2 z3
        generalize w2.drewN nq = wz at *
        go_wp2_with (at_builtin; refine appI ((hHz.tail).alloc _) 0 rfl wz.heap.size [x] 2 ?_ ?_ rfl _ _ rfl rfl rfl ?_)
        · exact heap_at _ _ _ rfl
        · simp only [List.length_cons, List.length_nil]; omega
        intro v' w' h1
        have HQ := hide h1
        clear hHz h1
        go_wp2
        go_roundw
        case rel => exact ⟨i + 1, by omega, by go_num, by rw [HST.out]; exact HQ.out⟩
        case measure => simp [intOf]; omega
    · obtain rfl : i = l.length := by omega
      rw [List.take_length] at hH
      have HQ := hide (hH.sub (L' := [pInts u4 (spl9 e0 e1 l).1, pInts u5 (spl9 e0 e1 l).2]) (.cons_cons _ (.cons_cons _ (.cons _ (.refl _)))))
      clear hi hil hH hnn
      go_wp2
      go_ret2
      exact ⟨_, _, rfl, HQ.out⟩
end Go.Proofs.Ytmapjjfefjoemaa

namespace Go.Proofs.Ytmapjjfefjoemaa.Rc
open Go.RowKit

section
variable (P : Program) (md : Region.Mode) (ops : Array Oper) (C : World → Prop) (E : Nat → Option (Value → World → Prop)) (K : Act → World → Prop)

def uponE (R : Value → World → Prop) (w : World) : Result Next → Prop
  | .ok (.value u) w' => C w' ∧ R u w'
  | .ok .skip w' => C w' ∧ R undef w'
  | .ok (.enter f args) w' => w' = w ∧ Calls P f args w (fun e w'' => ∃ v, e = .returned v ∧ C w'' ∧ R v w'')
  | _ => False

/-- one operation, and what follows -/
def opV (i : Nat) (N : Act → (World → Prop) → Prop) (a : Act) (D : World → Prop) : Prop :=
  match ops[i]? with
  | none => N a D
  | some o =>
    if Region.wanted o (yielded ops a.tmps) then
      match E i with
      | some R => (∀ w, C w → D w → uponE P C R w ((execOp a.eval o).run P w)) ∧ ∀ v, (∃ w, C w ∧ R v w) → N (a.put o.dst v) (R v)
      | none => ∃ v, (∀ w, C w → atG P o a w v) ∧ N (a.put o.dst v) D
    else N (a.put o.dst undef) D

theorem opV_mono {i : Nat} {N N' : Act → (World → Prop) → Prop} {a : Act} {D : World → Prop} (h : ∀ a D, N a D → N' a D) (hh : opV P ops C E i N a D) : opV P ops C E i N' a D := by
  unfold opV at *
  split
  · rename_i ho; simp only [ho] at hh; exact h _ _ hh
  · rename_i o ho
    simp only [ho] at hh
    split
    · rename_i hw
      rw [if_pos hw] at hh
      split
      · rename_i R hR; simp only [hR] at hh; exact ⟨hh.1, fun v hv => h _ _ (hh.2 v hv)⟩
      · rename_i hR
        simp only [hR] at hh
        obtain ⟨v, h1, h2⟩ := hh; exact ⟨v, h1, h _ _ h2⟩
    · rename_i hw; rw [if_neg hw] at hh; exact h _ _ hh

/-- whatever order is picked -/
def anyV : Nat → Array Bool → Act → (World → Prop) → Prop
  | 0, done, a, D => Region.ready md ops done = [] ∧ ∀ w, C w → D w → K a w
  | f + 1, done, a, D => (Region.ready md ops done = [] → ∀ w, C w → D w → K a w) ∧ ∀ i ∈ Region.ready md ops done, opV P ops C E i (anyV f (done.setIfInBounds i true)) a D

theorem op_sound (hC : ∀ w w', C w → Below w.heap.size w w' → C w') (hE : ∀ i R, E i = some R → ∀ v, Stable (R v)) {i : Nat} {N : Act → (World → Prop) → Prop} {K' : Act → World → Prop} {Q : Exit → Act → World → Prop} {a : Act} {D : World → Prop} {w : World} (hD : Stable D) (hw : C w) (hDw : D w)
    (hN : ∀ a D w, Stable D → C w → D w → N a D → K' a w) (h : opV P ops C E i N a D) : wpOp P ops Q i K' a w := by
  unfold opV at h
  unfold wpOp
  split
  · rename_i ho; simp only [ho] at h; exact hN _ _ _ hD hw hDw h
  · rename_i o ho
    simp only [ho] at h
    split
    · rename_i hwa
      rw [if_pos hwa] at h
      refine .inl ?_
      unfold Oper.wp
      rcases hEi : E i with _ | R
      · simp only [hEi] at h
        obtain ⟨v, h1, h2⟩ := h
        have h3 := h1 w hw
        unfold atG at h3
        generalize (execOp a.eval o).run P w = r at *
        cases r with
        | ok n w' =>
          cases n <;> simp only [uponG] at h3 <;> simp only [Oper.upon]
          case value u => obtain ⟨e1, e2⟩ := h3; rw [e1, e2]; exact hN _ _ _ hD hw hDw h2
          case skip => obtain ⟨e1, e2⟩ := h3; rw [e1, ← e2]; exact hN _ _ _ hD hw hDw h2
          case enter f args => obtain ⟨e1, hc⟩ := h3; rw [e1]; exact hc.mono fun e w'' ⟨he, hb⟩ => by subst he; exact hN _ _ _ hD (hC _ _ hw hb) (hD _ _ hDw hb) h2
        | halt x w' => simp only [uponG] at h3
      · simp only [hEi] at h
        have h3 := h.1 w hw hDw
        generalize (execOp a.eval o).run P w = r at *
        cases r with
        | ok n w' =>
          cases n <;> simp only [uponE] at h3 <;> simp only [Oper.upon]
          case value u => exact hN _ _ _ (hE _ _ hEi u) h3.1 h3.2 (h.2 u ⟨_, h3⟩)
          case skip => exact hN _ _ _ (hE _ _ hEi undef) h3.1 h3.2 (h.2 undef ⟨_, h3⟩)
          case enter f args =>
            obtain ⟨e1, hc⟩ := h3
            rw [e1]
            refine hc.mono ?_
            rintro e w'' ⟨v, he, hb, hr⟩
            subst he
            exact hN _ _ _ (hE _ _ hEi v) hb hr (h.2 v ⟨_, hb, hr⟩)
        | halt x w' => simp only [uponE] at h3
    · rename_i hwa; rw [if_neg hwa] at h; exact hN _ _ _ hD hw hDw h

theorem anyV_any (hC : ∀ w w', C w → Below w.heap.size w w' → C w') (hE : ∀ i R, E i = some R → ∀ v, Stable (R v)) {Q : Exit → Act → World → Prop} (hQ : ∀ a w, K a w → Q .normal a w) (f : Nat) : ∀ (done : Array Bool) (a : Act) (D : World → Prop) (w : World), Stable D → C w → D w →
    anyV P md ops C E K f done a D → wpAny P md ops Q f done a w := by
  induction f with
  | zero => intro done a D w _ hw hDw h; exact ⟨h.1, hQ _ _ (h.2 w hw hDw)⟩
  | succ f ih =>
    intro done a D w hD hw hDw h
    exact ⟨fun e => hQ _ _ (h.1 e w hw hDw), fun i hi => op_sound P ops C E hC hE hD hw hDw (fun a' D' w' h1 h2 h3 h4 => ih _ a' D' w' h1 h2 h3 h4) (h.2 i hi)⟩

def YieldsG (o : Oper) (v : Value) (a : Act) : Prop :=
  (Region.wanted o (yielded ops a.tmps) = true ∧ ∀ w, C w → atG P o a w v) ∨ (Region.wanted o (yielded ops a.tmps) = false ∧ v = undef)

theorem YieldsG.op {i : Nat} {o : Oper} {v : Value} {a : Act} {D : World → Prop} (hi : ops[i]? = some o) (hE : E i = none) (hy : YieldsG P ops C o v a) {N : Act → (World → Prop) → Prop} (h : N (a.put o.dst v) D) : opV P ops C E i N a D := by
  unfold opV
  simp only [hi, hE]
  rcases hy with ⟨hw, hv⟩ | ⟨hw, rfl⟩
  · rw [if_pos hw]; exact ⟨v, hv, h⟩
  · rw [if_neg (by simp [hw])]; exact h

theorem yieldsG_of {i : Nat} {o : Oper} {a : Act} {D : World → Prop} {N : Act → (World → Prop) → Prop} (hi : ops[i]? = some o) (hE : E i = none) (h : opV P ops C E i N a D) : ∃ v, YieldsG P ops C o v a ∧ N (a.put o.dst v) D := by
  unfold opV at h
  simp only [hi, hE] at h
  by_cases hw : Region.wanted o (yielded ops a.tmps) = true
  · rw [if_pos hw] at h
    obtain ⟨v, h1, h2⟩ := h
    exact ⟨v, .inl ⟨hw, h1⟩, h2⟩
  · rw [if_neg hw] at h
    exact ⟨undef, .inr ⟨by simpa using hw, rfl⟩, h⟩

theorem opV_put {j : Nat} {oi oj : Oper} {v : Value} (hj : ops[j]? = some oj) (hap : oi.apart ops oj = true) (hsi : ∀ cs b, oi.op ≠ .select cs b) (hsj : ∀ cs b, oj.op ≠ .select cs b)
    {N : Act → (World → Prop) → Prop} {a : Act} {D : World → Prop} (hy : YieldsG P ops C oi v a) (h : opV P ops C E j N (a.put oi.dst v) D) :
    opV P ops C E j (fun a' D' => YieldsG P ops C oi v a' ∧ N (a'.put oi.dst v) D') a D := by
  obtain ⟨h1, h2, h3⟩ := Oper.apart_spec hap
  have keep : ∀ u, YieldsG P ops C oi v (a.put oj.dst u) := fun u => by
    have e1 := execOp_put oi hsi a oj.dst u h3
    have e2 := wanted_put oi a oj.dst u h3
    unfold YieldsG atG at *
    rw [e1, e2]; exact hy
  unfold opV at *
  simp only [hj] at *
  rw [wanted_put oj a oi.dst v h1, execOp_put oj hsj a oi.dst v h1] at h
  have ep : ∀ u, (a.put oj.dst u).put oi.dst v = (a.put oi.dst v).put oj.dst u := fun u => (Act.put_comm a v u h2).symm
  by_cases hw : Region.wanted oj (yielded ops a.tmps) = true
  · rw [if_pos hw] at h ⊢
    rcases hE : E j with _ | R
    · simp only [hE] at h ⊢
      obtain ⟨u, k1, k2⟩ := h
      refine ⟨u, fun w hg => ?_, keep _, by rw [ep]; exact k2⟩
      have := k1 w hg
      unfold atG at *
      rwa [execOp_put oj hsj a oi.dst v h1] at this
    · simp only [hE] at h ⊢
      exact ⟨h.1, fun u hu => ⟨keep _, by rw [ep]; exact h.2 u hu⟩⟩
  · rw [if_neg hw] at h ⊢
    exact ⟨keep _, by rw [ep]; exact h⟩

theorem anyV_first {i : Nat} {o : Oper} {v : Value} (hi : ops[i]? = some o) (hE : E i = none) (hsel : ∀ (j : Nat) (o : Oper) cs b, ops[j]? = some o → o.op ≠ .select cs b) (f : Nat) :
    ∀ (done : Array Bool) (a : Act) (D : World → Prop),
      (∀ j oj, ops[j]? = some oj → j ≠ i → done.getD j true = false → (∀ e ∈ oj.after, Region.binds md e = true → e.on ≠ i) → o.apart ops oj = true) →
      i ∈ Region.ready md ops done → YieldsG P ops C o v a →
      anyV P md ops C E K f (done.setIfInBounds i true) (a.put o.dst v) D → anyV P md ops C E K (f + 1) done a D := by
  induction f with
  | zero =>
    intro done a D _ hr hy H
    refine ⟨fun e => (by rw [e] at hr; cases hr), fun j hj => ?_⟩
    by_cases e : j = i
    · subst e; exact hy.op P ops C E hi hE H
    · have := ready_mono hj e
      rw [H.1] at this; cases this
  | succ f ih =>
    intro done a D hfree hr hy H
    refine ⟨fun e => (by rw [e] at hr; cases hr), fun j hj => ?_⟩
    by_cases e : j = i
    · subst e; exact hy.op P ops C E hi hE H
    · obtain ⟨hjun, oj, hoj, hall⟩ := mem_ready.1 hj
      have hun := (mem_ready.1 hr).1
      have hno : ∀ e ∈ oj.after, Region.binds md e = true → e.on ≠ i := fun e he hb h => by
        have := hall e he hb
        rw [h, getD_both hun] at this
        cases this
      refine opV_mono P ops C E (fun a' D' h3 => ih (done.setIfInBounds j true) a' D' (fun k' ok hk hki hk' hnk => hfree k' ok hk hki ?_ hnk) (ready_mono hr (Ne.symm e)) h3.1 ?_)
        (opV_put P ops C E hoj (hfree j oj hoj e hjun hno) (fun cs b => hsel i o cs b hi) (fun cs b => hsel j oj cs b hoj) hy (H.2 j (ready_mono hj e)))
      · by_cases e' : j = k'
        · subst e'; exact hjun
        · rw [getD_set_ne true e'] at hk'; exact hk'
      · rw [Array.setIfInBounds_comm _ _ e]; exact h3.2

def walkV : Plan → Act → (World → Prop) → Prop
  | .fin, a, D => ∀ w, C w → D w → K a w
  | .q k p, a, D => opV P ops C E k (walkV p) a D
  | .s1 k p, a, D => opV P ops C E k (walkV p) a D
  | .s2 k1 p1 k2 p2, a, D => opV P ops C E k1 (walkV p1) a D ∧ opV P ops C E k2 (walkV p2) a D
  | .s3 k1 p1 k2 p2 k3 p3, a, D => opV P ops C E k1 (walkV p1) a D ∧ opV P ops C E k2 (walkV p2) a D ∧ opV P ops C E k3 (walkV p3) a D

theorem anyV_walk (hsel : Region.noSelect ops = true) (sp : List Nat) (hsp : ∀ k, sp.contains k = false → E k = none) (p : Plan) :
    ∀ (f : Nat) (done : Array Bool) (a : Act) (D : World → Prop), planB md ops sp f p done = true → walkV P ops C E K p a D → anyV P md ops C E K f done a D := by
  induction p with
  | fin =>
    intro f done a D hB h
    cases f with
    | zero => exact ⟨by simpa [planB] using hB, h⟩
    | succ f =>
      have e : Region.ready md ops done = [] := by simpa [planB] using hB
      exact ⟨fun _ => h, fun i hi => by rw [e] at hi; cases hi⟩
  | q k p ih =>
    intro f done a D hB h
    cases f with
    | zero => simp [planB] at hB
    | succ f =>
      simp only [planB, Bool.and_eq_true, decide_eq_true_eq, Bool.not_eq_true'] at hB
      obtain ⟨hc, ⟨hr, hfree⟩, hk, hB'⟩ := hB
      have hE := hsp k hc
      have hi : ops[k]? = some ops[k] := Array.getElem?_eq_getElem hk
      obtain ⟨v, hy, hK⟩ := yieldsG_of P ops C E hi hE h
      exact anyV_first P md ops C E K hi hE (Region.noSelect_spec hsel) f done a D (Region.free_spec hi hfree) (by simpa using hr) hy (ih _ _ _ _ hB' hK)
  | s1 k p ih =>
    intro f done a D hB h
    cases f with
    | zero => simp [planB] at hB
    | succ f =>
      simp only [planB, Bool.and_eq_true, decide_eq_true_eq] at hB
      obtain ⟨hr, hB'⟩ := hB
      refine ⟨fun e => (by rw [hr] at e; cases e), fun i hi => ?_⟩
      rw [hr] at hi
      obtain rfl : i = k := by simpa using hi
      exact opV_mono P ops C E (fun a' D' h' => ih _ _ _ _ hB' h') h
  | s2 k1 p1 k2 p2 ih1 ih2 =>
    intro f done a D hB h
    cases f with
    | zero => simp [planB] at hB
    | succ f =>
      simp only [planB, Bool.and_eq_true, decide_eq_true_eq] at hB
      obtain ⟨hr, hB1, hB2⟩ := hB
      refine ⟨fun e => (by rw [hr] at e; cases e), fun i hi => ?_⟩
      rw [hr] at hi
      simp only [List.mem_cons, List.not_mem_nil, or_false] at hi
      rcases hi with rfl | rfl
      · exact opV_mono P ops C E (fun a' D' h' => ih1 _ _ _ _ hB1 h') h.1
      · exact opV_mono P ops C E (fun a' D' h' => ih2 _ _ _ _ hB2 h') h.2
  | s3 k1 p1 k2 p2 k3 p3 ih1 ih2 ih3 =>
    intro f done a D hB h
    cases f with
    | zero => simp [planB] at hB
    | succ f =>
      simp only [planB, Bool.and_eq_true, decide_eq_true_eq] at hB
      obtain ⟨hr, hB1, hB2, hB3⟩ := hB
      refine ⟨fun e => (by rw [hr] at e; cases e), fun i hi => ?_⟩
      rw [hr] at hi
      simp only [List.mem_cons, List.not_mem_nil, or_false] at hi
      rcases hi with rfl | rfl | rfl
      · exact opV_mono P ops C E (fun a' D' h' => ih1 _ _ _ _ hB1 h') h.1
      · exact opV_mono P ops C E (fun a' D' h' => ih2 _ _ _ _ hB2 h') h.2.1
      · exact opV_mono P ops C E (fun a' D' h' => ih3 _ _ _ _ hB3 h') h.2.2
end

/-- a region by parts of memory: w0, L what the class holds; L1 what stands at the start beside it -/
theorem region_P {P : Program} {id : Nat} {Q : Exit → Act → World → Prop} {a : Act} {w w0 : World} {l : List Oper} (L : List Part) (L1 : List Part) (E : Nat → Option (Value → World → Prop)) (sp : List Nat) (p : Plan) (H : Holds w0 w L1) (hL : L.Sublist L1)
    (hE : ∀ i R, E i = some R → ∀ v, Stable (R v)) (hm : P.follows .mixedOrders = true)
    (hsel : Region.noSelect l.toArray = true) (hB : planB .any l.toArray sp l.toArray.size p (Array.replicate l.toArray.size false) = true) (hsp : ∀ k, sp.contains k = false → E k = none)
    (h : walkV P l.toArray (fun wx => Holds w0 wx L) E (fun a' w' => Q .normal a' w') p a (fun wx => Holds w0 wx L1)) : (Code.region id l.toArray true).wp P Q a w := by
  refine wp_region_any hm ?_
  exact anyV_any (Q := Q) P .any l.toArray (fun wx => Holds w0 wx L) E (fun a' w' => Q .normal a' w') (fun _ _ h hb => h.call hb) hE (fun _ _ h => h) _ _ _ _ w.drew (fun _ _ h hb => h.call hb) (H.drew.sub hL) H.drew
    (anyV_walk P .any l.toArray (fun wx => Holds w0 wx L) E (fun a' w' => Q .normal a' w') hsel sp hsp p _ _ a _ hB h)

section
variable {P : Program} {ops : Array Oper} {C : World → Prop} {E : Nat → Option (Value → World → Prop)} {k : Nat} {a : Act} {D : World → Prop} {N : Act → (World → Prop) → Prop}
theorem v_q {o : Oper} (ho : ops[k]? = some o) (hE : E k = none) (hw : Region.wanted o (yielded ops a.tmps) = true) {v : Value} (h1 : ∀ w, C w → atG P o a w v) (h2 : N (a.put o.dst v) D) : opV P ops C E k N a D := by
  unfold opV
  simp only [ho, hE]
  rw [if_pos hw]
  exact ⟨v, h1, h2⟩
theorem v_s {o : Oper} {R : Value → World → Prop} (ho : ops[k]? = some o) (hE : E k = some R) (hw : Region.wanted o (yielded ops a.tmps) = true) (h1 : ∀ w, C w → D w → uponE P C R w ((execOp a.eval o).run P w))
    (h2 : ∀ v, (∃ w, C w ∧ R v w) → N (a.put o.dst v) (R v)) : opV P ops C E k N a D := by
  unfold opV
  simp only [ho, hE]
  rw [if_pos hw]
  exact ⟨h1, h2⟩
end
/-- a list of cells laid for an append -/
def rBuild (w0 : World) (cells : Array Value) (t : TypeId) (k : Nat) (L : List Part) : Value → World → Prop := fun v w => ∃ g, v = .slice (some ⟨g, 0, none⟩) k k ∧ Holds w0 w (pBlk g cells t :: L)
theorem rBuild_stable {w0 : World} {cells : Array Value} {t : TypeId} {k : Nat} {L : List Part} (v : Value) : Stable (rBuild w0 cells t k L v) := fun _ _ ⟨g, e, h⟩ hb => ⟨g, e, h.call hb⟩
/-- a relation of one value that is told by parts -/
def rHolds (w0 : World) (L : Value → List Part) : Value → World → Prop := fun v w => Holds w0 w (L v)
theorem rHolds_stable {w0 : World} {L : Value → List Part} (v : Value) : Stable (rHolds w0 L v) := fun _ _ h hb => h.call hb
end Go.Proofs.Ytmapjjfefjoemaa.Rc

namespace Go.Proofs.Ytmapjjfefjoemaa
open Go.RowKit

def pairB (l : List (Nat × Nat)) : List Value := l.flatMap fun p => [Value.int .u8 (p.1 : Int), Value.int .u8 (p.2 : Int)]
theorem pairB_length (l : List (Nat × Nat)) : (pairB l).length = l.length * 2 := by unfold pairB; induction l <;> simp_all <;> omega
theorem pairB_append (l l' : List (Nat × Nat)) : pairB (l ++ l') = pairB l ++ pairB l' := by unfold pairB; simp
theorem pairB_at {l : List (Nat × Nat)} {k : Nat} (hk : k < l.length) : (pairB l)[k * 2]? = some (.int .u8 (l[k].1 : Int)) ∧ (pairB l)[k * 2 + 1]? = some (.int .u8 (l[k].2 : Int)) := by
  induction l generalizing k with
  | nil => simp at hk
  | cons p l ih =>
    rcases k with _ | k
    · exact ⟨rfl, rfl⟩
    · have := ih (k := k) (by simpa using hk)
      have e : pairB (p :: l) = [Value.int .u8 (p.1 : Int), Value.int .u8 (p.2 : Int)] ++ pairB l := rfl
      rw [e, List.getElem?_append_right (by simp; omega), List.getElem?_append_right (by simp; omega)]
      simp only [List.length_cons, List.length_nil, List.getElem_cons_succ]
      rw [show (k + 1) * 2 - (0 + 1 + 1) = k * 2 by omega, show (k + 1) * 2 + 1 - (0 + 1 + 1) = k * 2 + 1 by omega]
      exact this
theorem pairB_one {l : List (Nat × Nat)} : ∀ u ∈ pairB l, u.oneCell' = true := by
  intro u hu
  unfold pairB at hu
  obtain ⟨p, _, hp⟩ := List.mem_flatMap.1 hu
  simp at hp
  rcases hp with rfl | rfl <;> rfl
-- left out here: None
-- left out here: None
-- left out here: None
-- left out here: pPairs
-- left out here: pPairs
-- left out here: None
-- left out here: None
-- left out here: None
-- left out here: loop.example/g01200/impl.pairAfter
end Go.Proofs.Ytmapjjfefjoemaa
