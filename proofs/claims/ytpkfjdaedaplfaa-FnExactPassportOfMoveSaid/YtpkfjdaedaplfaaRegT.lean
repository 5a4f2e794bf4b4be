/- A region that draws its order: a head by a plan of quiet and special operations, then a tail in one forced order that waits for all of the head. -/
import Derived.Test.YtpkfjdaedaplfaaRegD
import Derived.Test.YtpkfjdaedaplfaaQTail
namespace Go.Proofs.Ytpkfjdaedaplfaa.Rd
open Go.RowKit

section
variable (P : Program) (md : Region.Mode) (ops : Array Oper) (C : World → Prop) (E : Nat → Bool) (K : Act → World → Prop)

/-- k operations more, all below n, whichever comes up; then L -/
def anyT (n : Nat) (L : Array Bool → Act → (World → Prop) → Prop) : Nat → Array Bool → Act → (World → Prop) → Prop
  | 0, done, a, D => L done a D
  | k + 1, done, a, D => Region.ready md ops done ≠ [] ∧ ∀ i ∈ Region.ready md ops done, i < n ∧ opV P ops C E i (anyT n L k (done.setIfInBounds i true)) a D

theorem anyT_any (hC : ∀ w w', C w → Below w.heap.size w w' → C w') {n g : Nat} {L : Array Bool → Act → (World → Prop) → Prop} {Q : Exit → Act → World → Prop} (hL : ∀ done a D w, C w → D w → L done a D → wpAny P md ops Q g done a w) (k : Nat) :
    ∀ (done : Array Bool) (a : Act) (D : World → Prop) (w : World), Stable D → C w → D w → anyT P md ops C E n L k done a D → wpAny P md ops Q (k + g) done a w := by
  induction k with
  | zero => intro done a D w _ hw hDw h; rw [Nat.zero_add]; exact hL _ _ _ _ hw hDw h
  | succ k ih =>
    intro done a D w hD hw hDw h
    rw [show k + 1 + g = (k + g) + 1 by omega]
    exact ⟨fun e => absurd e h.1, fun i hi => op_sound P ops C E hC hD hw hDw (fun a' D' w' h1 h2 h3 h4 => ih _ a' D' w' h1 h2 h3 h4) (h.2 i hi).2⟩

theorem anyT_first {n i : Nat} {o : Oper} {v : Value} {L : Array Bool → Act → (World → Prop) → Prop} (hi : ops[i]? = some o) (hE : E i = false) (hsel : ∀ (j : Nat) (o : Oper) cs b, ops[j]? = some o → o.op ≠ .select cs b)
    (hs : Region.sinkB md ops n = true) (hc : Region.chainB md ops n = true) (hn : n < ops.size) (hin : i < n) (hdone : ∀ done a D, L done a D → ∀ j ∈ Region.ready md ops done, n ≤ j) (k : Nat) :
    ∀ (done : Array Bool) (a : Act) (D : World → Prop), HeadInv md ops n done →
      (∀ j oj, ops[j]? = some oj → j ≠ i → done.getD j true = false → (∀ e ∈ oj.after, Region.binds md e = true → e.on ≠ i) → o.apart ops oj = true) →
      i ∈ Region.ready md ops done → YieldsG P ops C o v a →
      anyT P md ops C E n L k (done.setIfInBounds i true) (a.put o.dst v) D → anyT P md ops C E n L (k + 1) done a D := by
  have low : ∀ (done : Array Bool), HeadInv md ops n done → i ∈ Region.ready md ops done → ∀ j ∈ Region.ready md ops done, j < n := by
    intro done inv hr j hj
    rcases Nat.lt_or_ge j n with h | h
    · exact h
    · exact absurd hj (tail_waits hs hc hn inv _ i rfl hin (mem_ready.1 hr).1 j h)
  have some_ready : ∀ (done : Array Bool), i ∈ Region.ready md ops done → Region.ready md ops done ≠ [] := fun done hr e => by rw [e] at hr; cases hr
  induction k with
  | zero =>
    intro done a D inv _ hr hy H
    refine ⟨some_ready done hr, fun j hj => ⟨low done inv hr j hj, ?_⟩⟩
    by_cases e : j = i
    · subst e; exact hy.op P ops C E hi hE H
    · have := hdone _ _ _ H j (ready_mono hj e)
      have := low done inv hr j hj
      omega
  | succ k ih =>
    intro done a D inv hfree hr hy H
    refine ⟨some_ready done hr, fun j hj => ⟨low done inv hr j hj, ?_⟩⟩
    by_cases e : j = i
    · subst e; exact hy.op P ops C E hi hE H
    · obtain ⟨hjun, oj, hoj, hall⟩ := mem_ready.1 hj
      have hun := (mem_ready.1 hr).1
      have hno : ∀ e ∈ oj.after, Region.binds md e = true → e.on ≠ i := fun e he hb h => by
        have := hall e he hb
        rw [h, getD_both hun] at this
        cases this
      refine opV_mono P ops C E (fun a' D' h3 => ih (done.setIfInBounds j true) a' D' (inv.set hj (low done inv hr j hj)) (fun k' ok hk hki hk' hnk => hfree k' ok hk hki ?_ hnk) (ready_mono hr (Ne.symm e)) h3.1 ?_)
        (opV_put P ops C E hoj (hfree j oj hoj e hjun hno) (fun cs b => hsel i o cs b hi) (fun cs b => hsel j oj cs b hoj) hy (H.2 j (ready_mono hj e)).2)
      · by_cases e' : j = k'
        · subst e'; exact hjun
        · rw [getD_set_ne true e'] at hk'; exact hk'
      · rw [Array.setIfInBounds_comm _ _ e]; exact h3.2

/-- a plan of the head, and that the tail is forced -/
def planT (sp : List Nat) (n g : Nat) : Plan → Nat → Array Bool → Bool
  | .fin, k, done => decide (k = 0) && Region.seqB md ops g n done
  | .q i p, k, done => !sp.contains i && ((Region.ready md ops done).contains i && Region.free md ops done i && (decide (i < ops.size) && (decide (i < n) && (decide (0 < k) && planT sp n g p (k - 1) (done.setIfInBounds i true)))))
  | .s1 i p, k, done => decide (Region.ready md ops done = [i]) && (decide (i < n) && (decide (0 < k) && planT sp n g p (k - 1) (done.setIfInBounds i true)))
  | .s2 _ _ _ _, _, _ => false
  | .s3 _ _ _ _ _ _, _, _ => false

theorem anyT_walk (hsel : Region.noSelect ops = true) (sp : List Nat) (hsp : ∀ k, sp.contains k = false → E k = false) {n g : Nat} (hs : Region.sinkB md ops n = true) (hc : Region.chainB md ops n = true) (hn : n < ops.size) (p : Plan) :
    ∀ (k : Nat) (done : Array Bool) (a : Act) (D : World → Prop), HeadInv md ops n done → planT md ops sp n g p k done = true → walkV P ops C E K p a D →
      anyT P md ops C E n (fun done' a' D' => Region.seqB md ops g n done' = true ∧ ∀ w, C w → D' w → K a' w) k done a D := by
  induction p with
  | fin =>
    intro k done a D _ hB h
    simp only [planT, Bool.and_eq_true, decide_eq_true_eq] at hB
    obtain ⟨rfl, hB⟩ := hB
    exact ⟨hB, h⟩
  | q i p ih =>
    intro k done a D inv hB h
    simp only [planT, Bool.and_eq_true, decide_eq_true_eq, Bool.not_eq_true'] at hB
    obtain ⟨hcn, ⟨hr, hfree⟩, hk, hin, h0, hB'⟩ := hB
    obtain ⟨j, rfl⟩ : ∃ j, k = j + 1 := ⟨k - 1, by omega⟩
    have hE := hsp i hcn
    have hr' : i ∈ Region.ready md ops done := by simpa using hr
    have hi : ops[i]? = some ops[i] := Array.getElem?_eq_getElem hk
    obtain ⟨v, hy, hK⟩ := yieldsG_of P ops C E hi hE h
    exact anyT_first P md ops C E hi hE (Region.noSelect_spec hsel) hs hc hn hin (fun done' a' D' hL => seqB_ready hL.1) j done a D inv (Region.free_spec hi hfree) hr' hy (ih _ _ _ _ (inv.set hr' hin) hB' hK)
  | s1 i p ih =>
    intro k done a D inv hB h
    simp only [planT, Bool.and_eq_true, decide_eq_true_eq] at hB
    obtain ⟨hr, hin, h0, hB'⟩ := hB
    obtain ⟨j, rfl⟩ : ∃ j, k = j + 1 := ⟨k - 1, by omega⟩
    refine ⟨fun e => (by rw [hr] at e; cases e), fun i' hi => ?_⟩
    have hi0 := hi
    rw [hr] at hi
    obtain rfl : i' = i := by simpa using hi
    exact ⟨hin, opV_mono P ops C E (fun a' D' h' => ih _ _ _ _ (inv.set hi0 hin) hB' h') h⟩
  | s2 => intro k done a D _ hB; simp [planT] at hB
  | s3 => intro k done a D _ hB; simp [planT] at hB
end
def tailB (l : List Oper) (sp : List Nat) (n : Nat) (p : Plan) : Bool :=
  Region.noSelect l.toArray && (decide (n < l.length) && (Region.sinkB .any l.toArray n && (Region.chainB .any l.toArray n && planT .any l.toArray sp n (l.toArray.size - n) p n (Array.replicate l.toArray.size false))))
/-- a region by parts of memory, with a forced tail -/
theorem region_PT {P : Program} {id : Nat} {Q : Exit → Act → World → Prop} {a : Act} {w w0 : World} {l : List Oper} (L : List Part) (L1 : List Part) (sp : List Nat) (n : Nat) (p : Plan) (H : Holds w0 w L1) (hL : L.Sublist L1)
    (hm : P.follows .mixedOrders = true) (hB : tailB l sp n p = true)
    (h : walkV P l.toArray (fun wx => Holds w0 wx L) (fun k => sp.contains k) (fun a' w' => wpList P l.toArray Q (l.drop n) a' w') p a (fun wx => Holds w0 wx L1)) : (Code.region id l.toArray true).wp P Q a w := by
  simp only [tailB, Bool.and_eq_true, decide_eq_true_eq] at hB
  obtain ⟨hsel, hn, hs, hc, hplan⟩ := hB
  have hd : (l.drop n).length = l.toArray.size - n := by simp
  have hn' : n < l.toArray.size := by simpa using hn
  have X := anyT_walk P .any l.toArray (fun wx => Holds w0 wx L) (fun k => sp.contains k) (fun a' w' => wpList P l.toArray Q (l.drop n) a' w') hsel sp (fun _ h => h) hs hc hn' p n (Array.replicate l.toArray.size false) a (fun wx => Holds w0 wx L1)
    ⟨by simp, fun j oj _ e => (by rw [getD_replicate_false] at e; cases e), fun t _ e => getD_in (by simpa using e) (getD_replicate_false _ _)⟩ hplan h
  refine wp_region_any hm ?_
  have := anyT_any P .any l.toArray (fun wx => Holds w0 wx L) (fun k => sp.contains k) (fun _ _ h hb => h.call hb) (Q := Q) (g := l.toArray.size - n) (fun done a' D' w' hw' hDw' hL' => by
    have := wpAny_of_seq (md := .any) (Q' := Q) (l.drop n) n done a' w' (fun j => by simp [List.getElem?_drop]) (by rw [hd]; exact hL'.1) (hL'.2 w' hw' hDw')
    rwa [hd] at this) n (Array.replicate l.toArray.size false) a (fun wx => Holds w0 wx L1) w.drew (fun _ _ h hb => h.call hb) (H.drew.sub hL) H.drew X
  rw [show n + (l.toArray.size - n) = l.toArray.size by omega] at this
  exact this
end Go.Proofs.Ytpkfjdaedaplfaa.Rd
