/- Texts put together: RegD, RegT, RegS, Vlk, Trp, Boc, Trs, Trt, Trd, EqDs, LTrd -/
import Derived.Test.YtmapjjfefjoemaaQeLawTreeEdges
import Derived.Test.YtmapjjfefjoemaaChecked
import Derived.WalkKit
import Derived.WalkSpells
import Derived.WalkLawsBesides
import Derived.Deep.LoopGhost
import Derived.Deep.OwnRows
import Derived.Laws.Rows
import Derived.Laws.Tables
import Derived.Laws.CopyOwn
import Derived.ProofKit
import Derived.OpenShut
import Derived.ShutString
import Derived.ChangeOld
import Derived.Below
import Derived.Laws.OwnMore
import Derived.BigQuiet
import Derived.Deep.QuietTactic
import Derived.OwnWalk
import Derived.ChangeSlices
import Derived.RegionTactic
import Derived.Deep.Quiet
import Derived.StillTail
import Derived.Deep.Slices
import Derived.WideShapes
import Derived.Laws.CopyRow
import Derived.Deep.MidRow
import Derived.Deep.RegionWith
import Derived.ChangeKeysEq
import Derived.StillTailTactics
import Derived.Deep.RegionHeld3
import Derived.Laws.Cover3
import Derived.IntWalk
import Derived.Laws.StructEq
namespace Go.Proofs.Ytmapjjfefjoemaa.Rd
open Go.RowKit

section
variable (P : Program) (md : Region.Mode) (ops : Array Oper) (C : World → Prop) (E : Nat → Bool) (K : Act → World → Prop)

def uponE (R : Value → World → Prop) (w : World) : Result Next → Prop
  | .ok (.value u) w' => C w' ∧ R u w'
  | .ok .skip w' => C w' ∧ R undef w'
  | .ok (.enter f args) w' => w' = w ∧ Calls P f args w (fun e w'' => ∃ v, e = .returned v ∧ C w'' ∧ R v w'')
  | _ => False

/-- one operation, and what follows -/
def opV (i : Nat) (N : Act → (World → Prop) → Prop) (a : Act) (D : World → Prop) : Prop :=
  match ops[i]? with
  | none => N a D
  | some o =>
    if Region.wanted o (yielded ops a.tmps) then
      if E i = true then ∃ R : Value → World → Prop, (∀ v, Stable (R v)) ∧ (∀ w, C w → D w → uponE P C R w ((execOp a.eval o).run P w)) ∧ ∀ v, (∃ w, C w ∧ R v w) → N (a.put o.dst v) (R v)
      else ∃ v, (∀ w, C w → atG P o a w v) ∧ N (a.put o.dst v) D
    else N (a.put o.dst undef) D

theorem opV_mono {i : Nat} {N N' : Act → (World → Prop) → Prop} {a : Act} {D : World → Prop} (h : ∀ a D, N a D → N' a D) (hh : opV P ops C E i N a D) : opV P ops C E i N' a D := by
  unfold opV at *
  split
  · rename_i ho; simp only [ho] at hh; exact h _ _ hh
  · rename_i o ho
    simp only [ho] at hh
    split
    · rename_i hw
      rw [if_pos hw] at hh
      split
      · rename_i hR; rw [if_pos hR] at hh; obtain ⟨R, h0, h1, h2⟩ := hh; exact ⟨R, h0, h1, fun v hv => h _ _ (h2 v hv)⟩
      · rename_i hR
        rw [if_neg hR] at hh
        obtain ⟨v, h1, h2⟩ := hh; exact ⟨v, h1, h _ _ h2⟩
    · rename_i hw; rw [if_neg hw] at hh; exact h _ _ hh

/-- whatever order is picked -/
def anyV : Nat → Array Bool → Act → (World → Prop) → Prop
  | 0, done, a, D => Region.ready md ops done = [] ∧ ∀ w, C w → D w → K a w
  | f + 1, done, a, D => (Region.ready md ops done = [] → ∀ w, C w → D w → K a w) ∧ ∀ i ∈ Region.ready md ops done, opV P ops C E i (anyV f (done.setIfInBounds i true)) a D

theorem op_sound (hC : ∀ w w', C w → Below w.heap.size w w' → C w') {i : Nat} {N : Act → (World → Prop) → Prop} {K' : Act → World → Prop} {Q : Exit → Act → World → Prop} {a : Act} {D : World → Prop} {w : World} (hD : Stable D) (hw : C w) (hDw : D w)
    (hN : ∀ a D w, Stable D → C w → D w → N a D → K' a w) (h : opV P ops C E i N a D) : wpOp P ops Q i K' a w := by
  unfold opV at h
  unfold wpOp
  split
  · rename_i ho; simp only [ho] at h; exact hN _ _ _ hD hw hDw h
  · rename_i o ho
    simp only [ho] at h
    split
    · rename_i hwa
      rw [if_pos hwa] at h
      refine .inl ?_
      unfold Oper.wp
      rcases hEi : E i with _ | _
      · rw [if_neg (by simp [hEi])] at h
        obtain ⟨v, h1, h2⟩ := h
        have h3 := h1 w hw
        unfold atG at h3
        generalize (execOp a.eval o).run P w = r at *
        cases r with
        | ok n w' =>
          cases n <;> simp only [uponG] at h3 <;> simp only [Oper.upon]
          case value u => obtain ⟨e1, e2⟩ := h3; rw [e1, e2]; exact hN _ _ _ hD hw hDw h2
          case skip => obtain ⟨e1, e2⟩ := h3; rw [e1, ← e2]; exact hN _ _ _ hD hw hDw h2
          case enter f args => obtain ⟨e1, hc⟩ := h3; rw [e1]; exact hc.mono fun e w'' ⟨he, hb⟩ => by subst he; exact hN _ _ _ hD (hC _ _ hw hb) (hD _ _ hDw hb) h2
        | halt x w' => simp only [uponG] at h3
      · rw [if_pos hEi] at h
        obtain ⟨R, hE, h⟩ := h
        have h3 := h.1 w hw hDw
        generalize (execOp a.eval o).run P w = r at *
        cases r with
        | ok n w' =>
          cases n <;> simp only [uponE] at h3 <;> simp only [Oper.upon]
          case value u => exact hN _ _ _ (hE u) h3.1 h3.2 (h.2 u ⟨_, h3⟩)
          case skip => exact hN _ _ _ (hE undef) h3.1 h3.2 (h.2 undef ⟨_, h3⟩)
          case enter f args =>
            obtain ⟨e1, hc⟩ := h3
            rw [e1]
            refine hc.mono ?_
            rintro e w'' ⟨v, he, hb, hr⟩
            subst he
            exact hN _ _ _ (hE v) hb hr (h.2 v ⟨_, hb, hr⟩)
        | halt x w' => simp only [uponE] at h3
    · rename_i hwa; rw [if_neg hwa] at h; exact hN _ _ _ hD hw hDw h

theorem anyV_any (hC : ∀ w w', C w → Below w.heap.size w w' → C w') {Q : Exit → Act → World → Prop} (hQ : ∀ a w, K a w → Q .normal a w) (f : Nat) : ∀ (done : Array Bool) (a : Act) (D : World → Prop) (w : World), Stable D → C w → D w →
    anyV P md ops C E K f done a D → wpAny P md ops Q f done a w := by
  induction f with
  | zero => intro done a D w _ hw hDw h; exact ⟨h.1, hQ _ _ (h.2 w hw hDw)⟩
  | succ f ih =>
    intro done a D w hD hw hDw h
    exact ⟨fun e => hQ _ _ (h.1 e w hw hDw), fun i hi => op_sound P ops C E hC hD hw hDw (fun a' D' w' h1 h2 h3 h4 => ih _ a' D' w' h1 h2 h3 h4) (h.2 i hi)⟩

def YieldsG (o : Oper) (v : Value) (a : Act) : Prop :=
  (Region.wanted o (yielded ops a.tmps) = true ∧ ∀ w, C w → atG P o a w v) ∨ (Region.wanted o (yielded ops a.tmps) = false ∧ v = undef)

theorem YieldsG.op {i : Nat} {o : Oper} {v : Value} {a : Act} {D : World → Prop} (hi : ops[i]? = some o) (hE : E i = false) (hy : YieldsG P ops C o v a) {N : Act → (World → Prop) → Prop} (h : N (a.put o.dst v) D) : opV P ops C E i N a D := by
  unfold opV
  simp only [hi, hE, Bool.false_eq_true, if_false]
  rcases hy with ⟨hw, hv⟩ | ⟨hw, rfl⟩
  · rw [if_pos hw]; exact ⟨v, hv, h⟩
  · rw [if_neg (by simp [hw])]; exact h

theorem yieldsG_of {i : Nat} {o : Oper} {a : Act} {D : World → Prop} {N : Act → (World → Prop) → Prop} (hi : ops[i]? = some o) (hE : E i = false) (h : opV P ops C E i N a D) : ∃ v, YieldsG P ops C o v a ∧ N (a.put o.dst v) D := by
  unfold opV at h
  simp only [hi, hE, Bool.false_eq_true, if_false] at h
  by_cases hw : Region.wanted o (yielded ops a.tmps) = true
  · rw [if_pos hw] at h
    obtain ⟨v, h1, h2⟩ := h
    exact ⟨v, .inl ⟨hw, h1⟩, h2⟩
  · rw [if_neg hw] at h
    exact ⟨undef, .inr ⟨by simpa using hw, rfl⟩, h⟩

theorem opV_put {j : Nat} {oi oj : Oper} {v : Value} (hj : ops[j]? = some oj) (hap : oi.apart ops oj = true) (hsi : ∀ cs b, oi.op ≠ .select cs b) (hsj : ∀ cs b, oj.op ≠ .select cs b)
    {N : Act → (World → Prop) → Prop} {a : Act} {D : World → Prop} (hy : YieldsG P ops C oi v a) (h : opV P ops C E j N (a.put oi.dst v) D) :
    opV P ops C E j (fun a' D' => YieldsG P ops C oi v a' ∧ N (a'.put oi.dst v) D') a D := by
  obtain ⟨h1, h2, h3⟩ := Oper.apart_spec hap
  have keep : ∀ u, YieldsG P ops C oi v (a.put oj.dst u) := fun u => by
    have e1 := execOp_put oi hsi a oj.dst u h3
    have e2 := wanted_put oi a oj.dst u h3
    unfold YieldsG atG at *
    rw [e1, e2]; exact hy
  unfold opV at *
  simp only [hj] at *
  rw [wanted_put oj a oi.dst v h1, execOp_put oj hsj a oi.dst v h1] at h
  have ep : ∀ u, (a.put oj.dst u).put oi.dst v = (a.put oi.dst v).put oj.dst u := fun u => (Act.put_comm a v u h2).symm
  by_cases hw : Region.wanted oj (yielded ops a.tmps) = true
  · rw [if_pos hw] at h ⊢
    rcases hE : E j with _ | _
    · simp only [hE, Bool.false_eq_true, if_false] at h ⊢
      obtain ⟨u, k1, k2⟩ := h
      refine ⟨u, fun w hg => ?_, keep _, by rw [ep]; exact k2⟩
      have := k1 w hg
      unfold atG at *
      rwa [execOp_put oj hsj a oi.dst v h1] at this
    · simp only [hE, if_true] at h ⊢
      obtain ⟨R, h0, h⟩ := h
      exact ⟨R, h0, h.1, fun u hu => ⟨keep _, by rw [ep]; exact h.2 u hu⟩⟩
  · rw [if_neg hw] at h ⊢
    exact ⟨keep _, by rw [ep]; exact h⟩

theorem anyV_first {i : Nat} {o : Oper} {v : Value} (hi : ops[i]? = some o) (hE : E i = false) (hsel : ∀ (j : Nat) (o : Oper) cs b, ops[j]? = some o → o.op ≠ .select cs b) (f : Nat) :
    ∀ (done : Array Bool) (a : Act) (D : World → Prop),
      (∀ j oj, ops[j]? = some oj → j ≠ i → done.getD j true = false → (∀ e ∈ oj.after, Region.binds md e = true → e.on ≠ i) → o.apart ops oj = true) →
      i ∈ Region.ready md ops done → YieldsG P ops C o v a →
      anyV P md ops C E K f (done.setIfInBounds i true) (a.put o.dst v) D → anyV P md ops C E K (f + 1) done a D := by
  induction f with
  | zero =>
    intro done a D _ hr hy H
    refine ⟨fun e => (by rw [e] at hr; cases hr), fun j hj => ?_⟩
    by_cases e : j = i
    · subst e; exact hy.op P ops C E hi hE H
    · have := ready_mono hj e
      rw [H.1] at this; cases this
  | succ f ih =>
    intro done a D hfree hr hy H
    refine ⟨fun e => (by rw [e] at hr; cases hr), fun j hj => ?_⟩
    by_cases e : j = i
    · subst e; exact hy.op P ops C E hi hE H
    · obtain ⟨hjun, oj, hoj, hall⟩ := mem_ready.1 hj
      have hun := (mem_ready.1 hr).1
      have hno : ∀ e ∈ oj.after, Region.binds md e = true → e.on ≠ i := fun e he hb h => by
        have := hall e he hb
        rw [h, getD_both hun] at this
        cases this
      refine opV_mono P ops C E (fun a' D' h3 => ih (done.setIfInBounds j true) a' D' (fun k' ok hk hki hk' hnk => hfree k' ok hk hki ?_ hnk) (ready_mono hr (Ne.symm e)) h3.1 ?_)
        (opV_put P ops C E hoj (hfree j oj hoj e hjun hno) (fun cs b => hsel i o cs b hi) (fun cs b => hsel j oj cs b hoj) hy (H.2 j (ready_mono hj e)))
      · by_cases e' : j = k'
        · subst e'; exact hjun
        · rw [getD_set_ne true e'] at hk'; exact hk'
      · rw [Array.setIfInBounds_comm _ _ e]; exact h3.2

def walkV : Plan → Act → (World → Prop) → Prop
  | .fin, a, D => ∀ w, C w → D w → K a w
  | .q k p, a, D => opV P ops C E k (walkV p) a D
  | .s1 k p, a, D => opV P ops C E k (walkV p) a D
  | .s2 k1 p1 k2 p2, a, D => opV P ops C E k1 (walkV p1) a D ∧ opV P ops C E k2 (walkV p2) a D
  | .s3 k1 p1 k2 p2 k3 p3, a, D => opV P ops C E k1 (walkV p1) a D ∧ opV P ops C E k2 (walkV p2) a D ∧ opV P ops C E k3 (walkV p3) a D

theorem anyV_walk (hsel : Region.noSelect ops = true) (sp : List Nat) (hsp : ∀ k, sp.contains k = false → E k = false) (p : Plan) :
    ∀ (f : Nat) (done : Array Bool) (a : Act) (D : World → Prop), planB md ops sp f p done = true → walkV P ops C E K p a D → anyV P md ops C E K f done a D := by
  induction p with
  | fin =>
    intro f done a D hB h
    cases f with
    | zero => exact ⟨by simpa [planB] using hB, h⟩
    | succ f =>
      have e : Region.ready md ops done = [] := by simpa [planB] using hB
      exact ⟨fun _ => h, fun i hi => by rw [e] at hi; cases hi⟩
  | q k p ih =>
    intro f done a D hB h
    cases f with
    | zero => simp [planB] at hB
    | succ f =>
      simp only [planB, Bool.and_eq_true, decide_eq_true_eq, Bool.not_eq_true'] at hB
      obtain ⟨hc, ⟨hr, hfree⟩, hk, hB'⟩ := hB
      have hE := hsp k hc
      have hi : ops[k]? = some ops[k] := Array.getElem?_eq_getElem hk
      obtain ⟨v, hy, hK⟩ := yieldsG_of P ops C E hi hE h
      exact anyV_first P md ops C E K hi hE (Region.noSelect_spec hsel) f done a D (Region.free_spec hi hfree) (by simpa using hr) hy (ih _ _ _ _ hB' hK)
  | s1 k p ih =>
    intro f done a D hB h
    cases f with
    | zero => simp [planB] at hB
    | succ f =>
      simp only [planB, Bool.and_eq_true, decide_eq_true_eq] at hB
      obtain ⟨hr, hB'⟩ := hB
      refine ⟨fun e => (by rw [hr] at e; cases e), fun i hi => ?_⟩
      rw [hr] at hi
      obtain rfl : i = k := by simpa using hi
      exact opV_mono P ops C E (fun a' D' h' => ih _ _ _ _ hB' h') h
  | s2 k1 p1 k2 p2 ih1 ih2 =>
    intro f done a D hB h
    cases f with
    | zero => simp [planB] at hB
    | succ f =>
      simp only [planB, Bool.and_eq_true, decide_eq_true_eq] at hB
      obtain ⟨hr, hB1, hB2⟩ := hB
      refine ⟨fun e => (by rw [hr] at e; cases e), fun i hi => ?_⟩
      rw [hr] at hi
      simp only [List.mem_cons, List.not_mem_nil, or_false] at hi
      rcases hi with rfl | rfl
      · exact opV_mono P ops C E (fun a' D' h' => ih1 _ _ _ _ hB1 h') h.1
      · exact opV_mono P ops C E (fun a' D' h' => ih2 _ _ _ _ hB2 h') h.2
  | s3 k1 p1 k2 p2 k3 p3 ih1 ih2 ih3 =>
    intro f done a D hB h
    cases f with
    | zero => simp [planB] at hB
    | succ f =>
      simp only [planB, Bool.and_eq_true, decide_eq_true_eq] at hB
      obtain ⟨hr, hB1, hB2, hB3⟩ := hB
      refine ⟨fun e => (by rw [hr] at e; cases e), fun i hi => ?_⟩
      rw [hr] at hi
      simp only [List.mem_cons, List.not_mem_nil, or_false] at hi
      rcases hi with rfl | rfl | rfl
      · exact opV_mono P ops C E (fun a' D' h' => ih1 _ _ _ _ hB1 h') h.1
      · exact opV_mono P ops C E (fun a' D' h' => ih2 _ _ _ _ hB2 h') h.2.1
      · exact opV_mono P ops C E (fun a' D' h' => ih3 _ _ _ _ hB3 h') h.2.2
end

/-- a region by parts of memory: w0, L what the class holds; L1 what stands at the start beside it -/
theorem region_P {P : Program} {id : Nat} {Q : Exit → Act → World → Prop} {a : Act} {w w0 : World} {l : List Oper} (L : List Part) (L1 : List Part) (sp : List Nat) (p : Plan) (H : Holds w0 w L1) (hL : L.Sublist L1)
    (hm : P.follows .mixedOrders = true)
    (hsel : Region.noSelect l.toArray = true) (hB : planB .any l.toArray sp l.toArray.size p (Array.replicate l.toArray.size false) = true) 
    (h : walkV P l.toArray (fun wx => Holds w0 wx L) (fun k => sp.contains k) (fun a' w' => Q .normal a' w') p a (fun wx => Holds w0 wx L1)) : (Code.region id l.toArray true).wp P Q a w := by
  refine wp_region_any hm ?_
  exact anyV_any (Q := Q) P .any l.toArray (fun wx => Holds w0 wx L) (fun k => sp.contains k) (fun a' w' => Q .normal a' w') (fun _ _ h hb => h.call hb) (fun _ _ h => h) _ _ _ _ w.drew (fun _ _ h hb => h.call hb) (H.drew.sub hL) H.drew
    (anyV_walk P .any l.toArray (fun wx => Holds w0 wx L) (fun k => sp.contains k) (fun a' w' => Q .normal a' w') hsel sp (fun _ h => h) p _ _ a _ hB h)

section
variable {P : Program} {ops : Array Oper} {C : World → Prop} {E : Nat → Bool} {k : Nat} {a : Act} {D : World → Prop} {N : Act → (World → Prop) → Prop}
theorem v_q {o : Oper} (ho : ops[k]? = some o) (hE : E k = false) (hw : Region.wanted o (yielded ops a.tmps) = true) {v : Value} (h1 : ∀ w, C w → atG P o a w v) (h2 : N (a.put o.dst v) D) : opV P ops C E k N a D := by
  unfold opV
  simp only [ho, hE, Bool.false_eq_true, if_false]
  rw [if_pos hw]
  exact ⟨v, h1, h2⟩
theorem v_s {o : Oper} (R : Value → World → Prop) (hR : ∀ v, Stable (R v)) (ho : ops[k]? = some o) (hE : E k = true) (hw : Region.wanted o (yielded ops a.tmps) = true) (h1 : ∀ w, C w → D w → uponE P C R w ((execOp a.eval o).run P w))
    (h2 : ∀ v, (∃ w, C w ∧ R v w) → N (a.put o.dst v) (R v)) : opV P ops C E k N a D := by
  unfold opV
  simp only [ho, hE, if_true]
  rw [if_pos hw]
  exact ⟨R, hR, h1, h2⟩
end
/-- a list of cells laid for an append -/
def rBuild (w0 : World) (cells : Array Value) (t : TypeId) (k : Nat) (L : List Part) : Value → World → Prop := fun v w => ∃ g, v = .slice (some ⟨g, 0, none⟩) k k ∧ Holds w0 w (pBlk g cells t :: L)
theorem rBuild_stable {w0 : World} {cells : Array Value} {t : TypeId} {k : Nat} {L : List Part} (v : Value) : Stable (rBuild w0 cells t k L v) := fun _ _ ⟨g, e, h⟩ hb => ⟨g, e, h.call hb⟩
/-- a new block -/
def rBox (w0 : World) (cells : Array Value) (t : TypeId) (L : List Part) : Value → World → Prop := fun v w => ∃ g, v = .pointer (some ⟨g, 0, none⟩) ∧ Holds w0 w (pBlk g cells t :: L)
theorem rBox_stable {w0 : World} {cells : Array Value} {t : TypeId} {L : List Part} (v : Value) : Stable (rBox w0 cells t L v) := fun _ _ ⟨g, e, h⟩ hb => ⟨g, e, h.call hb⟩
/-- a relation of one value that is told by parts -/
def rHolds (w0 : World) (L : Value → List Part) : Value → World → Prop := fun v w => Holds w0 w (L v)
theorem rHolds_stable {w0 : World} {L : Value → List Part} (v : Value) : Stable (rHolds w0 L v) := fun _ _ h hb => h.call hb
/-- what is told of a pointer's block, of a slice's block -/
def rPtr (w0 : World) (cells : Array Value) (t : TypeId) (L : List Part) : Value → World → Prop
  | .pointer (some ⟨g, 0, none⟩) => fun w => Holds w0 w (pBlk g cells t :: L)
  | _ => fun _ => False
def rSl (w0 : World) (cells : Array Value) (t : TypeId) (L : List Part) : Value → World → Prop
  | .slice (some ⟨g, 0, none⟩) _ _ => fun w => Holds w0 w (pBlk g cells t :: L)
  | _ => fun _ => False
theorem rPtr_stable {w0 : World} {cells : Array Value} {t : TypeId} {L : List Part} (v : Value) : Stable (rPtr w0 cells t L v) := by
  unfold rPtr
  split
  · exact fun _ _ h hb => h.call hb
  · exact fun _ _ h _ => h
theorem rSl_stable {w0 : World} {cells : Array Value} {t : TypeId} {L : List Part} (v : Value) : Stable (rSl w0 cells t L v) := by
  unfold rSl
  split
  · exact fun _ _ h hb => h.call hb
  · exact fun _ _ h _ => h
section
variable {P : Program} {ops : Array Oper} {E : Nat → Bool} {k : Nat} {a : Act} {N : Act → (World → Prop) → Prop} {w0 : World} {L L1 : List Part}
/-- a new block -/
theorem v_box {o : Oper} (cells : Array Value) (t : TypeId) (ho : ops[k]? = some o) (hE : E k = true) (hw : Region.wanted o (yielded ops a.tmps) = true)
    (h1 : ∀ w, Holds w0 w L → Holds w0 w L1 → (execOp a.eval o).run P w = .ok (.value (.pointer (some ⟨w.heap.size, 0, none⟩))) (w.alloc (.cells cells t)))
    (h2 : ∀ g, N (a.put o.dst (.pointer (some ⟨g, 0, none⟩))) (fun wx => Holds w0 wx (pBlk g cells t :: L1))) : opV P ops (fun wx => Holds w0 wx L) E k N a (fun wx => Holds w0 wx L1) := by
  refine v_s (rPtr w0 cells t L1) rPtr_stable ho hE hw (fun w hx hD => ?_) fun v hv => ?_
  · rw [h1 w hx hD]
    exact ⟨hx.alloc _, hD.blk _ _ _ rfl⟩
  · obtain ⟨w, _, hr⟩ := hv
    unfold rPtr at hr
    split at hr
    · exact h2 _
    · exact hr.elim
/-- a list of cells laid for an append -/
theorem v_build {o : Oper} (cells : Array Value) (t : TypeId) (n : Nat) (ho : ops[k]? = some o) (hE : E k = true) (hw : Region.wanted o (yielded ops a.tmps) = true)
    (h1 : ∀ w, Holds w0 w L → Holds w0 w L1 → (execOp a.eval o).run P w = .ok (.value (.slice (some ⟨w.heap.size, 0, none⟩) n n)) (w.alloc (.cells cells t)))
    (h2 : ∀ g, N (a.put o.dst (.slice (some ⟨g, 0, none⟩) n n)) (fun wx => Holds w0 wx (pBlk g cells t :: L1))) : opV P ops (fun wx => Holds w0 wx L) E k N a (fun wx => Holds w0 wx L1) := by
  refine v_s (fun v w => ∃ g, v = .slice (some ⟨g, 0, none⟩) n n ∧ rSl w0 cells t L1 v w) (fun v _ _ ⟨g, e, h⟩ hb => ⟨g, e, rSl_stable v _ _ h hb⟩) ho hE hw (fun w hx hD => ?_) fun v hv => ?_
  · rw [h1 w hx hD]
    exact ⟨hx.alloc _, _, rfl, hD.blk _ _ _ rfl⟩
  · obtain ⟨w, _, g, rfl, hr⟩ := hv
    have := h2 g
    refine cast (congrArg (N _) ?_) this
    funext wx
    refine propext ⟨fun h => ⟨g, rfl, h⟩, fun ⟨_, _, h⟩ => h⟩
end
end Go.Proofs.Ytmapjjfefjoemaa.Rd

namespace Go.Proofs.Ytmapjjfefjoemaa.Rd
open Go.RowKit

section
variable (P : Program) (md : Region.Mode) (ops : Array Oper) (C : World → Prop) (E : Nat → Bool) (K : Act → World → Prop)

/-- k operations more, all below n, whichever comes up; then L -/
def anyT (n : Nat) (L : Array Bool → Act → (World → Prop) → Prop) : Nat → Array Bool → Act → (World → Prop) → Prop
  | 0, done, a, D => L done a D
  | k + 1, done, a, D => Region.ready md ops done ≠ [] ∧ ∀ i ∈ Region.ready md ops done, i < n ∧ opV P ops C E i (anyT n L k (done.setIfInBounds i true)) a D

theorem anyT_any (hC : ∀ w w', C w → Below w.heap.size w w' → C w') {n g : Nat} {L : Array Bool → Act → (World → Prop) → Prop} {Q : Exit → Act → World → Prop} (hL : ∀ done a D w, C w → D w → L done a D → wpAny P md ops Q g done a w) (k : Nat) :
    ∀ (done : Array Bool) (a : Act) (D : World → Prop) (w : World), Stable D → C w → D w → anyT P md ops C E n L k done a D → wpAny P md ops Q (k + g) done a w := by
  induction k with
  | zero => intro done a D w _ hw hDw h; rw [Nat.zero_add]; exact hL _ _ _ _ hw hDw h
  | succ k ih =>
    intro done a D w hD hw hDw h
    rw [show k + 1 + g = (k + g) + 1 by omega]
    exact ⟨fun e => absurd e h.1, fun i hi => op_sound P ops C E hC hD hw hDw (fun a' D' w' h1 h2 h3 h4 => ih _ a' D' w' h1 h2 h3 h4) (h.2 i hi).2⟩

theorem anyT_first {n i : Nat} {o : Oper} {v : Value} {L : Array Bool → Act → (World → Prop) → Prop} (hi : ops[i]? = some o) (hE : E i = false) (hsel : ∀ (j : Nat) (o : Oper) cs b, ops[j]? = some o → o.op ≠ .select cs b)
    (hs : Region.sinkB md ops n = true) (hc : Region.chainB md ops n = true) (hn : n < ops.size) (hin : i < n) (hdone : ∀ done a D, L done a D → ∀ j ∈ Region.ready md ops done, n ≤ j) (k : Nat) :
    ∀ (done : Array Bool) (a : Act) (D : World → Prop), HeadInv md ops n done →
      (∀ j oj, ops[j]? = some oj → j ≠ i → done.getD j true = false → (∀ e ∈ oj.after, Region.binds md e = true → e.on ≠ i) → o.apart ops oj = true) →
      i ∈ Region.ready md ops done → YieldsG P ops C o v a →
      anyT P md ops C E n L k (done.setIfInBounds i true) (a.put o.dst v) D → anyT P md ops C E n L (k + 1) done a D := by
  have low : ∀ (done : Array Bool), HeadInv md ops n done → i ∈ Region.ready md ops done → ∀ j ∈ Region.ready md ops done, j < n := by
    intro done inv hr j hj
    rcases Nat.lt_or_ge j n with h | h
    · exact h
    · exact absurd hj (tail_waits hs hc hn inv _ i rfl hin (mem_ready.1 hr).1 j h)
  have some_ready : ∀ (done : Array Bool), i ∈ Region.ready md ops done → Region.ready md ops done ≠ [] := fun done hr e => by rw [e] at hr; cases hr
  induction k with
  | zero =>
    intro done a D inv _ hr hy H
    refine ⟨some_ready done hr, fun j hj => ⟨low done inv hr j hj, ?_⟩⟩
    by_cases e : j = i
    · subst e; exact hy.op P ops C E hi hE H
    · have := hdone _ _ _ H j (ready_mono hj e)
      have := low done inv hr j hj
      omega
  | succ k ih =>
    intro done a D inv hfree hr hy H
    refine ⟨some_ready done hr, fun j hj => ⟨low done inv hr j hj, ?_⟩⟩
    by_cases e : j = i
    · subst e; exact hy.op P ops C E hi hE H
    · obtain ⟨hjun, oj, hoj, hall⟩ := mem_ready.1 hj
      have hun := (mem_ready.1 hr).1
      have hno : ∀ e ∈ oj.after, Region.binds md e = true → e.on ≠ i := fun e he hb h => by
        have := hall e he hb
        rw [h, getD_both hun] at this
        cases this
      refine opV_mono P ops C E (fun a' D' h3 => ih (done.setIfInBounds j true) a' D' (inv.set hj (low done inv hr j hj)) (fun k' ok hk hki hk' hnk => hfree k' ok hk hki ?_ hnk) (ready_mono hr (Ne.symm e)) h3.1 ?_)
        (opV_put P ops C E hoj (hfree j oj hoj e hjun hno) (fun cs b => hsel i o cs b hi) (fun cs b => hsel j oj cs b hoj) hy (H.2 j (ready_mono hj e)).2)
      · by_cases e' : j = k'
        · subst e'; exact hjun
        · rw [getD_set_ne true e'] at hk'; exact hk'
      · rw [Array.setIfInBounds_comm _ _ e]; exact h3.2

/-- a plan of the head, and that the tail is forced -/
def planT (sp : List Nat) (n g : Nat) : Plan → Nat → Array Bool → Bool
  | .fin, k, done => decide (k = 0) && Region.seqB md ops g n done
  | .q i p, k, done => !sp.contains i && ((Region.ready md ops done).contains i && Region.free md ops done i && (decide (i < ops.size) && (decide (i < n) && (decide (0 < k) && planT sp n g p (k - 1) (done.setIfInBounds i true)))))
  | .s1 i p, k, done => decide (Region.ready md ops done = [i]) && (decide (i < n) && (decide (0 < k) && planT sp n g p (k - 1) (done.setIfInBounds i true)))
  | .s2 _ _ _ _, _, _ => false
  | .s3 _ _ _ _ _ _, _, _ => false

theorem anyT_walk (hsel : Region.noSelect ops = true) (sp : List Nat) (hsp : ∀ k, sp.contains k = false → E k = false) {n g : Nat} (hs : Region.sinkB md ops n = true) (hc : Region.chainB md ops n = true) (hn : n < ops.size) (p : Plan) :
    ∀ (k : Nat) (done : Array Bool) (a : Act) (D : World → Prop), HeadInv md ops n done → planT md ops sp n g p k done = true → walkV P ops C E K p a D →
      anyT P md ops C E n (fun done' a' D' => Region.seqB md ops g n done' = true ∧ ∀ w, C w → D' w → K a' w) k done a D := by
  induction p with
  | fin =>
    intro k done a D _ hB h
    simp only [planT, Bool.and_eq_true, decide_eq_true_eq] at hB
    obtain ⟨rfl, hB⟩ := hB
    exact ⟨hB, h⟩
  | q i p ih =>
    intro k done a D inv hB h
    simp only [planT, Bool.and_eq_true, decide_eq_true_eq, Bool.not_eq_true'] at hB
    obtain ⟨hcn, ⟨hr, hfree⟩, hk, hin, h0, hB'⟩ := hB
    obtain ⟨j, rfl⟩ : ∃ j, k = j + 1 := ⟨k - 1, by omega⟩
    have hE := hsp i hcn
    have hr' : i ∈ Region.ready md ops done := by simpa using hr
    have hi : ops[i]? = some ops[i] := Array.getElem?_eq_getElem hk
    obtain ⟨v, hy, hK⟩ := yieldsG_of P ops C E hi hE h
    exact anyT_first P md ops C E hi hE (Region.noSelect_spec hsel) hs hc hn hin (fun done' a' D' hL => seqB_ready hL.1) j done a D inv (Region.free_spec hi hfree) hr' hy (ih _ _ _ _ (inv.set hr' hin) hB' hK)
  | s1 i p ih =>
    intro k done a D inv hB h
    simp only [planT, Bool.and_eq_true, decide_eq_true_eq] at hB
    obtain ⟨hr, hin, h0, hB'⟩ := hB
    obtain ⟨j, rfl⟩ : ∃ j, k = j + 1 := ⟨k - 1, by omega⟩
    refine ⟨fun e => (by rw [hr] at e; cases e), fun i' hi => ?_⟩
    have hi0 := hi
    rw [hr] at hi
    obtain rfl : i' = i := by simpa using hi
    exact ⟨hin, opV_mono P ops C E (fun a' D' h' => ih _ _ _ _ (inv.set hi0 hin) hB' h') h⟩
  | s2 => intro k done a D _ hB; simp [planT] at hB
  | s3 => intro k done a D _ hB; simp [planT] at hB
end
def tailB (l : List Oper) (sp : List Nat) (n : Nat) (p : Plan) : Bool :=
  Region.noSelect l.toArray && (decide (n < l.length) && (Region.sinkB .any l.toArray n && (Region.chainB .any l.toArray n && planT .any l.toArray sp n (l.toArray.size - n) p n (Array.replicate l.toArray.size false))))
/-- a region by parts of memory, with a forced tail -/
theorem region_PT {P : Program} {id : Nat} {Q : Exit → Act → World → Prop} {a : Act} {w w0 : World} {l : List Oper} (L : List Part) (L1 : List Part) (sp : List Nat) (n : Nat) (p : Plan) (H : Holds w0 w L1) (hL : L.Sublist L1)
    (hm : P.follows .mixedOrders = true) (hB : tailB l sp n p = true)
    (h : walkV P l.toArray (fun wx => Holds w0 wx L) (fun k => sp.contains k) (fun a' w' => wpList P l.toArray Q (l.drop n) a' w') p a (fun wx => Holds w0 wx L1)) : (Code.region id l.toArray true).wp P Q a w := by
  simp only [tailB, Bool.and_eq_true, decide_eq_true_eq] at hB
  obtain ⟨hsel, hn, hs, hc, hplan⟩ := hB
  have hd : (l.drop n).length = l.toArray.size - n := by simp
  have hn' : n < l.toArray.size := by simpa using hn
  have X := anyT_walk P .any l.toArray (fun wx => Holds w0 wx L) (fun k => sp.contains k) (fun a' w' => wpList P l.toArray Q (l.drop n) a' w') hsel sp (fun _ h => h) hs hc hn' p n (Array.replicate l.toArray.size false) a (fun wx => Holds w0 wx L1)
    ⟨by simp, fun j oj _ e => (by rw [getD_replicate_false] at e; cases e), fun t _ e => getD_in (by simpa using e) (getD_replicate_false _ _)⟩ hplan h
  refine wp_region_any hm ?_
  have := anyT_any P .any l.toArray (fun wx => Holds w0 wx L) (fun k => sp.contains k) (fun _ _ h hb => h.call hb) (Q := Q) (g := l.toArray.size - n) (fun done a' D' w' hw' hDw' hL' => by
    have := wpAny_of_seq (md := .any) (Q' := Q) (l.drop n) n done a' w' (fun j => by simp [List.getElem?_drop]) (by rw [hd]; exact hL'.1) (hL'.2 w' hw' hDw')
    rwa [hd] at this) n (Array.replicate l.toArray.size false) a (fun wx => Holds w0 wx L1) w.drew (fun _ _ h hb => h.call hb) (H.drew.sub hL) H.drew X
  rw [show n + (l.toArray.size - n) = l.toArray.size by omega] at this
  exact this
end Go.Proofs.Ytmapjjfefjoemaa.Rd

namespace Go.Proofs.Ytmapjjfefjoemaa.Rd
open Go.RowKit
section
variable {P : Program} {ops : Array Oper} {E : Nat → Bool} {k : Nat} {a : Act} {N : Act → (World → Prop) → Prop} {w0 : World} {L L1 : List Part}
theorem v_put {o : Oper} (i g : Nat) (cs cs' : Array Value) (t : TypeId) (hi : L1[i]? = some (pBlk g cs t)) (hsub : L.Sublist (L1.set i (pBlk g cs' t))) (ho : ops[k]? = some o) (hE : E k = true) (hw : Region.wanted o (yielded ops a.tmps) = true)
    (h1 : ∀ w, Holds w0 w L → Holds w0 w L1 → (execOp a.eval o).run P w = .ok .skip (w.setRow g cs'))
    (h2 : N (a.put o.dst undef) (fun wx => Holds w0 wx (L1.set i (pBlk g cs' t)))) : opV P ops (fun wx => Holds w0 wx L) E k N a (fun wx => Holds w0 wx L1) := by
  refine v_s (fun u w => u = undef ∧ Holds w0 w (L1.set i (pBlk g cs' t))) (fun _ _ _ h hb => ⟨h.1, h.2.call hb⟩) ho hE hw (fun w hx hD => ?_) fun v hv => ?_
  · rw [h1 w hx hD]
    exact ⟨(hD.setRow i hi cs').sub hsub, rfl, hD.setRow i hi cs'⟩
  · obtain ⟨w, _, rfl, hr⟩ := hv
    refine cast (congrArg (N _) ?_) h2
    funext wx
    exact propext ⟨fun h => ⟨rfl, h⟩, fun h => h.2⟩
end
theorem region_R1 {P : Program} {id : Nat} {Q : Exit → Act → World → Prop} {a : Act} {w w0 : World} {l : List Oper} (L : List Part) (L1 : List Part) (sp : List Nat) (p : Plan) (H : Holds w0 w L1) (hL : L.Sublist L1)
    (hm : P.follows .mixedOrders = true) (hsel : Region.noSelect l.toArray = true) (hB : planB .any l.toArray sp l.toArray.size p (Array.replicate l.toArray.size false) = true)
    {α : Type} (F : α → List Part) (act : α → Act)
    (h : ∀ K : Act → World → Prop, (∀ g wx, Holds w0 wx (F g) → K (act g) wx) → walkV P l.toArray (fun wx => Holds w0 wx L) (fun k => sp.contains k) K p a (fun wx => Holds w0 wx L1))
    (key : ∀ g wx, Holds w0 wx (F g) → Q .normal (act g) wx) : (Code.region id l.toArray true).wp P Q a w :=
  region_P L L1 sp p H hL hm hsel hB (h (fun a' w' => Q .normal a' w') key)
theorem region_R2 {P : Program} {id : Nat} {Q : Exit → Act → World → Prop} {a : Act} {w w0 : World} {l : List Oper} (L : List Part) (L1 : List Part) (sp : List Nat) (p : Plan) (H : Holds w0 w L1) (hL : L.Sublist L1)
    (hm : P.follows .mixedOrders = true) (hsel : Region.noSelect l.toArray = true) (hB : planB .any l.toArray sp l.toArray.size p (Array.replicate l.toArray.size false) = true)
    {α β : Type} (F : α → β → List Part) (act : α → β → Act)
    (h : ∀ K : Act → World → Prop, (∀ g g' wx, Holds w0 wx (F g g') → K (act g g') wx) → walkV P l.toArray (fun wx => Holds w0 wx L) (fun k => sp.contains k) K p a (fun wx => Holds w0 wx L1))
    (key : ∀ g g' wx, Holds w0 wx (F g g') → Q .normal (act g g') wx) : (Code.region id l.toArray true).wp P Q a w :=
  region_P L L1 sp p H hL hm hsel hB (h (fun a' w' => Q .normal a' w') key)
theorem region_R3 {P : Program} {id : Nat} {Q : Exit → Act → World → Prop} {a : Act} {w w0 : World} {l : List Oper} (L : List Part) (L1 : List Part) (sp : List Nat) (p : Plan) (H : Holds w0 w L1) (hL : L.Sublist L1)
    (hm : P.follows .mixedOrders = true) (hsel : Region.noSelect l.toArray = true) (hB : planB .any l.toArray sp l.toArray.size p (Array.replicate l.toArray.size false) = true)
    {α β γ : Type} (F : α → β → γ → List Part) (act : α → β → γ → Act)
    (h : ∀ K : Act → World → Prop, (∀ g g' g'' wx, Holds w0 wx (F g g' g'') → K (act g g' g'') wx) → walkV P l.toArray (fun wx => Holds w0 wx L) (fun k => sp.contains k) K p a (fun wx => Holds w0 wx L1))
    (key : ∀ g g' g'' wx, Holds w0 wx (F g g' g'') → Q .normal (act g g' g'') wx) : (Code.region id l.toArray true).wp P Q a w :=
  region_P L L1 sp p H hL hm hsel hB (h (fun a' w' => Q .normal a' w') key)
end Go.Proofs.Ytmapjjfefjoemaa.Rd

namespace Go.Proofs.Ytmapjjfefjoemaa
open Go.RowKit

theorem lk9_step (e0 e1 : Nat → Nat) (k : Nat) : fset (fset (lk9 (upto e0 k) (upto e1 k)) (k * 2) (e0 k)) (k * 2 + 1) (e1 k) = lk9 (upto e0 (k + 1)) (upto e1 (k + 1)) := by
  rw [← upto_step e0, ← upto_step e1]
  funext i
  simp only [fset, lk9]
  by_cases h1 : i = k * 2 + 1
  · subst h1
    rw [if_pos rfl, if_neg (by omega), if_pos (by omega)]
  · rw [if_neg h1]
    by_cases h0 : i = k * 2
    · subst h0
      rw [if_pos rfl, if_pos (by omega), if_pos (by omega)]
    · rw [if_neg h0]
      by_cases h2 : i % 2 = 0
      · rw [if_pos h2, if_pos h2, if_neg (by omega)]
      · rw [if_neg h2, if_neg h2, if_neg (by omega)]
theorem lk9_zero (e0 e1 : Nat → Nat) : lk9 (upto e0 0) (upto e1 0) = fun _ => 0 := by
  funext i; unfold lk9 upto; simp
/-- the vertices of the edges -/
def vb9 (f : Nat → Nat) (m : Nat) : Nat → Nat := upto (whichF f m) m
def vw9 (g : Nat → Nat) (m : Nat) : Nat → Nat := upto (fun x => 16 + whichF g m x) m
theorem which_lt9 {p : Nat → Nat} {m x : Nat} (hp : PermN p m) (hx : x < m) : whichF p m x < 16 := by
  have := which_lt hp hx
  have := cycs_le hp
  have := hp.2.1
  omega
theorem vl9_lt {f g : Nat → Nat} {m : Nat} (hd : DesN f g m) (x : Nat) (_ : x < 16) : vb9 f m x < 32 ∧ vw9 g m x < 32 := by
  unfold vb9 vw9 upto
  constructor
  · split
    · rename_i h; have := which_lt9 hd.black h; omega
    · omega
  · split
    · rename_i h; have := which_lt9 hd.white h; show 16 + whichF g m x < 32; omega
    · omega
set_option maxRecDepth 100000 in
set_option maxHeartbeats 2000000 in
theorem vertexLinks_any (f g : Nat → Nat) (m : Nat) (hd : DesN f g m) (w : World) :
    Calls Try.prog 107 #[.agg (dv m f g)] w fun e w' => e = .returned (.agg (nv9 (lk9 (vb9 f m) (vw9 g m)))) ∧ Below w.heap.size w w' := by
  have CB := hide fun w => cycleNumbers_any f m hd.black w
  have CW := hide fun w => cycleNumbers_any g m hd.white w
  have LB := hide fun x (hx : x < m) => which_lt9 hd.black hx
  have LW := hide fun x (hx : x < m) => which_lt9 hd.white hx
  have hm := hd.le
  have hn := dv_n m f g
  clear hd
  unfold vb9 vw9
  generalize whichF f m = hb at *
  generalize whichF g m = hw at *
  obtain ⟨e1, he1⟩ : ∃ e1 : Nat → Nat, e1 = fun x => 16 + hw x := ⟨_, rfl⟩
  rw [← he1]
  have HE1 := hide (fun x => congrFun he1 x); clear he1
  have HH0 := (((Holds.start w).blk (dv m f g) 31 w.heap.size rfl).blk (nv9 fun _ => 0) 118 (w.heap.size + 1) (by simp)).blk (nv9 fun _ => 0) 118 (w.heap.size + 1 + 1) (by simp)
  go_enter Try.func107, Try.ntmps107
  go_wp2
  rw [nv9_zero] at HH0
  rw [← nv9_zero] at HH0 ⊢
  apply Rd.region_R2 (w0 := w) [pBlk (w.heap.size + 1 + 1) (nv9 fun _ => 0) 118, pBlk (w.heap.size + 1) (nv9 fun _ => 0) 118, pBlk w.heap.size (dv m f g) 31] [pBlk (w.heap.size + 1 + 1) (nv9 fun _ => 0) 118, pBlk (w.heap.size + 1) (nv9 fun _ => 0) 118, pBlk w.heap.size (dv m f g) 31] [10, 11, 12, 13] (.q 0 <| .q 1 <| .q 2 <| .q 3 <| .q 4 <| .q 5 <| .q 6 <| .q 7 <| .q 8 <| .q 9 <| .s2 10 (.s1 11 <| .s1 12 <| .s1 13 .fin) 11 (.s1 10 <| .s1 12 <| .s1 13 .fin)) HH0 (.refl _) (by kernel_rfl) (by kernel_rfl) (by kernel_rfl) (F := fun (g4 g5 : Nat) => pBlk g5 (zv hw) 112 :: pBlk g4 (zv hb) 112 :: [pBlk (w.heap.size + 1 + 1) (nv9 fun _ => 0) 118, pBlk (w.heap.size + 1) (nv9 fun _ => 0) 118, pBlk w.heap.size (dv m f g) 31])
  case h =>
    intro K key
    iterate 4
      apply Rd.v_q
      · simp only [List.getElem?_toArray, List.getElem?_cons_zero, List.getElem?_cons_succ]; exact rfl
      · rfl
      · go_simp
      · intro wx hx
        have q1 := hx.cells 2 rfl
        have q2 := hx.cell 2 rfl hn
        unfold atG
        go_simp
        simp only [uponG]
        exact ⟨by trivial, rfl⟩
    iterate 1
      apply Rd.v_q
      · simp only [List.getElem?_toArray, List.getElem?_cons_zero, List.getElem?_cons_succ]; exact rfl
      · rfl
      · go_simp
      · intro wx hx
        have q1 := hx.cells 2 rfl
        have q2 := hx.cell 2 rfl hn
        unfold atG
        go_simp
        simp only [uponG]
        exact ⟨by trivial, CB.out wx⟩
    iterate 4
      apply Rd.v_q
      · simp only [List.getElem?_toArray, List.getElem?_cons_zero, List.getElem?_cons_succ]; exact rfl
      · rfl
      · go_simp
      · intro wx hx
        have q1 := hx.cells 2 rfl
        have q2 := hx.cell 2 rfl hn
        unfold atG
        go_simp
        simp only [uponG]
        exact ⟨by trivial, rfl⟩
    iterate 1
      apply Rd.v_q
      · simp only [List.getElem?_toArray, List.getElem?_cons_zero, List.getElem?_cons_succ]; exact rfl
      · rfl
      · go_simp
      · intro wx hx
        have q1 := hx.cells 2 rfl
        have q2 := hx.cell 2 rfl hn
        unfold atG
        go_simp
        simp only [uponG]
        exact ⟨by trivial, CW.out wx⟩
    refine ⟨?_, ?_⟩
    · skip
      refine Rd.v_box (zv fun _ => 0) 112 (by simp only [List.getElem?_toArray, List.getElem?_cons_zero, List.getElem?_cons_succ]; exact rfl) rfl (by go_simp) (fun wx hx hD => by rw [zv_zero]; go_simp) fun g4 => ?_
      refine Rd.v_box (zv fun _ => 0) 112 (by simp only [List.getElem?_toArray, List.getElem?_cons_zero, List.getElem?_cons_succ]; exact rfl) rfl (by go_simp) (fun wx hx hD => by rw [zv_zero]; go_simp) fun g5 => ?_
      refine Rd.v_put 1 g4 (zv fun _ => 0) (zv hb) 112 rfl (.cons _ (.cons _ (.refl _))) (by simp only [List.getElem?_toArray, List.getElem?_cons_zero, List.getElem?_cons_succ]; exact rfl) rfl (by go_simp) (fun wx hx hD => ?_) ?_
      · have rr := hD.rowOk (n := 16) 1 rfl (zv_size _)
        go_simp
      refine Rd.v_put 0 g5 (zv fun _ => 0) (zv hw) 112 rfl (.cons _ (.cons _ (.refl _))) (by simp only [List.getElem?_toArray, List.getElem?_cons_zero, List.getElem?_cons_succ]; exact rfl) rfl (by go_simp) (fun wx hx hD => ?_) ?_
      · have rr := hD.rowOk (n := 16) 0 rfl (zv_size _)
        go_simp
      rintro wz - hz
      go_simp
      exact key _ _ _ hz
    · skip
      refine Rd.v_box (zv fun _ => 0) 112 (by simp only [List.getElem?_toArray, List.getElem?_cons_zero, List.getElem?_cons_succ]; exact rfl) rfl (by go_simp) (fun wx hx hD => by rw [zv_zero]; go_simp) fun g5 => ?_
      refine Rd.v_box (zv fun _ => 0) 112 (by simp only [List.getElem?_toArray, List.getElem?_cons_zero, List.getElem?_cons_succ]; exact rfl) rfl (by go_simp) (fun wx hx hD => by rw [zv_zero]; go_simp) fun g4 => ?_
      refine Rd.v_put 0 g4 (zv fun _ => 0) (zv hb) 112 rfl (.cons _ (.cons _ (.refl _))) (by simp only [List.getElem?_toArray, List.getElem?_cons_zero, List.getElem?_cons_succ]; exact rfl) rfl (by go_simp) (fun wx hx hD => ?_) ?_
      · have rr := hD.rowOk (n := 16) 0 rfl (zv_size _)
        go_simp
      refine Rd.v_put 1 g5 (zv fun _ => 0) (zv hw) 112 rfl (.cons _ (.cons _ (.refl _))) (by simp only [List.getElem?_toArray, List.getElem?_cons_zero, List.getElem?_cons_succ]; exact rfl) rfl (by go_simp) (fun wx hx hD => ?_) ?_
      · have rr := hD.rowOk (n := 16) 1 rfl (zv_size _)
        go_simp
      rintro wz - hz
      go_simp
      exact key _ _ _ (hz.perm (List.Perm.swap _ _ _))
  intro g4 g5 w2 H2
  clear HH0
  have c2 := H2.cell 4 rfl hn
  have HZ : Hid (nv9 (fun _ => 0) = nv9 (lk9 (upto hb 0) (upto e1 0))) := hide (by rw [lk9_zero])
  go_wp2
  clear c2
  go_loopw [19] (fun t wr => ∃ k : Nat, k ≤ m ∧ t = .int .i64 k ∧ Holds w wr [pBlk g5 (zv hw) 112, pBlk g4 (zv hb) 112, pBlk (w.heap.size + 1 + 1) (nv9 (lk9 (upto hb k) (upto e1 k))) 118, pBlk (w.heap.size + 1) (nv9 fun _ => 0) 118, pBlk w.heap.size (dv m f g) 31]) (fun t _ => m - (intOf t).toNat)
  case atStart => exact ⟨0, Nat.zero_le _, rfl, by rw [← HZ.out]; exact H2⟩
  case round =>
    clear H2 HZ
    obtain ⟨k, hk, rfl, hH⟩ := hrel
    by_cases hlt : k < m
    · have hki : (k : Int) < m := by omega
      have hk16 : k < 16 := by omega
      have hk16i : (k : Int) < 16 := by omega
      have lb := LB.out k hlt
      have lw := LW.out k hlt
      have he := HE1.out k
      have HST := hide (lk9_step hb e1 k)
      have cn0 := hH.cell 4 rfl hn
      go_wp2
      clear cn0
      refine region_tail (fun wx => Holds w wx _) 9 (by kernel_rfl) (by kernel_rfl) hH.drew ?_
      simp only [List.take_succ_cons, List.take_zero, List.drop_succ_cons, List.drop_zero]
      iterate 9
        apply q_step
        · go_simp
        · intro wx hx
          have q1 := hx.cell 1 rfl (zv_get hb hk16)
          have q2 := hx.cell 0 rfl (zv_get hw hk16)
          go_simp
          try exact rfl
      refine wpQuiet_nil ?_
      intro w4 H4
      have c0 := H4.cell 2 rfl (nv9_get _ (show k * 2 < 32 by omega))
      have c1 := H4.cell 2 rfl (nv9_get _ (show k * 2 + 1 < 32 by omega))
      have f0 := H4.frozen 2 rfl (k * 2)
      have f1 := H4.frozen 2 rfl (k * 2 + 1)
      have H5 := H4.set 2 rfl (k * 2) (.int .i64 (hb k : Nat))
      have H6 := H5.set 2 rfl (k * 2 + 1) (.int .i64 ((e1 k : Nat) : Int))
      simp only [List.set_cons_succ, List.set_cons_zero] at H6
      rw [nv9_set, nv9_set, HST.out] at H6
      rw [he] at H6
      have HQ := hide H6; clear H4 H5 H6
      go_wp2
      go_roundw
      case rel => exact ⟨k + 1, by omega, by go_num, HQ.out⟩
      case measure => simp [intOf]; omega
    · obtain rfl : m = k := by omega
      have cc := hH.cells 2 rfl
      have rr := hH.rowOk 3 rfl (nv9_size _)
      have HQ := hide hH
      clear hk hlt hH
      go_wp2
      have H2 := HQ.out.setRow 3 rfl (nv9 (lk9 (upto hb m) (upto e1 m)))
      exact res_agg (p := 2) (g := (w.heap.size + 1)) aggL9 (nv9_size _) rfl rfl rfl (H2.at 3 rfl) ⟨rfl, H2.low⟩
end Go.Proofs.Ytmapjjfefjoemaa

namespace Go.Proofs.Ytmapjjfefjoemaa
open Go.RowKit

theorem Holds.rowCell9 {w0 w : World} {L : List Part} (h : Holds w0 w L) (i : Nat) {g n c : Nat} {e : TypeId} {xs : List Value} (hi : L[i]? = some (pRow (.slice (some ⟨g, 0, none⟩) n c) e 1 n xs)) {j : Nat} {u : Value} (hj : xs[j]? = some u) :
    w.cell? ⟨g, j, none⟩ = some u ∧ w.frozen? ⟨g, j, none⟩ = false := by
  have hl : xs.length = n := by have := (h.row i hi).1; omega
  have := (List.getElem?_eq_some_iff.1 hj).1
  obtain ⟨g', c', e, _, _, _, _, h6, h7⟩ := row_at (h.row i hi) (by omega : 0 < n)
  simp only [Value.slice.injEq, Option.some.injEq, Addr.mk.injEq] at e
  obtain ⟨⟨rfl, _, _⟩, _, _⟩ := e
  exact ⟨h6 j u hj, h7 j⟩
/-- the first k numbers in their places, zeros behind them -/
def upr9 (n k : Nat) : List Nat := (List.range n).map fun i => if i < k then i else 0
theorem upr9_length (n k : Nat) : (upr9 n k).length = n := by simp [upr9]
theorem upr9_zero (n : Nat) : upr9 n 0 = List.replicate n 0 := by
  unfold upr9
  apply List.ext_getElem
  · simp
  · intro i h1 h2; simp
theorem upr9_end (n : Nat) : upr9 n n = List.range n := by
  unfold upr9
  apply List.ext_getElem
  · simp
  · intro i h1 h2
    simp at h1
    simp [h1]
theorem upr9_set (n k : Nat) (h : k < n) : (upr9 n k).set k k = upr9 n (k + 1) := by
  unfold upr9
  apply List.ext_getElem
  · simp
  · intro i h1 h2
    simp at h2
    rw [List.getElem_set]
    simp
    split
    · rename_i e; subst e; simp
    · by_cases c : i < k
      · rw [if_pos c, if_pos (by omega)]
      · rw [if_neg c, if_neg (by omega)]
theorem nums_set9 (l : List Nat) (i x : Nat) : (nums l).set i (.int .i64 (x : Int)) = nums (l.set i x) := by unfold nums; rw [List.map_set]
/-- the tree edges and the others -/
def tre9 (f g : Nat → Nat) (m : Nat) : List Nat × List Nat := spl9 (vb9 f m) (vw9 g m) (List.range m)
set_option maxRecDepth 100000 in
set_option maxHeartbeats 2000000 in
theorem splitByTree_any (f g : Nat → Nat) (m : Nat) (hd : DesN f g m) (w : World) :
    Calls Try.prog 77 #[.agg (dv m f g)] w fun e w' => ∃ v1 v2, e = .returned (.tuple #[v1, v2]) ∧ Holds w w' [pInts v1 (tre9 f g m).1, pInts v2 (tre9 f g m).2] := by
  have CV := hide fun w => vertexLinks_any f g m hd w
  have CS := hide fun v w hv => split_any (vb9 f m) (vw9 g m) (vl9_lt hd) v (List.range m) (fun x hx => by have := List.mem_range.1 hx; have := hd.le; omega) (by rw [List.length_range]; exact hd.le) w hv
  have hT : tre9 f g m = spl9 (vb9 f m) (vw9 g m) (List.range m) := rfl
  rw [hT]
  generalize spl9 (vb9 f m) (vw9 g m) (List.range m) = T at *
  generalize lk9 (vb9 f m) (vw9 g m) = E at *
  have hm := hd.le
  have hn := dv_n m f g
  clear hd hT
  obtain ⟨i0, hi, hz0, hz1, hz2⟩ := info_parts info64
  have I0 := hide (And.intro hi (And.intro hz0 (And.intro hz1 hz2))); clear hi hz0 hz1 hz2
  have HH0 := (Holds.start w).blk (dv m f g) 31 w.heap.size rfl
  go_enter Try.func77, Try.ntmps77
  go_wp2_with (refine makeH (P := Try.prog) rfl 25 _ _ rfl 2 i0 (.int .i64 0) 8 Try.underlying25 I0.out.1 I0.out.2.1 I0.out.2.2.1 I0.out.2.2.2 rfl m .i64 .i64 rfl rfl (by omega) (by decide) HH0 ?_)
  intro w1 H1
  clear HH0
  have H2 : Holds w w1 [pRow (.slice (some ⟨w.heap.size + 1, 0, none⟩) m m) 2 1 m (nums (upr9 m 0)), pBlk w.heap.size (dv m f g) 31] := by
    rw [upr9_zero]; unfold nums; rw [List.map_replicate]; exact H1
  clear H1
  go_wp2
  go_loopw [11] (fun t wr => ∃ k : Nat, k ≤ m ∧ t = .int .i64 k ∧ Holds w wr [pRow (.slice (some ⟨w.heap.size + 1, 0, none⟩) m m) 2 1 m (nums (upr9 m k)), pBlk w.heap.size (dv m f g) 31]) (fun t _ => m - (intOf t).toNat)
  case atStart => exact ⟨0, Nat.zero_le _, rfl, H2⟩
  case round =>
    clear H2
    obtain ⟨k, hk, rfl, hH⟩ := hrel
    by_cases hlt : k < m
    · have hki : (k : Int) < m := by omega
      obtain ⟨z0, z1⟩ := hH.rowCell9 0 rfl (nums_at (l := upr9 m k) (k := k) (by rw [upr9_length]; exact hlt))
      have hP := hH.put 0 rfl k (.int .i64 (k : Nat))
      simp only [List.set_cons_zero] at hP
      rw [nums_set9, upr9_set m k hlt] at hP
      have HQ := hide hP
      clear hP hH
      generalize (upr9 m k)[k]'(by rw [upr9_length]; exact hlt) = old at z0
      go_wp2
      go_roundw
      case rel => exact ⟨k + 1, by omega, by go_num, HQ.out⟩
      case measure => simp [intOf]; omega
    · obtain rfl : m = k := by omega
      rw [upr9_end] at hH
      have hH2 : Holds w wr [pInts (.slice (some ⟨w.heap.size + 1, 0, none⟩) m m) (List.range m), pBlk w.heap.size (dv m f g) 31] := by
        unfold pInts; rw [List.length_range]; exact hH
      have cd := hH2.cells 1 rfl
      clear hk hlt hH
      go_wp2_with fail
      refine (CV.out _).mono ?_
      rintro e w2 ⟨rfl, hb⟩
      have H3 := hH2.call hb
      clear hb hH2 cd
      have RR := hide (rd_nums (H3.own1 0 rfl) (by rw [List.length_range]; omega))
      go_wp2_with fail
      refine (CS.out _ _ RR.out).mono ?_
      rintro e w3 ⟨v1, v2, rfl, hk⟩
      have H4 := H3.joinL hk
      have HQ := hide (H4.sub (L' := [pInts v1 T.1, pInts v2 T.2]) (.cons _ (.cons _ (.refl _))))
      clear hk H3 H4
      go_wp2
      go_ret2
      exact ⟨_, _, rfl, HQ.out⟩
open Classical in
noncomputable def teL9 (n : Int) (f g : Nat → Nat) : List Int := if desB n f g = true then zs9 (tre9 f g n.toNat).1 else []
open Classical in
noncomputable def teC9 (n : Int) (f g : Nat → Nat) : Int := if desB n f g = true then 0 else 1
theorem tre9_len (f g : Nat → Nat) (m : Nat) : (tre9 f g m).1.length + (tre9 f g m).2.length = m := by unfold tre9; rw [spl9_len, List.length_range]
set_option maxRecDepth 100000 in
set_option maxHeartbeats 2000000 in
theorem treeEdges_any (n : Int) (f g : Nat → Nat) (hf : ∀ i, f i < 256) (hg : ∀ i, g i < 256) (w : World) :
    Calls Try.prog 37 #[.agg (dv n f g)] w fun e w' => ∃ v, e = .returned (.tuple #[v, .int .i64 (teC9 n f g)]) ∧ Below w.heap.size w w' ∧ OwnZ w.heap.size w' v (teL9 n f g) := by
  have C1 := hide fun w => isDessin_any n f g hf hg w
  clear hf hg
  have HH0 := (Holds.start w).blk (dv n f g) 31 w.heap.size rfl
  rcases h1 : desB n f g with _ | _
  · rw [h1] at C1
    rw [show teL9 n f g = [] from if_neg (by simp [h1]), show teC9 n f g = 1 from if_neg (by simp [h1])]
    clear h1
    go_enter Try.func37, Try.ntmps37
    go_wp2_with fail
    refine (C1.out _).mono ?_
    rintro e w1 ⟨rfl, hb⟩
    have HH1 := HH0.call hb
    go_wp2
    go_ret2
    exact ⟨.slice none 0 0, rfl, HH1.low, World.ownsRow_nil _ _ _ _⟩
  rw [h1] at C1
  rw [show teL9 n f g = zs9 (tre9 f g n.toNat).1 from if_pos h1, show teC9 n f g = 0 from if_pos h1]
  obtain ⟨m, rfl, hd⟩ := desB_true h1
  rw [Int.toNat_natCast]
  have C2 := hide fun w => splitByTree_any f g m hd w
  generalize tre9 f g m = T at *
  clear h1 hd
  go_enter Try.func37, Try.ntmps37
  go_wp2_with fail
  refine (C1.out _).mono ?_
  rintro e w1 ⟨rfl, hb⟩
  have HH1 := HH0.call hb
  have cd1 := HH1.cells 0 rfl
  clear hb HH0
  go_wp2_with fail
  refine (C2.out _).mono ?_
  rintro e w2 ⟨v1, v2, rfl, hk⟩
  have H4 := HH1.joinL hk
  have HQ := hide (H4.sub (L' := [pInts v1 T.1, pInts v2 T.2]) (.cons _ (.refl _)))
  clear hk H4 HH1 cd1
  go_wp2
  go_ret2
  exact ⟨_, rfl, HQ.out.low, (HQ.out.own1 0 rfl).z⟩
end Go.Proofs.Ytmapjjfefjoemaa

namespace Go.Proofs.Ytmapjjfefjoemaa
open Go.RowKit

theorem infoSl9 : (Try.prog.info? 25).map (fun i => (i.zero, i.size, i.bytes)) = some (some (.slice none 0 0), 1, 24) := by kernel_rfl
theorem rowsP_append9 : ∀ {vs us : List Value} {ls ms : List (List Nat)}, vs.length = ls.length → rowsP (vs ++ us) (ls ++ ms) = rowsP vs ls ++ rowsP us ms
  | [], us, [], ms, _ => rfl
  | [], _, _ :: _, _, h => by simp at h
  | _ :: _, _, [], _, h => by simp at h
  | v :: vs, us, l :: ls, ms, h => by
    have ih := rowsP_append9 (vs := vs) (us := us) (ls := ls) (ms := ms) (by simpa using h)
    simp only [List.cons_append, rowsP, ih]
theorem Holds.noVals9 {w0 w : World} {L : List Part} (h : Holds w0 w L) (i : Nat) {g : Nat} (hi : L[i]? = some (pBlk g #[] 25)) : Holds w0 w (L.set i (pVals (.slice (some ⟨g, 0, none⟩) 0 0) [])) := by
  refine h.turn i hi _ ?_ rfl rfl rfl (Nat.le_refl _) (fun _ _ _ => rfl) fun k hk => .inl ?_
  · exact ⟨rfl, .inr ⟨g, 0, #[], rfl, Nat.zero_le _, h.at i hi, Nat.le_refl 0, by decide, rfl, rfl⟩⟩
  · have : g = k := by simpa [pVals, pRow, Value.ownBlock] using hk
    exact this.symm
namespace Rd
/-- uponE behind a name that nothing unfolds -/
@[irreducible] def upon9 (P : Program) (C : World → Prop) (R : Value → World → Prop) (w : World) (r : Result Next) : Prop := uponE P C R w r
theorem upon9_eq {P : Program} {C : World → Prop} {R : Value → World → Prop} {w : World} {r : Result Next} : upon9 P C R w r = uponE P C R w r := by unfold upon9; rfl
theorem v_s9 {P : Program} {ops : Array Oper} {C : World → Prop} {E : Nat → Bool} {k : Nat} {a : Act} {D : World → Prop} {N : Act → (World → Prop) → Prop} {o : Oper} (R : Value → World → Prop) (hR : ∀ v, Stable (R v)) (ho : ops[k]? = some o) (hE : E k = true) (hw : Region.wanted o (yielded ops a.tmps) = true) (h1 : ∀ w, C w → D w → upon9 P C R w ((execOp a.eval o).run P w))
    (h2 : ∀ v, (∃ w, C w ∧ R v w) → N (a.put o.dst v) (R v)) : opV P ops C E k N a D :=
  v_s R hR ho hE hw (fun w hc hd => by have := h1 w hc hd; rwa [upon9_eq] at this) h2
/-- a value of some form, with lists of slices of given lengths, and what is held then -/
def rV9 (w0 : World) (n : Nat) (F : Value → List Value → List Part) : Value → World → Prop := fun v w => ∃ A c vs, v = .slice A n c ∧ vs.length = n ∧ Holds w0 w (F v vs)
theorem rV9_stable {w0 : World} {n : Nat} {F : Value → List Value → List Part} (v : Value) : Stable (rV9 w0 n F v) := fun _ _ ⟨A, c, vs, e, hl, h⟩ hb => ⟨A, c, vs, e, hl, h.call hb⟩
theorem rV9_form {w0 : World} {n : Nat} {F : Value → List Value → List Part} {v : Value} {w : World} (h : rV9 w0 n F v w) : ∃ A c, v = .slice A n c := by
  obtain ⟨A, c, vs, e, _⟩ := h
  exact ⟨A, c, e⟩
theorem rV9_elim {w0 : World} {n : Nat} {F : Value → List Value → List Part} {v : Value} {w : World} (h : rV9 w0 n F v w) {Q : Prop} (k : ∀ vs, vs.length = n → Holds w0 w (F v vs) → Q) : Q := by
  obtain ⟨A, c, vs, _, hl, h⟩ := h
  exact k vs hl h
def rN9 (w0 : World) (n : Nat) (F : Nat → List Value → List Part) : Value → World → Prop := fun v w => ∃ g vs, v = .slice (some ⟨g, 0, none⟩) 0 0 ∧ vs.length = n ∧ Holds w0 w (F g vs)
theorem rN9_stable {w0 : World} {n : Nat} {F : Nat → List Value → List Part} (v : Value) : Stable (rN9 w0 n F v) := fun _ _ ⟨g, vs, e, hl, h⟩ hb => ⟨g, vs, e, hl, h.call hb⟩
theorem rN9_form {w0 : World} {n : Nat} {F : Nat → List Value → List Part} {v : Value} {w : World} (h : rN9 w0 n F v w) : ∃ g, v = .slice (some ⟨g, 0, none⟩) 0 0 := by
  obtain ⟨g, vs, e, _⟩ := h
  exact ⟨g, e⟩
theorem rN9_elim {w0 : World} {n g : Nat} {F : Nat → List Value → List Part} {w : World} (h : rN9 w0 n F (.slice (some ⟨g, 0, none⟩) 0 0) w) {Q : Prop} (k : ∀ vs, vs.length = n → Holds w0 w (F g vs) → Q) : Q := by
  obtain ⟨g', vs, e, hl, h⟩ := h
  injection e with e
  injection e with e
  injection e with e
  subst e
  exact k vs hl h
def rW9 (w0 : World) (n k : Nat) (F : Value → List Value → List Value → List Part) : Value → World → Prop := fun v w => ∃ A c vs us, v = .slice A n c ∧ vs.length = n ∧ us.length = k ∧ Holds w0 w (F v vs us)
theorem rW9_stable {w0 : World} {n k : Nat} {F : Value → List Value → List Value → List Part} (v : Value) : Stable (rW9 w0 n k F v) := fun _ _ ⟨A, c, vs, us, e, hl, hk, h⟩ hb => ⟨A, c, vs, us, e, hl, hk, h.call hb⟩
theorem rW9_form {w0 : World} {n k : Nat} {F : Value → List Value → List Value → List Part} {v : Value} {w : World} (h : rW9 w0 n k F v w) : ∃ A c, v = .slice A n c := by
  obtain ⟨A, c, vs, us, e, _⟩ := h
  exact ⟨A, c, e⟩
theorem rW9_elim {w0 : World} {n j : Nat} {F : Value → List Value → List Value → List Part} {v : Value} {w : World} (h : rW9 w0 n j F v w) {Q : Prop} (k : ∀ vs us, vs.length = n → us.length = j → Holds w0 w (F v vs us) → Q) : Q := by
  obtain ⟨A, c, vs, us, _, hl, hk, h⟩ := h
  exact k vs us hl hk h
theorem region_RV9 {P : Program} {id : Nat} {Q : Exit → Act → World → Prop} {a : Act} {w w0 : World} {l : List Oper} (L : List Part) (L1 : List Part) (sp : List Nat) (p : Plan) (H : Holds w0 w L1) (hL : L.Sublist L1)
    (hm : P.follows .mixedOrders = true) (hsel : Region.noSelect l.toArray = true) (hB : planB .any l.toArray sp l.toArray.size p (Array.replicate l.toArray.size false) = true)
    (R : Value → World → Prop) (act : Value → Nat → Option Addr → Nat → Option Addr → Nat → Option Addr → Nat → Act)
    (h : ∀ K : Act → World → Prop, (∀ q g A1 c1 A2 c2 A3 c3 wx, R q wx → K (act q g A1 c1 A2 c2 A3 c3) wx) → walkV P l.toArray (fun wx => Holds w0 wx L) (fun k => sp.contains k) K p a (fun wx => Holds w0 wx L1))
    (key : ∀ q g A1 c1 A2 c2 A3 c3 wx, R q wx → Q .normal (act q g A1 c1 A2 c2 A3 c3) wx) : (Code.region id l.toArray true).wp P Q a w :=
  region_P L L1 sp p H hL hm hsel hB (h (fun a' w' => Q .normal a' w') key)
/-- a list's slices behind those of another one -/
theorem upon_rows9 {o : Oper} {a : Act} {w0 w : World} {L : List Part} (H : Holds w0 w L) (k j : Nat) {v u : Value} {vs us : List Value} (hk : L[k]? = some (pVals v vs)) (hj : L[j]? = some (pVals u us)) (hu : 0 < us.length) (h1 : ∀ x ∈ us, x.oneCell' = true) (hb : vs.length + us.length ≤ 100000) {C : World → Prop} {R : Value → World → Prop}
    (h : ∀ v' w', Holds w0 w' (L.set k (pVals v' (vs ++ us))) → C w' ∧ R v' w') (s x : Operand)
    (ho : o.op = .call { callee := .builtin .append, args := #[s, x], argTypes := #[26, 26] })
    (hs : a.eval s = v) (hx : a.eval x = u) : upon9 Try.prog C R w ((execOp a.eval o).run Try.prog w) := by
  obtain ⟨g, c, rfl, _, _, h3, h4, h5, _⟩ := row_at (H.row j hj) hu
  obtain ⟨i0, hi, hz0, hz1, hz2⟩ := info_parts infoSl9
  obtain ⟨v', w', hr, h2, _⟩ := run_appH (P := Try.prog) 26 o.type 25 i0 (.slice none 0 0) 1 24 Try.underlying26 hi hz0 hz1 hz2 rfl (by decide) v vs.length vs H k hk ⟨g, 0, none⟩ us.length c us (by omega) (fun j y hj => by
    have : ((⟨g, 0, none⟩ : Addr).add j) = ⟨g, j, none⟩ := by simp [Addr.add]; exact Eq.symm
    rw [this]; exact h5 j y hj) h1 (by unfold maxLen; omega) (by omega)
  rw [upon9_eq, exec_append ho hs hx hr]
  refine h v' w' ?_
  unfold pVals at *
  rw [List.length_append]
  exact h2
theorem rV9_of {w0 w : World} {n : Nat} {F : Value → List Value → List Part} {v : Value} {vs : List Value} {L' : List Part} (hF : F v vs = pVals v vs :: L') (hl : vs.length = n) (h : Holds w0 w (F v vs)) : rV9 w0 n F v w := by
  have h' := h
  rw [hF] at h'
  obtain ⟨A, c, e⟩ := own_slice (h'.row 0 rfl)
  exact ⟨A, c, vs, by rw [e, hl], hl, h⟩
/-- a call that hands back a list of its own -/
theorem upon9_call {P : Program} {f : Nat} {args : Array Value} {w0 wx : World} {L L1 : List Part} {l : List Nat} (hx : Holds w0 wx L) (hD : Holds w0 wx L1) (h : Calls P f args wx fun e wy => ∃ u, e = .returned u ∧ Holds wx wy [pInts u l]) :
    upon9 P (fun w => Holds w0 w L) (fun v w => Holds w0 w (pInts v l :: L1)) wx (.ok (.enter f args) wx) := by
  rw [upon9_eq]
  refine ⟨rfl, h.mono ?_⟩
  rintro e wy ⟨u, rfl, hu⟩
  exact ⟨u, rfl, hx.call hu.low, (hD.joinL hu).perm List.perm_append_comm⟩
theorem v_own9 {P : Program} {ops : Array Oper} {E : Nat → Bool} {k : Nat} {a : Act} {N : Act → (World → Prop) → Prop} {w0 : World} {L L1 : List Part} {o : Oper} (l : List Nat) (ho : ops[k]? = some o) (hE : E k = true) (hw : Region.wanted o (yielded ops a.tmps) = true)
    (h1 : ∀ w, Holds w0 w L → Holds w0 w L1 → upon9 P (fun w => Holds w0 w L) (fun v w => Holds w0 w (pInts v l :: L1)) w ((execOp a.eval o).run P w))
    (h2 : ∀ v, N (a.put o.dst v) (fun wx => Holds w0 wx (pInts v l :: L1))) : opV P ops (fun wx => Holds w0 wx L) E k N a (fun wx => Holds w0 wx L1) :=
  v_s9 (fun v w => Holds w0 w (pInts v l :: L1)) (fun _ _ _ h hb => h.call hb) ho hE hw h1 fun v _ => h2 v
end Rd
theorem vals_one9 {w0 w : World} {vs : List Value} {cs : List (List Nat)} {L : List Part} (hl : vs.length = cs.length) (h : Holds w0 w L) (hs : ∀ a ∈ rowsP vs cs, a ∈ L) : ∀ x ∈ vs, x.oneCell' = true := by
  intro x hx
  obtain ⟨i, hi, rfl⟩ := List.getElem_of_mem hx
  have h1 := rowsP_at (List.getElem?_eq_getElem hi) (List.getElem?_eq_getElem (show i < cs.length by omega))
  have h2 := (h.2.1 _ (hs _ (List.mem_of_getElem? h1))).1
  obtain ⟨A, c, e⟩ := own_slice (show w.ownsRow 0 _ _ _ _ _ from h2)
  rw [e]; rfl
end Go.Proofs.Ytmapjjfefjoemaa

namespace Go.Proofs.Ytmapjjfefjoemaa
open Go.RowKit

set_option maxRecDepth 100000 in
set_option maxHeartbeats 1000000 in
theorem l09Alone_any (n : Nat) (hn : n ≤ 1000) (w : World) :
    Calls Try.prog 105 #[.int .i64 n] w fun e w' => ∃ u, e = .returned u ∧ Holds w w' [pInts u (List.range n)] := by
  have H1 := (Holds.start w).rowNew #[] 2 1 0 w.heap.size rfl rfl (by decide)
  have H2 : Holds w (w.alloc (.cells #[] 2)) [pInts (.slice (some ⟨w.heap.size, 0, none⟩) 0 0) (List.range 0)] := H1
  clear H1
  go_enter Try.func105, Try.ntmps105
  go_wp2
  go_loopw [3, 4] (fun q t wr => ∃ k : Nat, k ≤ n ∧ t = .int .i64 k ∧ Holds w wr [pInts q (List.range k)]) (fun _ t _ => n - (intOf t).toNat)
  case atStart => exact ⟨0, Nat.zero_le _, rfl, H2⟩
  case round =>
    clear H2
    obtain ⟨k, hk, rfl, hH⟩ := hrel
    by_cases hlt : k < n
    · have hki : (k : Int) < n := by omega
      obtain ⟨A, c, rfl⟩ := hH.intsForm 0 rfl
      rw [List.length_range]
      rw [List.length_range] at hH
      go_wp2_with (at_builtin; refine appI (hH.alloc _) 0 rfl wr.heap.size [k] 2 ?_ ?_ rfl _ _ rfl rfl rfl ?_)
      · exact heap_at _ _ _ rfl
      · simp only [List.length_cons, List.length_nil, List.length_range]; omega
      intro v' w' h1
      rw [← List.range_succ] at h1
      have HQ := hide h1
      clear hH h1
      go_wp2
      go_roundw
      case rel => exact ⟨k + 1, by omega, by go_num, HQ.out⟩
      case measure => simp [intOf]; omega
    · obtain rfl : n = k := by omega
      clear hk hlt
      go_wp2
      go_ret
      exact ⟨_, rfl, hH⟩
/-- numbers of the first n places -/
def cl9 (h : Nat → Nat) (n : Nat) : List Nat := (List.range n).map h
theorem cl9_length (h : Nat → Nat) (n : Nat) : (cl9 h n).length = n := by simp [cl9]
theorem cl9_get (h : Nat → Nat) {n k : Nat} (hk : k < n) (h' : k < (cl9 h n).length) : (cl9 h n)[k] = h k := by simp [cl9]
theorem cl9_at (h : Nat → Nat) {n k : Nat} (hk : k < n) : (nums (cl9 h n))[k]? = some (.int .i64 (h k : Nat)) := by rw [nums_at (by rw [cl9_length]; exact hk), cl9_get h hk]
theorem cl9_set (h : Nat → Nat) (n k x : Nat) : (cl9 h n).set k x = cl9 (fset h k x) n := by
  unfold cl9
  apply List.ext_getElem
  · simp
  · intro i h1 h2
    rw [List.getElem_set]
    simp only [List.getElem_map, List.getElem_range, fset]
    by_cases e : k = i
    · subst e; simp
    · rw [if_neg e, if_neg (Ne.symm e)]
theorem cl9_congr {h h' : Nat → Nat} {n : Nat} (e : ∀ i, i < n → h i = h' i) : cl9 h n = cl9 h' n := by
  unfold cl9
  exact List.map_congr_left fun i hi => e i (List.mem_range.1 hi)
theorem cl9_id (n : Nat) : cl9 id n = List.range n := by simp [cl9]
theorem Holds.intCell9 {w0 w : World} {L : List Part} (h : Holds w0 w L) (i : Nat) {g n c : Nat} {l : List Nat} (hi : L[i]? = some (pInts (.slice (some ⟨g, 0, none⟩) n c) l)) {k x : Nat} (hk : l[k]? = some x) :
    w.cell? ⟨g, k, none⟩ = some (.int .i64 (x : Nat)) ∧ w.frozen? ⟨g, k, none⟩ = false := by
  obtain ⟨hl, rfl⟩ := List.getElem?_eq_some_iff.1 hk
  obtain ⟨g', c', e, _, h1, h2⟩ := h.ints i hi hl
  injection e with e
  injection e with e
  injection e with e
  subst e
  exact ⟨h1, h2⟩
theorem cl9_get? (h : Nat → Nat) {n k : Nat} (hk : k < n) : (cl9 h n)[k]? = some (h k) := by unfold cl9; simp [hk]
def joi9 (h : Nat → Nat) (a b : Nat) : Nat → Nat := fun p => if h p = h b then h a else h p
set_option maxRecDepth 100000 in
set_option maxHeartbeats 1000000 in
theorem l09Join_any (h : Nat → Nat) (n a b : Nat) (hn : n ≤ 1000) (ha : a < n) (hb : b < n) (v : Value) (w0 w : World) (L : List Part) (H : Holds w0 w (pInts v (cl9 h n) :: L)) :
    Calls Try.prog 106 #[v, .int .i64 a, .int .i64 b] w fun e w' => e = .returned (.bool (decide (h a ≠ h b))) ∧ Holds w0 w' (pInts v (cl9 (joi9 h a b) n) :: L) := by
  obtain ⟨A, c, rfl⟩ := H.intsForm 0 rfl
  rw [cl9_length] at H ⊢
  obtain ⟨G, c', eA, _, _, _, _, _, _⟩ := row_at (H.row 0 rfl) (by rw [cl9_length]; omega)
  injection eA with eA e1 e2
  subst eA
  clear e1 e2
  have z0 := (H.intCell9 0 rfl (cl9_get? h ha)).1
  have z1 := (H.intCell9 0 rfl (cl9_get? h hb)).1
  obtain ⟨h2, hh2⟩ : ∃ h2, h2 = joi9 h a b := ⟨_, rfl⟩
  have hh3 : ∀ p, h2 p = if h p = h b then h a else h p := fun p => by rw [hh2]; rfl
  rw [← hh2]
  have HS : Hid (h a = h b → h2 = h) := hide fun e => by
    funext p; rw [hh3]; split
    · rename_i q; rw [q, e]
    · rfl
  clear hh2
  have hai : (a : Int) < n := by omega
  have hbi : (b : Int) < n := by omega
  generalize hka : h a = ka at *
  generalize hkb : h b = kb at *
  have HH3 := hide hh3; clear hh3 hka hkb
  by_cases e : ka = kb
  · have hq : ((kb : Int) == (ka : Int)) = true := by simp; omega
    have HS2 := hide (HS.out e)
    rw [show decide (ka ≠ kb) = false by simp [e]]
    clear e HS HH3
    go_enter Try.func106, Try.ntmps106
    go_wp2
    go_quiet (fail)
    have HZ := H.drewN nq
    clear H z0 z1
    generalize w.drewN nq = wz at *
    go_wp2
    go_ret
    exact ⟨rfl, by rw [HS2.out]; exact HZ⟩
  · have hq : ((kb : Int) == (ka : Int)) = false := by simp; omega
    rw [show decide (ka ≠ kb) = true by simp [e]]
    clear HS
    have HM : Hid (cl9 h n = cl9 (fun p => if p < 0 then h2 p else h p) n) := hide (cl9_congr fun i _ => by rw [if_neg (by omega)])
    clear e
    go_enter Try.func106, Try.ntmps106
    go_wp2
    go_quiet (fail)
    have HZ := H.drewN nq
    clear H z0 z1
    generalize w.drewN nq = wz at *
    go_wp2
    clear hq
    go_loopw [9] (fun t wr => ∃ k : Nat, k ≤ n ∧ t = .int .i64 k ∧ Holds w0 wr (pInts (.slice (some ⟨G, 0, none⟩) n c) (cl9 (fun p => if p < k then h2 p else h p) n) :: L)) (fun t _ => n - (intOf t).toNat)
    case atStart => exact ⟨0, Nat.zero_le _, rfl, by rw [← HM.out]; exact HZ⟩
    case round =>
      clear HZ HM
      obtain ⟨k, hk, rfl, hH⟩ := hrel
      by_cases hlt : k < n
      · have hki : (k : Int) < n := by omega
        obtain ⟨z0, z1⟩ := hH.intCell9 0 rfl (cl9_get? _ hlt)
        have hH0 := hH
        unfold pInts at hH
        rw [cl9_length] at hH
        have h3 := HH3.out k
        simp only [Nat.lt_irrefl, if_false] at z0
        have hP := hH.put 0 rfl k (.int .i64 (ka : Nat))
        simp only [List.set_cons_zero] at hP
        rw [nums_set9, cl9_set] at hP
        by_cases e : h k = kb
        · have hq : (((h k : Nat) : Int) == (kb : Int)) = true := by rw [e]; simp
          rw [if_pos e] at h3
          have HF := hide (cl9_congr (h := fset (fun p => if p < k then h2 p else h p) k ka) (h' := fun p => if p < k + 1 then h2 p else h p) (n := n) fun i _ => by
            simp only [fset]
            by_cases c : i = k
            · subst c; rw [if_pos rfl, if_pos (by omega), h3]
            · rw [if_neg c]; by_cases c2 : i < k
              · rw [if_pos c2, if_pos (by omega)]
              · rw [if_neg c2, if_neg (by omega)])
          rw [HF.out] at hP
          have HQ : Hid (Holds w0 (wr.setCell ⟨G, k, none⟩ (.int .i64 (ka : Nat))) (pInts (.slice (some ⟨G, 0, none⟩) n c) (cl9 (fun p => if p < k + 1 then h2 p else h p) n) :: L)) := hide (by unfold pInts; rw [cl9_length]; exact hP)
          clear hP hH hH0 HF e h3
          generalize h k = hk9 at *
          go_wp2
          go_roundw
          case rel => exact ⟨k + 1, by omega, by go_num, HQ.out⟩
          case measure => simp [intOf]; omega
        · have hq : (((h k : Nat) : Int) == (kb : Int)) = false := by simp; omega
          rw [if_neg e] at h3
          have HF := hide (cl9_congr (h := fun p => if p < k then h2 p else h p) (h' := fun p => if p < k + 1 then h2 p else h p) (n := n) fun i _ => by
            by_cases c : i = k
            · subst c; rw [if_neg (by omega), if_pos (by omega), h3]
            · by_cases c2 : i < k
              · rw [if_pos c2, if_pos (by omega)]
              · rw [if_neg c2, if_neg (by omega)])
          have HQ : Hid (Holds w0 wr (pInts (.slice (some ⟨G, 0, none⟩) n c) (cl9 (fun p => if p < k + 1 then h2 p else h p) n) :: L)) := hide (by rw [← HF.out]; exact hH0)
          clear hP hH hH0 HF e h3
          generalize h k = hk9 at *
          go_wp2
          go_roundw
          case rel => exact ⟨k + 1, by omega, by go_num, HQ.out⟩
          case measure => simp [intOf]; omega
      · obtain rfl : n = k := by omega
        have HQ := hide (show Holds w0 wr (pInts (.slice (some ⟨G, 0, none⟩) n c) (cl9 h2 n) :: L) by rw [cl9_congr (h := h2) (h' := fun p => if p < n then h2 p else h p) fun i hi => by rw [if_pos hi]]; exact hH)
        clear hk hlt hH
        go_wp2
        go_ret
        exact ⟨rfl, HQ.out⟩
end Go.Proofs.Ytmapjjfefjoemaa

namespace Go.Proofs.Ytmapjjfefjoemaa
open Go.RowKit

/-- the marks of the tree edges among the first k edges -/
def mk9 (e0 e1 : Nat → Nat) (k : Nat) : Nat → Bool := fun x => decide (x ∈ (spl9 e0 e1 (List.range k)).1)
theorem bv9_set (f : Nat → Bool) (i : Nat) (b : Bool) : (bv f).setIfInBounds i (.bool b) = bv (fun j => if j = i then b else f j) := by
  unfold bv
  rw [row_set]
  apply row_congr
  intro j _
  by_cases c : j = i
  · simp [c]
  · simp [c]
theorem mk9_zero (e0 e1 : Nat → Nat) : mk9 e0 e1 0 = fun _ => false := by funext x; simp [mk9, spl9]
theorem mk9_step (e0 e1 : Nat → Nat) (k : Nat) : (fun j => if j = k then decide (pcs9 e0 e1 (List.range k) (e0 k) ≠ pcs9 e0 e1 (List.range k) (e1 k)) else mk9 e0 e1 k j) = mk9 e0 e1 (k + 1) := by
  funext j
  have hm : k ∉ (spl9 e0 e1 (List.range k)).1 := fun h => by
    have := (spl9_mem e0 e1 (List.range k) k).2 (.inl h)
    simp at this
  unfold mk9
  rw [spl9_pcs, List.range_succ, spl9_snoc]
  unfold spst9
  by_cases c : j = k
  · subst c
    rw [if_pos rfl]
    split
    · rename_i h; simp [h, hm]
    · rename_i h; simp [h]
  · rw [if_neg c]
    split
    · rfl
    · simp [c]
set_option maxRecDepth 100000 in
set_option maxHeartbeats 4000000 in
theorem l09Tree_any (f g : Nat → Nat) (m : Nat) (hd : DesN f g m) (w : World) :
    Calls Try.prog 76 #[.agg (dv m f g)] w fun e w' => e = .returned (.agg (bv (mk9 (vb9 f m) (vw9 g m) m))) ∧ Below w.heap.size w w' := by
  have CB := hide fun w => sWhich_any f m hd.black w
  have CW := hide fun w => sWhich_any g m hd.white w
  have CA := hide fun w => l09Alone_any 32 (by omega) w
  have LB := hide fun x (hx : x < m) => which_lt9 hd.black hx
  have LW := hide fun x (hx : x < m) => which_lt9 hd.white hx
  have HE0 : Hid (∀ x, x < m → vb9 f m x = whichF f m x) := hide fun x hx => by unfold vb9 upto; rw [if_pos hx]
  have HE1 : Hid (∀ x, x < m → vw9 g m x = 16 + whichF g m x) := hide fun x hx => by unfold vw9 upto; rw [if_pos hx]
  have hm := hd.le
  have hn := dv_n m f g
  clear hd
  generalize vb9 f m = e0 at *
  generalize vw9 g m = e1 at *
  generalize whichF f m = hb at *
  generalize whichF g m = hw at *
  have HH0 := ((Holds.start w).blk (dv m f g) 31 w.heap.size rfl).blk (bv fun _ => false) 85 (w.heap.size + 1) (by simp)
  go_enter Try.func76, Try.ntmps76
  go_wp2
  rw [bv_false] at HH0
  rw [← bv_false] at HH0 ⊢
  apply Rd.region_R3 (w0 := w) [pBlk (w.heap.size + 1) (bv fun _ => false) 85, pBlk w.heap.size (dv m f g) 31] [pBlk (w.heap.size + 1) (bv fun _ => false) 85, pBlk w.heap.size (dv m f g) 31] [11, 12, 13, 14, 15, 16] (.q 0 <| .q 1 <| .q 2 <| .q 3 <| .q 4 <| .q 5 <| .q 6 <| .q 7 <| .q 8 <| .q 9 <| .q 10 <| (.s3 11 (.s2 12 (.s1 13 <| .s1 14 <| .s1 15 <| .s1 16 .fin) 13 (.s1 12 <| .s1 14 <| .s1 15 <| .s1 16 .fin)) 12 (.s2 11 (.s1 13 <| .s1 14 <| .s1 15 <| .s1 16 .fin) 13 (.s1 11 <| .s1 14 <| .s1 15 <| .s1 16 .fin)) 13 (.s2 11 (.s1 12 <| .s1 14 <| .s1 15 <| .s1 16 .fin) 12 (.s1 11 <| .s1 14 <| .s1 15 <| .s1 16 .fin)))) HH0 (.refl _) (by kernel_rfl) (by kernel_rfl) (by kernel_rfl) (F := fun (g3 : Nat) (g4 : Nat) (g5 : Nat) => pBlk g3 (zv hb) 112 :: pBlk g4 (zv hw) 112 :: pBlk g5 (bv fun _ => false) 85 :: [pBlk (w.heap.size + 1) (bv fun _ => false) 85, pBlk w.heap.size (dv m f g) 31])
  case h =>
    intro K key
    iterate 4
      apply Rd.v_q
      · simp only [List.getElem?_toArray, List.getElem?_cons_zero, List.getElem?_cons_succ]; exact rfl
      · rfl
      · go_simp
      · intro wx hx
        have q1 := hx.cells 1 rfl
        have q2 := hx.cell 1 rfl hn
        unfold atG
        go_simp
        simp only [uponG]
        exact ⟨by trivial, rfl⟩
    iterate 1
      apply Rd.v_q
      · simp only [List.getElem?_toArray, List.getElem?_cons_zero, List.getElem?_cons_succ]; exact rfl
      · rfl
      · go_simp
      · intro wx hx
        have q1 := hx.cells 1 rfl
        have q2 := hx.cell 1 rfl hn
        unfold atG
        go_simp
        simp only [uponG]
        exact ⟨by trivial, CB.out wx⟩
    iterate 4
      apply Rd.v_q
      · simp only [List.getElem?_toArray, List.getElem?_cons_zero, List.getElem?_cons_succ]; exact rfl
      · rfl
      · go_simp
      · intro wx hx
        have q1 := hx.cells 1 rfl
        have q2 := hx.cell 1 rfl hn
        unfold atG
        go_simp
        simp only [uponG]
        exact ⟨by trivial, rfl⟩
    iterate 1
      apply Rd.v_q
      · simp only [List.getElem?_toArray, List.getElem?_cons_zero, List.getElem?_cons_succ]; exact rfl
      · rfl
      · go_simp
      · intro wx hx
        have q1 := hx.cells 1 rfl
        have q2 := hx.cell 1 rfl hn
        unfold atG
        go_simp
        simp only [uponG]
        exact ⟨by trivial, CW.out wx⟩
    iterate 1
      apply Rd.v_q
      · simp only [List.getElem?_toArray, List.getElem?_cons_zero, List.getElem?_cons_succ]; exact rfl
      · rfl
      · go_simp
      · intro wx hx
        have q1 := hx.cells 1 rfl
        have q2 := hx.cell 1 rfl hn
        unfold atG
        go_simp
        simp only [uponG]
        exact ⟨by trivial, rfl⟩
    refine ⟨?_, ?_, ?_⟩
    · skip
      refine Rd.v_box (zv fun _ => 0) 112 (by simp only [List.getElem?_toArray, List.getElem?_cons_zero, List.getElem?_cons_succ]; exact rfl) rfl (by go_simp) (fun wx hx hD => by rw [zv_zero]; go_simp) fun g3 => ?_
      refine ⟨?_, ?_⟩
      · skip
        refine Rd.v_box (zv fun _ => 0) 112 (by simp only [List.getElem?_toArray, List.getElem?_cons_zero, List.getElem?_cons_succ]; exact rfl) rfl (by go_simp) (fun wx hx hD => by rw [zv_zero]; go_simp) fun g4 => ?_
        refine Rd.v_box (bv fun _ => false) 85 (by simp only [List.getElem?_toArray, List.getElem?_cons_zero, List.getElem?_cons_succ]; exact rfl) rfl (by go_simp) (fun wx hx hD => by rw [bv_false]; go_simp) fun g5 => ?_
        refine Rd.v_put 2 g3 (zv fun _ => 0) (zv hb) 112 rfl (.cons _ (.cons _ (.cons _ (.refl _)))) (by simp only [List.getElem?_toArray, List.getElem?_cons_zero, List.getElem?_cons_succ]; exact rfl) rfl (by go_simp) (fun wx hx hD => ?_) ?_
        · have rr := hD.rowOk (n := 16) 2 rfl (zv_size _)
          go_simp
        refine Rd.v_put 1 g4 (zv fun _ => 0) (zv hw) 112 rfl (.cons _ (.cons _ (.cons _ (.refl _)))) (by simp only [List.getElem?_toArray, List.getElem?_cons_zero, List.getElem?_cons_succ]; exact rfl) rfl (by go_simp) (fun wx hx hD => ?_) ?_
        · have rr := hD.rowOk (n := 16) 1 rfl (zv_size _)
          go_simp
        refine Rd.v_put 0 g5 (bv fun _ => false) (bv fun _ => false) 85 rfl (.cons _ (.cons _ (.cons _ (.refl _)))) (by simp only [List.getElem?_toArray, List.getElem?_cons_zero, List.getElem?_cons_succ]; exact rfl) rfl (by go_simp) (fun wx hx hD => ?_) ?_
        · have rr := hD.rowOk (n := 16) 0 rfl (bv_size _)
          rw [bv_false]; go_simp
        rintro wz - hz
        go_simp
        exact key g3 g4 g5 _ (hz.perm (((List.Perm.swap _ _ _).cons _).trans ((List.Perm.swap _ _ _).trans (((List.Perm.swap _ _ _).cons _)))))
      · skip
        refine Rd.v_box (bv fun _ => false) 85 (by simp only [List.getElem?_toArray, List.getElem?_cons_zero, List.getElem?_cons_succ]; exact rfl) rfl (by go_simp) (fun wx hx hD => by rw [bv_false]; go_simp) fun g5 => ?_
        refine Rd.v_box (zv fun _ => 0) 112 (by simp only [List.getElem?_toArray, List.getElem?_cons_zero, List.getElem?_cons_succ]; exact rfl) rfl (by go_simp) (fun wx hx hD => by rw [zv_zero]; go_simp) fun g4 => ?_
        refine Rd.v_put 2 g3 (zv fun _ => 0) (zv hb) 112 rfl (.cons _ (.cons _ (.cons _ (.refl _)))) (by simp only [List.getElem?_toArray, List.getElem?_cons_zero, List.getElem?_cons_succ]; exact rfl) rfl (by go_simp) (fun wx hx hD => ?_) ?_
        · have rr := hD.rowOk (n := 16) 2 rfl (zv_size _)
          go_simp
        refine Rd.v_put 0 g4 (zv fun _ => 0) (zv hw) 112 rfl (.cons _ (.cons _ (.cons _ (.refl _)))) (by simp only [List.getElem?_toArray, List.getElem?_cons_zero, List.getElem?_cons_succ]; exact rfl) rfl (by go_simp) (fun wx hx hD => ?_) ?_
        · have rr := hD.rowOk (n := 16) 0 rfl (zv_size _)
          go_simp
        refine Rd.v_put 1 g5 (bv fun _ => false) (bv fun _ => false) 85 rfl (.cons _ (.cons _ (.cons _ (.refl _)))) (by simp only [List.getElem?_toArray, List.getElem?_cons_zero, List.getElem?_cons_succ]; exact rfl) rfl (by go_simp) (fun wx hx hD => ?_) ?_
        · have rr := hD.rowOk (n := 16) 1 rfl (bv_size _)
          rw [bv_false]; go_simp
        rintro wz - hz
        go_simp
        exact key g3 g4 g5 _ (hz.perm (((List.Perm.swap _ _ _).cons _).trans ((List.Perm.swap _ _ _))))
    · skip
      refine Rd.v_box (zv fun _ => 0) 112 (by simp only [List.getElem?_toArray, List.getElem?_cons_zero, List.getElem?_cons_succ]; exact rfl) rfl (by go_simp) (fun wx hx hD => by rw [zv_zero]; go_simp) fun g4 => ?_
      refine ⟨?_, ?_⟩
      · skip
        refine Rd.v_box (zv fun _ => 0) 112 (by simp only [List.getElem?_toArray, List.getElem?_cons_zero, List.getElem?_cons_succ]; exact rfl) rfl (by go_simp) (fun wx hx hD => by rw [zv_zero]; go_simp) fun g3 => ?_
        refine Rd.v_box (bv fun _ => false) 85 (by simp only [List.getElem?_toArray, List.getElem?_cons_zero, List.getElem?_cons_succ]; exact rfl) rfl (by go_simp) (fun wx hx hD => by rw [bv_false]; go_simp) fun g5 => ?_
        refine Rd.v_put 1 g3 (zv fun _ => 0) (zv hb) 112 rfl (.cons _ (.cons _ (.cons _ (.refl _)))) (by simp only [List.getElem?_toArray, List.getElem?_cons_zero, List.getElem?_cons_succ]; exact rfl) rfl (by go_simp) (fun wx hx hD => ?_) ?_
        · have rr := hD.rowOk (n := 16) 1 rfl (zv_size _)
          go_simp
        refine Rd.v_put 2 g4 (zv fun _ => 0) (zv hw) 112 rfl (.cons _ (.cons _ (.cons _ (.refl _)))) (by simp only [List.getElem?_toArray, List.getElem?_cons_zero, List.getElem?_cons_succ]; exact rfl) rfl (by go_simp) (fun wx hx hD => ?_) ?_
        · have rr := hD.rowOk (n := 16) 2 rfl (zv_size _)
          go_simp
        refine Rd.v_put 0 g5 (bv fun _ => false) (bv fun _ => false) 85 rfl (.cons _ (.cons _ (.cons _ (.refl _)))) (by simp only [List.getElem?_toArray, List.getElem?_cons_zero, List.getElem?_cons_succ]; exact rfl) rfl (by go_simp) (fun wx hx hD => ?_) ?_
        · have rr := hD.rowOk (n := 16) 0 rfl (bv_size _)
          rw [bv_false]; go_simp
        rintro wz - hz
        go_simp
        exact key g3 g4 g5 _ (hz.perm ((List.Perm.swap _ _ _).trans (((List.Perm.swap _ _ _).cons _))))
      · skip
        refine Rd.v_box (bv fun _ => false) 85 (by simp only [List.getElem?_toArray, List.getElem?_cons_zero, List.getElem?_cons_succ]; exact rfl) rfl (by go_simp) (fun wx hx hD => by rw [bv_false]; go_simp) fun g5 => ?_
        refine Rd.v_box (zv fun _ => 0) 112 (by simp only [List.getElem?_toArray, List.getElem?_cons_zero, List.getElem?_cons_succ]; exact rfl) rfl (by go_simp) (fun wx hx hD => by rw [zv_zero]; go_simp) fun g3 => ?_
        refine Rd.v_put 0 g3 (zv fun _ => 0) (zv hb) 112 rfl (.cons _ (.cons _ (.cons _ (.refl _)))) (by simp only [List.getElem?_toArray, List.getElem?_cons_zero, List.getElem?_cons_succ]; exact rfl) rfl (by go_simp) (fun wx hx hD => ?_) ?_
        · have rr := hD.rowOk (n := 16) 0 rfl (zv_size _)
          go_simp
        refine Rd.v_put 2 g4 (zv fun _ => 0) (zv hw) 112 rfl (.cons _ (.cons _ (.cons _ (.refl _)))) (by simp only [List.getElem?_toArray, List.getElem?_cons_zero, List.getElem?_cons_succ]; exact rfl) rfl (by go_simp) (fun wx hx hD => ?_) ?_
        · have rr := hD.rowOk (n := 16) 2 rfl (zv_size _)
          go_simp
        refine Rd.v_put 1 g5 (bv fun _ => false) (bv fun _ => false) 85 rfl (.cons _ (.cons _ (.cons _ (.refl _)))) (by simp only [List.getElem?_toArray, List.getElem?_cons_zero, List.getElem?_cons_succ]; exact rfl) rfl (by go_simp) (fun wx hx hD => ?_) ?_
        · have rr := hD.rowOk (n := 16) 1 rfl (bv_size _)
          rw [bv_false]; go_simp
        rintro wz - hz
        go_simp
        exact key g3 g4 g5 _ (hz.perm (((List.Perm.swap _ _ _).cons _)))
    · skip
      refine Rd.v_box (bv fun _ => false) 85 (by simp only [List.getElem?_toArray, List.getElem?_cons_zero, List.getElem?_cons_succ]; exact rfl) rfl (by go_simp) (fun wx hx hD => by rw [bv_false]; go_simp) fun g5 => ?_
      refine ⟨?_, ?_⟩
      · skip
        refine Rd.v_box (zv fun _ => 0) 112 (by simp only [List.getElem?_toArray, List.getElem?_cons_zero, List.getElem?_cons_succ]; exact rfl) rfl (by go_simp) (fun wx hx hD => by rw [zv_zero]; go_simp) fun g3 => ?_
        refine Rd.v_box (zv fun _ => 0) 112 (by simp only [List.getElem?_toArray, List.getElem?_cons_zero, List.getElem?_cons_succ]; exact rfl) rfl (by go_simp) (fun wx hx hD => by rw [zv_zero]; go_simp) fun g4 => ?_
        refine Rd.v_put 1 g3 (zv fun _ => 0) (zv hb) 112 rfl (.cons _ (.cons _ (.cons _ (.refl _)))) (by simp only [List.getElem?_toArray, List.getElem?_cons_zero, List.getElem?_cons_succ]; exact rfl) rfl (by go_simp) (fun wx hx hD => ?_) ?_
        · have rr := hD.rowOk (n := 16) 1 rfl (zv_size _)
          go_simp
        refine Rd.v_put 0 g4 (zv fun _ => 0) (zv hw) 112 rfl (.cons _ (.cons _ (.cons _ (.refl _)))) (by simp only [List.getElem?_toArray, List.getElem?_cons_zero, List.getElem?_cons_succ]; exact rfl) rfl (by go_simp) (fun wx hx hD => ?_) ?_
        · have rr := hD.rowOk (n := 16) 0 rfl (zv_size _)
          go_simp
        refine Rd.v_put 2 g5 (bv fun _ => false) (bv fun _ => false) 85 rfl (.cons _ (.cons _ (.cons _ (.refl _)))) (by simp only [List.getElem?_toArray, List.getElem?_cons_zero, List.getElem?_cons_succ]; exact rfl) rfl (by go_simp) (fun wx hx hD => ?_) ?_
        · have rr := hD.rowOk (n := 16) 2 rfl (bv_size _)
          rw [bv_false]; go_simp
        rintro wz - hz
        go_simp
        exact key g3 g4 g5 _ (hz.perm ((List.Perm.swap _ _ _)))
      · skip
        refine Rd.v_box (zv fun _ => 0) 112 (by simp only [List.getElem?_toArray, List.getElem?_cons_zero, List.getElem?_cons_succ]; exact rfl) rfl (by go_simp) (fun wx hx hD => by rw [zv_zero]; go_simp) fun g4 => ?_
        refine Rd.v_box (zv fun _ => 0) 112 (by simp only [List.getElem?_toArray, List.getElem?_cons_zero, List.getElem?_cons_succ]; exact rfl) rfl (by go_simp) (fun wx hx hD => by rw [zv_zero]; go_simp) fun g3 => ?_
        refine Rd.v_put 0 g3 (zv fun _ => 0) (zv hb) 112 rfl (.cons _ (.cons _ (.cons _ (.refl _)))) (by simp only [List.getElem?_toArray, List.getElem?_cons_zero, List.getElem?_cons_succ]; exact rfl) rfl (by go_simp) (fun wx hx hD => ?_) ?_
        · have rr := hD.rowOk (n := 16) 0 rfl (zv_size _)
          go_simp
        refine Rd.v_put 1 g4 (zv fun _ => 0) (zv hw) 112 rfl (.cons _ (.cons _ (.cons _ (.refl _)))) (by simp only [List.getElem?_toArray, List.getElem?_cons_zero, List.getElem?_cons_succ]; exact rfl) rfl (by go_simp) (fun wx hx hD => ?_) ?_
        · have rr := hD.rowOk (n := 16) 1 rfl (zv_size _)
          go_simp
        refine Rd.v_put 2 g5 (bv fun _ => false) (bv fun _ => false) 85 rfl (.cons _ (.cons _ (.cons _ (.refl _)))) (by simp only [List.getElem?_toArray, List.getElem?_cons_zero, List.getElem?_cons_succ]; exact rfl) rfl (by go_simp) (fun wx hx hD => ?_) ?_
        · have rr := hD.rowOk (n := 16) 2 rfl (bv_size _)
          rw [bv_false]; go_simp
        rintro wz - hz
        go_simp
        exact key g3 g4 g5 _ hz
  intro g3 g4 g5 w2 H2
  clear HH0
  go_wp2_with fail
  refine (CA.out _).mono ?_
  rintro e w3 ⟨cv, rfl, hcv⟩
  have H3 := (H2.joinL hcv).perm List.perm_append_comm
  clear hcv H2
  have H4 : Holds w w3 [pInts cv (cl9 (pcs9 e0 e1 (List.range 0)) 32), pBlk g3 (zv hb) 112, pBlk g4 (zv hw) 112, pBlk g5 (bv (mk9 e0 e1 0)) 85, pBlk (w.heap.size + 1) (bv fun _ => false) 85, pBlk w.heap.size (dv m f g) 31] := by
    rw [mk9_zero]
    have e : cl9 (pcs9 e0 e1 (List.range 0)) 32 = List.range 32 := cl9_id 32
    rw [e]
    exact H3
  clear H3
  go_wp2
  go_loopw [7] (fun t wr => ∃ k : Nat, k ≤ m ∧ t = .int .i64 k ∧ Holds w wr [pInts cv (cl9 (pcs9 e0 e1 (List.range k)) 32), pBlk g3 (zv hb) 112, pBlk g4 (zv hw) 112, pBlk g5 (bv (mk9 e0 e1 k)) 85, pBlk (w.heap.size + 1) (bv fun _ => false) 85, pBlk w.heap.size (dv m f g) 31]) (fun t _ => m - (intOf t).toNat)
  case atStart => exact ⟨0, Nat.zero_le _, rfl, H4⟩
  case round =>
    clear H4
    obtain ⟨k, hk, rfl, hH⟩ := hrel
    have cn0 := hH.cell 5 rfl hn
    by_cases hlt : k < m
    · have hki : (k : Int) < m := by omega
      have hk16 : k < 16 := by omega
      have hk16i : (k : Int) < 16 := by omega
      have lb := LB.out k hlt
      have lw := LW.out k hlt
      have hst := mk9_step e0 e1 k
      have hps : pcs9 e0 e1 (List.range (k + 1)) = joi9 (pcs9 e0 e1 (List.range k)) (hb k) (16 + hw k) := by
        rw [List.range_succ, pcs9_snoc, ← HE0.out k hlt, ← HE1.out k hlt]; rfl
      rw [HE0.out k hlt, HE1.out k hlt] at hst
      generalize pcs9 e0 e1 (List.range k) = h at *
      have HST := hide (And.intro hst hps); clear hst hps
      have CJ := hide fun wx (H : Holds w wx [pInts cv (cl9 h 32), pBlk g3 (zv hb) 112, pBlk g4 (zv hw) 112, pBlk g5 (bv (mk9 e0 e1 k)) 85, pBlk (w.heap.size + 1) (bv fun _ => false) 85, pBlk w.heap.size (dv m f g) 31]) => l09Join_any h 32 (hb k) (16 + hw k) (by omega) (by omega) (by omega) cv w wx _ H
      have wk : IntKind.i64.wrap (16 + (hw k : Int)) = 16 + (hw k : Int) := wr64k (by omega) (by omega)
      have HC1 := hide (show ((16 + hw k : Nat) : Int) = 16 + (hw k : Int) by omega)
      rw [HC1.out] at CJ
      generalize decide (h (hb k) ≠ h (16 + hw k)) = B at *
      go_wp2
      clear cn0
      refine Rd.region_P (w0 := w) [pBlk g3 (zv hb) 112, pBlk g4 (zv hw) 112, pBlk (w.heap.size + 1) (bv fun _ => false) 85, pBlk w.heap.size (dv m f g) 31] [pInts cv (cl9 h 32), pBlk g3 (zv hb) 112, pBlk g4 (zv hw) 112, pBlk g5 (bv (mk9 e0 e1 k)) 85, pBlk (w.heap.size + 1) (bv fun _ => false) 85, pBlk w.heap.size (dv m f g) 31] [9, 11] (.q 0 <| .q 1 <| .q 2 <| .q 3 <| .q 4 <| .q 5 <| .q 6 <| .q 7 <| .q 8 <| .s1 9 <| .q 10 <| .s1 11 .fin) hH (.cons _ (.cons_cons _ (.cons_cons _ (.cons _ (.refl _))))) (by kernel_rfl) (by kernel_rfl) (by kernel_rfl) ?_
      iterate 9
        apply Rd.v_q
        · simp only [List.getElem?_toArray, List.getElem?_cons_zero, List.getElem?_cons_succ]; exact rfl
        · rfl
        · go_simp
        · intro wx hx
          have q1 := hx.cell 0 rfl (zv_get hb hk16)
          have q2 := hx.cell 1 rfl (zv_get hw hk16)
          unfold atG
          go_simp
          simp only [uponG]
          exact ⟨by trivial, rfl⟩
      refine Rd.v_s9 (fun u wx => u = .bool B ∧ Holds w wx [pInts cv (cl9 (joi9 h (hb k) (16 + hw k)) 32), pBlk g3 (zv hb) 112, pBlk g4 (zv hw) 112, pBlk g5 (bv (mk9 e0 e1 k)) 85, pBlk (w.heap.size + 1) (bv fun _ => false) 85, pBlk w.heap.size (dv m f g) 31]) (fun _ _ _ h hb => ⟨h.1, h.2.call hb⟩) (by simp only [List.getElem?_toArray, List.getElem?_cons_zero, List.getElem?_cons_succ]; exact rfl) rfl (by go_simp) (fun wx hx hD => ?_) ?_
      · go_simp
        simp only [Rd.upon9_eq, Rd.uponE]
        refine ⟨by trivial, (CJ.out wx hD).mono ?_⟩
        rintro e wy ⟨rfl, hy⟩
        exact ⟨_, rfl, hy.sub (.cons _ (.cons_cons _ (.cons_cons _ (.cons _ (.refl _))))), rfl, hy⟩
      rintro v ⟨_, _, rfl, _⟩
      iterate 1
        apply Rd.v_q
        · simp only [List.getElem?_toArray, List.getElem?_cons_zero, List.getElem?_cons_succ]; exact rfl
        · rfl
        · go_simp
        · intro wx hx
          unfold atG
          go_simp
          simp only [uponG]
          exact ⟨by trivial, rfl⟩
      refine Rd.v_s9 (fun u wx => u = undef ∧ Holds w wx [pInts cv (cl9 (joi9 h (hb k) (16 + hw k)) 32), pBlk g3 (zv hb) 112, pBlk g4 (zv hw) 112, pBlk g5 (bv (mk9 e0 e1 (k + 1))) 85, pBlk (w.heap.size + 1) (bv fun _ => false) 85, pBlk w.heap.size (dv m f g) 31]) (fun _ _ _ h hb => ⟨h.1, h.2.call hb⟩) (by simp only [List.getElem?_toArray, List.getElem?_cons_zero, List.getElem?_cons_succ]; exact rfl) rfl (by go_simp) (fun wx hx hD => ?_) ?_
      · have hD2 := hD.2
        have z0 := hD2.cell 3 rfl (bv_get (mk9 e0 e1 k) hk16)
        have z1 := hD2.frozen 3 rfl k
        have hP := hD2.set 3 rfl k (.bool B)
        simp only [List.set_cons_succ, List.set_cons_zero] at hP
        rw [bv9_set, HST.out.1] at hP
        have HQ := hide hP
        clear hP hD2 hD hx
        go_simp
        simp only [Rd.upon9_eq, Rd.uponE]
        exact ⟨HQ.out.sub (.cons _ (.cons_cons _ (.cons_cons _ (.cons _ (.refl _))))), by trivial, HQ.out⟩
      rintro v ⟨_, _, rfl, _⟩
      rintro wz - hz
      have HQ := hide hz.2
      clear hz hH
      go_simp
      go_wp2
      go_roundw
      case rel => exact ⟨k + 1, by omega, by go_num, by rw [HST.out.2]; exact HQ.out⟩
      case measure => simp [intOf]; omega
    · obtain rfl : m = k := by omega
      have cc := hH.cells 3 rfl
      have rr := hH.rowOk 4 rfl (bv_size _)
      have HQ := hide hH
      clear hk hlt hH
      go_wp2
      have H2 := HQ.out.setRow 4 rfl (bv (mk9 e0 e1 m))
      exact res_agg (p := 2) (g := (w.heap.size + 1)) aggB (bv_size _) rfl rfl rfl (H2.at 4 rfl) ⟨rfl, H2.low⟩
end Go.Proofs.Ytmapjjfefjoemaa

namespace Go.Proofs.Ytmapjjfefjoemaa
open Go.RowKit

theorem spl9_sub (e0 e1 : Nat → Nat) (l : List Nat) : (spl9 e0 e1 l).1.Sublist l ∧ (spl9 e0 e1 l).2.Sublist l := by
  induction l using snocInd9 with
  | h0 => exact ⟨.slnil, .slnil⟩
  | hs l x ih =>
    rw [spl9_snoc]; unfold spst9
    split
    · exact ⟨ih.1.trans (List.sublist_append_left _ _), ih.2.append (.refl _)⟩
    · exact ⟨ih.1.append (.refl _), ih.2.trans (List.sublist_append_left _ _)⟩
theorem filter_sub9 : ∀ {l r : List Nat}, l.Sublist r → r.Nodup → r.filter (fun x => decide (x ∈ l)) = l
  | _, _, .slnil, _ => rfl
  | l, _, @List.Sublist.cons _ _ r x h, hn => by
    have hn' := List.nodup_cons.1 hn
    have hx : x ∉ l := fun hx => hn'.1 (h.subset hx)
    rw [List.filter_cons, if_neg (by simpa using hx)]
    exact filter_sub9 h hn'.2
  | _, _, @List.Sublist.cons_cons _ l r x h, hn => by
    have hn' := List.nodup_cons.1 hn
    have ih := filter_sub9 h hn'.2
    rw [List.filter_cons, if_pos (by simp)]
    congr 1
    refine Eq.trans ?_ ih
    apply List.filter_congr
    intro y hy
    have : y ≠ x := fun e => hn'.1 (e ▸ hy)
    simp [this]
theorem tre9_filter (f g : Nat → Nat) (m : Nat) : (List.range m).filter (mk9 (vb9 f m) (vw9 g m) m) = (tre9 f g m).1 := by
  unfold mk9 tre9
  exact filter_sub9 (spl9_sub _ _ _).1 List.nodup_range
theorem filter_succ9 (p : Nat → Bool) (k : Nat) : (List.range (k + 1)).filter p = if p k = true then (List.range k).filter p ++ [k] else (List.range k).filter p := by
  rw [List.range_succ, List.filter_append]
  split
  · rename_i h; simp [h]
  · rename_i h; simp [h]
set_option maxRecDepth 100000 in
set_option maxHeartbeats 2000000 in
theorem sTreeEdges_any (n : Int) (f g : Nat → Nat) (hf : ∀ i, f i < 256) (hg : ∀ i, g i < 256) (w : World) :
    Calls Try.prog 36 #[.agg (dv n f g)] w fun e w' => ∃ v, e = .returned (.tuple #[v, .int .i64 (teC9 n f g)]) ∧ Below w.heap.size w w' ∧ OwnZ w.heap.size w' v (teL9 n f g) := by
  have C1 := hide fun w => sIs_any n f g hf hg w
  clear hf hg
  have HH0 := (Holds.start w).blk (dv n f g) 31 w.heap.size rfl
  rcases h1 : desB n f g with _ | _
  · rw [h1] at C1
    rw [show teL9 n f g = [] from if_neg (by simp [h1]), show teC9 n f g = 1 from if_neg (by simp [h1])]
    clear h1
    go_enter Try.func36, Try.ntmps36
    go_wp2_with fail
    refine (C1.out _).mono ?_
    rintro e w1 ⟨rfl, hb⟩
    have HH1 := HH0.call hb
    go_wp2
    go_ret2
    exact ⟨.slice none 0 0, rfl, HH1.low, World.ownsRow_nil _ _ _ _⟩
  rw [h1] at C1
  rw [show teL9 n f g = zs9 (tre9 f g n.toNat).1 from if_pos h1, show teC9 n f g = 0 from if_pos h1]
  obtain ⟨m, rfl, hd⟩ := desB_true h1
  rw [Int.toNat_natCast, ← tre9_filter]
  have C2 := hide fun w => l09Tree_any f g m hd w
  have hm := hd.le
  have hn := dv_n m f g
  generalize mk9 (vb9 f m) (vw9 g m) m = T at *
  have HF := hide fun k => filter_succ9 T k
  have HL := hide fun k => (List.length_filter_le T (List.range k))
  clear h1 hd
  go_enter Try.func36, Try.ntmps36
  go_wp2_with fail
  refine (C1.out _).mono ?_
  rintro e w1 ⟨rfl, hb⟩
  have HH1 := HH0.call hb
  have cd1 := HH1.cells 0 rfl
  clear hb HH0
  go_wp2_with fail
  refine (C2.out _).mono ?_
  rintro e w2 ⟨rfl, hb⟩
  have H2 := HH1.call hb
  clear hb HH1 cd1
  have H3 := (H2.rowNew #[] 2 1 0 w2.heap.size rfl rfl (by decide)).blk (bv T) 85 (w2.heap.size + 1) (by simp)
  have cn2 := H2.lt 0 rfl
  go_wp2
  generalize (w2.alloc (.cells #[] 2)).alloc (.cells (bv T) 85) = w3 at *
  have H4 : Holds w w3 [pInts (.slice (some ⟨w2.heap.size, 0, none⟩) 0 0) ((List.range 0).filter T), pBlk (w2.heap.size + 1) (bv T) 85, pBlk w.heap.size (dv m f g) 31] := H3.perm (List.Perm.swap _ _ _)
  clear H3 H2 cn2
  generalize w2.heap.size = G at *
  go_loopw [5, 6] (fun q t wr => ∃ k : Nat, k ≤ m ∧ t = .int .i64 k ∧ Holds w wr [pInts q ((List.range k).filter T), pBlk (G + 1) (bv T) 85, pBlk w.heap.size (dv m f g) 31]) (fun _ t _ => m - (intOf t).toNat)
  case atStart => exact ⟨0, Nat.zero_le _, rfl, H4⟩
  case round =>
    clear H4
    obtain ⟨k, hk, rfl, hH⟩ := hrel
    have cn0 := hH.cell 2 rfl hn
    by_cases hlt : k < m
    · have hki : (k : Int) < m := by omega
      have hk16 : k < 16 := by omega
      have hk16i : (k : Int) < 16 := by omega
      have z0 := hH.cell 1 rfl (bv_get T hk16)
      have hln := HL.out k
      rw [List.length_range] at hln
      have hf := HF.out k
      rcases hT : T k with _ | _
      · rw [hT] at z0 hf
        rw [if_neg (by simp)] at hf
        have HF2 := hide hf; clear hf
        have HQ := hide hH
        clear hH hT
        go_wp2
        go_roundw
        case rel => exact ⟨k + 1, by omega, by go_num, by rw [HF2.out]; exact HQ.out⟩
        case measure => simp [intOf]; omega
      · rw [hT] at z0 hf
        rw [if_pos rfl] at hf
        have HF2 := hide hf; clear hf
        obtain ⟨A, c, rfl⟩ := hH.intsForm 0 rfl
        generalize (List.range k).filter T = l at *
        go_wp2_with (at_builtin; refine appI (hH.alloc _) 0 rfl wr.heap.size [k] 2 ?_ ?_ rfl _ _ rfl rfl rfl ?_)
        · exact heap_at _ _ _ rfl
        · simp only [List.length_cons, List.length_nil]; omega
        intro v' w' h1
        have HQ := hide h1
        clear hH h1 hT cn0 z0
        go_wp2
        go_roundw
        case rel => exact ⟨k + 1, by omega, by go_num, by rw [HF2.out]; exact HQ.out⟩
        case measure => simp [intOf]; omega
    · obtain rfl : m = k := by omega
      have HQ := hide hH
      clear hk hlt hH
      go_wp2
      go_ret2
      exact ⟨_, rfl, HQ.out.low, (HQ.out.own1 0 rfl).z⟩
theorem te9_bound (n : Int) (f g : Nat → Nat) : (teL9 n f g).length ≤ 1000000 := by
  unfold teL9
  split
  · rename_i h
    obtain ⟨m, rfl, hd⟩ := desB_true h
    rw [Int.toNat_natCast, zs9_length]
    have := tre9_len f g m
    have := hd.le
    omega
  · simp
end Go.Proofs.Ytmapjjfefjoemaa

namespace Go.Proofs.Ytmapjjfefjoemaa
open Go.RowKit

set_option maxRecDepth 100000 in
set_option maxHeartbeats 400000 in
theorem eqDessin_same (n : Int) (f g : Nat → Nat) (w : World) : Calls Try.prog 28 #[.agg (dv n f g), .agg (dv n f g)] w fun e w' => e = .returned (.bool true) ∧ Below w.heap.size w w' := by
  have hn := dv_n n f g
  have hne : (n != n) = false := by simp
  go_enter Try.func28, Try.ntmps28
  go_wp2_with fail
  refine (eqPlaces_same f _).mono ?_
  rintro e w1 ⟨rfl, h1⟩
  have c0 : cellsOf w1 w.heap.size = dv n f g := (below_cells h1 (by simp <;> omega)).trans (cellsOf_heap (heap1 rfl))
  have c1 : cellsOf w1 (w.heap.size + 1) = dv n f g := (below_cells h1 (by simp <;> omega)).trans (cellsOf_heap (heap_at _ _ _ (by simp)))
  have b1 := (below2 w (.cells (dv n f g) 31) (.cells (dv n f g) 31)).trans (h1.mono (by simp <;> omega))
  have l1 := h1.size
  clear h1
  go_wp2_with fail
  refine (eqPlaces_same g _).mono ?_
  rintro e w2 ⟨rfl, h2⟩
  have b2 := b1.trans (h2.mono (by simp at l1; omega))
  clear b1 h2 c0 c1
  go_wp2
  go_ret
  exact ⟨rfl, b2⟩

end Go.Proofs.Ytmapjjfefjoemaa

namespace Go.Proofs.Ytmapjjfefjoemaa
open Go.RowKit

set_option maxRecDepth 100000 in
set_option maxHeartbeats 4000000 in
theorem fnExactTreeEdges_walk (n0 : Int) (f0 g0 : Nat → Nat) (_hn0 : -9223372036854775808 ≤ n0 ∧ n0 ≤ 9223372036854775807) (hf0 : ∀ i, f0 i < 256) (hg0 : ∀ i, g0 i < 256) (w : World) :
    Calls Try.prog 9 #[.agg (dv n0 f0 g0)] w fun e w' => e = .returned (.bool true) ∧ Below w.heap.size w w' := by
  clear _hn0
  have c1 := fun (wx : World) => treeEdges_any n0 f0 g0 hf0 hg0 wx
  have c2 := fun (wx : World) => sTreeEdges_any n0 f0 g0 hf0 hg0 wx
  clear hf0 hg0
  have hL := te9_bound n0 f0 g0
  generalize teL9 n0 f0 g0 = L at *
  generalize teC9 n0 f0 g0 = c at *
  have hne : (c != c) = false := by simp
  have hnt : (((1 + L.length : Nat) : Int) != ((1 + L.length : Nat) : Int)) = false := by simp
  have hneg : decide (((1 + L.length : Nat) : Int) < 0) = false := decide_eq_false (by omega)
  have C1 := hide c1; clear c1
  have C2 := hide c2; clear c2
  have H0 := (Holds.start w).blk (dv n0 f0 g0) 24 w.heap.size rfl
  go_enter Try.func9, Try.ntmps9
  go_wp2_with fail
  refine (toDessin_any n0 f0 g0 _).mono ?_
  rintro e w1 ⟨rfl, hb⟩
  have H1 := H0.call hb
  clear hb H0
  go_wp2_with fail
  refine (C2.out _).mono ?_
  rintro e w2 ⟨_, rfl, hb, ho⟩
  obtain ⟨Ap0, cp0, rfl⟩ := own_slice ho
  have H2 := H1.newRow hb ho
  clear hb ho H1
  have qD := H2.cells 1 rfl
  have rD := H2.lt 1 rfl
  go_wp2_with fail
  refine (toDessin_any n0 f0 g0 _).mono ?_
  rintro e w3 ⟨rfl, hb⟩
  clear qD rD
  have H3 := H2.call hb
  clear hb H2
  go_wp2_with fail
  refine (C1.out _).mono ?_
  rintro e w4 ⟨_, rfl, hb, ho⟩
  obtain ⟨Ap1, cp1, rfl⟩ := own_slice ho
  have H4 := H3.newRow hb ho
  clear hb ho H3
  go_wp2_with fail
  refine (eqInt64S_rd L _ _ _ (OwnZ.rd (show OwnZ w.heap.size _ _ L from H4.row 0 rfl) (by omega)) (OwnZ.rd (show OwnZ w.heap.size _ _ L from H4.row 1 rfl) (by omega))).mono ?_
  rintro e w5 ⟨rfl, hb⟩
  have H5 := H4.call hb
  clear hb H4
  go_wp2_with fail
  refine (markZ_any L Ap1 cp1 _ 1 (by omega) (by omega) _ (show OwnZ w.heap.size _ _ L from H5.row 0 rfl)).mono ?_
  rintro e w6 ⟨rfl, hg, ho⟩
  have H6 := H5.grow 0 rfl (pRow (.slice Ap1 L.length cp1) 2 1 L.length (nums (marks 1 L.length))) (row_low ho (Nat.zero_le _)) hg (fun _ hg => hg) (fun _ hg => .inl hg)
  clear hg ho H5
  go_wp2_with fail
  refine (heldInt64S_any L.length Ap1 cp1 w.heap.size 1 (by omega) (by omega) _ (Own1.of (H6.row 0 rfl))).mono ?_
  rintro e w7 ⟨rfl, hb⟩
  have H7 := H6.call hb
  clear hb H6
  have qD := H7.cells 2 rfl
  have rD := H7.lt 2 rfl
  go_wp2_with fail
  refine (toDessin_any n0 f0 g0 _).mono ?_
  rintro e w8 ⟨rfl, hb⟩
  clear qD rD
  have H8 := H7.call hb
  clear hb H7
  go_wp2_with fail
  refine (C1.out _).mono ?_
  rintro e w9 ⟨_, rfl, hb, ho⟩
  obtain ⟨Ap2, cp2, rfl⟩ := own_slice ho
  have H9 := H8.newRow hb ho
  clear hb ho H8
  go_wp2_with fail
  refine (eqInt64S_rd L _ _ _ (OwnZ.rd (show OwnZ w.heap.size _ _ L from H9.row 0 rfl) (by omega)) (OwnZ.rd (show OwnZ w.heap.size _ _ L from H9.row 2 rfl) (by omega))).mono ?_
  rintro e w10 ⟨rfl, hb⟩
  have H10 := H9.call hb
  clear hb H9
  go_wp2_with fail
  refine (heldInt64S_any L.length Ap1 cp1 w.heap.size 1 (by omega) (by omega) _ (Own1.of (H10.row 1 rfl))).mono ?_
  rintro e w11 ⟨rfl, hb⟩
  have H11 := H10.call hb
  clear hb H10
  go_wp2
  go_ret
  exact ⟨rfl, H11.low⟩
end Go.Proofs.Ytmapjjfefjoemaa

