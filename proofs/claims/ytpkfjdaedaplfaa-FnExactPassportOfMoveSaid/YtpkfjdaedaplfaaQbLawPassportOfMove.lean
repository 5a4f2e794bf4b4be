/- Texts put together: Reg, Arg2, ZZ, Pl1, SPerm, Des, Cell, Poc, SPoc, Wr, Nin, Cat, RegD, RegT, RegS, SCyc, Bfs, Con, IsDes, Cnt, Boc, Bld, Make, Lnk, Slc, FrM, Fra -/
import Derived.Test.YtpkfjdaedaplfaaQaLawPassportOfMove
import Derived.Test.YtpkfjdaedaplfaaChecked
import Derived.WalkKit
import Derived.WalkSpells
import Derived.WalkLawsBesides
import Derived.Deep.LoopGhost
import Derived.Deep.OwnRows
import Derived.Laws.Rows
import Derived.Laws.Tables
import Derived.Laws.CopyOwn
import Derived.ProofKit
import Derived.OpenShut
import Derived.ShutString
import Derived.ChangeOld
import Derived.Below
import Derived.Laws.OwnMore
import Derived.RegionTactic
import Derived.Deep.RegionWith
import Derived.BigQuiet
import Derived.Deep.QuietTactic
import Derived.OwnWalk
import Derived.ChangeSlices
import Derived.Deep.Quiet
import Derived.StillTail
import Derived.Deep.Slices
import Derived.WideShapes
import Derived.Laws.CopyRow
import Derived.Deep.MidRow
import Derived.ChangeKeysEq
import Derived.StillTailTactics
import Derived.Deep.RegionHeld3
import Derived.DataElems
import Derived.Lib.SmallJoins
namespace Go.Proofs.Ytpkfjdaedaplfaa
open Go.RowKit

theorem Grown.trans {a b c : World} (h : Grown a b) (k : Grown b c) : Grown a c := Below.trans h (Below.mono k h.size)
theorem grown_below {w w' : World} (h : Below w.heap.size w w') : Grown w w' := h

section
variable (P : Program) (md : Region.Mode) (ops : Array Oper) (W : World) (E : Nat → Option (World → Value → World → Prop)) (S : Nat → Bool) (K : Act → World → Prop)

def uponG (w : World) (v : Value) : Result Next → Prop
  | .ok (.value u) w' => w' = w ∧ u = v
  | .ok .skip w' => w' = w ∧ v = undef
  | .ok (.enter f args) w' => w' = w ∧ Calls P f args w (fun e w'' => e = .returned v ∧ Below w.heap.size w w'')
  | _ => False
def uponE (R : Value → World → Prop) (w : World) : Result Next → Prop
  | .ok (.value u) w' => Below w.heap.size w w' ∧ R u w'
  | .ok (.enter f args) w' => w' = w ∧ Calls P f args w (fun e w'' => ∃ v, e = .returned v ∧ Below w.heap.size w w'' ∧ R v w'')
  | _ => False
def atG (o : Oper) (a : Act) (w : World) (v : Value) : Prop := uponG P w v ((execOp a.eval o).run P w)
def Stable (R : World → Prop) : Prop := ∀ w w', R w → Below w.heap.size w w' → R w'

/-- one operation, and what follows -/
def opV (i : Nat) (N : Act → (World → Prop) → Prop) (a : Act) (D : World → Prop) : Prop :=
  match ops[i]? with
  | none => N a D
  | some o =>
    if Region.wanted o (yielded ops a.tmps) then
      match E i with
      | some R => (∀ w, Grown W w → D w → uponE P (R w) w ((execOp a.eval o).run P w)) ∧ ∀ v, (∃ w w', Grown W w ∧ R w v w') → N (a.put o.dst v) (fun w => ∃ w0 w1, D w0 ∧ Grown W w0 ∧ Grown w0 w1 ∧ R w0 v w1 ∧ Grown w1 w)
      | none =>
        if S i then ∃ (g n : Nat) (cs : Array Value), (∀ w, D w → rowOk w g n) ∧ W.heap.size ≤ g ∧ (∀ w, Grown W w → rowOk w g n → (execOp a.eval o).run P w = .ok .skip (w.setRow g cs)) ∧
          N (a.put o.dst undef) (fun w => ∃ w1, D w1 ∧ Grown W w1 ∧ Grown (w1.setRow g cs) w)
        else ∃ v, (∀ w, Grown W w → atG P o a w v) ∧ N (a.put o.dst v) D
    else N (a.put o.dst undef) D

theorem opV_mono {i : Nat} {N N' : Act → (World → Prop) → Prop} {a : Act} {D : World → Prop} (h : ∀ a D, N a D → N' a D) (hh : opV P ops W E S i N a D) : opV P ops W E S i N' a D := by
  unfold opV at *
  split
  · rename_i ho; simp only [ho] at hh; exact h _ _ hh
  · rename_i o ho
    simp only [ho] at hh
    split
    · rename_i hw
      rw [if_pos hw] at hh
      split
      · rename_i R hR; simp only [hR] at hh; exact ⟨hh.1, fun v hv => h _ _ (hh.2 v hv)⟩
      · rename_i hR
        simp only [hR] at hh
        split
        · rename_i hS; rw [if_pos hS] at hh; obtain ⟨g, n, cs, h1, h2, h3, h4⟩ := hh; exact ⟨g, n, cs, h1, h2, h3, h _ _ h4⟩
        · rename_i hS; rw [if_neg hS] at hh; obtain ⟨v, h1, h2⟩ := hh; exact ⟨v, h1, h _ _ h2⟩
    · rename_i hw; rw [if_neg hw] at hh; exact h _ _ hh

/-- whatever order is picked -/
def anyV : Nat → Array Bool → Act → (World → Prop) → Prop
  | 0, done, a, D => Region.ready md ops done = [] ∧ ∀ w, Grown W w → D w → K a w
  | f + 1, done, a, D => (Region.ready md ops done = [] → ∀ w, Grown W w → D w → K a w) ∧ ∀ i ∈ Region.ready md ops done, opV P ops W E S i (anyV f (done.setIfInBounds i true)) a D

theorem op_sound {i : Nat} {N : Act → (World → Prop) → Prop} {K' : Act → World → Prop} {Q : Exit → Act → World → Prop} {a : Act} {D : World → Prop} {w : World} (hD : Stable D) (hw : Grown W w) (hDw : D w)
    (hN : ∀ a D w, Stable D → Grown W w → D w → N a D → K' a w) (h : opV P ops W E S i N a D) : wpOp P ops Q i K' a w := by
  unfold opV at h
  unfold wpOp
  split
  · rename_i ho; simp only [ho] at h; exact hN _ _ _ hD hw hDw h
  · rename_i o ho
    simp only [ho] at h
    split
    · rename_i hwa
      rw [if_pos hwa] at h
      refine .inl ?_
      unfold Oper.wp
      rcases hE : E i with _ | R
      · simp only [hE] at h
        by_cases hS : S i = true
        · rw [if_pos hS] at h
          obtain ⟨g, n, cs, h1, h2, h3, h4⟩ := h
          rw [h3 w hw (h1 w hDw)]
          simp only [Oper.upon]
          have hg : Grown W (w.setRow g cs) := below_setRow hw h2 cs
          refine hN _ _ _ ?_ hg ⟨w, hDw, hw, Below.refl _ _⟩ h4
          rintro x x' ⟨w1, k1, k2, k3⟩ hb
          exact ⟨w1, k1, k2, k3.call hb⟩
        · rw [if_neg hS] at h
          obtain ⟨v, h1, h2⟩ := h
          have h3 := h1 w hw
          unfold atG at h3
          generalize (execOp a.eval o).run P w = r at *
          cases r with
          | ok n w' =>
            cases n <;> simp only [uponG] at h3 <;> simp only [Oper.upon]
            case value u => obtain ⟨e1, e2⟩ := h3; rw [e1, e2]; exact hN _ _ _ hD hw hDw h2
            case skip => obtain ⟨e1, e2⟩ := h3; rw [e1, ← e2]; exact hN _ _ _ hD hw hDw h2
            case enter f args => obtain ⟨e1, hc⟩ := h3; rw [e1]; exact hc.mono fun e w'' ⟨he, hb⟩ => by subst he; exact hN _ _ _ hD (hw.call hb) (hD _ _ hDw hb) h2
          | halt x w' => simp only [uponG] at h3
      · simp only [hE] at h
        have h3 := h.1 w hw hDw
        generalize (execOp a.eval o).run P w = r at *
        cases r with
        | ok n w' =>
          cases n <;> simp only [uponE] at h3 <;> simp only [Oper.upon]
          case value u => obtain ⟨e1, e2⟩ := h3; exact hN _ _ _ (fun x x' ⟨y0, y1, k1, k2, k3, k4, k5⟩ hb => ⟨y0, y1, k1, k2, k3, k4, k5.call hb⟩) (hw.call e1) ⟨w, w', hDw, hw, e1, e2, Below.refl _ _⟩ (h.2 u ⟨w, w', hw, e2⟩)
          case enter f args =>
            obtain ⟨e1, hc⟩ := h3
            rw [e1]
            refine hc.mono ?_
            rintro e w'' ⟨v, he, hb, hr⟩
            subst he
            exact hN _ _ _ (fun x x' ⟨y0, y1, k1, k2, k3, k4, k5⟩ hb => ⟨y0, y1, k1, k2, k3, k4, k5.call hb⟩) (hw.call hb) ⟨w, w'', hDw, hw, hb, hr, Below.refl _ _⟩ (h.2 v ⟨w, w'', hw, hr⟩)
        | halt x w' => simp only [uponE] at h3
    · rename_i hwa; rw [if_neg hwa] at h; exact hN _ _ _ hD hw hDw h

theorem anyV_any {Q : Exit → Act → World → Prop} (hQ : ∀ a w, K a w → Q .normal a w) (f : Nat) : ∀ (done : Array Bool) (a : Act) (D : World → Prop) (w : World), Stable D → Grown W w → D w →
    anyV P md ops W E S K f done a D → wpAny P md ops Q f done a w := by
  induction f with
  | zero => intro done a D w _ hw hDw h; exact ⟨h.1, hQ _ _ (h.2 w hw hDw)⟩
  | succ f ih =>
    intro done a D w hD hw hDw h
    exact ⟨fun e => hQ _ _ (h.1 e w hw hDw), fun i hi => op_sound P ops W E S hD hw hDw (fun a' D' w' h1 h2 h3 h4 => ih _ a' D' w' h1 h2 h3 h4) (h.2 i hi)⟩

def YieldsG (o : Oper) (v : Value) (a : Act) : Prop :=
  (Region.wanted o (yielded ops a.tmps) = true ∧ ∀ w, Grown W w → atG P o a w v) ∨ (Region.wanted o (yielded ops a.tmps) = false ∧ v = undef)

theorem YieldsG.op {i : Nat} {o : Oper} {v : Value} {a : Act} {D : World → Prop} (hi : ops[i]? = some o) (hE : E i = none) (hS : S i = false) (hy : YieldsG P ops W o v a) {N : Act → (World → Prop) → Prop} (h : N (a.put o.dst v) D) : opV P ops W E S i N a D := by
  unfold opV
  simp only [hi, hE, hS]
  rcases hy with ⟨hw, hv⟩ | ⟨hw, rfl⟩
  · rw [if_pos hw]; exact ⟨v, hv, h⟩
  · rw [if_neg (by simp [hw])]; exact h

theorem yieldsG_of {i : Nat} {o : Oper} {a : Act} {D : World → Prop} {N : Act → (World → Prop) → Prop} (hi : ops[i]? = some o) (hE : E i = none) (hS : S i = false) (h : opV P ops W E S i N a D) : ∃ v, YieldsG P ops W o v a ∧ N (a.put o.dst v) D := by
  unfold opV at h
  simp only [hi, hE, hS] at h
  by_cases hw : Region.wanted o (yielded ops a.tmps) = true
  · rw [if_pos hw] at h
    obtain ⟨v, h1, h2⟩ := h
    exact ⟨v, .inl ⟨hw, h1⟩, h2⟩
  · rw [if_neg hw] at h
    exact ⟨undef, .inr ⟨by simpa using hw, rfl⟩, h⟩

theorem opV_put {j : Nat} {oi oj : Oper} {v : Value} (hj : ops[j]? = some oj) (hap : oi.apart ops oj = true) (hsi : ∀ cs b, oi.op ≠ .select cs b) (hsj : ∀ cs b, oj.op ≠ .select cs b)
    {N : Act → (World → Prop) → Prop} {a : Act} {D : World → Prop} (hy : YieldsG P ops W oi v a) (h : opV P ops W E S j N (a.put oi.dst v) D) :
    opV P ops W E S j (fun a' D' => YieldsG P ops W oi v a' ∧ N (a'.put oi.dst v) D') a D := by
  obtain ⟨h1, h2, h3⟩ := Oper.apart_spec hap
  have keep : ∀ u, YieldsG P ops W oi v (a.put oj.dst u) := fun u => by
    have e1 := execOp_put oi hsi a oj.dst u h3
    have e2 := wanted_put oi a oj.dst u h3
    unfold YieldsG atG at *
    rw [e1, e2]; exact hy
  unfold opV at *
  simp only [hj] at *
  rw [wanted_put oj a oi.dst v h1, execOp_put oj hsj a oi.dst v h1] at h
  have ep : ∀ u, (a.put oj.dst u).put oi.dst v = (a.put oi.dst v).put oj.dst u := fun u => (Act.put_comm a v u h2).symm
  by_cases hw : Region.wanted oj (yielded ops a.tmps) = true
  · rw [if_pos hw] at h ⊢
    rcases hE : E j with _ | R
    · simp only [hE] at h ⊢
      by_cases hS : S j = true
      · rw [if_pos hS] at h ⊢
        obtain ⟨g, n, cs, k1, k2, k3, k4⟩ := h
        exact ⟨g, n, cs, k1, k2, k3, keep _, by rw [ep]; exact k4⟩
      · rw [if_neg hS] at h ⊢
        obtain ⟨u, k1, k2⟩ := h
        refine ⟨u, fun w hg => ?_, keep _, by rw [ep]; exact k2⟩
        have := k1 w hg
        unfold atG at *
        rwa [execOp_put oj hsj a oi.dst v h1] at this
    · simp only [hE] at h ⊢
      exact ⟨h.1, fun u hu => ⟨keep _, by rw [ep]; exact h.2 u hu⟩⟩
  · rw [if_neg hw] at h ⊢
    exact ⟨keep _, by rw [ep]; exact h⟩

theorem anyV_first {i : Nat} {o : Oper} {v : Value} (hi : ops[i]? = some o) (hE : E i = none) (hS : S i = false) (hsel : ∀ (j : Nat) (o : Oper) cs b, ops[j]? = some o → o.op ≠ .select cs b) (f : Nat) :
    ∀ (done : Array Bool) (a : Act) (D : World → Prop),
      (∀ j oj, ops[j]? = some oj → j ≠ i → done.getD j true = false → (∀ e ∈ oj.after, Region.binds md e = true → e.on ≠ i) → o.apart ops oj = true) →
      i ∈ Region.ready md ops done → YieldsG P ops W o v a →
      anyV P md ops W E S K f (done.setIfInBounds i true) (a.put o.dst v) D → anyV P md ops W E S K (f + 1) done a D := by
  induction f with
  | zero =>
    intro done a D _ hr hy H
    refine ⟨fun e => (by rw [e] at hr; cases hr), fun j hj => ?_⟩
    by_cases e : j = i
    · subst e; exact hy.op P ops W E S hi hE hS H
    · have := ready_mono hj e
      rw [H.1] at this; cases this
  | succ f ih =>
    intro done a D hfree hr hy H
    refine ⟨fun e => (by rw [e] at hr; cases hr), fun j hj => ?_⟩
    by_cases e : j = i
    · subst e; exact hy.op P ops W E S hi hE hS H
    · obtain ⟨hjun, oj, hoj, hall⟩ := mem_ready.1 hj
      have hun := (mem_ready.1 hr).1
      have hno : ∀ e ∈ oj.after, Region.binds md e = true → e.on ≠ i := fun e he hb h => by
        have := hall e he hb
        rw [h, getD_both hun] at this
        cases this
      refine opV_mono P ops W E S (fun a' D' h3 => ih (done.setIfInBounds j true) a' D' (fun k' ok hk hki hk' hnk => hfree k' ok hk hki ?_ hnk) (ready_mono hr (Ne.symm e)) h3.1 ?_)
        (opV_put P ops W E S hoj (hfree j oj hoj e hjun hno) (fun cs b => hsel i o cs b hi) (fun cs b => hsel j oj cs b hoj) hy (H.2 j (ready_mono hj e)))
      · by_cases e' : j = k'
        · subst e'; exact hjun
        · rw [getD_set_ne true e'] at hk'; exact hk'
      · rw [Array.setIfInBounds_comm _ _ e]; exact h3.2

/-- how a region is walked: operations that may be taken first; special ones alone; two or three special ones in either order -/
inductive Plan where
  | fin
  | q (k : Nat) (p : Plan)
  | s1 (k : Nat) (p : Plan)
  | s2 (k1 : Nat) (p1 : Plan) (k2 : Nat) (p2 : Plan)
  | s3 (k1 : Nat) (p1 : Plan) (k2 : Nat) (p2 : Plan) (k3 : Nat) (p3 : Plan)

def planB (sp : List Nat) : Nat → Plan → Array Bool → Bool
  | _, .fin, done => (Region.ready md ops done).isEmpty
  | 0, _, _ => false
  | f + 1, .q k p, done => !sp.contains k && ((Region.ready md ops done).contains k && Region.free md ops done k && (decide (k < ops.size) && planB sp f p (done.setIfInBounds k true)))
  | f + 1, .s1 k p, done => decide (Region.ready md ops done = [k]) && planB sp f p (done.setIfInBounds k true)
  | f + 1, .s2 k1 p1 k2 p2, done => decide (Region.ready md ops done = [k1, k2]) && (planB sp f p1 (done.setIfInBounds k1 true) && planB sp f p2 (done.setIfInBounds k2 true))
  | f + 1, .s3 k1 p1 k2 p2 k3 p3, done => decide (Region.ready md ops done = [k1, k2, k3]) && (planB sp f p1 (done.setIfInBounds k1 true) && (planB sp f p2 (done.setIfInBounds k2 true) && planB sp f p3 (done.setIfInBounds k3 true)))

def walkV : Plan → Act → (World → Prop) → Prop
  | .fin, a, D => ∀ w, Grown W w → D w → K a w
  | .q k p, a, D => opV P ops W E S k (walkV p) a D
  | .s1 k p, a, D => opV P ops W E S k (walkV p) a D
  | .s2 k1 p1 k2 p2, a, D => opV P ops W E S k1 (walkV p1) a D ∧ opV P ops W E S k2 (walkV p2) a D
  | .s3 k1 p1 k2 p2 k3 p3, a, D => opV P ops W E S k1 (walkV p1) a D ∧ opV P ops W E S k2 (walkV p2) a D ∧ opV P ops W E S k3 (walkV p3) a D

theorem anyV_walk (hsel : Region.noSelect ops = true) (sp : List Nat) (hsp : ∀ k, sp.contains k = false → E k = none ∧ S k = false) (p : Plan) :
    ∀ (f : Nat) (done : Array Bool) (a : Act) (D : World → Prop), planB md ops sp f p done = true → walkV P ops W E S K p a D → anyV P md ops W E S K f done a D := by
  induction p with
  | fin =>
    intro f done a D hB h
    cases f with
    | zero => exact ⟨by simpa [planB] using hB, h⟩
    | succ f =>
      have e : Region.ready md ops done = [] := by simpa [planB] using hB
      exact ⟨fun _ => h, fun i hi => by rw [e] at hi; cases hi⟩
  | q k p ih =>
    intro f done a D hB h
    cases f with
    | zero => simp [planB] at hB
    | succ f =>
      simp only [planB, Bool.and_eq_true, decide_eq_true_eq, Bool.not_eq_true'] at hB
      obtain ⟨hc, ⟨hr, hfree⟩, hk, hB'⟩ := hB
      obtain ⟨hE, hS⟩ := hsp k hc
      have hi : ops[k]? = some ops[k] := Array.getElem?_eq_getElem hk
      obtain ⟨v, hy, hK⟩ := yieldsG_of P ops W E S hi hE hS h
      exact anyV_first P md ops W E S K hi hE hS (Region.noSelect_spec hsel) f done a D (Region.free_spec hi hfree) (by simpa using hr) hy (ih _ _ _ _ hB' hK)
  | s1 k p ih =>
    intro f done a D hB h
    cases f with
    | zero => simp [planB] at hB
    | succ f =>
      simp only [planB, Bool.and_eq_true, decide_eq_true_eq] at hB
      obtain ⟨hr, hB'⟩ := hB
      refine ⟨fun e => (by rw [hr] at e; cases e), fun i hi => ?_⟩
      rw [hr] at hi
      obtain rfl : i = k := by simpa using hi
      exact opV_mono P ops W E S (fun a' D' h' => ih _ _ _ _ hB' h') h
  | s2 k1 p1 k2 p2 ih1 ih2 =>
    intro f done a D hB h
    cases f with
    | zero => simp [planB] at hB
    | succ f =>
      simp only [planB, Bool.and_eq_true, decide_eq_true_eq] at hB
      obtain ⟨hr, hB1, hB2⟩ := hB
      refine ⟨fun e => (by rw [hr] at e; cases e), fun i hi => ?_⟩
      rw [hr] at hi
      simp only [List.mem_cons, List.not_mem_nil, or_false] at hi
      rcases hi with rfl | rfl
      · exact opV_mono P ops W E S (fun a' D' h' => ih1 _ _ _ _ hB1 h') h.1
      · exact opV_mono P ops W E S (fun a' D' h' => ih2 _ _ _ _ hB2 h') h.2
  | s3 k1 p1 k2 p2 k3 p3 ih1 ih2 ih3 =>
    intro f done a D hB h
    cases f with
    | zero => simp [planB] at hB
    | succ f =>
      simp only [planB, Bool.and_eq_true, decide_eq_true_eq] at hB
      obtain ⟨hr, hB1, hB2, hB3⟩ := hB
      refine ⟨fun e => (by rw [hr] at e; cases e), fun i hi => ?_⟩
      rw [hr] at hi
      simp only [List.mem_cons, List.not_mem_nil, or_false] at hi
      rcases hi with rfl | rfl | rfl
      · exact opV_mono P ops W E S (fun a' D' h' => ih1 _ _ _ _ hB1 h') h.1
      · exact opV_mono P ops W E S (fun a' D' h' => ih2 _ _ _ _ hB2 h') h.2.1
      · exact opV_mono P ops W E S (fun a' D' h' => ih3 _ _ _ _ hB3 h') h.2.2
end

theorem region_V {P : Program} {id : Nat} {Q : Exit → Act → World → Prop} {a : Act} {w : World} {l : List Oper} (E : Nat → Option (World → Value → World → Prop)) (S : Nat → Bool) (sp : List Nat) (p : Plan) (hm : P.follows .mixedOrders = true)
    (hsel : Region.noSelect l.toArray = true) (hB : planB .any l.toArray sp l.toArray.size p (Array.replicate l.toArray.size false) = true) (hsp : ∀ k, sp.contains k = false → E k = none ∧ S k = false)
    (h : walkV P l.toArray w E S (fun a' w' => Q .normal a' w') p a (fun _ => True)) : (Code.region id l.toArray true).wp P Q a w := by
  refine wp_region_any hm ?_
  exact anyV_any (Q := Q) P .any l.toArray w E S (fun a' w' => Q .normal a' w') (fun _ _ h => h) _ _ _ _ w.drew (fun _ _ _ _ => trivial) (Grown.drew w) trivial (anyV_walk P .any l.toArray w E S _ hsel sp hsp p _ _ a _ hB h)

section
variable {P : Program} {ops : Array Oper} {W : World} {E : Nat → Option (World → Value → World → Prop)} {S : Nat → Bool} {k : Nat} {a : Act} {D : World → Prop} {N : Act → (World → Prop) → Prop}
theorem v_other {o : Oper} (ho : ops[k]? = some o) (hE : E k = none) (hS : S k = false) (hw : Region.wanted o (yielded ops a.tmps) = true) {v : Value} (h1 : ∀ w, Grown W w → atG P o a w v) (h2 : N (a.put o.dst v) D) :
    opV P ops W E S k N a D := by
  unfold opV
  simp only [ho, hE, hS]
  rw [if_pos hw]
  exact ⟨v, h1, h2⟩
theorem v_E {o : Oper} {R : World → Value → World → Prop} (ho : ops[k]? = some o) (hE : E k = some R) (hw : Region.wanted o (yielded ops a.tmps) = true) (h1 : ∀ w, Grown W w → D w → uponE P (R w) w ((execOp a.eval o).run P w))
    (h2 : ∀ v, (∃ w w', Grown W w ∧ R w v w') → N (a.put o.dst v) (fun w => ∃ w0 w1, D w0 ∧ Grown W w0 ∧ Grown w0 w1 ∧ R w0 v w1 ∧ Grown w1 w)) : opV P ops W E S k N a D := by
  unfold opV
  simp only [ho, hE]
  rw [if_pos hw]
  exact ⟨h1, h2⟩
theorem v_S {o : Oper} (g n : Nat) (cs : Array Value) (ho : ops[k]? = some o) (hE : E k = none) (hS : S k = true) (hw : Region.wanted o (yielded ops a.tmps) = true) (h1 : ∀ w, D w → rowOk w g n) (h2 : W.heap.size ≤ g)
    (h3 : ∀ w, Grown W w → rowOk w g n → (execOp a.eval o).run P w = .ok .skip (w.setRow g cs)) (h4 : N (a.put o.dst undef) (fun w => ∃ w1, D w1 ∧ Grown W w1 ∧ Grown (w1.setRow g cs) w)) :
    opV P ops W E S k N a D := by
  unfold opV
  simp only [ho, hE, hS]
  rw [if_pos hw]
  exact ⟨g, n, cs, h1, h2, h3, h4⟩
end
/-- a new block of n cells, not below B -/
def newR (B n : Nat) : Value → World → Prop := fun v w => ∃ g, v = .pointer (some ⟨g, 0, none⟩) ∧ B ≤ g ∧ rowOk w g n
/-- .. and where it stands later -/
theorem newR.at {B n g : Nat} {D : World → Prop} {W w : World} (h : ∃ w0 w1, D w0 ∧ Grown W w0 ∧ Grown w0 w1 ∧ newR B n (.pointer (some ⟨g, 0, none⟩)) w1 ∧ Grown w1 w) : B ≤ g ∧ rowOk w g n := by
  obtain ⟨_, w1, _, _, _, ⟨g', e, h1, h2⟩, h3⟩ := h
  injection e with e
  injection e with e
  injection e with e
  subst e
  exact ⟨h1, h3.row h2⟩
/-- behind the store -/
theorem stored {w1 w : World} {g n : Nat} {cs : Array Value} (h : rowOk w1 g n) (hs : cs.size = n) (k : Grown (w1.setRow g cs) w) : cellsOf w g = cs ∧ rowOk w g n ∧ g < w.heap.size := by
  have hr : rowOk (w1.setRow g cs) g n := rowOk_setRow h hs
  exact ⟨k.cells (cellsOf_setRow h) hr.lt, k.row hr, (k.row hr).lt⟩
end Go.Proofs.Ytpkfjdaedaplfaa

namespace Go.Proofs.Ytpkfjdaedaplfaa
open Go.RowKit

def RdZ2 (w : World) (v : Value) (ls : List (List Int)) : Prop :=
  ∃ (A : Option Addr) (c : Nat) (us : List Value), v = .slice A ls.length c ∧ ls.length ≤ 9223372036854775807 ∧ us.length = ls.length ∧
    (∀ (i : Nat) (u : Value), us[i]? = some u → ∃ a, A = some a ∧ a.block < w.heap.size ∧ w.cell? (a.add i) = some u) ∧ ∀ (i : Nat) (u : Value) (l : List Int), us[i]? = some u → ls[i]? = some l → RdZ w u l
theorem RdZ2.form {w : World} {v : Value} {ls : List (List Int)} (h : RdZ2 w v ls) : ∃ A c, v = .slice A ls.length c ∧ ls.length ≤ 9223372036854775807 := by
  obtain ⟨A, c, _, h1, h2, _⟩ := h; exact ⟨A, c, h1, h2⟩
theorem RdZ2.below {C : Nat} {w w' : World} {v : Value} {ls : List (List Int)} (h : RdZ2 w v ls) (hb : Below C w w') (hC : w.heap.size ≤ C) : RdZ2 w' v ls := by
  obtain ⟨A, c, us, h1, h2, h3, h4, h5⟩ := h
  refine ⟨A, c, us, h1, h2, h3, fun i u hu => ?_, fun i u l hu hl => (h5 i u l hu hl).below hb hC⟩
  obtain ⟨a, e, k4, k5⟩ := h4 i u hu
  refine ⟨a, e, Nat.lt_of_lt_of_le k4 hb.size, ?_⟩
  rw [← k5]
  have hq : (a.add i).block = a.block := by unfold Addr.add; split <;> rfl
  exact hb.cell (p := a.add i) (by omega)
theorem RdZ2.at {w : World} {A : Option Addr} {n c k : Nat} {ls : List (List Int)} (h : RdZ2 w (.slice A n c) ls) (hk : k < ls.length) :
    ∃ a A' c', A = some a ∧ w.cell? (a.add k) = some (.slice A' ls[k].length c') ∧ RdZ w (.slice A' ls[k].length c') ls[k] := by
  obtain ⟨A0, c0, us, e, _, h3, h4, h5⟩ := h
  injection e with e1 _ _
  subst e1
  have hu : us[k]? = some us[k] := List.getElem?_eq_getElem (by omega)
  obtain ⟨a, ea, _, hc⟩ := h4 k _ hu
  have hr := h5 k _ _ hu (List.getElem?_eq_getElem hk)
  obtain ⟨A', c', e', _⟩ := hr.form
  rw [e'] at hc hr
  exact ⟨a, A', c', ea, hc, hr⟩

theorem block_of_cell {w : World} {p : Addr} {u : Value} (h : w.cell? p = some u) : p.block < w.heap.size := by
  rcases Nat.lt_or_ge p.block w.heap.size with c | c
  · exact c
  · unfold World.cell? at h
    rw [Array.getElem?_eq_none c] at h
    simp at h
theorem rd2_lt {w : World} {a : Addr} {n c k : Nat} {ls : List (List Int)} (h : RdZ2 w (.slice (some a) n c) ls) (hk : k < ls.length) : a.block < w.heap.size := by
  obtain ⟨A0, c0, us, e, _, h3, h4, h5⟩ := h
  injection e with e1 _ _
  obtain ⟨a', ea, hl, _⟩ := h4 k _ (List.getElem?_eq_getElem (by omega))
  rw [← e1] at ea
  injection ea with ea
  rw [ea]; exact hl
theorem rd_cell {w wx : World} {a : Addr} {k : Nat} {u : Value} (hx : Grown w wx) (h : w.cell? (a.add k) = some u) (hl : a.block < w.heap.size) : wx.cell? (a.add k) = some u := by
  have hq : (a.add k).block = a.block := by unfold Addr.add; split <;> rfl
  rw [← h]
  exact Below.cell hx (p := a.add k) (by omega)
/-- what has been measured is small -/
def smallZ (ls : List (List Int)) : Prop := ls.length ≤ 1048576 ∧ ∀ l ∈ ls, l.length ≤ 1048576
-- left out here: loop.example/g01200/laws.szInt64S loop.example/g01200/laws.szInt64SS
set_option maxRecDepth 100000 in
set_option maxHeartbeats 1000000 in
theorem eqInt64SS_rd (ls : List (List Int)) (v v' : Value) (w : World) (h : RdZ2 w v ls) (h' : RdZ2 w v' ls) :
    Calls Try.prog 53 #[v, v'] w fun e w' => e = .returned (.bool true) ∧ Below w.heap.size w w' := by
  obtain ⟨A, c, rfl, hl⟩ := h.form
  obtain ⟨A', c', rfl, _⟩ := h'.form
  have H := hide h; clear h
  have H' := hide h'; clear h'
  have hne : ((ls.length : Int) != (ls.length : Int)) = false := by simp
  go_enter Try.func53, Try.ntmps53
  go_wp2
  go_loopw [5] (fun i wr => ∃ k : Nat, k ≤ ls.length ∧ i = .int .i64 k ∧ Below w.heap.size w wr) (fun i _ => ls.length - (intOf i).toNat)
  case atStart => exact ⟨0, by omega, rfl, Below.refl _ _⟩
  case round =>
    obtain ⟨k, hk, rfl, hb⟩ := hrel
    by_cases hlt : k < ls.length
    · obtain ⟨a, A1, d1, rfl, c1, r1⟩ := (H.out.below hb (Nat.le_refl _)).at hlt
      obtain ⟨a', A2, d2, rfl, c2, r2⟩ := (H'.out.below hb (Nat.le_refl _)).at hlt
      have hab : a.block < wr.heap.size := rd2_lt (H.out.below hb (Nat.le_refl _)) hlt
      have hab' : a'.block < wr.heap.size := rd2_lt (H'.out.below hb (Nat.le_refl _)) hlt
      have R1 := hide r1; clear r1
      have R2 := hide r2; clear r2
      generalize ls[k] = l at *
      go_wp2
      refine region_V (w := wr) (fun _ => none) (fun _ => false) [] (.q 0 <| .q 1 <| .q 2 <| .q 3 <| .q 4 <| .q 5 <| .q 6 <| .q 7 <| .q 8 <| .q 9 .fin) (by kernel_rfl) (by kernel_rfl) (by kernel_rfl) (fun k hk => ?_) ?_
      · exact ⟨rfl, rfl⟩
      apply v_other
      · simp only [List.getElem?_toArray, List.getElem?_cons_zero, List.getElem?_cons_succ]; exact rfl
      · rfl
      · rfl
      · go_simp
      · intro wx hx
        have e1 := rd_cell hx c1 hab
        have e2 := rd_cell hx c2 hab'
        have D1 := hide fun (_ : World) => eqInt64S_rd l _ _ wx (R1.out.below hx (Nat.le_refl _)) (R2.out.below hx (Nat.le_refl _))
        unfold atG
        go_simp
        simp only [uponG]
        exact ⟨by trivial, rfl⟩
      apply v_other
      · simp only [List.getElem?_toArray, List.getElem?_cons_zero, List.getElem?_cons_succ]; exact rfl
      · rfl
      · rfl
      · go_simp
      · intro wx hx
        have e1 := rd_cell hx c1 hab
        have e2 := rd_cell hx c2 hab'
        have D1 := hide fun (_ : World) => eqInt64S_rd l _ _ wx (R1.out.below hx (Nat.le_refl _)) (R2.out.below hx (Nat.le_refl _))
        unfold atG
        go_simp
        simp only [uponG]
        exact ⟨by trivial, rfl⟩
      apply v_other
      · simp only [List.getElem?_toArray, List.getElem?_cons_zero, List.getElem?_cons_succ]; exact rfl
      · rfl
      · rfl
      · go_simp
      · intro wx hx
        have e1 := rd_cell hx c1 hab
        have e2 := rd_cell hx c2 hab'
        have D1 := hide fun (_ : World) => eqInt64S_rd l _ _ wx (R1.out.below hx (Nat.le_refl _)) (R2.out.below hx (Nat.le_refl _))
        unfold atG
        go_simp
        simp only [uponG]
        exact ⟨by trivial, rfl⟩
      apply v_other
      · simp only [List.getElem?_toArray, List.getElem?_cons_zero, List.getElem?_cons_succ]; exact rfl
      · rfl
      · rfl
      · go_simp
      · intro wx hx
        have e1 := rd_cell hx c1 hab
        have e2 := rd_cell hx c2 hab'
        have D1 := hide fun (_ : World) => eqInt64S_rd l _ _ wx (R1.out.below hx (Nat.le_refl _)) (R2.out.below hx (Nat.le_refl _))
        unfold atG
        go_simp
        simp only [uponG]
        exact ⟨by trivial, rfl⟩
      apply v_other
      · simp only [List.getElem?_toArray, List.getElem?_cons_zero, List.getElem?_cons_succ]; exact rfl
      · rfl
      · rfl
      · go_simp
      · intro wx hx
        have e1 := rd_cell hx c1 hab
        have e2 := rd_cell hx c2 hab'
        have D1 := hide fun (_ : World) => eqInt64S_rd l _ _ wx (R1.out.below hx (Nat.le_refl _)) (R2.out.below hx (Nat.le_refl _))
        unfold atG
        go_simp
        simp only [uponG]
        exact ⟨by trivial, rfl⟩
      apply v_other
      · simp only [List.getElem?_toArray, List.getElem?_cons_zero, List.getElem?_cons_succ]; exact rfl
      · rfl
      · rfl
      · go_simp
      · intro wx hx
        have e1 := rd_cell hx c1 hab
        have e2 := rd_cell hx c2 hab'
        have D1 := hide fun (_ : World) => eqInt64S_rd l _ _ wx (R1.out.below hx (Nat.le_refl _)) (R2.out.below hx (Nat.le_refl _))
        unfold atG
        go_simp
        simp only [uponG]
        exact ⟨by trivial, rfl⟩
      apply v_other
      · simp only [List.getElem?_toArray, List.getElem?_cons_zero, List.getElem?_cons_succ]; exact rfl
      · rfl
      · rfl
      · go_simp
      · intro wx hx
        have e1 := rd_cell hx c1 hab
        have e2 := rd_cell hx c2 hab'
        have D1 := hide fun (_ : World) => eqInt64S_rd l _ _ wx (R1.out.below hx (Nat.le_refl _)) (R2.out.below hx (Nat.le_refl _))
        unfold atG
        go_simp
        simp only [uponG]
        exact ⟨by trivial, rfl⟩
      apply v_other
      · simp only [List.getElem?_toArray, List.getElem?_cons_zero, List.getElem?_cons_succ]; exact rfl
      · rfl
      · rfl
      · go_simp
      · intro wx hx
        have e1 := rd_cell hx c1 hab
        have e2 := rd_cell hx c2 hab'
        have D1 := hide fun (_ : World) => eqInt64S_rd l _ _ wx (R1.out.below hx (Nat.le_refl _)) (R2.out.below hx (Nat.le_refl _))
        unfold atG
        go_simp
        simp only [uponG]
        exact ⟨by trivial, rfl⟩
      apply v_other
      · simp only [List.getElem?_toArray, List.getElem?_cons_zero, List.getElem?_cons_succ]; exact rfl
      · rfl
      · rfl
      · go_simp
      · intro wx hx
        have e1 := rd_cell hx c1 hab
        have e2 := rd_cell hx c2 hab'
        have D1 := hide fun (_ : World) => eqInt64S_rd l _ _ wx (R1.out.below hx (Nat.le_refl _)) (R2.out.below hx (Nat.le_refl _))
        unfold atG
        go_simp
        simp only [uponG]
        exact ⟨by trivial, D1.out wx⟩
      apply v_other
      · simp only [List.getElem?_toArray, List.getElem?_cons_zero, List.getElem?_cons_succ]; exact rfl
      · rfl
      · rfl
      · go_simp
      · intro wx hx
        have e1 := rd_cell hx c1 hab
        have e2 := rd_cell hx c2 hab'
        have D1 := hide fun (_ : World) => eqInt64S_rd l _ _ wx (R1.out.below hx (Nat.le_refl _)) (R2.out.below hx (Nat.le_refl _))
        unfold atG
        go_simp
        simp only [uponG]
        exact ⟨by trivial, rfl⟩
      rintro w1 hx _
      have b1 : Below w.heap.size w w1 := hb.trans (Below.mono hx hb.size)
      clear hx c1 c2
      go_simp
      go_wp2
      go_roundw
      case rel => exact ⟨k + 1, by omega, by go_num, b1⟩
      case measure => simp [intOf]; omega
    · obtain rfl : k = ls.length := by omega
      clear hlt hk
      go_wp2
      go_ret
      exact ⟨rfl, hb⟩

-- left out here: loop.example/g01200/laws.toInt64SS
section
open Go.ChangeShapes Go.WideShapes
variable {H : Type} {enc : TypeId × Value → H} {P : Program} {w : World} {base : Nat} {spare : Nat → Bool} {held : Bool}
/-- whole numbers that int64 holds -/
def fits64 (l : List Int) : Prop := ∀ x ∈ l, -9223372036854775808 ≤ x ∧ x ≤ 9223372036854775807
theorem rd_of_trod {t e : TypeId} {fuel : Nat} {v : Value} {x : DataW H × List MemPlace} (ht : P.underlying t = some (.slice e)) (he : P.underlying e = some (.int .i64)) (hc : P.cellsOf e = 1) (h : DataW.trod enc P w base spare held fuel t [v] = some x) :
    ∃ l, RdZ w v l ∧ fits64 l := by
  rcases open_ints ht he hc h with ⟨e1, _⟩ | ⟨a, len, cap, zs, e1, _, hl, hm, hz, _, hcell, hw⟩
  · injection e1 with e1
    subst e1
    exact ⟨[], ⟨none, 0, rfl, by simp, fun i x hx => by simp at hx⟩, fun x hx => by simp at hx⟩
  · injection e1 with e1
    subst e1
    have hlz : len ≤ zs.length := by rw [hz]; split <;> omega
    refine ⟨zs.take len, ⟨some a, cap, by simp [Nat.min_eq_left hlz], ?_, fun i x hx => ?_⟩, fun x hx => bounds_i64 (hw x (List.mem_of_mem_take hx))⟩
    · have : maxLen = 9223372036854775807 := rfl
      simp; omega
    · have hi : i < len := by have := (List.getElem?_eq_some_iff.1 hx).1; simp at this; omega
      rw [List.getElem?_take_of_lt hi] at hx
      have hc' := hcell i (by omega)
      have hg : zs.getD i 0 = x := by rw [List.getD_eq_getElem?_getD, hx]; rfl
      rw [hg] at hc'
      refine ⟨a, rfl, ?_, hc'⟩
      have hq : (a.add i).block = a.block := by unfold Addr.add; split <;> rfl
      rw [← hq]
      exact block_of_cell hc'
theorem open_is {r : Reach} {b0 : Nat} {t e : TypeId} {v : Value} {d : DataW H} {ps : List MemPlace} (ht : P.underlying t = some (.slice e)) (he : P.underlying e = some (.int .i64)) (hc : P.cellsOf e = 1)
    (hval : Value.okWide P w r b0 t v) (hd : DataW.Trod enc P w base spare held t v d ps) : ∃ l, RdZ w v l ∧ fits64 l := by
  obtain ⟨a, len, cap, rfl⟩ := okWide_slice ht hval
  obtain ⟨fuel, hf⟩ := hd
  exact rd_of_trod ht he hc hf
theorem open_iss {r : Reach} {b0 : Nat} {t s e : TypeId} {v : Value} {d : DataW H} {ps : List MemPlace} (ht : P.underlying t = some (.slice s)) (hs : P.underlying s = some (.slice e)) (he : P.underlying e = some (.int .i64)) (hc : P.cellsOf s = 1) (hc2 : P.cellsOf e = 1)
    (hval : Value.okWide P w r b0 t v) (hd : DataW.Trod enc P w base spare held t v d ps) : ∃ ls, RdZ2 w v ls ∧ ∀ l ∈ ls, fits64 l := by
  obtain ⟨a0, len0, cap0, rfl⟩ := okWide_slice ht hval
  obtain ⟨fuel, hf⟩ := hd
  rcases Go.Deep.open_slice1 ht hc hf with ⟨e1, _⟩ | ⟨a, len, cap, m, n, V, D, Pl, e1, _, hl, hm, hmm, _, hV⟩
  · injection e1 with e1
    rw [e1]
    exact ⟨[], ⟨none, 0, [], rfl, by simp, rfl, fun i u hu => by simp at hu, fun i u l hu => by simp at hu⟩, fun l hl => by simp at hl⟩
  · injection e1 with e1
    rw [e1]
    have hlm : len ≤ m := by rw [hmm]; split <;> omega
    have key : ∀ i, i < len → ∃ l, RdZ w (V i) l ∧ fits64 l := fun i hi => rd_of_trod hs he hc2 (hV i (by omega)).2
    obtain ⟨L, hL⟩ : ∃ L : Nat → List Int, ∀ i, i < len → RdZ w (V i) (L i) ∧ fits64 (L i) := by
      refine ⟨fun i => if h : i < len then (key i h).choose else [], fun i hi => ?_⟩
      simp only [hi, dif_pos]
      exact (key i hi).choose_spec
    refine ⟨(List.range len).map L, ⟨some a, cap, (List.range len).map V, by simp, ?_, by simp, fun i u hu => ?_, fun i u l hu hl => ?_⟩, fun l hl => ?_⟩
    · have : maxLen = 9223372036854775807 := rfl
      simp; omega
    · have hi : i < len := by have := (List.getElem?_eq_some_iff.1 hu).1; simpa using this
      simp [hi] at hu
      subst hu
      have hc' := (hV i (by omega)).1
      refine ⟨a, rfl, ?_, hc'⟩
      have hq : (a.add i).block = a.block := by unfold Addr.add; split <;> rfl
      rw [← hq]
      exact block_of_cell hc'
    · have hi : i < len := by have := (List.getElem?_eq_some_iff.1 hu).1; simpa using this
      simp [hi] at hu hl
      subst hu hl
      exact (hL i hi).1
    · obtain ⟨i, hi, rfl⟩ := List.mem_map.1 hl
      exact (hL i (List.mem_range.1 hi)).2
end
end Go.Proofs.Ytpkfjdaedaplfaa

namespace Go.Proofs.Ytpkfjdaedaplfaa
open Go.RowKit

/-- numbers as whole numbers -/
def zs9 (l : List Nat) : List Int := l.map fun x => Int.ofNat x
theorem zs9_length (l : List Nat) : (zs9 l).length = l.length := by simp [zs9]
theorem zc_zs9 (l : List Nat) : zc (zs9 l) = nums l := by unfold zc zs9 nums; rw [List.map_map]; rfl
/-- a list of lists whose slices are known -/
structure Own2z (B : Nat) (w : World) (v : Value) (vs : List Value) (ls : List (List Int)) : Prop where
  len : vs.length = ls.length
  row : w.ownsRow B 79 1 v vs.length vs
  each : ∀ (i : Nat) (u : Value) (l : List Int), vs[i]? = some u → ls[i]? = some l → OwnZ B w u l
  dist : ∀ (i j : Nat) (u u' : Value), i < j → vs[i]? = some u → vs[j]? = some u' → u.ownBlock = none ∨ u.ownBlock ≠ u'.ownBlock
theorem own2z_of {B : Nat} {w : World} {v : Value} {vs : List Value} {ls : List (List Nat)} : Own2v B w v vs ls ↔ Own2z B w v vs (ls.map zs9) := by
  constructor
  · intro h
    refine ⟨by rw [List.length_map]; exact h.len, h.row, fun i u l h1 h2 => ?_, h.dist⟩
    rw [List.getElem?_map] at h2
    rcases h3 : ls[i]? with _ | m
    · rw [h3] at h2; cases h2
    · rw [h3] at h2
      simp only [Option.map_some, Option.some.injEq] at h2
      subst h2
      have := h.each i u m h1 h3
      unfold OwnZ; rw [zc_zs9, zs9_length]; exact this
  · intro h
    refine ⟨by have := h.len; rwa [List.length_map] at this, h.row, fun i u l h1 h2 => ?_, h.dist⟩
    have := h.each i u (zs9 l) h1 (by rw [List.getElem?_map, h2]; rfl)
    unfold OwnZ at this; rw [zc_zs9, zs9_length] at this; exact this
theorem Own2z.below {B C : Nat} {w w' : World} {v : Value} {vs : List Value} {ls : List (List Int)} (h : Own2z B w v vs ls) (hb : Below C w w') (hC : w.heap.size ≤ C) : Own2z B w' v vs ls := by
  have hg := grown_of_below (hb.mono hC) none
  have far : ∀ u : Value, u.ownBlock = none ∨ u.ownBlock ≠ none := fun u => Classical.em _
  exact ⟨h.len, h.row.kept hg (far _), fun i u l a b => (h.each i u l a b).kept hg (far _), h.dist⟩
theorem Own2z.lower {B C : Nat} {w w' : World} {v : Value} {vs : List Value} {ls : List (List Int)} (h : Own2z B w v vs ls) (hb : Below C w w') (hC : ∀ k, v.ownBlock = some k → k < C) (hC' : ∀ (i : Nat) (u : Value), vs[i]? = some u → ∀ k, u.ownBlock = some k → k < C) : Own2z B w' v vs ls := by
  have key : ∀ {e : TypeId} {s n : Nat} {u : Value} {xs : List Value}, w.ownsRow B e s u n xs → (∀ k, u.ownBlock = some k → k < C) → w'.ownsRow B e s u n xs := by
    intro e s n u xs hu hk
    refine ⟨hu.1, ?_⟩
    rcases hu.2 with c | ⟨g, cap, cur, rfl, h1, h2, h3⟩
    · exact .inl c
    · exact .inr ⟨g, cap, cur, rfl, h1, by rw [hb.block g (hk g rfl)]; exact h2, h3⟩
  exact ⟨h.len, key h.row hC, fun i u l a b => key (h.each i u l a b) (hC' i u a), h.dist⟩
theorem Own2z.keep {B : Nat} {w w' : World} {v : Value} {vs : List Value} {ls : List (List Int)} {r : Option Nat} (h : Own2z B w v vs ls) (hg : w.grownBy w' r) (h1 : ∀ k, r = some k → v.ownBlock ≠ some k) (h2 : ∀ k, r = some k → ∀ (i : Nat) (u : Value), vs[i]? = some u → u.ownBlock ≠ some k) : Own2z B w' v vs ls := by
  have key : ∀ u : Value, (∀ k, r = some k → u.ownBlock ≠ some k) → u.ownBlock = none ∨ u.ownBlock ≠ r := fun u hu => by
    rcases hb : u.ownBlock with _ | g
    · exact .inl rfl
    · exact .inr fun e => hu g e.symm hb
  exact ⟨h.len, h.row.kept hg (key v h1), fun i u l a b => World.ownsRow.kept (h.each i u l a b) hg (key u fun k hk => h2 k hk i u a), h.dist⟩
theorem Own2z.ge {B : Nat} {w : World} {v : Value} {vs : List Value} {ls : List (List Int)} (h : Own2z B w v vs ls) : (∀ k, v.ownBlock = some k → B ≤ k) ∧ ∀ (i : Nat) (u : Value), vs[i]? = some u → ∀ k, u.ownBlock = some k → B ≤ k := by
  refine ⟨fun k hk => (h.row.lt k hk).1, fun i u hu k hk => ?_⟩
  have hi : i < ls.length := by rw [← h.len]; exact (List.getElem?_eq_some_iff.1 hu).1
  exact (World.ownsRow.lt (h.each i u _ hu (List.getElem?_eq_getElem hi)) k hk).1
theorem Own2z.lt {B : Nat} {w : World} {v : Value} {vs : List Value} {ls : List (List Int)} (h : Own2z B w v vs ls) : (∀ k, v.ownBlock = some k → k < w.heap.size) ∧ ∀ (i : Nat) (u : Value), vs[i]? = some u → ∀ k, u.ownBlock = some k → k < w.heap.size := by
  refine ⟨fun k hk => (h.row.lt k hk).2, fun i u hu k hk => ?_⟩
  have hi : i < ls.length := by rw [← h.len]; exact (List.getElem?_eq_some_iff.1 hu).1
  exact (World.ownsRow.lt (h.each i u _ hu (List.getElem?_eq_getElem hi)) k hk).2
theorem Own2z.at {B : Nat} {w : World} {A : Option Addr} {n c i : Nat} {vs : List Value} {ls : List (List Int)} (h : Own2z B w (.slice A n c) vs ls) (hi : i < ls.length) :
    ∃ g A' c', A = some ⟨g, 0, none⟩ ∧ g < w.heap.size ∧ vs[i]? = some (.slice A' ls[i].length c') ∧ w.cell? ⟨g, i, none⟩ = some (.slice A' ls[i].length c') ∧ OwnZ B w (.slice A' ls[i].length c') ls[i] := by
  have hv : i < vs.length := by rw [h.len]; exact hi
  have h1 := h.each i _ _ (List.getElem?_eq_getElem hv) (List.getElem?_eq_getElem hi)
  obtain ⟨A', c', e⟩ := own_slice h1
  rcases h.row.2 with ⟨_, h0⟩ | ⟨g, cap, cur, e', hB, hh, h2, h3, h4, h5⟩
  · omega
  · injection e' with e1 e2 e3
    have hlt : g < w.heap.size := (Array.getElem?_eq_some_iff.1 hh).1
    refine ⟨g, A', c', e1, hlt, by rw [List.getElem?_eq_getElem hv, e], ?_, by rw [← e]; exact h1⟩
    rw [cell_of_cells, cellsOf_heap hh]
    have : (cur.toList.take (vs.length * 1))[i]? = vs[i]? := by rw [h5]
    rw [List.getElem?_take_of_lt (by omega), Array.getElem?_toList] at this
    rw [this, List.getElem?_eq_getElem hv, e]
theorem Own2z.form {B : Nat} {w : World} {v : Value} {vs : List Value} {ls : List (List Int)} (h : Own2z B w v vs ls) : ∃ A c, v = .slice A ls.length c := by
  obtain ⟨A, c, e⟩ := own_slice h.row
  exact ⟨A, c, by rw [e, h.len]⟩
theorem Own2z.upd {B i : Nat} {w w' : World} {v u : Value} {l : List Int} {vs : List Value} {ls : List (List Int)} (h : Own2z B w v vs ls) (hi : i < ls.length) (hu : vs[i]? = some u) (hg : w.grownBy w' u.ownBlock) (hn : OwnZ B w' u l) : Own2z B w' v vs (ls.set i l) := by
  have hiu := h.each i u _ hu (List.getElem?_eq_getElem hi)
  refine ⟨by rw [List.length_set]; exact h.len, h.row.kept hg (own_ne h.row hiu (by decide)), ?_, h.dist⟩
  intro j x m hx hm
  by_cases e : i = j
  · subst e
    rw [hu] at hx
    simp only [Option.some.injEq] at hx
    subst hx
    rw [List.getElem?_set_self hi] at hm
    simp only [Option.some.injEq] at hm
    subst hm
    exact hn
  · rw [List.getElem?_set_ne e] at hm
    refine (h.each j x m hx hm).kept hg ?_
    rcases Nat.lt_or_ge i j with c | c
    · rcases hb : x.ownBlock with _ | k
      · exact .inl rfl
      · refine .inr fun e' => ?_
        rcases h.dist i j u x c hu hx with d | d
        · rw [d] at e'; cases e'
        · exact d (by rw [hb, e'])
    · exact h.dist j i x u (by omega) hx hu
theorem Own2z.rd {B : Nat} {w : World} {v : Value} {vs : List Value} {ls : List (List Int)} (h : Own2z B w v vs ls) (hl : ls.length ≤ 1000000) (hs : ∀ l ∈ ls, l.length ≤ 1000000) : RdZ2 w v ls := by
  obtain ⟨A, c, rfl⟩ := h.form
  refine ⟨A, c, vs, rfl, by omega, h.len, fun i u hu => ?_, fun i u l hu hl => (h.each i u l hu hl).rd (by have := hs l (List.mem_of_getElem? hl); omega)⟩
  have hi : i < ls.length := by rw [← h.len]; exact (List.getElem?_eq_some_iff.1 hu).1
  obtain ⟨g, A', c', e1, e2, e3, e4, e5⟩ := h.at hi
  rw [hu] at e3
  simp only [Option.some.injEq] at e3
  subst e3
  exact ⟨⟨g, 0, none⟩, e1, e2, by rw [show ((⟨g, 0, none⟩ : Addr).add i) = ⟨g, i, none⟩ by simp [Addr.add]; exact Eq.symm]; exact e4⟩

def totZ (ls : List (List Int)) : Nat := (ls.map List.length).sum
theorem totZ_take_succ (ls : List (List Int)) (i : Nat) (h : i < ls.length) : totZ (ls.take (i + 1)) = totZ (ls.take i) + ls[i].length := by
  unfold totZ
  rw [List.take_succ_eq_append_getElem h, List.map_append, List.sum_append]
  simp
theorem totZ_take_le (ls : List (List Int)) (i : Nat) : totZ (ls.take i) ≤ totZ ls := by
  unfold totZ
  conv => rhs; rw [← List.take_append_drop i ls, List.map_append, List.sum_append]
  omega
theorem len_le_totZ (ls : List (List Int)) (i : Nat) (h : i < ls.length) : ls[i].length ≤ totZ ls := by
  have := totZ_take_succ ls i h
  have := totZ_take_le ls (i + 1)
  omega
theorem mem_le_totZ {ls : List (List Int)} {l : List Int} (h : l ∈ ls) : l.length ≤ totZ ls := by
  obtain ⟨i, hi, rfl⟩ := List.getElem_of_mem h
  exact len_le_totZ ls i hi
/-- lists of as many numbers, of those of Nat -/
def shapeN (ls : List (List Int)) : List (List Nat) := ls.map fun l => List.replicate l.length 0
theorem shapeN_length (ls : List (List Int)) : (shapeN ls).length = ls.length := by simp [shapeN]
theorem shapeN_total (ls : List (List Int)) : total (shapeN ls) = totZ ls := by unfold total shapeN totZ; rw [List.map_map]; congr 1; apply List.map_congr_left; intro l _; simp
theorem shapeN_get (ls : List (List Int)) (i : Nat) (h : i < ls.length) (h' : i < (shapeN ls).length) : (shapeN ls)[i].length = ls[i].length := by simp [shapeN]
theorem shapeN_take (ls : List (List Int)) (i : Nat) : (shapeN ls).take i = shapeN (ls.take i) := by simp [shapeN, List.map_take]
def mkZ (k0 : Nat) (ls : List (List Int)) : List (List Int) := (marksL k0 (shapeN ls)).map zs9
theorem mkZ_length (k0 : Nat) (ls : List (List Int)) : (mkZ k0 ls).length = ls.length := by simp [mkZ, marksL_length, shapeN]
theorem mkZ_get (ls : List (List Int)) (k0 i : Nat) (h : i < ls.length) : (mkZ k0 ls)[i]? = some (zs9 (marks (k0 + totZ (ls.take i)) ls[i].length)) := by
  have := marksL_get (shapeN ls) k0 i (by rw [shapeN_length]; exact h)
  unfold mkZ
  rw [List.getElem?_map, this, shapeN_get ls i h, shapeN_take, shapeN_total]; rfl

/-- only what S names is turned -/
structure Sole (w w' : World) (S : Nat → Prop) : Prop where
  os : w'.os = w.os
  tape : w'.tape = w.tape
  output : w'.output = w.output
  size : w.heap.size ≤ w'.heap.size
  block : ∀ k, k < w.heap.size → ¬ S k → w'.heap[k]? = w.heap[k]?
theorem Sole.refl (w : World) (S : Nat → Prop) : Sole w w S := ⟨rfl, rfl, rfl, Nat.le_refl _, fun _ _ _ => rfl⟩
theorem Sole.grown {w a b : World} {S : Nat → Prop} {r : Option Nat} (h : Sole w a S) (k : a.grownBy b r) (hr : ∀ g, r = some g → S g) : Sole w b S :=
  ⟨k.os.trans h.os, k.tape.trans h.tape, k.output.trans h.output, Nat.le_trans h.size k.size, fun g hg hs => (k.block g (Nat.lt_of_lt_of_le hg h.size) fun e => hs (hr g e.symm)).trans (h.block g hg hs)⟩
def ownsZZ (v : Value) (vs : List Value) (k : Nat) : Prop := v.ownBlock = some k ∨ ∃ (i : Nat) (u : Value), vs[i]? = some u ∧ u.ownBlock = some k
theorem Own2z.mono {B B' : Nat} {w : World} {v : Value} {vs : List Value} {ls : List (List Int)} (h : Own2z B w v vs ls) (hB : B' ≤ B) : Own2z B' w v vs ls :=
  ⟨h.len, row_low h.row hB, fun i u l a b => row_low (h.each i u l a b) hB, h.dist⟩
/-- a list of lists as a part -/
def pZZ (v : Value) (vs : List Value) (ls : List (List Int)) : Part where
  own k := ownsZZ v vs k
  ok w := Own2z 0 w v vs ls
  keep w w' h k := by
    have key : ∀ {e : TypeId} {s n : Nat} {u : Value} {xs : List Value}, w.ownsRow 0 e s u n xs → (∀ k, u.ownBlock = some k → ownsZZ v vs k) → w'.ownsRow 0 e s u n xs := by
      intro e s n u xs hu hk
      refine ⟨hu.1, ?_⟩
      rcases hu.2 with c | ⟨g, cap, cur, rfl, h1, h2, h3⟩
      · exact .inl c
      · exact .inr ⟨g, cap, cur, rfl, h1, by rw [k g (hk g rfl)]; exact h2, h3⟩
    exact ⟨h.len, key h.row fun k hk => .inl hk, fun i u l a b => key (h.each i u l a b) fun k hk => .inr ⟨i, u, a, hk⟩, h.dist⟩
  lt w g h k := by
    rcases k with k | ⟨i, u, hu, k⟩
    · exact h.lt.1 g k
    · exact h.lt.2 i u hu g k
def Own2Z (B : Nat) (w : World) (v : Value) (ls : List (List Int)) : Prop := ∃ vs, Own2z B w v vs ls
theorem Own2Z.nil (B : Nat) (w : World) : Own2Z B w (.slice none 0 0) [] := ⟨[], rfl, World.ownsRow_nil _ _ _ _, fun i u l h => by simp at h, fun i j u u' _ h => by simp at h⟩
theorem Own2.z {B : Nat} {w : World} {v : Value} {ls : List (List Nat)} (h : Own2 B w v ls) : Own2Z B w v (ls.map zs9) := by
  obtain ⟨vs, hv⟩ := own2v.1 h
  exact ⟨vs, own2z_of.1 hv⟩
theorem Own1.z {B : Nat} {w : World} {v : Value} {l : List Nat} (h : Own1 B w v l) : OwnZ B w v (zs9 l) := by
  unfold OwnZ; rw [zc_zs9, zs9_length]; exact h
theorem own2Z_form {B : Nat} {w : World} {v : Value} {ls : List (List Int)} (h : Own2Z B w v ls) : ∃ A c vs, v = .slice A ls.length c ∧ Own2z B w (.slice A ls.length c) vs ls := by
  obtain ⟨vs, hv⟩ := h
  obtain ⟨A, c, rfl⟩ := hv.form
  exact ⟨A, c, vs, rfl, hv⟩
theorem Holds.newZZ {w0 w w' : World} {L : List Part} (h : Holds w0 w L) (hb : Below w.heap.size w w') {v : Value} {vs : List Value} {ls : List (List Int)} (ho : Own2z w.heap.size w' v vs ls) : Holds w0 w' (pZZ v vs ls :: L) :=
  h.new hb _ (ho.mono (Nat.zero_le _)) fun g hg => by
    rcases hg with k | ⟨i, u, hu, k⟩
    · exact ho.ge.1 g k
    · exact ho.ge.2 i u hu g k
theorem Holds.turnZZ {w0 w w' : World} {L : List Part} (h : Holds w0 w L) (i : Nat) {v : Value} {vs : List Value} {ls ls' : List (List Int)} (hi : L[i]? = some (pZZ v vs ls)) (hs : Sole w w' (ownsZZ v vs)) (ho : Own2z 0 w' v vs ls') : Holds w0 w' (L.set i (pZZ v vs ls')) :=
  h.turn i hi _ ho hs.os hs.tape hs.output hs.size hs.block fun g hg => .inl hg

set_option maxRecDepth 100000 in
set_option maxHeartbeats 400000 in
theorem markZZ_any (ls : List (List Int)) (A : Option Addr) (c k0 : Nat) (vs : List Value) (hl : totZ ls ≤ 1000000) (hl2 : ls.length ≤ 1000000) (hk0 : k0 ≤ 1000000) (w : World) (h : Own2z 0 w (.slice A ls.length c) vs ls) :
    Calls Try.prog 54 #[.slice A ls.length c, .int .i64 k0] w fun e w' => e = .returned (.int .i64 (k0 + totZ ls : Nat)) ∧ Sole w w' (ownsZZ (.slice A ls.length c) vs) ∧ Own2z 0 w' (.slice A ls.length c) vs (mkZ k0 ls) := by
  go_enter Try.func54, Try.ntmps54
  go_wp2
  go_loopw [1, 5] (fun q i wr => ∃ k : Nat, k ≤ ls.length ∧ i = .int .i64 k ∧ q = .int .i64 (k0 + totZ (ls.take k) : Nat) ∧ Sole w wr (ownsZZ (.slice A ls.length c) vs) ∧ Own2z 0 wr (.slice A ls.length c) vs ((mkZ k0 ls).take k ++ ls.drop k)) (fun _ i _ => ls.length - (intOf i).toNat)
  case atStart => exact ⟨0, by omega, rfl, by simp [totZ], Sole.refl _ _, by simpa using h⟩
  case round =>
    obtain ⟨k, hk, rfl, rfl, hb, ho⟩ := hrel
    have ht := totZ_take_le ls k
    by_cases hlt : k < ls.length
    · have hml : ((mkZ k0 ls).take k).length = k := by rw [List.length_take, mkZ_length]; omega
      have hlen : k < ((mkZ k0 ls).take k ++ ls.drop k).length := by rw [List.length_append, hml, List.length_drop]; omega
      have hge : ((mkZ k0 ls).take k ++ ls.drop k)[k] = ls[k] := by
        rw [List.getElem_append_right (by omega)]
        simp only [hml, Nat.sub_self, List.getElem_drop, Nat.add_zero]
      obtain ⟨g, A', c', rfl, hg, hv, hc, h1⟩ := ho.at hlen
      rw [hge] at hv hc h1
      have hle := len_le_totZ ls k hlt
      have hts := totZ_take_succ ls k hlt
      have hset : ((mkZ k0 ls).take k ++ ls.drop k).set k (zs9 (marks (k0 + totZ (ls.take k)) ls[k].length)) = (mkZ k0 ls).take (k + 1) ++ ls.drop (k + 1) := by
        have hkm : k < (mkZ k0 ls).length := by rw [mkZ_length]; exact hlt
        have e : (mkZ k0 ls)[k] = zs9 (marks (k0 + totZ (ls.take k)) ls[k].length) := by
          have := mkZ_get ls k0 k hlt
          rw [List.getElem?_eq_getElem hkm] at this
          exact Option.some.inj this
        rw [List.set_append_right _ _ (by omega), hml, Nat.sub_self, List.drop_eq_getElem_cons hlt, List.set_cons_zero, List.take_succ_eq_append_getElem hkm, e, List.append_assoc]
        rfl
      have C := hide (markZ_any ls[k] A' c' 0 (k0 + totZ (ls.take k)) (by omega) (by omega) wr h1)
      clear hge
      have HSET := hide hset; clear hset
      have HV := hide hv; clear hv
      have HO := hide ho; clear ho
      have HT := hide hts; clear hts
      have H1 := hide h1; clear h1
      have HLEN := hide hlen; clear hlen
      clear hml
      go_wp2_with fail
      refine C.out.mono ?_
      rintro e w1 ⟨rfl, hg1, hn⟩
      have hn' : OwnZ 0 w1 (.slice A' ls[k].length c') (zs9 (marks (k0 + totZ (ls.take k)) ls[k].length)) := by
        unfold OwnZ; rw [zc_zs9, zs9_length, marks_length]; exact hn
      have hO := HO.out.upd HLEN.out HV.out hg1 hn'
      rw [HSET.out] at hO
      have hbw := hb.grown hg1 (fun g hg => .inr ⟨k, _, HV.out, hg⟩)
      have HOO := hide hO; clear hO
      clear hn hn' hg1 hc hb
      go_wp2
      go_roundw
      case rel => exact ⟨k + 1, by omega, by go_num, by rw [HT.out]; go_num, hbw, HOO.out⟩
      case measure => simp [intOf]; omega
    · obtain rfl : k = ls.length := by omega
      go_wp2
      go_ret
      refine ⟨by simp, hb, ?_⟩
      rw [List.drop_length, List.append_nil, List.take_of_length_le (by rw [mkZ_length]; omega)] at ho
      exact ho
theorem heldZZ_any (ls : List (List Int)) (A : Option Addr) (c k0 : Nat) (vs : List Value) (hl : totZ ls ≤ 1000000) (hl2 : ls.length ≤ 1000000) (hk0 : k0 ≤ 1000000) (w : World) (h : Own2z 0 w (.slice A ls.length c) vs (mkZ k0 ls)) :
    Calls Try.prog 55 #[.slice A ls.length c, .int .i64 k0] w fun e w' => e = .returned (.int .i64 (k0 + totZ ls : Nat)) ∧ Below w.heap.size w w' := by
  have := heldInt64SS_any (shapeN ls) A c 0 k0 vs (by rw [shapeN_total]; exact hl) (by rw [shapeN_length]; exact hl2) hk0 w (by rw [shapeN_length]; exact own2z_of.2 h)
  rwa [shapeN_length, shapeN_total] at this
theorem eqZZ_same (ls : List (List Int)) (A A' : Option Addr) (c c' B B' : Nat) (vs vs' : List Value) (hl : totZ ls ≤ 1000000) (hl2 : ls.length ≤ 1000000) (w : World)
    (h : Own2z B w (.slice A ls.length c) vs ls) (h' : Own2z B' w (.slice A' ls.length c') vs' ls) :
    Calls Try.prog 53 #[.slice A ls.length c, .slice A' ls.length c'] w fun e w' => e = .returned (.bool true) ∧ Below w.heap.size w w' := by
  have hs : ∀ l ∈ ls, l.length ≤ 1000000 := fun l h => by have := mem_le_totZ h; omega
  exact eqInt64SS_rd ls _ _ w (h.rd hl2 hs) (h'.rd hl2 hs)
end Go.Proofs.Ytpkfjdaedaplfaa

namespace Go.Proofs.Ytpkfjdaedaplfaa
open Go.RowKit

def thenF (p q : Nat → Nat) (n : Nat) : Nat → Nat := upto (fun i => q (p i)) n
def backTo (p : Nat → Nat) : Nat → Nat → Nat
  | 0 => fun _ => 0
  | k + 1 => fset (backTo p k) (p k) k
def sameF (n : Nat) : Nat → Nat := upto (fun i => i) n
def backF (p : Nat → Nat) (n : Nat) : Nat → Nat := backTo p n
theorem backTo_step (p : Nat → Nat) (k : Nat) : fset (backTo p k) (p k) k = backTo p (k + 1) := rfl

-- left out here: loop.example/g01200/impl.follow
-- left out here: loop.example/g01200/spec.l01Then
-- left out here: loop.example/g01200/impl.undo
-- left out here: loop.example/g01200/spec.l01Back
-- left out here: loop.example/g01200/impl.stay
-- left out here: loop.example/g01200/spec.l01Same
end Go.Proofs.Ytpkfjdaedaplfaa
namespace Go.Proofs.Ytpkfjdaedaplfaa
open Go.RowKit

theorem in_yes (n a b : Int) (w : World) (h1 : a ≤ n) (h2 : n ≤ b) : Calls Try.prog 57 #[.int .i64 n, .int .i64 a, .int .i64 b] w fun e w' => e = .returned (.bool true) ∧ w = w' := by
  go_enter Try.func57, Try.ntmps57
  go_wp2
  go_ret
  exact ⟨by simp, rfl⟩
theorem in_no (n a b : Int) (w : World) (h : ¬ (a ≤ n ∧ n ≤ b)) : Calls Try.prog 57 #[.int .i64 n, .int .i64 a, .int .i64 b] w fun e w' => e = .returned (.bool false) ∧ w = w' := by
  by_cases h1 : a ≤ n
  · have h2 : ¬ n ≤ b := fun c => h ⟨h1, c⟩
    clear h
    go_enter Try.func57, Try.ntmps57
    go_wp2
    go_ret
    exact ⟨by simp, rfl⟩
  · clear h
    go_enter Try.func57, Try.ntmps57
    go_wp2
    go_ret
    exact ⟨by simp, rfl⟩

-- left out here: loop.example/g01200/spec.l01Perm
end Go.Proofs.Ytpkfjdaedaplfaa

namespace Go.Proofs.Ytpkfjdaedaplfaa
open Go.RowKit

@[irreducible] def dv (n : Int) (f g : Nat → Nat) : Array Value := row 33 fun i => if i = 0 then .int .i64 n else if i < 17 then .int .u8 (f (i - 1)) else .int .u8 (g (i - 17))
theorem dv_size (n : Int) (f g : Nat → Nat) : (dv n f g).size = 33 := by unfold dv; exact row_size _ _
theorem dv_n (n : Int) (f g : Nat → Nat) : (dv n f g)[0]? = some (.int .i64 n) := by unfold dv; rw [row_get _ _ (by omega)]; rfl
theorem dv_b (n : Int) (f g : Nat → Nat) {i : Nat} (h : i < 16) : (dv n f g)[1 + i]? = some (.int .u8 (f i)) := by
  unfold dv; rw [row_get _ _ (by omega), if_neg (by omega), if_pos (by omega), show 1 + i - 1 = i from by omega]
theorem dv_w (n : Int) (f g : Nat → Nat) {i : Nat} (h : i < 16) : (dv n f g)[17 + i]? = some (.int .u8 (g i)) := by
  unfold dv; rw [row_get _ _ (by omega), if_neg (by omega), if_neg (by omega), show 17 + i - 17 = i from by omega]
theorem dv_zero : dv 0 (fun _ => 0) (fun _ => 0) = #[Value.int .i64 0, Value.int .u8 0, Value.int .u8 0, Value.int .u8 0, Value.int .u8 0, Value.int .u8 0, Value.int .u8 0, Value.int .u8 0, Value.int .u8 0, Value.int .u8 0, Value.int .u8 0, Value.int .u8 0, Value.int .u8 0, Value.int .u8 0, Value.int .u8 0, Value.int .u8 0, Value.int .u8 0, Value.int .u8 0, Value.int .u8 0, Value.int .u8 0, Value.int .u8 0, Value.int .u8 0, Value.int .u8 0, Value.int .u8 0, Value.int .u8 0, Value.int .u8 0, Value.int .u8 0, Value.int .u8 0, Value.int .u8 0, Value.int .u8 0, Value.int .u8 0, Value.int .u8 0, Value.int .u8 0] := by unfold dv row; rfl
theorem dv_lit (n : Int) : dv n (fun _ => 0) (fun _ => 0) = #[Value.int .i64 n, Value.int .u8 0, Value.int .u8 0, Value.int .u8 0, Value.int .u8 0, Value.int .u8 0, Value.int .u8 0, Value.int .u8 0, Value.int .u8 0, Value.int .u8 0, Value.int .u8 0, Value.int .u8 0, Value.int .u8 0, Value.int .u8 0, Value.int .u8 0, Value.int .u8 0, Value.int .u8 0, Value.int .u8 0, Value.int .u8 0, Value.int .u8 0, Value.int .u8 0, Value.int .u8 0, Value.int .u8 0, Value.int .u8 0, Value.int .u8 0, Value.int .u8 0, Value.int .u8 0, Value.int .u8 0, Value.int .u8 0, Value.int .u8 0, Value.int .u8 0, Value.int .u8 0, Value.int .u8 0] := by unfold dv row; rfl
theorem dv_cells (n : Int) (f g : Nat → Nat) : (dv n f g).all (·.oneCell') = true := by
  unfold dv row
  simp only [List.all_toArray, List.all_map, List.all_eq_true, Function.comp]
  intro i _
  split
  · rfl
  · split <;> rfl

def Is33 (c : Array Value) : Prop := c.size = 33
@[go_sem] theorem is33_dv (n : Int) (f g : Nat → Nat) : Is33 (dv n f g) ↔ True := ⟨fun _ => trivial, fun _ => dv_size n f g⟩
@[go_sem] theorem is33_lit (x0 x1 x2 x3 x4 x5 x6 x7 x8 x9 x10 x11 x12 x13 x14 x15 x16 x17 x18 x19 x20 x21 x22 x23 x24 x25 x26 x27 x28 x29 x30 x31 x32 : Value) : Is33 #[x0, x1, x2, x3, x4, x5, x6, x7, x8, x9, x10, x11, x12, x13, x14, x15, x16, x17, x18, x19, x20, x21, x22, x23, x24, x25, x26, x27, x28, x29, x30, x31, x32] ↔ True := ⟨fun _ => trivial, fun _ => rfl⟩
@[go_sem] theorem ones_dv (n : Int) (f g : Nat → Nat) : Ones (dv n f g) ↔ True := ⟨fun _ => trivial, fun _ => dv_cells n f g⟩
@[go_sem] theorem ones_z33 : Ones #[Value.int .i64 0, Value.int .u8 0, Value.int .u8 0, Value.int .u8 0, Value.int .u8 0, Value.int .u8 0, Value.int .u8 0, Value.int .u8 0, Value.int .u8 0, Value.int .u8 0, Value.int .u8 0, Value.int .u8 0, Value.int .u8 0, Value.int .u8 0, Value.int .u8 0, Value.int .u8 0, Value.int .u8 0, Value.int .u8 0, Value.int .u8 0, Value.int .u8 0, Value.int .u8 0, Value.int .u8 0, Value.int .u8 0, Value.int .u8 0, Value.int .u8 0, Value.int .u8 0, Value.int .u8 0, Value.int .u8 0, Value.int .u8 0, Value.int .u8 0, Value.int .u8 0, Value.int .u8 0, Value.int .u8 0] ↔ True := ⟨fun _ => trivial, fun _ => by unfold Ones; simp [Value.oneCell']⟩
@[go_sem] theorem rowOk_at33 {w : World} {g : Nat} {c : Array Value} {t : TypeId} (h : g = w.heap.size) (hc : Is33 c) : rowOk (w.alloc (.cells c t)) g 33 ↔ True := ⟨fun _ => trivial, fun _ => ⟨c, t, heap_at _ _ _ h, hc⟩⟩

@[go_sem] theorem cellsOf_ne {w : World} {g g' : Nat} {c' : Array Value} (h : g ≠ g') : cellsOf (w.setRow g' c') g = cellsOf w g := cellsOf_setRow_ne h
@[go_sem] theorem cellsOf_same33 {w : World} {g : Nat} {c' : Array Value} (h : rowOk w g 33) : cellsOf (w.setRow g c') g = c' := cellsOf_setRow h
@[go_sem] theorem cellsOf_same16 {w : World} {g : Nat} {c' : Array Value} (h : rowOk w g 16) : cellsOf (w.setRow g c') g = c' := cellsOf_setRow h
@[go_sem] theorem rowOk_ne {w : World} {g g' n : Nat} {c' : Array Value} (h : g ≠ g') : rowOk (w.setRow g' c') g n ↔ rowOk w g n := rowOk_setRow_ne h
@[go_sem] theorem rowOk_same33 {w : World} {g : Nat} {c' : Array Value} (h : rowOk w g 33) (hc : Is33 c') : rowOk (w.setRow g c') g 33 ↔ True := ⟨fun _ => trivial, fun _ => rowOk_setRow h hc⟩
@[go_sem] theorem rowOk_same16 {w : World} {g : Nat} {c' : Array Value} (h : rowOk w g 16) (hc : Is16 c') : rowOk (w.setRow g c') g 16 ↔ True := ⟨fun _ => trivial, fun _ => rowOk_setRow h hc⟩
/-- Black and White of thirty-three cells -/
def blackOf (c : Array Value) : Array Value := c.extract 1 17
def whiteOf (c : Array Value) : Array Value := c.extract 17 33
def setBlack (c b : Array Value) : Array Value := (c.toList.take 1 ++ b.toList ++ c.toList.drop 17).toArray
def setWhite (c b : Array Value) : Array Value := (c.toList.take 17 ++ b.toList ++ c.toList.drop 33).toArray
theorem get_cases (n : Int) (f g : Nat → Nat) (i : Nat) : (dv n f g)[i]? = if i < 33 then some (if i = 0 then .int .i64 n else if i < 17 then .int .u8 (f (i - 1)) else .int .u8 (g (i - 17))) else none := by
  unfold dv
  by_cases h : i < 33
  · rw [row_get _ _ h, if_pos h]
  · rw [row_none _ _ h, if_neg h]
theorem av_cases (f : Nat → Nat) (i : Nat) : (av f)[i]? = if i < 16 then some (.int .u8 (f i)) else none := by
  by_cases h : i < 16
  · rw [av_get _ h, if_pos h]
  · rw [if_neg h, Array.getElem?_eq_none]; rw [av_size]; omega
@[go_sem] theorem blackOf_dv (n : Int) (f g : Nat → Nat) : blackOf (dv n f g) = av f := by
  apply Array.ext_getElem?
  intro i
  unfold blackOf
  rw [Array.getElem?_extract, get_cases, av_cases, dv_size]
  by_cases h : i < 16
  · rw [if_pos (by omega), if_pos (by omega), if_neg (by omega), if_pos (by omega), if_pos h, show 1 + i - 1 = i from by omega]
  · rw [if_neg (by omega), if_neg h]
@[go_sem] theorem whiteOf_dv (n : Int) (f g : Nat → Nat) : whiteOf (dv n f g) = av g := by
  apply Array.ext_getElem?
  intro i
  unfold whiteOf
  rw [Array.getElem?_extract, get_cases, av_cases, dv_size]
  by_cases h : i < 16
  · rw [if_pos (by omega), if_pos (by omega), if_neg (by omega), if_neg (by omega), if_pos h, show 17 + i - 17 = i from by omega]
  · rw [if_neg (by omega), if_neg h]
@[go_sem] theorem setBlack_dv (n : Int) (f g b : Nat → Nat) : setBlack (dv n f g) (av b) = dv n b g := by
  apply Array.ext_getElem?
  intro i
  have l1 : (dv n f g).toList.length = 33 := by simpa using dv_size n f g
  have l2 : (av b).toList.length = 16 := by simpa using av_size b
  unfold setBlack
  rw [List.getElem?_toArray, get_cases]
  by_cases h0 : i < 1
  · rw [List.getElem?_append_left (by simp [l1]; omega), List.getElem?_append_left (by simp [l1]; omega), List.getElem?_take_of_lt (by omega), Array.getElem?_toList, get_cases]
    rw [if_pos (by omega), if_pos (by omega), if_pos (by omega), if_pos (by omega)]
  · by_cases h1 : i < 17
    · rw [List.getElem?_append_left (by simp [l1, l2, av_size]; omega), List.getElem?_append_right (by simp [l1]; omega), Array.getElem?_toList, av_cases]
      have e : i - (List.take 1 (dv n f g).toList).length = i - 1 := by simp [l1, dv_size]
      rw [e, if_pos (by omega), if_pos (by omega), if_neg (by omega), if_pos h1]
    · rw [List.getElem?_append_right (by simp [l1, l2, av_size, dv_size]; omega), List.getElem?_drop, Array.getElem?_toList, get_cases]
      have e : 17 + (i - (List.take 1 (dv n f g).toList ++ (av b).toList).length) = i := by simp [l1, l2, av_size, dv_size]; omega
      rw [e]
      by_cases h2 : i < 33
      · rw [if_pos h2, if_pos h2, if_neg (by omega), if_neg (by omega), if_neg (by omega), if_neg (by omega)]
      · rw [if_neg h2, if_neg h2]
@[go_sem] theorem setWhite_dv (n : Int) (f g b : Nat → Nat) : setWhite (dv n f g) (av b) = dv n f b := by
  apply Array.ext_getElem?
  intro i
  have l1 : (dv n f g).toList.length = 33 := by simpa using dv_size n f g
  have l2 : (av b).toList.length = 16 := by simpa using av_size b
  unfold setWhite
  rw [List.getElem?_toArray, get_cases]
  by_cases h0 : i < 17
  · rw [List.getElem?_append_left (by simp [l1, dv_size, av_size]; omega), List.getElem?_append_left (by simp [l1, dv_size]; omega), List.getElem?_take_of_lt (by omega), Array.getElem?_toList, get_cases]
    by_cases h : i = 0
    · simp [h]
    · simp [h, h0, show i < 33 from by omega]
  · by_cases h1 : i < 33
    · rw [List.getElem?_append_left (by simp [l1, l2, av_size, dv_size]; omega), List.getElem?_append_right (by simp [l1, dv_size]; omega), Array.getElem?_toList, av_cases]
      have e : i - (List.take 17 (dv n f g).toList).length = i - 17 := by simp [l1, dv_size]
      rw [e, if_pos (by omega), if_pos (by omega), if_neg (by omega), if_neg (by omega)]
    · rw [List.getElem?_append_right (by simp [l1, l2, av_size, dv_size]; omega), List.getElem?_drop, Array.getElem?_toList, get_cases, if_neg (by omega), if_neg h1]

-- left out here: None
-- left out here: None
/-- sixteen cells out of the midst of a block, and into it -/
theorem run_load_mid {T n : Nat} (hT : AggT T n) {w : World} {g o : Nat} {cs : Array Value} (h : (cellsOf w g).extract o (o + n) = cs) (hs : cs.size = n) :
    (loadT T (.pointer (some ⟨g, o, none⟩))).run Try.prog w = .ok (.value (.agg cs)) w := by
  obtain ⟨d, hd, hd'⟩ := hT.und
  have := run_loadVar_mid (P := Try.prog) w g o T cs.toList d (fun j v hv => by
    rw [cell_of_cells]
    rw [← h] at hv
    simp only [Array.getElem?_toList, Array.getElem?_extract] at hv
    split at hv
    · exact hv
    · cases hv) hd (by cases d <;> first | rfl | simp at hd') (by rw [Array.length_toList, hs]; exact hT.siz)
  simp only [loadT, Instr.loadAt, Instr.sureAddr, Sem.run_bind, Sem.run_pure, Result.andThen_ok, this]
theorem run_store_mid {T n m : Nat} (hT : AggT T n) {w : World} {g o : Nat} {cs : Array Value} (h : rowOk w g m) (hm : o + n ≤ m) (hs : cs.size = n) (hc : cs.all (·.oneCell') = true) :
    (storeT T (.pointer (some ⟨g, o, none⟩)) (.agg cs)).run Try.prog w = .ok .skip (w.setRow g ((cellsOf w g).toList.take o ++ cs.toList ++ (cellsOf w g).toList.drop (o + n)).toArray) := by
  obtain ⟨t, h1, h2⟩ := h.heap
  have := run_storeCells_at (P := Try.prog) g o t cs.toList 0 (cellsOf w g) w h1 (by simp [hs, h2]; omega) (fun v hv => (Array.all_eq_true_iff_forall_mem.1 hc) v (by simpa using hv))
  rcases hq : Try.prog.info? T with _ | i
  · have := hT.siz; rw [hq] at this; cases this
  · have hi : i.size = n := by have := hT.siz; rw [hq] at this; simpa using this
    simp only [Nat.add_zero, Array.length_toList, hs] at this
    simp only [storeT, Instr.storeAt, Instr.sureAddr, storeVar, sizeOf, typeInfo, hq, Value.cells, Sem.run_bind, Sem.run_pure, Result.andThen_ok, run_program, hs, hi, ne_eq, not_true_eq_false, if_false, this]

section
variable (ρ : Operand → Value) (dst : Option Tmp) (x y : Operand) (ty : TypeId) (pos : String) (after : Array Edge) (guard : Option (Nat × Bool))
-- left out here: None
-- left out here: None
-- left out here: None
end
section
variable {w : World} {g : Nat} {cs : Array Value}
-- left out here: None
-- left out here: None
-- left out here: None
-- left out here: None
-- left out here: None
-- left out here: None
-- left out here: None
-- left out here: None
-- left out here: None
end

end Go.Proofs.Ytpkfjdaedaplfaa

namespace Go.Proofs.Ytpkfjdaedaplfaa
open Go.RowKit

theorem below_setCell {B g : Nat} {w0 w : World} (h : Below B w0 w) (hg : B ≤ g) (i : Nat) (v : Value) : Below B w0 (w.setCell ⟨g, i, none⟩ v) :=
  ⟨h.os, h.tape, h.output, by have := h.size; simpa using this, fun k hk => (Below.heap_setCell w ⟨g, i, none⟩ v k (fun e => by have : k = g := e; omega)).trans (h.block k hk)⟩
theorem dv_setb (n : Int) (f g : Nat → Nat) {i : Nat} (v : Nat) (h : i < 16) : (dv n f g).setIfInBounds (1 + i) (.int .u8 v) = dv n (fset f i v) g := by
  unfold dv
  rw [row_set]
  apply row_congr
  intro j _
  unfold fset
  by_cases c : j = 1 + i
  · rw [if_pos c, if_neg (by omega), if_pos (by omega), if_pos (by omega)]
  · rw [if_neg c]
    by_cases d : j = 0
    · rw [if_pos d, if_pos d]
    · rw [if_neg d, if_neg d]
      by_cases e : j < 17
      · rw [if_pos e, if_pos e, if_neg (by omega)]
      · rw [if_neg e, if_neg e]
theorem dv_setw (n : Int) (f g : Nat → Nat) {i : Nat} (v : Nat) (h : i < 16) : (dv n f g).setIfInBounds (17 + i) (.int .u8 v) = dv n f (fset g i v) := by
  unfold dv
  rw [row_set]
  apply row_congr
  intro j _
  unfold fset
  by_cases c : j = 17 + i
  · rw [if_pos c, if_neg (by omega), if_neg (by omega), if_pos (by omega)]
  · rw [if_neg c]
    by_cases d : j = 0
    · rw [if_pos d, if_pos d]
    · rw [if_neg d, if_neg d]
      by_cases e : j < 17
      · rw [if_pos e, if_pos e]
      · rw [if_neg e, if_neg e, if_neg (by omega)]

end Go.Proofs.Ytpkfjdaedaplfaa

namespace Go.Proofs.Ytpkfjdaedaplfaa
open Go.RowKit

def yb (x : Int) : Nat := (x % 256).toNat
theorem yb_cast (x : Int) : ((yb x : Nat) : Int) = x % 256 := by unfold yb; omega
def prs (l : List Int) : List (Nat × Nat) := (List.range l.length).map fun i => ((l.getD i 0).toNat, yb (l.getD ((i + 1) % l.length) 0))
def outP (m : Nat) (P : List (Nat × Nat)) : Nat → Nat := P.foldl (fun f p => fset f p.1 p.2) (sameF m)
theorem outP_snoc (m : Nat) (P : List (Nat × Nat)) (q : Nat × Nat) : outP m (P ++ [q]) = fset (outP m P) q.1 q.2 := by simp [outP]
theorem prs_succ (l : List Int) {i : Nat} (hi : i < l.length) : (prs l).take (i + 1) = (prs l).take i ++ [((l[i]).toNat, yb (l[(i + 1) % l.length]'(Nat.mod_lt _ (by omega))))] := by
  have hl : (prs l).length = l.length := by simp [prs]
  rw [List.take_succ_eq_append_getElem (by omega)]
  congr 2
  have h2 : (i + 1) % l.length < l.length := Nat.mod_lt _ (by omega)
  simp [prs, List.getD_eq_getElem?_getD, hi, h2]
theorem prs_all (l : List Int) : (prs l).take l.length = prs l := List.take_of_length_le (by simp [prs])
def inR (m : Nat) (D : List Int) : Prop := (∀ x ∈ D, 0 ≤ x ∧ x < (m : Int)) ∧ D.Nodup
theorem inR.sub {m : Nat} {D E : List Int} (h : inR m E) (hs : D.Sublist E) : inR m D := ⟨fun x hx => h.1 x (hs.subset hx), hs.nodup h.2⟩
theorem inR.snoc {m : Nat} {D : List Int} {x : Int} (h : inR m D) (h0 : 0 ≤ x) (h1 : x < m) (h2 : x ∉ D) : inR m (D ++ [x]) := by
  refine ⟨fun y hy => ?_, ?_⟩
  · rcases List.mem_append.1 hy with c | c
    · exact h.1 y c
    · rw [List.mem_singleton.1 c]; exact ⟨h0, h1⟩
  · rw [List.nodup_append]
    refine ⟨h.2, by simp, fun a ha b hb e => ?_⟩
    rw [List.mem_singleton.1 hb] at e
    exact h2 (e ▸ ha)
def goodC (m : Nat) (ls : List (List Int)) : Prop := (∀ l ∈ ls, l ≠ []) ∧ inR m ls.flatten
theorem flat_succ (ls : List (List Int)) {j : Nat} (hj : j < ls.length) : (ls.take (j + 1)).flatten = (ls.take j).flatten ++ ls[j] := by
  rw [List.take_succ_eq_append_getElem hj, List.flatten_append, List.flatten_cons, List.flatten_nil, List.append_nil]
theorem prs_flat (ls : List (List Int)) {j : Nat} (hj : j < ls.length) : (ls.take (j + 1)).flatMap prs = (ls.take j).flatMap prs ++ prs ls[j] := by
  rw [List.take_succ_eq_append_getElem hj, List.flatMap_append, List.flatMap_cons, List.flatMap_nil, List.append_nil]
theorem flat_sub (ls : List (List Int)) {j i : Nat} (hj : j < ls.length) (hi : i < ls[j].length) : ((ls.take j).flatten ++ ls[j].take i ++ [ls[j][i]]).Sublist ls.flatten := by
  have e : ls[j].take i ++ [ls[j][i]] = ls[j].take (i + 1) := (List.take_succ_eq_append_getElem hi).symm
  rw [List.append_assoc, e]
  have h1 : ((ls.take j).flatten ++ ls[j].take (i + 1)).Sublist ((ls.take (j + 1)).flatten) := by
    rw [flat_succ ls hj]
    exact List.Sublist.append (List.Sublist.refl _) (List.take_sublist _ _)
  refine h1.trans ?_
  conv => rhs; rw [← List.take_append_drop (j + 1) ls, List.flatten_append]
  exact List.sublist_append_left _ _
def metB (D : List Int) : Nat → Bool := fun y => decide ((y : Int) ∈ D)
theorem metB_snoc (D : List Int) (y : Nat) : mset (metB D) y = metB (D ++ [(y : Int)]) := by
  funext z
  unfold mset metB
  by_cases c : z = y
  · subst c; simp
  · have : ¬ (z : Int) = (y : Int) := by omega
    simp [c, this]
theorem metB_nil : metB [] = fun _ => false := by funext z; simp [metB]

-- left out here: None
-- left out here: PW
-- left out here: PW
open Classical in
noncomputable def pocR (ls : List (List Int)) (n : Int) : Value := if 1 ≤ n ∧ n ≤ 16 ∧ goodC n.toNat ls then .tuple #[.agg (av (outP n.toNat (ls.flatMap prs))), .int .i64 0] else .tuple #[.agg (av fun _ => 0), .int .i64 2]
theorem pocR_eq (ls : List (List Int)) (n : Int) : ∃ (r : Nat → Nat) (c : Int), pocR ls n = .tuple #[.agg (av r), .int .i64 c] := by
  unfold pocR; split
  · exact ⟨_, _, rfl⟩
  · exact ⟨_, _, rfl⟩

-- left out here: loop.example/g01200/impl.PlacesOfCycles loop.example/g01200/impl.isDartCount
end Go.Proofs.Ytpkfjdaedaplfaa

namespace Go.Proofs.Ytpkfjdaedaplfaa
open Go.RowKit

-- left out here: PW
theorem in_any (n a b : Int) (w : World) : Calls Try.prog 57 #[.int .i64 n, .int .i64 a, .int .i64 b] w fun e w' => e = .returned (.bool (decide (a ≤ n ∧ n ≤ b))) ∧ w = w' := by
  by_cases h : a ≤ n ∧ n ≤ b
  · rw [decide_eq_true h]; exact in_yes n a b w h.1 h.2
  · rw [decide_eq_false h]; exact in_no n a b w h
open Classical in
noncomputable def madeR (ls : List (List Int)) (n : Int) : Value := if 1 ≤ n ∧ n ≤ 16 ∧ goodC n.toNat ls then .tuple #[.agg (av (outP n.toNat (ls.flatMap prs))), .bool true] else .tuple #[.agg (av fun _ => 0), .bool false]

-- left out here: loop.example/g01200/spec.l01Made
-- left out here: loop.example/g01200/spec.PlacesOfCycles
end Go.Proofs.Ytpkfjdaedaplfaa

namespace Go.Proofs.Ytpkfjdaedaplfaa
open Go.RowKit
theorem wr64 {x : Int} (h1 : -9223372036854775808 ≤ x) (h2 : x ≤ 9223372036854775807) : wrap64 x = x := by
  unfold wrap64; omega
theorem wr64k {x : Int} (h1 : -9223372036854775808 ≤ x) (h2 : x ≤ 9223372036854775807) : IntKind.i64.wrap x = x := by
  rw [IntKind.wrap_i64]; omega
theorem wr8k {x : Int} (h1 : 0 ≤ x) (h2 : x < 256) : IntKind.u8.wrap x = x := by
  rw [IntKind.wrap_u8]; omega
end Go.Proofs.Ytpkfjdaedaplfaa

namespace Go.Proofs.Ytpkfjdaedaplfaa
open Go.RowKit

/-- n numbers, all in a range -/
def lstB (l : List Int) (n a b : Int) : Bool := (l.all fun x => decide (a ≤ x ∧ x ≤ b)) && ((l.length : Int) == n)
theorem lstB_true {l : List Int} {n a b : Int} (h : lstB l n a b = true) : (l.length : Int) = n ∧ ∀ x ∈ l, a ≤ x ∧ x ≤ b := by
  unfold lstB at h
  rw [Bool.and_eq_true] at h
  obtain ⟨h1, h2⟩ := h
  rw [List.all_eq_true] at h1
  exact ⟨by simpa using h2, fun x hx => by simpa using h1 x hx⟩
theorem lstB_bad {l : List Int} {n a b : Int} {i : Nat} (hi : i < l.length) (h : ¬ (a ≤ l[i] ∧ l[i] ≤ b)) : lstB l n a b = false := by
  unfold lstB
  have : (l.all fun x => decide (a ≤ x ∧ x ≤ b)) = false := by
    rw [List.all_eq_false]
    exact ⟨l[i], List.getElem_mem _, by simpa using h⟩
  rw [this, Bool.false_and]
theorem lstB_good {l : List Int} {n a b : Int} (h : ∀ i (hi : i < l.length), a ≤ l[i] ∧ l[i] ≤ b) : lstB l n a b = ((l.length : Int) == n) := by
  unfold lstB
  have : (l.all fun x => decide (a ≤ x ∧ x ≤ b)) = true := by
    rw [List.all_eq_true]
    intro x hx
    obtain ⟨i, hi, rfl⟩ := List.getElem_of_mem hx
    simpa using h i hi
  rw [this, Bool.true_and]
-- left out here: loop.example/g01200/impl.areNumbersIn
-- left out here: loop.example/g01200/spec.l09List
/-- the sum of the numbers at some places -/
def sm9 (l : List Int) (c : List Nat) : Int := (c.map fun x => l.getD x 0).sum
theorem sm9_nil (l : List Int) : sm9 l [] = 0 := rfl
theorem sm9_snoc (l : List Int) (c : List Nat) (x : Nat) : sm9 l (c ++ [x]) = sm9 l c + l.getD x 0 := by unfold sm9; simp
theorem sm9_take (l : List Int) (c : List Nat) {i : Nat} (h : i < c.length) : sm9 l (c.take (i + 1)) = sm9 l (c.take i) + l.getD c[i] 0 := by
  rw [List.take_succ_eq_append_getElem h, sm9_snoc]
theorem sm9_bound {l : List Int} {K : Int} (hK : 0 ≤ K) (hs : ∀ x ∈ l, -K ≤ x ∧ x ≤ K) (c : List Nat) : -(K * c.length) ≤ sm9 l c ∧ sm9 l c ≤ K * c.length := by
  have one : ∀ x, -K ≤ l.getD x 0 ∧ l.getD x 0 ≤ K := fun x => by
    rw [List.getD_eq_getElem?_getD]
    rcases h : l[x]? with _ | y
    · simp; omega
    · exact hs y (List.mem_of_getElem? h)
  induction c with
  | nil => simp [sm9]
  | cons x c ih =>
    have h1 := one x
    have : sm9 l (x :: c) = l.getD x 0 + sm9 l c := rfl
    rw [this, List.length_cons, Int.natCast_add, Int.mul_add]
    omega
theorem zs9_get {c : List Nat} {i : Nat} (h : i < c.length) (h' : i < (zs9 c).length) : (zs9 c)[i] = ((c[i] : Nat) : Int) := by simp [zs9]
-- left out here: loop.example/g01200/impl.sumAt
end Go.Proofs.Ytpkfjdaedaplfaa

namespace Go.Proofs.Ytpkfjdaedaplfaa
open Go.RowKit

def pZ9 (v : Value) (l : List Int) : Part := pRow v 2 1 l.length (zc l)
theorem Holds.ownZ9 {w0 w : World} {L : List Part} (h : Holds w0 w L) (i : Nat) {v : Value} {l : List Int} (hi : L[i]? = some (pZ9 v l)) : OwnZ w0.heap.size w v l := h.row i hi
theorem Holds.rdZ9 {w0 w : World} {L : List Part} (h : Holds w0 w L) (i : Nat) {v : Value} {l : List Int} (hi : L[i]? = some (pZ9 v l)) (hl : l.length ≤ 1000000) : RdZ w v l := OwnZ.rd (h.ownZ9 i hi) (by omega)
theorem zc_one {l : List Int} : ∀ u ∈ zc l, u.oneCell' = true := by
  intro u hu
  obtain ⟨x, _, rfl⟩ := List.mem_map.1 hu
  rfl
theorem pInts_pZ9 (v : Value) (l : List Nat) : pInts v l = pZ9 v (zs9 l) := by unfold pInts pZ9; rw [zs9_length, zc_zs9]
theorem set_same9 {α : Type _} {l : List α} {i : Nat} {a : α} (h : l[i]? = some a) : l.set i a = l := by
  apply List.ext_getElem?
  intro j
  rw [List.getElem?_set]
  split
  · rename_i e; subst e
    obtain ⟨h1, h2⟩ := List.getElem?_eq_some_iff.1 h
    rw [if_pos h1, h]
  · rfl
theorem run_append_none9 {w : World} (t ty e : TypeId) (i : TypeInfo) (ht : Try.prog.underlying t = some (.slice e)) (hi : Try.prog.info? e = some i) (A : Option Addr) (n c m : Nat) (h : n ≤ c) :
    (Builtin.append_ #[t, t] ty #[.slice A n c, .slice none 0 m]).run Try.prog w = .ok (.slice A n c) w := by
  cases A <;> simp [Builtin.append_, run_underlying ht, sizeOf, typeInfo, hi, Builtin.lenOf, Builtin.firstCells, h, storeCells]
/-- the numbers of a list that reads, behind a list of one's own -/
theorem run_appZ9 {w0 w : World} {L : List Part} (ty : TypeId) (H : Holds w0 w L) (k : Nat) {v : Value} {l : List Int} (hk : L[k]? = some (pZ9 v l)) {u : Value} {m : List Int} (hu : RdZ w u m) (hb : l.length + m.length ≤ 100000) :
    ∃ v' w', (Builtin.append_ #[79, 79] ty #[v, u]).run Try.prog w = .ok v' w' ∧ Holds w0 w' (L.set k (pZ9 v' (l ++ m))) := by
  obtain ⟨i0, hi, hz0, hz1, hz2⟩ := info_parts info64
  obtain ⟨A, c, rfl, _, hc⟩ := hu
  rcases A with _ | a
  · have hm : m = [] := by
      rcases m with _ | ⟨x, m⟩
      · rfl
      · obtain ⟨a, e, _⟩ := hc 0 x rfl; cases e
    subst hm
    have hv : ∃ A c, v = .slice A l.length c ∧ l.length ≤ c := by
      rcases (H.row k hk).2 with ⟨rfl, e⟩ | ⟨g, cap, cur, rfl, _, _, h1, _⟩
      · exact ⟨none, 0, by rw [e], by omega⟩
      · exact ⟨_, cap, rfl, h1⟩
    obtain ⟨A, c', rfl, hc'⟩ := hv
    refine ⟨_, w, run_append_none9 _ _ _ i0 Try.underlying79 hi A l.length c' c hc', ?_⟩
    rw [List.append_nil, set_same9 hk]
    exact H
  · obtain ⟨v', w', hr, h2, _⟩ := run_appH (P := Try.prog) 79 ty 2 i0 (.int .i64 0) 1 8 Try.underlying79 hi hz0 hz1 hz2 rfl (by decide) v l.length (zc l) H k hk a m.length c (zc m) (by rw [zc_length]; omega) (fun j y hj => by
      rw [zc_get] at hj
      rcases hm : m[j]? with _ | x
      · rw [hm] at hj; cases hj
      · rw [hm] at hj
        obtain ⟨a', e, _, h3⟩ := hc j x hm
        obtain rfl : a = a' := Option.some.inj e
        simp only [Option.map_some, Option.some.injEq] at hj
        rw [← hj]; exact h3) zc_one (by unfold maxLen; omega) (by omega)
    refine ⟨v', w', hr, ?_⟩
    unfold pZ9 at *
    have e : zc (l ++ m) = zc l ++ zc m := by unfold zc; simp
    rw [List.length_append, e]
    exact h2
theorem appZ9 {ops : Array Oper} {rest : List Oper} {o : Oper} {a : Act} {Q : Exit → Act → World → Prop} {w0 w : World} {L : List Part} (H : Holds w0 w L) (k : Nat) {v : Value} {l : List Int} (hk : L[k]? = some (pZ9 v l)) {u : Value} {m : List Int} (hu : RdZ w u m) (hb : l.length + m.length ≤ 100000)
    (hgd : o.guard = none) (s x : Operand) (ho : o.op = .call { callee := .builtin .append, args := #[s, x], argTypes := #[79, 79] }) (hs : a.eval s = v) (hx : a.eval x = u)
    (h : ∀ v' w', Holds w0 w' (L.set k (pZ9 v' (l ++ m))) → wpList Try.prog ops Q rest (a.put o.dst v') w') : wpList Try.prog ops Q (o :: rest) a w := by
  obtain ⟨v', w', hr, h2⟩ := run_appZ9 o.type H k hk hu hb
  refine wpList_plain hgd fun _ hK => ?_
  unfold Oper.wp
  rw [exec_append ho hs hx hr]
  exact hK _ _ (h _ _ h2)
/-- zeros behind nothing -/
theorem run_app0_9 {w : World} (ty : TypeId) (n : Nat) (h0 : 0 < n) (hn : n ≤ 100000) :
    ∃ g c cur, (Builtin.append_ #[79, 3] ty #[.slice none 0 0, .int .i64 n]).run Try.prog w = .ok (.slice (some ⟨g, 0, none⟩) n c) (w.drew.alloc (.cells cur 2)) ∧ g = w.heap.size ∧ n ≤ c ∧ c ≤ maxLen ∧ cur.size = c := by
  obtain ⟨i0, hi, hz0, hz1, hz2⟩ := info_parts info64
  have h63 : ¬ (9223372036854775807 < (n : Int)) := by omega
  have hw : IntKind.i64.wrap (n : Int) = n := wr64k (by omega) (by omega)
  have h48 : ¬ (281474976710656 < Builtin.nextslicecap n 0 * 8) := by rw [nextslicecap_zero h0]; omega
  have hge := grownCap_ge w n 0 2
  have hcm := grownCap_le_maxLen w n 0 2 (by unfold maxLen; omega)
  have hz : (Value.int .i64 0).cells = #[Value.int .i64 0] := rfl
  refine ⟨w.heap.size, grownCap w n 0 2, Builtin.zeroCells #[Value.int .i64 0] n ++ Builtin.zeroCells #[Value.int .i64 0] (grownCap w n 0 2 - n), ?_, rfl, hge, hcm, ?_⟩
  · have hn0 : ¬ (n = 0) := by omega
    have hneg : ¬ ((n : Int) < 0) := by omega
    have h48' : ¬ (281474976710656 < (n : Int) * 8) := by omega
    simp [Builtin.append_, run_underlying Try.underlying79, run_underlying Try.underlying3, sizeOf, typeInfo, zeroValue, hi, hz0, hz1, hz2, h63, h48, h48', hn0, hneg, hw, asInt, asIntOf, hz, Question.forced, newRow, grownCap, Builtin.firstCells]
  · simp [size_zeroCells]; omega
theorem exec_append2 {P : Program} {w : World} {o : Oper} {a : Act} {s x : Operand} {t t' : TypeId} (ho : o.op = .call { callee := .builtin .append, args := #[s, x], argTypes := #[t, t'] }) {v v' u : Value} {w' : World} (hs : a.eval s = v) (hx : a.eval x = u)
    (hr : (Builtin.append_ #[t, t'] o.type #[v, u]).run P w = .ok v' w') : (execOp a.eval o).run P w = .ok (.value v') w' := by
  unfold execOp
  simp only [ho, resolve, invoke, builtin, Sem.run_bind, Sem.run_pure, Result.andThen_ok, List.map_toArray, List.map_cons, List.map_nil, hs, hx, hr]
theorem app0_9 {ops : Array Oper} {rest : List Oper} {o : Oper} {a : Act} {Q : Exit → Act → World → Prop} {w : World} (n : Nat) (h0 : 0 < n) (hn : n ≤ 100000)
    (hgd : o.guard = none) (s x : Operand) (ho : o.op = .call { callee := .builtin .append, args := #[s, x], argTypes := #[79, 3] }) (hs : a.eval s = .slice none 0 0) (hx : a.eval x = .int .i64 n)
    (h : ∀ c w', n ≤ c → Holds w w' [pZ9 (.slice (some ⟨w.heap.size, 0, none⟩) 0 c) []] → wpList Try.prog ops Q rest (a.put o.dst (.slice (some ⟨w.heap.size, 0, none⟩) n c)) w') : wpList Try.prog ops Q (o :: rest) a w := by
  obtain ⟨g, c, cur, hr, rfl, h1, h2, h3⟩ := run_app0_9 (w := w) o.type n h0 hn
  refine wpList_plain hgd fun _ hK => ?_
  unfold Oper.wp
  rw [exec_append2 ho hs hx hr]
  have HB : Below w.heap.size w (w.drew.alloc (.cells cur 2)) := ⟨rfl, rfl, rfl, by simp, fun k hk => heap_past w.drew _ k hk⟩
  refine hK _ _ (h c (w.drew.alloc (.cells cur 2)) h1 ?_)
  refine (Holds.start w).new HB _ ?_ fun k hk => ?_
  · exact ⟨rfl, .inr ⟨w.heap.size, c, cur, rfl, Nat.zero_le _, heap_alloc_new w.drew _, Nat.zero_le _, h2, by omega, by simp [zc]⟩⟩
  · have : w.heap.size = k := by simpa [pZ9, pRow, Value.ownBlock] using hk
    omega
set_option maxRecDepth 100000 in
set_option maxHeartbeats 1000000 in
theorem grow_any9 (n : Nat) (hn : n ≤ 100000) (w : World) :
    Calls Try.prog 140 #[.slice none 0 0, .int .i64 n] w fun e w' => ∃ v, e = .returned v ∧ Holds w w' [pZ9 v []] := by
  have hneg : ¬ ((n : Int) < 0) := by omega
  rcases Nat.eq_zero_or_pos n with rfl | h0
  · go_enter Try.func140, Try.ntmps140
    go_wp2
    go_ret
    exact ⟨_, rfl, (Holds.start w).nilRow 2 1⟩
  · have hpos : (0 : Int) < (n : Int) := by omega
    have w1 : wrap64 (n : Int) = n := wr64 (by omega) (by omega)
    go_enter Try.func140, Try.ntmps140
    go_wp2_with (at_builtin; refine app0_9 n h0 hn rfl _ _ rfl rfl rfl ?_)
    intro c w' hc h1
    have hc0 : (0 : Int) ≤ c := by omega
    have hc1 : ¬ ((c : Int) < 0) := by omega
    go_wp2
    go_ret
    exact ⟨_, rfl, h1⟩
def flat9 (ls : List (List Int)) : List Int := ls.flatten
theorem flat9_take (ls : List (List Int)) {i : Nat} (h : i < ls.length) : flat9 (ls.take (i + 1)) = flat9 (ls.take i) ++ ls[i] := by
  unfold flat9
  rw [List.take_succ_eq_append_getElem h, List.flatten_append]
  simp
theorem flat9_len (ls : List (List Int)) : (flat9 ls).length = totZ ls := by unfold flat9 totZ; rw [List.length_flatten]
set_option maxRecDepth 100000 in
set_option maxHeartbeats 2000000 in
theorem concat_any9 (v : Value) (ls : List (List Int)) (hn : totZ ls ≤ 10000) (hl : ls.length ≤ 10000) (w : World) (hv : RdZ2 w v ls) :
    Calls Try.prog 138 #[v] w fun e w' => ∃ u, e = .returned u ∧ Holds w w' [pZ9 u (flat9 ls)] := by
  obtain ⟨A, c, rfl, _⟩ := hv.form
  have HV := hide hv; clear hv
  have hbig : totZ ls < 9223372036854775807 := by omega
  go_enter Try.func138, Try.ntmps138
  go_wp2
  go_loopw [3, 11] (fun s t wr => ∃ i : Nat, i ≤ ls.length ∧ t = .int .i64 i ∧ s = .int .i64 (totZ (ls.take i) : Nat) ∧ w = wr) (fun _ t _ => ls.length - (intOf t).toNat)
  case atStart => exact ⟨0, Nat.zero_le _, rfl, rfl, rfl⟩
  case round =>
    obtain ⟨i, hi, rfl, rfl, rfl⟩ := hrel
    have ht := totZ_take_le ls i
    by_cases hlt : i < ls.length
    · obtain ⟨g, A', c', rfl, h1, h2⟩ := HV.out.at hlt
      have hts := totZ_take_succ ls i hlt
      have htl := totZ_take_le ls (i + 1)
      rw [hts] at htl
      have HT := hide hts; clear hts h2
      generalize totZ (ls.take i) = t0 at *
      generalize ls[i].length = n1 at *
      have hng : ¬ (((t0 : Int) + (n1 : Int)) < 0) := by omega
      go_wp2
      go_roundw
      case rel => exact ⟨i + 1, by omega, by go_num, by rw [HT.out]; go_num, by trivial⟩
      case measure => simp [intOf]; omega
    · obtain rfl : i = ls.length := by omega
      rw [List.take_length] at ht ⊢
      have CG := hide fun w => grow_any9 (totZ ls) (by omega) w
      have hfl := fun k => flat9_len (ls.take k)
      have HFL := hide hfl; clear hfl hlt hi ht
      go_wp2_with fail
      refine (CG.out _).mono ?_
      rintro e w1 ⟨u1, rfl, H1⟩
      clear CG
      go_wp2
      go_loopw [6, 27] (fun q t wr => ∃ i : Nat, i ≤ ls.length ∧ t = .int .i64 i ∧ Holds w wr [pZ9 q (flat9 (ls.take i))]) (fun _ t _ => ls.length - (intOf t).toNat)
      case atStart => exact ⟨0, Nat.zero_le _, rfl, H1⟩
      case round =>
        clear H1
        obtain ⟨i, hi, rfl, hH⟩ := hrel
        by_cases hlt : i < ls.length
        · obtain ⟨g, A', c', rfl, h1, h2⟩ := (HV.out.below hH.low (Nat.le_refl _)).at hlt
          have hfl := flat9_take ls hlt
          have hle := HFL.out i
          have hle2 := HFL.out (i + 1)
          have hle3 := totZ_take_le ls (i + 1)
          rw [hfl, List.length_append] at hle2
          have HF := hide hfl; clear hfl
          have HB := hide (show (flat9 (ls.take i)).length + ls[i].length ≤ 100000 by omega)
          clear hle hle2 hle3
          obtain ⟨A2, c2, rfl⟩ := own_slice (hH.row 0 rfl)
          generalize flat9 (ls.take i) = fl at *
          have RD := hide h2; clear h2
          generalize ls[i] = li at *
          go_wp2_with (at_builtin; refine appZ9 hH 0 rfl RD.out HB.out rfl _ _ rfl rfl rfl ?_)
          intro v' w' h5
          have HQ := hide h5
          clear h5 hH h1
          go_wp2
          go_roundw
          case rel => exact ⟨i + 1, by omega, by go_num, by rw [HF.out]; exact HQ.out⟩
          case measure => simp [intOf]; omega
        · obtain rfl : i = ls.length := by omega
          rw [List.take_length] at hH
          clear hlt hi
          go_wp2
          go_ret
          exact ⟨_, rfl, hH⟩
end Go.Proofs.Ytpkfjdaedaplfaa

namespace Go.Proofs.Ytpkfjdaedaplfaa.Rd
open Go.RowKit

section
variable (P : Program) (md : Region.Mode) (ops : Array Oper) (C : World → Prop) (E : Nat → Bool) (K : Act → World → Prop)

def uponE (R : Value → World → Prop) (w : World) : Result Next → Prop
  | .ok (.value u) w' => C w' ∧ R u w'
  | .ok .skip w' => C w' ∧ R undef w'
  | .ok (.enter f args) w' => w' = w ∧ Calls P f args w (fun e w'' => ∃ v, e = .returned v ∧ C w'' ∧ R v w'')
  | _ => False

/-- one operation, and what follows -/
def opV (i : Nat) (N : Act → (World → Prop) → Prop) (a : Act) (D : World → Prop) : Prop :=
  match ops[i]? with
  | none => N a D
  | some o =>
    if Region.wanted o (yielded ops a.tmps) then
      if E i = true then ∃ R : Value → World → Prop, (∀ v, Stable (R v)) ∧ (∀ w, C w → D w → uponE P C R w ((execOp a.eval o).run P w)) ∧ ∀ v, (∃ w, C w ∧ R v w) → N (a.put o.dst v) (R v)
      else ∃ v, (∀ w, C w → atG P o a w v) ∧ N (a.put o.dst v) D
    else N (a.put o.dst undef) D

theorem opV_mono {i : Nat} {N N' : Act → (World → Prop) → Prop} {a : Act} {D : World → Prop} (h : ∀ a D, N a D → N' a D) (hh : opV P ops C E i N a D) : opV P ops C E i N' a D := by
  unfold opV at *
  split
  · rename_i ho; simp only [ho] at hh; exact h _ _ hh
  · rename_i o ho
    simp only [ho] at hh
    split
    · rename_i hw
      rw [if_pos hw] at hh
      split
      · rename_i hR; rw [if_pos hR] at hh; obtain ⟨R, h0, h1, h2⟩ := hh; exact ⟨R, h0, h1, fun v hv => h _ _ (h2 v hv)⟩
      · rename_i hR
        rw [if_neg hR] at hh
        obtain ⟨v, h1, h2⟩ := hh; exact ⟨v, h1, h _ _ h2⟩
    · rename_i hw; rw [if_neg hw] at hh; exact h _ _ hh

/-- whatever order is picked -/
def anyV : Nat → Array Bool → Act → (World → Prop) → Prop
  | 0, done, a, D => Region.ready md ops done = [] ∧ ∀ w, C w → D w → K a w
  | f + 1, done, a, D => (Region.ready md ops done = [] → ∀ w, C w → D w → K a w) ∧ ∀ i ∈ Region.ready md ops done, opV P ops C E i (anyV f (done.setIfInBounds i true)) a D

theorem op_sound (hC : ∀ w w', C w → Below w.heap.size w w' → C w') {i : Nat} {N : Act → (World → Prop) → Prop} {K' : Act → World → Prop} {Q : Exit → Act → World → Prop} {a : Act} {D : World → Prop} {w : World} (hD : Stable D) (hw : C w) (hDw : D w)
    (hN : ∀ a D w, Stable D → C w → D w → N a D → K' a w) (h : opV P ops C E i N a D) : wpOp P ops Q i K' a w := by
  unfold opV at h
  unfold wpOp
  split
  · rename_i ho; simp only [ho] at h; exact hN _ _ _ hD hw hDw h
  · rename_i o ho
    simp only [ho] at h
    split
    · rename_i hwa
      rw [if_pos hwa] at h
      refine .inl ?_
      unfold Oper.wp
      rcases hEi : E i with _ | _
      · rw [if_neg (by simp [hEi])] at h
        obtain ⟨v, h1, h2⟩ := h
        have h3 := h1 w hw
        unfold atG at h3
        generalize (execOp a.eval o).run P w = r at *
        cases r with
        | ok n w' =>
          cases n <;> simp only [uponG] at h3 <;> simp only [Oper.upon]
          case value u => obtain ⟨e1, e2⟩ := h3; rw [e1, e2]; exact hN _ _ _ hD hw hDw h2
          case skip => obtain ⟨e1, e2⟩ := h3; rw [e1, ← e2]; exact hN _ _ _ hD hw hDw h2
          case enter f args => obtain ⟨e1, hc⟩ := h3; rw [e1]; exact hc.mono fun e w'' ⟨he, hb⟩ => by subst he; exact hN _ _ _ hD (hC _ _ hw hb) (hD _ _ hDw hb) h2
        | halt x w' => simp only [uponG] at h3
      · rw [if_pos hEi] at h
        obtain ⟨R, hE, h⟩ := h
        have h3 := h.1 w hw hDw
        generalize (execOp a.eval o).run P w = r at *
        cases r with
        | ok n w' =>
          cases n <;> simp only [uponE] at h3 <;> simp only [Oper.upon]
          case value u => exact hN _ _ _ (hE u) h3.1 h3.2 (h.2 u ⟨_, h3⟩)
          case skip => exact hN _ _ _ (hE undef) h3.1 h3.2 (h.2 undef ⟨_, h3⟩)
          case enter f args =>
            obtain ⟨e1, hc⟩ := h3
            rw [e1]
            refine hc.mono ?_
            rintro e w'' ⟨v, he, hb, hr⟩
            subst he
            exact hN _ _ _ (hE v) hb hr (h.2 v ⟨_, hb, hr⟩)
        | halt x w' => simp only [uponE] at h3
    · rename_i hwa; rw [if_neg hwa] at h; exact hN _ _ _ hD hw hDw h

theorem anyV_any (hC : ∀ w w', C w → Below w.heap.size w w' → C w') {Q : Exit → Act → World → Prop} (hQ : ∀ a w, K a w → Q .normal a w) (f : Nat) : ∀ (done : Array Bool) (a : Act) (D : World → Prop) (w : World), Stable D → C w → D w →
    anyV P md ops C E K f done a D → wpAny P md ops Q f done a w := by
  induction f with
  | zero => intro done a D w _ hw hDw h; exact ⟨h.1, hQ _ _ (h.2 w hw hDw)⟩
  | succ f ih =>
    intro done a D w hD hw hDw h
    exact ⟨fun e => hQ _ _ (h.1 e w hw hDw), fun i hi => op_sound P ops C E hC hD hw hDw (fun a' D' w' h1 h2 h3 h4 => ih _ a' D' w' h1 h2 h3 h4) (h.2 i hi)⟩

def YieldsG (o : Oper) (v : Value) (a : Act) : Prop :=
  (Region.wanted o (yielded ops a.tmps) = true ∧ ∀ w, C w → atG P o a w v) ∨ (Region.wanted o (yielded ops a.tmps) = false ∧ v = undef)

theorem YieldsG.op {i : Nat} {o : Oper} {v : Value} {a : Act} {D : World → Prop} (hi : ops[i]? = some o) (hE : E i = false) (hy : YieldsG P ops C o v a) {N : Act → (World → Prop) → Prop} (h : N (a.put o.dst v) D) : opV P ops C E i N a D := by
  unfold opV
  simp only [hi, hE, Bool.false_eq_true, if_false]
  rcases hy with ⟨hw, hv⟩ | ⟨hw, rfl⟩
  · rw [if_pos hw]; exact ⟨v, hv, h⟩
  · rw [if_neg (by simp [hw])]; exact h

theorem yieldsG_of {i : Nat} {o : Oper} {a : Act} {D : World → Prop} {N : Act → (World → Prop) → Prop} (hi : ops[i]? = some o) (hE : E i = false) (h : opV P ops C E i N a D) : ∃ v, YieldsG P ops C o v a ∧ N (a.put o.dst v) D := by
  unfold opV at h
  simp only [hi, hE, Bool.false_eq_true, if_false] at h
  by_cases hw : Region.wanted o (yielded ops a.tmps) = true
  · rw [if_pos hw] at h
    obtain ⟨v, h1, h2⟩ := h
    exact ⟨v, .inl ⟨hw, h1⟩, h2⟩
  · rw [if_neg hw] at h
    exact ⟨undef, .inr ⟨by simpa using hw, rfl⟩, h⟩

theorem opV_put {j : Nat} {oi oj : Oper} {v : Value} (hj : ops[j]? = some oj) (hap : oi.apart ops oj = true) (hsi : ∀ cs b, oi.op ≠ .select cs b) (hsj : ∀ cs b, oj.op ≠ .select cs b)
    {N : Act → (World → Prop) → Prop} {a : Act} {D : World → Prop} (hy : YieldsG P ops C oi v a) (h : opV P ops C E j N (a.put oi.dst v) D) :
    opV P ops C E j (fun a' D' => YieldsG P ops C oi v a' ∧ N (a'.put oi.dst v) D') a D := by
  obtain ⟨h1, h2, h3⟩ := Oper.apart_spec hap
  have keep : ∀ u, YieldsG P ops C oi v (a.put oj.dst u) := fun u => by
    have e1 := execOp_put oi hsi a oj.dst u h3
    have e2 := wanted_put oi a oj.dst u h3
    unfold YieldsG atG at *
    rw [e1, e2]; exact hy
  unfold opV at *
  simp only [hj] at *
  rw [wanted_put oj a oi.dst v h1, execOp_put oj hsj a oi.dst v h1] at h
  have ep : ∀ u, (a.put oj.dst u).put oi.dst v = (a.put oi.dst v).put oj.dst u := fun u => (Act.put_comm a v u h2).symm
  by_cases hw : Region.wanted oj (yielded ops a.tmps) = true
  · rw [if_pos hw] at h ⊢
    rcases hE : E j with _ | _
    · simp only [hE, Bool.false_eq_true, if_false] at h ⊢
      obtain ⟨u, k1, k2⟩ := h
      refine ⟨u, fun w hg => ?_, keep _, by rw [ep]; exact k2⟩
      have := k1 w hg
      unfold atG at *
      rwa [execOp_put oj hsj a oi.dst v h1] at this
    · simp only [hE, if_true] at h ⊢
      obtain ⟨R, h0, h⟩ := h
      exact ⟨R, h0, h.1, fun u hu => ⟨keep _, by rw [ep]; exact h.2 u hu⟩⟩
  · rw [if_neg hw] at h ⊢
    exact ⟨keep _, by rw [ep]; exact h⟩

theorem anyV_first {i : Nat} {o : Oper} {v : Value} (hi : ops[i]? = some o) (hE : E i = false) (hsel : ∀ (j : Nat) (o : Oper) cs b, ops[j]? = some o → o.op ≠ .select cs b) (f : Nat) :
    ∀ (done : Array Bool) (a : Act) (D : World → Prop),
      (∀ j oj, ops[j]? = some oj → j ≠ i → done.getD j true = false → (∀ e ∈ oj.after, Region.binds md e = true → e.on ≠ i) → o.apart ops oj = true) →
      i ∈ Region.ready md ops done → YieldsG P ops C o v a →
      anyV P md ops C E K f (done.setIfInBounds i true) (a.put o.dst v) D → anyV P md ops C E K (f + 1) done a D := by
  induction f with
  | zero =>
    intro done a D _ hr hy H
    refine ⟨fun e => (by rw [e] at hr; cases hr), fun j hj => ?_⟩
    by_cases e : j = i
    · subst e; exact hy.op P ops C E hi hE H
    · have := ready_mono hj e
      rw [H.1] at this; cases this
  | succ f ih =>
    intro done a D hfree hr hy H
    refine ⟨fun e => (by rw [e] at hr; cases hr), fun j hj => ?_⟩
    by_cases e : j = i
    · subst e; exact hy.op P ops C E hi hE H
    · obtain ⟨hjun, oj, hoj, hall⟩ := mem_ready.1 hj
      have hun := (mem_ready.1 hr).1
      have hno : ∀ e ∈ oj.after, Region.binds md e = true → e.on ≠ i := fun e he hb h => by
        have := hall e he hb
        rw [h, getD_both hun] at this
        cases this
      refine opV_mono P ops C E (fun a' D' h3 => ih (done.setIfInBounds j true) a' D' (fun k' ok hk hki hk' hnk => hfree k' ok hk hki ?_ hnk) (ready_mono hr (Ne.symm e)) h3.1 ?_)
        (opV_put P ops C E hoj (hfree j oj hoj e hjun hno) (fun cs b => hsel i o cs b hi) (fun cs b => hsel j oj cs b hoj) hy (H.2 j (ready_mono hj e)))
      · by_cases e' : j = k'
        · subst e'; exact hjun
        · rw [getD_set_ne true e'] at hk'; exact hk'
      · rw [Array.setIfInBounds_comm _ _ e]; exact h3.2

def walkV : Plan → Act → (World → Prop) → Prop
  | .fin, a, D => ∀ w, C w → D w → K a w
  | .q k p, a, D => opV P ops C E k (walkV p) a D
  | .s1 k p, a, D => opV P ops C E k (walkV p) a D
  | .s2 k1 p1 k2 p2, a, D => opV P ops C E k1 (walkV p1) a D ∧ opV P ops C E k2 (walkV p2) a D
  | .s3 k1 p1 k2 p2 k3 p3, a, D => opV P ops C E k1 (walkV p1) a D ∧ opV P ops C E k2 (walkV p2) a D ∧ opV P ops C E k3 (walkV p3) a D

theorem anyV_walk (hsel : Region.noSelect ops = true) (sp : List Nat) (hsp : ∀ k, sp.contains k = false → E k = false) (p : Plan) :
    ∀ (f : Nat) (done : Array Bool) (a : Act) (D : World → Prop), planB md ops sp f p done = true → walkV P ops C E K p a D → anyV P md ops C E K f done a D := by
  induction p with
  | fin =>
    intro f done a D hB h
    cases f with
    | zero => exact ⟨by simpa [planB] using hB, h⟩
    | succ f =>
      have e : Region.ready md ops done = [] := by simpa [planB] using hB
      exact ⟨fun _ => h, fun i hi => by rw [e] at hi; cases hi⟩
  | q k p ih =>
    intro f done a D hB h
    cases f with
    | zero => simp [planB] at hB
    | succ f =>
      simp only [planB, Bool.and_eq_true, decide_eq_true_eq, Bool.not_eq_true'] at hB
      obtain ⟨hc, ⟨hr, hfree⟩, hk, hB'⟩ := hB
      have hE := hsp k hc
      have hi : ops[k]? = some ops[k] := Array.getElem?_eq_getElem hk
      obtain ⟨v, hy, hK⟩ := yieldsG_of P ops C E hi hE h
      exact anyV_first P md ops C E K hi hE (Region.noSelect_spec hsel) f done a D (Region.free_spec hi hfree) (by simpa using hr) hy (ih _ _ _ _ hB' hK)
  | s1 k p ih =>
    intro f done a D hB h
    cases f with
    | zero => simp [planB] at hB
    | succ f =>
      simp only [planB, Bool.and_eq_true, decide_eq_true_eq] at hB
      obtain ⟨hr, hB'⟩ := hB
      refine ⟨fun e => (by rw [hr] at e; cases e), fun i hi => ?_⟩
      rw [hr] at hi
      obtain rfl : i = k := by simpa using hi
      exact opV_mono P ops C E (fun a' D' h' => ih _ _ _ _ hB' h') h
  | s2 k1 p1 k2 p2 ih1 ih2 =>
    intro f done a D hB h
    cases f with
    | zero => simp [planB] at hB
    | succ f =>
      simp only [planB, Bool.and_eq_true, decide_eq_true_eq] at hB
      obtain ⟨hr, hB1, hB2⟩ := hB
      refine ⟨fun e => (by rw [hr] at e; cases e), fun i hi => ?_⟩
      rw [hr] at hi
      simp only [List.mem_cons, List.not_mem_nil, or_false] at hi
      rcases hi with rfl | rfl
      · exact opV_mono P ops C E (fun a' D' h' => ih1 _ _ _ _ hB1 h') h.1
      · exact opV_mono P ops C E (fun a' D' h' => ih2 _ _ _ _ hB2 h') h.2
  | s3 k1 p1 k2 p2 k3 p3 ih1 ih2 ih3 =>
    intro f done a D hB h
    cases f with
    | zero => simp [planB] at hB
    | succ f =>
      simp only [planB, Bool.and_eq_true, decide_eq_true_eq] at hB
      obtain ⟨hr, hB1, hB2, hB3⟩ := hB
      refine ⟨fun e => (by rw [hr] at e; cases e), fun i hi => ?_⟩
      rw [hr] at hi
      simp only [List.mem_cons, List.not_mem_nil, or_false] at hi
      rcases hi with rfl | rfl | rfl
      · exact opV_mono P ops C E (fun a' D' h' => ih1 _ _ _ _ hB1 h') h.1
      · exact opV_mono P ops C E (fun a' D' h' => ih2 _ _ _ _ hB2 h') h.2.1
      · exact opV_mono P ops C E (fun a' D' h' => ih3 _ _ _ _ hB3 h') h.2.2
end

/-- a region by parts of memory: w0, L what the class holds; L1 what stands at the start beside it -/
theorem region_P {P : Program} {id : Nat} {Q : Exit → Act → World → Prop} {a : Act} {w w0 : World} {l : List Oper} (L : List Part) (L1 : List Part) (sp : List Nat) (p : Plan) (H : Holds w0 w L1) (hL : L.Sublist L1)
    (hm : P.follows .mixedOrders = true)
    (hsel : Region.noSelect l.toArray = true) (hB : planB .any l.toArray sp l.toArray.size p (Array.replicate l.toArray.size false) = true) 
    (h : walkV P l.toArray (fun wx => Holds w0 wx L) (fun k => sp.contains k) (fun a' w' => Q .normal a' w') p a (fun wx => Holds w0 wx L1)) : (Code.region id l.toArray true).wp P Q a w := by
  refine wp_region_any hm ?_
  exact anyV_any (Q := Q) P .any l.toArray (fun wx => Holds w0 wx L) (fun k => sp.contains k) (fun a' w' => Q .normal a' w') (fun _ _ h hb => h.call hb) (fun _ _ h => h) _ _ _ _ w.drew (fun _ _ h hb => h.call hb) (H.drew.sub hL) H.drew
    (anyV_walk P .any l.toArray (fun wx => Holds w0 wx L) (fun k => sp.contains k) (fun a' w' => Q .normal a' w') hsel sp (fun _ h => h) p _ _ a _ hB h)

section
variable {P : Program} {ops : Array Oper} {C : World → Prop} {E : Nat → Bool} {k : Nat} {a : Act} {D : World → Prop} {N : Act → (World → Prop) → Prop}
theorem v_q {o : Oper} (ho : ops[k]? = some o) (hE : E k = false) (hw : Region.wanted o (yielded ops a.tmps) = true) {v : Value} (h1 : ∀ w, C w → atG P o a w v) (h2 : N (a.put o.dst v) D) : opV P ops C E k N a D := by
  unfold opV
  simp only [ho, hE, Bool.false_eq_true, if_false]
  rw [if_pos hw]
  exact ⟨v, h1, h2⟩
theorem v_s {o : Oper} (R : Value → World → Prop) (hR : ∀ v, Stable (R v)) (ho : ops[k]? = some o) (hE : E k = true) (hw : Region.wanted o (yielded ops a.tmps) = true) (h1 : ∀ w, C w → D w → uponE P C R w ((execOp a.eval o).run P w))
    (h2 : ∀ v, (∃ w, C w ∧ R v w) → N (a.put o.dst v) (R v)) : opV P ops C E k N a D := by
  unfold opV
  simp only [ho, hE, if_true]
  rw [if_pos hw]
  exact ⟨R, hR, h1, h2⟩
end
/-- a list of cells laid for an append -/
def rBuild (w0 : World) (cells : Array Value) (t : TypeId) (k : Nat) (L : List Part) : Value → World → Prop := fun v w => ∃ g, v = .slice (some ⟨g, 0, none⟩) k k ∧ Holds w0 w (pBlk g cells t :: L)
theorem rBuild_stable {w0 : World} {cells : Array Value} {t : TypeId} {k : Nat} {L : List Part} (v : Value) : Stable (rBuild w0 cells t k L v) := fun _ _ ⟨g, e, h⟩ hb => ⟨g, e, h.call hb⟩
/-- a new block -/
def rBox (w0 : World) (cells : Array Value) (t : TypeId) (L : List Part) : Value → World → Prop := fun v w => ∃ g, v = .pointer (some ⟨g, 0, none⟩) ∧ Holds w0 w (pBlk g cells t :: L)
theorem rBox_stable {w0 : World} {cells : Array Value} {t : TypeId} {L : List Part} (v : Value) : Stable (rBox w0 cells t L v) := fun _ _ ⟨g, e, h⟩ hb => ⟨g, e, h.call hb⟩
/-- a relation of one value that is told by parts -/
def rHolds (w0 : World) (L : Value → List Part) : Value → World → Prop := fun v w => Holds w0 w (L v)
theorem rHolds_stable {w0 : World} {L : Value → List Part} (v : Value) : Stable (rHolds w0 L v) := fun _ _ h hb => h.call hb
/-- what is told of a pointer's block, of a slice's block -/
def rPtr (w0 : World) (cells : Array Value) (t : TypeId) (L : List Part) : Value → World → Prop
  | .pointer (some ⟨g, 0, none⟩) => fun w => Holds w0 w (pBlk g cells t :: L)
  | _ => fun _ => False
def rSl (w0 : World) (cells : Array Value) (t : TypeId) (L : List Part) : Value → World → Prop
  | .slice (some ⟨g, 0, none⟩) _ _ => fun w => Holds w0 w (pBlk g cells t :: L)
  | _ => fun _ => False
theorem rPtr_stable {w0 : World} {cells : Array Value} {t : TypeId} {L : List Part} (v : Value) : Stable (rPtr w0 cells t L v) := by
  unfold rPtr
  split
  · exact fun _ _ h hb => h.call hb
  · exact fun _ _ h _ => h
theorem rSl_stable {w0 : World} {cells : Array Value} {t : TypeId} {L : List Part} (v : Value) : Stable (rSl w0 cells t L v) := by
  unfold rSl
  split
  · exact fun _ _ h hb => h.call hb
  · exact fun _ _ h _ => h
section
variable {P : Program} {ops : Array Oper} {E : Nat → Bool} {k : Nat} {a : Act} {N : Act → (World → Prop) → Prop} {w0 : World} {L L1 : List Part}
/-- a new block -/
theorem v_box {o : Oper} (cells : Array Value) (t : TypeId) (ho : ops[k]? = some o) (hE : E k = true) (hw : Region.wanted o (yielded ops a.tmps) = true)
    (h1 : ∀ w, Holds w0 w L → Holds w0 w L1 → (execOp a.eval o).run P w = .ok (.value (.pointer (some ⟨w.heap.size, 0, none⟩))) (w.alloc (.cells cells t)))
    (h2 : ∀ g, N (a.put o.dst (.pointer (some ⟨g, 0, none⟩))) (fun wx => Holds w0 wx (pBlk g cells t :: L1))) : opV P ops (fun wx => Holds w0 wx L) E k N a (fun wx => Holds w0 wx L1) := by
  refine v_s (rPtr w0 cells t L1) rPtr_stable ho hE hw (fun w hx hD => ?_) fun v hv => ?_
  · rw [h1 w hx hD]
    exact ⟨hx.alloc _, hD.blk _ _ _ rfl⟩
  · obtain ⟨w, _, hr⟩ := hv
    unfold rPtr at hr
    split at hr
    · exact h2 _
    · exact hr.elim
/-- a list of cells laid for an append -/
theorem v_build {o : Oper} (cells : Array Value) (t : TypeId) (n : Nat) (ho : ops[k]? = some o) (hE : E k = true) (hw : Region.wanted o (yielded ops a.tmps) = true)
    (h1 : ∀ w, Holds w0 w L → Holds w0 w L1 → (execOp a.eval o).run P w = .ok (.value (.slice (some ⟨w.heap.size, 0, none⟩) n n)) (w.alloc (.cells cells t)))
    (h2 : ∀ g, N (a.put o.dst (.slice (some ⟨g, 0, none⟩) n n)) (fun wx => Holds w0 wx (pBlk g cells t :: L1))) : opV P ops (fun wx => Holds w0 wx L) E k N a (fun wx => Holds w0 wx L1) := by
  refine v_s (fun v w => ∃ g, v = .slice (some ⟨g, 0, none⟩) n n ∧ rSl w0 cells t L1 v w) (fun v _ _ ⟨g, e, h⟩ hb => ⟨g, e, rSl_stable v _ _ h hb⟩) ho hE hw (fun w hx hD => ?_) fun v hv => ?_
  · rw [h1 w hx hD]
    exact ⟨hx.alloc _, _, rfl, hD.blk _ _ _ rfl⟩
  · obtain ⟨w, _, g, rfl, hr⟩ := hv
    have := h2 g
    refine cast (congrArg (N _) ?_) this
    funext wx
    refine propext ⟨fun h => ⟨g, rfl, h⟩, fun ⟨_, _, h⟩ => h⟩
end
end Go.Proofs.Ytpkfjdaedaplfaa.Rd

namespace Go.Proofs.Ytpkfjdaedaplfaa.Rd
open Go.RowKit

section
variable (P : Program) (md : Region.Mode) (ops : Array Oper) (C : World → Prop) (E : Nat → Bool) (K : Act → World → Prop)

/-- k operations more, all below n, whichever comes up; then L -/
def anyT (n : Nat) (L : Array Bool → Act → (World → Prop) → Prop) : Nat → Array Bool → Act → (World → Prop) → Prop
  | 0, done, a, D => L done a D
  | k + 1, done, a, D => Region.ready md ops done ≠ [] ∧ ∀ i ∈ Region.ready md ops done, i < n ∧ opV P ops C E i (anyT n L k (done.setIfInBounds i true)) a D

theorem anyT_any (hC : ∀ w w', C w → Below w.heap.size w w' → C w') {n g : Nat} {L : Array Bool → Act → (World → Prop) → Prop} {Q : Exit → Act → World → Prop} (hL : ∀ done a D w, C w → D w → L done a D → wpAny P md ops Q g done a w) (k : Nat) :
    ∀ (done : Array Bool) (a : Act) (D : World → Prop) (w : World), Stable D → C w → D w → anyT P md ops C E n L k done a D → wpAny P md ops Q (k + g) done a w := by
  induction k with
  | zero => intro done a D w _ hw hDw h; rw [Nat.zero_add]; exact hL _ _ _ _ hw hDw h
  | succ k ih =>
    intro done a D w hD hw hDw h
    rw [show k + 1 + g = (k + g) + 1 by omega]
    exact ⟨fun e => absurd e h.1, fun i hi => op_sound P ops C E hC hD hw hDw (fun a' D' w' h1 h2 h3 h4 => ih _ a' D' w' h1 h2 h3 h4) (h.2 i hi).2⟩

theorem anyT_first {n i : Nat} {o : Oper} {v : Value} {L : Array Bool → Act → (World → Prop) → Prop} (hi : ops[i]? = some o) (hE : E i = false) (hsel : ∀ (j : Nat) (o : Oper) cs b, ops[j]? = some o → o.op ≠ .select cs b)
    (hs : Region.sinkB md ops n = true) (hc : Region.chainB md ops n = true) (hn : n < ops.size) (hin : i < n) (hdone : ∀ done a D, L done a D → ∀ j ∈ Region.ready md ops done, n ≤ j) (k : Nat) :
    ∀ (done : Array Bool) (a : Act) (D : World → Prop), HeadInv md ops n done →
      (∀ j oj, ops[j]? = some oj → j ≠ i → done.getD j true = false → (∀ e ∈ oj.after, Region.binds md e = true → e.on ≠ i) → o.apart ops oj = true) →
      i ∈ Region.ready md ops done → YieldsG P ops C o v a →
      anyT P md ops C E n L k (done.setIfInBounds i true) (a.put o.dst v) D → anyT P md ops C E n L (k + 1) done a D := by
  have low : ∀ (done : Array Bool), HeadInv md ops n done → i ∈ Region.ready md ops done → ∀ j ∈ Region.ready md ops done, j < n := by
    intro done inv hr j hj
    rcases Nat.lt_or_ge j n with h | h
    · exact h
    · exact absurd hj (tail_waits hs hc hn inv _ i rfl hin (mem_ready.1 hr).1 j h)
  have some_ready : ∀ (done : Array Bool), i ∈ Region.ready md ops done → Region.ready md ops done ≠ [] := fun done hr e => by rw [e] at hr; cases hr
  induction k with
  | zero =>
    intro done a D inv _ hr hy H
    refine ⟨some_ready done hr, fun j hj => ⟨low done inv hr j hj, ?_⟩⟩
    by_cases e : j = i
    · subst e; exact hy.op P ops C E hi hE H
    · have := hdone _ _ _ H j (ready_mono hj e)
      have := low done inv hr j hj
      omega
  | succ k ih =>
    intro done a D inv hfree hr hy H
    refine ⟨some_ready done hr, fun j hj => ⟨low done inv hr j hj, ?_⟩⟩
    by_cases e : j = i
    · subst e; exact hy.op P ops C E hi hE H
    · obtain ⟨hjun, oj, hoj, hall⟩ := mem_ready.1 hj
      have hun := (mem_ready.1 hr).1
      have hno : ∀ e ∈ oj.after, Region.binds md e = true → e.on ≠ i := fun e he hb h => by
        have := hall e he hb
        rw [h, getD_both hun] at this
        cases this
      refine opV_mono P ops C E (fun a' D' h3 => ih (done.setIfInBounds j true) a' D' (inv.set hj (low done inv hr j hj)) (fun k' ok hk hki hk' hnk => hfree k' ok hk hki ?_ hnk) (ready_mono hr (Ne.symm e)) h3.1 ?_)
        (opV_put P ops C E hoj (hfree j oj hoj e hjun hno) (fun cs b => hsel i o cs b hi) (fun cs b => hsel j oj cs b hoj) hy (H.2 j (ready_mono hj e)).2)
      · by_cases e' : j = k'
        · subst e'; exact hjun
        · rw [getD_set_ne true e'] at hk'; exact hk'
      · rw [Array.setIfInBounds_comm _ _ e]; exact h3.2

/-- a plan of the head, and that the tail is forced -/
def planT (sp : List Nat) (n g : Nat) : Plan → Nat → Array Bool → Bool
  | .fin, k, done => decide (k = 0) && Region.seqB md ops g n done
  | .q i p, k, done => !sp.contains i && ((Region.ready md ops done).contains i && Region.free md ops done i && (decide (i < ops.size) && (decide (i < n) && (decide (0 < k) && planT sp n g p (k - 1) (done.setIfInBounds i true)))))
  | .s1 i p, k, done => decide (Region.ready md ops done = [i]) && (decide (i < n) && (decide (0 < k) && planT sp n g p (k - 1) (done.setIfInBounds i true)))
  | .s2 _ _ _ _, _, _ => false
  | .s3 _ _ _ _ _ _, _, _ => false

theorem anyT_walk (hsel : Region.noSelect ops = true) (sp : List Nat) (hsp : ∀ k, sp.contains k = false → E k = false) {n g : Nat} (hs : Region.sinkB md ops n = true) (hc : Region.chainB md ops n = true) (hn : n < ops.size) (p : Plan) :
    ∀ (k : Nat) (done : Array Bool) (a : Act) (D : World → Prop), HeadInv md ops n done → planT md ops sp n g p k done = true → walkV P ops C E K p a D →
      anyT P md ops C E n (fun done' a' D' => Region.seqB md ops g n done' = true ∧ ∀ w, C w → D' w → K a' w) k done a D := by
  induction p with
  | fin =>
    intro k done a D _ hB h
    simp only [planT, Bool.and_eq_true, decide_eq_true_eq] at hB
    obtain ⟨rfl, hB⟩ := hB
    exact ⟨hB, h⟩
  | q i p ih =>
    intro k done a D inv hB h
    simp only [planT, Bool.and_eq_true, decide_eq_true_eq, Bool.not_eq_true'] at hB
    obtain ⟨hcn, ⟨hr, hfree⟩, hk, hin, h0, hB'⟩ := hB
    obtain ⟨j, rfl⟩ : ∃ j, k = j + 1 := ⟨k - 1, by omega⟩
    have hE := hsp i hcn
    have hr' : i ∈ Region.ready md ops done := by simpa using hr
    have hi : ops[i]? = some ops[i] := Array.getElem?_eq_getElem hk
    obtain ⟨v, hy, hK⟩ := yieldsG_of P ops C E hi hE h
    exact anyT_first P md ops C E hi hE (Region.noSelect_spec hsel) hs hc hn hin (fun done' a' D' hL => seqB_ready hL.1) j done a D inv (Region.free_spec hi hfree) hr' hy (ih _ _ _ _ (inv.set hr' hin) hB' hK)
  | s1 i p ih =>
    intro k done a D inv hB h
    simp only [planT, Bool.and_eq_true, decide_eq_true_eq] at hB
    obtain ⟨hr, hin, h0, hB'⟩ := hB
    obtain ⟨j, rfl⟩ : ∃ j, k = j + 1 := ⟨k - 1, by omega⟩
    refine ⟨fun e => (by rw [hr] at e; cases e), fun i' hi => ?_⟩
    have hi0 := hi
    rw [hr] at hi
    obtain rfl : i' = i := by simpa using hi
    exact ⟨hin, opV_mono P ops C E (fun a' D' h' => ih _ _ _ _ (inv.set hi0 hin) hB' h') h⟩
  | s2 => intro k done a D _ hB; simp [planT] at hB
  | s3 => intro k done a D _ hB; simp [planT] at hB
end
def tailB (l : List Oper) (sp : List Nat) (n : Nat) (p : Plan) : Bool :=
  Region.noSelect l.toArray && (decide (n < l.length) && (Region.sinkB .any l.toArray n && (Region.chainB .any l.toArray n && planT .any l.toArray sp n (l.toArray.size - n) p n (Array.replicate l.toArray.size false))))
/-- a region by parts of memory, with a forced tail -/
theorem region_PT {P : Program} {id : Nat} {Q : Exit → Act → World → Prop} {a : Act} {w w0 : World} {l : List Oper} (L : List Part) (L1 : List Part) (sp : List Nat) (n : Nat) (p : Plan) (H : Holds w0 w L1) (hL : L.Sublist L1)
    (hm : P.follows .mixedOrders = true) (hB : tailB l sp n p = true)
    (h : walkV P l.toArray (fun wx => Holds w0 wx L) (fun k => sp.contains k) (fun a' w' => wpList P l.toArray Q (l.drop n) a' w') p a (fun wx => Holds w0 wx L1)) : (Code.region id l.toArray true).wp P Q a w := by
  simp only [tailB, Bool.and_eq_true, decide_eq_true_eq] at hB
  obtain ⟨hsel, hn, hs, hc, hplan⟩ := hB
  have hd : (l.drop n).length = l.toArray.size - n := by simp
  have hn' : n < l.toArray.size := by simpa using hn
  have X := anyT_walk P .any l.toArray (fun wx => Holds w0 wx L) (fun k => sp.contains k) (fun a' w' => wpList P l.toArray Q (l.drop n) a' w') hsel sp (fun _ h => h) hs hc hn' p n (Array.replicate l.toArray.size false) a (fun wx => Holds w0 wx L1)
    ⟨by simp, fun j oj _ e => (by rw [getD_replicate_false] at e; cases e), fun t _ e => getD_in (by simpa using e) (getD_replicate_false _ _)⟩ hplan h
  refine wp_region_any hm ?_
  have := anyT_any P .any l.toArray (fun wx => Holds w0 wx L) (fun k => sp.contains k) (fun _ _ h hb => h.call hb) (Q := Q) (g := l.toArray.size - n) (fun done a' D' w' hw' hDw' hL' => by
    have := wpAny_of_seq (md := .any) (Q' := Q) (l.drop n) n done a' w' (fun j => by simp [List.getElem?_drop]) (by rw [hd]; exact hL'.1) (hL'.2 w' hw' hDw')
    rwa [hd] at this) n (Array.replicate l.toArray.size false) a (fun wx => Holds w0 wx L1) w.drew (fun _ _ h hb => h.call hb) (H.drew.sub hL) H.drew X
  rw [show n + (l.toArray.size - n) = l.toArray.size by omega] at this
  exact this
end Go.Proofs.Ytpkfjdaedaplfaa.Rd

namespace Go.Proofs.Ytpkfjdaedaplfaa.Rd
open Go.RowKit
section
variable {P : Program} {ops : Array Oper} {E : Nat → Bool} {k : Nat} {a : Act} {N : Act → (World → Prop) → Prop} {w0 : World} {L L1 : List Part}
theorem v_put {o : Oper} (i g : Nat) (cs cs' : Array Value) (t : TypeId) (hi : L1[i]? = some (pBlk g cs t)) (hsub : L.Sublist (L1.set i (pBlk g cs' t))) (ho : ops[k]? = some o) (hE : E k = true) (hw : Region.wanted o (yielded ops a.tmps) = true)
    (h1 : ∀ w, Holds w0 w L → Holds w0 w L1 → (execOp a.eval o).run P w = .ok .skip (w.setRow g cs'))
    (h2 : N (a.put o.dst undef) (fun wx => Holds w0 wx (L1.set i (pBlk g cs' t)))) : opV P ops (fun wx => Holds w0 wx L) E k N a (fun wx => Holds w0 wx L1) := by
  refine v_s (fun u w => u = undef ∧ Holds w0 w (L1.set i (pBlk g cs' t))) (fun _ _ _ h hb => ⟨h.1, h.2.call hb⟩) ho hE hw (fun w hx hD => ?_) fun v hv => ?_
  · rw [h1 w hx hD]
    exact ⟨(hD.setRow i hi cs').sub hsub, rfl, hD.setRow i hi cs'⟩
  · obtain ⟨w, _, rfl, hr⟩ := hv
    refine cast (congrArg (N _) ?_) h2
    funext wx
    exact propext ⟨fun h => ⟨rfl, h⟩, fun h => h.2⟩
end
theorem region_R1 {P : Program} {id : Nat} {Q : Exit → Act → World → Prop} {a : Act} {w w0 : World} {l : List Oper} (L : List Part) (L1 : List Part) (sp : List Nat) (p : Plan) (H : Holds w0 w L1) (hL : L.Sublist L1)
    (hm : P.follows .mixedOrders = true) (hsel : Region.noSelect l.toArray = true) (hB : planB .any l.toArray sp l.toArray.size p (Array.replicate l.toArray.size false) = true)
    {α : Type} (F : α → List Part) (act : α → Act)
    (h : ∀ K : Act → World → Prop, (∀ g wx, Holds w0 wx (F g) → K (act g) wx) → walkV P l.toArray (fun wx => Holds w0 wx L) (fun k => sp.contains k) K p a (fun wx => Holds w0 wx L1))
    (key : ∀ g wx, Holds w0 wx (F g) → Q .normal (act g) wx) : (Code.region id l.toArray true).wp P Q a w :=
  region_P L L1 sp p H hL hm hsel hB (h (fun a' w' => Q .normal a' w') key)
theorem region_R2 {P : Program} {id : Nat} {Q : Exit → Act → World → Prop} {a : Act} {w w0 : World} {l : List Oper} (L : List Part) (L1 : List Part) (sp : List Nat) (p : Plan) (H : Holds w0 w L1) (hL : L.Sublist L1)
    (hm : P.follows .mixedOrders = true) (hsel : Region.noSelect l.toArray = true) (hB : planB .any l.toArray sp l.toArray.size p (Array.replicate l.toArray.size false) = true)
    {α β : Type} (F : α → β → List Part) (act : α → β → Act)
    (h : ∀ K : Act → World → Prop, (∀ g g' wx, Holds w0 wx (F g g') → K (act g g') wx) → walkV P l.toArray (fun wx => Holds w0 wx L) (fun k => sp.contains k) K p a (fun wx => Holds w0 wx L1))
    (key : ∀ g g' wx, Holds w0 wx (F g g') → Q .normal (act g g') wx) : (Code.region id l.toArray true).wp P Q a w :=
  region_P L L1 sp p H hL hm hsel hB (h (fun a' w' => Q .normal a' w') key)
theorem region_R3 {P : Program} {id : Nat} {Q : Exit → Act → World → Prop} {a : Act} {w w0 : World} {l : List Oper} (L : List Part) (L1 : List Part) (sp : List Nat) (p : Plan) (H : Holds w0 w L1) (hL : L.Sublist L1)
    (hm : P.follows .mixedOrders = true) (hsel : Region.noSelect l.toArray = true) (hB : planB .any l.toArray sp l.toArray.size p (Array.replicate l.toArray.size false) = true)
    {α β γ : Type} (F : α → β → γ → List Part) (act : α → β → γ → Act)
    (h : ∀ K : Act → World → Prop, (∀ g g' g'' wx, Holds w0 wx (F g g' g'') → K (act g g' g'') wx) → walkV P l.toArray (fun wx => Holds w0 wx L) (fun k => sp.contains k) K p a (fun wx => Holds w0 wx L1))
    (key : ∀ g g' g'' wx, Holds w0 wx (F g g' g'') → Q .normal (act g g' g'') wx) : (Code.region id l.toArray true).wp P Q a w :=
  region_P L L1 sp p H hL hm hsel hB (h (fun a' w' => Q .normal a' w') key)
end Go.Proofs.Ytpkfjdaedaplfaa.Rd

namespace Go.Proofs.Ytpkfjdaedaplfaa
open Go.RowKit

-- left out here: loop.example/g01200/spec.l01Cycles
end Go.Proofs.Ytpkfjdaedaplfaa

namespace Go.Proofs.Ytpkfjdaedaplfaa
open Go.RowKit

/-- bytes as cells; a list of bytes in a row of its own -/
def bytesL (l : List Nat) : List Value := l.map fun (x : Nat) => Value.int .u8 (x : Int)
def OwnB (B : Nat) (w : World) (v : Value) (l : List Nat) : Prop := w.ownsRow B 5 1 v l.length (bytesL l)
theorem infoU8 : (Try.prog.info? 5).map (fun i => (i.zero, i.size, i.bytes)) = some (some (.int .u8 0), 1, 1) := by kernel_rfl
theorem plainU8 : Try.prog.plainKey 5 = true := by kernel_rfl
/-- an element of an array of bytes that is a value -/
theorem run_index8 {T : TypeId} {n : Nat} (hT : Try.prog.underlying T = some (.array n 5)) {cs : Array Value} {j v : Nat} (hj : j < n) (h : cs[j]? = some (.int .u8 v)) (w : World) :
    (Instr.index T (.agg cs) (.int .i64 j)).run Try.prog w = .ok (.int .u8 v) w := by
  obtain ⟨i0, hi, hz0, hz1, hz2⟩ := info_parts infoU8
  simp [Instr.index, run_underlying hT, asIntOf, hj, go_sem, sizeOf, typeInfo, hi, hz1, h]
theorem OwnB.at {B : Nat} {w : World} {v : Value} {l : List Nat} (h : OwnB B w v l) {k : Nat} (hk : k < l.length) :
    ∃ g c, v = .slice (some ⟨g, 0, none⟩) l.length c ∧ B ≤ g ∧ g < w.heap.size ∧ l.length ≤ c ∧ c ≤ maxLen ∧ w.cell? ⟨g, k, none⟩ = some (.int .u8 (l[k] : Nat)) := by
  rcases h.2 with ⟨_, e⟩ | ⟨g, cap, cur, rfl, hB, hh, h1, h2, h3, h4⟩
  · omega
  · refine ⟨g, cap, rfl, hB, ?_, h1, h2, ?_⟩
    · rcases Nat.lt_or_ge g w.heap.size with c | c
      · exact c
      · rw [Array.getElem?_eq_none c] at hh; cases hh
    · rw [cell_of_cells, cellsOf_heap hh]
      have := congrArg (·[k]?) h4
      simp only [Nat.mul_one, List.getElem?_take_of_lt hk, Array.getElem?_toList] at this
      rw [this]
      unfold bytesL
      rw [List.getElem?_map, List.getElem?_eq_getElem hk]; rfl
theorem ownB_form {B : Nat} {w : World} {v : Value} {l : List Nat} (h : OwnB B w v l) : ∃ A c, v = .slice A l.length c := own_slice h

/-- the search, j of the two steps from X -/
def bst (f g : Nat → Nat) (S : List Nat × (Nat → Bool)) (X : Nat) : Nat → List Nat × (Nat → Bool)
  | 0 => S
  | 1 => badd S (f X)
  | _ + 2 => badd (badd S (f X)) (g X)
def stepY (f g : Nat → Nat) (X j : Nat) : Nat := if j = 0 then f X else g X
theorem bst_step (f g : Nat → Nat) (S : List Nat × (Nat → Bool)) (X : Nat) {j : Nat} (hj : j < 2) : bst f g S X (j + 1) = badd (bst f g S X j) (stepY f g X j) := by
  rcases j with _ | _ | j
  · rfl
  · rfl
  · omega
theorem stepY_lt {f g : Nat → Nat} {X m : Nat} (hf : f X < m) (hg : g X < m) (j : Nat) : stepY f g X j < m := by unfold stepY; split <;> assumption
theorem bst_inv {f g : Nat → Nat} {S : List Nat × (Nat → Bool)} {X m : Nat} (hS : BInv m S) (hf : f X < m) (hg : g X < m) (j : Nat) : BInv m (bst f g S X j) := by
  rcases j with _ | _ | j
  · exact hS
  · exact hS.add hf
  · exact (hS.add hf).add hg
theorem bfs_start (f g : Nat → Nat) (x : Nat) : bfs f g x 0 = ([x], mset (fun _ => false) x) := by rw [bfs]; rfl
theorem bfs_next {f g : Nat → Nat} {x k : Nat} (hk : k < (bfs f g x k).1.length) : bfs f g x (k + 1) = bst f g (bfs f g x k) (bfs f g x k).1[k] 2 := by
  rw [bfs, List.getElem?_eq_getElem hk]; rfl
theorem bst_pre (f g : Nat → Nat) (S : List Nat × (Nat → Bool)) (X j : Nat) : S.1 <+: (bst f g S X j).1 := by
  rcases j with _ | _ | j
  · exact List.prefix_refl _
  · exact badd_le _ _
  · exact (badd_le _ _).trans (badd_le _ _)
theorem badd_old {S : List Nat × (Nat → Bool)} {y : Nat} (h : S.2 y = true) : badd S y = S := by unfold badd; rw [if_pos h]
theorem badd_new {S : List Nat × (Nat → Bool)} {y : Nat} (h : S.2 y = false) : badd S y = (S.1 ++ [y], mset S.2 y) := by unfold badd; rw [if_neg (by simp [h])]; rfl

-- left out here: loop.example/g01200/impl.dartsFrom
end Go.Proofs.Ytpkfjdaedaplfaa

namespace Go.Proofs.Ytpkfjdaedaplfaa
open Go.RowKit

open Classical in
noncomputable def connB (f g : Nat → Nat) (m : Nat) : Bool := decide (conn f g m)
theorem connB_int (f g : Nat → Nat) (m : Nat) : ((((bfs f g 0 16).1.length : Nat) : Int) == (m : Int)) = connB f g m := by
  unfold connB conn
  generalize (bfs f g 0 16).1.length = a
  by_cases h : a = m
  · subst h; simp
  · have : ¬ (a : Int) = (m : Int) := by omega
    rw [beq_eq_false_iff_ne.2 this]; simp [h]

-- left out here: loop.example/g01200/impl.dartsFrom loop.example/g01200/impl.isConnected
-- left out here: loop.example/g01200/spec.l01Connected
end Go.Proofs.Ytpkfjdaedaplfaa

namespace Go.Proofs.Ytpkfjdaedaplfaa
open Go.RowKit

/-- a dessin of n darts, as the document has it -/
noncomputable def desB (n : Int) (f g : Nat → Nat) : Bool := permB f n && (permB g n && connB f g n.toNat)
/-- what is known of a dessin -/
structure DesN (f g : Nat → Nat) (m : Nat) : Prop where
  pos : 0 < m
  le : m ≤ 16
  black : PermN f m
  white : PermN g m
  conn : conn f g m
theorem DesN.bf {f g : Nat → Nat} {m : Nat} (h : DesN f g m) : Bij f m := h.black.2.2.1
theorem DesN.bg {f g : Nat → Nat} {m : Nat} (h : DesN f g m) : Bij g m := h.white.2.2.1
theorem desB_true {n : Int} {f g : Nat → Nat} (h : desB n f g = true) : ∃ m : Nat, n = (m : Int) ∧ DesN f g m := by
  unfold desB at h
  simp only [Bool.and_eq_true] at h
  obtain ⟨h1, h2, h3⟩ := h
  obtain ⟨m, rfl, hp⟩ := permB_true h1
  obtain ⟨m', e, hq⟩ := permB_true h2
  obtain rfl : m = m' := by omega
  rw [Int.toNat_natCast] at h3
  unfold connB at h3
  exact ⟨m, rfl, hp.1, hp.2.1, hp, hq, by simpa using h3⟩

-- left out here: loop.example/g01200/impl.IsDessin
-- left out here: loop.example/g01200/spec.l01Is
end Go.Proofs.Ytpkfjdaedaplfaa

namespace Go.Proofs.Ytpkfjdaedaplfaa
open Go.RowKit

theorem tuple2 {a b c d : Value} (h1 : a = c) (h2 : b = d) : Ending.returned (.tuple #[a, b]) = .returned (.tuple #[c, d]) := by rw [h1, h2]
theorem cycs_le {p : Nat → Nat} {m : Nat} (hp : PermN p m) : (cycs p m).length ≤ m := by
  rw [cycs_length hp.2.2.1 hp.2.1]; exact orb_le p m

-- left out here: loop.example/g01200/impl.countCycles
end Go.Proofs.Ytpkfjdaedaplfaa

namespace Go.Proofs.Ytpkfjdaedaplfaa
open Go.RowKit

theorem infoSl9 : (Try.prog.info? 79).map (fun i => (i.zero, i.size, i.bytes)) = some (some (.slice none 0 0), 1, 24) := by kernel_rfl
theorem rowsP_append9 : ∀ {vs us : List Value} {ls ms : List (List Nat)}, vs.length = ls.length → rowsP (vs ++ us) (ls ++ ms) = rowsP vs ls ++ rowsP us ms
  | [], us, [], ms, _ => rfl
  | [], _, _ :: _, _, h => by simp at h
  | _ :: _, _, [], _, h => by simp at h
  | v :: vs, us, l :: ls, ms, h => by
    have ih := rowsP_append9 (vs := vs) (us := us) (ls := ls) (ms := ms) (by simpa using h)
    simp only [List.cons_append, rowsP, ih]
theorem Holds.noVals9 {w0 w : World} {L : List Part} (h : Holds w0 w L) (i : Nat) {g : Nat} (hi : L[i]? = some (pBlk g #[] 79)) : Holds w0 w (L.set i (pVals (.slice (some ⟨g, 0, none⟩) 0 0) [])) := by
  refine h.turn i hi _ ?_ rfl rfl rfl (Nat.le_refl _) (fun _ _ _ => rfl) fun k hk => .inl ?_
  · exact ⟨rfl, .inr ⟨g, 0, #[], rfl, Nat.zero_le _, h.at i hi, Nat.le_refl 0, by decide, rfl, rfl⟩⟩
  · have : g = k := by simpa [pVals, pRow, Value.ownBlock] using hk
    exact this.symm
namespace Rd
/-- uponE behind a name that nothing unfolds -/
@[irreducible] def upon9 (P : Program) (C : World → Prop) (R : Value → World → Prop) (w : World) (r : Result Next) : Prop := uponE P C R w r
theorem upon9_eq {P : Program} {C : World → Prop} {R : Value → World → Prop} {w : World} {r : Result Next} : upon9 P C R w r = uponE P C R w r := by unfold upon9; rfl
theorem v_s9 {P : Program} {ops : Array Oper} {C : World → Prop} {E : Nat → Bool} {k : Nat} {a : Act} {D : World → Prop} {N : Act → (World → Prop) → Prop} {o : Oper} (R : Value → World → Prop) (hR : ∀ v, Stable (R v)) (ho : ops[k]? = some o) (hE : E k = true) (hw : Region.wanted o (yielded ops a.tmps) = true) (h1 : ∀ w, C w → D w → upon9 P C R w ((execOp a.eval o).run P w))
    (h2 : ∀ v, (∃ w, C w ∧ R v w) → N (a.put o.dst v) (R v)) : opV P ops C E k N a D :=
  v_s R hR ho hE hw (fun w hc hd => by have := h1 w hc hd; rwa [upon9_eq] at this) h2
/-- a value of some form, with lists of slices of given lengths, and what is held then -/
def rV9 (w0 : World) (n : Nat) (F : Value → List Value → List Part) : Value → World → Prop := fun v w => ∃ A c vs, v = .slice A n c ∧ vs.length = n ∧ Holds w0 w (F v vs)
theorem rV9_stable {w0 : World} {n : Nat} {F : Value → List Value → List Part} (v : Value) : Stable (rV9 w0 n F v) := fun _ _ ⟨A, c, vs, e, hl, h⟩ hb => ⟨A, c, vs, e, hl, h.call hb⟩
theorem rV9_form {w0 : World} {n : Nat} {F : Value → List Value → List Part} {v : Value} {w : World} (h : rV9 w0 n F v w) : ∃ A c, v = .slice A n c := by
  obtain ⟨A, c, vs, e, _⟩ := h
  exact ⟨A, c, e⟩
theorem rV9_elim {w0 : World} {n : Nat} {F : Value → List Value → List Part} {v : Value} {w : World} (h : rV9 w0 n F v w) {Q : Prop} (k : ∀ vs, vs.length = n → Holds w0 w (F v vs) → Q) : Q := by
  obtain ⟨A, c, vs, _, hl, h⟩ := h
  exact k vs hl h
def rN9 (w0 : World) (n : Nat) (F : Nat → List Value → List Part) : Value → World → Prop := fun v w => ∃ g vs, v = .slice (some ⟨g, 0, none⟩) 0 0 ∧ vs.length = n ∧ Holds w0 w (F g vs)
theorem rN9_stable {w0 : World} {n : Nat} {F : Nat → List Value → List Part} (v : Value) : Stable (rN9 w0 n F v) := fun _ _ ⟨g, vs, e, hl, h⟩ hb => ⟨g, vs, e, hl, h.call hb⟩
theorem rN9_form {w0 : World} {n : Nat} {F : Nat → List Value → List Part} {v : Value} {w : World} (h : rN9 w0 n F v w) : ∃ g, v = .slice (some ⟨g, 0, none⟩) 0 0 := by
  obtain ⟨g, vs, e, _⟩ := h
  exact ⟨g, e⟩
theorem rN9_elim {w0 : World} {n g : Nat} {F : Nat → List Value → List Part} {w : World} (h : rN9 w0 n F (.slice (some ⟨g, 0, none⟩) 0 0) w) {Q : Prop} (k : ∀ vs, vs.length = n → Holds w0 w (F g vs) → Q) : Q := by
  obtain ⟨g', vs, e, hl, h⟩ := h
  injection e with e
  injection e with e
  injection e with e
  subst e
  exact k vs hl h
def rW9 (w0 : World) (n k : Nat) (F : Value → List Value → List Value → List Part) : Value → World → Prop := fun v w => ∃ A c vs us, v = .slice A n c ∧ vs.length = n ∧ us.length = k ∧ Holds w0 w (F v vs us)
theorem rW9_stable {w0 : World} {n k : Nat} {F : Value → List Value → List Value → List Part} (v : Value) : Stable (rW9 w0 n k F v) := fun _ _ ⟨A, c, vs, us, e, hl, hk, h⟩ hb => ⟨A, c, vs, us, e, hl, hk, h.call hb⟩
theorem rW9_form {w0 : World} {n k : Nat} {F : Value → List Value → List Value → List Part} {v : Value} {w : World} (h : rW9 w0 n k F v w) : ∃ A c, v = .slice A n c := by
  obtain ⟨A, c, vs, us, e, _⟩ := h
  exact ⟨A, c, e⟩
theorem rW9_elim {w0 : World} {n j : Nat} {F : Value → List Value → List Value → List Part} {v : Value} {w : World} (h : rW9 w0 n j F v w) {Q : Prop} (k : ∀ vs us, vs.length = n → us.length = j → Holds w0 w (F v vs us) → Q) : Q := by
  obtain ⟨A, c, vs, us, _, hl, hk, h⟩ := h
  exact k vs us hl hk h
theorem region_RV9 {P : Program} {id : Nat} {Q : Exit → Act → World → Prop} {a : Act} {w w0 : World} {l : List Oper} (L : List Part) (L1 : List Part) (sp : List Nat) (p : Plan) (H : Holds w0 w L1) (hL : L.Sublist L1)
    (hm : P.follows .mixedOrders = true) (hsel : Region.noSelect l.toArray = true) (hB : planB .any l.toArray sp l.toArray.size p (Array.replicate l.toArray.size false) = true)
    (R : Value → World → Prop) (act : Value → Nat → Option Addr → Nat → Option Addr → Nat → Option Addr → Nat → Act)
    (h : ∀ K : Act → World → Prop, (∀ q g A1 c1 A2 c2 A3 c3 wx, R q wx → K (act q g A1 c1 A2 c2 A3 c3) wx) → walkV P l.toArray (fun wx => Holds w0 wx L) (fun k => sp.contains k) K p a (fun wx => Holds w0 wx L1))
    (key : ∀ q g A1 c1 A2 c2 A3 c3 wx, R q wx → Q .normal (act q g A1 c1 A2 c2 A3 c3) wx) : (Code.region id l.toArray true).wp P Q a w :=
  region_P L L1 sp p H hL hm hsel hB (h (fun a' w' => Q .normal a' w') key)
/-- a list's slices behind those of another one -/
theorem upon_rows9 {o : Oper} {a : Act} {w0 w : World} {L : List Part} (H : Holds w0 w L) (k j : Nat) {v u : Value} {vs us : List Value} (hk : L[k]? = some (pVals v vs)) (hj : L[j]? = some (pVals u us)) (hu : 0 < us.length) (h1 : ∀ x ∈ us, x.oneCell' = true) (hb : vs.length + us.length ≤ 100000) {C : World → Prop} {R : Value → World → Prop}
    (h : ∀ v' w', Holds w0 w' (L.set k (pVals v' (vs ++ us))) → C w' ∧ R v' w') (s x : Operand)
    (ho : o.op = .call { callee := .builtin .append, args := #[s, x], argTypes := #[69, 69] })
    (hs : a.eval s = v) (hx : a.eval x = u) : upon9 Try.prog C R w ((execOp a.eval o).run Try.prog w) := by
  obtain ⟨g, c, rfl, _, _, h3, h4, h5, _⟩ := row_at (H.row j hj) hu
  obtain ⟨i0, hi, hz0, hz1, hz2⟩ := info_parts infoSl9
  obtain ⟨v', w', hr, h2, _⟩ := run_appH (P := Try.prog) 69 o.type 79 i0 (.slice none 0 0) 1 24 Try.underlying69 hi hz0 hz1 hz2 rfl (by decide) v vs.length vs H k hk ⟨g, 0, none⟩ us.length c us (by omega) (fun j y hj => by
    have : ((⟨g, 0, none⟩ : Addr).add j) = ⟨g, j, none⟩ := by simp [Addr.add]; exact Eq.symm
    rw [this]; exact h5 j y hj) h1 (by unfold maxLen; omega) (by omega)
  rw [upon9_eq, exec_append ho hs hx hr]
  refine h v' w' ?_
  unfold pVals at *
  rw [List.length_append]
  exact h2
theorem rV9_of {w0 w : World} {n : Nat} {F : Value → List Value → List Part} {v : Value} {vs : List Value} {L' : List Part} (hF : F v vs = pVals v vs :: L') (hl : vs.length = n) (h : Holds w0 w (F v vs)) : rV9 w0 n F v w := by
  have h' := h
  rw [hF] at h'
  obtain ⟨A, c, e⟩ := own_slice (h'.row 0 rfl)
  exact ⟨A, c, vs, by rw [e, hl], hl, h⟩
/-- a call that hands back a list of its own -/
theorem upon9_call {P : Program} {f : Nat} {args : Array Value} {w0 wx : World} {L L1 : List Part} {l : List Nat} (hx : Holds w0 wx L) (hD : Holds w0 wx L1) (h : Calls P f args wx fun e wy => ∃ u, e = .returned u ∧ Holds wx wy [pInts u l]) :
    upon9 P (fun w => Holds w0 w L) (fun v w => Holds w0 w (pInts v l :: L1)) wx (.ok (.enter f args) wx) := by
  rw [upon9_eq]
  refine ⟨rfl, h.mono ?_⟩
  rintro e wy ⟨u, rfl, hu⟩
  exact ⟨u, rfl, hx.call hu.low, (hD.joinL hu).perm List.perm_append_comm⟩
theorem v_own9 {P : Program} {ops : Array Oper} {E : Nat → Bool} {k : Nat} {a : Act} {N : Act → (World → Prop) → Prop} {w0 : World} {L L1 : List Part} {o : Oper} (l : List Nat) (ho : ops[k]? = some o) (hE : E k = true) (hw : Region.wanted o (yielded ops a.tmps) = true)
    (h1 : ∀ w, Holds w0 w L → Holds w0 w L1 → upon9 P (fun w => Holds w0 w L) (fun v w => Holds w0 w (pInts v l :: L1)) w ((execOp a.eval o).run P w))
    (h2 : ∀ v, N (a.put o.dst v) (fun wx => Holds w0 wx (pInts v l :: L1))) : opV P ops (fun wx => Holds w0 wx L) E k N a (fun wx => Holds w0 wx L1) :=
  v_s9 (fun v w => Holds w0 w (pInts v l :: L1)) (fun _ _ _ h hb => h.call hb) ho hE hw h1 fun v _ => h2 v
end Rd
theorem vals_one9 {w0 w : World} {vs : List Value} {cs : List (List Nat)} {L : List Part} (hl : vs.length = cs.length) (h : Holds w0 w L) (hs : ∀ a ∈ rowsP vs cs, a ∈ L) : ∀ x ∈ vs, x.oneCell' = true := by
  intro x hx
  obtain ⟨i, hi, rfl⟩ := List.getElem_of_mem hx
  have h1 := rowsP_at (List.getElem?_eq_getElem hi) (List.getElem?_eq_getElem (show i < cs.length by omega))
  have h2 := (h.2.1 _ (hs _ (List.mem_of_getElem? h1))).1
  obtain ⟨A, c, e⟩ := own_slice (show w.ownsRow 0 _ _ _ _ _ from h2)
  rw [e]; rfl
end Go.Proofs.Ytpkfjdaedaplfaa

namespace Go.Proofs.Ytpkfjdaedaplfaa
open Go.RowKit

theorem foldset (off : Nat) : ∀ (l : List Value) (k : Nat) (cs : Array Value) (i : Nat),
    ((l.zipIdx k).foldl (fun cs (p : Value × Nat) => cs.setIfInBounds (off + p.2) p.1) cs)[i]? = if off + k ≤ i ∧ i < off + k + l.length ∧ i < cs.size then l[i - (off + k)]? else cs[i]? := by
  intro l
  induction l with
  | nil => intro k cs i; simp; omega
  | cons x l ih =>
    intro k cs i
    rw [List.zipIdx_cons, List.foldl_cons, ih]
    simp only [Array.size_setIfInBounds, List.length_cons, Array.getElem?_setIfInBounds]
    by_cases h : off + k = i
    · subst h
      rw [if_neg (by omega), if_pos rfl]
      by_cases h2 : off + k < cs.size
      · rw [if_pos h2, if_pos ⟨by omega, by omega, h2⟩]; simp
      · rw [if_neg h2, if_neg (by omega), Array.getElem?_eq_none (by omega)]
    · rw [if_neg h]
      by_cases h2 : off + k ≤ i ∧ i < off + k + (l.length + 1) ∧ i < cs.size
      · rw [if_pos h2, if_pos (by omega), show i - (off + k) = (i - (off + (k + 1))) + 1 from by omega, List.getElem?_cons_succ]
      · rw [if_neg h2, if_neg (by omega)]

theorem splice_eq (off : Nat) (cs c : Array Value) : Array.foldl (fun cs (x : Value × Nat) => cs.setIfInBounds (off + x.snd) x.fst) cs c.zipIdx = (c.toList.zipIdx 0).foldl (fun cs (p : Value × Nat) => cs.setIfInBounds (off + p.2) p.1) cs := by
  rw [← Array.foldl_toList, Array.toList_zipIdx]
theorem splice_size (off : Nat) : ∀ (l : List Value) (k : Nat) (cs : Array Value), ((l.zipIdx k).foldl (fun cs (p : Value × Nat) => cs.setIfInBounds (off + p.2) p.1) cs).size = cs.size := by
  intro l
  induction l with
  | nil => intro k cs; rfl
  | cons x l ih => intro k cs; rw [List.zipIdx_cons, List.foldl_cons, ih, Array.size_setIfInBounds]

-- left out here: None
-- left out here: None
-- left out here: None
-- left out here: None
-- left out here: None
-- left out here: None
-- left out here: None
-- left out here: None
end Go.Proofs.Ytpkfjdaedaplfaa

namespace Go.Proofs.Ytpkfjdaedaplfaa
open Go.RowKit

def flatC (ps : List (Nat × Value)) : List Value := ps.flatMap fun x => x.2.cells.toList
def Fits (place : Nat → Option (Nat × Nat)) : Nat → List (Nat × Value) → Prop
  | _, [] => True
  | off, (i, v) :: r => place i = some (off, v.cells.size) ∧ Fits place (off + v.cells.size) r
theorem fill_seq (place : Nat → Option (Nat × Nat)) : ∀ (ps : List (Nat × Value)) (done junk : List Value), Fits place done.length ps → (flatC ps).length ≤ junk.length →
    Instr.fill place (done ++ junk).toArray ps = some (done ++ flatC ps ++ junk.drop (flatC ps).length).toArray := by
  intro ps
  induction ps with
  | nil => intro done junk _ _; simp [Instr.fill, flatC]
  | cons p ps ih =>
    obtain ⟨i, v⟩ := p
    intro done junk hf hl
    have e : flatC ((i, v) :: ps) = v.cells.toList ++ flatC ps := rfl
    have lv : v.cells.toList.length = v.cells.size := Array.length_toList
    rw [e, List.length_append, lv] at hl
    have hst : (v.cells.toList.zipIdx 0).foldl (fun cs (p : Value × Nat) => cs.setIfInBounds (done.length + p.2) p.1) (done ++ junk).toArray = ((done ++ v.cells.toList) ++ junk.drop v.cells.size).toArray := by
      apply Array.ext_getElem?
      intro k
      rw [foldset, List.getElem?_toArray, List.getElem?_toArray]
      simp only [Nat.add_zero, lv, List.size_toArray, List.length_append]
      by_cases h1 : k < done.length
      · rw [if_neg (by omega), List.append_assoc, List.getElem?_append_left h1, List.getElem?_append_left h1]
      · by_cases h2 : k < done.length + v.cells.size
        · rw [if_pos (by omega), List.append_assoc, List.getElem?_append_right (by omega), List.getElem?_append_left (by rw [lv]; omega)]
        · rw [if_neg (by omega), List.getElem?_append_right (by omega), List.append_assoc, List.getElem?_append_right (by omega), List.getElem?_append_right (by rw [lv]; omega), List.getElem?_drop, lv]
          congr 1; omega
    have ih' := ih (done ++ v.cells.toList) (junk.drop v.cells.size) (by rw [List.length_append, lv]; exact hf.2) (by rw [List.length_drop]; omega)
    rw [e, Instr.fill, hf.1]
    simp only [splice_eq]
    rw [if_neg (by simp; omega), hst, ih']
    congr 2
    rw [List.length_append, lv, List.drop_drop]
    simp only [List.append_assoc]
section
variable {P : Program}
theorem built_arr {T E n s N : Nat} (hu : P.underlying T = some (.array n E)) (hz : (P.info? T).map (fun i => i.zero.map (fun z => z.cells.size)) = some (some N)) (hs : (P.info? E).map (·.size) = some s) (ps : List (Nat × Value))
    (hf : Fits (fun i => some (i * s, s)) 0 ps) (hN : (flatC ps).length = N) : P.built T ps = some (flatC ps).toArray := by
  unfold Program.built
  rcases hi : P.info? T with _ | it
  · rw [hi] at hz; cases hz
  rcases hj : P.info? E with _ | ie
  · rw [hj] at hs; cases hs
  rw [hi] at hz
  rw [hj] at hs
  rcases hz0 : it.zero with _ | z
  · simp [hz0] at hz
  have hs' : ie.size = s := by simpa using hs
  have hz' : z.cells.size = N := by simpa [hz0] using hz
  rw [hu]
  simp only [hz0, hj, hs']
  have lz : z.cells.toList.length = z.cells.size := Array.length_toList
  have h := fill_seq (fun i => some (i * s, s)) ps [] z.cells.toList hf (by rw [lz]; omega)
  rw [List.nil_append, Array.toArray_toList] at h
  rw [h, List.drop_eq_nil_of_le (by rw [lz]; omega)]
  simp
theorem built_str {T N : Nat} {fs : Array Field} {pl : List (Nat × Nat)} (hu : P.underlying T = some (.struct fs)) (hz : (P.info? T).map (fun i => i.zero.map (fun z => z.cells.size)) = some (some N))
    (hp : fs.toList.mapM (fun f => (P.info? f.type).map fun i => (f.offset, i.size)) = some pl) (ps : List (Nat × Value)) (hf : Fits (fun i => pl.toArray[i]?) 0 ps) (hN : (flatC ps).length = N) : P.built T ps = some (flatC ps).toArray := by
  unfold Program.built
  rcases hi : P.info? T with _ | it
  · rw [hi] at hz; cases hz
  rw [hi] at hz
  rcases hz0 : it.zero with _ | z
  · simp [hz0] at hz
  have hz' : z.cells.size = N := by simpa [hz0] using hz
  rw [hu]
  simp only [hz0, hp]
  have lz : z.cells.toList.length = z.cells.size := Array.length_toList
  have h := fill_seq (fun i => pl.toArray[i]?) ps [] z.cells.toList hf (by rw [lz]; omega)
  rw [List.nil_append, Array.toArray_toList] at h
  rw [h, List.drop_eq_nil_of_le (by rw [lz]; omega)]
  simp
/-- a slice of n entries -/
theorem run_buildSl {T E s n : Nat} (hu : P.underlying T = some (.slice E)) (hz : (P.info? E).map (fun i => i.zero.isSome) = some true) (hs : (P.info? E).map (·.size) = some s) (ps : Array (Nat × Value))
    (hf : Fits (fun i => some (i * s, s)) 0 ps.toList) (hN : (flatC ps.toList).length = n * s) (h0 : 0 < n * s) (hm : n * s ≤ 2 ^ 24) (w : World) :
    (Instr.buildSlice T n ps).run P w = .ok (.slice (some ⟨w.heap.size, 0, none⟩) n n) (w.alloc (.cells (flatC ps.toList).toArray E)) := by
  rcases hj : P.info? E with _ | ie
  · rw [hj] at hs; cases hs
  rw [hj] at hs hz
  have hs' : ie.size = s := by simpa using hs
  rcases hz0 : ie.zero with _ | z
  · simp [hz0] at hz
  have hfl : ∀ zc : Array Value, Instr.fill (fun i => some (i * s, s)) ((Array.range (n * s)).map (zc[· % zc.size]!)) ps.toList = some (flatC ps.toList).toArray := fun zc => by
    have lz : ((Array.range (n * s)).map (zc[· % zc.size]!)).toList.length = n * s := by simp
    have h := fill_seq (fun i => some (i * s, s)) ps.toList [] ((Array.range (n * s)).map (zc[· % zc.size]!)).toList hf (by rw [lz]; omega)
    rw [List.nil_append, Array.toArray_toList] at h
    rw [h, List.drop_eq_nil_of_le (by rw [lz]; omega)]
    simp
  have hne : ¬ n * s = 0 := by omega
  have hle : ¬ n * s > 2 ^ 24 := by omega
  simp only [Instr.buildSlice, run_underlying hu, sizeOf, typeInfo, hj, hs', zeroValue, hz0, Sem.run_bind, Sem.run_pure, Result.andThen_ok, run_program, hne, hle, if_false, hfl]
  simp [newRow, Sem.run_bind]
end
end Go.Proofs.Ytpkfjdaedaplfaa

namespace Go.Proofs.Ytpkfjdaedaplfaa
open Go.RowKit

@[irreducible] def nv9 (f : Nat → Nat) : Array Value := row 32 fun i => .int .i64 (f i)
theorem nv9_size (f : Nat → Nat) : (nv9 f).size = 32 := by unfold nv9; exact row_size _ _
theorem nv9_get (f : Nat → Nat) {i : Nat} (h : i < 32) : (nv9 f)[i]? = some (.int .i64 (f i)) := by unfold nv9; exact row_get _ _ h
theorem nv9_set (f : Nat → Nat) (i v : Nat) : (nv9 f).setIfInBounds i (.int .i64 v) = nv9 (fset f i v) := by
  unfold nv9
  rw [row_set]
  apply row_congr
  intro j _
  unfold fset
  by_cases c : j = i
  · rw [if_pos c, if_pos c]
  · rw [if_neg c, if_neg c]
theorem nv9_congr {f g : Nat → Nat} (h : ∀ i, i < 32 → f i = g i) : nv9 f = nv9 g := by
  unfold nv9; exact row_congr fun i hi => by rw [h i hi]
theorem nv9_cells (f : Nat → Nat) : (nv9 f).all (·.oneCell') = true := by unfold nv9 row; simp [Value.oneCell']
theorem nv9_zero : nv9 (fun _ => 0) = #[.int .i64 0, .int .i64 0, .int .i64 0, .int .i64 0, .int .i64 0, .int .i64 0, .int .i64 0, .int .i64 0, .int .i64 0, .int .i64 0, .int .i64 0, .int .i64 0, .int .i64 0, .int .i64 0, .int .i64 0, .int .i64 0, .int .i64 0, .int .i64 0, .int .i64 0, .int .i64 0, .int .i64 0, .int .i64 0, .int .i64 0, .int .i64 0, .int .i64 0, .int .i64 0, .int .i64 0, .int .i64 0, .int .i64 0, .int .i64 0, .int .i64 0, .int .i64 0] := by unfold nv9 row; rfl
def I32n (c : Array Value) : Prop := c.size = 32
@[go_sem] theorem i32n_nv9 (f : Nat → Nat) : I32n (nv9 f) ↔ True := ⟨fun _ => trivial, fun _ => nv9_size f⟩
@[go_sem] theorem i32n_lit (x0 x1 x2 x3 x4 x5 x6 x7 x8 x9 x10 x11 x12 x13 x14 x15 x16 x17 x18 x19 x20 x21 x22 x23 x24 x25 x26 x27 x28 x29 x30 x31 : Value) : I32n #[x0, x1, x2, x3, x4, x5, x6, x7, x8, x9, x10, x11, x12, x13, x14, x15, x16, x17, x18, x19, x20, x21, x22, x23, x24, x25, x26, x27, x28, x29, x30, x31] ↔ True := ⟨fun _ => trivial, fun _ => rfl⟩
@[go_sem] theorem ones_nv9 (f : Nat → Nat) : Ones (nv9 f) ↔ True := ⟨fun _ => trivial, fun _ => nv9_cells f⟩
@[go_sem] theorem rowOk_at32n {w : World} {g : Nat} {c : Array Value} {t : TypeId} (h : g = w.heap.size) (hc : I32n c) : rowOk (w.alloc (.cells c t)) g 32 ↔ True := ⟨fun _ => trivial, fun _ => ⟨c, t, heap_at _ _ _ h, hc⟩⟩
@[go_sem] theorem rowOk_same32n {w : World} {g : Nat} {c' : Array Value} (h : rowOk w g 32) (hc : I32n c') : rowOk (w.setRow g c') g 32 ↔ True := ⟨fun _ => trivial, fun _ => rowOk_setRow h hc⟩
-- left out here: None
-- left out here: None
section
variable {ρ : Operand → Value} {dst : Option Tmp} {x y : Operand} {ty : TypeId} {pos : String} {after : Array Edge} {guard : Option (Nat × Bool)} {w : World} {g : Nat} {cs : Array Value}
-- left out here: None
-- left out here: None
-- left out here: None
-- left out here: None
-- left out here: None
-- left out here: None
-- left out here: None
-- left out here: None
end
-- left out here: None
-- left out here: None
theorem infoI9 : (Try.prog.info? 2).map (·.size) = some 1 := by kernel_rfl
-- left out here: None
-- left out here: idxN9
theorem snocInd9 {α : Type} {P : List α → Prop} (h0 : P []) (hs : ∀ l x, P l → P (l ++ [x])) (l : List α) : P l := by
  have : ∀ k : List α, P k.reverse := by
    intro k
    induction k with
    | nil => exact h0
    | cons x k ih => rw [List.reverse_cons]; exact hs _ _ ih
  have h := this l.reverse
  rwa [List.reverse_reverse] at h
/-- two numbers for each edge -/
def lk9 (e0 e1 : Nat → Nat) : Nat → Nat := fun i => if i % 2 = 0 then e0 (i / 2) else e1 (i / 2)
theorem lk9_0 (e0 e1 : Nat → Nat) (x : Nat) : lk9 e0 e1 (x * 2) = e0 x := by unfold lk9; rw [if_pos (by omega), show x * 2 / 2 = x by omega]
theorem lk9_1 (e0 e1 : Nat → Nat) (x : Nat) : lk9 e0 e1 (x * 2 + 1) = e1 x := by unfold lk9; rw [if_neg (by omega), show (x * 2 + 1) / 2 = x by omega]
/-- the pieces behind an edge more -/
def pst9 (e0 e1 : Nat → Nat) (h : Nat → Nat) (x : Nat) : Nat → Nat := fun p => if h p = h (e1 x) then h (e0 x) else h p
def pcs9 (e0 e1 : Nat → Nat) (l : List Nat) : Nat → Nat := l.foldl (pst9 e0 e1) id
theorem pcs9_snoc (e0 e1 : Nat → Nat) (l : List Nat) (x : Nat) : pcs9 e0 e1 (l ++ [x]) = pst9 e0 e1 (pcs9 e0 e1 l) x := by unfold pcs9; rw [List.foldl_append]; rfl
theorem pst9_same {e0 e1 : Nat → Nat} {h : Nat → Nat} {x : Nat} (he : h (e0 x) = h (e1 x)) : pst9 e0 e1 h x = h := by
  funext p; unfold pst9; split
  · rename_i hp; rw [hp, he]
  · rfl
theorem pcs9_lt {e0 e1 : Nat → Nat} (l : List Nat) (hl : ∀ x ∈ l, e0 x < 32 ∧ e1 x < 32) : ∀ p, p < 32 → pcs9 e0 e1 l p < 32 := by
  induction l using snocInd9 with
  | h0 => exact fun p h => h
  | hs l x ih =>
    intro p hp
    have ih' := ih fun y hy => hl y (List.mem_append_left _ hy)
    rw [pcs9_snoc]; unfold pst9
    split
    · exact ih' _ (hl x (by simp)).1
    · exact ih' _ hp
/-- the edges that connect two pieces of those before, and the other ones -/
def spst9 (e0 e1 : Nat → Nat) (s : List Nat × List Nat) (x : Nat) : List Nat × List Nat :=
  if pcs9 e0 e1 s.1 (e0 x) = pcs9 e0 e1 s.1 (e1 x) then (s.1, s.2 ++ [x]) else (s.1 ++ [x], s.2)
def spl9 (e0 e1 : Nat → Nat) (l : List Nat) : List Nat × List Nat := l.foldl (spst9 e0 e1) ([], [])
theorem spl9_snoc (e0 e1 : Nat → Nat) (l : List Nat) (x : Nat) : spl9 e0 e1 (l ++ [x]) = spst9 e0 e1 (spl9 e0 e1 l) x := by unfold spl9; rw [List.foldl_append]; rfl
theorem spl9_take (e0 e1 : Nat → Nat) (l : List Nat) {i : Nat} (h : i < l.length) : spl9 e0 e1 (l.take (i + 1)) = spst9 e0 e1 (spl9 e0 e1 (l.take i)) l[i] := by
  rw [List.take_succ_eq_append_getElem h, spl9_snoc]
theorem spl9_mem (e0 e1 : Nat → Nat) (l : List Nat) : ∀ x, x ∈ l ↔ x ∈ (spl9 e0 e1 l).1 ∨ x ∈ (spl9 e0 e1 l).2 := by
  induction l using snocInd9 with
  | h0 => intro x; simp [spl9]
  | hs l y ih =>
    intro x
    rw [spl9_snoc]; unfold spst9
    split
    · simp [ih x, or_assoc]
    · simp [ih x]
      constructor
      · rintro ((h | h) | h)
        · exact .inl (.inl h)
        · exact .inr h
        · exact .inl (.inr h)
      · rintro ((h | h) | h)
        · exact .inl (.inl h)
        · exact .inr h
        · exact .inl (.inr h)
theorem spl9_len (e0 e1 : Nat → Nat) (l : List Nat) : (spl9 e0 e1 l).1.length + (spl9 e0 e1 l).2.length = l.length := by
  induction l using snocInd9 with
  | h0 => rfl
  | hs l y ih =>
    rw [spl9_snoc]; unfold spst9
    split <;> simp <;> omega
/-- the pieces of all edges are those of the ones that connect -/
theorem spl9_pcs (e0 e1 : Nat → Nat) (l : List Nat) : pcs9 e0 e1 l = pcs9 e0 e1 (spl9 e0 e1 l).1 := by
  induction l using snocInd9 with
  | h0 => rfl
  | hs l y ih =>
    rw [spl9_snoc, pcs9_snoc, ih]; unfold spst9
    split
    · rename_i h; exact pst9_same h
    · exact (pcs9_snoc _ _ _ _).symm
end Go.Proofs.Ytpkfjdaedaplfaa

namespace Go.Proofs.Ytpkfjdaedaplfaa
open Go.RowKit

/-- s[k:] -/
@[irreducible] def lo9 (A : Option Addr) (n c k : Nat) : Value := .slice (if c = k then A else A.map (·.add (k * 1))) (n - k) (c - k)
theorem lo9_eq (A : Option Addr) (n c k : Nat) : lo9 A n c k = .slice (if c = k then A else A.map (·.add (k * 1))) (n - k) (c - k) := by unfold lo9; rfl
def slLo9 (x y : Value) : Sem Next := do pure (.value (← Instr.sliceAt 79 x (some y) none none))
@[go_sem ↓] theorem exec_slLo9 (ρ : Operand → Value) (dst : Option Tmp) (x y : Operand) (ty : TypeId) (pos : String) (after : Array Edge) (guard : Option (Nat × Bool)) :
    execOp ρ { dst, op := .slice 79 x (some y) none none, type := ty, pos, after, guard } = slLo9 (ρ x) (ρ y) := rfl
theorem run_slLo9 (A : Option Addr) (n c k : Nat) (h1 : k ≤ n) (w : World) : (slLo9 (.slice A n c) (.int .i64 k)).run Try.prog w = .ok (.value (lo9 A n c k)) w := by
  rw [lo9_eq]
  have hn := infoI9
  have hz : Try.prog.cellsOf 2 = 1 := by kernel_rfl
  rcases hi : Try.prog.info? 2 with _ | it
  · rw [hi] at hn; cases hn
  have hz' : (sizeOf 2).run Try.prog w = .ok 1 w := by rw [run_sizeOf w hi, hz]
  have hb : (0 : Int) ≤ (k : Int) ∧ (k : Int) ≤ (n : Int) := by omega
  simp only [slLo9, Instr.sliceAt, Instr.slice, Instr.sliceBounds, Instr.sliceBound, asIntOf, run_underlying Try.underlying79, Sem.run_bind, Sem.run_pure, Result.andThen_ok]
  rw [if_pos hb]
  simp only [Sem.run_pure, Result.andThen_ok, hz', Int.toNat_natCast]
theorem RdZ.drop9 {w : World} {A : Option Addr} {n c k : Nat} {l : List Int} (h : RdZ w (.slice A n c) l) (hk : k ≤ n) (hc : n ≤ c) : RdZ w (lo9 A n c k) (l.drop k) := by
  obtain ⟨A', c', e, h1, h2⟩ := h
  injection e with e1 e2 e3
  subst e1 e2 e3
  rw [lo9_eq]
  refine ⟨_, _, by rw [List.length_drop], by rw [List.length_drop]; omega, fun i x hx => ?_⟩
  rw [List.getElem?_drop] at hx
  obtain ⟨a, rfl, h3, h4⟩ := h2 _ _ hx
  have := (List.getElem?_eq_some_iff.1 hx).1
  rw [if_neg (by omega)]
  refine ⟨a.add (k * 1), rfl, ?_, ?_⟩
  · unfold Addr.add; split <;> exact h3
  · rw [Addr.add_add, Nat.mul_one]; exact h4
theorem RdZ.take9 {w : World} {A : Option Addr} {n c k : Nat} {l : List Int} (h : RdZ w (.slice A n c) l) (hk : k ≤ n) : RdZ w (.slice A k c) (l.take k) := by
  obtain ⟨A', c', e, h1, h2⟩ := h
  injection e with e1 e2 e3
  subst e1 e2 e3
  have hl : (l.take k).length = k := by rw [List.length_take]; omega
  refine ⟨_, _, by rw [hl], by rw [hl]; omega, fun i x hx => ?_⟩
  have := (List.getElem?_eq_some_iff.1 hx).1
  rw [List.getElem?_take_of_lt (by omega)] at hx
  exact h2 _ _ hx
theorem lo9_form (A : Option Addr) (n c k : Nat) : ∃ B d, lo9 A n c k = .slice B (n - k) d := by rw [lo9_eq]; exact ⟨_, _, rfl⟩
/-- two slices in a block, as a list of lists that reads -/
theorem rd_two9 {w : World} {g : Nat} {s1 s2 : Value} {l1 l2 : List Int} (hb : w.heap[g]? = some (.cells #[s1, s2] 79 (0, 0))) (h1 : RdZ w s1 l1) (h2 : RdZ w s2 l2) : RdZ2 w (.slice (some ⟨g, 0, none⟩) 2 2) [l1, l2] := by
  refine ⟨_, _, [s1, s2], rfl, by simp, rfl, fun i u hu => ?_, fun i u l hu hl => ?_⟩
  · refine ⟨⟨g, 0, none⟩, rfl, lt_of_some hb, ?_⟩
    rw [show ((⟨g, 0, none⟩ : Addr).add i) = ⟨g, i, none⟩ by simp [Addr.add]; exact Eq.symm, cell_of_cells, cellsOf_heap hb]
    simpa using hu
  · rcases i with _ | _ | i
    · simp at hu hl; subst hu hl; exact h1
    · simp at hu hl; subst hu hl; exact h2
    · simp at hu
namespace Rd
/-- a call that hands back a list of whole numbers of its own -/
theorem upon9_callZ {P : Program} {f : Nat} {args : Array Value} {w0 wx : World} {L L1 : List Part} {l : List Int} (hx : Holds w0 wx L) (hD : Holds w0 wx L1) (h : Calls P f args wx fun e wy => ∃ u, e = .returned u ∧ Holds wx wy [pZ9 u l]) :
    upon9 P (fun w => Holds w0 w L) (fun v w => Holds w0 w (pZ9 v l :: L1)) wx (.ok (.enter f args) wx) := by
  rw [upon9_eq]
  refine ⟨rfl, h.mono ?_⟩
  rintro e wy ⟨u, rfl, hu⟩
  exact ⟨u, rfl, hx.call hu.low, (hD.joinL hu).perm List.perm_append_comm⟩
theorem v_ownZ9 {P : Program} {ops : Array Oper} {E : Nat → Bool} {k : Nat} {a : Act} {N : Act → (World → Prop) → Prop} {w0 : World} {L L1 : List Part} {o : Oper} (l : List Int) (ho : ops[k]? = some o) (hE : E k = true) (hw : Region.wanted o (yielded ops a.tmps) = true)
    (h1 : ∀ w, Holds w0 w L → Holds w0 w L1 → upon9 P (fun w => Holds w0 w L) (fun v w => Holds w0 w (pZ9 v l :: L1)) w ((execOp a.eval o).run P w))
    (h2 : ∀ v, N (a.put o.dst v) (fun wx => Holds w0 wx (pZ9 v l :: L1))) : opV P ops (fun wx => Holds w0 wx L) E k N a (fun wx => Holds w0 wx L1) :=
  v_s9 (fun v w => Holds w0 w (pZ9 v l :: L1)) (fun _ _ _ h hb => h.call hb) ho hE hw h1 fun v _ => h2 v
/-- a value that is known by what is held -/
theorem v_known9 {P : Program} {ops : Array Oper} {E : Nat → Bool} {k : Nat} {a : Act} {N : Act → (World → Prop) → Prop} {w0 : World} {L L1 : List Part} {o : Oper} (c : Value) (ho : ops[k]? = some o) (hE : E k = true) (hw : Region.wanted o (yielded ops a.tmps) = true)
    (h1 : ∀ w, Holds w0 w L → Holds w0 w L1 → upon9 P (fun w => Holds w0 w L) (fun u w => u = c ∧ Holds w0 w L1) w ((execOp a.eval o).run P w))
    (h2 : N (a.put o.dst c) (fun wx => Holds w0 wx L1)) : opV P ops (fun wx => Holds w0 wx L) E k N a (fun wx => Holds w0 wx L1) := by
  refine v_s9 (fun u w => u = c ∧ Holds w0 w L1) (fun _ _ _ h hb => ⟨h.1, h.2.call hb⟩) ho hE hw h1 ?_
  rintro v ⟨w, _, rfl, _⟩
  refine cast (congrArg (N _) ?_) h2
  funext wx
  exact propext ⟨fun h => ⟨rfl, h⟩, fun h => h.2⟩
theorem upon9_callK {P : Program} {f : Nat} {args : Array Value} {w0 wx : World} {L L1 : List Part} {c : Value} (hx : Holds w0 wx L) (hD : Holds w0 wx L1) (h : Calls P f args wx fun e wy => e = .returned c ∧ Below wx.heap.size wx wy) :
    upon9 P (fun w => Holds w0 w L) (fun u w => u = c ∧ Holds w0 w L1) wx (.ok (.enter f args) wx) := by
  rw [upon9_eq]
  refine ⟨rfl, h.mono ?_⟩
  rintro e wy ⟨rfl, hb⟩
  exact ⟨c, rfl, hx.call hb, rfl, hD.call hb⟩
theorem region_Q3 {P : Program} {id : Nat} {Q : Exit → Act → World → Prop} {a : Act} {w w0 : World} {l : List Oper} (L : List Part) (L1 : List Part) (sp : List Nat) (p : Plan) (H : Holds w0 w L1) (hL : L.Sublist L1)
    (hm : P.follows .mixedOrders = true) (hsel : Region.noSelect l.toArray = true) (hB : planB .any l.toArray sp l.toArray.size p (Array.replicate l.toArray.size false) = true)
    {α β γ : Type} (F : α → β → γ → List Part) (act : α → β → γ → Act)
    (h : ∀ K : Act → World → Prop, (∀ g g' g'' wx, Holds w0 wx (F g g' g'') → K (act g g' g'') wx) → walkV P l.toArray (fun wx => Holds w0 wx L) (fun k => sp.contains k) K p a (fun wx => Holds w0 wx L1))
    (key : ∀ g g' g'' wx, Holds w0 wx (F g g' g'') → Q .normal (act g g' g'') wx) : (Code.region id l.toArray true).wp P Q a w :=
  region_P L L1 sp p H hL hm hsel hB (h (fun a' w' => Q .normal a' w') key)
end Rd
end Go.Proofs.Ytpkfjdaedaplfaa

namespace Go.Proofs.Ytpkfjdaedaplfaa

/-- the product of a list -/
def prZ : List Int → Int
  | [] => 1
  | x :: l => x * prZ l
theorem prZ_append (l m : List Int) : prZ (l ++ m) = prZ l * prZ m := by
  induction l with
  | nil => simp [prZ]
  | cons x l ih => rw [List.cons_append, prZ, prZ, ih, Int.mul_assoc]
theorem prZ_rep (n : Nat) (x : Int) : prZ (List.replicate n x) = x ^ n := by
  induction n with
  | zero => simp [prZ]
  | succ n ih => rw [List.replicate_succ, prZ, ih, Int.pow_succ, Int.mul_comm]
theorem prZ_set (l : List Int) (i : Nat) (h : i < l.length) (y g : Int) (hy : l[i] = y * g) : prZ l = prZ (l.set i y) * g := by
  induction l generalizing i with
  | nil => simp at h
  | cons x l ih =>
    cases i with
    | zero =>
      simp only [List.getElem_cons_zero] at hy
      rw [List.set_cons_zero, prZ, prZ, hy, Int.mul_assoc, Int.mul_assoc, Int.mul_comm g]
    | succ i =>
      simp only [List.getElem_cons_succ] at hy
      rw [List.set_cons_succ, prZ, prZ, ih i (by simpa using h) hy, Int.mul_assoc]
theorem prZ_zero {l : List Int} : prZ l = 0 ↔ 0 ∈ l := by
  induction l with
  | nil => simp [prZ]
  | cons x l ih =>
    rw [prZ, Int.mul_eq_zero, ih, List.mem_cons]
    constructor
    · rintro (h | h)
      · exact .inl h.symm
      · exact .inr h
    · rintro (h | h)
      · exact .inl h.symm
      · exact .inr h
/-- the nearest number of at most 1000000001 -/
def clp (x : Int) : Int := min (max x (-1000000001)) 1000000001
def capL (p : Int) : List Int → Int
  | [] => p
  | x :: l => capL (clp (p * x)) l
theorem clp_in (x : Int) : -1000000001 ≤ clp x ∧ clp x ≤ 1000000001 := by unfold clp; omega
theorem clp_id {x : Int} (h : -1000000001 ≤ x ∧ x ≤ 1000000001) : clp x = x := by unfold clp; omega
theorem clp_clp (p x : Int) : clp (clp p * x) = clp (p * x) := by
  by_cases h : -1000000001 ≤ p ∧ p ≤ 1000000001
  · rw [clp_id h]
  · have hx : x = 0 ∨ 1 ≤ x ∨ x ≤ -1 := by omega
    by_cases h1 : 1000000001 < p
    · have e : clp p = 1000000001 := by unfold clp; omega
      rw [e]
      rcases hx with rfl | hx | hx
      · simp
      · have := Int.mul_le_mul_of_nonneg_right (show (1000000001 : Int) ≤ p by omega) (show 0 ≤ x by omega)
        unfold clp; omega
      · have := Int.mul_le_mul_of_nonneg_right (show (1000000001 : Int) ≤ p by omega) (show 0 ≤ -x by omega)
        rw [Int.mul_neg, Int.mul_neg] at this
        unfold clp; omega
    · have e : clp p = -1000000001 := by unfold clp; omega
      rw [e]
      rcases hx with rfl | hx | hx
      · simp
      · have := Int.mul_le_mul_of_nonneg_right (show p ≤ -1000000001 by omega) (show 0 ≤ x by omega)
        unfold clp; omega
      · have := Int.mul_le_mul_of_nonneg_right (show p ≤ -1000000001 by omega) (show 0 ≤ -x by omega)
        rw [Int.mul_neg, Int.mul_neg] at this
        unfold clp; omega
theorem capL_eq (l : List Int) (p : Int) : capL (clp p) l = clp (p * prZ l) := by
  induction l generalizing p with
  | nil => simp [capL, prZ]
  | cons x l ih => rw [capL, clp_clp, ih, prZ, Int.mul_assoc]
theorem capL_one (l : List Int) : capL 1 l = clp (prZ l) := by
  have := capL_eq l 1
  rwa [show clp 1 = 1 by decide, Int.one_mul] at this

/-- coprime numbers told with signs -/
def sgN (a b : Int) : Int × Int := if b < 0 ∨ b = 0 ∧ a < 0 then (-a, -b) else (a, b)
/-- a quotient in least terms -/
def nrm (P Q : Int) : Int × Int := sgN (P / Int.gcd P Q) (Q / Int.gcd P Q)
theorem gcd_scale {a b d : Int} (h : Int.gcd a b = 1) (hd : 0 < d) : (Int.gcd (a * d) (b * d) : Int) = d := by
  rw [Int.gcd_mul_right, h, Nat.one_mul]; omega
theorem nrm_of {a b d : Int} (h : Int.gcd a b = 1) (hd : 0 < d) : nrm (a * d) (b * d) = sgN a b := by
  unfold nrm
  rw [gcd_scale h hd, Int.mul_ediv_cancel _ (by omega), Int.mul_ediv_cancel _ (by omega)]
theorem nrm_cop {a b : Int} (h : Int.gcd a b = 1) : nrm a b = sgN a b := by
  have := nrm_of h (d := 1) (by decide)
  simpa using this
theorem nrm_parts {P Q : Int} (h : P ≠ 0 ∨ Q ≠ 0) : ∃ a b d : Int, 0 < d ∧ P = a * d ∧ Q = b * d ∧ Int.gcd a b = 1 ∧ nrm P Q = sgN a b := by
  have hg : 0 < Int.gcd P Q := by
    rcases h with h | h
    · exact Int.gcd_pos_of_ne_zero_left _ h
    · exact Int.gcd_pos_of_ne_zero_right _ h
  have h1 : P = P / Int.gcd P Q * Int.gcd P Q := (Int.ediv_mul_cancel (Int.gcd_dvd_left ..)).symm
  have h2 : Q = Q / Int.gcd P Q * Int.gcd P Q := (Int.ediv_mul_cancel (Int.gcd_dvd_right ..)).symm
  refine ⟨P / Int.gcd P Q, Q / Int.gcd P Q, Int.gcd P Q, by omega, h1, h2, ?_, rfl⟩
  have key : ∀ (p q : Int) (g : Nat), P = p * g → Q = q * g → g = Int.gcd P Q → Int.gcd p q = 1 := by
    intro p q g e1 e2 e3
    have hg' : 0 < g := by omega
    rw [e1, e2, Int.gcd_mul_right] at e3
    have : g = Int.gcd p q * g := by simpa using e3
    exact Nat.eq_of_mul_eq_mul_right hg' (by rw [← this, Nat.one_mul])
  exact key _ _ _ h1 h2 rfl
theorem sgN_gcd (a b : Int) : Int.gcd (sgN a b).1 (sgN a b).2 = Int.gcd a b := by
  unfold sgN; split <;> simp
/-- what is told of a quotient: its least terms if they are not too great -/
def isP (x : Int) : Prop := -1000000000 ≤ x ∧ x ≤ 1000000000
instance (x : Int) : Decidable (isP x) := by unfold isP; infer_instance
def resN (P Q : Int) : Int := if isP (nrm P Q).1 ∧ isP (nrm P Q).2 then (nrm P Q).1 else 0
def resD (P Q : Int) : Int := if isP (nrm P Q).1 ∧ isP (nrm P Q).2 then (nrm P Q).2 else 0
def resC (P Q c : Int) : Int := if isP (nrm P Q).1 ∧ isP (nrm P Q).2 then 0 else c
theorem isP_clp (x : Int) : isP (clp x) ↔ isP x := by unfold isP clp; omega
theorem isP_neg (x : Int) : isP (-x) ↔ isP x := by unfold isP; omega
theorem sgN_clp (a b : Int) : sgN (clp a) (clp b) = (if b < 0 ∨ b = 0 ∧ a < 0 then (-(clp a), -(clp b)) else (clp a, clp b)) := by
  unfold sgN
  have h1 : (clp b < 0 ∨ clp b = 0 ∧ clp a < 0) ↔ (b < 0 ∨ b = 0 ∧ a < 0) := by unfold clp; omega
  by_cases h : b < 0 ∨ b = 0 ∧ a < 0
  · rw [if_pos h, if_pos (h1.2 h)]
  · rw [if_neg h, if_neg (fun k => h (h1.1 k))]
theorem isP_sgN_clp (a b : Int) : (isP (sgN (clp a) (clp b)).1 ∧ isP (sgN (clp a) (clp b)).2) ↔ (isP (sgN a b).1 ∧ isP (sgN a b).2) := by
  rw [sgN_clp]
  unfold sgN
  split <;> simp [isP_neg, isP_clp]
theorem sgN_clp_eq {a b : Int} (h : isP (sgN a b).1 ∧ isP (sgN a b).2) : sgN (clp a) (clp b) = sgN a b := by
  rw [sgN_clp]
  unfold sgN at h ⊢
  split at h
  · rename_i c
    rw [if_pos c, if_pos c]
    rw [isP_neg, isP_neg] at h
    rw [clp_id (by unfold isP at h; omega), clp_id (by unfold isP at h; omega)]
  · rename_i c
    rw [if_neg c, if_neg c]
    rw [clp_id (by unfold isP at h; omega), clp_id (by unfold isP at h; omega)]
/-- lists of coprime numbers have coprime products -/
theorem prZ_cop {A B : List Int} (h : ∀ x ∈ A, ∀ y ∈ B, Int.gcd x y = 1) : Int.gcd (prZ A) (prZ B) = 1 := by
  have h1 : ∀ x : Int, (∀ y ∈ B, Int.gcd x y = 1) → Int.gcd x (prZ B) = 1 := by
    intro x
    clear h
    induction B with
    | nil => intro _; simp [prZ]
    | cons y B ih =>
      intro h
      rw [prZ, Int.gcd_eq_natAbs_gcd_natAbs, Int.natAbs_mul]
      exact Nat.Coprime.mul_right (h y (by simp)) (ih fun z hz => h z (by simp [hz]))
  induction A with
  | nil => simp [prZ]
  | cons x A ih =>
    rw [prZ, Int.gcd_eq_natAbs_gcd_natAbs, Int.natAbs_mul]
    exact Nat.Coprime.mul_left (h1 x (h x (by simp))) (ih fun z hz => h z (by simp [hz]))
/-- what the division of two factors by their common divisor leaves -/
theorem gcd_quo {a b : Int} (h : ¬ (a = 0 ∧ b = 0)) : ∃ a' b' : Int, a.tdiv (Int.gcd a b) = a' ∧ b.tdiv (Int.gcd a b) = b' ∧ a = a' * Int.gcd a b ∧ b = b' * Int.gcd a b ∧ Int.gcd a' b' = 1 ∧ 0 < (Int.gcd a b : Int) ∧ a'.natAbs ≤ a.natAbs ∧ b'.natAbs ≤ b.natAbs := by
  obtain ⟨a', b', d, hd, ha, hb, hg, _⟩ := nrm_parts (P := a) (Q := b) (by omega)
  have e : (Int.gcd a b : Int) = d := by rw [ha, hb]; exact gcd_scale hg hd
  refine ⟨a', b', ?_, ?_, by rw [e]; exact ha, by rw [e]; exact hb, hg, by omega, ?_, ?_⟩
  · rw [e, ha, Int.mul_tdiv_cancel _ (by omega)]
  · rw [e, hb, Int.mul_tdiv_cancel _ (by omega)]
  · rw [ha, Int.natAbs_mul]; exact Nat.le_mul_of_pos_right _ (by omega)
  · rw [hb, Int.natAbs_mul]; exact Nat.le_mul_of_pos_right _ (by omega)
theorem gcd_dvd_one {a b x : Int} (h : Int.gcd x a = 1) (hd : b ∣ a) : Int.gcd x b = 1 := by
  have : Int.gcd x b ∣ Int.gcd x a := by
    rw [Int.gcd_eq_natAbs_gcd_natAbs, Int.gcd_eq_natAbs_gcd_natAbs]
    exact Nat.dvd_gcd (Nat.gcd_dvd_left ..) (Nat.dvd_trans (Nat.gcd_dvd_right ..) (Int.natAbs_dvd_natAbs.2 hd))
  rw [h] at this
  exact Nat.dvd_one.1 this
/-- the two lists while their common divisors are taken out: A0, B0 at first, the pairs in front of (i, j) are done -/
structure QInv (A0 B0 A B : List Int) (i j : Nat) : Prop where
  la : A.length = A0.length
  lb : B.length = B0.length
  prod : ∃ d : Int, 0 < d ∧ prZ A0 = prZ A * d ∧ prZ B0 = prZ B * d
  zero : ¬ (0 ∈ A ∧ 0 ∈ B)
  small : (∀ x ∈ A, x.natAbs ≤ 2000000000) ∧ ∀ x ∈ B, x.natAbs ≤ 2000000000
  cop : ∀ (k l : Nat) (hk : k < A.length) (hl : l < B.length), (k < i ∨ k = i ∧ l < j) → Int.gcd A[k] B[l] = 1
theorem QInv.start {A0 B0 : List Int} (hz : ¬ (0 ∈ A0 ∧ 0 ∈ B0)) (ha : ∀ x ∈ A0, x.natAbs ≤ 2000000000) (hb : ∀ x ∈ B0, x.natAbs ≤ 2000000000) : QInv A0 B0 A0 B0 0 0 :=
  ⟨rfl, rfl, ⟨1, by decide, by simp, by simp⟩, hz, ⟨ha, hb⟩, fun k l _ _ h => by omega⟩
theorem QInv.row {A0 B0 A B : List Int} {i : Nat} (h : QInv A0 B0 A B i B.length) : QInv A0 B0 A B (i + 1) 0 :=
  ⟨h.la, h.lb, h.prod, h.zero, h.small, fun k l hk hl c => h.cop k l hk hl (by omega)⟩
theorem mem_set_of {l : List Int} {i : Nat} {y x : Int} (h : x ∈ l.set i y) : x = y ∨ x ∈ l := by
  rcases List.mem_or_eq_of_mem_set h with h | h
  · exact .inr h
  · exact .inl h
theorem QInv.next {A0 B0 A B : List Int} {i j : Nat} (h : QInv A0 B0 A B i j) (hi : i < A.length) (hj : j < B.length) :
    0 < (Int.gcd A[i] B[j] : Int) ∧ QInv A0 B0 (A.set i (A[i].tdiv (Int.gcd A[i] B[j]))) (B.set j (B[j].tdiv (Int.gcd A[i] B[j]))) i (j + 1) := by
  have hA := List.getElem_mem hi
  have hB := List.getElem_mem hj
  have hnz : ¬ (A[i] = 0 ∧ B[j] = 0) := fun ⟨h1, h2⟩ => h.zero ⟨h1 ▸ hA, h2 ▸ hB⟩
  obtain ⟨a, b, ea, eb, ha, hb, hab, hg, la, lb⟩ := gcd_quo hnz
  refine ⟨hg, ?_⟩
  rw [ea, eb]
  have pa := prZ_set A i hi a _ ha
  have pb := prZ_set B j hj b _ hb
  have sA := h.small.1 _ hA
  have sB := h.small.2 _ hB
  have dA : a ∣ A[i] := ⟨_, ha⟩
  have dB : b ∣ B[j] := ⟨_, hb⟩
  have za : ∀ x, x ∈ A.set i a → x = 0 → 0 ∈ A := fun x hx e => by
    rcases mem_set_of hx with c | c
    · rw [← c, e, Int.zero_mul] at ha; rw [← ha]; exact hA
    · rw [← e]; exact c
  have zb : ∀ x, x ∈ B.set j b → x = 0 → 0 ∈ B := fun x hx e => by
    rcases mem_set_of hx with c | c
    · rw [← c, e, Int.zero_mul] at hb; rw [← hb]; exact hB
    · rw [← e]; exact c
  refine ⟨by rw [List.length_set]; exact h.la, by rw [List.length_set]; exact h.lb, ?_, fun ⟨h1, h2⟩ => h.zero ⟨za _ h1 rfl, zb _ h2 rfl⟩, ⟨fun x hx => ?_, fun x hx => ?_⟩, fun k l hk hl c => ?_⟩
  · obtain ⟨d, hd, e1, e2⟩ := h.prod
    exact ⟨Int.gcd A[i] B[j] * d, Int.mul_pos hg hd, by rw [e1, pa, Int.mul_assoc], by rw [e2, pb, Int.mul_assoc]⟩
  · rcases mem_set_of hx with c | c
    · rw [c]; omega
    · exact h.small.1 x c
  · rcases mem_set_of hx with c | c
    · rw [c]; omega
    · exact h.small.2 x c
  · rw [List.length_set] at hk hl
    rw [List.getElem_set, List.getElem_set]
    by_cases c1 : i = k
    · rw [if_pos c1]
      by_cases c2 : j = l
      · rw [if_pos c2]; exact hab
      · rw [if_neg c2]
        have := h.cop k l hk hl (by omega)
        subst c1
        rw [Int.gcd_comm] at this ⊢
        exact gcd_dvd_one this dA
    · rw [if_neg c1]
      by_cases c2 : j = l
      · rw [if_pos c2]
        have := h.cop k l hk hl (by omega)
        subst c2
        exact gcd_dvd_one this dB
      · rw [if_neg c2]
        exact h.cop k l hk hl (by omega)
theorem QInv.done {A0 B0 A B : List Int} (h : QInv A0 B0 A B A.length 0) : nrm (prZ A0) (prZ B0) = sgN (prZ A) (prZ B) := by
  obtain ⟨d, hd, e1, e2⟩ := h.prod
  rw [e1, e2]
  refine nrm_of (prZ_cop fun x hx y hy => ?_) hd
  obtain ⟨k, hk, rfl⟩ := List.getElem_of_mem hx
  obtain ⟨l, hl, rfl⟩ := List.getElem_of_mem hy
  exact h.cop k l hk hl (.inl hk)
/-- a prime number -/
def prm (p : Nat) : Prop := 2 ≤ p ∧ ∀ d, d ∣ p → d = 1 ∨ d = p
theorem prm_cop {p x : Nat} (h : prm p) (hx : ¬ p ∣ x) : Nat.Coprime p x := by
  rcases h.2 _ (Nat.gcd_dvd_left p x) with c | c
  · exact c
  · exact absurd (c ▸ Nat.gcd_dvd_right p x) hx
/-- no divisor up to the square root: a prime -/
theorem prm_of {x : Nat} (hx : 2 ≤ x) (h : ∀ d, 2 ≤ d → d * d ≤ x → ¬ d ∣ x) : prm x := by
  refine ⟨hx, fun d hd => ?_⟩
  obtain ⟨e, he⟩ := hd
  have hd0 : d ≠ 0 := by rintro rfl; omega
  have he0 : e ≠ 0 := by rintro rfl; omega
  rcases Nat.lt_or_ge d 2 with c | c
  · left; omega
  · rcases Nat.lt_or_ge e 2 with c' | c'
    · right
      have : e = 1 := by omega
      subst this; omega
    · exfalso
      rcases Nat.le_total d e with k | k
      · exact h d c (by rw [he]; exact Nat.mul_le_mul_left d k) ⟨e, he⟩
      · exact h e c' (by rw [he]; exact Nat.mul_le_mul_right e k) ⟨d, by rw [Nat.mul_comm]; exact he⟩
theorem prm_least {x p : Nat} (hp : 2 ≤ p) (hd : p ∣ x) (h : ∀ d, 2 ≤ d → d < p → ¬ d ∣ x) : prm p := by
  refine ⟨hp, fun d k => ?_⟩
  have hd0 : 0 < d := Nat.pos_of_dvd_of_pos k (by omega)
  have hle := Nat.le_of_dvd (by omega) k
  rcases Nat.lt_or_ge d 2 with c | c
  · left; omega
  · rcases Nat.lt_or_ge d p with c' | c'
    · exact absurd (Nat.dvd_trans k hd) (h d c c')
    · right; omega
/-- the part of a quotient that no number of the other side meets -/
theorem red_dvd {P Q c y : Nat} {x : Nat} (hP : 0 < P) (h : P * y = Q * (x * c)) (hc : Nat.Coprime c y) : c ∣ P / Nat.gcd P Q := by
  have hg : 0 < Nat.gcd P Q := Nat.gcd_pos_of_pos_left _ hP
  obtain ⟨p, hp⟩ := Nat.gcd_dvd_left P Q
  obtain ⟨q, hq⟩ := Nat.gcd_dvd_right P Q
  have e : P / Nat.gcd P Q = p := by
    generalize Nat.gcd P Q = g at *
    subst hp
    exact Nat.mul_div_cancel_left _ hg
  rw [e]
  have h2 : p * y = q * (x * c) := by
    refine Nat.eq_of_mul_eq_mul_left hg ?_
    rw [← Nat.mul_assoc, ← Nat.mul_assoc, ← hp, ← hq]; exact h
  refine hc.dvd_of_dvd_mul_right (n := y) ?_
  exact ⟨q * x, by rw [h2, ← Nat.mul_assoc, Nat.mul_comm]⟩
theorem red_eq {P Q a b : Nat} (hP : 0 < P) (hQ : 0 < Q) (h : P * b = Q * a) (hc : Nat.Coprime a b) : P / Nat.gcd P Q = a ∧ Q / Nat.gcd P Q = b := by
  have hg : 0 < Nat.gcd P Q := Nat.gcd_pos_of_pos_left _ hP
  have h1 : a ∣ P / Nat.gcd P Q := red_dvd (x := 1) hP (by rw [Nat.one_mul]; exact h) hc
  have h2 : b ∣ Q / Nat.gcd P Q := by
    have := red_dvd (P := Q) (Q := P) (c := b) (y := a) (x := 1) hQ (by rw [Nat.one_mul]; exact h.symm) hc.symm
    rwa [Nat.gcd_comm] at this
  have hcop := Nat.coprime_div_gcd_div_gcd (m := P) (n := Q) hg
  have hp := Nat.div_mul_cancel (Nat.gcd_dvd_left P Q)
  have hq := Nat.div_mul_cancel (Nat.gcd_dvd_right P Q)
  generalize P / Nat.gcd P Q = p at *
  generalize Q / Nat.gcd P Q = q at *
  generalize Nat.gcd P Q = g at *
  have h3 : p * b = q * a := by
    refine Nat.eq_of_mul_eq_mul_left hg ?_
    rw [← Nat.mul_assoc, ← Nat.mul_assoc, Nat.mul_comm g p, Nat.mul_comm g q, hp, hq]; exact h
  have h4 : p ∣ a := hcop.dvd_of_dvd_mul_left (m := q) ⟨b, by rw [h3]⟩
  have h5 : q ∣ b := hcop.symm.dvd_of_dvd_mul_left (m := p) ⟨a, by rw [h3]⟩
  exact ⟨Nat.dvd_antisymm h4 h1, Nat.dvd_antisymm h5 h2⟩
theorem gcd_mul_le {a b c : Nat} (hb : 0 < b) (hc : 0 < Nat.gcd a c) : Nat.gcd a (b * c) ≤ b * Nat.gcd a c := by
  have h1 := Nat.gcd_mul_right_dvd_mul_gcd a b c
  have h2 : Nat.gcd a b ≤ b := Nat.le_of_dvd hb (Nat.gcd_dvd_right a b)
  have h3 : 0 < Nat.gcd a b := Nat.gcd_pos_of_pos_right _ hb
  exact Nat.le_trans (Nat.le_of_dvd (Nat.mul_pos h3 hc) h1) (Nat.mul_le_mul_right _ h2)
/-- values of moves that are small have small parts -/
theorem mv_small {u w v m n : Nat} (hm : 1 ≤ m ∧ m ≤ 20) (hn : 1 ≤ n ∧ n ≤ 20) (hu : 0 < u) (hw : 0 < w) (hv : 0 < v) (huv : Nat.Coprime u v) (hwv : Nat.Coprime w v) (h1 : u ≤ w + v) (h2 : w ≤ u + v)
    (hN : (m + n) ^ (m + n) * (u ^ m * w ^ n) / Nat.gcd ((m + n) ^ (m + n) * (u ^ m * w ^ n)) (m ^ m * n ^ n * v ^ (m + n)) ≤ 1000000000)
    (hM : m ^ m * n ^ n * v ^ (m + n) / Nat.gcd ((m + n) ^ (m + n) * (u ^ m * w ^ n)) (m ^ m * n ^ n * v ^ (m + n)) ≤ 1000000000) :
    u ≤ 25000000 ∧ w ≤ 25000000 ∧ v ≤ 25000000 := by
  have hD : 2 ≤ m + n := by omega
  have hX : 0 < u ^ m * w ^ n := Nat.mul_pos (Nat.pow_pos hu) (Nat.pow_pos hw)
  have hY : 0 < m ^ m * n ^ n := Nat.mul_pos (Nat.pow_pos (by omega)) (Nat.pow_pos (by omega))
  have hV : 0 < v ^ (m + n) := Nat.pow_pos hv
  have hDD : 0 < (m + n) ^ (m + n) := Nat.pow_pos (by omega)
  have cXV : Nat.Coprime (u ^ m * w ^ n) (v ^ (m + n)) := Nat.Coprime.mul_left (Nat.Coprime.pow _ _ huv) (Nat.Coprime.pow _ _ hwv)
  have gN : 0 < Nat.gcd ((m + n) ^ (m + n) * (u ^ m * w ^ n)) (m ^ m * n ^ n * v ^ (m + n)) := Nat.gcd_pos_of_pos_left _ (Nat.mul_pos hDD hX)
  -- the common divisor is small
  have g1 : Nat.gcd ((m + n) ^ (m + n) * (u ^ m * w ^ n)) (m ^ m * n ^ n * v ^ (m + n)) ≤ m ^ m * n ^ n * (m + n) ^ (m + n) := by
    refine Nat.le_trans (gcd_mul_le hY (Nat.gcd_pos_of_pos_right _ hV)) (Nat.mul_le_mul_left _ ?_)
    have : Nat.gcd ((m + n) ^ (m + n) * (u ^ m * w ^ n)) (v ^ (m + n)) = Nat.gcd ((m + n) ^ (m + n)) (v ^ (m + n)) := Nat.Coprime.gcd_mul_right_cancel _ cXV
    rw [this]
    exact Nat.le_of_dvd hDD (Nat.gcd_dvd_left _ _)
  have hvD : v ^ (m + n) ≤ 1000000000 * (m + n) ^ (m + n) := by
    have h3 : m ^ m * n ^ n * v ^ (m + n) ≤ 1000000000 * (m ^ m * n ^ n * (m + n) ^ (m + n)) := by
      have := Nat.div_mul_cancel (Nat.gcd_dvd_right ((m + n) ^ (m + n) * (u ^ m * w ^ n)) (m ^ m * n ^ n * v ^ (m + n)))
      rw [← this]
      exact Nat.mul_le_mul hM g1
    refine Nat.le_of_mul_le_mul_left ?_ hY
    rw [Nat.mul_left_comm]; exact h3
  have hXX : u ^ m * w ^ n ≤ 1000000000 * (m ^ m * n ^ n) := by
    have h3 : (m + n) ^ (m + n) * (u ^ m * w ^ n) ≤ 1000000000 * (m ^ m * n ^ n * (m + n) ^ (m + n)) := by
      have := Nat.div_mul_cancel (Nat.gcd_dvd_left ((m + n) ^ (m + n) * (u ^ m * w ^ n)) (m ^ m * n ^ n * v ^ (m + n)))
      rw [← this]
      exact Nat.mul_le_mul hN g1
    refine Nat.le_of_mul_le_mul_left ?_ hDD
    rw [Nat.mul_left_comm ((m + n) ^ (m + n)) 1000000000, Nat.mul_comm ((m + n) ^ (m + n)) (m ^ m * n ^ n)]; exact h3
  have hv2 : v < 31623 * (m + n) := by
    refine Nat.lt_of_not_le fun c => ?_
    have h3 : (31623 * (m + n)) ^ (m + n) ≤ v ^ (m + n) := Nat.pow_le_pow_left c _
    rw [Nat.mul_pow] at h3
    have h4 : 31623 ^ 2 ≤ 31623 ^ (m + n) := Nat.pow_le_pow_right (by decide) hD
    have h5 := Nat.mul_le_mul_right ((m + n) ^ (m + n)) h4
    have h6 : (31623 : Nat) ^ 2 = 1000014129 := by decide
    rw [h6] at h5
    have h7 := Nat.le_trans h5 (Nat.le_trans h3 hvD)
    have := Nat.le_of_mul_le_mul_right h7 hDD
    omega
  have small : ∀ t : Nat, 20 * 31623 ≤ t → t ≤ u → t ≤ w → False := by
    intro t ht hu' hw'
    have h3 : t ^ m * t ^ n ≤ u ^ m * w ^ n := Nat.mul_le_mul (Nat.pow_le_pow_left hu' _) (Nat.pow_le_pow_left hw' _)
    have h4 : m ^ m * n ^ n ≤ 20 ^ m * 20 ^ n := Nat.mul_le_mul (Nat.pow_le_pow_left hm.2 _) (Nat.pow_le_pow_left hn.2 _)
    rw [← Nat.pow_add] at h3 h4
    have h5 : (20 * 31623) ^ (m + n) ≤ t ^ (m + n) := Nat.pow_le_pow_left ht _
    rw [Nat.mul_pow] at h5
    have h6 : 31623 ^ 2 ≤ 31623 ^ (m + n) := Nat.pow_le_pow_right (by decide) hD
    have h7 : (31623 : Nat) ^ 2 = 1000014129 := by decide
    rw [h7] at h6
    have h8 := Nat.mul_le_mul_left (20 ^ (m + n)) h6
    have h9 := Nat.le_trans h8 (Nat.le_trans h5 (Nat.le_trans h3 (Nat.le_trans hXX (Nat.mul_le_mul_left 1000000000 h4))))
    rw [Nat.mul_comm 1000000000] at h9
    have := Nat.le_of_mul_le_mul_left h9 (Nat.pow_pos (by decide))
    omega
  refine ⟨Nat.le_of_not_lt fun c => ?_, Nat.le_of_not_lt fun c => ?_, by omega⟩
  · exact small (20 * 31623) (Nat.le_refl _) (by omega) (by omega)
  · exact small (20 * 31623) (Nat.le_refl _) (by omega) (by omega)
end Go.Proofs.Ytpkfjdaedaplfaa

namespace Go.Proofs.Ytpkfjdaedaplfaa
open Go.RowKit

/-- a fraction -/
@[reducible] def fr (n d : Int) : Array Value := #[.int .i64 n, .int .i64 d]
/-- a move -/
@[reducible] def mv (k a b : Int) : Array Value := #[.int .i64 k, .int .i64 a, .int .i64 b]

theorem aggFr : AggT 25 2 := ⟨⟨_, Try.underlying25, rfl⟩, by kernel_rfl⟩
theorem aggMv : AggT 38 3 := ⟨⟨_, Try.underlying38, rfl⟩, by kernel_rfl⟩
set_option maxHeartbeats 400000 in
theorem toFraction_any (n d : Int) (w : World) : Calls Try.prog 16 #[.agg #[.int .i64 n, .int .i64 d]] w fun e w' => e = .returned (.agg #[.int .i64 n, .int .i64 d]) ∧ Below w.heap.size w w' := by
  go_enter Try.func16, Try.ntmps16
  go_wp2
  exact res_agg (p := 2) (g := w.heap.size + 1) aggFr (by rfl) rfl rfl rfl (heap1 (by simp)) ⟨rfl, below3 _ _ _ _⟩
set_option maxHeartbeats 400000 in
theorem eqFraction_same (n d : Int) (w : World) : Calls Try.prog 20 #[.agg #[.int .i64 n, .int .i64 d], .agg #[.int .i64 n, .int .i64 d]] w fun e w' => e = .returned (.bool true) ∧ Below w.heap.size w w' := by
  have h1 : (n != n) = false := by simp
  have h2 : (d != d) = false := by simp
  go_enter Try.func20, Try.ntmps20
  go_wp2
  go_ret
  exact ⟨rfl, below2 _ _ _⟩
theorem gcd_tmod (a b : Int) : Int.gcd b (a.tmod b) = Int.gcd a b := by
  rw [Int.gcd_eq_natAbs_gcd_natAbs, Int.gcd_eq_natAbs_gcd_natAbs, Int.natAbs_tmod, Nat.gcd_comm, ← Nat.gcd_rec, Nat.gcd_comm]
theorem tmod_abs (a b : Int) (hb : b ≠ 0) : (a.tmod b).natAbs < b.natAbs := by
  rw [Int.natAbs_tmod]
  exact Nat.mod_lt _ (by omega)
set_option maxHeartbeats 800000 in
theorem commonDivisor_any (a0 b0 : Int) (ha0 : a0.natAbs ≤ 4000000000) (hb0 : b0.natAbs ≤ 4000000000) (w : World) :
    Calls Try.prog 83 #[.int .i64 a0, .int .i64 b0] w fun e w' => e = .returned (.int .i64 (Int.gcd a0 b0)) ∧ Below w.heap.size w w' := by
  go_enter Try.func83, Try.ntmps83
  go_wp2
  go_loopw [0, 1] (fun va vb wr => ∃ a b : Int, va = .int .i64 a ∧ vb = .int .i64 b ∧ a.natAbs ≤ 4000000000 ∧ b.natAbs ≤ 4000000000 ∧ Int.gcd a b = Int.gcd a0 b0 ∧ Below w.heap.size w wr) (fun _ vb _ => (intOf vb).natAbs)
  case atStart => exact ⟨a0, b0, rfl, rfl, ha0, hb0, rfl, Below.refl _ _⟩
  case round =>
    obtain ⟨a, b, rfl, rfl, hia, hib, hg, hal⟩ := hrel
    by_cases hb : b = 0
    · subst hb
      have hb' : ((0 : Int) != 0) = false := rfl
      have hg' : (Int.gcd a0 b0 : Int) = max a (-a) := by rw [← hg, Int.gcd_zero_right]; omega
      have hn : wrap64 (-a) = -a := by unfold wrap64; omega
      clear hg
      by_cases hneg : a < -a
      · have e : max a (-a) = -a := by omega
        rw [e] at hg'
        go_wp2
        all_goals (try (exfalso; omega))
        all_goals (go_ret; first | exact ⟨rfl, hal⟩ | exact ⟨by rw [hg']; rfl, hal⟩)
      · have e : max a (-a) = a := by omega
        rw [e] at hg'
        go_wp2
        all_goals (try (exfalso; omega))
        all_goals (go_ret; first | exact ⟨rfl, hal⟩ | exact ⟨by rw [hg']; rfl, hal⟩)
    · have hb' : (b != 0) = true := by simpa using hb
      go_wp2
      go_region
      all_goals (try go_wp2)
      all_goals (
        go_roundw
        case rel => exact ⟨b, a.tmod b, rfl, rfl, hib, by have := tmod_abs a b hb; omega, by rw [gcd_tmod]; exact hg, hal.drew⟩
        case measure => simpa [intOf] using tmod_abs a b hb)
set_option maxHeartbeats 800000 in
theorem l10Common_any (a0 b0 : Int) (ha0 : a0.natAbs ≤ 4000000000) (hb0 : b0.natAbs ≤ 4000000000) (w : World) :
    Calls Try.prog 82 #[.int .i64 a0, .int .i64 b0] w fun e w' => e = .returned (.int .i64 (Int.gcd a0 b0)) ∧ Below w.heap.size w w' := by
  go_enter Try.func82, Try.ntmps82
  go_wp2
  go_loopw [0, 1] (fun va vb wr => ∃ a b : Int, va = .int .i64 a ∧ vb = .int .i64 b ∧ a.natAbs ≤ 4000000000 ∧ b.natAbs ≤ 4000000000 ∧ Int.gcd a b = Int.gcd a0 b0 ∧ Below w.heap.size w wr) (fun _ vb _ => (intOf vb).natAbs)
  case atStart => exact ⟨a0, b0, rfl, rfl, ha0, hb0, rfl, Below.refl _ _⟩
  case round =>
    obtain ⟨a, b, rfl, rfl, hia, hib, hg, hal⟩ := hrel
    by_cases hb : b = 0
    · subst hb
      have hb' : ((0 : Int) != 0) = false := rfl
      have hg' : (Int.gcd a0 b0 : Int) = max a (-a) := by rw [← hg, Int.gcd_zero_right]; omega
      have hn : wrap64 (-a) = -a := by unfold wrap64; omega
      clear hg
      by_cases hneg : a < -a
      · have e : max a (-a) = -a := by omega
        rw [e] at hg'
        go_wp2
        all_goals (try (exfalso; omega))
        all_goals (go_ret; first | exact ⟨rfl, hal⟩ | exact ⟨by rw [hg']; rfl, hal⟩)
      · have e : max a (-a) = a := by omega
        rw [e] at hg'
        go_wp2
        all_goals (try (exfalso; omega))
        all_goals (go_ret; first | exact ⟨rfl, hal⟩ | exact ⟨by rw [hg']; rfl, hal⟩)
    · have hb' : (b != 0) = true := by simpa using hb
      go_wp2
      go_roundw
      case rel => exact ⟨b, a.tmod b, rfl, rfl, hib, by have := tmod_abs a b hb; omega, by rw [gcd_tmod]; exact hg, hal⟩
      case measure => simpa [intOf] using tmod_abs a b hb
/-- the parts of a fraction -/
def prt (x : Int) : Bool := decide (-1000000000 ≤ x ∧ x ≤ 1000000000)
set_option maxHeartbeats 400000 in
theorem isPart_any (x : Int) (w : World) : Calls Try.prog 59 #[.int .i64 x] w fun e w' => e = .returned (.bool (prt x)) ∧ w' = w := by
  by_cases h1 : -1000000000 ≤ x
  · have d1 := decide_eq_true h1
    by_cases h2 : x ≤ 1000000000
    · have d2 := decide_eq_true h2
      have hp : prt x = true := decide_eq_true ⟨h1, h2⟩
      clear h1 h2
      go_enter Try.func59, Try.ntmps59
      go_wp2
      go_ret
      exact ⟨by rw [hp]; rfl, rfl⟩
    · have d2 := decide_eq_false h2
      have hp : prt x = false := decide_eq_false (fun h => h2 h.2)
      clear h1 h2
      go_enter Try.func59, Try.ntmps59
      go_wp2
      go_ret
      exact ⟨by rw [hp]; rfl, rfl⟩
  · have d1 := decide_eq_false h1
    have hp : prt x = false := decide_eq_false (fun h => h1 h.1)
    clear h1
    go_enter Try.func59, Try.ntmps59
    go_wp2
    go_ret
    exact ⟨by rw [hp]; rfl, rfl⟩
set_option maxHeartbeats 400000 in
theorem in10_any (n a b : Int) (w : World) : Calls Try.prog 57 #[.int .i64 n, .int .i64 a, .int .i64 b] w fun e w' => e = .returned (.bool (decide (a ≤ n ∧ n ≤ b))) ∧ w' = w := by
  by_cases h1 : a ≤ n
  · have d1 := decide_eq_true h1
    by_cases h2 : n ≤ b
    · have d2 := decide_eq_true h2
      rw [decide_eq_true (⟨h1, h2⟩ : a ≤ n ∧ n ≤ b)]
      clear h1 h2
      go_enter Try.func57, Try.ntmps57
      go_wp2
      go_ret
      exact ⟨rfl, rfl⟩
    · have d2 := decide_eq_false h2
      rw [decide_eq_false (fun h => h2 h.2 : ¬ (a ≤ n ∧ n ≤ b))]
      clear h1 h2
      go_enter Try.func57, Try.ntmps57
      go_wp2
      go_ret
      exact ⟨rfl, rfl⟩
  · have d1 := decide_eq_false h1
    rw [decide_eq_false (fun h => h1 h.1 : ¬ (a ≤ n ∧ n ≤ b))]
    clear h1
    go_enter Try.func57, Try.ntmps57
    go_wp2
    go_ret
    exact ⟨rfl, rfl⟩
/-- a fraction or a move that is stored cell by cell -/
theorem Holds.set2 {w0 w : World} {L : List Part} (h : Holds w0 w L) (i : Nat) {g : Nat} {a b : Value} {t : TypeId} (hi : L[i]? = some (pBlk g #[a, b] t)) (x y : Value) :
    Holds w0 ((w.setCell ⟨g, 0, none⟩ x).setCell ⟨g, 1, none⟩ y) (L.set i (pBlk g #[x, y] t)) := by
  have h1 := h.set i hi 0 x
  have h2 := h1.set i (g := g) (c := #[x, b]) (t := t) (by rw [List.getElem?_set]; rw [if_pos rfl, if_pos (List.getElem?_eq_some_iff.1 hi).1]; simp) 1 y
  rw [List.set_set] at h2
  simpa using h2
theorem Holds.set3 {w0 w : World} {L : List Part} (h : Holds w0 w L) (i : Nat) {g : Nat} {a b c : Value} {t : TypeId} (hi : L[i]? = some (pBlk g #[a, b, c] t)) (x y z : Value) :
    Holds w0 (((w.setCell ⟨g, 0, none⟩ x).setCell ⟨g, 1, none⟩ y).setCell ⟨g, 2, none⟩ z) (L.set i (pBlk g #[x, y, z] t)) := by
  have h1 := h.set i hi 0 x
  have h2 := h1.set i (g := g) (c := #[x, b, c]) (t := t) (by rw [List.getElem?_set]; rw [if_pos rfl, if_pos (List.getElem?_eq_some_iff.1 hi).1]; simp) 1 y
  have h3 := h2.set i (g := g) (c := #[x, y, c]) (t := t) (by rw [List.getElem?_set, List.length_set]; rw [if_pos rfl, if_pos (List.getElem?_eq_some_iff.1 hi).1]; simp) 2 z
  rw [List.set_set, List.set_set] at h3
  simpa using h3
/-- what a fraction is -/
def frB (n d : Int) : Bool := decide (-1000000000 ≤ n ∧ n ≤ 1000000000) && decide (0 ≤ d ∧ d ≤ 1000000000) && decide ((Int.gcd n d : Int) = 1) && (decide (0 < d) || decide (n = 1))
set_option maxRecDepth 100000 in
set_option maxHeartbeats 1000000 in
theorem l10Is_any (n d : Int) (w : World) : Calls Try.prog 56 #[.agg #[.int .i64 n, .int .i64 d]] w fun e w' => e = .returned (.bool (frB n d)) ∧ Below w.heap.size w w' := by
  have ENT := hide (fun (a b : Int) (w : World) => in10_any n a b w)
  rcases h1 : decide (-1000000000 ≤ n ∧ n ≤ 1000000000) with _ | _
  · have hf : frB n d = false := by unfold frB; rw [h1]; rfl
    rw [hf]
    clear hf ENT
    go_enter Try.func56, Try.ntmps56
    go_wp2_with fail
    refine (in10_any _ _ _ _).mono ?_
    rintro e w1 ⟨rfl, rfl⟩
    rw [h1]
    clear h1
    go_wp2
    go_ret
    exact ⟨rfl, below1 _ _⟩
  rcases h2 : decide (0 ≤ d ∧ d ≤ 1000000000) with _ | _
  · have hf : frB n d = false := by unfold frB; rw [h1, h2]; rfl
    rw [hf]
    clear hf ENT
    go_enter Try.func56, Try.ntmps56
    go_wp2_with fail
    refine (in10_any _ _ _ _).mono ?_
    rintro e w1 ⟨rfl, rfl⟩
    rw [h1]
    clear h1
    go_wp2_with fail
    refine (in10_any _ _ _ _).mono ?_
    rintro e w1 ⟨rfl, rfl⟩
    rw [h2]
    clear h2
    go_wp2
    go_ret
    exact ⟨rfl, below1 _ _⟩
  have x1 := of_decide_eq_true h1
  have x2 := of_decide_eq_true h2
  have CG := hide fun w => l10Common_any n d (by omega) (by omega) w
  have hf : frB n d = (decide ((Int.gcd n d : Int) = 1) && (decide (0 < d) || decide (n = 1))) := by unfold frB; rw [h1, h2]; rfl
  rw [hf]
  clear hf x1 x2 ENT
  generalize (Int.gcd n d : Int) = g at *
  rw [show decide (g = 1) = (g == 1) from rfl, show decide (n = 1) = (n == 1) from rfl]
  obtain ⟨b3, h3⟩ : ∃ b, (g == 1) = b := ⟨_, rfl⟩
  obtain ⟨b4, h4⟩ : ∃ b, decide (0 < d) = b := ⟨_, rfl⟩
  obtain ⟨b5, h5⟩ : ∃ b, (n == 1) = b := ⟨_, rfl⟩
  rw [h3, h4, h5]
  go_enter Try.func56, Try.ntmps56
  go_wp2_with fail
  refine (in10_any _ _ _ _).mono ?_
  rintro e w1 ⟨rfl, rfl⟩
  rw [h1]
  clear h1
  go_wp2_with fail
  refine (in10_any _ _ _ _).mono ?_
  rintro e w1 ⟨rfl, rfl⟩
  rw [h2]
  clear h2
  go_wp2_with fail
  refine (CG.out _).mono ?_
  rintro e w1 ⟨rfl, hb⟩
  have HH := ((Holds.start w).blk #[.int .i64 n, .int .i64 d] 25 w.heap.size rfl).call hb
  have c0 := HH.cell 0 rfl (j := 0) (v := .int .i64 n) rfl
  have c1 := HH.cell 0 rfl (j := 1) (v := .int .i64 d) rfl
  have f0 := HH.low
  clear hb HH CG
  cases b3 <;> cases b4 <;> cases b5
  all_goals (go_wp2; go_ret; exact ⟨rfl, f0⟩)
end Go.Proofs.Ytpkfjdaedaplfaa
