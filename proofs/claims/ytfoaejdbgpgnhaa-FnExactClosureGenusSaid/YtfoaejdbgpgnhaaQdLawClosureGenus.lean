/- Texts put together: Reg, Ren, Nam, Same, Cmp, Bef, SNam, EqDs -/
import Derived.Test.YtfoaejdbgpgnhaaQcLawClosureGenus
import Derived.Test.YtfoaejdbgpgnhaaChecked
import Derived.WalkKit
import Derived.WalkSpells
import Derived.WalkLawsBesides
import Derived.Deep.LoopGhost
import Derived.Deep.OwnRows
import Derived.Laws.Rows
import Derived.Laws.Tables
import Derived.Laws.CopyOwn
import Derived.ProofKit
import Derived.OpenShut
import Derived.ShutString
import Derived.ChangeOld
import Derived.Below
import Derived.Laws.OwnMore
import Derived.Laws.CopyRow
import Derived.Deep.MidRow
import Derived.BigQuiet
import Derived.Deep.QuietTactic
import Derived.RegionTactic
import Derived.Deep.RegionWith
import Derived.Maps.Keyed
import Derived.DeepKeys4
import Derived.Maps.Own
import Derived.Carry
import Derived.Deep.Quiet
import Derived.StillTail
import Derived.ChangeKeysEq
import Derived.StillTailTactics
import Derived.Deep.RegionHeld3
import Derived.Laws.Cover3
import Derived.Lib.Bytealg
import Derived.Lib.BytesEntry
import Derived.Laws.Externs
namespace Go.Proofs.Ytfoaejdbgpgnhaa
open Go.RowKit

theorem Grown.trans {a b c : World} (h : Grown a b) (k : Grown b c) : Grown a c := Below.trans h (Below.mono k h.size)
theorem grown_below {w w' : World} (h : Below w.heap.size w w') : Grown w w' := h

section
variable (P : Program) (md : Region.Mode) (ops : Array Oper) (W : World) (E : Nat → Option (World → Value → World → Prop)) (S : Nat → Bool) (K : Act → World → Prop)

def uponG (w : World) (v : Value) : Result Next → Prop
  | .ok (.value u) w' => w' = w ∧ u = v
  | .ok .skip w' => w' = w ∧ v = undef
  | .ok (.enter f args) w' => w' = w ∧ Calls P f args w (fun e w'' => e = .returned v ∧ Below w.heap.size w w'')
  | _ => False
def uponE (R : Value → World → Prop) (w : World) : Result Next → Prop
  | .ok (.value u) w' => Below w.heap.size w w' ∧ R u w'
  | .ok (.enter f args) w' => w' = w ∧ Calls P f args w (fun e w'' => ∃ v, e = .returned v ∧ Below w.heap.size w w'' ∧ R v w'')
  | _ => False
def atG (o : Oper) (a : Act) (w : World) (v : Value) : Prop := uponG P w v ((execOp a.eval o).run P w)
def Stable (R : World → Prop) : Prop := ∀ w w', R w → Below w.heap.size w w' → R w'

/-- one operation, and what follows -/
def opV (i : Nat) (N : Act → (World → Prop) → Prop) (a : Act) (D : World → Prop) : Prop :=
  match ops[i]? with
  | none => N a D
  | some o =>
    if Region.wanted o (yielded ops a.tmps) then
      match E i with
      | some R => (∀ w, Grown W w → D w → uponE P (R w) w ((execOp a.eval o).run P w)) ∧ ∀ v, (∃ w w', Grown W w ∧ R w v w') → N (a.put o.dst v) (fun w => ∃ w0 w1, D w0 ∧ Grown W w0 ∧ Grown w0 w1 ∧ R w0 v w1 ∧ Grown w1 w)
      | none =>
        if S i then ∃ (g n : Nat) (cs : Array Value), (∀ w, D w → rowOk w g n) ∧ W.heap.size ≤ g ∧ (∀ w, Grown W w → rowOk w g n → (execOp a.eval o).run P w = .ok .skip (w.setRow g cs)) ∧
          N (a.put o.dst undef) (fun w => ∃ w1, D w1 ∧ Grown W w1 ∧ Grown (w1.setRow g cs) w)
        else ∃ v, (∀ w, Grown W w → atG P o a w v) ∧ N (a.put o.dst v) D
    else N (a.put o.dst undef) D

theorem opV_mono {i : Nat} {N N' : Act → (World → Prop) → Prop} {a : Act} {D : World → Prop} (h : ∀ a D, N a D → N' a D) (hh : opV P ops W E S i N a D) : opV P ops W E S i N' a D := by
  unfold opV at *
  split
  · rename_i ho; simp only [ho] at hh; exact h _ _ hh
  · rename_i o ho
    simp only [ho] at hh
    split
    · rename_i hw
      rw [if_pos hw] at hh
      split
      · rename_i R hR; simp only [hR] at hh; exact ⟨hh.1, fun v hv => h _ _ (hh.2 v hv)⟩
      · rename_i hR
        simp only [hR] at hh
        split
        · rename_i hS; rw [if_pos hS] at hh; obtain ⟨g, n, cs, h1, h2, h3, h4⟩ := hh; exact ⟨g, n, cs, h1, h2, h3, h _ _ h4⟩
        · rename_i hS; rw [if_neg hS] at hh; obtain ⟨v, h1, h2⟩ := hh; exact ⟨v, h1, h _ _ h2⟩
    · rename_i hw; rw [if_neg hw] at hh; exact h _ _ hh

/-- whatever order is picked -/
def anyV : Nat → Array Bool → Act → (World → Prop) → Prop
  | 0, done, a, D => Region.ready md ops done = [] ∧ ∀ w, Grown W w → D w → K a w
  | f + 1, done, a, D => (Region.ready md ops done = [] → ∀ w, Grown W w → D w → K a w) ∧ ∀ i ∈ Region.ready md ops done, opV P ops W E S i (anyV f (done.setIfInBounds i true)) a D

theorem op_sound {i : Nat} {N : Act → (World → Prop) → Prop} {K' : Act → World → Prop} {Q : Exit → Act → World → Prop} {a : Act} {D : World → Prop} {w : World} (hD : Stable D) (hw : Grown W w) (hDw : D w)
    (hN : ∀ a D w, Stable D → Grown W w → D w → N a D → K' a w) (h : opV P ops W E S i N a D) : wpOp P ops Q i K' a w := by
  unfold opV at h
  unfold wpOp
  split
  · rename_i ho; simp only [ho] at h; exact hN _ _ _ hD hw hDw h
  · rename_i o ho
    simp only [ho] at h
    split
    · rename_i hwa
      rw [if_pos hwa] at h
      refine .inl ?_
      unfold Oper.wp
      rcases hE : E i with _ | R
      · simp only [hE] at h
        by_cases hS : S i = true
        · rw [if_pos hS] at h
          obtain ⟨g, n, cs, h1, h2, h3, h4⟩ := h
          rw [h3 w hw (h1 w hDw)]
          simp only [Oper.upon]
          have hg : Grown W (w.setRow g cs) := below_setRow hw h2 cs
          refine hN _ _ _ ?_ hg ⟨w, hDw, hw, Below.refl _ _⟩ h4
          rintro x x' ⟨w1, k1, k2, k3⟩ hb
          exact ⟨w1, k1, k2, k3.call hb⟩
        · rw [if_neg hS] at h
          obtain ⟨v, h1, h2⟩ := h
          have h3 := h1 w hw
          unfold atG at h3
          generalize (execOp a.eval o).run P w = r at *
          cases r with
          | ok n w' =>
            cases n <;> simp only [uponG] at h3 <;> simp only [Oper.upon]
            case value u => obtain ⟨e1, e2⟩ := h3; rw [e1, e2]; exact hN _ _ _ hD hw hDw h2
            case skip => obtain ⟨e1, e2⟩ := h3; rw [e1, ← e2]; exact hN _ _ _ hD hw hDw h2
            case enter f args => obtain ⟨e1, hc⟩ := h3; rw [e1]; exact hc.mono fun e w'' ⟨he, hb⟩ => by subst he; exact hN _ _ _ hD (hw.call hb) (hD _ _ hDw hb) h2
          | halt x w' => simp only [uponG] at h3
      · simp only [hE] at h
        have h3 := h.1 w hw hDw
        generalize (execOp a.eval o).run P w = r at *
        cases r with
        | ok n w' =>
          cases n <;> simp only [uponE] at h3 <;> simp only [Oper.upon]
          case value u => obtain ⟨e1, e2⟩ := h3; exact hN _ _ _ (fun x x' ⟨y0, y1, k1, k2, k3, k4, k5⟩ hb => ⟨y0, y1, k1, k2, k3, k4, k5.call hb⟩) (hw.call e1) ⟨w, w', hDw, hw, e1, e2, Below.refl _ _⟩ (h.2 u ⟨w, w', hw, e2⟩)
          case enter f args =>
            obtain ⟨e1, hc⟩ := h3
            rw [e1]
            refine hc.mono ?_
            rintro e w'' ⟨v, he, hb, hr⟩
            subst he
            exact hN _ _ _ (fun x x' ⟨y0, y1, k1, k2, k3, k4, k5⟩ hb => ⟨y0, y1, k1, k2, k3, k4, k5.call hb⟩) (hw.call hb) ⟨w, w'', hDw, hw, hb, hr, Below.refl _ _⟩ (h.2 v ⟨w, w'', hw, hr⟩)
        | halt x w' => simp only [uponE] at h3
    · rename_i hwa; rw [if_neg hwa] at h; exact hN _ _ _ hD hw hDw h

theorem anyV_any {Q : Exit → Act → World → Prop} (hQ : ∀ a w, K a w → Q .normal a w) (f : Nat) : ∀ (done : Array Bool) (a : Act) (D : World → Prop) (w : World), Stable D → Grown W w → D w →
    anyV P md ops W E S K f done a D → wpAny P md ops Q f done a w := by
  induction f with
  | zero => intro done a D w _ hw hDw h; exact ⟨h.1, hQ _ _ (h.2 w hw hDw)⟩
  | succ f ih =>
    intro done a D w hD hw hDw h
    exact ⟨fun e => hQ _ _ (h.1 e w hw hDw), fun i hi => op_sound P ops W E S hD hw hDw (fun a' D' w' h1 h2 h3 h4 => ih _ a' D' w' h1 h2 h3 h4) (h.2 i hi)⟩

def YieldsG (o : Oper) (v : Value) (a : Act) : Prop :=
  (Region.wanted o (yielded ops a.tmps) = true ∧ ∀ w, Grown W w → atG P o a w v) ∨ (Region.wanted o (yielded ops a.tmps) = false ∧ v = undef)

theorem YieldsG.op {i : Nat} {o : Oper} {v : Value} {a : Act} {D : World → Prop} (hi : ops[i]? = some o) (hE : E i = none) (hS : S i = false) (hy : YieldsG P ops W o v a) {N : Act → (World → Prop) → Prop} (h : N (a.put o.dst v) D) : opV P ops W E S i N a D := by
  unfold opV
  simp only [hi, hE, hS]
  rcases hy with ⟨hw, hv⟩ | ⟨hw, rfl⟩
  · rw [if_pos hw]; exact ⟨v, hv, h⟩
  · rw [if_neg (by simp [hw])]; exact h

theorem yieldsG_of {i : Nat} {o : Oper} {a : Act} {D : World → Prop} {N : Act → (World → Prop) → Prop} (hi : ops[i]? = some o) (hE : E i = none) (hS : S i = false) (h : opV P ops W E S i N a D) : ∃ v, YieldsG P ops W o v a ∧ N (a.put o.dst v) D := by
  unfold opV at h
  simp only [hi, hE, hS] at h
  by_cases hw : Region.wanted o (yielded ops a.tmps) = true
  · rw [if_pos hw] at h
    obtain ⟨v, h1, h2⟩ := h
    exact ⟨v, .inl ⟨hw, h1⟩, h2⟩
  · rw [if_neg hw] at h
    exact ⟨undef, .inr ⟨by simpa using hw, rfl⟩, h⟩

theorem opV_put {j : Nat} {oi oj : Oper} {v : Value} (hj : ops[j]? = some oj) (hap : oi.apart ops oj = true) (hsi : ∀ cs b, oi.op ≠ .select cs b) (hsj : ∀ cs b, oj.op ≠ .select cs b)
    {N : Act → (World → Prop) → Prop} {a : Act} {D : World → Prop} (hy : YieldsG P ops W oi v a) (h : opV P ops W E S j N (a.put oi.dst v) D) :
    opV P ops W E S j (fun a' D' => YieldsG P ops W oi v a' ∧ N (a'.put oi.dst v) D') a D := by
  obtain ⟨h1, h2, h3⟩ := Oper.apart_spec hap
  have keep : ∀ u, YieldsG P ops W oi v (a.put oj.dst u) := fun u => by
    have e1 := execOp_put oi hsi a oj.dst u h3
    have e2 := wanted_put oi a oj.dst u h3
    unfold YieldsG atG at *
    rw [e1, e2]; exact hy
  unfold opV at *
  simp only [hj] at *
  rw [wanted_put oj a oi.dst v h1, execOp_put oj hsj a oi.dst v h1] at h
  have ep : ∀ u, (a.put oj.dst u).put oi.dst v = (a.put oi.dst v).put oj.dst u := fun u => (Act.put_comm a v u h2).symm
  by_cases hw : Region.wanted oj (yielded ops a.tmps) = true
  · rw [if_pos hw] at h ⊢
    rcases hE : E j with _ | R
    · simp only [hE] at h ⊢
      by_cases hS : S j = true
      · rw [if_pos hS] at h ⊢
        obtain ⟨g, n, cs, k1, k2, k3, k4⟩ := h
        exact ⟨g, n, cs, k1, k2, k3, keep _, by rw [ep]; exact k4⟩
      · rw [if_neg hS] at h ⊢
        obtain ⟨u, k1, k2⟩ := h
        refine ⟨u, fun w hg => ?_, keep _, by rw [ep]; exact k2⟩
        have := k1 w hg
        unfold atG at *
        rwa [execOp_put oj hsj a oi.dst v h1] at this
    · simp only [hE] at h ⊢
      exact ⟨h.1, fun u hu => ⟨keep _, by rw [ep]; exact h.2 u hu⟩⟩
  · rw [if_neg hw] at h ⊢
    exact ⟨keep _, by rw [ep]; exact h⟩

theorem anyV_first {i : Nat} {o : Oper} {v : Value} (hi : ops[i]? = some o) (hE : E i = none) (hS : S i = false) (hsel : ∀ (j : Nat) (o : Oper) cs b, ops[j]? = some o → o.op ≠ .select cs b) (f : Nat) :
    ∀ (done : Array Bool) (a : Act) (D : World → Prop),
      (∀ j oj, ops[j]? = some oj → j ≠ i → done.getD j true = false → (∀ e ∈ oj.after, Region.binds md e = true → e.on ≠ i) → o.apart ops oj = true) →
      i ∈ Region.ready md ops done → YieldsG P ops W o v a →
      anyV P md ops W E S K f (done.setIfInBounds i true) (a.put o.dst v) D → anyV P md ops W E S K (f + 1) done a D := by
  induction f with
  | zero =>
    intro done a D _ hr hy H
    refine ⟨fun e => (by rw [e] at hr; cases hr), fun j hj => ?_⟩
    by_cases e : j = i
    · subst e; exact hy.op P ops W E S hi hE hS H
    · have := ready_mono hj e
      rw [H.1] at this; cases this
  | succ f ih =>
    intro done a D hfree hr hy H
    refine ⟨fun e => (by rw [e] at hr; cases hr), fun j hj => ?_⟩
    by_cases e : j = i
    · subst e; exact hy.op P ops W E S hi hE hS H
    · obtain ⟨hjun, oj, hoj, hall⟩ := mem_ready.1 hj
      have hun := (mem_ready.1 hr).1
      have hno : ∀ e ∈ oj.after, Region.binds md e = true → e.on ≠ i := fun e he hb h => by
        have := hall e he hb
        rw [h, getD_both hun] at this
        cases this
      refine opV_mono P ops W E S (fun a' D' h3 => ih (done.setIfInBounds j true) a' D' (fun k' ok hk hki hk' hnk => hfree k' ok hk hki ?_ hnk) (ready_mono hr (Ne.symm e)) h3.1 ?_)
        (opV_put P ops W E S hoj (hfree j oj hoj e hjun hno) (fun cs b => hsel i o cs b hi) (fun cs b => hsel j oj cs b hoj) hy (H.2 j (ready_mono hj e)))
      · by_cases e' : j = k'
        · subst e'; exact hjun
        · rw [getD_set_ne true e'] at hk'; exact hk'
      · rw [Array.setIfInBounds_comm _ _ e]; exact h3.2

/-- how a region is walked: operations that may be taken first; special ones alone; two or three special ones in either order -/
inductive Plan where
  | fin
  | q (k : Nat) (p : Plan)
  | s1 (k : Nat) (p : Plan)
  | s2 (k1 : Nat) (p1 : Plan) (k2 : Nat) (p2 : Plan)
  | s3 (k1 : Nat) (p1 : Plan) (k2 : Nat) (p2 : Plan) (k3 : Nat) (p3 : Plan)

def planB (sp : List Nat) : Nat → Plan → Array Bool → Bool
  | _, .fin, done => (Region.ready md ops done).isEmpty
  | 0, _, _ => false
  | f + 1, .q k p, done => !sp.contains k && ((Region.ready md ops done).contains k && Region.free md ops done k && (decide (k < ops.size) && planB sp f p (done.setIfInBounds k true)))
  | f + 1, .s1 k p, done => decide (Region.ready md ops done = [k]) && planB sp f p (done.setIfInBounds k true)
  | f + 1, .s2 k1 p1 k2 p2, done => decide (Region.ready md ops done = [k1, k2]) && (planB sp f p1 (done.setIfInBounds k1 true) && planB sp f p2 (done.setIfInBounds k2 true))
  | f + 1, .s3 k1 p1 k2 p2 k3 p3, done => decide (Region.ready md ops done = [k1, k2, k3]) && (planB sp f p1 (done.setIfInBounds k1 true) && (planB sp f p2 (done.setIfInBounds k2 true) && planB sp f p3 (done.setIfInBounds k3 true)))

def walkV : Plan → Act → (World → Prop) → Prop
  | .fin, a, D => ∀ w, Grown W w → D w → K a w
  | .q k p, a, D => opV P ops W E S k (walkV p) a D
  | .s1 k p, a, D => opV P ops W E S k (walkV p) a D
  | .s2 k1 p1 k2 p2, a, D => opV P ops W E S k1 (walkV p1) a D ∧ opV P ops W E S k2 (walkV p2) a D
  | .s3 k1 p1 k2 p2 k3 p3, a, D => opV P ops W E S k1 (walkV p1) a D ∧ opV P ops W E S k2 (walkV p2) a D ∧ opV P ops W E S k3 (walkV p3) a D

theorem anyV_walk (hsel : Region.noSelect ops = true) (sp : List Nat) (hsp : ∀ k, sp.contains k = false → E k = none ∧ S k = false) (p : Plan) :
    ∀ (f : Nat) (done : Array Bool) (a : Act) (D : World → Prop), planB md ops sp f p done = true → walkV P ops W E S K p a D → anyV P md ops W E S K f done a D := by
  induction p with
  | fin =>
    intro f done a D hB h
    cases f with
    | zero => exact ⟨by simpa [planB] using hB, h⟩
    | succ f =>
      have e : Region.ready md ops done = [] := by simpa [planB] using hB
      exact ⟨fun _ => h, fun i hi => by rw [e] at hi; cases hi⟩
  | q k p ih =>
    intro f done a D hB h
    cases f with
    | zero => simp [planB] at hB
    | succ f =>
      simp only [planB, Bool.and_eq_true, decide_eq_true_eq, Bool.not_eq_true'] at hB
      obtain ⟨hc, ⟨hr, hfree⟩, hk, hB'⟩ := hB
      obtain ⟨hE, hS⟩ := hsp k hc
      have hi : ops[k]? = some ops[k] := Array.getElem?_eq_getElem hk
      obtain ⟨v, hy, hK⟩ := yieldsG_of P ops W E S hi hE hS h
      exact anyV_first P md ops W E S K hi hE hS (Region.noSelect_spec hsel) f done a D (Region.free_spec hi hfree) (by simpa using hr) hy (ih _ _ _ _ hB' hK)
  | s1 k p ih =>
    intro f done a D hB h
    cases f with
    | zero => simp [planB] at hB
    | succ f =>
      simp only [planB, Bool.and_eq_true, decide_eq_true_eq] at hB
      obtain ⟨hr, hB'⟩ := hB
      refine ⟨fun e => (by rw [hr] at e; cases e), fun i hi => ?_⟩
      rw [hr] at hi
      obtain rfl : i = k := by simpa using hi
      exact opV_mono P ops W E S (fun a' D' h' => ih _ _ _ _ hB' h') h
  | s2 k1 p1 k2 p2 ih1 ih2 =>
    intro f done a D hB h
    cases f with
    | zero => simp [planB] at hB
    | succ f =>
      simp only [planB, Bool.and_eq_true, decide_eq_true_eq] at hB
      obtain ⟨hr, hB1, hB2⟩ := hB
      refine ⟨fun e => (by rw [hr] at e; cases e), fun i hi => ?_⟩
      rw [hr] at hi
      simp only [List.mem_cons, List.not_mem_nil, or_false] at hi
      rcases hi with rfl | rfl
      · exact opV_mono P ops W E S (fun a' D' h' => ih1 _ _ _ _ hB1 h') h.1
      · exact opV_mono P ops W E S (fun a' D' h' => ih2 _ _ _ _ hB2 h') h.2
  | s3 k1 p1 k2 p2 k3 p3 ih1 ih2 ih3 =>
    intro f done a D hB h
    cases f with
    | zero => simp [planB] at hB
    | succ f =>
      simp only [planB, Bool.and_eq_true, decide_eq_true_eq] at hB
      obtain ⟨hr, hB1, hB2, hB3⟩ := hB
      refine ⟨fun e => (by rw [hr] at e; cases e), fun i hi => ?_⟩
      rw [hr] at hi
      simp only [List.mem_cons, List.not_mem_nil, or_false] at hi
      rcases hi with rfl | rfl | rfl
      · exact opV_mono P ops W E S (fun a' D' h' => ih1 _ _ _ _ hB1 h') h.1
      · exact opV_mono P ops W E S (fun a' D' h' => ih2 _ _ _ _ hB2 h') h.2.1
      · exact opV_mono P ops W E S (fun a' D' h' => ih3 _ _ _ _ hB3 h') h.2.2
end

theorem region_V {P : Program} {id : Nat} {Q : Exit → Act → World → Prop} {a : Act} {w : World} {l : List Oper} (E : Nat → Option (World → Value → World → Prop)) (S : Nat → Bool) (sp : List Nat) (p : Plan) (hm : P.follows .mixedOrders = true)
    (hsel : Region.noSelect l.toArray = true) (hB : planB .any l.toArray sp l.toArray.size p (Array.replicate l.toArray.size false) = true) (hsp : ∀ k, sp.contains k = false → E k = none ∧ S k = false)
    (h : walkV P l.toArray w E S (fun a' w' => Q .normal a' w') p a (fun _ => True)) : (Code.region id l.toArray true).wp P Q a w := by
  refine wp_region_any hm ?_
  exact anyV_any (Q := Q) P .any l.toArray w E S (fun a' w' => Q .normal a' w') (fun _ _ h => h) _ _ _ _ w.drew (fun _ _ _ _ => trivial) (Grown.drew w) trivial (anyV_walk P .any l.toArray w E S _ hsel sp hsp p _ _ a _ hB h)

section
variable {P : Program} {ops : Array Oper} {W : World} {E : Nat → Option (World → Value → World → Prop)} {S : Nat → Bool} {k : Nat} {a : Act} {D : World → Prop} {N : Act → (World → Prop) → Prop}
theorem v_other {o : Oper} (ho : ops[k]? = some o) (hE : E k = none) (hS : S k = false) (hw : Region.wanted o (yielded ops a.tmps) = true) {v : Value} (h1 : ∀ w, Grown W w → atG P o a w v) (h2 : N (a.put o.dst v) D) :
    opV P ops W E S k N a D := by
  unfold opV
  simp only [ho, hE, hS]
  rw [if_pos hw]
  exact ⟨v, h1, h2⟩
theorem v_E {o : Oper} {R : World → Value → World → Prop} (ho : ops[k]? = some o) (hE : E k = some R) (hw : Region.wanted o (yielded ops a.tmps) = true) (h1 : ∀ w, Grown W w → D w → uponE P (R w) w ((execOp a.eval o).run P w))
    (h2 : ∀ v, (∃ w w', Grown W w ∧ R w v w') → N (a.put o.dst v) (fun w => ∃ w0 w1, D w0 ∧ Grown W w0 ∧ Grown w0 w1 ∧ R w0 v w1 ∧ Grown w1 w)) : opV P ops W E S k N a D := by
  unfold opV
  simp only [ho, hE]
  rw [if_pos hw]
  exact ⟨h1, h2⟩
theorem v_S {o : Oper} (g n : Nat) (cs : Array Value) (ho : ops[k]? = some o) (hE : E k = none) (hS : S k = true) (hw : Region.wanted o (yielded ops a.tmps) = true) (h1 : ∀ w, D w → rowOk w g n) (h2 : W.heap.size ≤ g)
    (h3 : ∀ w, Grown W w → rowOk w g n → (execOp a.eval o).run P w = .ok .skip (w.setRow g cs)) (h4 : N (a.put o.dst undef) (fun w => ∃ w1, D w1 ∧ Grown W w1 ∧ Grown (w1.setRow g cs) w)) :
    opV P ops W E S k N a D := by
  unfold opV
  simp only [ho, hE, hS]
  rw [if_pos hw]
  exact ⟨g, n, cs, h1, h2, h3, h4⟩
end
/-- a new block of n cells, not below B -/
def newR (B n : Nat) : Value → World → Prop := fun v w => ∃ g, v = .pointer (some ⟨g, 0, none⟩) ∧ B ≤ g ∧ rowOk w g n
/-- .. and where it stands later -/
theorem newR.at {B n g : Nat} {D : World → Prop} {W w : World} (h : ∃ w0 w1, D w0 ∧ Grown W w0 ∧ Grown w0 w1 ∧ newR B n (.pointer (some ⟨g, 0, none⟩)) w1 ∧ Grown w1 w) : B ≤ g ∧ rowOk w g n := by
  obtain ⟨_, w1, _, _, _, ⟨g', e, h1, h2⟩, h3⟩ := h
  injection e with e
  injection e with e
  injection e with e
  subst e
  exact ⟨h1, h3.row h2⟩
/-- behind the store -/
theorem stored {w1 w : World} {g n : Nat} {cs : Array Value} (h : rowOk w1 g n) (hs : cs.size = n) (k : Grown (w1.setRow g cs) w) : cellsOf w g = cs ∧ rowOk w g n ∧ g < w.heap.size := by
  have hr : rowOk (w1.setRow g cs) g n := rowOk_setRow h hs
  exact ⟨k.cells (cellsOf_setRow h) hr.lt, k.row hr, (k.row hr).lt⟩
end Go.Proofs.Ytfoaejdbgpgnhaa

namespace Go.Proofs.Ytfoaejdbgpgnhaa
open Go.RowKit

def renF (p f : Nat → Nat) (m : Nat) : Nat → Nat := thenF (thenF (backF p m) f m) p m
def renTo (p f : Nat → Nat) : Nat → Nat → Nat
  | 0 => fun _ => 0
  | k + 1 => fset (renTo p f k) (p k) (p (f k))
theorem renTo_at {p f : Nat → Nat} {n : Nat} (h : Bij p n) : ∀ k, k ≤ n → ∀ x, x < k → renTo p f k (p x) = p (f x) := by
  intro k
  induction k with
  | zero => intro _ x hx; omega
  | succ k ih =>
    intro hk x hx
    show fset (renTo p f k) (p k) (p (f k)) (p x) = p (f x)
    unfold fset
    by_cases c : p x = p k
    · rw [if_pos c, h.2 x k (by omega) (by omega) c]
    · rw [if_neg c]
      by_cases d : x = k
      · subst d; exact absurd rfl c
      · exact ih (by omega) x (by omega)
theorem renTo_none {p f : Nat → Nat} {y : Nat} : ∀ k, (∀ x, x < k → p x ≠ y) → renTo p f k y = 0 := by
  intro k
  induction k with
  | zero => intro _; rfl
  | succ k ih =>
    intro h
    show fset (renTo p f k) (p k) (p (f k)) y = 0
    unfold fset
    rw [if_neg (fun e => h k (by omega) e.symm)]
    exact ih fun x hx => h x (by omega)
theorem renF_at {p f : Nat → Nat} {m x : Nat} (h : Bij p m) (hx : x < m) : renF p f m (p x) = p (f x) := by
  unfold renF
  rw [thenF_at (h.1 x hx), thenF_at (h.1 x hx), backF_at h hx]
theorem renTo_eq {p f : Nat → Nat} {m : Nat} (h : Bij p m) : renTo p f m = renF p f m := by
  funext y
  rcases Nat.lt_or_ge y m with c | c
  · obtain ⟨x, hx, rfl⟩ := h.onto c
    rw [renTo_at h m (Nat.le_refl m) x hx, renF_at h hx]
  · rw [renTo_none m fun x hx e => by have := h.1 x hx; omega]
    unfold renF
    rw [thenF_out c]
theorem renF_perm {p f : Nat → Nat} {m : Nat} (hp : PermN p m) (hf : PermN f m) : PermN (renF p f m) m := thenF_perm (thenF_perm (backF_perm hp) hf) hp

set_option maxRecDepth 100000 in
set_option maxHeartbeats 1000000 in
theorem rename_any (f g p : Nat → Nat) (m : Nat) (hf : PermN f m) (hg : PermN g m) (hp : PermN p m) (w : World) :
    Calls Try.prog 190 #[.agg (dv m f g), .agg (av p)] w fun e w' => e = .returned (.agg (dv m (renF p f m) (renF p g m))) ∧ Below w.heap.size w w' := by
  have lt : ∀ {q : Nat → Nat}, PermN q m → ∀ i, i < m → q i < 16 := fun h i hi => h.lt i (by have := h.2.1; omega)
  have C0 := hide fun w => undo_any p m hp.2.1 (lt hp) w
  have C1 := hide fun w => follow_any (backF p m) f m hp.2.1 (lt (backF_perm hp)) w
  have C2 := hide fun w => follow_any (thenF (backF p m) f m) p m hp.2.1 (lt (thenF_perm (backF_perm hp) hf)) w
  have C3 := hide fun w => follow_any (backF p m) g m hp.2.1 (lt (backF_perm hp)) w
  have C4 := hide fun w => follow_any (thenF (backF p m) g m) p m hp.2.1 (lt (thenF_perm (backF_perm hp) hg)) w
  have e1 : renF p f m = thenF (thenF (backF p m) f m) p m := rfl
  have e2 : renF p g m = thenF (thenF (backF p m) g m) p m := rfl
  rw [e1, e2]
  generalize thenF (thenF (backF p m) f m) p m = F at *
  generalize thenF (thenF (backF p m) g m) p m = G at *
  generalize thenF (backF p m) f m = F1 at *
  generalize thenF (backF p m) g m = G1 at *
  generalize backF p m = B at *
  clear hf hg hp e1 e2 lt
  have hn := dv_n m f g
  go_enter Try.func190, Try.ntmps190
  go_wp2_with fail
  rw [← dv_zero]
  refine (C0.out _).mono ?_
  rintro e w1 ⟨rfl, hb⟩
  have c1 : cellsOf w1 w.heap.size = dv m f g := (below_cells hb (by simp <;> omega)).trans (cellsOf_heap (heap2 rfl))
  have d1 : cellsOf w1 (w.heap.size + 1) = av p := (below_cells hb (by simp <;> omega)).trans (cellsOf_heap (heap1 (by simp)))
  have r1 : rowOk w1 (w.heap.size + 2) 33 := (below_row hb (by simp)).2 ⟨_, _, heap_at _ _ _ (by simp), dv_size _ _ _⟩
  have b1 := (below3 w (.cells (dv m f g) 29) (.cells (av p) 27) (.cells (dv 0 (fun _ => 0) (fun _ => 0)) 29)).trans (hb.mono (by simp <;> omega))
  have l2 := r1.lt
  clear hb
  go_wp2
  generalize hW : w1.alloc _ = W
  have c0 : cellsOf W w.heap.size = dv m f g := by rw [← hW, cellsOf_past (by omega)]; exact c1
  have d0 : cellsOf W (w.heap.size + 1) = av p := by rw [← hW, cellsOf_past (by omega)]; exact d1
  have x0 : cellsOf W w1.heap.size = av B := by rw [← hW]; exact cellsOf_heap (heap_at _ _ _ rfl)
  have r0 : rowOk W (w.heap.size + 2) 33 := by rw [← hW]; exact (rowOk_past l2).2 r1
  have b0 : Below w.heap.size w W := by rw [← hW]; exact b1.alloc (by omega) _
  have l0 : w1.heap.size < W.heap.size := by rw [← hW]; simp
  clear hW c1 d1 r1 b1
  refine region_tail (Grown W) 23 (by kernel_rfl) (by kernel_rfl) (Grown.drew W) ?_
  simp only [List.take_succ_cons, List.take_zero, List.drop_succ_cons, List.drop_zero]
  apply q_step
  · go_simp
  · intro wx hx
    have e0 := hx.cells c0 (by omega)
    have y0 := hx.cells d0 (by omega)
    have z0 := hx.cells x0 l0
    have n0 : wx.cell? ⟨w.heap.size, 0, none⟩ = some (.int .i64 m) := by rw [cell_of_cells, e0]; exact hn
    go_simp
    exact rfl
  apply q_step
  · go_simp
  · intro wx hx
    have e0 := hx.cells c0 (by omega)
    have y0 := hx.cells d0 (by omega)
    have z0 := hx.cells x0 l0
    have n0 : wx.cell? ⟨w.heap.size, 0, none⟩ = some (.int .i64 m) := by rw [cell_of_cells, e0]; exact hn
    go_simp
    exact rfl
  apply q_step
  · go_simp
  · intro wx hx
    have e0 := hx.cells c0 (by omega)
    have y0 := hx.cells d0 (by omega)
    have z0 := hx.cells x0 l0
    have n0 : wx.cell? ⟨w.heap.size, 0, none⟩ = some (.int .i64 m) := by rw [cell_of_cells, e0]; exact hn
    go_simp
    exact rfl
  apply q_step
  · go_simp
  · intro wx hx
    have e0 := hx.cells c0 (by omega)
    have y0 := hx.cells d0 (by omega)
    have z0 := hx.cells x0 l0
    have n0 : wx.cell? ⟨w.heap.size, 0, none⟩ = some (.int .i64 m) := by rw [cell_of_cells, e0]; exact hn
    go_simp
    exact rfl
  apply q_step
  · go_simp
  · intro wx hx
    have e0 := hx.cells c0 (by omega)
    have y0 := hx.cells d0 (by omega)
    have z0 := hx.cells x0 l0
    have n0 : wx.cell? ⟨w.heap.size, 0, none⟩ = some (.int .i64 m) := by rw [cell_of_cells, e0]; exact hn
    go_simp
    exact rfl
  apply q_step
  · go_simp
  · intro wx hx
    have e0 := hx.cells c0 (by omega)
    have y0 := hx.cells d0 (by omega)
    have z0 := hx.cells x0 l0
    have n0 : wx.cell? ⟨w.heap.size, 0, none⟩ = some (.int .i64 m) := by rw [cell_of_cells, e0]; exact hn
    go_simp
    exact rfl
  apply q_step
  · go_simp
  · intro wx hx
    have e0 := hx.cells c0 (by omega)
    have y0 := hx.cells d0 (by omega)
    have z0 := hx.cells x0 l0
    have n0 : wx.cell? ⟨w.heap.size, 0, none⟩ = some (.int .i64 m) := by rw [cell_of_cells, e0]; exact hn
    go_simp
    exact rfl
  apply q_step
  · go_simp
  · intro wx hx
    have e0 := hx.cells c0 (by omega)
    have y0 := hx.cells d0 (by omega)
    have z0 := hx.cells x0 l0
    have n0 : wx.cell? ⟨w.heap.size, 0, none⟩ = some (.int .i64 m) := by rw [cell_of_cells, e0]; exact hn
    go_simp
    go_at_call 140
    exact Calls.mono (C1.out wx) fun e w' h => ⟨h.1, hx.call h.2⟩
  apply q_step
  · go_simp
  · intro wx hx
    have e0 := hx.cells c0 (by omega)
    have y0 := hx.cells d0 (by omega)
    have z0 := hx.cells x0 l0
    have n0 : wx.cell? ⟨w.heap.size, 0, none⟩ = some (.int .i64 m) := by rw [cell_of_cells, e0]; exact hn
    go_simp
    exact rfl
  apply q_step
  · go_simp
  · intro wx hx
    have e0 := hx.cells c0 (by omega)
    have y0 := hx.cells d0 (by omega)
    have z0 := hx.cells x0 l0
    have n0 : wx.cell? ⟨w.heap.size, 0, none⟩ = some (.int .i64 m) := by rw [cell_of_cells, e0]; exact hn
    go_simp
    exact rfl
  apply q_step
  · go_simp
  · intro wx hx
    have e0 := hx.cells c0 (by omega)
    have y0 := hx.cells d0 (by omega)
    have z0 := hx.cells x0 l0
    have n0 : wx.cell? ⟨w.heap.size, 0, none⟩ = some (.int .i64 m) := by rw [cell_of_cells, e0]; exact hn
    go_simp
    exact rfl
  apply q_step
  · go_simp
  · intro wx hx
    have e0 := hx.cells c0 (by omega)
    have y0 := hx.cells d0 (by omega)
    have z0 := hx.cells x0 l0
    have n0 : wx.cell? ⟨w.heap.size, 0, none⟩ = some (.int .i64 m) := by rw [cell_of_cells, e0]; exact hn
    go_simp
    go_at_call 140
    exact Calls.mono (C2.out wx) fun e w' h => ⟨h.1, hx.call h.2⟩
  apply q_step
  · go_simp
  · intro wx hx
    have e0 := hx.cells c0 (by omega)
    have y0 := hx.cells d0 (by omega)
    have z0 := hx.cells x0 l0
    have n0 : wx.cell? ⟨w.heap.size, 0, none⟩ = some (.int .i64 m) := by rw [cell_of_cells, e0]; exact hn
    go_simp
    exact rfl
  apply q_step
  · go_simp
  · intro wx hx
    have e0 := hx.cells c0 (by omega)
    have y0 := hx.cells d0 (by omega)
    have z0 := hx.cells x0 l0
    have n0 : wx.cell? ⟨w.heap.size, 0, none⟩ = some (.int .i64 m) := by rw [cell_of_cells, e0]; exact hn
    go_simp
    exact rfl
  apply q_step
  · go_simp
  · intro wx hx
    have e0 := hx.cells c0 (by omega)
    have y0 := hx.cells d0 (by omega)
    have z0 := hx.cells x0 l0
    have n0 : wx.cell? ⟨w.heap.size, 0, none⟩ = some (.int .i64 m) := by rw [cell_of_cells, e0]; exact hn
    go_simp
    exact rfl
  apply q_step
  · go_simp
  · intro wx hx
    have e0 := hx.cells c0 (by omega)
    have y0 := hx.cells d0 (by omega)
    have z0 := hx.cells x0 l0
    have n0 : wx.cell? ⟨w.heap.size, 0, none⟩ = some (.int .i64 m) := by rw [cell_of_cells, e0]; exact hn
    go_simp
    exact rfl
  apply q_step
  · go_simp
  · intro wx hx
    have e0 := hx.cells c0 (by omega)
    have y0 := hx.cells d0 (by omega)
    have z0 := hx.cells x0 l0
    have n0 : wx.cell? ⟨w.heap.size, 0, none⟩ = some (.int .i64 m) := by rw [cell_of_cells, e0]; exact hn
    go_simp
    exact rfl
  apply q_step
  · go_simp
  · intro wx hx
    have e0 := hx.cells c0 (by omega)
    have y0 := hx.cells d0 (by omega)
    have z0 := hx.cells x0 l0
    have n0 : wx.cell? ⟨w.heap.size, 0, none⟩ = some (.int .i64 m) := by rw [cell_of_cells, e0]; exact hn
    go_simp
    go_at_call 140
    exact Calls.mono (C3.out wx) fun e w' h => ⟨h.1, hx.call h.2⟩
  apply q_step
  · go_simp
  · intro wx hx
    have e0 := hx.cells c0 (by omega)
    have y0 := hx.cells d0 (by omega)
    have z0 := hx.cells x0 l0
    have n0 : wx.cell? ⟨w.heap.size, 0, none⟩ = some (.int .i64 m) := by rw [cell_of_cells, e0]; exact hn
    go_simp
    exact rfl
  apply q_step
  · go_simp
  · intro wx hx
    have e0 := hx.cells c0 (by omega)
    have y0 := hx.cells d0 (by omega)
    have z0 := hx.cells x0 l0
    have n0 : wx.cell? ⟨w.heap.size, 0, none⟩ = some (.int .i64 m) := by rw [cell_of_cells, e0]; exact hn
    go_simp
    exact rfl
  apply q_step
  · go_simp
  · intro wx hx
    have e0 := hx.cells c0 (by omega)
    have y0 := hx.cells d0 (by omega)
    have z0 := hx.cells x0 l0
    have n0 : wx.cell? ⟨w.heap.size, 0, none⟩ = some (.int .i64 m) := by rw [cell_of_cells, e0]; exact hn
    go_simp
    exact rfl
  apply q_step
  · go_simp
  · intro wx hx
    have e0 := hx.cells c0 (by omega)
    have y0 := hx.cells d0 (by omega)
    have z0 := hx.cells x0 l0
    have n0 : wx.cell? ⟨w.heap.size, 0, none⟩ = some (.int .i64 m) := by rw [cell_of_cells, e0]; exact hn
    go_simp
    go_at_call 140
    exact Calls.mono (C4.out wx) fun e w' h => ⟨h.1, hx.call h.2⟩
  apply q_step
  · go_simp
  · intro wx hx
    have e0 := hx.cells c0 (by omega)
    have y0 := hx.cells d0 (by omega)
    have z0 := hx.cells x0 l0
    have n0 : wx.cell? ⟨w.heap.size, 0, none⟩ = some (.int .i64 m) := by rw [cell_of_cells, e0]; exact hn
    go_simp
    exact rfl
  refine wpQuiet_nil ?_
  intro w2 hx
  have r2 := hx.row r0
  have b2 : Below w.heap.size w w2 := b0.trans (Below.mono hx b0.size)
  clear c0 d0 x0 r0 b0 l0 l2 hx
  go_wp2
  obtain ⟨t, ht, _⟩ := r2.heap
  exact res_agg (p := 4) (g := w.heap.size + 2) aggD (dv_size _ _ _) rfl rfl rfl (setRow_heap _ _ _ _ t (0, 0) ht) ⟨rfl, below_setRow b2 (by omega) _⟩

set_option maxRecDepth 100000 in
set_option maxHeartbeats 1000000 in
theorem sRename_any (f g p : Nat → Nat) (m : Nat) (hf : PermN f m) (hg : PermN g m) (hp : PermN p m) (w : World) :
    Calls Try.prog 227 #[.agg (dv m f g), .agg (av p)] w fun e w' => e = .returned (.agg (dv m (renF p f m) (renF p g m))) ∧ Below w.heap.size w w' := by
  rw [← renTo_eq hp.2.2.1, ← renTo_eq hp.2.2.1]
  have hm := hp.2.1
  have lf := hide hf.2.2.1.1
  have lg := hide hg.2.2.1.1
  have lp := hide hp.2.2.1.1
  clear hf hg hp
  have hn := dv_n m f g
  go_enter Try.func227, Try.ntmps227
  go_wp2
  rw [← dv_zero]
  generalize hW : ((w.alloc (.cells (dv m f g) 29)).alloc (.cells (av p) 27)).alloc (.cells (dv 0 (fun _ => 0) (fun _ => 0)) 29) = W
  have c0 : cellsOf W w.heap.size = dv m f g := by rw [← hW]; exact cellsOf_heap (heap2 rfl)
  have d0 : cellsOf W (w.heap.size + 1) = av p := by rw [← hW]; exact cellsOf_heap (heap1 (by simp))
  have r0 : rowOk W (w.heap.size + 2) 33 := by rw [← hW]; exact ⟨_, _, heap_at _ _ _ (by simp), dv_size _ _ _⟩
  have b0 : Below w.heap.size w W := by rw [← hW]; exact below3 _ _ _ _
  have s0 : W.heap.size = w.heap.size + 3 := by rw [← hW]; simp
  clear hW
  go_loopw [6] (fun x wr => ∃ k : Nat, k ≤ m ∧ x = .int .i64 k ∧ Below (w.heap.size + 1 + 1 + 1) W wr ∧ cellsOf wr (w.heap.size + 1 + 1 + 1) = dv m (renTo p f k) (renTo p g k) ∧ rowOk wr (w.heap.size + 1 + 1 + 1) 33) (fun x _ => m - (intOf x).toNat)
  case atStart => exact ⟨0, by omega, rfl, (below1 W _).mono (by omega), cellsOf_heap (heap_at _ _ _ (by omega)), ⟨_, _, heap_at _ _ _ (by omega), dv_size _ _ _⟩⟩
  case round =>
    obtain ⟨k, hk, rfl, hbw, hc, hr⟩ := hrel
    have c1 := (below_cells hbw (by omega)).trans c0
    have n0 : wr.cell? ⟨w.heap.size, 0, none⟩ = some (.int .i64 m) := by rw [cell_of_cells, c1]; exact hn
    by_cases hlt : k < m
    · have d1 := (below_cells hbw (by omega)).trans d0
      have a16 := lp.out k hlt
      have b16 := lf.out k hlt
      have d16 := lg.out k hlt
      have c16 := lp.out _ b16
      have e16 := lp.out _ d16
      have x1 : wr.cell? ⟨w.heap.size + 1, k, none⟩ = some (.int .u8 (p k)) := by rw [cell_of_cells, d1, av_get _ (by omega)]
      have x2 : wr.cell? ⟨w.heap.size, 1 + k, none⟩ = some (.int .u8 (f k)) := by rw [cell_of_cells, c1, dv_b _ _ _ (by omega)]
      have x3 : wr.cell? ⟨w.heap.size + 1, f k, none⟩ = some (.int .u8 (p (f k))) := by rw [cell_of_cells, d1, av_get _ (by omega)]
      have x4 : wr.cell? ⟨w.heap.size, 17 + k, none⟩ = some (.int .u8 (g k)) := by rw [cell_of_cells, c1, dv_w _ _ _ (by omega)]
      have x5 : wr.cell? ⟨w.heap.size + 1, g k, none⟩ = some (.int .u8 (p (g k))) := by rw [cell_of_cells, d1, av_get _ (by omega)]
      have x6 : wr.cell? ⟨w.heap.size + 1 + 1 + 1, 1 + p k, none⟩ = some (.int .u8 (renTo p f k (p k))) := by rw [cell_of_cells, hc, dv_b _ _ _ (by omega)]
      have x7 : wr.cell? ⟨w.heap.size + 1 + 1 + 1, 17 + p k, none⟩ = some (.int .u8 (renTo p g k (p k))) := by rw [cell_of_cells, hc, dv_w _ _ _ (by omega)]
      have f1 : wr.frozen? ⟨w.heap.size + 1 + 1 + 1, 1 + p k, none⟩ = false := hr.frozen
      have f2 : wr.frozen? ⟨w.heap.size + 1 + 1 + 1, 17 + p k, none⟩ = false := hr.frozen
      have t1 : fset (renTo p f k) (p k) (p (f k)) = renTo p f (k + 1) := rfl
      have t2 : fset (renTo p g k) (p k) (p (g k)) = renTo p g (k + 1) := rfl
      have T := hide (And.intro t1 t2); clear t1 t2
      have HC := hide hc; clear hc
      have hbb := fun a v b u => below_setCell (below_setCell hbw (Nat.le_refl _) a v) (Nat.le_refl _) b u
      have B3 := hide hbb; clear hbb
      have r3 := fun a (v : Value) b (u : Value) => rowOk_setCell (g' := w.heap.size + 1 + 1 + 1) (i := b) (v := u) (rowOk_setCell (g' := w.heap.size + 1 + 1 + 1) (i := a) (v := v) hr)
      have R3 := hide r3; clear r3
      generalize renTo p f k (p k) = y6 at *
      generalize renTo p g k (p k) = y7 at *
      generalize p (f k) = z1 at *
      generalize p (g k) = z2 at *
      generalize f k = z3 at *
      generalize g k = z4 at *
      generalize p k = z5 at *
      clear c1 d1 hbw hr
      go_wp2
      go_region
      all_goals go_wp2
      all_goals go_region
      all_goals go_wp2
      all_goals go_roundw
      case rel =>
        refine ⟨k + 1, by omega, by go_num, (B3.out _ _ _ _).drew.drew, ?_, rowOk_drew.2 (rowOk_drew.2 (R3.out _ _ _ _))⟩
        simp only [cellsOf_drew]
        rw [cellsOf_setCell, cellsOf_setCell, HC.out, dv_setb _ _ _ _ (by omega), dv_setw _ _ _ _ (by omega), T.out.1, T.out.2]
      case measure => simp [intOf]; omega
    · obtain rfl : k = m := by omega
      have r1 : rowOk wr (w.heap.size + 2) 33 := (below_row hbw (by omega)).2 r0
      have b1 : Below w.heap.size w wr := b0.trans (hbw.mono (by omega))
      clear hbw c1 hk
      go_wp2
      obtain ⟨t, ht, _⟩ := r1.heap
      exact res_agg (p := 4) (g := w.heap.size + 2) aggD (dv_size _ _ _) rfl rfl rfl (setRow_heap _ _ _ _ t (0, 0) ht) ⟨rfl, below_setRow b1 (by omega) _⟩

noncomputable def renB (n : Int) (f g p : Nat → Nat) : Bool := desB n f g && permB p n
noncomputable def renR (n : Int) (f g p : Nat → Nat) : Value := if renB n f g p = true then .tuple #[.agg (dv n (renF p f n.toNat) (renF p g n.toNat)), .int .i64 0] else .tuple #[.agg (dv 0 (fun _ => 0) (fun _ => 0)), .int .i64 1]
theorem renR_eq (n : Int) (f g p : Nat → Nat) : ∃ (a : Int) (r s : Nat → Nat) (c : Int), renR n f g p = .tuple #[.agg (dv a r s), .int .i64 c] := by
  unfold renR; split
  · exact ⟨_, _, _, _, rfl⟩
  · exact ⟨_, _, _, _, rfl⟩

-- left out here: loop.example/g01200/impl.RenameDessin
-- left out here: loop.example/g01200/spec.RenameDessin
end Go.Proofs.Ytfoaejdbgpgnhaa

namespace Go.Proofs.Ytfoaejdbgpgnhaa
open Go.RowKit

theorem zeros16 : (Builtin.zeroCells #[Value.int .u8 0] 16).toList = bytesL (List.replicate 16 0) := by kernel_rfl
theorem wrap16 : IntKind.i64.wrap 16 = 16 := by kernel_rfl
theorem run_app16 {w : World} {B : Nat} {v : Value} {l : List Nat} (ty : TypeId) (h : OwnB B w v l) (h0 : 0 < l.length) (hl : l.length ≤ 16) (hBw : B ≤ w.heap.size) :
    ∃ v' w', (Builtin.append_ #[59, 3] ty #[v, .int .i64 16]).run Try.prog w = .ok v' w' ∧ OwnB B w' v' (l ++ List.replicate 16 0) ∧ w.grownBy w' v.ownBlock := by
  obtain ⟨i0, hi, hz0, hz1, hz2⟩ := info_parts infoU8
  rcases h.2 with ⟨_, e⟩ | ⟨g, cap, cur, rfl, hB, hh, h1, h2, h3, h4⟩
  · omega
  · rw [Nat.mul_one] at h3 h4
    have hbl : (bytesL l).length = l.length := by simp [bytesL]
    by_cases hroom : l.length + 16 ≤ cap
    · have hst := run_storeCells_at Try.prog g l.length 5 (bytesL (List.replicate 16 0)) 0 cur w hh (by simp [bytesL]; omega) (by simp [bytesL, Value.oneCell'])
      refine ⟨.slice (some ⟨g, 0, none⟩) (l.length + 16) cap, w.setRow g (cur.toList.take l.length ++ bytesL (List.replicate 16 0) ++ cur.toList.drop (l.length + 16)).toArray, ?_, ?_, ?_⟩
      · have hz := zeros16
        simp only [Nat.add_zero] at hst
        have hZl : (bytesL (List.replicate 16 0)).length = 16 := by simp [bytesL]
        generalize bytesL (List.replicate 16 0) = Z at *
        rw [hZl] at hst
        simp [Builtin.append_, run_underlying Try.underlying59, run_underlying Try.underlying3, sizeOf, typeInfo, zeroValue, hi, hz0, hz1, hz2, hroom, asInt, asIntOf, Addr.add_lit, wrap16, hz, Value.cells, hst, hbl]
      · refine ⟨by simp [bytesL], .inr ⟨g, cap, _, by simp, hB, setRow_heap _ _ _ _ _ _ hh, by simpa using hroom, h2, ?_, ?_⟩⟩
        · simp [bytesL]; omega
        · rw [h4]
          have : (l ++ List.replicate 16 0).length * 1 = (bytesL l ++ bytesL (List.replicate 16 0)).length := by simp [bytesL]
          rw [this]
          simp only [List.take_left]
          simp [bytesL]
      · exact ⟨rfl, rfl, rfl, by simp, fun k _ hk => setRow_other w g k _ (fun e => hk (by simp [Value.ownBlock, e]))⟩
    · have hn : ¬ (l.length + 16 ≤ cap) := hroom
      have h63 : ¬ (9223372036854775807 < ((l.length : Int) + max 16 0)) := by omega
      have h48 : ¬ (281474976710656 < Builtin.nextslicecap (l.length + 16) cap) := by
        have := growslice_fits (need := l.length + 16) (old := cap) (bytes := 1) (by omega) (by omega)
        omega
      have hfo := run_firstCells_some (P := Try.prog) w.drew 1 l.length ⟨g, 0, none⟩ l.length cap (bytesL l) (by simp [bytesL]) (fun j u hu => by
        have := World.ownsRow.cells h (g := g) rfl j u hu
        simpa using this)
      have hz := zeros16
      have hge := grownCap_ge w (l.length + 16) cap 5
      have hcm := grownCap_le_maxLen w (l.length + 16) cap 5 (by unfold maxLen; omega)
      refine ⟨.slice (some ⟨w.heap.size, 0, none⟩) (l.length + 16) (grownCap w (l.length + 16) cap 5), w.drew.alloc (.cells ((bytesL l).toArray ++ (Builtin.zeroCells #[Value.int .u8 0] 16 ++ Builtin.zeroCells #[Value.int .u8 0] (grownCap w (l.length + 16) cap 5 - (l.length + 16)))) 5), ?_, ?_, ?_⟩
      · simp [Builtin.append_, run_underlying Try.underlying59, run_underlying Try.underlying3, sizeOf, typeInfo, zeroValue, hi, hz0, hz1, hz2, hn, h63, h48, asInt, asIntOf, Addr.add_lit, wrap16, hz, Value.cells, Question.forced, hfo, newRow, grownCap]
      · refine ⟨by simp [bytesL], .inr ⟨w.heap.size, _, _, by simp, hBw, heap_alloc_new w.drew _, by simpa using hge, hcm, ?_, ?_⟩⟩
        · simp [size_zeroCells, bytesL]; omega
        · have e : (l ++ List.replicate 16 0).length * 1 = (bytesL l ++ bytesL (List.replicate 16 0)).length := by simp [bytesL]
          rw [e]
          simp only [Array.toList_append, hz]
          rw [← List.append_assoc]
          simp only [List.take_left]
          simp [bytesL]
      · exact ⟨rfl, rfl, rfl, by simp, fun k hk _ => heap_past w.drew _ k hk⟩
/-- the operation -/
theorem appZ {ops : Array Oper} {rest : List Oper} {o : Oper} {a : Act} {Q : Exit → Act → World → Prop} {w : World} (hgd : o.guard = none) (s : Operand)
    (ho : o.op = .call { callee := .builtin .append, args := #[s, .const (.int .i64 16)], argTypes := #[59, 3] }) {B : Nat} {v : Value} {l : List Nat} (hs : a.eval s = v) (hown : OwnB B w v l) (h0 : 0 < l.length) (hl : l.length ≤ 16) (hB : B ≤ w.heap.size)
    (h : ∀ v' w', OwnB B w' v' (l ++ List.replicate 16 0) → w.grownBy w' v.ownBlock → wpList Try.prog ops Q rest (a.put o.dst v') w') : wpList Try.prog ops Q (o :: rest) a w := by
  obtain ⟨v', w', hr, h2, h3⟩ := run_app16 o.type hown h0 hl hB
  refine wpList_plain hgd fun _ hK => ?_
  unfold Oper.wp execOp
  have hc : a.eval (.const (.int .i64 16)) = .int .i64 16 := rfl
  simp only [ho, resolve, invoke, builtin, Sem.run_bind, Sem.run_pure, Result.andThen_ok, List.map_toArray, List.map_cons, List.map_nil, hs, hc, hr]
  exact hK _ _ (h v' w' h2 h3)

/-- the first sixteen of a list of bytes and sixteen zeros behind it -/
def lstF (l : List Nat) : Nat → Nat := fun i => l.getD i 0
theorem lstF_take (l : List Nat) (hl : l.length ≤ 16) : ((bytesL (l ++ List.replicate 16 0)).take 16).toArray = av (lstF l) := by
  apply Array.ext_getElem?
  intro i
  rw [List.getElem?_toArray, av_cases]
  by_cases h : i < 16
  · rw [List.getElem?_take_of_lt h, if_pos h]
    unfold bytesL lstF
    rw [List.getElem?_map]
    rcases Nat.lt_or_ge i l.length with c | c
    · rw [List.getElem?_append_left c, List.getD_eq_getElem?_getD, List.getElem?_eq_getElem c]; rfl
    · rw [List.getElem?_append_right c, List.getD_eq_getElem?_getD, List.getElem?_eq_none c, List.getElem?_replicate, if_pos (by omega)]; rfl
  · rw [List.getElem?_take_eq_none (by omega), if_neg h]
/-- the array that lies at the beginning of such a list -/
theorem own_sixteen {B : Nat} {w : World} {v : Value} {l : List Nat} (h : OwnB B w v (l ++ List.replicate 16 0)) (h0 : 0 < (l ++ List.replicate 16 0).length) (hl : l.length ≤ 16) :
    ∃ g c, v = .slice (some ⟨g, 0, none⟩) (l ++ List.replicate 16 0).length c ∧ B ≤ g ∧ g < w.heap.size ∧
      ∀ wx, cellsOf wx g = cellsOf w g → (loadT 27 (.pointer (some ⟨g, 0, none⟩))).run Try.prog wx = .ok (.value (.agg (av (lstF l)))) wx := by
  rcases h.2 with ⟨_, e⟩ | ⟨g, cap, cur, rfl, hB, hh, h1, h2, h3, h4⟩
  · omega
  · refine ⟨g, cap, rfl, hB, (Array.getElem?_eq_some_iff.1 hh).1, fun wx hx => run_load_mid aggP ?_ (av_size _)⟩
    rw [hx, cellsOf_heap hh, ← lstF_take l hl, ← h4, List.take_take]
    have hm : min 16 ((l ++ List.replicate 16 0).length * 1) = 16 := by simp
    rw [hm]
    apply Array.ext'
    simp
def namF (f g : Nat → Nat) (m x : Nat) : Nat → Nat := backF (lstF (bfs f g x 16).1) m

set_option maxRecDepth 100000 in
set_option maxHeartbeats 1000000 in
theorem naming_any (f g : Nat → Nat) (m : Nat) (hd : DesN f g m) (x : Nat) (hx : x < m) (w : World) :
    Calls Try.prog 191 #[.agg (dv m f g), .int .u8 x] w fun e w' => e = .returned (.agg (av (namF f g m x))) ∧ Below w.heap.size w w' := by
  obtain ⟨l, hl⟩ : ∃ l, l = (bfs f g x 16).1 := ⟨_, rfl⟩
  have c1 := fun w => dartsFrom_any f g m hd.le hd.bf.1 hd.bg.1 x hx m w
  have hI := bfs_inv hd.bf.1 hd.bg.1 hx 16
  have hlen : (bfs f g x 16).1.length = m := bfs_full hd.bf hd.bg hd.le hd.conn hx
  have hil := hI.lt
  have e1 : namF f g m x = backF (lstF (bfs f g x 16).1) m := rfl
  rw [e1]
  rw [← hl] at c1 hlen hil ⊢
  clear e1 hI hl
  have hm := hd.le
  have h0 := hd.pos
  have hn := dv_n m f g
  have hlt : ∀ i, i < m → lstF l i < 16 := fun i hi => by
    unfold lstF
    rw [List.getD_eq_getElem?_getD, List.getElem?_eq_getElem (by omega)]
    have := hil _ (List.getElem_mem (show i < l.length by omega))
    show l[i] < 16
    omega
  have C1 := hide c1; clear c1
  have C2 := hide fun w => undo_any (lstF l) m hm hlt w
  generalize backF (lstF l) m = F at *
  clear hlt hil hd
  go_enter Try.func191, Try.ntmps191
  go_wp2_with fail
  rw [← av_zero]
  refine (C1.out _).mono ?_
  rintro e w1 ⟨v, rfl, hb, ho⟩
  have c1 : cellsOf w1 w.heap.size = dv m f g := (below_cells hb (by simp <;> omega)).trans (cellsOf_heap (heap1 rfl))
  have r1 : rowOk w1 (w.heap.size + 1) 16 := (below_row hb (by simp)).2 ⟨_, _, heap_at _ _ _ (by simp), av_size _⟩
  have b1 := (below2 w (.cells (dv m f g) 29) (.cells (av fun _ => 0) 27)).trans (hb.mono (by simp <;> omega))
  have ho1 : OwnB (w.heap.size + 2) w1 v l := by simpa using ho
  have hlow : ∀ k, v.ownBlock = some k → w.heap.size + 2 ≤ k := fun k hk => (World.ownsRow.lt ho1 k hk).1
  have s1 : w.heap.size + 2 ≤ w1.heap.size := by have := hb.size; simpa using this
  clear hb ho
  go_wp2_with (at_builtin; refine appZ rfl _ rfl rfl ho1 (by omega) (by omega) (by omega) fun v' w2 ho2 hg2 => ?_)
  have b2 := b1.grown hg2 (by omega) (fun k hk => by have := hlow k hk; omega)
  have c2 : cellsOf w2 w.heap.size = dv m f g := by rw [grown_cells hg2 (by omega) (fun e => by have := hlow _ e.symm; omega)]; exact c1
  have r2 : rowOk w2 (w.heap.size + 1) 16 := (grown_row hg2 r1.lt (fun e => by have := hlow _ e.symm; omega)).2 r1
  clear c1 r1 b1 hg2 hlow ho1
  obtain ⟨g0, cp, rfl, hg0, hg1, hx0⟩ := own_sixteen ho2 (by simp) (by rw [hlen]; exact hm)
  have hll : (l ++ List.replicate 16 0).length = m + 16 := by simp [hlen]
  rw [hll]
  clear ho2 hll
  go_wp2
  refine region_tail (Grown w2) 6 (by kernel_rfl) (by kernel_rfl) (Grown.drew w2) ?_
  simp only [List.take_succ_cons, List.take_zero, List.drop_succ_cons, List.drop_zero]
  apply q_step
  · go_simp
  · intro wx hx
    have e0 := hx.cells c2 (by have := r2.lt; omega)
    have z0 := hx0 wx (hx.cells rfl hg1)
    have a0 := run_arrayAt (P := Try.prog) wx 27 5 16 (some ⟨g0, 0, none⟩) (m + 16) cp Try.underlying27 (by omega)
    have n0 : wx.cell? ⟨w.heap.size, 0, none⟩ = some (.int .i64 m) := by rw [cell_of_cells, e0]; exact hn
    go_simp
    exact rfl
  apply q_step
  · go_simp
  · intro wx hx
    have e0 := hx.cells c2 (by have := r2.lt; omega)
    have z0 := hx0 wx (hx.cells rfl hg1)
    have a0 := run_arrayAt (P := Try.prog) wx 27 5 16 (some ⟨g0, 0, none⟩) (m + 16) cp Try.underlying27 (by omega)
    have n0 : wx.cell? ⟨w.heap.size, 0, none⟩ = some (.int .i64 m) := by rw [cell_of_cells, e0]; exact hn
    go_simp
    exact rfl
  apply q_step
  · go_simp
  · intro wx hx
    have e0 := hx.cells c2 (by have := r2.lt; omega)
    have z0 := hx0 wx (hx.cells rfl hg1)
    have a0 := run_arrayAt (P := Try.prog) wx 27 5 16 (some ⟨g0, 0, none⟩) (m + 16) cp Try.underlying27 (by omega)
    have n0 : wx.cell? ⟨w.heap.size, 0, none⟩ = some (.int .i64 m) := by rw [cell_of_cells, e0]; exact hn
    go_simp
    exact rfl
  apply q_step
  · go_simp
  · intro wx hx
    have e0 := hx.cells c2 (by have := r2.lt; omega)
    have z0 := hx0 wx (hx.cells rfl hg1)
    have a0 := run_arrayAt (P := Try.prog) wx 27 5 16 (some ⟨g0, 0, none⟩) (m + 16) cp Try.underlying27 (by omega)
    have n0 : wx.cell? ⟨w.heap.size, 0, none⟩ = some (.int .i64 m) := by rw [cell_of_cells, e0]; exact hn
    go_simp
    exact rfl
  apply q_step
  · go_simp
  · intro wx hx
    have e0 := hx.cells c2 (by have := r2.lt; omega)
    have z0 := hx0 wx (hx.cells rfl hg1)
    have a0 := run_arrayAt (P := Try.prog) wx 27 5 16 (some ⟨g0, 0, none⟩) (m + 16) cp Try.underlying27 (by omega)
    have n0 : wx.cell? ⟨w.heap.size, 0, none⟩ = some (.int .i64 m) := by rw [cell_of_cells, e0]; exact hn
    go_simp
    exact rfl
  apply q_step
  · go_simp
  · intro wx hx
    have e0 := hx.cells c2 (by have := r2.lt; omega)
    have z0 := hx0 wx (hx.cells rfl hg1)
    have a0 := run_arrayAt (P := Try.prog) wx 27 5 16 (some ⟨g0, 0, none⟩) (m + 16) cp Try.underlying27 (by omega)
    have n0 : wx.cell? ⟨w.heap.size, 0, none⟩ = some (.int .i64 m) := by rw [cell_of_cells, e0]; exact hn
    go_simp
    go_at_call 141
    exact Calls.mono (C2.out wx) fun e w' h => ⟨h.1, hx.call h.2⟩
  refine wpQuiet_nil ?_
  intro w3 hx
  have r3 := hx.row r2
  have b3 : Below w.heap.size w w3 := b2.trans (Below.mono hx b2.size)
  clear c2 r2 b2 hx
  go_wp2
  obtain ⟨t, ht, _⟩ := r3.heap
  exact res_agg (p := 4) (g := w.heap.size + 1) aggP (av_size _) rfl rfl rfl (setRow_heap _ _ _ _ t (0, 0) ht) ⟨rfl, below_setRow b3 (by omega) _⟩
end Go.Proofs.Ytfoaejdbgpgnhaa

namespace Go.Proofs.Ytfoaejdbgpgnhaa
open Go.RowKit

theorem info8 : (Try.prog.info? 5).map (fun i => (i.zero, i.size, i.bytes)) = some (some (.int .u8 0), 1, 1) := by kernel_rfl
theorem plain8 : Try.prog.plainKey 5 = true := by kernel_rfl
theorem cells8 : Try.prog.cellsOf 5 = 1 := by kernel_rfl
@[go_sem] theorem guardP : Try.prog.eqGuardType Try.prog.depth 27 = false := by kernel_rfl
@[irreducible] def sameB (f g : Nat → Nat) : Bool := (List.range 16).all fun i => ((f i : Nat) : Int) == ((g i : Nat) : Int)
theorem sameB_iff (f g : Nat → Nat) : sameB f g = true ↔ ∀ i, i < 16 → f i = g i := by unfold sameB; simp [Int.ofNat_inj]
theorem run_items (f g : Nat → Nat) (w : World) : ∀ is : List Nat, (∀ i ∈ is, i < 16) →
    (Op.eqItems 9999 5 1 (av f) (av g) is).run Try.prog w = .ok (is.all fun i => ((f i : Nat) : Int) == ((g i : Nat) : Int)) w
  | [], _ => by simp [Op.eqItems]
  | i :: is, h => by
    have hi := h i (by simp)
    have ih := run_items f g w is fun j hj => h j (by simp [hj])
    have h1 := run_part_plain w plain8 (av_get f hi)
    have h2 := run_part_plain w plain8 (av_get g hi)
    have h3 := run_equalIn_int w 9998 5 .u8 .u8 (f i) (g i) Try.underlying5
    simp only [Op.eqItems, Nat.mul_one, Sem.run_bind, h1, h2, h3, Result.andThen_ok, List.all_cons]
    rcases hb : (((f i : Nat) : Int) == ((g i : Nat) : Int)) with _ | _
    · simp
    · simp [ih]
@[go_sem] theorem run_sameP (f g : Nat → Nat) (w : World) : (Op.equalIn 10000 27 (.agg (av f)) (.agg (av g))).run Try.prog w = .ok (sameB f g) w := by
  obtain ⟨i0, hi, _⟩ := info_parts info8
  have h := run_equalIn_array w 9999 (av f) (av g) Try.underlying27 hi
  rw [cells8] at h
  rw [h, run_items f g w _ (by simp)]
  unfold sameB; rfl

end Go.Proofs.Ytfoaejdbgpgnhaa

namespace Go.Proofs.Ytfoaejdbgpgnhaa
open Go.RowKit

/-- sixteen entries as bytes -/
def b16 (f : Nat → Nat) : List UInt8 := (List.range 16).map fun i => UInt8.ofNat (f i)
theorem b16_length (f : Nat → Nat) : (b16 f).length = 16 := by simp [b16]
theorem b16_get (f : Nat → Nat) {i : Nat} (h : i < 16) : (b16 f).getD i 0 = UInt8.ofNat (f i) := by unfold b16; simp [List.getD, h]
theorem cb_spec : ∀ (a b : List UInt8), a.length = b.length → (Lib.compareBytes a b = 0 ∧ a = b) ∨
    (∃ i, i < a.length ∧ (∀ j, j < i → a.getD j 0 = b.getD j 0) ∧ a.getD i 0 ≠ b.getD i 0 ∧ Lib.compareBytes a b = if a.getD i 0 < b.getD i 0 then -1 else 1)
  | [], [], _ => .inl ⟨rfl, rfl⟩
  | [], _ :: _, h => by simp at h
  | _ :: _, [], h => by simp at h
  | x :: a, y :: b, h => by
    by_cases hxy : x = y
    · subst hxy
      have e : Lib.compareBytes (x :: a) (x :: b) = Lib.compareBytes a b := by simp [Lib.compareBytes]
      rw [e]
      rcases cb_spec a b (by simpa using h) with ⟨h1, h2⟩ | ⟨i, h1, h2, h3, h4⟩
      · exact .inl ⟨h1, by rw [h2]⟩
      · refine .inr ⟨i + 1, by simp; omega, fun j hj => ?_, by simpa using h3, by simpa using h4⟩
        rcases j with _ | j
        · rfl
        · simpa using h2 j (by omega)
    · refine .inr ⟨0, by simp, fun j hj => by omega, by simpa using hxy, ?_⟩
      simp only [Lib.compareBytes, List.getD_cons_zero]
      by_cases hlt : x < y
      · rw [if_pos hlt, if_pos hlt]
      · have : y < x := UInt8.lt_of_le_of_ne (UInt8.not_lt.1 hlt) (Ne.symm hxy)
        rw [if_neg hlt, if_pos this, if_neg hlt]
def eqF (f g : Nat → Nat) : Prop := ∀ i, i < 16 → f i = g i
def ltF (f g : Nat → Nat) : Prop := ∃ i, i < 16 ∧ f i < g i ∧ ∀ j, j < i → f j = g j
theorem ofNat_eq {x y : Nat} (hx : x < 256) (hy : y < 256) : UInt8.ofNat x = UInt8.ofNat y ↔ x = y := by
  refine ⟨fun h => ?_, fun h => by rw [h]⟩
  have := congrArg UInt8.toNat h
  simpa [Nat.mod_eq_of_lt hx, Nat.mod_eq_of_lt hy] using this
theorem ofNat_lt {x y : Nat} (hx : x < 256) (hy : y < 256) : UInt8.ofNat x < UInt8.ofNat y ↔ x < y := by
  rw [UInt8.lt_iff_toNat_lt]
  simp [Nat.mod_eq_of_lt hx, Nat.mod_eq_of_lt hy]
theorem cmp_cases (f g : Nat → Nat) (hf : ∀ i, i < 16 → f i < 256) (hg : ∀ i, i < 16 → g i < 256) :
    (Lib.compareBytes (b16 f) (b16 g) = 0 ∧ eqF f g) ∨ (Lib.compareBytes (b16 f) (b16 g) = -1 ∧ ltF f g ∧ ¬ eqF f g) ∨ (Lib.compareBytes (b16 f) (b16 g) = 1 ∧ ¬ ltF f g ∧ ¬ eqF f g) := by
  rcases cb_spec (b16 f) (b16 g) (by rw [b16_length, b16_length]) with ⟨h1, h2⟩ | ⟨i, h1, h2, h3, h4⟩
  · refine .inl ⟨h1, fun i hi => ?_⟩
    have := congrArg (fun l => l.getD i 0) h2
    simp only [b16_get _ hi] at this
    exact (ofNat_eq (hf i hi) (hg i hi)).1 this
  · rw [b16_length] at h1
    rw [b16_get _ h1, b16_get _ h1] at h3 h4
    have hne : f i ≠ g i := fun e => h3 (by rw [e])
    have hnq : ¬ eqF f g := fun h => hne (h i h1)
    have hpre : ∀ j, j < i → f j = g j := fun j hj => by
      have := h2 j hj
      rw [b16_get _ (by omega), b16_get _ (by omega)] at this
      exact (ofNat_eq (hf j (by omega)) (hg j (by omega))).1 this
    by_cases hlt : f i < g i
    · rw [if_pos ((ofNat_lt (hf i h1) (hg i h1)).2 hlt)] at h4
      exact .inr (.inl ⟨h4, ⟨i, h1, hlt, hpre⟩, hnq⟩)
    · rw [if_neg (fun h => hlt ((ofNat_lt (hf i h1) (hg i h1)).1 h))] at h4
      refine .inr (.inr ⟨h4, fun ⟨j, k1, k2, k3⟩ => ?_, hnq⟩)
      rcases Nat.lt_trichotomy i j with c | c | c
      · exact hne (k3 i c)
      · subst c; exact hlt k2
      · have := hpre j c; omega

def x16 (f : Nat → Nat) : List Int := (List.range 16).map fun i => (f i : Int)
theorem x16_bytes (f : Nat → Nat) : Lib.bytesOf (x16 f) = b16 f := by unfold Lib.bytesOf x16 b16; simp
set_option maxRecDepth 100000 in
theorem compare_any (f g : Nat → Nat) (hf : ∀ i, i < 16 → f i < 256) (hg : ∀ i, i < 16 → g i < 256) (a b : Addr) (c d : Nat) (w : World) (h1 : ∀ j, j < 16 → w.cell? (a.add j) = some (.int .u8 (f j))) (h2 : ∀ j, j < 16 → w.cell? (b.add j) = some (.int .u8 (g j))) :
    Calls Try.prog 193 #[.slice (some a) 16 c, .slice (some b) 16 d] w fun e w' => e = .returned (.int .i64 (Lib.compareBytes (b16 f) (b16 g))) ∧ w' = w := by
  have len : ∀ h : Nat → Nat, (x16 h).length = 16 := fun h => by simp [x16]
  have get : ∀ (h : Nat → Nat) (j : Nat) (x : Int), (x16 h)[j]? = some x → j < 16 ∧ x = (h j : Int) := fun h j x hx => by
    have hj : j < 16 := by have := (List.getElem?_eq_some_iff.1 hx).1; rwa [len] at this
    refine ⟨hj, ?_⟩
    unfold x16 at hx
    simp [hj] at hx
    exact hx.symm
  have r1 := Lib.run_loadBytesX (P := Try.prog) w (x16 f) a .empty (fun j x hx => by obtain ⟨hj, rfl⟩ := get f j x hx; exact h1 j hj)
  have r2 := Lib.run_loadBytesX (P := Try.prog) w (x16 g) b .empty (fun j x hx => by obtain ⟨hj, rfl⟩ := get g j x hx; exact h2 j hj)
  rw [len, x16_bytes] at r1 r2
  have e : (Extern.BytealgCompare.compare #[.slice (some a) 16 c, .slice (some b) 16 d]).run Try.prog w = .ok (.int .i64 (Lib.compareBytes (b16 f) (b16 g))) w := by
    change Sem.run Try.prog (do pure (goInt (Extern.BytealgCompare.cmp (← Extern.Bytes.bytesOf (.slice (some a) 16 c)) (← Extern.Bytes.bytesOf (.slice (some b) 16 d))))) w = _
    simp only [Extern.Bytes.bytesOf, Sem.run_bind, Sem.run_pure, r1, r2, Result.andThen]
    rw [Lib.cmp_eq]
    simp [goInt]
  clear r1 r2 h1 h2 get len
  go_enter Try.func193, Try.ntmps193
  go_wp2
  rw [run_callFunc_extern Try.func225 (by kernel_rfl) (by kernel_rfl) (by kernel_rfl) (e := Extern.BytealgCompare.compare) (by kernel_rfl), e]
  simp only [Result.andThen]
  rw [Oper.upon_value]
  go_wp2
  go_ret
  exact ⟨rfl, rfl⟩
end Go.Proofs.Ytfoaejdbgpgnhaa

namespace Go.Proofs.Ytfoaejdbgpgnhaa
open Go.RowKit

@[go_sem] theorem slice_all (b o : Nat) (w : World) :
    (Instr.sliceAt 27 (.pointer (some ⟨b, o, none⟩)) none none none).run Try.prog w = .ok (.slice (some ⟨b, o, none⟩) 16 16) w := by
  have e : Try.prog.arrayLen 27 = 16 := by kernel_rfl
  have := run_sliceAt_array_all (P := Try.prog) w 27 ⟨b, o, none⟩ (by kernel_rfl)
  rw [this, e]
  simp only [go_sem]
  simp [slicedAt]

set_option maxRecDepth 100000 in
set_option maxHeartbeats 400000 in
theorem or_any (c0 c1 : Int) (g c : Nat) (w : World) (h0 : w.cell? ⟨g, 0, none⟩ = some (.int .i64 c0)) (h1 : w.cell? ⟨g, 1, none⟩ = some (.int .i64 c1)) :
    Calls Try.prog 166 #[.slice (some ⟨g, 0, none⟩) 2 c] w fun e w' => e = .returned (.int .i64 (if c0 = 0 then c1 else c0)) ∧ Below w.heap.size w w' := by
  obtain ⟨r, hr⟩ : ∃ r, r = (if c0 = 0 then c1 else c0) := ⟨_, rfl⟩
  rw [← hr]
  have HR := hide hr; clear hr
  go_enter Try.func166, Try.ntmps166
  go_wp2
  go_loopw [8] (fun i wr => ∃ k : Nat, k ≤ 2 ∧ i = .int .i64 k ∧ wr = w ∧ (1 ≤ k → c0 = 0) ∧ (2 ≤ k → c1 = 0)) (fun i _ => 2 - (intOf i).toNat)
  case atStart => exact ⟨0, by omega, rfl, rfl, by omega, by omega⟩
  case round =>
    obtain ⟨k, hk, rfl, rfl, hz0, hz1⟩ := hrel
    have hk3 : k = 0 ∨ k = 1 ∨ k = 2 := by omega
    rcases hk3 with rfl | rfl | rfl
    · clear hz0 hz1
      by_cases hc : c0 = 0
      · have hb : (c0 != 0) = false := by simp [hc]
        have HC := hide hc; clear hc
        go_wp2
        go_roundw
        case rel => exact ⟨1, by omega, by go_num, by first | rfl | trivial, fun _ => HC.out, by omega⟩
        case measure => simp [intOf]
      · have hb : (c0 != 0) = true := by simp [hc]
        have e : r = c0 := by rw [HR.out, if_neg hc]
        clear hc
        rw [← e] at h0 hb
        clear e HR
        go_wp2
        go_ret
        exact ⟨by first | trivial | rfl, Below.refl _ _⟩
    · have hz := hz0 (by omega)
      clear hz0 hz1
      by_cases hc : c1 = 0
      · have hb : (c1 != 0) = false := by simp [hc]
        have HC := hide hc; clear hc
        have HZ := hide hz; clear hz
        go_wp2
        go_roundw
        case rel => exact ⟨2, by omega, by go_num, by first | rfl | trivial, fun _ => HZ.out, fun _ => HC.out⟩
        case measure => simp [intOf]
      · have hb : (c1 != 0) = true := by simp [hc]
        have e : r = c1 := by rw [HR.out, if_pos hz]
        clear hc hz
        rw [← e] at h1 hb
        clear e HR
        go_wp2
        go_ret
        exact ⟨by first | trivial | rfl, Below.refl _ _⟩
    · have e : r = 0 := by rw [HR.out, if_pos (hz0 (by omega)), hz1 (by omega)]
      subst e
      clear HR hz0 hz1
      go_wp2
      go_ret
      exact ⟨rfl, Below.refl _ _⟩

def cmpD (f g f' g' : Nat → Nat) : Int := if Lib.compareBytes (b16 f) (b16 f') = 0 then Lib.compareBytes (b16 g) (b16 g') else Lib.compareBytes (b16 f) (b16 f')
set_option maxRecDepth 100000 in
set_option maxHeartbeats 1000000 in
theorem compareDessins_any (n n' : Int) (f g f' g' : Nat → Nat) (hf : ∀ i, i < 16 → f i < 256) (hg : ∀ i, i < 16 → g i < 256) (hf' : ∀ i, i < 16 → f' i < 256) (hg' : ∀ i, i < 16 → g' i < 256) (w : World) :
    Calls Try.prog 162 #[.agg (dv n f g), .agg (dv n' f' g')] w fun e w' => e = .returned (.int .i64 (cmpD f g f' g')) ∧ Below w.heap.size w w' := by
  have add1 : ∀ b o j : Nat, ((⟨b, o, none⟩ : Addr).add j) = ⟨b, o + j, none⟩ := fun b o j => by unfold Addr.add; split <;> simp_all
  have C1 := hide fun (wx : World) (e0 : cellsOf wx w.heap.size = dv n f g) (e1 : cellsOf wx (w.heap.size + 1) = dv n' f' g') =>
    (compare_any f f' hf hf' ⟨w.heap.size, 1, none⟩ ⟨w.heap.size + 1, 1, none⟩ 16 16 wx (fun j hj => by rw [add1, cell_of_cells, e0]; exact dv_b _ _ _ hj) (fun j hj => by rw [add1, cell_of_cells, e1]; exact dv_b _ _ _ hj)).mono
      (R' := fun e w' => e = .returned (.int .i64 (Lib.compareBytes (b16 f) (b16 f'))) ∧ Below wx.heap.size wx w') fun e w' ⟨h1, h2⟩ => ⟨h1, by subst h2; exact Below.refl _ _⟩
  have C2 := hide fun (wx : World) (e0 : cellsOf wx w.heap.size = dv n f g) (e1 : cellsOf wx (w.heap.size + 1) = dv n' f' g') =>
    (compare_any g g' hg hg' ⟨w.heap.size, 17, none⟩ ⟨w.heap.size + 1, 17, none⟩ 16 16 wx (fun j hj => by rw [add1, cell_of_cells, e0]; exact dv_w _ _ _ hj) (fun j hj => by rw [add1, cell_of_cells, e1]; exact dv_w _ _ _ hj)).mono
      (R' := fun e w' => e = .returned (.int .i64 (Lib.compareBytes (b16 g) (b16 g'))) ∧ Below wx.heap.size wx w') fun e w' ⟨h1, h2⟩ => ⟨h1, by subst h2; exact Below.refl _ _⟩
  have he : cmpD f g f' g' = if Lib.compareBytes (b16 f) (b16 f') = 0 then Lib.compareBytes (b16 g) (b16 g') else Lib.compareBytes (b16 f) (b16 f') := rfl
  rw [he]
  generalize Lib.compareBytes (b16 f) (b16 f') = x at *
  generalize Lib.compareBytes (b16 g) (b16 g') = y at *
  obtain ⟨r, hr⟩ : ∃ r, r = (if x = 0 then y else x) := ⟨_, rfl⟩
  rw [← hr]
  clear hf hg hf' hg' he add1
  have HR := hide hr; clear hr
  go_enter Try.func162, Try.ntmps162
  go_wp2
  generalize hW : (w.alloc (.cells (dv n f g) 29)).alloc (.cells (dv n' f' g') 29) = W
  have c0 : cellsOf W w.heap.size = dv n f g := by rw [← hW]; exact cellsOf_heap (heap1 rfl)
  have d0 : cellsOf W (w.heap.size + 1) = dv n' f' g' := by rw [← hW]; exact cellsOf_heap (heap_at _ _ _ (by simp))
  have b0 : Below w.heap.size w W := by rw [← hW]; exact below2 _ _ _
  have l0 : w.heap.size + 1 < W.heap.size := by rw [← hW]; simp
  clear hW
  refine region_V (w := W) (fun k => if k = 10 then some (fun w v w' => v = .slice (some ⟨w.heap.size, 0, none⟩) 2 2 ∧ w'.cell? ⟨w.heap.size, 0, none⟩ = some (.int .i64 x) ∧ w'.cell? ⟨w.heap.size, 1, none⟩ = some (.int .i64 y) ∧ w.heap.size < w'.heap.size) else if k = 11 then some (fun w v w' => v = .int .i64 r) else none) (fun _ => false) [10, 11] (.q 0 <| .q 1 <| .q 2 <| .q 3 <| .q 4 <| .q 5 <| .q 6 <| .q 7 <| .q 8 <| .q 9 <| .s1 10 <| .s1 11 <| .q 12 .fin) (by kernel_rfl) (by kernel_rfl) (by kernel_rfl) (fun k hk => ?_) ?_
  · simp at hk; simp [hk]
  apply v_other
  · simp only [List.getElem?_toArray, List.getElem?_cons_zero, List.getElem?_cons_succ]; exact rfl
  · rfl
  · rfl
  · go_simp
  · intro wx hx
    have e0 := hx.cells c0 (by omega)
    have e1 := hx.cells d0 l0
    have D1 := hide fun (_ : World) => C1.out wx e0 e1
    have D2 := hide fun (_ : World) => C2.out wx e0 e1
    unfold atG
    go_simp
    simp only [uponG]
    exact ⟨by trivial, rfl⟩
  apply v_other
  · simp only [List.getElem?_toArray, List.getElem?_cons_zero, List.getElem?_cons_succ]; exact rfl
  · rfl
  · rfl
  · go_simp
  · intro wx hx
    have e0 := hx.cells c0 (by omega)
    have e1 := hx.cells d0 l0
    have D1 := hide fun (_ : World) => C1.out wx e0 e1
    have D2 := hide fun (_ : World) => C2.out wx e0 e1
    unfold atG
    go_simp
    simp only [uponG]
    exact ⟨by trivial, rfl⟩
  apply v_other
  · simp only [List.getElem?_toArray, List.getElem?_cons_zero, List.getElem?_cons_succ]; exact rfl
  · rfl
  · rfl
  · go_simp
  · intro wx hx
    have e0 := hx.cells c0 (by omega)
    have e1 := hx.cells d0 l0
    have D1 := hide fun (_ : World) => C1.out wx e0 e1
    have D2 := hide fun (_ : World) => C2.out wx e0 e1
    unfold atG
    go_simp
    simp only [uponG]
    exact ⟨by trivial, rfl⟩
  apply v_other
  · simp only [List.getElem?_toArray, List.getElem?_cons_zero, List.getElem?_cons_succ]; exact rfl
  · rfl
  · rfl
  · go_simp
  · intro wx hx
    have e0 := hx.cells c0 (by omega)
    have e1 := hx.cells d0 l0
    have D1 := hide fun (_ : World) => C1.out wx e0 e1
    have D2 := hide fun (_ : World) => C2.out wx e0 e1
    unfold atG
    go_simp
    simp only [uponG]
    exact ⟨by trivial, rfl⟩
  apply v_other
  · simp only [List.getElem?_toArray, List.getElem?_cons_zero, List.getElem?_cons_succ]; exact rfl
  · rfl
  · rfl
  · go_simp
  · intro wx hx
    have e0 := hx.cells c0 (by omega)
    have e1 := hx.cells d0 l0
    have D1 := hide fun (_ : World) => C1.out wx e0 e1
    have D2 := hide fun (_ : World) => C2.out wx e0 e1
    unfold atG
    go_simp
    simp only [uponG]
    exact ⟨by trivial, D1.out wx⟩
  apply v_other
  · simp only [List.getElem?_toArray, List.getElem?_cons_zero, List.getElem?_cons_succ]; exact rfl
  · rfl
  · rfl
  · go_simp
  · intro wx hx
    have e0 := hx.cells c0 (by omega)
    have e1 := hx.cells d0 l0
    have D1 := hide fun (_ : World) => C1.out wx e0 e1
    have D2 := hide fun (_ : World) => C2.out wx e0 e1
    unfold atG
    go_simp
    simp only [uponG]
    exact ⟨by trivial, rfl⟩
  apply v_other
  · simp only [List.getElem?_toArray, List.getElem?_cons_zero, List.getElem?_cons_succ]; exact rfl
  · rfl
  · rfl
  · go_simp
  · intro wx hx
    have e0 := hx.cells c0 (by omega)
    have e1 := hx.cells d0 l0
    have D1 := hide fun (_ : World) => C1.out wx e0 e1
    have D2 := hide fun (_ : World) => C2.out wx e0 e1
    unfold atG
    go_simp
    simp only [uponG]
    exact ⟨by trivial, rfl⟩
  apply v_other
  · simp only [List.getElem?_toArray, List.getElem?_cons_zero, List.getElem?_cons_succ]; exact rfl
  · rfl
  · rfl
  · go_simp
  · intro wx hx
    have e0 := hx.cells c0 (by omega)
    have e1 := hx.cells d0 l0
    have D1 := hide fun (_ : World) => C1.out wx e0 e1
    have D2 := hide fun (_ : World) => C2.out wx e0 e1
    unfold atG
    go_simp
    simp only [uponG]
    exact ⟨by trivial, rfl⟩
  apply v_other
  · simp only [List.getElem?_toArray, List.getElem?_cons_zero, List.getElem?_cons_succ]; exact rfl
  · rfl
  · rfl
  · go_simp
  · intro wx hx
    have e0 := hx.cells c0 (by omega)
    have e1 := hx.cells d0 l0
    have D1 := hide fun (_ : World) => C1.out wx e0 e1
    have D2 := hide fun (_ : World) => C2.out wx e0 e1
    unfold atG
    go_simp
    simp only [uponG]
    exact ⟨by trivial, rfl⟩
  apply v_other
  · simp only [List.getElem?_toArray, List.getElem?_cons_zero, List.getElem?_cons_succ]; exact rfl
  · rfl
  · rfl
  · go_simp
  · intro wx hx
    have e0 := hx.cells c0 (by omega)
    have e1 := hx.cells d0 l0
    have D1 := hide fun (_ : World) => C1.out wx e0 e1
    have D2 := hide fun (_ : World) => C2.out wx e0 e1
    unfold atG
    go_simp
    simp only [uponG]
    exact ⟨by trivial, D2.out wx⟩
  refine v_E (by simp only [List.getElem?_toArray, List.getElem?_cons_zero, List.getElem?_cons_succ]; exact rfl) rfl (by go_simp) (fun wx hx _ => ?_) ?_
  · go_simp
    simp only [uponE]
    refine ⟨(Below.refl _ _).alloc (Nat.le_refl _) _, by trivial, ?_, ?_, by simp⟩
    · rw [cell_of_cells, cellsOf_at rfl]; rfl
    · rw [cell_of_cells, cellsOf_at rfl]; rfl
  rintro v1 ⟨w8, w9, hg8, rfl, hv⟩
  refine v_E (by simp only [List.getElem?_toArray, List.getElem?_cons_zero, List.getElem?_cons_succ]; exact rfl) rfl (by go_simp) (fun wx hx hd => ?_) ?_
  · obtain ⟨w2, w3, _, g1, g2, ⟨e1, e2, e3, e4⟩, g3⟩ := hd
    injection e1 with e1
    injection e1 with e1
    injection e1 with e1
    rw [← e1] at e2 e3 e4
    clear e1
    have q2 : wx.cell? ⟨w8.heap.size, 0, none⟩ = some (.int .i64 x) := (Below.cell g3 (p := ⟨w8.heap.size, 0, none⟩) e4).trans e2
    have q3 : wx.cell? ⟨w8.heap.size, 1, none⟩ = some (.int .i64 y) := (Below.cell g3 (p := ⟨w8.heap.size, 1, none⟩) e4).trans e3
    go_simp
    simp only [uponE]
    refine ⟨by trivial, ?_⟩
    have q4 := or_any x y w8.heap.size 2 wx q2 q3
    rw [← HR.out] at q4
    exact Calls.mono q4 (fun e w' h => ⟨.int .i64 r, h.1, h.2, rfl⟩)
  rintro v2 ⟨_, _, _, rfl⟩
  apply v_other
  · simp only [List.getElem?_toArray, List.getElem?_cons_zero, List.getElem?_cons_succ]; exact rfl
  · rfl
  · rfl
  · go_simp
  · intro wx hx
    unfold atG
    go_simp
    simp only [uponG]
    exact ⟨by trivial, rfl⟩
  rintro w1 hx _
  have b1 : Below w.heap.size w w1 := b0.trans (Below.mono hx b0.size)
  clear c0 d0 b0 l0 hx
  go_wp2
  go_simp
  go_ret
  exact ⟨rfl, b1⟩

noncomputable def ltB (f g : Nat → Nat) : Bool := @decide (ltF f g) (Classical.propDecidable _)
theorem ltB_iff (f g : Nat → Nat) : ltB f g = true ↔ ltF f g := by unfold ltB; simp
theorem ltB_at {f g : Nat → Nat} {k : Nat} (hk : k < 16) (hpre : ∀ j, j < k → f j = g j) (hne : f k ≠ g k) : ltB f g = decide (f k < g k) := by
  rw [Bool.eq_iff_iff, ltB_iff, decide_eq_true_iff]
  refine ⟨fun ⟨j, h1, h2, h3⟩ => ?_, fun h => ⟨k, hk, h, hpre⟩⟩
  rcases Nat.lt_trichotomy j k with c | c | c
  · have := hpre j c; omega
  · subst c; exact h2
  · exact absurd (h3 k c) hne
theorem ltB_eq {f g : Nat → Nat} (h : ∀ j, j < 16 → f j = g j) : ltB f g = false := by
  rw [Bool.eq_false_iff]
  intro e
  obtain ⟨j, h1, h2, h3⟩ := (ltB_iff f g).1 e
  have := h j h1; omega
noncomputable def befB (f g f' g' : Nat → Nat) : Bool := if sameB f f' = true then ltB g g' else ltB f f'
theorem cmpD_lt (f g f' g' : Nat → Nat) (hf : ∀ i, i < 16 → f i < 256) (hg : ∀ i, i < 16 → g i < 256) (hf' : ∀ i, i < 16 → f' i < 256) (hg' : ∀ i, i < 16 → g' i < 256) : decide (cmpD f g f' g' < 0) = befB f g f' g' := by
  unfold cmpD befB
  have two : ∀ {a b : Nat → Nat}, (∀ i, i < 16 → a i < 256) → (∀ i, i < 16 → b i < 256) → decide (Lib.compareBytes (b16 a) (b16 b) < 0) = ltB a b := by
    intro a b ha hb
    rw [Bool.eq_iff_iff, ltB_iff, decide_eq_true_iff]
    rcases cmp_cases a b ha hb with ⟨e, h⟩ | ⟨e, h, _⟩ | ⟨e, h, _⟩
    · rw [e]
      refine ⟨fun h => by omega, fun ⟨j, h1, h2, _⟩ => ?_⟩
      have := h j h1; omega
    · rw [e]; exact ⟨fun _ => h, fun _ => by omega⟩
    · rw [e]; exact ⟨fun h => by omega, fun k => absurd k h⟩
  rcases cmp_cases f f' hf hf' with ⟨e, h⟩ | ⟨e, _, h⟩ | ⟨e, _, h⟩
  · rw [if_pos e, if_pos ((sameB_iff f f').2 h)]; exact two hg hg'
  · rw [if_neg (by rw [e]; omega), if_neg (fun k => h ((sameB_iff f f').1 k))]; exact two hf hf'
  · rw [if_neg (by rw [e]; omega), if_neg (fun k => h ((sameB_iff f f').1 k))]; exact two hf hf'

set_option maxRecDepth 100000 in
set_option maxHeartbeats 1000000 in
theorem sLess_any (f g : Nat → Nat) (w : World) :
    Calls Try.prog 237 #[.agg (av f), .agg (av g)] w fun e w' => e = .returned (.bool (ltB f g)) ∧ Below w.heap.size w w' := by
  obtain ⟨r, hr⟩ : ∃ r, r = ltB f g := ⟨_, rfl⟩
  rw [← hr]
  have HR := hide hr; clear hr
  go_enter Try.func237, Try.ntmps237
  go_wp2
  go_loopw [5] (fun i wr => ∃ k : Nat, k ≤ 16 ∧ i = .int .i64 k ∧ Below w.heap.size w wr ∧ cellsOf wr w.heap.size = av f ∧ cellsOf wr (w.heap.size + 1) = av g ∧ (∀ j, j < k → f j = g j)) (fun i _ => 16 - (intOf i).toNat)
  case atStart => exact ⟨0, by omega, rfl, below2 _ _ _, cellsOf_heap (heap1 rfl), cellsOf_heap (heap_at _ _ _ (by simp)), by omega⟩
  case round =>
    obtain ⟨k, hk, rfl, hb, h0, h1, hp⟩ := hrel
    by_cases hlt : k < 16
    · have c0 : wr.cell? ⟨w.heap.size, k, none⟩ = some (.int .u8 (f k)) := by rw [cell_of_cells, h0, av_get f hlt]
      have c1 : wr.cell? ⟨w.heap.size + 1, k, none⟩ = some (.int .u8 (g k)) := by rw [cell_of_cells, h1, av_get g hlt]
      have H0 := hide h0; clear h0
      have H1 := hide h1; clear h1
      by_cases he : f k = g k
      · have hne : ((f k : Int) != (g k : Int)) = false := by simp [he]
        have HP := hide hp; clear hp
        have HE := hide he; clear he
        go_wp2
        go_region
        all_goals go_wp2
        all_goals go_roundw
        case rel => exact ⟨k + 1, by omega, by go_num, hb.drew, H0.out, H1.out, fun j hj => by
          by_cases c : j = k
          · subst c; exact HE.out
          · exact HP.out j (by omega)⟩
        case measure => simp [intOf]; omega
      · have hni : ¬ ((f k : Int) = (g k : Int)) := by omega
        have hne : ((f k : Int) != (g k : Int)) = true := by simp [hni]
        have hrr : r = decide (f k < g k) := by rw [HR.out, ltB_at hlt hp he]
        subst hrr
        clear HR hp he hni
        go_wp2
        go_region
        all_goals go_wp2
        all_goals go_region
        all_goals go_wp2
        all_goals go_ret
        all_goals exact ⟨rfl, hb.drew.drew⟩
    · obtain rfl : k = 16 := by omega
      have hrr : r = false := by rw [HR.out, ltB_eq hp]
      subst hrr
      clear HR hp h0 h1
      go_wp2
      go_ret
      exact ⟨rfl, hb⟩

set_option maxRecDepth 100000 in
set_option maxHeartbeats 1000000 in
theorem sBefore_any (n n' : Int) (f g f' g' : Nat → Nat) (w : World) :
    Calls Try.prog 226 #[.agg (dv n f g), .agg (dv n' f' g')] w fun e w' => e = .returned (.bool (befB f g f' g')) ∧ Below w.heap.size w w' := by
  rcases hs : sameB f f' with _ | _
  · have C := hide fun w => sLess_any f f' w
    have e : befB f g f' g' = ltB f f' := by unfold befB; rw [if_neg (by simp [hs])]
    rw [e]
    generalize ltB f f' = r at *
    go_enter Try.func226, Try.ntmps226
    go_wp2_with fail
    refine (C.out _).mono ?_
    rintro e w1 ⟨rfl, hb⟩
    have b1 := (below2 w (.cells (dv n f g) 29) (.cells (dv n' f' g') 29)).trans (hb.mono (by simp <;> omega))
    clear hb
    go_wp2
    go_ret
    exact ⟨rfl, b1⟩
  · have C := hide fun w => sLess_any g g' w
    have e : befB f g f' g' = ltB g g' := by unfold befB; rw [if_pos hs]
    rw [e]
    generalize ltB g g' = r at *
    go_enter Try.func226, Try.ntmps226
    go_wp2_with fail
    refine (C.out _).mono ?_
    rintro e w1 ⟨rfl, hb⟩
    have b1 := (below2 w (.cells (dv n f g) 29) (.cells (dv n' f' g') 29)).trans (hb.mono (by simp <;> omega))
    clear hb
    go_wp2
    go_ret
    exact ⟨rfl, b1⟩
end Go.Proofs.Ytfoaejdbgpgnhaa

namespace Go.Proofs.Ytfoaejdbgpgnhaa
open Go.RowKit

/-- one byte more at the end of a list of bytes of the call's own -/
theorem appB {ops : Array Oper} {rest : List Oper} {o : Oper} {a : Act} {Q : Exit → Act → World → Prop} {w : World} {t : TypeId} (hgd : o.guard = none) (s x : Operand)
    (ho : o.op = .call { callee := .builtin .append, args := #[s, x], argTypes := #[59, 59] }) {B : Nat} {v : Value} {l : List Nat} (hs : a.eval s = v) (hown : OwnB B w v l) (hB : B ≤ w.heap.size)
    (y : Nat) (g : Nat) (hx : a.eval x = .slice (some ⟨g, 0, none⟩) 1 1) (hg : g = w.heap.size) (hl : l.length ≤ 1000000000)
    (h : ∀ v' w', OwnB B w' v' (l ++ [y]) → w.grownBy w' v.ownBlock → w.heap.size < w'.heap.size → wpList Try.prog ops Q rest (a.put o.dst v') w') :
    wpList Try.prog ops Q (o :: rest) a (w.alloc (.cells #[.int .u8 (y : Int)] t)) := by
  obtain ⟨i0, hi, hz0, hz1, hz2⟩ := info_parts infoU8
  unfold OwnB at hown
  refine wpList_append_own (P := Try.prog) _ hgd s x 59 ho B 5 i0 (.int .u8 0) 1 1 Try.underlying59 hi hz0 hz1 hz2 rfl (by decide) v l.length (bytesL l) hs (hown.alloc _) ⟨g, 0, none⟩ 1 1 [.int .u8 (y : Int)] hx rfl
    (one_new _ _ _ _ hg) (fun u hu => ?_) (by unfold maxLen; omega) (by omega) (by simp; omega) fun v' w' h1 h2 _ => h v' w' ?_ ?_ ?_
  · simp at hu; subst hu; rfl
  · unfold OwnB bytesL at *
    simpa using h1
  · exact grown_step (grown_alloc (grown_refl w v.ownBlock) _) h2 fun g hg => .inr hg
  · have := h2.size; simp at this; omega

theorem heap4 {w : World} {o o1 o2 o3 o4 : Obj} {g : Nat} (h : g = w.heap.size) : (((((w.alloc o).alloc o1).alloc o2).alloc o3).alloc o4).heap[g]? = some o := (heap_past _ _ _ (by simp; omega)).trans (heap3 h)
/-- what l02Naming has made -/
structure NW (w wr : World) (m : Nat) (f g : Nat → Nat) (o : Nat → Nat) (b : Nat → Bool) : Prop where
  low : Below w.heap.size w wr
  des : cellsOf wr w.heap.size = dv m f g
  res : rowOk wr (w.heap.size + 1) 16
  out : wr.heap[w.heap.size + 1 + 1 + 1]? = some (.cells (av o) 27 (0, 0))
  met : wr.heap[w.heap.size + 1 + 1 + 1 + 1]? = some (.cells (bv b) 143 (0, 0))
theorem NW.lt {w wr : World} {m : Nat} {f g o : Nat → Nat} {b : Nat → Bool} (h : NW w wr m f g o b) : w.heap.size + 1 + 1 + 1 + 1 < wr.heap.size := (Array.getElem?_eq_some_iff.1 h.met).1
theorem NW.grown {w wr w' : World} {m : Nat} {f g o : Nat → Nat} {b : Nat → Bool} {r : Option Nat} (h : NW w wr m f g o b) (hg : wr.grownBy w' r) (hr : ∀ k, r = some k → w.heap.size + 2 ≤ k ∧ k ≠ w.heap.size + 1 + 1 + 1 ∧ k ≠ w.heap.size + 1 + 1 + 1 + 1) : NW w w' m f g o b := by
  have hl := h.lt
  exact ⟨h.low.grown hg (by omega) (fun k hk => by have := hr k hk; omega), (grown_cells hg (by omega) (fun e => by have := hr _ e.symm; omega)).trans h.des, (grown_row hg (by omega) (fun e => by have := hr _ e.symm; omega)).2 h.res,
    (hg.block _ (by omega) (fun e => (hr _ e.symm).2.1 rfl)).trans h.out, (hg.block _ (by omega) (fun e => (hr _ e.symm).2.2 rfl)).trans h.met⟩
theorem NW.setB {w wr : World} {m : Nat} {f g o : Nat → Nat} {b : Nat → Bool} (h : NW w wr m f g o b) (y : Nat) : NW w (wr.setCell ⟨w.heap.size + 1 + 1 + 1 + 1, y, none⟩ (.bool true)) m f g o (mset b y) := by
  refine ⟨below_setCell h.low (by omega) _ _, (cellsOf_setCell_ne (by omega)).trans h.des, rowOk_setCell h.res, ?_, ?_⟩
  · rw [Below.heap_setCell wr ⟨w.heap.size + 1 + 1 + 1 + 1, y, none⟩ _ _ (show w.heap.size + 1 + 1 + 1 ≠ w.heap.size + 1 + 1 + 1 + 1 by omega)]; exact h.out
  · rw [heap_setCell_same _ _ _ _ _ _ h.met, bv_set]
theorem NW.setO {w wr : World} {m : Nat} {f g o : Nat → Nat} {b : Nat → Bool} (h : NW w wr m f g o b) (y v : Nat) : NW w (wr.setCell ⟨w.heap.size + 1 + 1 + 1, y, none⟩ (.int .u8 v)) m f g (fset o y v) b := by
  refine ⟨below_setCell h.low (by omega) _ _, (cellsOf_setCell_ne (by omega)).trans h.des, rowOk_setCell h.res, ?_, ?_⟩
  · rw [heap_setCell_same _ _ _ _ _ _ h.out, av_set]
  · rw [Below.heap_setCell wr ⟨w.heap.size + 1 + 1 + 1, y, none⟩ _ _ (show w.heap.size + 1 + 1 + 1 + 1 ≠ w.heap.size + 1 + 1 + 1 by omega)]; exact h.met
theorem NW.far {w wr : World} {m : Nat} {f g o : Nat → Nat} {b : Nat → Bool} (h : NW w wr m f g o b) {v : Value} {l : List Nat} (ho : OwnB (w.heap.size + 2) wr v l) : ∀ k, v.ownBlock = some k → w.heap.size + 2 ≤ k ∧ k ≠ w.heap.size + 1 + 1 + 1 ∧ k ≠ w.heap.size + 1 + 1 + 1 + 1 := by
  intro k hk
  refine ⟨(World.ownsRow.lt ho k hk).1, fun e => ?_, fun e => ?_⟩
  · rcases own_ne_blk ho h.out (by decide) with c | c
    · rw [c] at hk; cases hk
    · exact c (by rw [hk, e])
  · rcases own_ne_blk ho h.met (by decide) with c | c
    · rw [c] at hk; cases hk
    · exact c (by rw [hk, e])
theorem OwnB.setCell {B g i : Nat} {w : World} {v u : Value} {l : List Nat} (h : OwnB B w v l) (hne : ∀ k, v.ownBlock = some k → k ≠ g) : OwnB B (w.setCell ⟨g, i, none⟩ u) v l :=
  World.ownsRow.kept h (grown_setCell (grown_refl w (some g))) (by rcases hv : v.ownBlock with _ | k; exact .inl rfl; exact .inr fun e => hne k hv (by injection e))
theorem lstF_at {f g : Nat → Nat} {m x k : Nat} (hI : BInv m (bfs f g x k)) (hm : m ≤ 16) (hk : k < (bfs f g x k).1.length) : lstF (bfs f g x 16).1 k = (bfs f g x k).1[k] := by
  have h16 := hI.length_le
  obtain ⟨t, ht⟩ := bfs_pre' f g x (show k ≤ 16 by omega)
  unfold lstF
  rw [← ht, List.getD_eq_getElem?_getD, List.getElem?_append_left hk, List.getElem?_eq_getElem hk]; rfl

set_option maxRecDepth 100000 in
set_option maxHeartbeats 2000000 in
theorem sNaming_any (f g : Nat → Nat) (m : Nat) (hd : DesN f g m) (x : Nat) (hx : x < m) (w : World) :
    Calls Try.prog 228 #[.agg (dv m f g), .int .i64 x] w fun e w' => e = .returned (.agg (av (namF f g m x))) ∧ Below w.heap.size w w' := by
  have hm := hd.le
  have hn := dv_n m f g
  obtain ⟨F, L, FI, F0, FN, FS, FL, FM, FE⟩ : ∃ (F : Nat → List Nat × (Nat → Bool)) (L : Nat → Nat), Hid (∀ k, BInv m (F k)) ∧ Hid (F 0 = ([x], mset (fun _ => false) x)) ∧ Hid (∀ k (hk : k < (F k).1.length), F (k + 1) = bst f g (F k) ((F k).1[k]) 2) ∧
      Hid (∀ k, k ≤ 16 → (F k).1.length ≤ k → F 16 = F k) ∧ Hid (∀ k (hk : k < (F k).1.length), L k = (F k).1[k]) ∧ Hid ((F 16).1.length = m) ∧ Hid (namF f g m x = backTo L m) :=
    ⟨bfs f g x, lstF (bfs f g x 16).1, hide fun k => bfs_inv hd.bf.1 hd.bg.1 hx k, hide (bfs_start f g x), hide fun k hk => bfs_next hk, hide fun k h1 h2 => bfs_stop h2 h1, hide fun k hk => lstF_at (bfs_inv hd.bf.1 hd.bg.1 hx k) hm hk, hide (bfs_full hd.bf hd.bg hd.le hd.conn hx), hide rfl⟩
  rw [FE.out]
  clear FE
  have HF := hide hd.bf.1
  have HG := hide hd.bg.1
  clear hd
  have hx16 : x < 16 := by omega
  have h0 := bv_set (fun _ => false) x
  rw [bv_false] at h0
  have hlit : bv (mset (fun _ => false) x) = bv (mset (fun _ => false) x) := rfl
  have hlit : bv (mset (fun _ => false) x) = bv (mset (fun _ => false) x) := rfl
  have hlit : bv (mset (fun _ => false) x) = bv (mset (fun _ => false) x) := rfl
  go_enter Try.func228, Try.ntmps228
  go_wp2
  rw [← av_zero]
  go_loopw [7, 8] (fun q i wr => ∃ k : Nat, k ≤ (F k).1.length ∧ i = .int .i64 k ∧ NW w wr m f g (backTo L k) (F k).2 ∧ OwnB (w.heap.size + 2) wr q (F k).1) (fun _ i _ => 17 - (intOf i).toNat)
  case atStart =>
    refine ⟨0, by omega, rfl, ⟨below5 _ _ _ _ _ _, cellsOf_heap (heap4 rfl), ⟨_, _, heap3 (by simp), av_size _⟩, heap1 (by simp), ?_⟩, ?_⟩
    · rw [F0.out]; exact heap_at _ _ _ (by simp)
    · rw [F0.out]
      exact ⟨by simp [bytesL], .inr ⟨w.heap.size + 1 + 1, 1, _, rfl, by omega, heap2 (by simp), by simp, by unfold maxLen; omega, by simp, by simp [bytesL]⟩⟩
  case round =>
    clear hlit h0
    obtain ⟨k, hk, rfl, hN, hO⟩ := hrel
    have hI := FI.out k
    have hl16 : (F k).1.length ≤ 16 := by have := hI.length_le; omega
    by_cases hlt : k < (F k).1.length
    · have hnext := FN.out k hlt
      have hX := hI.lt _ (List.getElem_mem hlt)
      have hLX := FL.out k hlt
      obtain ⟨g0, c, rfl, hB0, hg0, hc1, hc2, hcell⟩ := hO.at hlt
      have hk16 : k < 16 := by omega
      generalize hS : F k = S at *
      generalize S.1[k] = X at *
      have hX16 : X < 16 := by omega
      have hfX := HF.out X hX
      have hgX := HG.out X hX
      have c3 : wr.cell? ⟨w.heap.size + 1 + 1 + 1, X, none⟩ = some (.int .u8 (backTo L k X)) := by rw [cell_of_cells, cellsOf_heap hN.out, av_get _ hX16]
      have f3 : wr.frozen? ⟨w.heap.size + 1 + 1 + 1, X, none⟩ = false := by simp [World.frozen?, hN.out]
      have hN1 := hN.setO X k
      have hb1 : fset (backTo L k) X k = backTo L (k + 1) := by rw [← hLX]; rfl
      rw [hb1] at hN1
      have hO1 : OwnB (w.heap.size + 2) (wr.setCell ⟨w.heap.size + 1 + 1 + 1, X, none⟩ (.int .u8 k)) (.slice (some ⟨g0, 0, none⟩) S.1.length c) S.1 := OwnB.setCell hO fun q hq => (hN.far hO q hq).2.1
      have HS := hide hS; clear hS
      have HN := hide hnext; clear hnext
      have HIV := hide hI; clear hI
      have HN1 := hide hN1; clear hN1 hN hb1
      have HO1 := hide hO1; clear hO1 hO
      have HL := hide hLX; clear hLX
      generalize hb : backTo L k X = y0 at *
      clear hb
      go_wp2
      clear c3 f3 hcell
      have hN2 := HN1.out
      have hO2 := HO1.out
      clear HN1 HO1 hg0 hc1 hc2
      generalize wr.setCell ⟨w.heap.size + 1 + 1 + 1, X, none⟩ (.int .u8 k) = wz at *
      go_loopw [7, 10] (fun q j wr => ∃ jj : Nat, jj ≤ 2 ∧ j = .int .i64 jj ∧ NW w wr m f g (backTo L (k + 1)) (bst f g S X jj).2 ∧ OwnB (w.heap.size + 2) wr q (bst f g S X jj).1) (fun _ j _ => 2 - (intOf j).toNat)
      case atStart => exact ⟨0, by omega, rfl, hN2, hO2⟩
      case round =>
        clear hN2 hO2
        obtain ⟨j, hj, rfl, hN, hO⟩ := hrel
        by_cases hj2 : j < 2
        · have hjj : j = 0 ∨ j = 1 := by omega
          rcases hjj with hj0 | hj1
          · obtain rfl := hj0
            have hst : bst f g S X 1 = badd (bst f g S X 0) (f X) := rfl
            have hIT := bst_inv HIV.out hfX hgX 0
            have hTl : (bst f g S X 0).1.length ≤ 16 := by have := hIT.length_le; omega
            generalize bst f g S X 0 = T at *
            have cb : wr.cell? ⟨w.heap.size, 1 + X, none⟩ = some (.int .u8 (f X)) := by rw [cell_of_cells, hN.des, dv_b _ _ _ hX16]
            have cw : wr.cell? ⟨w.heap.size, 17 + X, none⟩ = some (.int .u8 (g X)) := by rw [cell_of_cells, hN.des, dv_w _ _ _ hX16]
            have hY16 : f X < 16 := by omega
            have hcm : cellsOf wr (w.heap.size + 1 + 1 + 1 + 1) = bv T.2 := cellsOf_heap hN.met
            have hsz := hN.lt
            have HST := hide hst; clear hst
            have HNW := hide hN
            have HO := hide hO; clear hO
            rcases hTY : T.2 (f X) with _ | _
            · have c0 : wr.cell? ⟨w.heap.size + 1 + 1 + 1 + 1, f X, none⟩ = some (.bool false) := by rw [cell_of_cells, hcm, bv_get _ hY16, hTY]
              have f0 : wr.frozen? ⟨w.heap.size + 1 + 1 + 1 + 1, f X, none⟩ = false := by simp [World.frozen?, hN.met]
              have hN2 := hN.setB (f X)
              have hO2 : OwnB (w.heap.size + 2) (wr.setCell ⟨w.heap.size + 1 + 1 + 1 + 1, f X, none⟩ (.bool true)) u7 T.1 := OwnB.setCell HO.out fun q hq => (hN.far HO.out q hq).2.2
              have HTY := hide hTY; clear hTY hcm hN
              have HN2 := hide hN2; clear hN2
              have HO2 := hide hO2; clear hO2
              go_wp2_with (at_builtin; refine appB rfl _ _ rfl rfl HO2.out (by simp; omega) (f X) _ rfl (by simp) (by omega) fun v' w1 ho' hg' hs' => ?_)
              have hN3 := HN2.out.grown hg' (HN2.out.far HO2.out)
              have H1 := hide hN3; clear hN3
              have H2 := hide ho'; clear ho' hg' c0 f0 cb cw
              go_wp2
              go_roundw
              case rel => exact ⟨1, by omega, by go_num, by rw [HST.out, badd_new HTY.out]; exact H1.out, by rw [HST.out, badd_new HTY.out]; exact H2.out⟩
              case measure => simp [intOf]
            · have c0 : wr.cell? ⟨w.heap.size + 1 + 1 + 1 + 1, f X, none⟩ = some (.bool true) := by rw [cell_of_cells, hcm, bv_get _ hY16, hTY]
              have HTY := hide hTY; clear hTY hcm hN
              go_wp2
              go_roundw
              case rel => exact ⟨1, by omega, by go_num, by rw [HST.out, badd_old HTY.out]; exact HNW.out, by rw [HST.out, badd_old HTY.out]; exact HO.out⟩
              case measure => simp [intOf]
          · obtain rfl := hj1
            have hst : bst f g S X 2 = badd (bst f g S X 1) (g X) := rfl
            have hIT := bst_inv HIV.out hfX hgX 1
            have hTl : (bst f g S X 1).1.length ≤ 16 := by have := hIT.length_le; omega
            generalize bst f g S X 1 = T at *
            have cb : wr.cell? ⟨w.heap.size, 1 + X, none⟩ = some (.int .u8 (f X)) := by rw [cell_of_cells, hN.des, dv_b _ _ _ hX16]
            have cw : wr.cell? ⟨w.heap.size, 17 + X, none⟩ = some (.int .u8 (g X)) := by rw [cell_of_cells, hN.des, dv_w _ _ _ hX16]
            have hY16 : g X < 16 := by omega
            have hcm : cellsOf wr (w.heap.size + 1 + 1 + 1 + 1) = bv T.2 := cellsOf_heap hN.met
            have hsz := hN.lt
            have HST := hide hst; clear hst
            have HNW := hide hN
            have HO := hide hO; clear hO
            rcases hTY : T.2 (g X) with _ | _
            · have c0 : wr.cell? ⟨w.heap.size + 1 + 1 + 1 + 1, g X, none⟩ = some (.bool false) := by rw [cell_of_cells, hcm, bv_get _ hY16, hTY]
              have f0 : wr.frozen? ⟨w.heap.size + 1 + 1 + 1 + 1, g X, none⟩ = false := by simp [World.frozen?, hN.met]
              have hN2 := hN.setB (g X)
              have hO2 : OwnB (w.heap.size + 2) (wr.setCell ⟨w.heap.size + 1 + 1 + 1 + 1, g X, none⟩ (.bool true)) u7 T.1 := OwnB.setCell HO.out fun q hq => (hN.far HO.out q hq).2.2
              have HTY := hide hTY; clear hTY hcm hN
              have HN2 := hide hN2; clear hN2
              have HO2 := hide hO2; clear hO2
              go_wp2_with (at_builtin; refine appB rfl _ _ rfl rfl HO2.out (by simp; omega) (g X) _ rfl (by simp) (by omega) fun v' w1 ho' hg' hs' => ?_)
              have hN3 := HN2.out.grown hg' (HN2.out.far HO2.out)
              have H1 := hide hN3; clear hN3
              have H2 := hide ho'; clear ho' hg' c0 f0 cb cw
              go_wp2
              go_roundw
              case rel => exact ⟨2, by omega, by go_num, by rw [HST.out, badd_new HTY.out]; exact H1.out, by rw [HST.out, badd_new HTY.out]; exact H2.out⟩
              case measure => simp [intOf]
            · have c0 : wr.cell? ⟨w.heap.size + 1 + 1 + 1 + 1, g X, none⟩ = some (.bool true) := by rw [cell_of_cells, hcm, bv_get _ hY16, hTY]
              have HTY := hide hTY; clear hTY hcm hN
              go_wp2
              go_roundw
              case rel => exact ⟨2, by omega, by go_num, by rw [HST.out, badd_old HTY.out]; exact HNW.out, by rw [HST.out, badd_old HTY.out]; exact HO.out⟩
              case measure => simp [intOf]
        · obtain rfl : j = 2 := by omega
          have HNW := hide hN; clear hN
          have HO := hide hO; clear hO
          have hlen : k + 1 ≤ (F (k + 1)).1.length := by
            rw [HN.out]
            have := (bst_pre f g S X 2).length_le
            omega
          go_wp2
          go_roundw
          case rel => exact ⟨k + 1, hlen, by go_num, by rw [HN.out]; exact HNW.out, by rw [HN.out]; exact HO.out⟩
          case measure => simp [intOf]; omega
    · obtain ⟨A, c, rfl⟩ := ownB_form hO
      have hst := FS.out k (by omega) (by omega)
      have hkm : k = m := by rw [← FM.out, hst]; omega
      have hb1 := hN.low
      have hr1 := hN.res
      have hc1 : cellsOf wr (w.heap.size + 1 + 1 + 1) = av (backTo L k) := cellsOf_heap hN.out
      have HK := hide hkm; clear hkm
      have HST := hide hst; clear hst
      clear hN hO hI
      have hkl : (F k).1.length = k := by omega
      rw [hkl]
      clear hkl hlt hk hl16
      go_wp2
      obtain ⟨t, ht, _⟩ := hr1.heap
      exact res_agg (p := 4) (g := w.heap.size + 1) aggP (av_size _) rfl rfl rfl (setRow_heap _ _ _ _ t (0, 0) ht) ⟨by rw [HK.out], below_setRow hb1 (by omega) _⟩
end Go.Proofs.Ytfoaejdbgpgnhaa

namespace Go.Proofs.Ytfoaejdbgpgnhaa
open Go.RowKit

set_option maxRecDepth 100000 in
set_option maxHeartbeats 400000 in
theorem eqDessin_same (n : Int) (f g : Nat → Nat) (w : World) : Calls Try.prog 20 #[.agg (dv n f g), .agg (dv n f g)] w fun e w' => e = .returned (.bool true) ∧ Below w.heap.size w w' := by
  have hn := dv_n n f g
  have hne : (n != n) = false := by simp
  go_enter Try.func20, Try.ntmps20
  go_wp2_with fail
  refine (eqPlaces_same f _).mono ?_
  rintro e w1 ⟨rfl, h1⟩
  have c0 : cellsOf w1 w.heap.size = dv n f g := (below_cells h1 (by simp <;> omega)).trans (cellsOf_heap (heap1 rfl))
  have c1 : cellsOf w1 (w.heap.size + 1) = dv n f g := (below_cells h1 (by simp <;> omega)).trans (cellsOf_heap (heap_at _ _ _ (by simp)))
  have b1 := (below2 w (.cells (dv n f g) 29) (.cells (dv n f g) 29)).trans (h1.mono (by simp <;> omega))
  have l1 := h1.size
  clear h1
  go_wp2_with fail
  refine (eqPlaces_same g _).mono ?_
  rintro e w2 ⟨rfl, h2⟩
  have b2 := b1.trans (h2.mono (by simp at l1; omega))
  clear b1 h2 c0 c1
  go_wp2
  go_ret
  exact ⟨rfl, b2⟩

end Go.Proofs.Ytfoaejdbgpgnhaa
