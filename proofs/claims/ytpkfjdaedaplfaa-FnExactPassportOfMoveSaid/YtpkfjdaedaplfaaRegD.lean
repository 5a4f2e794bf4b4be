/- (A relation for each special operation is chosen where it is walked.) A region that draws its order, by a class of worlds that all its operations keep: quiet operations (one value in every world of the class) are taken first; special ones (a relation tells value and world) come alone. -/
import Derived.Test.YtpkfjdaedaplfaaReg
import Derived.Test.YtpkfjdaedaplfaaAppH
namespace Go.Proofs.Ytpkfjdaedaplfaa.Rd
open Go.RowKit

section
variable (P : Program) (md : Region.Mode) (ops : Array Oper) (C : World → Prop) (E : Nat → Bool) (K : Act → World → Prop)

def uponE (R : Value → World → Prop) (w : World) : Result Next → Prop
  | .ok (.value u) w' => C w' ∧ R u w'
  | .ok .skip w' => C w' ∧ R undef w'
  | .ok (.enter f args) w' => w' = w ∧ Calls P f args w (fun e w'' => ∃ v, e = .returned v ∧ C w'' ∧ R v w'')
  | _ => False

/-- one operation, and what follows -/
def opV (i : Nat) (N : Act → (World → Prop) → Prop) (a : Act) (D : World → Prop) : Prop :=
  match ops[i]? with
  | none => N a D
  | some o =>
    if Region.wanted o (yielded ops a.tmps) then
      if E i = true then ∃ R : Value → World → Prop, (∀ v, Stable (R v)) ∧ (∀ w, C w → D w → uponE P C R w ((execOp a.eval o).run P w)) ∧ ∀ v, (∃ w, C w ∧ R v w) → N (a.put o.dst v) (R v)
      else ∃ v, (∀ w, C w → atG P o a w v) ∧ N (a.put o.dst v) D
    else N (a.put o.dst undef) D

theorem opV_mono {i : Nat} {N N' : Act → (World → Prop) → Prop} {a : Act} {D : World → Prop} (h : ∀ a D, N a D → N' a D) (hh : opV P ops C E i N a D) : opV P ops C E i N' a D := by
  unfold opV at *
  split
  · rename_i ho; simp only [ho] at hh; exact h _ _ hh
  · rename_i o ho
    simp only [ho] at hh
    split
    · rename_i hw
      rw [if_pos hw] at hh
      split
      · rename_i hR; rw [if_pos hR] at hh; obtain ⟨R, h0, h1, h2⟩ := hh; exact ⟨R, h0, h1, fun v hv => h _ _ (h2 v hv)⟩
      · rename_i hR
        rw [if_neg hR] at hh
        obtain ⟨v, h1, h2⟩ := hh; exact ⟨v, h1, h _ _ h2⟩
    · rename_i hw; rw [if_neg hw] at hh; exact h _ _ hh

/-- whatever order is picked -/
def anyV : Nat → Array Bool → Act → (World → Prop) → Prop
  | 0, done, a, D => Region.ready md ops done = [] ∧ ∀ w, C w → D w → K a w
  | f + 1, done, a, D => (Region.ready md ops done = [] → ∀ w, C w → D w → K a w) ∧ ∀ i ∈ Region.ready md ops done, opV P ops C E i (anyV f (done.setIfInBounds i true)) a D

theorem op_sound (hC : ∀ w w', C w → Below w.heap.size w w' → C w') {i : Nat} {N : Act → (World → Prop) → Prop} {K' : Act → World → Prop} {Q : Exit → Act → World → Prop} {a : Act} {D : World → Prop} {w : World} (hD : Stable D) (hw : C w) (hDw : D w)
    (hN : ∀ a D w, Stable D → C w → D w → N a D → K' a w) (h : opV P ops C E i N a D) : wpOp P ops Q i K' a w := by
  unfold opV at h
  unfold wpOp
  split
  · rename_i ho; simp only [ho] at h; exact hN _ _ _ hD hw hDw h
  · rename_i o ho
    simp only [ho] at h
    split
    · rename_i hwa
      rw [if_pos hwa] at h
      refine .inl ?_
      unfold Oper.wp
      rcases hEi : E i with _ | _
      · rw [if_neg (by simp [hEi])] at h
        obtain ⟨v, h1, h2⟩ := h
        have h3 := h1 w hw
        unfold atG at h3
        generalize (execOp a.eval o).run P w = r at *
        cases r with
        | ok n w' =>
          cases n <;> simp only [uponG] at h3 <;> simp only [Oper.upon]
          case value u => obtain ⟨e1, e2⟩ := h3; rw [e1, e2]; exact hN _ _ _ hD hw hDw h2
          case skip => obtain ⟨e1, e2⟩ := h3; rw [e1, ← e2]; exact hN _ _ _ hD hw hDw h2
          case enter f args => obtain ⟨e1, hc⟩ := h3; rw [e1]; exact hc.mono fun e w'' ⟨he, hb⟩ => by subst he; exact hN _ _ _ hD (hC _ _ hw hb) (hD _ _ hDw hb) h2
        | halt x w' => simp only [uponG] at h3
      · rw [if_pos hEi] at h
        obtain ⟨R, hE, h⟩ := h
        have h3 := h.1 w hw hDw
        generalize (execOp a.eval o).run P w = r at *
        cases r with
        | ok n w' =>
          cases n <;> simp only [uponE] at h3 <;> simp only [Oper.upon]
          case value u => exact hN _ _ _ (hE u) h3.1 h3.2 (h.2 u ⟨_, h3⟩)
          case skip => exact hN _ _ _ (hE undef) h3.1 h3.2 (h.2 undef ⟨_, h3⟩)
          case enter f args =>
            obtain ⟨e1, hc⟩ := h3
            rw [e1]
            refine hc.mono ?_
            rintro e w'' ⟨v, he, hb, hr⟩
            subst he
            exact hN _ _ _ (hE v) hb hr (h.2 v ⟨_, hb, hr⟩)
        | halt x w' => simp only [uponE] at h3
    · rename_i hwa; rw [if_neg hwa] at h; exact hN _ _ _ hD hw hDw h

theorem anyV_any (hC : ∀ w w', C w → Below w.heap.size w w' → C w') {Q : Exit → Act → World → Prop} (hQ : ∀ a w, K a w → Q .normal a w) (f : Nat) : ∀ (done : Array Bool) (a : Act) (D : World → Prop) (w : World), Stable D → C w → D w →
    anyV P md ops C E K f done a D → wpAny P md ops Q f done a w := by
  induction f with
  | zero => intro done a D w _ hw hDw h; exact ⟨h.1, hQ _ _ (h.2 w hw hDw)⟩
  | succ f ih =>
    intro done a D w hD hw hDw h
    exact ⟨fun e => hQ _ _ (h.1 e w hw hDw), fun i hi => op_sound P ops C E hC hD hw hDw (fun a' D' w' h1 h2 h3 h4 => ih _ a' D' w' h1 h2 h3 h4) (h.2 i hi)⟩

def YieldsG (o : Oper) (v : Value) (a : Act) : Prop :=
  (Region.wanted o (yielded ops a.tmps) = true ∧ ∀ w, C w → atG P o a w v) ∨ (Region.wanted o (yielded ops a.tmps) = false ∧ v = undef)

theorem YieldsG.op {i : Nat} {o : Oper} {v : Value} {a : Act} {D : World → Prop} (hi : ops[i]? = some o) (hE : E i = false) (hy : YieldsG P ops C o v a) {N : Act → (World → Prop) → Prop} (h : N (a.put o.dst v) D) : opV P ops C E i N a D := by
  unfold opV
  simp only [hi, hE, Bool.false_eq_true, if_false]
  rcases hy with ⟨hw, hv⟩ | ⟨hw, rfl⟩
  · rw [if_pos hw]; exact ⟨v, hv, h⟩
  · rw [if_neg (by simp [hw])]; exact h

theorem yieldsG_of {i : Nat} {o : Oper} {a : Act} {D : World → Prop} {N : Act → (World → Prop) → Prop} (hi : ops[i]? = some o) (hE : E i = false) (h : opV P ops C E i N a D) : ∃ v, YieldsG P ops C o v a ∧ N (a.put o.dst v) D := by
  unfold opV at h
  simp only [hi, hE, Bool.false_eq_true, if_false] at h
  by_cases hw : Region.wanted o (yielded ops a.tmps) = true
  · rw [if_pos hw] at h
    obtain ⟨v, h1, h2⟩ := h
    exact ⟨v, .inl ⟨hw, h1⟩, h2⟩
  · rw [if_neg hw] at h
    exact ⟨undef, .inr ⟨by simpa using hw, rfl⟩, h⟩

theorem opV_put {j : Nat} {oi oj : Oper} {v : Value} (hj : ops[j]? = some oj) (hap : oi.apart ops oj = true) (hsi : ∀ cs b, oi.op ≠ .select cs b) (hsj : ∀ cs b, oj.op ≠ .select cs b)
    {N : Act → (World → Prop) → Prop} {a : Act} {D : World → Prop} (hy : YieldsG P ops C oi v a) (h : opV P ops C E j N (a.put oi.dst v) D) :
    opV P ops C E j (fun a' D' => YieldsG P ops C oi v a' ∧ N (a'.put oi.dst v) D') a D := by
  obtain ⟨h1, h2, h3⟩ := Oper.apart_spec hap
  have keep : ∀ u, YieldsG P ops C oi v (a.put oj.dst u) := fun u => by
    have e1 := execOp_put oi hsi a oj.dst u h3
    have e2 := wanted_put oi a oj.dst u h3
    unfold YieldsG atG at *
    rw [e1, e2]; exact hy
  unfold opV at *
  simp only [hj] at *
  rw [wanted_put oj a oi.dst v h1, execOp_put oj hsj a oi.dst v h1] at h
  have ep : ∀ u, (a.put oj.dst u).put oi.dst v = (a.put oi.dst v).put oj.dst u := fun u => (Act.put_comm a v u h2).symm
  by_cases hw : Region.wanted oj (yielded ops a.tmps) = true
  · rw [if_pos hw] at h ⊢
    rcases hE : E j with _ | _
    · simp only [hE, Bool.false_eq_true, if_false] at h ⊢
      obtain ⟨u, k1, k2⟩ := h
      refine ⟨u, fun w hg => ?_, keep _, by rw [ep]; exact k2⟩
      have := k1 w hg
      unfold atG at *
      rwa [execOp_put oj hsj a oi.dst v h1] at this
    · simp only [hE, if_true] at h ⊢
      obtain ⟨R, h0, h⟩ := h
      exact ⟨R, h0, h.1, fun u hu => ⟨keep _, by rw [ep]; exact h.2 u hu⟩⟩
  · rw [if_neg hw] at h ⊢
    exact ⟨keep _, by rw [ep]; exact h⟩

theorem anyV_first {i : Nat} {o : Oper} {v : Value} (hi : ops[i]? = some o) (hE : E i = false) (hsel : ∀ (j : Nat) (o : Oper) cs b, ops[j]? = some o → o.op ≠ .select cs b) (f : Nat) :
    ∀ (done : Array Bool) (a : Act) (D : World → Prop),
      (∀ j oj, ops[j]? = some oj → j ≠ i → done.getD j true = false → (∀ e ∈ oj.after, Region.binds md e = true → e.on ≠ i) → o.apart ops oj = true) →
      i ∈ Region.ready md ops done → YieldsG P ops C o v a →
      anyV P md ops C E K f (done.setIfInBounds i true) (a.put o.dst v) D → anyV P md ops C E K (f + 1) done a D := by
  induction f with
  | zero =>
    intro done a D _ hr hy H
    refine ⟨fun e => (by rw [e] at hr; cases hr), fun j hj => ?_⟩
    by_cases e : j = i
    · subst e; exact hy.op P ops C E hi hE H
    · have := ready_mono hj e
      rw [H.1] at this; cases this
  | succ f ih =>
    intro done a D hfree hr hy H
    refine ⟨fun e => (by rw [e] at hr; cases hr), fun j hj => ?_⟩
    by_cases e : j = i
    · subst e; exact hy.op P ops C E hi hE H
    · obtain ⟨hjun, oj, hoj, hall⟩ := mem_ready.1 hj
      have hun := (mem_ready.1 hr).1
      have hno : ∀ e ∈ oj.after, Region.binds md e = true → e.on ≠ i := fun e he hb h => by
        have := hall e he hb
        rw [h, getD_both hun] at this
        cases this
      refine opV_mono P ops C E (fun a' D' h3 => ih (done.setIfInBounds j true) a' D' (fun k' ok hk hki hk' hnk => hfree k' ok hk hki ?_ hnk) (ready_mono hr (Ne.symm e)) h3.1 ?_)
        (opV_put P ops C E hoj (hfree j oj hoj e hjun hno) (fun cs b => hsel i o cs b hi) (fun cs b => hsel j oj cs b hoj) hy (H.2 j (ready_mono hj e)))
      · by_cases e' : j = k'
        · subst e'; exact hjun
        · rw [getD_set_ne true e'] at hk'; exact hk'
      · rw [Array.setIfInBounds_comm _ _ e]; exact h3.2

def walkV : Plan → Act → (World → Prop) → Prop
  | .fin, a, D => ∀ w, C w → D w → K a w
  | .q k p, a, D => opV P ops C E k (walkV p) a D
  | .s1 k p, a, D => opV P ops C E k (walkV p) a D
  | .s2 k1 p1 k2 p2, a, D => opV P ops C E k1 (walkV p1) a D ∧ opV P ops C E k2 (walkV p2) a D
  | .s3 k1 p1 k2 p2 k3 p3, a, D => opV P ops C E k1 (walkV p1) a D ∧ opV P ops C E k2 (walkV p2) a D ∧ opV P ops C E k3 (walkV p3) a D

theorem anyV_walk (hsel : Region.noSelect ops = true) (sp : List Nat) (hsp : ∀ k, sp.contains k = false → E k = false) (p : Plan) :
    ∀ (f : Nat) (done : Array Bool) (a : Act) (D : World → Prop), planB md ops sp f p done = true → walkV P ops C E K p a D → anyV P md ops C E K f done a D := by
  induction p with
  | fin =>
    intro f done a D hB h
    cases f with
    | zero => exact ⟨by simpa [planB] using hB, h⟩
    | succ f =>
      have e : Region.ready md ops done = [] := by simpa [planB] using hB
      exact ⟨fun _ => h, fun i hi => by rw [e] at hi; cases hi⟩
  | q k p ih =>
    intro f done a D hB h
    cases f with
    | zero => simp [planB] at hB
    | succ f =>
      simp only [planB, Bool.and_eq_true, decide_eq_true_eq, Bool.not_eq_true'] at hB
      obtain ⟨hc, ⟨hr, hfree⟩, hk, hB'⟩ := hB
      have hE := hsp k hc
      have hi : ops[k]? = some ops[k] := Array.getElem?_eq_getElem hk
      obtain ⟨v, hy, hK⟩ := yieldsG_of P ops C E hi hE h
      exact anyV_first P md ops C E K hi hE (Region.noSelect_spec hsel) f done a D (Region.free_spec hi hfree) (by simpa using hr) hy (ih _ _ _ _ hB' hK)
  | s1 k p ih =>
    intro f done a D hB h
    cases f with
    | zero => simp [planB] at hB
    | succ f =>
      simp only [planB, Bool.and_eq_true, decide_eq_true_eq] at hB
      obtain ⟨hr, hB'⟩ := hB
      refine ⟨fun e => (by rw [hr] at e; cases e), fun i hi => ?_⟩
      rw [hr] at hi
      obtain rfl : i = k := by simpa using hi
      exact opV_mono P ops C E (fun a' D' h' => ih _ _ _ _ hB' h') h
  | s2 k1 p1 k2 p2 ih1 ih2 =>
    intro f done a D hB h
    cases f with
    | zero => simp [planB] at hB
    | succ f =>
      simp only [planB, Bool.and_eq_true, decide_eq_true_eq] at hB
      obtain ⟨hr, hB1, hB2⟩ := hB
      refine ⟨fun e => (by rw [hr] at e; cases e), fun i hi => ?_⟩
      rw [hr] at hi
      simp only [List.mem_cons, List.not_mem_nil, or_false] at hi
      rcases hi with rfl | rfl
      · exact opV_mono P ops C E (fun a' D' h' => ih1 _ _ _ _ hB1 h') h.1
      · exact opV_mono P ops C E (fun a' D' h' => ih2 _ _ _ _ hB2 h') h.2
  | s3 k1 p1 k2 p2 k3 p3 ih1 ih2 ih3 =>
    intro f done a D hB h
    cases f with
    | zero => simp [planB] at hB
    | succ f =>
      simp only [planB, Bool.and_eq_true, decide_eq_true_eq] at hB
      obtain ⟨hr, hB1, hB2, hB3⟩ := hB
      refine ⟨fun e => (by rw [hr] at e; cases e), fun i hi => ?_⟩
      rw [hr] at hi
      simp only [List.mem_cons, List.not_mem_nil, or_false] at hi
      rcases hi with rfl | rfl | rfl
      · exact opV_mono P ops C E (fun a' D' h' => ih1 _ _ _ _ hB1 h') h.1
      · exact opV_mono P ops C E (fun a' D' h' => ih2 _ _ _ _ hB2 h') h.2.1
      · exact opV_mono P ops C E (fun a' D' h' => ih3 _ _ _ _ hB3 h') h.2.2
end

/-- a region by parts of memory: w0, L what the class holds; L1 what stands at the start beside it -/
theorem region_P {P : Program} {id : Nat} {Q : Exit → Act → World → Prop} {a : Act} {w w0 : World} {l : List Oper} (L : List Part) (L1 : List Part) (sp : List Nat) (p : Plan) (H : Holds w0 w L1) (hL : L.Sublist L1)
    (hm : P.follows .mixedOrders = true)
    (hsel : Region.noSelect l.toArray = true) (hB : planB .any l.toArray sp l.toArray.size p (Array.replicate l.toArray.size false) = true) 
    (h : walkV P l.toArray (fun wx => Holds w0 wx L) (fun k => sp.contains k) (fun a' w' => Q .normal a' w') p a (fun wx => Holds w0 wx L1)) : (Code.region id l.toArray true).wp P Q a w := by
  refine wp_region_any hm ?_
  exact anyV_any (Q := Q) P .any l.toArray (fun wx => Holds w0 wx L) (fun k => sp.contains k) (fun a' w' => Q .normal a' w') (fun _ _ h hb => h.call hb) (fun _ _ h => h) _ _ _ _ w.drew (fun _ _ h hb => h.call hb) (H.drew.sub hL) H.drew
    (anyV_walk P .any l.toArray (fun wx => Holds w0 wx L) (fun k => sp.contains k) (fun a' w' => Q .normal a' w') hsel sp (fun _ h => h) p _ _ a _ hB h)

section
variable {P : Program} {ops : Array Oper} {C : World → Prop} {E : Nat → Bool} {k : Nat} {a : Act} {D : World → Prop} {N : Act → (World → Prop) → Prop}
theorem v_q {o : Oper} (ho : ops[k]? = some o) (hE : E k = false) (hw : Region.wanted o (yielded ops a.tmps) = true) {v : Value} (h1 : ∀ w, C w → atG P o a w v) (h2 : N (a.put o.dst v) D) : opV P ops C E k N a D := by
  unfold opV
  simp only [ho, hE, Bool.false_eq_true, if_false]
  rw [if_pos hw]
  exact ⟨v, h1, h2⟩
theorem v_s {o : Oper} (R : Value → World → Prop) (hR : ∀ v, Stable (R v)) (ho : ops[k]? = some o) (hE : E k = true) (hw : Region.wanted o (yielded ops a.tmps) = true) (h1 : ∀ w, C w → D w → uponE P C R w ((execOp a.eval o).run P w))
    (h2 : ∀ v, (∃ w, C w ∧ R v w) → N (a.put o.dst v) (R v)) : opV P ops C E k N a D := by
  unfold opV
  simp only [ho, hE, if_true]
  rw [if_pos hw]
  exact ⟨R, hR, h1, h2⟩
end
/-- a list of cells laid for an append -/
def rBuild (w0 : World) (cells : Array Value) (t : TypeId) (k : Nat) (L : List Part) : Value → World → Prop := fun v w => ∃ g, v = .slice (some ⟨g, 0, none⟩) k k ∧ Holds w0 w (pBlk g cells t :: L)
theorem rBuild_stable {w0 : World} {cells : Array Value} {t : TypeId} {k : Nat} {L : List Part} (v : Value) : Stable (rBuild w0 cells t k L v) := fun _ _ ⟨g, e, h⟩ hb => ⟨g, e, h.call hb⟩
/-- a new block -/
def rBox (w0 : World) (cells : Array Value) (t : TypeId) (L : List Part) : Value → World → Prop := fun v w => ∃ g, v = .pointer (some ⟨g, 0, none⟩) ∧ Holds w0 w (pBlk g cells t :: L)
theorem rBox_stable {w0 : World} {cells : Array Value} {t : TypeId} {L : List Part} (v : Value) : Stable (rBox w0 cells t L v) := fun _ _ ⟨g, e, h⟩ hb => ⟨g, e, h.call hb⟩
/-- a relation of one value that is told by parts -/
def rHolds (w0 : World) (L : Value → List Part) : Value → World → Prop := fun v w => Holds w0 w (L v)
theorem rHolds_stable {w0 : World} {L : Value → List Part} (v : Value) : Stable (rHolds w0 L v) := fun _ _ h hb => h.call hb
/-- what is told of a pointer's block, of a slice's block -/
def rPtr (w0 : World) (cells : Array Value) (t : TypeId) (L : List Part) : Value → World → Prop
  | .pointer (some ⟨g, 0, none⟩) => fun w => Holds w0 w (pBlk g cells t :: L)
  | _ => fun _ => False
def rSl (w0 : World) (cells : Array Value) (t : TypeId) (L : List Part) : Value → World → Prop
  | .slice (some ⟨g, 0, none⟩) _ _ => fun w => Holds w0 w (pBlk g cells t :: L)
  | _ => fun _ => False
theorem rPtr_stable {w0 : World} {cells : Array Value} {t : TypeId} {L : List Part} (v : Value) : Stable (rPtr w0 cells t L v) := by
  unfold rPtr
  split
  · exact fun _ _ h hb => h.call hb
  · exact fun _ _ h _ => h
theorem rSl_stable {w0 : World} {cells : Array Value} {t : TypeId} {L : List Part} (v : Value) : Stable (rSl w0 cells t L v) := by
  unfold rSl
  split
  · exact fun _ _ h hb => h.call hb
  · exact fun _ _ h _ => h
section
variable {P : Program} {ops : Array Oper} {E : Nat → Bool} {k : Nat} {a : Act} {N : Act → (World → Prop) → Prop} {w0 : World} {L L1 : List Part}
/-- a new block -/
theorem v_box {o : Oper} (cells : Array Value) (t : TypeId) (ho : ops[k]? = some o) (hE : E k = true) (hw : Region.wanted o (yielded ops a.tmps) = true)
    (h1 : ∀ w, Holds w0 w L → Holds w0 w L1 → (execOp a.eval o).run P w = .ok (.value (.pointer (some ⟨w.heap.size, 0, none⟩))) (w.alloc (.cells cells t)))
    (h2 : ∀ g, N (a.put o.dst (.pointer (some ⟨g, 0, none⟩))) (fun wx => Holds w0 wx (pBlk g cells t :: L1))) : opV P ops (fun wx => Holds w0 wx L) E k N a (fun wx => Holds w0 wx L1) := by
  refine v_s (rPtr w0 cells t L1) rPtr_stable ho hE hw (fun w hx hD => ?_) fun v hv => ?_
  · rw [h1 w hx hD]
    exact ⟨hx.alloc _, hD.blk _ _ _ rfl⟩
  · obtain ⟨w, _, hr⟩ := hv
    unfold rPtr at hr
    split at hr
    · exact h2 _
    · exact hr.elim
/-- a list of cells laid for an append -/
theorem v_build {o : Oper} (cells : Array Value) (t : TypeId) (n : Nat) (ho : ops[k]? = some o) (hE : E k = true) (hw : Region.wanted o (yielded ops a.tmps) = true)
    (h1 : ∀ w, Holds w0 w L → Holds w0 w L1 → (execOp a.eval o).run P w = .ok (.value (.slice (some ⟨w.heap.size, 0, none⟩) n n)) (w.alloc (.cells cells t)))
    (h2 : ∀ g, N (a.put o.dst (.slice (some ⟨g, 0, none⟩) n n)) (fun wx => Holds w0 wx (pBlk g cells t :: L1))) : opV P ops (fun wx => Holds w0 wx L) E k N a (fun wx => Holds w0 wx L1) := by
  refine v_s (fun v w => ∃ g, v = .slice (some ⟨g, 0, none⟩) n n ∧ rSl w0 cells t L1 v w) (fun v _ _ ⟨g, e, h⟩ hb => ⟨g, e, rSl_stable v _ _ h hb⟩) ho hE hw (fun w hx hD => ?_) fun v hv => ?_
  · rw [h1 w hx hD]
    exact ⟨hx.alloc _, _, rfl, hD.blk _ _ _ rfl⟩
  · obtain ⟨w, _, g, rfl, hr⟩ := hv
    have := h2 g
    refine cast (congrArg (N _) ?_) this
    funext wx
    refine propext ⟨fun h => ⟨g, rfl, h⟩, fun ⟨_, _, h⟩ => h⟩
end
end Go.Proofs.Ytpkfjdaedaplfaa.Rd
