/- Regions that draw and hold guarded operations: the walk behind an irreducible word, since 'apply' and 'refine' reckon a goal's head, and with it the guard. -/
import Derived.Test.YteeideminlcblaaRegD
import Derived.Test.YteeideminlcblaaRegS
namespace Go.Proofs.Yteeideminlcblaa.Rd
open Go.RowKit

@[irreducible] def walkW (P : Program) (ops : Array Oper) (C : World → Prop) (E : Nat → Bool) (K : Act → World → Prop) (p : Plan) (a : Act) (D : World → Prop) : Prop := walkV P ops C E K p a D
section
variable {P : Program} {ops : Array Oper} {C : World → Prop} {E : Nat → Bool} {K : Act → World → Prop} {p : Plan} {k : Nat} {a : Act} {D : World → Prop} {o : Oper}
theorem w_in (h : walkW P ops C E K p a D) : walkV P ops C E K p a D := by unfold walkW at h; exact h
theorem w_fin (h : ∀ w, C w → D w → K a w) : walkW P ops C E K .fin a D := by unfold walkW; exact h
theorem w_q (ho : ops[k]? = some o) (hE : E k = false) (hw : Region.wanted o (yielded ops a.tmps) = true) {v : Value} (h1 : ∀ w, C w → atG P o a w v) (h2 : walkW P ops C E K p (a.put o.dst v) D) : walkW P ops C E K (.q k p) a D := by
  unfold walkW at *
  exact v_q ho hE hw h1 h2
theorem opV_skip {N : Act → (World → Prop) → Prop} (ho : ops[k]? = some o) (hw : Region.wanted o (yielded ops a.tmps) = false) (h : N (a.put o.dst undef) D) : opV P ops C E k N a D := by
  unfold opV
  simp only [ho]
  rw [if_neg (by rw [hw]; simp)]
  exact h
theorem w_skip (ho : ops[k]? = some o) (hw : Region.wanted o (yielded ops a.tmps) = false) (h : walkW P ops C E K p (a.put o.dst undef) D) : walkW P ops C E K (.q k p) a D := by
  unfold walkW at *
  exact opV_skip ho hw h
theorem w_skips (ho : ops[k]? = some o) (hw : Region.wanted o (yielded ops a.tmps) = false) (h : walkW P ops C E K p (a.put o.dst undef) D) : walkW P ops C E K (.s1 k p) a D := by
  unfold walkW at *
  exact opV_skip ho hw h
theorem w_s (R : Value → World → Prop) (hR : ∀ v, Stable (R v)) (ho : ops[k]? = some o) (hE : E k = true) (hw : Region.wanted o (yielded ops a.tmps) = true) (h1 : ∀ w, C w → D w → uponE P C R w ((execOp a.eval o).run P w))
    (h2 : ∀ v, (∃ w, C w ∧ R v w) → walkW P ops C E K p (a.put o.dst v) (R v)) : walkW P ops C E K (.s1 k p) a D := by
  unfold walkW at *
  exact v_s R hR ho hE hw h1 h2
end
section
variable {P : Program} {ops : Array Oper} {E : Nat → Bool} {K : Act → World → Prop} {p : Plan} {k : Nat} {a : Act} {w0 : World} {L L1 : List Part} {o : Oper}
theorem w_build (cells : Array Value) (t : TypeId) (n : Nat) (ho : ops[k]? = some o) (hE : E k = true) (hw : Region.wanted o (yielded ops a.tmps) = true)
    (h1 : ∀ w, Holds w0 w L → Holds w0 w L1 → (execOp a.eval o).run P w = .ok (.value (.slice (some ⟨w.heap.size, 0, none⟩) n n)) (w.alloc (.cells cells t)))
    (h2 : ∀ g, walkW P ops (fun wx => Holds w0 wx L) E K p (a.put o.dst (.slice (some ⟨g, 0, none⟩) n n)) (fun wx => Holds w0 wx (pBlk g cells t :: L1))) : walkW P ops (fun wx => Holds w0 wx L) E K (.s1 k p) a (fun wx => Holds w0 wx L1) := by
  unfold walkW at *
  exact v_build cells t n ho hE hw h1 h2
theorem region_W {P : Program} {id : Nat} {Q : Exit → Act → World → Prop} {a : Act} {w w0 : World} {l : List Oper} (L : List Part) (L1 : List Part) (sp : List Nat) (p : Plan) (H : Holds w0 w L1) (hL : L.Sublist L1)
    (hm : P.follows .mixedOrders = true)
    (hsel : Region.noSelect l.toArray = true) (hB : planB .any l.toArray sp l.toArray.size p (Array.replicate l.toArray.size false) = true) 
    (h : walkW P l.toArray (fun wx => Holds w0 wx L) (fun k => sp.contains k) (fun a' w' => Q .normal a' w') p a (fun wx => Holds w0 wx L1)) : (Code.region id l.toArray true).wp P Q a w :=
  region_P L L1 sp p H hL hm hsel hB (w_in h)
end
end Go.Proofs.Yteeideminlcblaa.Rd
