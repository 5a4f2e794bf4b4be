/- Calls that hand back a list of one's own, in a drawing region. -/
import Derived.Test.YtpkfjdaedaplfaaRegS
import Derived.Test.YtpkfjdaedaplfaaCat
namespace Go.Proofs.Ytpkfjdaedaplfaa
open Go.RowKit
namespace Rd
@[irreducible] def upon10 (P : Program) (C : World → Prop) (R : Value → World → Prop) (w : World) (r : Result Next) : Prop := uponE P C R w r
theorem upon10_eq {P : Program} {C : World → Prop} {R : Value → World → Prop} {w : World} {r : Result Next} : upon10 P C R w r = uponE P C R w r := by unfold upon10; rfl
theorem v_s10 {P : Program} {ops : Array Oper} {C : World → Prop} {E : Nat → Bool} {k : Nat} {a : Act} {D : World → Prop} {N : Act → (World → Prop) → Prop} {o : Oper} (R : Value → World → Prop) (hR : ∀ v, Stable (R v)) (ho : ops[k]? = some o) (hE : E k = true) (hw : Region.wanted o (yielded ops a.tmps) = true) (h1 : ∀ w, C w → D w → upon10 P C R w ((execOp a.eval o).run P w))
    (h2 : ∀ v, (∃ w, C w ∧ R v w) → N (a.put o.dst v) (R v)) : opV P ops C E k N a D :=
  v_s R hR ho hE hw (fun w hc hd => by have := h1 w hc hd; rwa [upon10_eq] at this) h2
theorem upon10_callZ {P : Program} {f : Nat} {args : Array Value} {w0 wx : World} {L L1 : List Part} {l : List Int} (hx : Holds w0 wx L) (hD : Holds w0 wx L1) (h : Calls P f args wx fun e wy => ∃ u, e = .returned u ∧ Holds wx wy [pZ9 u l]) :
    upon10 P (fun w => Holds w0 w L) (fun v w => Holds w0 w (pZ9 v l :: L1)) wx (.ok (.enter f args) wx) := by
  rw [upon10_eq]
  refine ⟨rfl, h.mono ?_⟩
  rintro e wy ⟨u, rfl, hu⟩
  exact ⟨u, rfl, hx.call hu.low, (hD.joinL hu).perm List.perm_append_comm⟩
theorem v_ownZ10 {P : Program} {ops : Array Oper} {E : Nat → Bool} {k : Nat} {a : Act} {N : Act → (World → Prop) → Prop} {w0 : World} {L L1 : List Part} {o : Oper} (l : List Int) (ho : ops[k]? = some o) (hE : E k = true) (hw : Region.wanted o (yielded ops a.tmps) = true)
    (h1 : ∀ w, Holds w0 w L → Holds w0 w L1 → upon10 P (fun w => Holds w0 w L) (fun v w => Holds w0 w (pZ9 v l :: L1)) w ((execOp a.eval o).run P w))
    (h2 : ∀ v, N (a.put o.dst v) (fun wx => Holds w0 wx (pZ9 v l :: L1))) : opV P ops (fun wx => Holds w0 wx L) E k N a (fun wx => Holds w0 wx L1) :=
  v_s10 (fun v w => Holds w0 w (pZ9 v l :: L1)) (fun _ _ _ h hb => h.call hb) ho hE hw h1 fun v _ => h2 v
end Rd
end Go.Proofs.Ytpkfjdaedaplfaa
