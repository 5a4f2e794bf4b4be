/- Regions with several orders that end in one act; special operations behind a name that nothing unfolds. -/
import Derived.Test.YtijgcjpngpifnaaRegD
namespace Go.Proofs.Ytijgcjpngpifnaa
open Go.RowKit
namespace Rd
/-- uponE behind a name that nothing unfolds -/
@[irreducible] def uponJ (P : Program) (C : World → Prop) (R : Value → World → Prop) (w : World) (r : Result Next) : Prop := uponE P C R w r
theorem uponJ_eq {P : Program} {C : World → Prop} {R : Value → World → Prop} {w : World} {r : Result Next} : uponJ P C R w r = uponE P C R w r := by unfold uponJ; rfl
theorem v_sJ {P : Program} {ops : Array Oper} {C : World → Prop} {E : Nat → Bool} {k : Nat} {a : Act} {D : World → Prop} {N : Act → (World → Prop) → Prop} {o : Oper} (R : Value → World → Prop) (hR : ∀ v, Stable (R v)) (ho : ops[k]? = some o) (hE : E k = true) (hw : Region.wanted o (yielded ops a.tmps) = true) (h1 : ∀ w, C w → D w → uponJ P C R w ((execOp a.eval o).run P w))
    (h2 : ∀ v, (∃ w, C w ∧ R v w) → N (a.put o.dst v) (R v)) : opV P ops C E k N a D :=
  v_s R hR ho hE hw (fun w hc hd => by have := h1 w hc hd; rwa [uponJ_eq] at this) h2
theorem region_PJ {P : Program} {id : Nat} {Q : Exit → Act → World → Prop} {a : Act} {w w0 : World} {l : List Oper} (L : List Part) (L1 : List Part) (sp : List Nat) (p : Plan) (H : Holds w0 w L1) (hL : L.Sublist L1)
    (hm : P.follows .mixedOrders = true)
    (hsel : Region.noSelect l.toArray = true) (hB : planB .any l.toArray sp l.toArray.size p (Array.replicate l.toArray.size false) = true)
    (F : Nat → Option Addr → Nat → List Part) (act : Nat → Option Addr → Nat → Act)
    (h : ∀ K : Act → World → Prop, (∀ g A c wx, Holds w0 wx (F g A c) → K (act g A c) wx) → walkV P l.toArray (fun wx => Holds w0 wx L) (fun k => sp.contains k) K p a (fun wx => Holds w0 wx L1))
    (key : ∀ g A c wx, Holds w0 wx (F g A c) → Q .normal (act g A c) wx) : (Code.region id l.toArray true).wp P Q a w :=
  region_P L L1 sp p H hL hm hsel hB (h (fun a' w' => Q .normal a' w') key)
end Rd
end Go.Proofs.Ytijgcjpngpifnaa
