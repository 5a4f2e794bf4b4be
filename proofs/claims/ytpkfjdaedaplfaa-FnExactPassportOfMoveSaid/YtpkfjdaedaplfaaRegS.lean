/- Regions that draw: a store of a whole block among the operations. -/
import Derived.Test.YtpkfjdaedaplfaaRegD
import Derived.Test.YtpkfjdaedaplfaaRegT
import Derived.Test.YtpkfjdaedaplfaaAgg
namespace Go.Proofs.Ytpkfjdaedaplfaa.Rd
open Go.RowKit
section
variable {P : Program} {ops : Array Oper} {E : Nat → Bool} {k : Nat} {a : Act} {N : Act → (World → Prop) → Prop} {w0 : World} {L L1 : List Part}
theorem v_put {o : Oper} (i g : Nat) (cs cs' : Array Value) (t : TypeId) (hi : L1[i]? = some (pBlk g cs t)) (hsub : L.Sublist (L1.set i (pBlk g cs' t))) (ho : ops[k]? = some o) (hE : E k = true) (hw : Region.wanted o (yielded ops a.tmps) = true)
    (h1 : ∀ w, Holds w0 w L → Holds w0 w L1 → (execOp a.eval o).run P w = .ok .skip (w.setRow g cs'))
    (h2 : N (a.put o.dst undef) (fun wx => Holds w0 wx (L1.set i (pBlk g cs' t)))) : opV P ops (fun wx => Holds w0 wx L) E k N a (fun wx => Holds w0 wx L1) := by
  refine v_s (fun u w => u = undef ∧ Holds w0 w (L1.set i (pBlk g cs' t))) (fun _ _ _ h hb => ⟨h.1, h.2.call hb⟩) ho hE hw (fun w hx hD => ?_) fun v hv => ?_
  · rw [h1 w hx hD]
    exact ⟨(hD.setRow i hi cs').sub hsub, rfl, hD.setRow i hi cs'⟩
  · obtain ⟨w, _, rfl, hr⟩ := hv
    refine cast (congrArg (N _) ?_) h2
    funext wx
    exact propext ⟨fun h => ⟨rfl, h⟩, fun h => h.2⟩
end
theorem region_R1 {P : Program} {id : Nat} {Q : Exit → Act → World → Prop} {a : Act} {w w0 : World} {l : List Oper} (L : List Part) (L1 : List Part) (sp : List Nat) (p : Plan) (H : Holds w0 w L1) (hL : L.Sublist L1)
    (hm : P.follows .mixedOrders = true) (hsel : Region.noSelect l.toArray = true) (hB : planB .any l.toArray sp l.toArray.size p (Array.replicate l.toArray.size false) = true)
    {α : Type} (F : α → List Part) (act : α → Act)
    (h : ∀ K : Act → World → Prop, (∀ g wx, Holds w0 wx (F g) → K (act g) wx) → walkV P l.toArray (fun wx => Holds w0 wx L) (fun k => sp.contains k) K p a (fun wx => Holds w0 wx L1))
    (key : ∀ g wx, Holds w0 wx (F g) → Q .normal (act g) wx) : (Code.region id l.toArray true).wp P Q a w :=
  region_P L L1 sp p H hL hm hsel hB (h (fun a' w' => Q .normal a' w') key)
theorem region_R2 {P : Program} {id : Nat} {Q : Exit → Act → World → Prop} {a : Act} {w w0 : World} {l : List Oper} (L : List Part) (L1 : List Part) (sp : List Nat) (p : Plan) (H : Holds w0 w L1) (hL : L.Sublist L1)
    (hm : P.follows .mixedOrders = true) (hsel : Region.noSelect l.toArray = true) (hB : planB .any l.toArray sp l.toArray.size p (Array.replicate l.toArray.size false) = true)
    {α β : Type} (F : α → β → List Part) (act : α → β → Act)
    (h : ∀ K : Act → World → Prop, (∀ g g' wx, Holds w0 wx (F g g') → K (act g g') wx) → walkV P l.toArray (fun wx => Holds w0 wx L) (fun k => sp.contains k) K p a (fun wx => Holds w0 wx L1))
    (key : ∀ g g' wx, Holds w0 wx (F g g') → Q .normal (act g g') wx) : (Code.region id l.toArray true).wp P Q a w :=
  region_P L L1 sp p H hL hm hsel hB (h (fun a' w' => Q .normal a' w') key)
theorem region_R3 {P : Program} {id : Nat} {Q : Exit → Act → World → Prop} {a : Act} {w w0 : World} {l : List Oper} (L : List Part) (L1 : List Part) (sp : List Nat) (p : Plan) (H : Holds w0 w L1) (hL : L.Sublist L1)
    (hm : P.follows .mixedOrders = true) (hsel : Region.noSelect l.toArray = true) (hB : planB .any l.toArray sp l.toArray.size p (Array.replicate l.toArray.size false) = true)
    {α β γ : Type} (F : α → β → γ → List Part) (act : α → β → γ → Act)
    (h : ∀ K : Act → World → Prop, (∀ g g' g'' wx, Holds w0 wx (F g g' g'') → K (act g g' g'') wx) → walkV P l.toArray (fun wx => Holds w0 wx L) (fun k => sp.contains k) K p a (fun wx => Holds w0 wx L1))
    (key : ∀ g g' g'' wx, Holds w0 wx (F g g' g'') → Q .normal (act g g' g'') wx) : (Code.region id l.toArray true).wp P Q a w :=
  region_P L L1 sp p H hL hm hsel hB (h (fun a' w' => Q .normal a' w') key)
end Go.Proofs.Ytpkfjdaedaplfaa.Rd
