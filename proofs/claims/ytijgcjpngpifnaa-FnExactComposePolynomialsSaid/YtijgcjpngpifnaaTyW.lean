/- Types: the walks of IsType, l04Type, sumOf and l04Sum. -/
import Derived.Test.YtijgcjpngpifnaaTy
import Derived.Test.YtijgcjpngpifnaaSPoc
namespace Go.Proofs.Ytijgcjpngpifnaa
open Go.RowKit

theorem quiet_eq {P : Program} {f : FuncId} {args : Array Value} {w : World} {n : Nat} {v : Value} (h : Calls P f args (w.drewN n) fun e w' => e = .returned v ∧ w.drewN n = w') : Calls P f args (w.drewN n) fun e w'' => e = .returned v ∧ ∃ m, w'' = w.drewN m :=
  h.mono fun _ _ ⟨he, hm⟩ => ⟨he, n, hm.symm⟩
theorem below_drewN {B : Nat} {w w' : World} (h : Below B w w') (n : Nat) : Below B w (w'.drewN n) := ⟨h.os, h.tape, h.output, h.size, h.block⟩

/-- some answers have been drawn, nothing else -/
def Dr (w w' : World) : Prop := ∃ m, w' = w.drewN m
theorem Dr.refl (w : World) : Dr w w := ⟨0, rfl⟩
theorem Dr.more {w w' : World} (h : Dr w w') (n : Nat) : Dr w (w'.drewN n) := by obtain ⟨m, rfl⟩ := h; exact ⟨m + n, World.drewN_drewN _ _ _⟩
theorem Dr.cell {w w' : World} (h : Dr w w') {p : Addr} {v : Value} (hc : w.cell? p = some v) : w'.cell? p = some v := by obtain ⟨m, rfl⟩ := h; exact hc
theorem Dr.low {w w' : World} (h : Dr w w') : Below w.heap.size w w' := by obtain ⟨m, rfl⟩ := h; exact below_drewN (Below.refl _ _) m

-- left out here: loop.example/g01200/impl.IsType loop.example/g01200/impl.isDartCount
-- left out here: loop.example/g01200/impl.sumOf
-- left out here: loop.example/g01200/spec.l04Sum
-- left out here: loop.example/g01200/spec.l04Type
end Go.Proofs.Ytijgcjpngpifnaa
