/- impl.face, spec.l01Face; FaceOf of both -/
import Derived.Test.YteeideminlcblaaDoorIsDes
import Derived.Test.YteeideminlcblaaDoorPl1
namespace Go.Proofs.YteeideminlcblaaDoor
open Go.RowKit

/-- what is held of a boxed dessin, in worlds that only grow -/
theorem keepD {B b : Nat} {w w1 w' : World} {cs : Array Value} {v : Value} (hB : B ≤ b) (h : cellsOf w1 b = cs ∧ w1.cell? ⟨b, 0, none⟩ = some v ∧ b < w1.heap.size ∧ Below B w w1) (hb : Below w1.heap.size w1 w') :
    cellsOf w' b = cs ∧ w'.cell? ⟨b, 0, none⟩ = some v ∧ b < w'.heap.size ∧ Below B w w' :=
  ⟨(below_cells hb h.2.2.1).trans h.1, (hb.cell (p := ⟨b, 0, none⟩) h.2.2.1).trans h.2.1, Nat.lt_of_lt_of_le h.2.2.1 hb.size, h.2.2.2.trans (hb.mono (by have := h.2.2.1; omega))⟩

def faceF (f g : Nat → Nat) (m : Nat) : Nat → Nat := backF (thenF f g m) m

theorem thenF_lt {f g : Nat → Nat} {m : Nat} (hm : m ≤ 16) (hf : ∀ i, i < m → f i < m) (hg : ∀ i, i < m → g i < m) (i : Nat) (hi : i < m) : thenF f g m i < 16 := by
  unfold thenF upto
  rw [if_pos hi]
  have := hg _ (hf i hi)
  show g (f i) < 16
  omega

-- left out here: loop.example/g01200/impl.face
-- left out here: loop.example/g01200/spec.l01Face
end Go.Proofs.YteeideminlcblaaDoor
