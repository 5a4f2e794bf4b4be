/- impl.euler -/
import Derived.Test.YtdoehnckolhloaaTrio
import Derived.Test.YtdoehnckolhloaaCnt
namespace Go.Proofs.Ytdoehnckolhloaa
open Go.RowKit

/-- the numbers of cycles of the three, and less the darts -/
def cyN (f g : Nat → Nat) (m : Nat) (k : Nat) : Nat := (cycs (pick3 f g (faceF f g m) k) m).length
def sumTo (L : Nat → Nat) (m : Nat) : Nat → Int
  | 0 => -(m : Int)
  | k + 1 => sumTo L m k + L k
def eulN (f g : Nat → Nat) (m : Nat) : Int := sumTo (cyN f g m) m 3
theorem DesN.pick {f g : Nat → Nat} {m : Nat} (h : DesN f g m) (k : Nat) : PermN (pick3 f g (faceF f g m) k) m := by
  unfold pick3
  split
  · exact h.black
  · split
    · exact h.white
    · exact h.face
theorem sumTo_bound {L : Nat → Nat} {m : Nat} (hm : m ≤ 16) (hL : ∀ k, L k ≤ 16) : ∀ k, -16 ≤ sumTo L m k ∧ sumTo L m k ≤ 16 * k := by
  intro k
  induction k with
  | zero => simp [sumTo]; omega
  | succ k ih =>
    have := hL k
    show -16 ≤ sumTo L m k + L k ∧ sumTo L m k + L k ≤ _
    omega

-- left out here: loop.example/g01200/impl.euler
end Go.Proofs.Ytdoehnckolhloaa
