/- impl.follow, undo, stay; spec.l01Then, l01Back, l01Same -/
import Derived.Test.YtpkfjdaedaplfaaAgg
import Derived.Test.YtpkfjdaedaplfaaIsPerm
namespace Go.Proofs.Ytpkfjdaedaplfaa
open Go.RowKit

def thenF (p q : Nat → Nat) (n : Nat) : Nat → Nat := upto (fun i => q (p i)) n
def backTo (p : Nat → Nat) : Nat → Nat → Nat
  | 0 => fun _ => 0
  | k + 1 => fset (backTo p k) (p k) k
def sameF (n : Nat) : Nat → Nat := upto (fun i => i) n
def backF (p : Nat → Nat) (n : Nat) : Nat → Nat := backTo p n
theorem backTo_step (p : Nat → Nat) (k : Nat) : fset (backTo p k) (p k) k = backTo p (k + 1) := rfl

-- left out here: loop.example/g01200/impl.follow
-- left out here: loop.example/g01200/spec.l01Then
-- left out here: loop.example/g01200/impl.undo
-- left out here: loop.example/g01200/spec.l01Back
-- left out here: loop.example/g01200/impl.stay
-- left out here: loop.example/g01200/spec.l01Same
end Go.Proofs.Ytpkfjdaedaplfaa