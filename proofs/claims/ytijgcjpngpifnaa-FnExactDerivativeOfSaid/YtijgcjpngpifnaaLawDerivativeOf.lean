/- FnExactDerivativeOf returns true for every input, and its arguments read as before. No condition. -/
import Derived.Test.YtijgcjpngpifnaaOpen
import Derived.Test.YtijgcjpngpifnaaLDerP
import Derived.Test.YtijgcjpngpifnaaRows
namespace Go.Proofs.Ytijgcjpngpifnaa.fnExactDerivativeOf
open Go.ChangeShapes Go.WideShapes Go.ChangeAt Go.RowKit
open Go.ChangeMaps (open_string shut_string)

theorem own : ownKnob Try.prog.godebug = none := by kernel_rfl
theorem laidOut : laidOutB Try.prog = true := by kernel_rfl

-- left out here: lifted
-- left out here: over
-- left out here: over
end Go.Proofs.Ytijgcjpngpifnaa.fnExactDerivativeOf
