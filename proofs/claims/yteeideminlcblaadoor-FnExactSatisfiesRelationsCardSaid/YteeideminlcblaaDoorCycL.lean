/- impl.cycleList -/
import Derived.Test.YteeideminlcblaaDoorOwn
import Derived.Test.YteeideminlcblaaDoorCyc
import Derived.Test.YteeideminlcblaaDoorIsPerm
import Derived.Deep.LoopGhost
namespace Go.Proofs.YteeideminlcblaaDoor
open Go.RowKit

theorem info64 : (Tryd.prog.info? 2).map (fun i => (i.zero, i.size, i.bytes)) = some (some (.int .i64 0), 1, 8) := by kernel_rfl
-- left out here: None
-- left out here: loop.example/g01200/impl.cycleList
end Go.Proofs.YteeideminlcblaaDoor
