/- impl.cycleList -/
import Derived.Test.YtpkfjdaedaplfaaOwn
import Derived.Test.YtpkfjdaedaplfaaCyc
import Derived.Test.YtpkfjdaedaplfaaIsPerm
import Derived.Deep.LoopGhost
namespace Go.Proofs.Ytpkfjdaedaplfaa
open Go.RowKit

theorem info64 : (Try.prog.info? 2).map (fun i => (i.zero, i.size, i.bytes)) = some (some (.int .i64 0), 1, 8) := by kernel_rfl
theorem infoSl : (Try.prog.info? 79).map (fun i => (i.zero, i.size, i.bytes)) = some (some (.slice none 0 0), 1, 24) := by kernel_rfl

-- left out here: loop.example/g01200/impl.cycleList
end Go.Proofs.Ytpkfjdaedaplfaa
