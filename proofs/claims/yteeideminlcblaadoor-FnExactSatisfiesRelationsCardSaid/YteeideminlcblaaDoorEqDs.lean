/- laws.eqDessin at equal dessins -/
import Derived.Test.YteeideminlcblaaDoorDes
import Derived.Test.YteeideminlcblaaDoorEqPl
namespace Go.Proofs.YteeideminlcblaaDoor
open Go.RowKit

-- left out here: loop.example/g01200/laws.eqDessin
end Go.Proofs.YteeideminlcblaaDoor
