/- The walk of FnExactAddPolynomials. -/
import Derived.Test.YtijgcjpngpifnaaMkZ
import Derived.Test.YtijgcjpngpifnaaAdd6
namespace Go.Proofs.Ytijgcjpngpifnaa
open Go.RowKit

-- left out here: addPolynomials_any
end Go.Proofs.Ytijgcjpngpifnaa
