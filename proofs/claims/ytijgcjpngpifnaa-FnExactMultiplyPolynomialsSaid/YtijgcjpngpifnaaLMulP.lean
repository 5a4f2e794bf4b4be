/- The walk of FnExactMultiplyPolynomials. -/
import Derived.Test.YtijgcjpngpifnaaMkZ
import Derived.Test.YtijgcjpngpifnaaMul6
namespace Go.Proofs.Ytijgcjpngpifnaa
open Go.RowKit

-- left out here: sMultiplyPolynomials_any
end Go.Proofs.Ytijgcjpngpifnaa
