/- Sums and products that stay within their kinds. -/
import Derived.Test.YtpkfjdaedaplfaaAgg
namespace Go.Proofs.Ytpkfjdaedaplfaa
open Go.RowKit
theorem wr64 {x : Int} (h1 : -9223372036854775808 ≤ x) (h2 : x ≤ 9223372036854775807) : wrap64 x = x := by
  unfold wrap64; omega
theorem wr64k {x : Int} (h1 : -9223372036854775808 ≤ x) (h2 : x ≤ 9223372036854775807) : IntKind.i64.wrap x = x := by
  rw [IntKind.wrap_i64]; omega
theorem wr8k {x : Int} (h1 : 0 ≤ x) (h2 : x < 256) : IntKind.u8.wrap x = x := by
  rw [IntKind.wrap_u8]; omega
end Go.Proofs.Ytpkfjdaedaplfaa
