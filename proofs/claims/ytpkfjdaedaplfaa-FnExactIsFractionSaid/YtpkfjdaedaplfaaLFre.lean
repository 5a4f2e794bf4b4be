/- The walks of the laws FractionOf and IsFraction. -/
import Derived.Test.YtpkfjdaedaplfaaFre
import Derived.Test.YtpkfjdaedaplfaaFrO
namespace Go.Proofs.Ytpkfjdaedaplfaa
open Go.RowKit

set_option maxRecDepth 100000 in
set_option maxHeartbeats 2000000 in
theorem fnExactIsFraction_walk (n d : Int) (_hn : -9223372036854775808 ≤ n ∧ n ≤ 9223372036854775807) (_hd : -9223372036854775808 ≤ d ∧ d ≤ 9223372036854775807) (w : World) :
    Calls Try.prog 3 #[.agg #[.int .i64 n, .int .i64 d]] w fun e w' => e = .returned (.bool true) ∧ Below w.heap.size w w' := by
  clear _hn _hd
  have C1 := hide fun w => isFraction_any n d w
  have C2 := hide fun w => sIsFraction_any n d w
  generalize frB n d = b at *
  have hne : (b != b) = false := by simp
  have H0 := (Holds.start w).blk #[.int .i64 n, .int .i64 d] 23 w.heap.size rfl
  go_enter Try.func3, Try.ntmps3
  go_wp2_with fail
  refine (toFraction_any n d _).mono ?_
  rintro e w1 ⟨rfl, hb⟩
  have H1 := H0.call hb
  clear hb H0
  go_wp2_with fail
  refine (C2.out _).mono ?_
  rintro e w2 ⟨rfl, hb⟩
  have H2 := H1.call hb
  clear hb H1
  have c0 := H2.cell 0 rfl (j := 0) (v := .int .i64 n) rfl
  have c1 := H2.cell 0 rfl (j := 1) (v := .int .i64 d) rfl
  go_wp2_with fail
  refine (toFraction_any n d _).mono ?_
  rintro e w3 ⟨rfl, hb⟩
  have H3 := H2.call hb
  clear hb H2 c0 c1
  go_wp2_with fail
  refine (C1.out _).mono ?_
  rintro e w4 ⟨rfl, hb⟩
  have H4 := H3.call hb
  clear hb H3
  go_wp2
  go_ret
  exact ⟨rfl, H4.low⟩
set_option maxRecDepth 100000 in
set_option maxHeartbeats 2000000 in
theorem fnExactFractionOf_walk (P : Int) (_hP : -9223372036854775808 ≤ P ∧ P ≤ 9223372036854775807) (Q : Int) (_hQ : -9223372036854775808 ≤ Q ∧ Q ≤ 9223372036854775807) (w : World) :
    Calls Try.prog 4 #[.int .i64 P, .int .i64 Q] w fun e w' => e = .returned (.bool true) ∧ Below w.heap.size w w' := by
  clear _hP _hQ
  have C1 := hide fun w => fractionOf_any P Q w
  have C2 := hide fun w => sFractionOf_any P Q w
  generalize foN P Q = n at *
  generalize foD P Q = d at *
  generalize foC P Q = c at *
  have hne : (c != c) = false := by simp
  go_enter Try.func4, Try.ntmps4
  go_wp2_with fail
  refine (C2.out _).mono ?_
  rintro e w1 ⟨rfl, hb⟩
  have H1 := ((Holds.start w).call hb).blk #[.int .i64 n, .int .i64 d] 25 w1.heap.size rfl
  clear hb
  go_wp2_with fail
  refine (C1.out _).mono ?_
  rintro e w2 ⟨rfl, hb⟩
  have H2 := (H1.call hb).blk #[.int .i64 n, .int .i64 d] 25 w2.heap.size rfl
  have hl := (H1.call hb).lt 0 rfl
  have c0 := (H1.call hb).cell 0 rfl (j := 0) (v := .int .i64 n) rfl
  have c1 := (H1.call hb).cell 0 rfl (j := 1) (v := .int .i64 d) rfl
  clear hb H1
  go_wp2_with fail
  refine (eqFraction_same n d _).mono ?_
  rintro e w3 ⟨rfl, hb⟩
  have H3 := H2.call hb
  clear hb H2 c0 c1
  go_wp2
  go_ret
  exact ⟨rfl, H3.low⟩
end Go.Proofs.Ytpkfjdaedaplfaa
