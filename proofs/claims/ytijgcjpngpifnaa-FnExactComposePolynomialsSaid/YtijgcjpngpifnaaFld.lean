/- The field of the remainders by 10007: inverses, no divisors of zero. Mathematics alone. -/
import Derived.Test.YtijgcjpngpifnaaBase
namespace Go.Proofs.Ytijgcjpngpifnaa

/-- out times square to the power k, as it is reckoned by halving k -/
def powF2 : Nat → Nat → Nat → Nat → Nat
  | 0, _, _, out => out
  | n + 1, k, sq, out => if k = 0 then out else powF2 n (k / 2) (sq * sq % 10007) (if k % 2 = 1 then out * sq % 10007 else out)
/-- the inverse -/
def invN (x : Nat) : Nat := powF2 20 10005 x 1
theorem invN_all : ((List.range 10007).all fun x => decide (x = 0 ∨ x * invN x % 10007 = 1)) = true := by decide +kernel
theorem invN_mul {x : Nat} (h0 : 0 < x) (h : x < 10007) : x * invN x % 10007 = 1 := by
  have h1 := of_decide_eq_true (List.all_eq_true.1 invN_all x (List.mem_range.2 h))
  omega
theorem fld_zero {x y : Nat} (hx : x < 10007) (hy : y < 10007) (h : x * y % 10007 = 0) : x = 0 ∨ y = 0 := by
  rcases Nat.eq_zero_or_pos x with c | c
  · exact .inl c
  · right
    have h1 := invN_mul c hx
    have h2 : y * (x * invN x) % 10007 = y % 10007 := by rw [Nat.mul_mod, h1, Nat.mul_one, Nat.mod_mod]
    have h3 : y * (x * invN x) % 10007 = 0 := by
      rw [← Nat.mul_assoc, Nat.mul_comm y x, Nat.mul_mod, h, Nat.zero_mul, Nat.zero_mod]
    rw [h2, Nat.mod_eq_of_lt hy] at h3
    exact h3
/-- an inverse is the only one -/
theorem inv_one {x y z : Nat} (hy : y < 10007) (hz : z < 10007) (h1 : x * y % 10007 = 1) (h2 : x * z % 10007 = 1) : y = z := by
  have e1 : y * (x * z) % 10007 = y := by rw [Nat.mul_mod, h2, Nat.mul_one, Nat.mod_mod, Nat.mod_eq_of_lt hy]
  have e2 : z * (x * y) % 10007 = z := by rw [Nat.mul_mod, h1, Nat.mul_one, Nat.mod_mod, Nat.mod_eq_of_lt hz]
  have e : y * (x * z) = z * (x * y) := by rw [Nat.mul_left_comm, Nat.mul_left_comm z x y, Nat.mul_comm y z]
  rw [e, e2] at e1
  exact e1.symm
end Go.Proofs.Ytijgcjpngpifnaa
