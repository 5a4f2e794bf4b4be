/- The program's derivatives, remainders, divisors. -/
import Derived.Test.YtijgcjpngpifnaaPmu
namespace Go.Proofs.Ytijgcjpngpifnaa
open Go.RowKit

/-- the derivative, of the first k numbers -/
def dpN (f : List Nat) (k : Nat) : List Nat := (List.range (k - 1)).map fun i => nth f (i + 1) * (i + 1) % 10007
theorem dpN_length (f : List Nat) (k : Nat) : (dpN f k).length = k - 1 := by simp [dpN]
theorem dpN_succ (f : List Nat) {k : Nat} (h : 0 < k) : dpN f (k + 1) = dpN f k ++ [nth f k * k % 10007] := by
  unfold dpN
  rw [show k + 1 - 1 = (k - 1) + 1 by omega, List.range_succ, List.map_append, List.map_singleton, show k - 1 + 1 = k by omega]
set_option maxRecDepth 100000 in
set_option maxHeartbeats 1000000 in
theorem derivative6_any (v : Value) (f : List Nat) (pf : Po f) (lf : f.length ≤ 1000) (w : World) (hv : RdN w v f) :
    Calls Try.prog 59 #[v] w fun e w' => ∃ r, e = .returned r ∧ Holds w w' [pPo r (dervL f)] := by
  obtain ⟨A, c, rfl, _⟩ := hv.form
  have HV := hide hv; clear hv
  have PF := hide pf; clear pf
  have CT := hide resTimes_any
  have H0 : Holds w w [pRow (.slice none 0 0) 42 1 (dpN f 0).length (nums (dpN f 0))] := (Holds.start w).nilRow 42 1
  go_enter Try.func59, Try.ntmps59
  go_wp2
  go_loopw [3, 8] (fun s t wr => ∃ k : Nat, k ≤ f.length ∧ t = .int .i64 k ∧ Holds w wr [pRow s 42 1 (dpN f k).length (nums (dpN f k))]) (fun _ t _ => f.length - (intOf t).toNat)
  case atStart => exact ⟨0, Nat.zero_le _, rfl, H0⟩
  case round =>
    clear H0
    obtain ⟨k, hk, rfl, hH⟩ := hrel
    by_cases hlt : k < f.length
    · obtain ⟨a, rfl, _, c1⟩ := (HV.out.below hH.low (Nat.le_refl _)).at hlt
      have hx := PF.out.nth k
      by_cases h0 : 0 < k
      · have d0 : decide ((0 : Int) < (k : Int)) = true := decide_eq_true (by omega)
        have hs := dpN_succ f h0
        have HS := hide hs; clear hs
        have hln : (dpN f k).length ≤ 1000 := by rw [dpN_length]; omega
        generalize nth f k = x at *
        have H2 := hH.blk #[.int .i64 ((x * k % 10007 : Nat) : Int)] 42 wr.heap.size rfl
        go_wp2_with fail
        refine (CT.out x k hx (by omega) _).mono ?_
        rintro e w3 ⟨rfl, rfl⟩
        go_wp2_with (at_builtin; refine appBl 44 42 Try.underlying44 infoRes H2 1 rfl wr.heap.size [x * k % 10007] 42 (H2.at 0 rfl) (by simp only [List.length_singleton]; omega) rfl _ _ rfl rfl rfl ?_)
        intro v' w' h3
        have h4 : Holds w w' [pRow v' 42 1 (dpN f (k + 1)).length (nums (dpN f (k + 1)))] := by
          rw [HS.out, List.length_append, List.length_singleton]
          exact Holds.tail h3
        have H4 := hide h4; clear h4 h3 H2 hH
        go_wp2
        go_roundw
        case rel => exact ⟨k + 1, by omega, by go_num, H4.out⟩
        case measure => simp [intOf]; omega
      · obtain rfl : k = 0 := by omega
        have d0 : decide ((0 : Int) < ((0 : Nat) : Int)) = false := rfl
        have h4 : Holds w wr [pRow u3 42 1 (dpN f (0 + 1)).length (nums (dpN f (0 + 1)))] := hH
        have H4 := hide h4; clear h4 hH
        rw [add_zero'] at c1
        generalize nth f 0 = x at *
        go_wp2
        go_roundw
        case rel => exact ⟨1, by omega, by go_num, H4.out⟩
        case measure => simp [intOf]; omega
    · obtain rfl : k = f.length := by omega
      have h5 : Holds w wr [pPo u3 (dervL f)] := Holds.poRow (l := dervL f) hH 0 rfl (by rw [dervL_length]; omega)
      have H5 := hide h5; clear h5 hH hlt hk
      go_wp2
      go_ret
      exact ⟨_, rfl, H5.out⟩

def lenV : Value → Nat
  | .slice _ n _ => n
  | _ => 0
-- left out here: add6_any
-- left out here: remainder6_any
end Go.Proofs.Ytijgcjpngpifnaa
