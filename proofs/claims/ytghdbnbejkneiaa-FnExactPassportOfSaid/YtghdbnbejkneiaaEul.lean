/- impl.euler -/
import Derived.Test.YtghdbnbejkneiaaTrio
import Derived.Test.YtghdbnbejkneiaaCnt
namespace Go.Proofs.Ytghdbnbejkneiaa
open Go.RowKit

/-- the numbers of cycles of the three, and less the darts -/
def cyN (f g : Nat → Nat) (m : Nat) (k : Nat) : Nat := (cycs (pick3 f g (faceF f g m) k) m).length
def sumTo (L : Nat → Nat) (m : Nat) : Nat → Int
  | 0 => -(m : Int)
  | k + 1 => sumTo L m k + L k
def eulN (f g : Nat → Nat) (m : Nat) : Int := sumTo (cyN f g m) m 3
theorem DesN.pick {f g : Nat → Nat} {m : Nat} (h : DesN f g m) (k : Nat) : PermN (pick3 f g (faceF f g m) k) m := by
  unfold pick3
  split
  · exact h.black
  · split
    · exact h.white
    · exact h.face
theorem sumTo_bound {L : Nat → Nat} {m : Nat} (hm : m ≤ 16) (hL : ∀ k, L k ≤ 16) : ∀ k, -16 ≤ sumTo L m k ∧ sumTo L m k ≤ 16 * k := by
  intro k
  induction k with
  | zero => simp [sumTo]; omega
  | succ k ih =>
    have := hL k
    show -16 ≤ sumTo L m k + L k ∧ sumTo L m k + L k ≤ _
    omega

set_option maxRecDepth 100000 in
set_option maxHeartbeats 1000000 in
theorem euler_any (f g : Nat → Nat) (m : Nat) (hd : DesN f g m) (w : World) :
    Calls Try.prog 62 #[.agg (dv m f g)] w fun e w' => e = .returned (.int .i64 (eulN f g m)) ∧ Below w.heap.size w w' := by
  have C1 := hide fun w => turnsOf_any f g m hd w
  have C2 := hide fun (k : Nat) w => countCycles_any (pick3 f g (faceF f g m) k) m (hd.pick k) w
  have hl : ∀ k, cyN f g m k ≤ 16 := fun k => Nat.le_trans (cycs_le (hd.pick k)) hd.le
  have hb := sumTo_bound hd.le hl
  have hm := hd.le
  have HL := hide hl; clear hl
  have HB := hide hb; clear hb
  have hn := dv_n m f g
  have he : eulN f g m = sumTo (cyN f g m) m 3 := rfl
  rw [he]
  clear hd he
  go_enter Try.func62, Try.ntmps62
  go_wp2_with fail
  refine (C1.out _).mono ?_
  rintro e w1 ⟨rfl, hb⟩
  have g1 : cellsOf w1 w.heap.size = dv m f g := (below_cells hb (by simp)).trans (cellsOf_heap (heap_at _ _ _ rfl))
  have b1 := (below1 w (.cells (dv m f g) 39)).trans (hb.mono (by simp))
  have l1 : w.heap.size < w1.heap.size := by have := hb.size; simp at this; omega
  clear hb
  go_wp2
  go_loopw [11, 3] (fun i s wr => ∃ k : Nat, k ≤ 3 ∧ i = .int .i64 k ∧ s = .int .i64 (sumTo (cyN f g m) m k) ∧ Below w.heap.size w wr ∧ cellsOf wr w.heap.size = dv m f g ∧ w.heap.size < wr.heap.size) (fun i _ _ => 3 - (intOf i).toNat)
  case atStart => exact ⟨0, by omega, rfl, by simp [sumTo], b1, g1, l1⟩
  case round =>
    obtain ⟨k, hk, rfl, rfl, hbw, hc, hl⟩ := hrel
    by_cases hlt : k < 3
    · have c0 : wr.cell? ⟨w.heap.size, 0, none⟩ = some (.int .i64 m) := by rw [cell_of_cells, hc]; exact hn
      have hs := HB.out k
      have hs' : sumTo (cyN f g m) m (k + 1) = sumTo (cyN f g m) m k + cyN f g m k := rfl
      have hk16 := HL.out k
      have hcy : (cycs (pick3 f g (faceF f g m) k) m).length = cyN f g m k := rfl
      have C3 := hide fun w => C2.out k w
      rw [hcy] at C3
      have HS := hide hs'; clear hs' hcy
      have HC := hide hc; clear hc
      generalize sumTo (cyN f g m) m k = x at *
      generalize cyN f g m k = y at *
      go_wp2_with fail
      refine (C3.out _).mono ?_
      rintro e w2 ⟨rfl, hb2⟩
      have b2 := (hbw.alloc hbw.size _).trans (hb2.mono (by simp; omega))
      have c2 := (below_cells hb2 (by simp; omega)).trans ((cellsOf_past hl).trans HC.out)
      have l2 : w.heap.size < w2.heap.size := by have := hb2.size; simp at this; omega
      clear hb2 c0 hbw hl
      go_wp2
      go_roundw
      case rel => exact ⟨k + 1, by omega, by go_num, by rw [HS.out], b2, c2, l2⟩
      case measure => simp [intOf]; omega
    · obtain rfl : k = 3 := by omega
      clear hlt hk
      go_wp2
      go_ret
      exact ⟨rfl, hbw⟩
end Go.Proofs.Ytghdbnbejkneiaa
