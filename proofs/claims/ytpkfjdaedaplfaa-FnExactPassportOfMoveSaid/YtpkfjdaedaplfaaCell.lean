/- Stores into one cell of a block. -/
import Derived.Test.YtpkfjdaedaplfaaDes
namespace Go.Proofs.Ytpkfjdaedaplfaa
open Go.RowKit

theorem below_setCell {B g : Nat} {w0 w : World} (h : Below B w0 w) (hg : B ≤ g) (i : Nat) (v : Value) : Below B w0 (w.setCell ⟨g, i, none⟩ v) :=
  ⟨h.os, h.tape, h.output, by have := h.size; simpa using this, fun k hk => (Below.heap_setCell w ⟨g, i, none⟩ v k (fun e => by have : k = g := e; omega)).trans (h.block k hk)⟩
theorem dv_setb (n : Int) (f g : Nat → Nat) {i : Nat} (v : Nat) (h : i < 16) : (dv n f g).setIfInBounds (1 + i) (.int .u8 v) = dv n (fset f i v) g := by
  unfold dv
  rw [row_set]
  apply row_congr
  intro j _
  unfold fset
  by_cases c : j = 1 + i
  · rw [if_pos c, if_neg (by omega), if_pos (by omega), if_pos (by omega)]
  · rw [if_neg c]
    by_cases d : j = 0
    · rw [if_pos d, if_pos d]
    · rw [if_neg d, if_neg d]
      by_cases e : j < 17
      · rw [if_pos e, if_pos e, if_neg (by omega)]
      · rw [if_neg e, if_neg e]
theorem dv_setw (n : Int) (f g : Nat → Nat) {i : Nat} (v : Nat) (h : i < 16) : (dv n f g).setIfInBounds (17 + i) (.int .u8 v) = dv n f (fset g i v) := by
  unfold dv
  rw [row_set]
  apply row_congr
  intro j _
  unfold fset
  by_cases c : j = 17 + i
  · rw [if_pos c, if_neg (by omega), if_neg (by omega), if_pos (by omega)]
  · rw [if_neg c]
    by_cases d : j = 0
    · rw [if_pos d, if_pos d]
    · rw [if_neg d, if_neg d]
      by_cases e : j < 17
      · rw [if_pos e, if_pos e]
      · rw [if_neg e, if_neg e, if_neg (by omega)]

end Go.Proofs.Ytpkfjdaedaplfaa
