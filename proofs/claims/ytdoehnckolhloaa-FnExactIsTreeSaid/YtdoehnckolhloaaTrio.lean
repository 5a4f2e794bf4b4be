/- Three permutations in one array; impl.turnsOf. -/
import Derived.Test.YtdoehnckolhloaaPF
import Derived.Test.YtdoehnckolhloaaBld
namespace Go.Proofs.Ytdoehnckolhloaa
open Go.RowKit

def pick3 (f g h : Nat → Nat) (k : Nat) : Nat → Nat := if k = 0 then f else if k = 1 then g else h
@[irreducible] def tv (f g h : Nat → Nat) : Array Value := row 48 fun i => if i < 16 then .int .u8 (f i) else if i < 32 then .int .u8 (g (i - 16)) else .int .u8 (h (i - 32))
theorem tv_size (f g h : Nat → Nat) : (tv f g h).size = 48 := by unfold tv; exact row_size _ _
theorem tv_cases (f g h : Nat → Nat) (i : Nat) : (tv f g h)[i]? = if i < 48 then some (if i < 16 then .int .u8 (f i) else if i < 32 then .int .u8 (g (i - 16)) else .int .u8 (h (i - 32))) else none := by
  unfold tv
  by_cases c : i < 48
  · rw [row_get _ _ c, if_pos c]
  · rw [row_none _ _ c, if_neg c]
theorem tv_cells (f g h : Nat → Nat) : (tv f g h).all (·.oneCell') = true := by
  unfold tv row
  simp only [List.all_toArray, List.all_map, List.all_eq_true, Function.comp]
  intro i _
  split
  · rfl
  · split <;> rfl
theorem tv_part (f g h : Nat → Nat) {k : Nat} (hk : k < 3) : (tv f g h).extract (k * 16) (k * 16 + 16) = av (pick3 f g h k) := by
  apply Array.ext_getElem?
  intro i
  rw [Array.getElem?_extract, tv_cases, av_cases, tv_size]
  by_cases c : i < 16
  · rw [if_pos (by omega), if_pos (by omega), if_pos c]
    unfold pick3
    have : k = 0 ∨ k = 1 ∨ k = 2 := by omega
    rcases this with rfl | rfl | rfl
    · simp [c]
    · have h1 : ¬ 16 + i < 16 := by omega
      have h2 : 16 + i < 32 := by omega
      have h3 : 16 + i - 16 = i := by omega
      simp [h1, h2, h3]
    · have h1 : ¬ 32 + i < 16 := by omega
      have h2 : ¬ 32 + i < 32 := by omega
      have h3 : 32 + i - 32 = i := by omega
      simp [h1, h2, h3]
  · rw [if_neg (by omega), if_neg c]
-- left out here: None
def Is48 (c : Array Value) : Prop := c.size = 48
@[go_sem] theorem is48_tv (f g h : Nat → Nat) : Is48 (tv f g h) ↔ True := ⟨fun _ => trivial, fun _ => tv_size f g h⟩
@[go_sem] theorem ones_tv (f g h : Nat → Nat) : Ones (tv f g h) ↔ True := ⟨fun _ => trivial, fun _ => tv_cells f g h⟩

-- left out here: None
-- left out here: None
section
variable (ρ : Operand → Value) (dst : Option Tmp) (x y : Operand) (ty : TypeId) (pos : String) (after : Array Edge) (guard : Option (Nat × Bool))
-- left out here: None
-- left out here: None
end
-- left out here: idxT
-- left out here: None
-- left out here: None
-- left out here: None
-- left out here: None
-- left out here: None
-- left out here: loop.example/g01200/impl.face loop.example/g01200/impl.turnsOf
end Go.Proofs.Ytdoehnckolhloaa
