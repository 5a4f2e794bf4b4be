/- Dessins as thirty-three cells: the number of darts, Black, White. -/
import Derived.Test.YtpkfjdaedaplfaaAgg
import Derived.Laws.CopyRow
import Derived.Deep.MidRow
namespace Go.Proofs.Ytpkfjdaedaplfaa
open Go.RowKit

@[irreducible] def dv (n : Int) (f g : Nat → Nat) : Array Value := row 33 fun i => if i = 0 then .int .i64 n else if i < 17 then .int .u8 (f (i - 1)) else .int .u8 (g (i - 17))
theorem dv_size (n : Int) (f g : Nat → Nat) : (dv n f g).size = 33 := by unfold dv; exact row_size _ _
theorem dv_n (n : Int) (f g : Nat → Nat) : (dv n f g)[0]? = some (.int .i64 n) := by unfold dv; rw [row_get _ _ (by omega)]; rfl
theorem dv_b (n : Int) (f g : Nat → Nat) {i : Nat} (h : i < 16) : (dv n f g)[1 + i]? = some (.int .u8 (f i)) := by
  unfold dv; rw [row_get _ _ (by omega), if_neg (by omega), if_pos (by omega), show 1 + i - 1 = i from by omega]
theorem dv_w (n : Int) (f g : Nat → Nat) {i : Nat} (h : i < 16) : (dv n f g)[17 + i]? = some (.int .u8 (g i)) := by
  unfold dv; rw [row_get _ _ (by omega), if_neg (by omega), if_neg (by omega), show 17 + i - 17 = i from by omega]
theorem dv_zero : dv 0 (fun _ => 0) (fun _ => 0) = #[Value.int .i64 0, Value.int .u8 0, Value.int .u8 0, Value.int .u8 0, Value.int .u8 0, Value.int .u8 0, Value.int .u8 0, Value.int .u8 0, Value.int .u8 0, Value.int .u8 0, Value.int .u8 0, Value.int .u8 0, Value.int .u8 0, Value.int .u8 0, Value.int .u8 0, Value.int .u8 0, Value.int .u8 0, Value.int .u8 0, Value.int .u8 0, Value.int .u8 0, Value.int .u8 0, Value.int .u8 0, Value.int .u8 0, Value.int .u8 0, Value.int .u8 0, Value.int .u8 0, Value.int .u8 0, Value.int .u8 0, Value.int .u8 0, Value.int .u8 0, Value.int .u8 0, Value.int .u8 0, Value.int .u8 0] := by unfold dv row; rfl
theorem dv_lit (n : Int) : dv n (fun _ => 0) (fun _ => 0) = #[Value.int .i64 n, Value.int .u8 0, Value.int .u8 0, Value.int .u8 0, Value.int .u8 0, Value.int .u8 0, Value.int .u8 0, Value.int .u8 0, Value.int .u8 0, Value.int .u8 0, Value.int .u8 0, Value.int .u8 0, Value.int .u8 0, Value.int .u8 0, Value.int .u8 0, Value.int .u8 0, Value.int .u8 0, Value.int .u8 0, Value.int .u8 0, Value.int .u8 0, Value.int .u8 0, Value.int .u8 0, Value.int .u8 0, Value.int .u8 0, Value.int .u8 0, Value.int .u8 0, Value.int .u8 0, Value.int .u8 0, Value.int .u8 0, Value.int .u8 0, Value.int .u8 0, Value.int .u8 0, Value.int .u8 0] := by unfold dv row; rfl
theorem dv_cells (n : Int) (f g : Nat → Nat) : (dv n f g).all (·.oneCell') = true := by
  unfold dv row
  simp only [List.all_toArray, List.all_map, List.all_eq_true, Function.comp]
  intro i _
  split
  · rfl
  · split <;> rfl

def Is33 (c : Array Value) : Prop := c.size = 33
@[go_sem] theorem is33_dv (n : Int) (f g : Nat → Nat) : Is33 (dv n f g) ↔ True := ⟨fun _ => trivial, fun _ => dv_size n f g⟩
@[go_sem] theorem is33_lit (x0 x1 x2 x3 x4 x5 x6 x7 x8 x9 x10 x11 x12 x13 x14 x15 x16 x17 x18 x19 x20 x21 x22 x23 x24 x25 x26 x27 x28 x29 x30 x31 x32 : Value) : Is33 #[x0, x1, x2, x3, x4, x5, x6, x7, x8, x9, x10, x11, x12, x13, x14, x15, x16, x17, x18, x19, x20, x21, x22, x23, x24, x25, x26, x27, x28, x29, x30, x31, x32] ↔ True := ⟨fun _ => trivial, fun _ => rfl⟩
@[go_sem] theorem ones_dv (n : Int) (f g : Nat → Nat) : Ones (dv n f g) ↔ True := ⟨fun _ => trivial, fun _ => dv_cells n f g⟩
@[go_sem] theorem ones_z33 : Ones #[Value.int .i64 0, Value.int .u8 0, Value.int .u8 0, Value.int .u8 0, Value.int .u8 0, Value.int .u8 0, Value.int .u8 0, Value.int .u8 0, Value.int .u8 0, Value.int .u8 0, Value.int .u8 0, Value.int .u8 0, Value.int .u8 0, Value.int .u8 0, Value.int .u8 0, Value.int .u8 0, Value.int .u8 0, Value.int .u8 0, Value.int .u8 0, Value.int .u8 0, Value.int .u8 0, Value.int .u8 0, Value.int .u8 0, Value.int .u8 0, Value.int .u8 0, Value.int .u8 0, Value.int .u8 0, Value.int .u8 0, Value.int .u8 0, Value.int .u8 0, Value.int .u8 0, Value.int .u8 0, Value.int .u8 0] ↔ True := ⟨fun _ => trivial, fun _ => by unfold Ones; simp [Value.oneCell']⟩
@[go_sem] theorem rowOk_at33 {w : World} {g : Nat} {c : Array Value} {t : TypeId} (h : g = w.heap.size) (hc : Is33 c) : rowOk (w.alloc (.cells c t)) g 33 ↔ True := ⟨fun _ => trivial, fun _ => ⟨c, t, heap_at _ _ _ h, hc⟩⟩

@[go_sem] theorem cellsOf_ne {w : World} {g g' : Nat} {c' : Array Value} (h : g ≠ g') : cellsOf (w.setRow g' c') g = cellsOf w g := cellsOf_setRow_ne h
@[go_sem] theorem cellsOf_same33 {w : World} {g : Nat} {c' : Array Value} (h : rowOk w g 33) : cellsOf (w.setRow g c') g = c' := cellsOf_setRow h
@[go_sem] theorem cellsOf_same16 {w : World} {g : Nat} {c' : Array Value} (h : rowOk w g 16) : cellsOf (w.setRow g c') g = c' := cellsOf_setRow h
@[go_sem] theorem rowOk_ne {w : World} {g g' n : Nat} {c' : Array Value} (h : g ≠ g') : rowOk (w.setRow g' c') g n ↔ rowOk w g n := rowOk_setRow_ne h
@[go_sem] theorem rowOk_same33 {w : World} {g : Nat} {c' : Array Value} (h : rowOk w g 33) (hc : Is33 c') : rowOk (w.setRow g c') g 33 ↔ True := ⟨fun _ => trivial, fun _ => rowOk_setRow h hc⟩
@[go_sem] theorem rowOk_same16 {w : World} {g : Nat} {c' : Array Value} (h : rowOk w g 16) (hc : Is16 c') : rowOk (w.setRow g c') g 16 ↔ True := ⟨fun _ => trivial, fun _ => rowOk_setRow h hc⟩
/-- Black and White of thirty-three cells -/
def blackOf (c : Array Value) : Array Value := c.extract 1 17
def whiteOf (c : Array Value) : Array Value := c.extract 17 33
def setBlack (c b : Array Value) : Array Value := (c.toList.take 1 ++ b.toList ++ c.toList.drop 17).toArray
def setWhite (c b : Array Value) : Array Value := (c.toList.take 17 ++ b.toList ++ c.toList.drop 33).toArray
theorem get_cases (n : Int) (f g : Nat → Nat) (i : Nat) : (dv n f g)[i]? = if i < 33 then some (if i = 0 then .int .i64 n else if i < 17 then .int .u8 (f (i - 1)) else .int .u8 (g (i - 17))) else none := by
  unfold dv
  by_cases h : i < 33
  · rw [row_get _ _ h, if_pos h]
  · rw [row_none _ _ h, if_neg h]
theorem av_cases (f : Nat → Nat) (i : Nat) : (av f)[i]? = if i < 16 then some (.int .u8 (f i)) else none := by
  by_cases h : i < 16
  · rw [av_get _ h, if_pos h]
  · rw [if_neg h, Array.getElem?_eq_none]; rw [av_size]; omega
@[go_sem] theorem blackOf_dv (n : Int) (f g : Nat → Nat) : blackOf (dv n f g) = av f := by
  apply Array.ext_getElem?
  intro i
  unfold blackOf
  rw [Array.getElem?_extract, get_cases, av_cases, dv_size]
  by_cases h : i < 16
  · rw [if_pos (by omega), if_pos (by omega), if_neg (by omega), if_pos (by omega), if_pos h, show 1 + i - 1 = i from by omega]
  · rw [if_neg (by omega), if_neg h]
@[go_sem] theorem whiteOf_dv (n : Int) (f g : Nat → Nat) : whiteOf (dv n f g) = av g := by
  apply Array.ext_getElem?
  intro i
  unfold whiteOf
  rw [Array.getElem?_extract, get_cases, av_cases, dv_size]
  by_cases h : i < 16
  · rw [if_pos (by omega), if_pos (by omega), if_neg (by omega), if_neg (by omega), if_pos h, show 17 + i - 17 = i from by omega]
  · rw [if_neg (by omega), if_neg h]
@[go_sem] theorem setBlack_dv (n : Int) (f g b : Nat → Nat) : setBlack (dv n f g) (av b) = dv n b g := by
  apply Array.ext_getElem?
  intro i
  have l1 : (dv n f g).toList.length = 33 := by simpa using dv_size n f g
  have l2 : (av b).toList.length = 16 := by simpa using av_size b
  unfold setBlack
  rw [List.getElem?_toArray, get_cases]
  by_cases h0 : i < 1
  · rw [List.getElem?_append_left (by simp [l1]; omega), List.getElem?_append_left (by simp [l1]; omega), List.getElem?_take_of_lt (by omega), Array.getElem?_toList, get_cases]
    rw [if_pos (by omega), if_pos (by omega), if_pos (by omega), if_pos (by omega)]
  · by_cases h1 : i < 17
    · rw [List.getElem?_append_left (by simp [l1, l2, av_size]; omega), List.getElem?_append_right (by simp [l1]; omega), Array.getElem?_toList, av_cases]
      have e : i - (List.take 1 (dv n f g).toList).length = i - 1 := by simp [l1, dv_size]
      rw [e, if_pos (by omega), if_pos (by omega), if_neg (by omega), if_pos h1]
    · rw [List.getElem?_append_right (by simp [l1, l2, av_size, dv_size]; omega), List.getElem?_drop, Array.getElem?_toList, get_cases]
      have e : 17 + (i - (List.take 1 (dv n f g).toList ++ (av b).toList).length) = i := by simp [l1, l2, av_size, dv_size]; omega
      rw [e]
      by_cases h2 : i < 33
      · rw [if_pos h2, if_pos h2, if_neg (by omega), if_neg (by omega), if_neg (by omega), if_neg (by omega)]
      · rw [if_neg h2, if_neg h2]
@[go_sem] theorem setWhite_dv (n : Int) (f g b : Nat → Nat) : setWhite (dv n f g) (av b) = dv n f b := by
  apply Array.ext_getElem?
  intro i
  have l1 : (dv n f g).toList.length = 33 := by simpa using dv_size n f g
  have l2 : (av b).toList.length = 16 := by simpa using av_size b
  unfold setWhite
  rw [List.getElem?_toArray, get_cases]
  by_cases h0 : i < 17
  · rw [List.getElem?_append_left (by simp [l1, dv_size, av_size]; omega), List.getElem?_append_left (by simp [l1, dv_size]; omega), List.getElem?_take_of_lt (by omega), Array.getElem?_toList, get_cases]
    by_cases h : i = 0
    · simp [h]
    · simp [h, h0, show i < 33 from by omega]
  · by_cases h1 : i < 33
    · rw [List.getElem?_append_left (by simp [l1, l2, av_size, dv_size]; omega), List.getElem?_append_right (by simp [l1, dv_size]; omega), Array.getElem?_toList, av_cases]
      have e : i - (List.take 17 (dv n f g).toList).length = i - 17 := by simp [l1, dv_size]
      rw [e, if_pos (by omega), if_pos (by omega), if_neg (by omega), if_neg (by omega)]
    · rw [List.getElem?_append_right (by simp [l1, l2, av_size, dv_size]; omega), List.getElem?_drop, Array.getElem?_toList, get_cases, if_neg (by omega), if_neg h1]

-- left out here: None
-- left out here: None
/-- sixteen cells out of the midst of a block, and into it -/
theorem run_load_mid {T n : Nat} (hT : AggT T n) {w : World} {g o : Nat} {cs : Array Value} (h : (cellsOf w g).extract o (o + n) = cs) (hs : cs.size = n) :
    (loadT T (.pointer (some ⟨g, o, none⟩))).run Try.prog w = .ok (.value (.agg cs)) w := by
  obtain ⟨d, hd, hd'⟩ := hT.und
  have := run_loadVar_mid (P := Try.prog) w g o T cs.toList d (fun j v hv => by
    rw [cell_of_cells]
    rw [← h] at hv
    simp only [Array.getElem?_toList, Array.getElem?_extract] at hv
    split at hv
    · exact hv
    · cases hv) hd (by cases d <;> first | rfl | simp at hd') (by rw [Array.length_toList, hs]; exact hT.siz)
  simp only [loadT, Instr.loadAt, Instr.sureAddr, Sem.run_bind, Sem.run_pure, Result.andThen_ok, this]
theorem run_store_mid {T n m : Nat} (hT : AggT T n) {w : World} {g o : Nat} {cs : Array Value} (h : rowOk w g m) (hm : o + n ≤ m) (hs : cs.size = n) (hc : cs.all (·.oneCell') = true) :
    (storeT T (.pointer (some ⟨g, o, none⟩)) (.agg cs)).run Try.prog w = .ok .skip (w.setRow g ((cellsOf w g).toList.take o ++ cs.toList ++ (cellsOf w g).toList.drop (o + n)).toArray) := by
  obtain ⟨t, h1, h2⟩ := h.heap
  have := run_storeCells_at (P := Try.prog) g o t cs.toList 0 (cellsOf w g) w h1 (by simp [hs, h2]; omega) (fun v hv => (Array.all_eq_true_iff_forall_mem.1 hc) v (by simpa using hv))
  rcases hq : Try.prog.info? T with _ | i
  · have := hT.siz; rw [hq] at this; cases this
  · have hi : i.size = n := by have := hT.siz; rw [hq] at this; simpa using this
    simp only [Nat.add_zero, Array.length_toList, hs] at this
    simp only [storeT, Instr.storeAt, Instr.sureAddr, storeVar, sizeOf, typeInfo, hq, Value.cells, Sem.run_bind, Sem.run_pure, Result.andThen_ok, run_program, hs, hi, ne_eq, not_true_eq_false, if_false, this]

section
variable (ρ : Operand → Value) (dst : Option Tmp) (x y : Operand) (ty : TypeId) (pos : String) (after : Array Edge) (guard : Option (Nat × Bool))
-- left out here: None
-- left out here: None
-- left out here: None
end
section
variable {w : World} {g : Nat} {cs : Array Value}
-- left out here: None
-- left out here: None
-- left out here: None
-- left out here: None
-- left out here: None
-- left out here: None
-- left out here: None
-- left out here: None
-- left out here: None
end

end Go.Proofs.Ytpkfjdaedaplfaa
