/- Rows of thirty-two bytes or bools; flags as ninety-seven cells: the number, Corner, Turn, Side. -/
import Derived.Test.YteeideminlcblaaDes
import Derived.Test.YteeideminlcblaaBld
import Derived.Test.YteeideminlcblaaMake
namespace Go.Proofs.Yteeideminlcblaa
open Go.RowKit

@[irreducible] def qv (f : Nat → Nat) : Array Value := row 32 fun i => .int .u8 (f i)
theorem qv_size (f : Nat → Nat) : (qv f).size = 32 := by unfold qv; exact row_size _ _
theorem qv_get (f : Nat → Nat) {i : Nat} (h : i < 32) : (qv f)[i]? = some (.int .u8 (f i)) := by unfold qv; exact row_get _ _ h
theorem qv_cases (f : Nat → Nat) (i : Nat) : (qv f)[i]? = if i < 32 then some (.int .u8 (f i)) else none := by
  by_cases h : i < 32
  · rw [qv_get _ h, if_pos h]
  · rw [if_neg h, Array.getElem?_eq_none]; rw [qv_size]; omega
theorem qv_set (f : Nat → Nat) (i v : Nat) : (qv f).setIfInBounds i (.int .u8 v) = qv (fset f i v) := by
  unfold qv
  rw [row_set]
  apply row_congr
  intro j _
  unfold fset
  by_cases c : j = i
  · rw [if_pos c, if_pos c]
  · rw [if_neg c, if_neg c]
theorem qv_congr {f g : Nat → Nat} (h : ∀ i, i < 32 → f i = g i) : qv f = qv g := by
  unfold qv
  exact row_congr fun i hi => by rw [h i hi]
theorem qv_inj {f g : Nat → Nat} (h : qv f = qv g) {i : Nat} (hi : i < 32) : f i = g i := by
  have := qv_get f hi
  rw [h, qv_get g hi] at this
  simp at this; omega
theorem qv_cells (f : Nat → Nat) : (qv f).all (·.oneCell') = true := by unfold qv row; simp [Value.oneCell']
theorem qv_zero : qv (fun _ => 0) = #[.int .u8 0, .int .u8 0, .int .u8 0, .int .u8 0, .int .u8 0, .int .u8 0, .int .u8 0, .int .u8 0, .int .u8 0, .int .u8 0, .int .u8 0, .int .u8 0, .int .u8 0, .int .u8 0, .int .u8 0, .int .u8 0, .int .u8 0, .int .u8 0, .int .u8 0, .int .u8 0, .int .u8 0, .int .u8 0, .int .u8 0, .int .u8 0, .int .u8 0, .int .u8 0, .int .u8 0, .int .u8 0, .int .u8 0, .int .u8 0, .int .u8 0, .int .u8 0] := by unfold qv row; rfl
@[irreducible] def wv (f : Nat → Bool) : Array Value := row 32 fun i => .bool (f i)
theorem wv_size (f : Nat → Bool) : (wv f).size = 32 := by unfold wv; exact row_size _ _
theorem wv_get (f : Nat → Bool) {i : Nat} (h : i < 32) : (wv f)[i]? = some (.bool (f i)) := by unfold wv; exact row_get _ _ h
theorem wv_set (f : Nat → Bool) (i : Nat) : (wv f).setIfInBounds i (.bool true) = wv (mset f i) := by
  unfold wv
  rw [row_set]
  apply row_congr
  intro j _
  unfold mset
  by_cases c : j = i
  · simp [c]
  · simp [c]
theorem wv_cells (f : Nat → Bool) : (wv f).all (·.oneCell') = true := by unfold wv row; simp [Value.oneCell']
theorem wv_false : wv (fun _ => false) = #[.bool false, .bool false, .bool false, .bool false, .bool false, .bool false, .bool false, .bool false, .bool false, .bool false, .bool false, .bool false, .bool false, .bool false, .bool false, .bool false, .bool false, .bool false, .bool false, .bool false, .bool false, .bool false, .bool false, .bool false, .bool false, .bool false, .bool false, .bool false, .bool false, .bool false, .bool false, .bool false] := by unfold wv row; rfl
def Is32 (c : Array Value) : Prop := c.size = 32
@[go_sem] theorem is32_qv (f : Nat → Nat) : Is32 (qv f) ↔ True := ⟨fun _ => trivial, fun _ => qv_size f⟩
@[go_sem] theorem is32_wv (f : Nat → Bool) : Is32 (wv f) ↔ True := ⟨fun _ => trivial, fun _ => wv_size f⟩
@[go_sem] theorem is32_lit (x0 x1 x2 x3 x4 x5 x6 x7 x8 x9 x10 x11 x12 x13 x14 x15 x16 x17 x18 x19 x20 x21 x22 x23 x24 x25 x26 x27 x28 x29 x30 x31 : Value) : Is32 #[x0, x1, x2, x3, x4, x5, x6, x7, x8, x9, x10, x11, x12, x13, x14, x15, x16, x17, x18, x19, x20, x21, x22, x23, x24, x25, x26, x27, x28, x29, x30, x31] ↔ True := ⟨fun _ => trivial, fun _ => rfl⟩
@[go_sem] theorem ones_qv (f : Nat → Nat) : Ones (qv f) ↔ True := ⟨fun _ => trivial, fun _ => qv_cells f⟩
@[go_sem] theorem ones_wv (f : Nat → Bool) : Ones (wv f) ↔ True := ⟨fun _ => trivial, fun _ => wv_cells f⟩
@[go_sem] theorem ones_z32 : Ones #[Value.int .u8 0, Value.int .u8 0, Value.int .u8 0, Value.int .u8 0, Value.int .u8 0, Value.int .u8 0, Value.int .u8 0, Value.int .u8 0, Value.int .u8 0, Value.int .u8 0, Value.int .u8 0, Value.int .u8 0, Value.int .u8 0, Value.int .u8 0, Value.int .u8 0, Value.int .u8 0, Value.int .u8 0, Value.int .u8 0, Value.int .u8 0, Value.int .u8 0, Value.int .u8 0, Value.int .u8 0, Value.int .u8 0, Value.int .u8 0, Value.int .u8 0, Value.int .u8 0, Value.int .u8 0, Value.int .u8 0, Value.int .u8 0, Value.int .u8 0, Value.int .u8 0, Value.int .u8 0] ↔ True := ⟨fun _ => trivial, fun _ => by unfold Ones; simp [Value.oneCell']⟩
@[go_sem] theorem ones_f32 : Ones #[Value.bool false, Value.bool false, Value.bool false, Value.bool false, Value.bool false, Value.bool false, Value.bool false, Value.bool false, Value.bool false, Value.bool false, Value.bool false, Value.bool false, Value.bool false, Value.bool false, Value.bool false, Value.bool false, Value.bool false, Value.bool false, Value.bool false, Value.bool false, Value.bool false, Value.bool false, Value.bool false, Value.bool false, Value.bool false, Value.bool false, Value.bool false, Value.bool false, Value.bool false, Value.bool false, Value.bool false, Value.bool false] ↔ True := ⟨fun _ => trivial, fun _ => by unfold Ones; simp [Value.oneCell']⟩
@[go_sem] theorem rowOk_at32 {w : World} {g : Nat} {c : Array Value} {t : TypeId} (h : g = w.heap.size) (hc : Is32 c) : rowOk (w.alloc (.cells c t)) g 32 ↔ True := ⟨fun _ => trivial, fun _ => ⟨c, t, heap_at _ _ _ h, hc⟩⟩
@[go_sem] theorem rowOk_same32 {w : World} {g : Nat} {c' : Array Value} (h : rowOk w g 32) (hc : Is32 c') : rowOk (w.setRow g c') g 32 ↔ True := ⟨fun _ => trivial, fun _ => rowOk_setRow h hc⟩

@[irreducible] def fv (n : Int) (c t s : Nat → Nat) : Array Value := row 97 fun i => if i = 0 then .int .i64 n else if i < 33 then .int .u8 (c (i - 1)) else if i < 65 then .int .u8 (t (i - 33)) else .int .u8 (s (i - 65))
theorem fv_size (n : Int) (c t s : Nat → Nat) : (fv n c t s).size = 97 := by unfold fv; exact row_size _ _
theorem fv_n (n : Int) (c t s : Nat → Nat) : (fv n c t s)[0]? = some (.int .i64 n) := by unfold fv; rw [row_get _ _ (by omega)]; rfl
theorem fv_c (n : Int) (c t s : Nat → Nat) {i : Nat} (h : i < 32) : (fv n c t s)[1 + i]? = some (.int .u8 (c i)) := by
  unfold fv; rw [row_get _ _ (by omega), if_neg (by omega), if_pos (by omega), show 1 + i - 1 = i from by omega]
theorem fv_t (n : Int) (c t s : Nat → Nat) {i : Nat} (h : i < 32) : (fv n c t s)[33 + i]? = some (.int .u8 (t i)) := by
  unfold fv; rw [row_get _ _ (by omega), if_neg (by omega), if_neg (by omega), if_pos (by omega), show 33 + i - 33 = i from by omega]
theorem fv_s (n : Int) (c t s : Nat → Nat) {i : Nat} (h : i < 32) : (fv n c t s)[65 + i]? = some (.int .u8 (s i)) := by
  unfold fv; rw [row_get _ _ (by omega), if_neg (by omega), if_neg (by omega), if_neg (by omega), show 65 + i - 65 = i from by omega]
theorem fv_cases (n : Int) (c t s : Nat → Nat) (i : Nat) : (fv n c t s)[i]? = if i < 97 then some (if i = 0 then .int .i64 n else if i < 33 then .int .u8 (c (i - 1)) else if i < 65 then .int .u8 (t (i - 33)) else .int .u8 (s (i - 65))) else none := by
  unfold fv
  by_cases h : i < 97
  · rw [row_get _ _ h, if_pos h]
  · rw [row_none _ _ h, if_neg h]
theorem fv_cells (n : Int) (c t s : Nat → Nat) : (fv n c t s).all (·.oneCell') = true := by
  unfold fv row
  simp only [List.all_toArray, List.all_map, List.all_eq_true, Function.comp]
  intro i _
  split
  · rfl
  · split
    · rfl
    · split <;> rfl
theorem fv_congr {n : Int} {c t s c' t' s' : Nat → Nat} (h1 : ∀ i, i < 32 → c i = c' i) (h2 : ∀ i, i < 32 → t i = t' i) (h3 : ∀ i, i < 32 → s i = s' i) : fv n c t s = fv n c' t' s' := by
  unfold fv
  apply row_congr
  intro i hi
  by_cases a : i = 0
  · rw [if_pos a, if_pos a]
  · rw [if_neg a, if_neg a]
    by_cases b : i < 33
    · rw [if_pos b, if_pos b, h1 _ (by omega)]
    · rw [if_neg b, if_neg b]
      by_cases d : i < 65
      · rw [if_pos d, if_pos d, h2 _ (by omega)]
      · rw [if_neg d, if_neg d, h3 _ (by omega)]
theorem fv_setn (n m : Int) (c t s : Nat → Nat) : (fv n c t s).setIfInBounds 0 (.int .i64 m) = fv m c t s := by
  unfold fv
  rw [row_set]
  apply row_congr
  intro j _
  by_cases h : j = 0
  · rw [if_pos h, if_pos h]
  · rw [if_neg h, if_neg h, if_neg h]
theorem fv_setc (n : Int) (c t s : Nat → Nat) {i : Nat} (v : Nat) (h : i < 32) : (fv n c t s).setIfInBounds (1 + i) (.int .u8 v) = fv n (fset c i v) t s := by
  apply Array.ext_getElem?
  intro j
  rw [Array.getElem?_setIfInBounds, fv_cases, fv_cases, fv_size]
  unfold fset
  by_cases d : 1 + i = j
  · subst d
    rw [if_pos rfl, if_pos (by omega), if_pos (by omega), if_neg (by omega)]
    rw [if_pos (by omega), if_pos (by omega)]
  · rw [if_neg d]
    by_cases a : j < 97
    · rw [if_pos a, if_pos a]
      by_cases b : 1 ≤ j ∧ j < 33
      · rw [if_neg (by omega : ¬ j = 0), if_neg (by omega : ¬ j = 0)]
        rw [if_pos b.2, if_pos b.2, if_neg (by omega)]
      · congr 1
        by_cases z : j = 0
        · rw [if_pos z, if_pos z]
        · rw [if_neg z, if_neg z]
          by_cases y : j < 33
          · rw [if_pos y, if_pos y]
            all_goals omega
          · rw [if_neg y, if_neg y]
    · rw [if_neg a, if_neg a]
theorem fv_sett (n : Int) (c t s : Nat → Nat) {i : Nat} (v : Nat) (h : i < 32) : (fv n c t s).setIfInBounds (33 + i) (.int .u8 v) = fv n c (fset t i v) s := by
  apply Array.ext_getElem?
  intro j
  rw [Array.getElem?_setIfInBounds, fv_cases, fv_cases, fv_size]
  unfold fset
  by_cases d : 33 + i = j
  · subst d
    rw [if_pos rfl, if_pos (by omega), if_pos (by omega), if_neg (by omega)]
    rw [if_neg (by omega), if_pos (by omega), if_pos (by omega)]
  · rw [if_neg d]
    by_cases a : j < 97
    · rw [if_pos a, if_pos a]
      by_cases b : 33 ≤ j ∧ j < 65
      · rw [if_neg (by omega : ¬ j = 0), if_neg (by omega : ¬ j = 0)]
        rw [if_neg (by omega : ¬ j < 33), if_neg (by omega : ¬ j < 33), if_pos b.2, if_pos b.2, if_neg (by omega)]
      · congr 1
        by_cases z : j = 0
        · rw [if_pos z, if_pos z]
        · rw [if_neg z, if_neg z]
          by_cases y : j < 33
          · rw [if_pos y, if_pos y]
            
          · rw [if_neg y, if_neg y]; by_cases x : j < 65; rw [if_pos x, if_pos x]; all_goals first | omega | rw [if_neg x, if_neg x]; all_goals omega
    · rw [if_neg a, if_neg a]
theorem fv_sets (n : Int) (c t s : Nat → Nat) {i : Nat} (v : Nat) (h : i < 32) : (fv n c t s).setIfInBounds (65 + i) (.int .u8 v) = fv n c t (fset s i v) := by
  apply Array.ext_getElem?
  intro j
  rw [Array.getElem?_setIfInBounds, fv_cases, fv_cases, fv_size]
  unfold fset
  by_cases d : 65 + i = j
  · subst d
    rw [if_pos rfl, if_pos (by omega), if_pos (by omega), if_neg (by omega)]
    rw [if_neg (by omega), if_neg (by omega), if_pos (by omega)]
  · rw [if_neg d]
    by_cases a : j < 97
    · rw [if_pos a, if_pos a]
      by_cases b : 65 ≤ j ∧ j < 97
      · rw [if_neg (by omega : ¬ j = 0), if_neg (by omega : ¬ j = 0)]
        rw [if_neg (by omega : ¬ j < 33), if_neg (by omega : ¬ j < 33), if_neg (by omega : ¬ j < 65), if_neg (by omega : ¬ j < 65), if_neg (by omega)]
      · congr 1
        by_cases z : j = 0
        · rw [if_pos z, if_pos z]
        · rw [if_neg z, if_neg z]
          by_cases y : j < 33
          · rw [if_pos y, if_pos y]
            
          · rw [if_neg y, if_neg y]; by_cases x : j < 65; rw [if_pos x, if_pos x]; all_goals first | omega | rw [if_neg x, if_neg x]; all_goals omega
    · rw [if_neg a, if_neg a]
def Is97 (c : Array Value) : Prop := c.size = 97
@[go_sem] theorem is97_fv (n : Int) (c t s : Nat → Nat) : Is97 (fv n c t s) ↔ True := ⟨fun _ => trivial, fun _ => fv_size n c t s⟩
@[go_sem] theorem ones_fv (n : Int) (c t s : Nat → Nat) : Ones (fv n c t s) ↔ True := ⟨fun _ => trivial, fun _ => fv_cells n c t s⟩
@[go_sem] theorem rowOk_at97 {w : World} {g : Nat} {c : Array Value} {t : TypeId} (h : g = w.heap.size) (hc : Is97 c) : rowOk (w.alloc (.cells c t)) g 97 ↔ True := ⟨fun _ => trivial, fun _ => ⟨c, t, heap_at _ _ _ h, hc⟩⟩
@[go_sem] theorem rowOk_same97 {w : World} {g : Nat} {c' : Array Value} (h : rowOk w g 97) (hc : Is97 c') : rowOk (w.setRow g c') g 97 ↔ True := ⟨fun _ => trivial, fun _ => rowOk_setRow h hc⟩
@[go_sem] theorem cellsOf_same97 {w : World} {g : Nat} {c' : Array Value} (h : rowOk w g 97) : cellsOf (w.setRow g c') g = c' := cellsOf_setRow h
@[go_sem] theorem cellsOf_same32 {w : World} {g : Nat} {c' : Array Value} (h : rowOk w g 32) : cellsOf (w.setRow g c') g = c' := cellsOf_setRow h
def cornerOf (c : Array Value) : Array Value := c.extract 1 33
def turnOf (c : Array Value) : Array Value := c.extract 33 65
def sideOf (c : Array Value) : Array Value := c.extract 65 97
@[go_sem] theorem cornerOf_fv (n : Int) (c t s : Nat → Nat) : cornerOf (fv n c t s) = qv c := by
  apply Array.ext_getElem?
  intro i
  unfold cornerOf
  rw [Array.getElem?_extract, fv_cases, qv_cases, fv_size]
  by_cases h : i < 32
  · rw [if_pos (by omega), if_pos (by omega), if_neg (by omega), if_pos (by omega), if_pos h, show 1 + i - 1 = i from by omega]
  · rw [if_neg (by omega), if_neg h]
def setCornerOf (c b : Array Value) : Array Value := (c.toList.take 1 ++ b.toList ++ c.toList.drop 33).toArray
@[go_sem] theorem setCornerOf_fv (n : Int) (c t s b : Nat → Nat) : setCornerOf (fv n c t s) (qv b) = fv n b t s := by
  apply Array.ext_getElem?
  intro i
  have l1 : (fv n c t s).toList.length = 97 := by simpa using fv_size n c t s
  have l2 : (qv b).toList.length = 32 := by simpa using qv_size b
  have l3 : (List.take 1 (fv n c t s).toList).length = 1 := by rw [List.length_take, l1]; rfl
  unfold setCornerOf
  rw [List.getElem?_toArray, fv_cases, List.append_assoc]
  by_cases h0 : i < 1
  · rw [List.getElem?_append_left (by rw [l3]; exact h0), List.getElem?_take_of_lt h0, Array.getElem?_toList, fv_cases, if_pos (by omega : i < 97), if_pos (by omega : i < 97)]
    rw [if_pos (by omega), if_pos (by omega)]
  · rw [List.getElem?_append_right (by rw [l3]; omega), l3]
    by_cases h1 : i < 33
    · rw [List.getElem?_append_left (by rw [l2]; omega), Array.getElem?_toList, qv_cases, if_pos (by omega), if_pos (by omega), if_neg (by omega), if_pos (by omega)]
    · rw [List.getElem?_append_right (by rw [l2]; omega), l2, List.getElem?_drop, Array.getElem?_toList, show 33 + (i - 1 - 32) = i by omega, fv_cases]
      by_cases h2 : i < 97
      · rw [if_pos h2, if_pos h2]
        congr 1; rw [if_neg (by omega : ¬ i = 0), if_neg (by omega : ¬ i = 0), if_neg (by omega : ¬ i < 33), if_neg (by omega : ¬ i < 33)]
      · rw [if_neg h2, if_neg h2]
@[go_sem] theorem turnOf_fv (n : Int) (c t s : Nat → Nat) : turnOf (fv n c t s) = qv t := by
  apply Array.ext_getElem?
  intro i
  unfold turnOf
  rw [Array.getElem?_extract, fv_cases, qv_cases, fv_size]
  by_cases h : i < 32
  · rw [if_pos (by omega), if_pos (by omega), if_neg (by omega), if_neg (by omega), if_pos (by omega), if_pos h, show 33 + i - 33 = i from by omega]
  · rw [if_neg (by omega), if_neg h]
def setTurnOf (c b : Array Value) : Array Value := (c.toList.take 33 ++ b.toList ++ c.toList.drop 65).toArray
@[go_sem] theorem setTurnOf_fv (n : Int) (c t s b : Nat → Nat) : setTurnOf (fv n c t s) (qv b) = fv n c b s := by
  apply Array.ext_getElem?
  intro i
  have l1 : (fv n c t s).toList.length = 97 := by simpa using fv_size n c t s
  have l2 : (qv b).toList.length = 32 := by simpa using qv_size b
  have l3 : (List.take 33 (fv n c t s).toList).length = 33 := by rw [List.length_take, l1]; rfl
  unfold setTurnOf
  rw [List.getElem?_toArray, fv_cases, List.append_assoc]
  by_cases h0 : i < 33
  · rw [List.getElem?_append_left (by rw [l3]; exact h0), List.getElem?_take_of_lt h0, Array.getElem?_toList, fv_cases, if_pos (by omega : i < 97), if_pos (by omega : i < 97)]
    congr 1; by_cases z : i = 0; rw [if_pos z, if_pos z]; rw [if_neg z, if_neg z, if_pos (by omega : i < 33), if_pos (by omega : i < 33)]
  · rw [List.getElem?_append_right (by rw [l3]; omega), l3]
    by_cases h1 : i < 65
    · rw [List.getElem?_append_left (by rw [l2]; omega), Array.getElem?_toList, qv_cases, if_pos (by omega), if_pos (by omega), if_neg (by omega), if_neg (by omega), if_pos (by omega)]
    · rw [List.getElem?_append_right (by rw [l2]; omega), l2, List.getElem?_drop, Array.getElem?_toList, show 65 + (i - 33 - 32) = i by omega, fv_cases]
      by_cases h2 : i < 97
      · rw [if_pos h2, if_pos h2]
        congr 1; rw [if_neg (by omega : ¬ i = 0), if_neg (by omega : ¬ i = 0), if_neg (by omega : ¬ i < 33), if_neg (by omega : ¬ i < 33), if_neg (by omega : ¬ i < 65), if_neg (by omega : ¬ i < 65)]
      · rw [if_neg h2, if_neg h2]
@[go_sem] theorem sideOf_fv (n : Int) (c t s : Nat → Nat) : sideOf (fv n c t s) = qv s := by
  apply Array.ext_getElem?
  intro i
  unfold sideOf
  rw [Array.getElem?_extract, fv_cases, qv_cases, fv_size]
  by_cases h : i < 32
  · rw [if_pos (by omega), if_pos (by omega), if_neg (by omega), if_neg (by omega), if_neg (by omega), if_pos h, show 65 + i - 65 = i from by omega]
  · rw [if_neg (by omega), if_neg h]
def setSideOf (c b : Array Value) : Array Value := (c.toList.take 65 ++ b.toList ++ c.toList.drop 97).toArray
@[go_sem] theorem setSideOf_fv (n : Int) (c t s b : Nat → Nat) : setSideOf (fv n c t s) (qv b) = fv n c t b := by
  apply Array.ext_getElem?
  intro i
  have l1 : (fv n c t s).toList.length = 97 := by simpa using fv_size n c t s
  have l2 : (qv b).toList.length = 32 := by simpa using qv_size b
  have l3 : (List.take 65 (fv n c t s).toList).length = 65 := by rw [List.length_take, l1]; rfl
  unfold setSideOf
  rw [List.getElem?_toArray, fv_cases, List.append_assoc]
  by_cases h0 : i < 65
  · rw [List.getElem?_append_left (by rw [l3]; exact h0), List.getElem?_take_of_lt h0, Array.getElem?_toList, fv_cases, if_pos (by omega : i < 97), if_pos (by omega : i < 97)]
    congr 1; by_cases z : i = 0; rw [if_pos z, if_pos z]; rw [if_neg z, if_neg z]; by_cases y : i < 33; rw [if_pos y, if_pos y]; rw [if_neg y, if_neg y, if_pos h0, if_pos h0]
  · rw [List.getElem?_append_right (by rw [l3]; omega), l3]
    by_cases h1 : i < 97
    · rw [List.getElem?_append_left (by rw [l2]; omega), Array.getElem?_toList, qv_cases, if_pos (by omega), if_pos (by omega), if_neg (by omega), if_neg (by omega), if_neg (by omega)]
    · rw [List.getElem?_append_right (by rw [l2]; omega), l2, List.getElem?_drop, Array.getElem?_toList, show 97 + (i - 65 - 32) = i by omega, fv_cases]
      by_cases h2 : i < 97
      · rw [if_pos h2, if_pos h2]
        omega
      · rw [if_neg h2, if_neg h2]
theorem aggFl : AggT 53 97 := ⟨⟨_, Try.underlying53, rfl⟩, by kernel_rfl⟩
@[go_sem ↓] theorem exec_loadFl (ρ : Operand → Value) (dst : Option Tmp) (x : Operand) (ty : TypeId) (pos : String) (after : Array Edge) (guard : Option (Nat × Bool)) : execOp ρ { dst, op := .load 53 x, type := ty, pos, after, guard } = loadT 53 (ρ x) := rfl
@[go_sem ↓] theorem exec_storeFl (ρ : Operand → Value) (dst : Option Tmp) (x y : Operand) (ty : TypeId) (pos : String) (after : Array Edge) (guard : Option (Nat × Bool)) : execOp ρ { dst, op := .store 53 x y, type := ty, pos, after, guard } = storeT 53 (ρ x) (ρ y) := rfl
@[go_sem] theorem run_loadFl {w : World} {g : Nat} (h : Is97 (cellsOf w g)) : (loadT 53 (.pointer (some ⟨g, 0, none⟩))).run Try.prog w = .ok (.value (.agg (cellsOf w g))) w := run_loadT aggFl h (by decide)
@[go_sem] theorem run_storeFl {w : World} {g : Nat} {cs : Array Value} (h : rowOk w g 97) (hs : Is97 cs) (hc : Ones cs) : (storeT 53 (.pointer (some ⟨g, 0, none⟩)) (.agg cs)).run Try.prog w = .ok .skip (w.setRow g cs) := run_storeT aggFl h hs hc
theorem aggLF : AggT 50 97 := ⟨⟨_, Try.underlying50, rfl⟩, by kernel_rfl⟩
@[go_sem ↓] theorem exec_loadLF (ρ : Operand → Value) (dst : Option Tmp) (x : Operand) (ty : TypeId) (pos : String) (after : Array Edge) (guard : Option (Nat × Bool)) : execOp ρ { dst, op := .load 50 x, type := ty, pos, after, guard } = loadT 50 (ρ x) := rfl
@[go_sem ↓] theorem exec_storeLF (ρ : Operand → Value) (dst : Option Tmp) (x y : Operand) (ty : TypeId) (pos : String) (after : Array Edge) (guard : Option (Nat × Bool)) : execOp ρ { dst, op := .store 50 x y, type := ty, pos, after, guard } = storeT 50 (ρ x) (ρ y) := rfl
@[go_sem] theorem run_loadLF {w : World} {g : Nat} (h : Is97 (cellsOf w g)) : (loadT 50 (.pointer (some ⟨g, 0, none⟩))).run Try.prog w = .ok (.value (.agg (cellsOf w g))) w := run_loadT aggLF h (by decide)
@[go_sem] theorem run_storeLF {w : World} {g : Nat} {cs : Array Value} (h : rowOk w g 97) (hs : Is97 cs) (hc : Ones cs) : (storeT 50 (.pointer (some ⟨g, 0, none⟩)) (.agg cs)).run Try.prog w = .ok .skip (w.setRow g cs) := run_storeT aggLF h hs hc
theorem aggQb : AggT 48 32 := ⟨⟨_, Try.underlying48, rfl⟩, by kernel_rfl⟩
@[go_sem ↓] theorem exec_loadQb (ρ : Operand → Value) (dst : Option Tmp) (x : Operand) (ty : TypeId) (pos : String) (after : Array Edge) (guard : Option (Nat × Bool)) : execOp ρ { dst, op := .load 48 x, type := ty, pos, after, guard } = loadT 48 (ρ x) := rfl
@[go_sem ↓] theorem exec_storeQb (ρ : Operand → Value) (dst : Option Tmp) (x y : Operand) (ty : TypeId) (pos : String) (after : Array Edge) (guard : Option (Nat × Bool)) : execOp ρ { dst, op := .store 48 x y, type := ty, pos, after, guard } = storeT 48 (ρ x) (ρ y) := rfl
@[go_sem] theorem run_loadQb {w : World} {g : Nat} (h : Is32 (cellsOf w g)) : (loadT 48 (.pointer (some ⟨g, 0, none⟩))).run Try.prog w = .ok (.value (.agg (cellsOf w g))) w := run_loadT aggQb h (by decide)
@[go_sem] theorem run_storeQb {w : World} {g : Nat} {cs : Array Value} (h : rowOk w g 32) (hs : Is32 cs) (hc : Ones cs) : (storeT 48 (.pointer (some ⟨g, 0, none⟩)) (.agg cs)).run Try.prog w = .ok .skip (w.setRow g cs) := run_storeT aggQb h hs hc
theorem aggSw : AggT 125 32 := ⟨⟨_, Try.underlying125, rfl⟩, by kernel_rfl⟩
@[go_sem ↓] theorem exec_loadSw (ρ : Operand → Value) (dst : Option Tmp) (x : Operand) (ty : TypeId) (pos : String) (after : Array Edge) (guard : Option (Nat × Bool)) : execOp ρ { dst, op := .load 125 x, type := ty, pos, after, guard } = loadT 125 (ρ x) := rfl
@[go_sem ↓] theorem exec_storeSw (ρ : Operand → Value) (dst : Option Tmp) (x y : Operand) (ty : TypeId) (pos : String) (after : Array Edge) (guard : Option (Nat × Bool)) : execOp ρ { dst, op := .store 125 x y, type := ty, pos, after, guard } = storeT 125 (ρ x) (ρ y) := rfl
@[go_sem] theorem run_loadSw {w : World} {g : Nat} (h : Is32 (cellsOf w g)) : (loadT 125 (.pointer (some ⟨g, 0, none⟩))).run Try.prog w = .ok (.value (.agg (cellsOf w g))) w := run_loadT aggSw h (by decide)
@[go_sem] theorem run_storeSw {w : World} {g : Nat} {cs : Array Value} (h : rowOk w g 32) (hs : Is32 cs) (hc : Ones cs) : (storeT 125 (.pointer (some ⟨g, 0, none⟩)) (.agg cs)).run Try.prog w = .ok .skip (w.setRow g cs) := run_storeT aggSw h hs hc
theorem aggWb : AggT 135 32 := ⟨⟨_, Try.underlying135, rfl⟩, by kernel_rfl⟩
@[go_sem ↓] theorem exec_loadWb (ρ : Operand → Value) (dst : Option Tmp) (x : Operand) (ty : TypeId) (pos : String) (after : Array Edge) (guard : Option (Nat × Bool)) : execOp ρ { dst, op := .load 135 x, type := ty, pos, after, guard } = loadT 135 (ρ x) := rfl
@[go_sem ↓] theorem exec_storeWb (ρ : Operand → Value) (dst : Option Tmp) (x y : Operand) (ty : TypeId) (pos : String) (after : Array Edge) (guard : Option (Nat × Bool)) : execOp ρ { dst, op := .store 135 x y, type := ty, pos, after, guard } = storeT 135 (ρ x) (ρ y) := rfl
@[go_sem] theorem run_loadWb {w : World} {g : Nat} (h : Is32 (cellsOf w g)) : (loadT 135 (.pointer (some ⟨g, 0, none⟩))).run Try.prog w = .ok (.value (.agg (cellsOf w g))) w := run_loadT aggWb h (by decide)
@[go_sem] theorem run_storeWb {w : World} {g : Nat} {cs : Array Value} (h : rowOk w g 32) (hs : Is32 cs) (hc : Ones cs) : (storeT 135 (.pointer (some ⟨g, 0, none⟩)) (.agg cs)).run Try.prog w = .ok .skip (w.setRow g cs) := run_storeT aggWb h hs hc
@[go_sem] theorem run_loadQ1 {w : World} {g : Nat} (h : Is32 (cornerOf (cellsOf w g))) : (loadT 48 (.pointer (some ⟨g, 1, none⟩))).run Try.prog w = .ok (.value (.agg (cornerOf (cellsOf w g)))) w := run_load_mid aggQb rfl h
@[go_sem] theorem run_storeQ1 {w : World} {g : Nat} {cs : Array Value} (h : rowOk w g 97) (hs : Is32 cs) (hc : Ones cs) : (storeT 48 (.pointer (some ⟨g, 1, none⟩)) (.agg cs)).run Try.prog w = .ok .skip (w.setRow g (setCornerOf (cellsOf w g) cs)) := run_store_mid aggQb h (by decide) hs hc
@[go_sem] theorem run_loadQ33 {w : World} {g : Nat} (h : Is32 (turnOf (cellsOf w g))) : (loadT 48 (.pointer (some ⟨g, 33, none⟩))).run Try.prog w = .ok (.value (.agg (turnOf (cellsOf w g)))) w := run_load_mid aggQb rfl h
@[go_sem] theorem run_storeQ33 {w : World} {g : Nat} {cs : Array Value} (h : rowOk w g 97) (hs : Is32 cs) (hc : Ones cs) : (storeT 48 (.pointer (some ⟨g, 33, none⟩)) (.agg cs)).run Try.prog w = .ok .skip (w.setRow g (setTurnOf (cellsOf w g) cs)) := run_store_mid aggQb h (by decide) hs hc
@[go_sem] theorem run_loadQ65 {w : World} {g : Nat} (h : Is32 (sideOf (cellsOf w g))) : (loadT 48 (.pointer (some ⟨g, 65, none⟩))).run Try.prog w = .ok (.value (.agg (sideOf (cellsOf w g)))) w := run_load_mid aggQb rfl h
@[go_sem] theorem run_storeQ65 {w : World} {g : Nat} {cs : Array Value} (h : rowOk w g 97) (hs : Is32 cs) (hc : Ones cs) : (storeT 48 (.pointer (some ⟨g, 65, none⟩)) (.agg cs)).run Try.prog w = .ok .skip (w.setRow g (setSideOf (cellsOf w g) cs)) := run_store_mid aggQb h (by decide) hs hc
set_option maxRecDepth 100000 in
theorem info_zeroFl : (Try.prog.info? 53).map (·.zero) = some (some (.agg (fv 0 (fun _ => 0) (fun _ => 0) (fun _ => 0)))) := by unfold fv row; kernel_rfl
@[go_sem] theorem run_zeroFl (w : World) : (zeroValue 53).run Try.prog w = .ok (.agg (fv 0 (fun _ => 0) (fun _ => 0) (fun _ => 0))) w := by
  have hz := info_zeroFl
  rcases hi : Try.prog.info? 53 with _ | it
  · rw [hi] at hz; cases hz
  · rw [hi] at hz
    have hz' : it.zero = some (.agg (fv 0 (fun _ => 0) (fun _ => 0) (fun _ => 0))) := by simpa using hz
    simp [zeroValue, typeInfo, hi, hz']
set_option maxRecDepth 100000 in
@[go_sem] theorem zcFl : Try.zeroCells53 = (fv 0 (fun _ => 0) (fun _ => 0) (fun _ => 0)) := by unfold fv row; rfl
theorem fv_list (n : Int) (c t s : Nat → Nat) : (fv n c t s).toList = .int .i64 n :: ((qv c).toList ++ ((qv t).toList ++ (qv s).toList)) := by
  have l1 : (qv c).toList.length = 32 := by simpa using qv_size c
  have l2 : (qv t).toList.length = 32 := by simpa using qv_size t
  apply List.ext_getElem?
  intro i
  rw [Array.getElem?_toList, fv_cases]
  rcases i with _ | i
  · rfl
  · rw [List.getElem?_cons_succ]
    by_cases h1 : i < 32
    · rw [List.getElem?_append_left (by omega), Array.getElem?_toList, qv_get _ h1, if_pos (by omega), if_neg (by omega), if_pos (by omega), Nat.add_sub_cancel]
    · rw [List.getElem?_append_right (by omega), l1]
      by_cases h2 : i < 64
      · rw [List.getElem?_append_left (by omega), Array.getElem?_toList, qv_get _ (by omega), if_pos (by omega), if_neg (by omega), if_neg (by omega), if_pos (by omega), show i + 1 - 33 = i - 32 by omega]
      · rw [List.getElem?_append_right (by omega), l2, Array.getElem?_toList, qv_cases]
        by_cases h3 : i < 96
        · rw [if_pos (by omega), if_neg (by omega), if_neg (by omega), if_neg (by omega), if_pos (by omega), show i + 1 - 65 = i - 32 - 32 by omega]
        · rw [if_neg (by omega), if_neg (by omega)]
set_option maxRecDepth 100000 in
theorem builtFl (n : Int) (c t s : Nat → Nat) : Try.prog.built 53 [(0, .int .i64 n), (1, .agg (qv c)), (2, .agg (qv t)), (3, .agg (qv s))] = some (fv n c t s) := by
  have h := built_str (P := Try.prog) (T := 53) (N := 97) (pl := [(0, 1), (1, 32), (33, 32), (65, 32)]) Try.underlying53 (by kernel_rfl) (by kernel_rfl) [(0, .int .i64 n), (1, .agg (qv c)), (2, .agg (qv t)), (3, .agg (qv s))] (by simp [Fits, Value.cells, qv_size]) (by simp [flatC, Value.cells, qv_size])
  rw [h]
  congr 1
  unfold flatC
  simp only [List.flatMap_cons, List.flatMap_nil, Value.cells, List.append_nil]
  apply Array.toList_inj.1
  rw [fv_list]
  rfl
theorem builtFl0 : Try.prog.built 53 [] = some (fv 0 (fun _ => 0) (fun _ => 0) (fun _ => 0)) := by unfold fv row; kernel_rfl
set_option maxRecDepth 100000 in
theorem builtFl1 (n : Int) : Try.prog.built 53 [(0, .int .i64 n)] = some (fv n (fun _ => 0) (fun _ => 0) (fun _ => 0)) := by
  have hz := info_zeroFl
  unfold Program.built
  rcases hi : Try.prog.info? 53 with _ | it
  · rw [hi] at hz; cases hz
  · rw [hi] at hz
    have hz' : it.zero = some (.agg (fv 0 (fun _ => 0) (fun _ => 0) (fun _ => 0))) := by simpa using hz
    rw [show Try.prog.underlying 53 = some (.struct _) from Try.underlying53]
    simp only [hz']
    generalize he : List.mapM (fun (f : Field) => Option.map (fun i => (f.offset, i.size)) (Try.prog.info? f.type)) _ = z
    have hz2 : z = some [(0, 1), (1, 32), (33, 32), (65, 32)] := he.symm.trans (by kernel_rfl)
    subst hz2
    simp only [Instr.fill, Value.cells, List.getElem?_toArray, List.getElem?_cons_zero, fv_size]
    rw [if_neg (by simp)]
    congr 1
    have := fv_setn 0 n (fun _ => 0) (fun _ => 0) (fun _ => 0)
    rw [← this]
    rfl
def buildFl (ps : Array (Nat × Value)) : Sem Next := do pure (.value (← Instr.build 53 ps))
@[go_sem ↓] theorem exec_buildFl (ρ : Operand → Value) (dst : Option Tmp) (parts : Array (Nat × Operand)) (ty : TypeId) (pos : String) (after : Array Edge) (guard : Option (Nat × Bool)) :
    execOp ρ { dst, op := .build 53 parts, type := ty, pos, after, guard } = buildFl (parts.map fun (i, x) => (i, ρ x)) := rfl
@[go_sem] theorem run_buildFl (n : Int) (c t s : Nat → Nat) (w : World) : (buildFl #[(0, .int .i64 n), (1, .agg (qv c)), (2, .agg (qv t)), (3, .agg (qv s))]).run Try.prog w = .ok (.value (.agg (fv n c t s))) w := by
  simp only [buildFl, Sem.run_bind, run_build (P := Try.prog) w 53 #[(0, .int .i64 n), (1, .agg (qv c)), (2, .agg (qv t)), (3, .agg (qv s))] _ (builtFl n c t s), Result.andThen_ok, Sem.run_pure]
@[go_sem] theorem run_buildFl0 (w : World) : (buildFl #[]).run Try.prog w = .ok (.value (.agg (fv 0 (fun _ => 0) (fun _ => 0) (fun _ => 0)))) w := by
  simp only [buildFl, Sem.run_bind, run_build (P := Try.prog) w 53 #[] _ builtFl0, Result.andThen_ok, Sem.run_pure]
@[go_sem] theorem run_buildFl1 (n : Int) (w : World) : (buildFl #[(0, .int .i64 n)]).run Try.prog w = .ok (.value (.agg (fv n (fun _ => 0) (fun _ => 0) (fun _ => 0)))) w := by
  simp only [buildFl, Sem.run_bind, run_build (P := Try.prog) w 53 #[(0, .int .i64 n)] _ (builtFl1 n), Result.andThen_ok, Sem.run_pure]
end Go.Proofs.Yteeideminlcblaa

