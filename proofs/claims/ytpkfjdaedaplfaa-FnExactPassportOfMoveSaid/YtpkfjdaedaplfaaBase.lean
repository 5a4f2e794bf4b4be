/- Rows of sixteen bytes or bools as whole arrays; small laws on blocks of the heap. -/
import Derived.Test.YtpkfjdaedaplfaaChecked
import Derived.WalkKit
import Derived.WalkSpells
import Derived.WalkLawsBesides
import Derived.Deep.LoopGhost
import Derived.Deep.OwnRows
import Derived.Laws.Rows
import Derived.Laws.Tables
import Derived.Laws.CopyOwn
namespace Go.Proofs.Ytpkfjdaedaplfaa
open Go.RowKit

theorem heap_past (w : World) (o : Obj) (g : Nat) (h : g < w.heap.size) : (w.alloc o).heap[g]? = w.heap[g]? := Below.heap_alloc w o g h
theorem heap_at (w : World) (o : Obj) (g : Nat) (h : g = w.heap.size) : (w.alloc o).heap[g]? = some o := by subst h; exact heap_alloc_new w o

/-- a row of n values -/
@[irreducible] def row (n : Nat) (f : Nat → Value) : Array Value := ((List.range n).map f).toArray
theorem row_size (n : Nat) (f : Nat → Value) : (row n f).size = n := by unfold row; simp
theorem row_get (n : Nat) (f : Nat → Value) {i : Nat} (h : i < n) : (row n f)[i]? = some (f i) := by unfold row; simp [h]
theorem row_none (n : Nat) (f : Nat → Value) {i : Nat} (h : ¬ i < n) : (row n f)[i]? = none := by rw [Array.getElem?_eq_none]; rw [row_size]; omega
theorem row_set (n : Nat) (f : Nat → Value) (i : Nat) (v : Value) : (row n f).setIfInBounds i v = row n (fun j => if j = i then v else f j) := by
  apply Array.ext_getElem?
  intro j
  rw [Array.getElem?_setIfInBounds, row_size]
  by_cases hj : j < n
  · rw [row_get _ _ hj, row_get _ _ hj]
    by_cases c : i = j
    · subst c; simp [hj]
    · rw [if_neg c, if_neg (Ne.symm c)]
  · rw [row_none _ _ hj, row_none _ _ hj]
    by_cases c : i = j
    · subst c; simp [hj]
    · rw [if_neg c]
theorem row_congr {n : Nat} {f g : Nat → Value} (h : ∀ i, i < n → f i = g i) : row n f = row n g := by
  unfold row
  congr 1
  apply List.map_congr_left
  intro i hi
  rw [h i (List.mem_range.1 hi)]
theorem row_inj {n : Nat} {f g : Nat → Value} (h : row n f = row n g) {i : Nat} (hi : i < n) : f i = g i := by
  have := row_get n f hi
  rw [h, row_get n g hi] at this
  exact (Option.some.inj this).symm

/-- sixteen bytes -/
@[irreducible] def av (f : Nat → Nat) : Array Value := row 16 fun i => .int .u8 (f i)
theorem av_size (f : Nat → Nat) : (av f).size = 16 := by unfold av; exact row_size _ _
theorem av_get (f : Nat → Nat) {i : Nat} (h : i < 16) : (av f)[i]? = some (.int .u8 (f i)) := by unfold av; exact row_get _ _ h
/-- one entry is turned -/
def fset (f : Nat → Nat) (i : Nat) (v : Nat) : Nat → Nat := fun j => if j = i then v else f j
theorem av_set (f : Nat → Nat) (i v : Nat) : (av f).setIfInBounds i (.int .u8 v) = av (fset f i v) := by
  unfold av
  rw [row_set]
  apply row_congr
  intro j _
  unfold fset
  by_cases c : j = i
  · rw [if_pos c, if_pos c]
  · rw [if_neg c, if_neg c]
theorem av_congr {f g : Nat → Nat} (h : ∀ i, i < 16 → f i = g i) : av f = av g := by
  unfold av
  exact row_congr fun i hi => by rw [h i hi]
theorem av_cells (f : Nat → Nat) : (av f).all (·.oneCell') = true := by unfold av row; simp [Value.oneCell']
theorem av_zero : av (fun _ => 0) = #[.int .u8 0, .int .u8 0, .int .u8 0, .int .u8 0, .int .u8 0, .int .u8 0, .int .u8 0, .int .u8 0, .int .u8 0, .int .u8 0, .int .u8 0, .int .u8 0, .int .u8 0, .int .u8 0, .int .u8 0, .int .u8 0] := by
  unfold av row; rfl

/-- sixteen bools -/
@[irreducible] def bv (f : Nat → Bool) : Array Value := row 16 fun i => .bool (f i)
theorem bv_size (f : Nat → Bool) : (bv f).size = 16 := by unfold bv; exact row_size _ _
theorem bv_get (f : Nat → Bool) {i : Nat} (h : i < 16) : (bv f)[i]? = some (.bool (f i)) := by unfold bv; exact row_get _ _ h
def mset (f : Nat → Bool) (i : Nat) : Nat → Bool := fun j => j == i || f j
theorem bv_set (f : Nat → Bool) (i : Nat) : (bv f).setIfInBounds i (.bool true) = bv (mset f i) := by
  unfold bv
  rw [row_set]
  apply row_congr
  intro j _
  unfold mset
  by_cases c : j = i
  · simp [c]
  · simp [c]
theorem bv_congr {f g : Nat → Bool} (h : ∀ i, i < 16 → f i = g i) : bv f = bv g := by
  unfold bv
  exact row_congr fun i hi => by rw [h i hi]
theorem bv_false : bv (fun _ => false) = #[.bool false, .bool false, .bool false, .bool false, .bool false, .bool false, .bool false, .bool false, .bool false, .bool false, .bool false, .bool false, .bool false, .bool false, .bool false, .bool false] := by
  unfold bv row; rfl

/-- the first k entries, the others 0 -/
def upto (f : Nat → Nat) (k : Nat) : Nat → Nat := fun i => if i < k then f i else 0
theorem upto_step (f : Nat → Nat) (k : Nat) : fset (upto f k) k (f k) = upto f (k + 1) := by
  funext i
  unfold fset upto
  by_cases c : i = k
  · subst c; simp
  · rw [if_neg c]
    by_cases d : i < k
    · rw [if_pos d, if_pos (by omega)]
    · rw [if_neg d, if_neg (by omega)]
theorem upto_zero (f : Nat → Nat) : upto f 0 = fun _ => 0 := by funext i; simp [upto]

-- left out here: None
-- left out here: None
-- left out here: None
-- left out here: None
-- left out here: None
-- left out here: None
/-- a type whose values are so many cells -/
structure AggT (T : TypeId) (n : Nat) : Prop where
  und : ∃ d, Try.prog.underlying T = some d ∧ (match d with | .struct _ | .array _ _ => true | _ => false) = true
  siz : (Try.prog.info? T).map (·.size) = some n
-- left out here: None
-- left out here: None
-- left out here: None
/-- a whole value into a block -/
theorem setRow_at (w : World) (c c' : Array Value) (t : TypeId) (g : Nat) (hg : g = w.heap.size) : (w.alloc (.cells c t)).setRow g c' = w.alloc (.cells c' t) := by
  subst hg
  simp only [World.setRow, World.alloc]
  congr 1
  apply Array.ext_getElem?
  intro i
  rw [Array.getElem?_modify]
  by_cases h : w.heap.size = i
  · subst h
    simp
  · have h' : ¬ i = w.heap.size := fun e => h e.symm
    simp [h, h', Array.getElem?_push]
theorem setRow_past (w : World) (o : Obj) (c' : Array Value) (g : Nat) (hg : g < w.heap.size) : (w.alloc o).setRow g c' = (w.setRow g c').alloc o := by
  simp only [World.setRow, World.alloc]
  congr 1
  apply Array.ext_getElem?
  intro i
  rw [Array.getElem?_modify, Array.getElem?_push, Array.getElem?_push, Array.getElem?_modify, Array.size_modify]
  by_cases h : g = i
  · subst h
    have : ¬ g = w.heap.size := by omega
    simp [this]
  · by_cases h' : i = w.heap.size
    · subst h'
      have : ¬ g = w.heap.size := by omega
      simp [this]
    · simp [h, h']

section
variable {ops : Array Oper} {rest : List Oper} {o : Oper} {a : Act} {w : World} {Q : Exit → Act → World → Prop} {T U : TypeId} {n : Nat} {cs old : Array Value} {o1 o2 o3 o4 : Obj} {fr : Nat × Nat}
/-- a whole value out of the block that was made last, last but one, .. -/
theorem ld_at (hT : AggT T n) (hs : cs.size = n) (hgd : o.guard = none) (x : Operand) (ho : o.op = .load T x) (g : Nat) (hx : a.eval x = .pointer (some ⟨g, 0, none⟩)) (hg : w.heap[g]? = some (.cells cs U fr))
    (h : wpList Try.prog ops Q rest (a.put o.dst (.agg cs)) w) : wpList Try.prog ops Q (o :: rest) a w := by
  obtain ⟨d, hd, hd'⟩ := hT.und
  exact wpList_load_row hgd T x ho g hx U cs fr d hg hd (by cases d <;> first | rfl | simp at hd') (by rw [hs]; exact hT.siz) h
theorem ld0 (hT : AggT T n) (hs : cs.size = n) (hgd : o.guard = none) (x : Operand) (ho : o.op = .load T x) (g : Nat) (hx : a.eval x = .pointer (some ⟨g, 0, none⟩)) (hg : g = w.heap.size)
    (h : wpList Try.prog ops Q rest (a.put o.dst (.agg cs)) (w.alloc (.cells cs U fr))) : wpList Try.prog ops Q (o :: rest) a (w.alloc (.cells cs U fr)) :=
  ld_at hT hs hgd x ho g hx (heap_at _ _ _ hg) h
theorem ld1 (hT : AggT T n) (hs : cs.size = n) (hgd : o.guard = none) (x : Operand) (ho : o.op = .load T x) (g : Nat) (hx : a.eval x = .pointer (some ⟨g, 0, none⟩)) (hg : g = w.heap.size)
    (h : wpList Try.prog ops Q rest (a.put o.dst (.agg cs)) ((w.alloc (.cells cs U fr)).alloc o1)) : wpList Try.prog ops Q (o :: rest) a ((w.alloc (.cells cs U fr)).alloc o1) :=
  ld_at hT hs hgd x ho g hx ((heap_past _ _ _ (by simp; omega)).trans (heap_at _ _ _ hg)) h
theorem ld2 (hT : AggT T n) (hs : cs.size = n) (hgd : o.guard = none) (x : Operand) (ho : o.op = .load T x) (g : Nat) (hx : a.eval x = .pointer (some ⟨g, 0, none⟩)) (hg : g = w.heap.size)
    (h : wpList Try.prog ops Q rest (a.put o.dst (.agg cs)) (((w.alloc (.cells cs U fr)).alloc o1).alloc o2)) : wpList Try.prog ops Q (o :: rest) a (((w.alloc (.cells cs U fr)).alloc o1).alloc o2) :=
  ld_at hT hs hgd x ho g hx ((heap_past _ _ _ (by simp; omega)).trans ((heap_past _ _ _ (by simp; omega)).trans (heap_at _ _ _ hg))) h
theorem ld3 (hT : AggT T n) (hs : cs.size = n) (hgd : o.guard = none) (x : Operand) (ho : o.op = .load T x) (g : Nat) (hx : a.eval x = .pointer (some ⟨g, 0, none⟩)) (hg : g = w.heap.size)
    (h : wpList Try.prog ops Q rest (a.put o.dst (.agg cs)) ((((w.alloc (.cells cs U fr)).alloc o1).alloc o2).alloc o3)) : wpList Try.prog ops Q (o :: rest) a ((((w.alloc (.cells cs U fr)).alloc o1).alloc o2).alloc o3) :=
  ld_at hT hs hgd x ho g hx ((heap_past _ _ _ (by simp; omega)).trans ((heap_past _ _ _ (by simp; omega)).trans ((heap_past _ _ _ (by simp; omega)).trans (heap_at _ _ _ hg)))) h
theorem ld4 (hT : AggT T n) (hs : cs.size = n) (hgd : o.guard = none) (x : Operand) (ho : o.op = .load T x) (g : Nat) (hx : a.eval x = .pointer (some ⟨g, 0, none⟩)) (hg : g = w.heap.size)
    (h : wpList Try.prog ops Q rest (a.put o.dst (.agg cs)) (((((w.alloc (.cells cs U fr)).alloc o1).alloc o2).alloc o3).alloc o4)) : wpList Try.prog ops Q (o :: rest) a (((((w.alloc (.cells cs U fr)).alloc o1).alloc o2).alloc o3).alloc o4) :=
  ld_at hT hs hgd x ho g hx ((heap_past _ _ _ (by simp; omega)).trans ((heap_past _ _ _ (by simp; omega)).trans ((heap_past _ _ _ (by simp; omega)).trans ((heap_past _ _ _ (by simp; omega)).trans (heap_at _ _ _ hg))))) h

theorem st_at (hT : AggT T n) (hs : cs.size = n) (hos : old.size = n) (hc : cs.all (·.oneCell') = true) (hgd : o.guard = none) (x y : Operand) (ho : o.op = .store T x y) (g : Nat) (hx : a.eval x = .pointer (some ⟨g, 0, none⟩)) (hy : a.eval y = .agg cs)
    (hg : w.heap[g]? = some (.cells old U (0, 0)))
    (h : wpList Try.prog ops Q rest (a.put o.dst undef) (w.setRow g cs)) : wpList Try.prog ops Q (o :: rest) a w :=
  wpList_store_row hgd T x y ho g cs hx hy U old hg (by rw [hs]; exact hT.siz) (by rw [hs, hos]) hc h
theorem st0 (hT : AggT T n) (hs : cs.size = n) (hos : old.size = n) (hc : cs.all (·.oneCell') = true) (hgd : o.guard = none) (x y : Operand) (ho : o.op = .store T x y) (g : Nat) (hx : a.eval x = .pointer (some ⟨g, 0, none⟩)) (hy : a.eval y = .agg cs)
    (hg : g = w.heap.size) (h : wpList Try.prog ops Q rest (a.put o.dst undef) (w.alloc (.cells cs U))) : wpList Try.prog ops Q (o :: rest) a (w.alloc (.cells old U)) :=
  st_at hT hs hos hc hgd x y ho g hx hy (heap_at _ _ _ hg) (by rw [setRow_at _ _ _ _ _ hg]; exact h)
theorem st1 (hT : AggT T n) (hs : cs.size = n) (hos : old.size = n) (hc : cs.all (·.oneCell') = true) (hgd : o.guard = none) (x y : Operand) (ho : o.op = .store T x y) (g : Nat) (hx : a.eval x = .pointer (some ⟨g, 0, none⟩)) (hy : a.eval y = .agg cs)
    (hg : g = w.heap.size) (h : wpList Try.prog ops Q rest (a.put o.dst undef) ((w.alloc (.cells cs U)).alloc o1)) : wpList Try.prog ops Q (o :: rest) a ((w.alloc (.cells old U)).alloc o1) :=
  st_at hT hs hos hc hgd x y ho g hx hy ((heap_past _ _ _ (by simp; omega)).trans (heap_at _ _ _ hg)) (by rw [setRow_past _ _ _ _ (by simp; omega), setRow_at _ _ _ _ _ hg]; exact h)
theorem st2 (hT : AggT T n) (hs : cs.size = n) (hos : old.size = n) (hc : cs.all (·.oneCell') = true) (hgd : o.guard = none) (x y : Operand) (ho : o.op = .store T x y) (g : Nat) (hx : a.eval x = .pointer (some ⟨g, 0, none⟩)) (hy : a.eval y = .agg cs)
    (hg : g = w.heap.size) (h : wpList Try.prog ops Q rest (a.put o.dst undef) (((w.alloc (.cells cs U)).alloc o1).alloc o2)) : wpList Try.prog ops Q (o :: rest) a (((w.alloc (.cells old U)).alloc o1).alloc o2) :=
  st_at hT hs hos hc hgd x y ho g hx hy ((heap_past _ _ _ (by simp; omega)).trans ((heap_past _ _ _ (by simp; omega)).trans (heap_at _ _ _ hg)))
    (by rw [setRow_past _ _ _ _ (by simp; omega), setRow_past _ _ _ _ (by simp; omega), setRow_at _ _ _ _ _ hg]; exact h)
theorem st3 (hT : AggT T n) (hs : cs.size = n) (hos : old.size = n) (hc : cs.all (·.oneCell') = true) (hgd : o.guard = none) (x y : Operand) (ho : o.op = .store T x y) (g : Nat) (hx : a.eval x = .pointer (some ⟨g, 0, none⟩)) (hy : a.eval y = .agg cs)
    (hg : g = w.heap.size) (h : wpList Try.prog ops Q rest (a.put o.dst undef) ((((w.alloc (.cells cs U)).alloc o1).alloc o2).alloc o3)) : wpList Try.prog ops Q (o :: rest) a ((((w.alloc (.cells old U)).alloc o1).alloc o2).alloc o3) :=
  st_at hT hs hos hc hgd x y ho g hx hy ((heap_past _ _ _ (by simp; omega)).trans ((heap_past _ _ _ (by simp; omega)).trans ((heap_past _ _ _ (by simp; omega)).trans (heap_at _ _ _ hg))))
    (by rw [setRow_past _ _ _ _ (by simp; omega), setRow_past _ _ _ _ (by simp; omega), setRow_past _ _ _ _ (by simp; omega), setRow_at _ _ _ _ _ hg]; exact h)
end

/-- a function that hands back such a value out of its cell -/
theorem res_agg {fn : Func} {p : Tmp} {T U : TypeId} {n : Nat} {cs : Array Value} {R : Ending → World → Prop} {a : Act} {w : World} {g : Nat} (hT : AggT T n) (hs : cs.size = n) (h : fn.results = #[.cell p T])
    (hp : a.tmps.getD p undef = .pointer (some ⟨g, 0, none⟩)) (hd : a.defers = []) (hg : w.heap[g]? = some (.cells cs U (0, 0))) (hR : R (.returned (.agg cs)) w) : bodyPost Try.prog fn R .ret a w := by
  obtain ⟨d, h1, h2⟩ := hT.und
  exact bodyPost_ret (results_cell_row h _ _ g U cs (0, 0) d hp hg h1 (by cases d <;> first | rfl | simp at h2) (by rw [hs]; exact hT.siz)) hd hR
theorem heap0 {w : World} {o : Obj} {g : Nat} (h : g = w.heap.size) : (w.alloc o).heap[g]? = some o := heap_at _ _ _ h
theorem heap1 {w : World} {o o1 : Obj} {g : Nat} (h : g = w.heap.size) : ((w.alloc o).alloc o1).heap[g]? = some o := (heap_past _ _ _ (by simp; omega)).trans (heap_at _ _ _ h)
theorem heap2 {w : World} {o o1 o2 : Obj} {g : Nat} (h : g = w.heap.size) : (((w.alloc o).alloc o1).alloc o2).heap[g]? = some o := (heap_past _ _ _ (by simp; omega)).trans (heap1 h)
theorem heap3 {w : World} {o o1 o2 o3 : Obj} {g : Nat} (h : g = w.heap.size) : ((((w.alloc o).alloc o1).alloc o2).alloc o3).heap[g]? = some o := (heap_past _ _ _ (by simp; omega)).trans (heap2 h)

theorem below1 (w : World) (a : Obj) : Below w.heap.size w (w.alloc a) := (Below.refl _ _).alloc (Nat.le_refl _) _
theorem below2 (w : World) (a b : Obj) : Below w.heap.size w ((w.alloc a).alloc b) := (below1 w a).alloc (by simp) _
theorem below3 (w : World) (a b c : Obj) : Below w.heap.size w (((w.alloc a).alloc b).alloc c) := (below2 w a b).alloc (by simp; omega) _
theorem below4 (w : World) (a b c d : Obj) : Below w.heap.size w ((((w.alloc a).alloc b).alloc c).alloc d) := (below3 w a b c).alloc (by simp; omega) _
theorem below5 (w : World) (a b c d e : Obj) : Below w.heap.size w (((((w.alloc a).alloc b).alloc c).alloc d).alloc e) := (below4 w a b c d).alloc (by simp; omega) _
theorem hide {p : Prop} (h : p) : Hid p := h

end Go.Proofs.Ytpkfjdaedaplfaa
