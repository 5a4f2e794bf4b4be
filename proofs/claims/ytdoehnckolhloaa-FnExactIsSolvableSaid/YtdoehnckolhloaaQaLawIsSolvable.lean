/- Texts put together: Base, Open, Agg, Des, Perm, Own, QTail, Bfs, Con, IsPerm, SPerm, IsDes, Pl1, Face, PF -/
import Derived.Test.YtdoehnckolhloaaChecked
import Derived.WalkKit
import Derived.WalkSpells
import Derived.WalkLawsBesides
import Derived.Deep.LoopGhost
import Derived.Deep.OwnRows
import Derived.Laws.Rows
import Derived.Laws.Tables
import Derived.Laws.CopyOwn
import Derived.ProofKit
import Derived.OpenShut
import Derived.ShutString
import Derived.ChangeOld
import Derived.Below
import Derived.Laws.CopyRow
import Derived.Deep.MidRow
import Derived.Laws.OwnMore
import Derived.Deep.Quiet
import Derived.Deep.QuietTactic
import Derived.BigQuiet
import Derived.StillTail
import Derived.RegionTactic
import Derived.ChangeKeysEq
import Derived.StillTailTactics
import Derived.Deep.RegionWith
import Derived.Deep.RegionHeld3
namespace Go.Proofs.Ytdoehnckolhloaa
open Go.RowKit

theorem heap_past (w : World) (o : Obj) (g : Nat) (h : g < w.heap.size) : (w.alloc o).heap[g]? = w.heap[g]? := Below.heap_alloc w o g h
theorem heap_at (w : World) (o : Obj) (g : Nat) (h : g = w.heap.size) : (w.alloc o).heap[g]? = some o := by subst h; exact heap_alloc_new w o

/-- a row of n values -/
@[irreducible] def row (n : Nat) (f : Nat → Value) : Array Value := ((List.range n).map f).toArray
theorem row_size (n : Nat) (f : Nat → Value) : (row n f).size = n := by unfold row; simp
theorem row_get (n : Nat) (f : Nat → Value) {i : Nat} (h : i < n) : (row n f)[i]? = some (f i) := by unfold row; simp [h]
theorem row_none (n : Nat) (f : Nat → Value) {i : Nat} (h : ¬ i < n) : (row n f)[i]? = none := by rw [Array.getElem?_eq_none]; rw [row_size]; omega
theorem row_set (n : Nat) (f : Nat → Value) (i : Nat) (v : Value) : (row n f).setIfInBounds i v = row n (fun j => if j = i then v else f j) := by
  apply Array.ext_getElem?
  intro j
  rw [Array.getElem?_setIfInBounds, row_size]
  by_cases hj : j < n
  · rw [row_get _ _ hj, row_get _ _ hj]
    by_cases c : i = j
    · subst c; simp [hj]
    · rw [if_neg c, if_neg (Ne.symm c)]
  · rw [row_none _ _ hj, row_none _ _ hj]
    by_cases c : i = j
    · subst c; simp [hj]
    · rw [if_neg c]
theorem row_congr {n : Nat} {f g : Nat → Value} (h : ∀ i, i < n → f i = g i) : row n f = row n g := by
  unfold row
  congr 1
  apply List.map_congr_left
  intro i hi
  rw [h i (List.mem_range.1 hi)]
theorem row_inj {n : Nat} {f g : Nat → Value} (h : row n f = row n g) {i : Nat} (hi : i < n) : f i = g i := by
  have := row_get n f hi
  rw [h, row_get n g hi] at this
  exact (Option.some.inj this).symm

/-- sixteen bytes -/
@[irreducible] def av (f : Nat → Nat) : Array Value := row 16 fun i => .int .u8 (f i)
theorem av_size (f : Nat → Nat) : (av f).size = 16 := by unfold av; exact row_size _ _
theorem av_get (f : Nat → Nat) {i : Nat} (h : i < 16) : (av f)[i]? = some (.int .u8 (f i)) := by unfold av; exact row_get _ _ h
/-- one entry is turned -/
def fset (f : Nat → Nat) (i : Nat) (v : Nat) : Nat → Nat := fun j => if j = i then v else f j
theorem av_set (f : Nat → Nat) (i v : Nat) : (av f).setIfInBounds i (.int .u8 v) = av (fset f i v) := by
  unfold av
  rw [row_set]
  apply row_congr
  intro j _
  unfold fset
  by_cases c : j = i
  · rw [if_pos c, if_pos c]
  · rw [if_neg c, if_neg c]
theorem av_congr {f g : Nat → Nat} (h : ∀ i, i < 16 → f i = g i) : av f = av g := by
  unfold av
  exact row_congr fun i hi => by rw [h i hi]
theorem av_cells (f : Nat → Nat) : (av f).all (·.oneCell') = true := by unfold av row; simp [Value.oneCell']
theorem av_zero : av (fun _ => 0) = #[.int .u8 0, .int .u8 0, .int .u8 0, .int .u8 0, .int .u8 0, .int .u8 0, .int .u8 0, .int .u8 0, .int .u8 0, .int .u8 0, .int .u8 0, .int .u8 0, .int .u8 0, .int .u8 0, .int .u8 0, .int .u8 0] := by
  unfold av row; rfl

/-- sixteen bools -/
@[irreducible] def bv (f : Nat → Bool) : Array Value := row 16 fun i => .bool (f i)
theorem bv_size (f : Nat → Bool) : (bv f).size = 16 := by unfold bv; exact row_size _ _
theorem bv_get (f : Nat → Bool) {i : Nat} (h : i < 16) : (bv f)[i]? = some (.bool (f i)) := by unfold bv; exact row_get _ _ h
def mset (f : Nat → Bool) (i : Nat) : Nat → Bool := fun j => j == i || f j
theorem bv_set (f : Nat → Bool) (i : Nat) : (bv f).setIfInBounds i (.bool true) = bv (mset f i) := by
  unfold bv
  rw [row_set]
  apply row_congr
  intro j _
  unfold mset
  by_cases c : j = i
  · simp [c]
  · simp [c]
theorem bv_congr {f g : Nat → Bool} (h : ∀ i, i < 16 → f i = g i) : bv f = bv g := by
  unfold bv
  exact row_congr fun i hi => by rw [h i hi]
theorem bv_false : bv (fun _ => false) = #[.bool false, .bool false, .bool false, .bool false, .bool false, .bool false, .bool false, .bool false, .bool false, .bool false, .bool false, .bool false, .bool false, .bool false, .bool false, .bool false] := by
  unfold bv row; rfl

/-- the first k entries, the others 0 -/
def upto (f : Nat → Nat) (k : Nat) : Nat → Nat := fun i => if i < k then f i else 0
theorem upto_step (f : Nat → Nat) (k : Nat) : fset (upto f k) k (f k) = upto f (k + 1) := by
  funext i
  unfold fset upto
  by_cases c : i = k
  · subst c; simp
  · rw [if_neg c]
    by_cases d : i < k
    · rw [if_pos d, if_pos (by omega)]
    · rw [if_neg d, if_neg (by omega)]
theorem upto_zero (f : Nat → Nat) : upto f 0 = fun _ => 0 := by funext i; simp [upto]

theorem infoP : (Try.prog.info? 27).map (·.size) = some 16 := by kernel_rfl
theorem sizeP (f : Nat → Nat) : (Try.prog.info? 27).map (·.size) = some (av f).size := by rw [av_size]; exact infoP
theorem infoA : (Try.prog.info? 22).map (·.size) = some 16 := by kernel_rfl
theorem sizeA (f : Nat → Nat) : (Try.prog.info? 22).map (·.size) = some (av f).size := by rw [av_size]; exact infoA

/-- 'p[:n]', 'p[n:]' of a whole array of sixteen -/
theorem slice_hi (b m : Nat) (h : m ≤ 16) (w : World) :
    (Instr.sliceAt 27 (.pointer (some ⟨b, 0, none⟩)) none (some (.int .i64 m)) none).run Try.prog w = .ok (.slice (some ⟨b, 0, none⟩) m 16) w := by
  have e : Try.prog.arrayLen 27 = 16 := by kernel_rfl
  have := run_sliceAt_array_h (P := Try.prog) w 27 ⟨b, 0, none⟩ (by kernel_rfl) .i64 m (by omega) (by rw [e]; omega)
  rw [this, e]
  simp only [go_sem]
  simp
theorem slice_lo (b m : Nat) (h : m ≤ 16) : ∃ o, (m < 16 → o = m) ∧ ∀ w : World,
    (Instr.sliceAt 27 (.pointer (some ⟨b, 0, none⟩)) (some (.int .i64 m)) none none).run Try.prog w = .ok (.slice (some ⟨b, o, none⟩) (16 - m) (16 - m)) w := by
  have e : Try.prog.arrayLen 27 = 16 := by kernel_rfl
  refine ⟨if m = 16 then 0 else m, fun hlt => by rw [if_neg (by omega)], fun w => ?_⟩
  have := run_sliceAt_array_l (P := Try.prog) w 27 ⟨b, 0, none⟩ (by kernel_rfl) .i64 m (by omega) (by rw [e]; omega)
  rw [this, e]
  simp only [go_sem]
  by_cases c : m = 16
  · subst c; simp
  · by_cases d : m = 0
    · subst d; simp
    · simp [Ne.symm c, c]

/-- a type whose values are so many cells -/
structure AggT (T : TypeId) (n : Nat) : Prop where
  und : ∃ d, Try.prog.underlying T = some d ∧ (match d with | .struct _ | .array _ _ => true | _ => false) = true
  siz : (Try.prog.info? T).map (·.size) = some n
theorem aggP : AggT 27 16 := ⟨⟨_, Try.underlying27, rfl⟩, by kernel_rfl⟩
theorem aggA : AggT 22 16 := ⟨⟨_, Try.underlying22, rfl⟩, by kernel_rfl⟩
theorem aggB : AggT 114 16 := ⟨⟨_, Try.underlying114, rfl⟩, by kernel_rfl⟩

/-- a whole value into a block -/
theorem setRow_at (w : World) (c c' : Array Value) (t : TypeId) (g : Nat) (hg : g = w.heap.size) : (w.alloc (.cells c t)).setRow g c' = w.alloc (.cells c' t) := by
  subst hg
  simp only [World.setRow, World.alloc]
  congr 1
  apply Array.ext_getElem?
  intro i
  rw [Array.getElem?_modify]
  by_cases h : w.heap.size = i
  · subst h
    simp
  · have h' : ¬ i = w.heap.size := fun e => h e.symm
    simp [h, h', Array.getElem?_push]
theorem setRow_past (w : World) (o : Obj) (c' : Array Value) (g : Nat) (hg : g < w.heap.size) : (w.alloc o).setRow g c' = (w.setRow g c').alloc o := by
  simp only [World.setRow, World.alloc]
  congr 1
  apply Array.ext_getElem?
  intro i
  rw [Array.getElem?_modify, Array.getElem?_push, Array.getElem?_push, Array.getElem?_modify, Array.size_modify]
  by_cases h : g = i
  · subst h
    have : ¬ g = w.heap.size := by omega
    simp [this]
  · by_cases h' : i = w.heap.size
    · subst h'
      have : ¬ g = w.heap.size := by omega
      simp [this]
    · simp [h, h']

section
variable {ops : Array Oper} {rest : List Oper} {o : Oper} {a : Act} {w : World} {Q : Exit → Act → World → Prop} {T U : TypeId} {n : Nat} {cs old : Array Value} {o1 o2 o3 o4 : Obj} {fr : Nat × Nat}
/-- a whole value out of the block that was made last, last but one, .. -/
theorem ld_at (hT : AggT T n) (hs : cs.size = n) (hgd : o.guard = none) (x : Operand) (ho : o.op = .load T x) (g : Nat) (hx : a.eval x = .pointer (some ⟨g, 0, none⟩)) (hg : w.heap[g]? = some (.cells cs U fr))
    (h : wpList Try.prog ops Q rest (a.put o.dst (.agg cs)) w) : wpList Try.prog ops Q (o :: rest) a w := by
  obtain ⟨d, hd, hd'⟩ := hT.und
  exact wpList_load_row hgd T x ho g hx U cs fr d hg hd (by cases d <;> first | rfl | simp at hd') (by rw [hs]; exact hT.siz) h
theorem ld0 (hT : AggT T n) (hs : cs.size = n) (hgd : o.guard = none) (x : Operand) (ho : o.op = .load T x) (g : Nat) (hx : a.eval x = .pointer (some ⟨g, 0, none⟩)) (hg : g = w.heap.size)
    (h : wpList Try.prog ops Q rest (a.put o.dst (.agg cs)) (w.alloc (.cells cs U fr))) : wpList Try.prog ops Q (o :: rest) a (w.alloc (.cells cs U fr)) :=
  ld_at hT hs hgd x ho g hx (heap_at _ _ _ hg) h
theorem ld1 (hT : AggT T n) (hs : cs.size = n) (hgd : o.guard = none) (x : Operand) (ho : o.op = .load T x) (g : Nat) (hx : a.eval x = .pointer (some ⟨g, 0, none⟩)) (hg : g = w.heap.size)
    (h : wpList Try.prog ops Q rest (a.put o.dst (.agg cs)) ((w.alloc (.cells cs U fr)).alloc o1)) : wpList Try.prog ops Q (o :: rest) a ((w.alloc (.cells cs U fr)).alloc o1) :=
  ld_at hT hs hgd x ho g hx ((heap_past _ _ _ (by simp; omega)).trans (heap_at _ _ _ hg)) h
theorem ld2 (hT : AggT T n) (hs : cs.size = n) (hgd : o.guard = none) (x : Operand) (ho : o.op = .load T x) (g : Nat) (hx : a.eval x = .pointer (some ⟨g, 0, none⟩)) (hg : g = w.heap.size)
    (h : wpList Try.prog ops Q rest (a.put o.dst (.agg cs)) (((w.alloc (.cells cs U fr)).alloc o1).alloc o2)) : wpList Try.prog ops Q (o :: rest) a (((w.alloc (.cells cs U fr)).alloc o1).alloc o2) :=
  ld_at hT hs hgd x ho g hx ((heap_past _ _ _ (by simp; omega)).trans ((heap_past _ _ _ (by simp; omega)).trans (heap_at _ _ _ hg))) h
theorem ld3 (hT : AggT T n) (hs : cs.size = n) (hgd : o.guard = none) (x : Operand) (ho : o.op = .load T x) (g : Nat) (hx : a.eval x = .pointer (some ⟨g, 0, none⟩)) (hg : g = w.heap.size)
    (h : wpList Try.prog ops Q rest (a.put o.dst (.agg cs)) ((((w.alloc (.cells cs U fr)).alloc o1).alloc o2).alloc o3)) : wpList Try.prog ops Q (o :: rest) a ((((w.alloc (.cells cs U fr)).alloc o1).alloc o2).alloc o3) :=
  ld_at hT hs hgd x ho g hx ((heap_past _ _ _ (by simp; omega)).trans ((heap_past _ _ _ (by simp; omega)).trans ((heap_past _ _ _ (by simp; omega)).trans (heap_at _ _ _ hg)))) h
theorem ld4 (hT : AggT T n) (hs : cs.size = n) (hgd : o.guard = none) (x : Operand) (ho : o.op = .load T x) (g : Nat) (hx : a.eval x = .pointer (some ⟨g, 0, none⟩)) (hg : g = w.heap.size)
    (h : wpList Try.prog ops Q rest (a.put o.dst (.agg cs)) (((((w.alloc (.cells cs U fr)).alloc o1).alloc o2).alloc o3).alloc o4)) : wpList Try.prog ops Q (o :: rest) a (((((w.alloc (.cells cs U fr)).alloc o1).alloc o2).alloc o3).alloc o4) :=
  ld_at hT hs hgd x ho g hx ((heap_past _ _ _ (by simp; omega)).trans ((heap_past _ _ _ (by simp; omega)).trans ((heap_past _ _ _ (by simp; omega)).trans ((heap_past _ _ _ (by simp; omega)).trans (heap_at _ _ _ hg))))) h

theorem st_at (hT : AggT T n) (hs : cs.size = n) (hos : old.size = n) (hc : cs.all (·.oneCell') = true) (hgd : o.guard = none) (x y : Operand) (ho : o.op = .store T x y) (g : Nat) (hx : a.eval x = .pointer (some ⟨g, 0, none⟩)) (hy : a.eval y = .agg cs)
    (hg : w.heap[g]? = some (.cells old U (0, 0)))
    (h : wpList Try.prog ops Q rest (a.put o.dst undef) (w.setRow g cs)) : wpList Try.prog ops Q (o :: rest) a w :=
  wpList_store_row hgd T x y ho g cs hx hy U old hg (by rw [hs]; exact hT.siz) (by rw [hs, hos]) hc h
theorem st0 (hT : AggT T n) (hs : cs.size = n) (hos : old.size = n) (hc : cs.all (·.oneCell') = true) (hgd : o.guard = none) (x y : Operand) (ho : o.op = .store T x y) (g : Nat) (hx : a.eval x = .pointer (some ⟨g, 0, none⟩)) (hy : a.eval y = .agg cs)
    (hg : g = w.heap.size) (h : wpList Try.prog ops Q rest (a.put o.dst undef) (w.alloc (.cells cs U))) : wpList Try.prog ops Q (o :: rest) a (w.alloc (.cells old U)) :=
  st_at hT hs hos hc hgd x y ho g hx hy (heap_at _ _ _ hg) (by rw [setRow_at _ _ _ _ _ hg]; exact h)
theorem st1 (hT : AggT T n) (hs : cs.size = n) (hos : old.size = n) (hc : cs.all (·.oneCell') = true) (hgd : o.guard = none) (x y : Operand) (ho : o.op = .store T x y) (g : Nat) (hx : a.eval x = .pointer (some ⟨g, 0, none⟩)) (hy : a.eval y = .agg cs)
    (hg : g = w.heap.size) (h : wpList Try.prog ops Q rest (a.put o.dst undef) ((w.alloc (.cells cs U)).alloc o1)) : wpList Try.prog ops Q (o :: rest) a ((w.alloc (.cells old U)).alloc o1) :=
  st_at hT hs hos hc hgd x y ho g hx hy ((heap_past _ _ _ (by simp; omega)).trans (heap_at _ _ _ hg)) (by rw [setRow_past _ _ _ _ (by simp; omega), setRow_at _ _ _ _ _ hg]; exact h)
theorem st2 (hT : AggT T n) (hs : cs.size = n) (hos : old.size = n) (hc : cs.all (·.oneCell') = true) (hgd : o.guard = none) (x y : Operand) (ho : o.op = .store T x y) (g : Nat) (hx : a.eval x = .pointer (some ⟨g, 0, none⟩)) (hy : a.eval y = .agg cs)
    (hg : g = w.heap.size) (h : wpList Try.prog ops Q rest (a.put o.dst undef) (((w.alloc (.cells cs U)).alloc o1).alloc o2)) : wpList Try.prog ops Q (o :: rest) a (((w.alloc (.cells old U)).alloc o1).alloc o2) :=
  st_at hT hs hos hc hgd x y ho g hx hy ((heap_past _ _ _ (by simp; omega)).trans ((heap_past _ _ _ (by simp; omega)).trans (heap_at _ _ _ hg)))
    (by rw [setRow_past _ _ _ _ (by simp; omega), setRow_past _ _ _ _ (by simp; omega), setRow_at _ _ _ _ _ hg]; exact h)
theorem st3 (hT : AggT T n) (hs : cs.size = n) (hos : old.size = n) (hc : cs.all (·.oneCell') = true) (hgd : o.guard = none) (x y : Operand) (ho : o.op = .store T x y) (g : Nat) (hx : a.eval x = .pointer (some ⟨g, 0, none⟩)) (hy : a.eval y = .agg cs)
    (hg : g = w.heap.size) (h : wpList Try.prog ops Q rest (a.put o.dst undef) ((((w.alloc (.cells cs U)).alloc o1).alloc o2).alloc o3)) : wpList Try.prog ops Q (o :: rest) a ((((w.alloc (.cells old U)).alloc o1).alloc o2).alloc o3) :=
  st_at hT hs hos hc hgd x y ho g hx hy ((heap_past _ _ _ (by simp; omega)).trans ((heap_past _ _ _ (by simp; omega)).trans ((heap_past _ _ _ (by simp; omega)).trans (heap_at _ _ _ hg))))
    (by rw [setRow_past _ _ _ _ (by simp; omega), setRow_past _ _ _ _ (by simp; omega), setRow_past _ _ _ _ (by simp; omega), setRow_at _ _ _ _ _ hg]; exact h)
end

/-- a function that hands back such a value out of its cell -/
theorem res_agg {fn : Func} {p : Tmp} {T U : TypeId} {n : Nat} {cs : Array Value} {R : Ending → World → Prop} {a : Act} {w : World} {g : Nat} (hT : AggT T n) (hs : cs.size = n) (h : fn.results = #[.cell p T])
    (hp : a.tmps.getD p undef = .pointer (some ⟨g, 0, none⟩)) (hd : a.defers = []) (hg : w.heap[g]? = some (.cells cs U (0, 0))) (hR : R (.returned (.agg cs)) w) : bodyPost Try.prog fn R .ret a w := by
  obtain ⟨d, h1, h2⟩ := hT.und
  exact bodyPost_ret (results_cell_row h _ _ g U cs (0, 0) d hp hg h1 (by cases d <;> first | rfl | simp at h2) (by rw [hs]; exact hT.siz)) hd hR
theorem heap0 {w : World} {o : Obj} {g : Nat} (h : g = w.heap.size) : (w.alloc o).heap[g]? = some o := heap_at _ _ _ h
theorem heap1 {w : World} {o o1 : Obj} {g : Nat} (h : g = w.heap.size) : ((w.alloc o).alloc o1).heap[g]? = some o := (heap_past _ _ _ (by simp; omega)).trans (heap_at _ _ _ h)
theorem heap2 {w : World} {o o1 o2 : Obj} {g : Nat} (h : g = w.heap.size) : (((w.alloc o).alloc o1).alloc o2).heap[g]? = some o := (heap_past _ _ _ (by simp; omega)).trans (heap1 h)
theorem heap3 {w : World} {o o1 o2 o3 : Obj} {g : Nat} (h : g = w.heap.size) : ((((w.alloc o).alloc o1).alloc o2).alloc o3).heap[g]? = some o := (heap_past _ _ _ (by simp; omega)).trans (heap2 h)

theorem below1 (w : World) (a : Obj) : Below w.heap.size w (w.alloc a) := (Below.refl _ _).alloc (Nat.le_refl _) _
theorem below2 (w : World) (a b : Obj) : Below w.heap.size w ((w.alloc a).alloc b) := (below1 w a).alloc (by simp) _
theorem below3 (w : World) (a b c : Obj) : Below w.heap.size w (((w.alloc a).alloc b).alloc c) := (below2 w a b).alloc (by simp; omega) _
theorem below4 (w : World) (a b c d : Obj) : Below w.heap.size w ((((w.alloc a).alloc b).alloc c).alloc d) := (below3 w a b c).alloc (by simp; omega) _
theorem below5 (w : World) (a b c d e : Obj) : Below w.heap.size w (((((w.alloc a).alloc b).alloc c).alloc d).alloc e) := (below4 w a b c d).alloc (by simp; omega) _
theorem hide {p : Prop} (h : p) : Hid p := h

end Go.Proofs.Ytdoehnckolhloaa

namespace Go.Proofs.Ytdoehnckolhloaa
open Go.RowKit Go.ChangeShapes Go.WideShapes

section
variable {H : Type} {enc : TypeId × Value → H} {P : Program} {w : World} {base : Nat} {spare : Nat → Bool} {held : Bool}
theorem okWide_array {r : Reach} {b0 : Nat} {t : TypeId} {v : Value} {n : Nat} {e : TypeId} (ht : P.underlying t = some (.array n e)) (h : Value.okWide P w r b0 t v) : ∃ cs, v = .agg cs ∧ cs.size = P.cellsOf t := by
  simp only [Value.okWide, ht] at h
  obtain ⟨cs, h1, h2, _⟩ := h
  exact ⟨cs, h1, h2⟩

/-- sixteen cells that read as bytes -/
theorem bytes_of {l : List Value} {e : TypeId} {m : Nat} {xs : List (DataW H × List MemPlace)} (he : P.underlying e = some (.int .u8)) (hl : l.length = 16) (hx : xs.length = 16)
    (h : ∀ i, i < 16 → DataW.trod enc P w base spare held m e ((l.drop i).take 1) = xs[i]?) : ∃ f : Nat → Nat, (∀ i, f i < 256) ∧ l.toArray = av f := by
  have key : ∀ i, i < 16 → ∃ k : Nat, k < 256 ∧ l[i]? = some (.int .u8 k) := by
    intro i hi
    have h1 := h i hi
    rw [List.getElem?_eq_getElem (by omega)] at h1
    obtain ⟨n, hn, _, hw⟩ := DataW.trod_int he h1
    have hb := bounds_u8 hw
    obtain ⟨k, rfl⟩ := Int.eq_ofNat_of_zero_le hb.1
    refine ⟨k, by omega, ?_⟩
    rw [List.drop_eq_getElem_cons (by omega), List.take_succ_cons, List.take_zero] at hn
    rw [List.getElem?_eq_getElem (by omega), (List.cons.inj hn).1]
  refine ⟨fun i => match l[i]? with | some (.int .u8 n) => if n.toNat < 256 then n.toNat else 0 | _ => 0, fun i => ?_, ?_⟩
  · dsimp only
    split
    · split <;> omega
    · omega
  · apply Array.ext_getElem?
    intro i
    by_cases hi : i < 16
    · obtain ⟨k, hk, e⟩ := key i hi
      rw [av_get _ hi]
      simp only [List.getElem?_toArray, e]
      rw [if_pos (by omega)]
      simp
    · rw [Array.getElem?_eq_none (by simp; omega), Array.getElem?_eq_none (by rw [av_size]; omega)]

theorem open_bytes16 {r : Reach} {b0 : Nat} {t e : TypeId} {v : Value} {d : DataW H} {ps : List MemPlace} (ht : P.underlying t = some (.array 16 e)) (he : P.underlying e = some (.int .u8)) (hc : P.cellsOf t = 16) (hc1 : P.cellsOf e = 1)
    (hval : Value.okWide P w r b0 t v) (hd : DataW.Trod enc P w base spare held t v d ps) : ∃ f : Nat → Nat, (∀ i, f i < 256) ∧ v = .agg (av f) := by
  obtain ⟨cs, rfl, hs⟩ := okWide_array ht hval
  obtain ⟨fuel, hf⟩ := hd
  obtain ⟨xs, m, _, _, hl, hx, hi⟩ := DataW.trod_array ht hf
  obtain ⟨f, hb, e⟩ := bytes_of (l := cs.toList) he (by simpa [hc] using hs) hx (fun i h => by have := hi i h; rw [hc1, Nat.mul_one] at this; simpa [Value.cells] using this)
  exact ⟨f, hb, by rw [← e]⟩
end

end Go.Proofs.Ytdoehnckolhloaa

namespace Go.Proofs.Ytdoehnckolhloaa
open Go.RowKit

/-- the cells of a block -/
def cellsOf (w : World) (g : Nat) : Array Value := match w.heap[g]? with | some (.cells c _ _) => c | _ => #[]
/-- a block is a row of n cells, none frozen -/
def rowOk (w : World) (g n : Nat) : Prop := ∃ c t, w.heap[g]? = some (.cells c t (0, 0)) ∧ c.size = n

section
variable {w w' : World} {g : Nat} {c : Array Value} {t : TypeId} {o : Obj}
@[go_sem] theorem cellsOf_at (h : g = w.heap.size) : cellsOf (w.alloc (.cells c t)) g = c := by unfold cellsOf; rw [heap_at _ _ _ h]
@[go_sem] theorem cellsOf_past (h : g < w.heap.size) : cellsOf (w.alloc o) g = cellsOf w g := by unfold cellsOf; rw [heap_past _ _ _ h]
@[go_sem] theorem cellsOf_drew : cellsOf w.drew g = cellsOf w g := rfl
@[go_sem] theorem rowOk_past {n : Nat} (h : g < w.heap.size) : rowOk (w.alloc o) g n ↔ rowOk w g n := by unfold rowOk; rw [heap_past _ _ _ h]
@[go_sem] theorem rowOk_drew {n : Nat} : rowOk w.drew g n ↔ rowOk w g n := Iff.rfl
@[go_sem] theorem setRow_at' (h : g = w.heap.size) {c' : Array Value} : (w.alloc (.cells c t)).setRow g c' = w.alloc (.cells c' t) := setRow_at w c c' t g h
@[go_sem] theorem setRow_past' (h : g < w.heap.size) {c' : Array Value} : (w.alloc o).setRow g c' = (w.setRow g c').alloc o := setRow_past w o c' g h
@[go_sem] theorem setRow_drew {c' : Array Value} : w.drew.setRow g c' = (w.setRow g c').drew := rfl
theorem below_cells {B : Nat} (h : Below B w w') (hg : g < B) : cellsOf w' g = cellsOf w g := by unfold cellsOf; rw [h.block g hg]
theorem below_row {B n : Nat} (h : Below B w w') (hg : g < B) : rowOk w' g n ↔ rowOk w g n := by unfold rowOk; rw [h.block g hg]
theorem cellsOf_heap (h : w.heap[g]? = some (.cells c t (0, 0))) : cellsOf w g = c := by unfold cellsOf; rw [h]
theorem rowOk.heap {n : Nat} (h : rowOk w g n) : ∃ t, w.heap[g]? = some (.cells (cellsOf w g) t (0, 0)) ∧ (cellsOf w g).size = n := by
  obtain ⟨c, t, h1, h2⟩ := h
  exact ⟨t, by rw [cellsOf_heap h1]; exact h1, by rw [cellsOf_heap h1]; exact h2⟩
@[go_sem] theorem cellsOf_setRow {n : Nat} (h : rowOk w g n) {c' : Array Value} : cellsOf (w.setRow g c') g = c' := by
  obtain ⟨t, h1, _⟩ := h.heap
  exact cellsOf_heap (setRow_heap _ _ _ _ t (0, 0) h1)
theorem rowOk_setRow {n m : Nat} (h : rowOk w g n) {c' : Array Value} (hm : c'.size = m) : rowOk (w.setRow g c') g m := by
  obtain ⟨t, h1, _⟩ := h.heap
  exact ⟨c', t, setRow_heap _ _ _ _ t (0, 0) h1, hm⟩
theorem cellsOf_setRow_ne {g' : Nat} (h : g ≠ g') {c' : Array Value} : cellsOf (w.setRow g' c') g = cellsOf w g := by unfold cellsOf; rw [setRow_other _ _ _ _ h]
theorem rowOk_setRow_ne {g' n : Nat} (h : g ≠ g') {c' : Array Value} : rowOk (w.setRow g' c') g n ↔ rowOk w g n := by unfold rowOk; rw [setRow_other _ _ _ _ h]
/-- a cell of a row -/
theorem cell_of_cells (i : Nat) : w.cell? ⟨g, i, none⟩ = (cellsOf w g)[i]? := by
  unfold World.cell? cellsOf
  split <;> simp_all
theorem rowOk.frozen {n i : Nat} (h : rowOk w g n) : w.frozen? ⟨g, i, none⟩ = false := by
  obtain ⟨c, t, h1, _⟩ := h
  simp [World.frozen?, h1]
theorem rowOk.size {n : Nat} (h : rowOk w g n) : (cellsOf w g).size = n := by obtain ⟨t, _, h2⟩ := h.heap; exact h2
theorem rowOk.lt {n : Nat} (h : rowOk w g n) : g < w.heap.size := by
  obtain ⟨c, t, h1, _⟩ := h
  rcases Nat.lt_or_ge g w.heap.size with hlt | hge
  · exact hlt
  · rw [Array.getElem?_eq_none hge] at h1; cases h1
/-- a store into one cell of a row -/
theorem cellsOf_setCell {i : Nat} {v : Value} : cellsOf (w.setCell ⟨g, i, none⟩ v) g = (cellsOf w g).setIfInBounds i v := by
  unfold cellsOf World.setCell
  simp only [Array.getElem?_modify]
  rcases w.heap[g]? with _ | o
  · simp
  · cases o <;> simp
theorem cellsOf_setCell_ne {g' i : Nat} (h : g ≠ g') {v : Value} : cellsOf (w.setCell ⟨g', i, none⟩ v) g = cellsOf w g := by
  unfold cellsOf
  rw [Below.heap_setCell w ⟨g', i, none⟩ v g h]
theorem rowOk_setCell {n i g' : Nat} {v : Value} (h : rowOk w g n) : rowOk (w.setCell ⟨g', i, none⟩ v) g n := by
  obtain ⟨c, t, h1, h2⟩ := h
  by_cases e : g = g'
  · subst e
    refine ⟨c.setIfInBounds i v, t, ?_, by simpa using h2⟩
    simp [World.setCell, Array.getElem?_modify, h1]
  · exact ⟨c, t, by rw [Below.heap_setCell w ⟨g', i, none⟩ v g e]; exact h1, h2⟩
end

@[go_sem] theorem lt_2 (n : Nat) : n < n + 1 + 1 ↔ True := by simp; omega
@[go_sem] theorem lt_3 (n : Nat) : n < n + 1 + 1 + 1 ↔ True := by simp; omega
@[go_sem] theorem lt_4 (n : Nat) : n < n + 1 + 1 + 1 + 1 ↔ True := by simp; omega
@[go_sem] theorem lt_5 (n : Nat) : n < n + 1 + 1 + 1 + 1 + 1 ↔ True := by simp; omega
@[go_sem] theorem lt_6 (n : Nat) : n < n + 1 + 1 + 1 + 1 + 1 + 1 ↔ True := by simp; omega
@[go_sem] theorem eq_r1 (n : Nat) : (n = n + 1) ↔ False := by simp <;> omega
@[go_sem] theorem eq_l1 (n : Nat) : (n + 1 = n) ↔ False := by simp <;> omega
@[go_sem] theorem eq_r2 (n : Nat) : (n = n + 1 + 1) ↔ False := by simp <;> omega
@[go_sem] theorem eq_l2 (n : Nat) : (n + 1 + 1 = n) ↔ False := by simp <;> omega
@[go_sem] theorem eq_r3 (n : Nat) : (n = n + 1 + 1 + 1) ↔ False := by simp <;> omega
@[go_sem] theorem eq_l3 (n : Nat) : (n + 1 + 1 + 1 = n) ↔ False := by simp <;> omega
@[go_sem] theorem eq_r4 (n : Nat) : (n = n + 1 + 1 + 1 + 1) ↔ False := by simp <;> omega
@[go_sem] theorem eq_l4 (n : Nat) : (n + 1 + 1 + 1 + 1 = n) ↔ False := by simp <;> omega
@[go_sem] theorem eq_r5 (n : Nat) : (n = n + 1 + 1 + 1 + 1 + 1) ↔ False := by simp <;> omega
@[go_sem] theorem eq_l5 (n : Nat) : (n + 1 + 1 + 1 + 1 + 1 = n) ↔ False := by simp <;> omega
/-- sixteen cells; cells that are one each: behind names, so that the walk takes no size for a rule -/
def Is16 (c : Array Value) : Prop := c.size = 16
def Ones (c : Array Value) : Prop := c.all (·.oneCell') = true
@[go_sem] theorem is16_av (f : Nat → Nat) : Is16 (av f) ↔ True := ⟨fun _ => trivial, fun _ => av_size f⟩
@[go_sem] theorem is16_bv (f : Nat → Bool) : Is16 (bv f) ↔ True := ⟨fun _ => trivial, fun _ => bv_size f⟩
@[go_sem] theorem is16_lit (x0 x1 x2 x3 x4 x5 x6 x7 x8 x9 x10 x11 x12 x13 x14 x15 : Value) : Is16 #[x0, x1, x2, x3, x4, x5, x6, x7, x8, x9, x10, x11, x12, x13, x14, x15] ↔ True := ⟨fun _ => trivial, fun _ => rfl⟩
@[go_sem] theorem ones_av (f : Nat → Nat) : Ones (av f) ↔ True := ⟨fun _ => trivial, fun _ => av_cells f⟩
theorem bv_cells (f : Nat → Bool) : (bv f).all (·.oneCell') = true := by unfold bv row; simp [Value.oneCell']
@[go_sem] theorem ones_bv (f : Nat → Bool) : Ones (bv f) ↔ True := ⟨fun _ => trivial, fun _ => bv_cells f⟩
@[go_sem] theorem ones_z : Ones #[Value.int .u8 0, Value.int .u8 0, Value.int .u8 0, Value.int .u8 0, Value.int .u8 0, Value.int .u8 0, Value.int .u8 0, Value.int .u8 0, Value.int .u8 0, Value.int .u8 0, Value.int .u8 0, Value.int .u8 0, Value.int .u8 0, Value.int .u8 0, Value.int .u8 0, Value.int .u8 0] ↔ True := ⟨fun _ => trivial, fun _ => by unfold Ones; simp [Value.oneCell']⟩
@[go_sem] theorem ones_f : Ones #[Value.bool false, Value.bool false, Value.bool false, Value.bool false, Value.bool false, Value.bool false, Value.bool false, Value.bool false, Value.bool false, Value.bool false, Value.bool false, Value.bool false, Value.bool false, Value.bool false, Value.bool false, Value.bool false] ↔ True := ⟨fun _ => trivial, fun _ => by unfold Ones; simp [Value.oneCell']⟩
@[go_sem] theorem rowOk_at {w : World} {g : Nat} {c : Array Value} {t : TypeId} (h : g = w.heap.size) (hc : Is16 c) : rowOk (w.alloc (.cells c t)) g 16 ↔ True := ⟨fun _ => trivial, fun _ => ⟨c, t, heap_at _ _ _ h, hc⟩⟩

/-- what the operation 'load T' does -/
def loadT (T : TypeId) (v : Value) : Sem Next := do pure (.value (← Instr.loadAt T v))
def storeT (T : TypeId) (v x : Value) : Sem Next := do Instr.storeAt T v x; pure .skip

theorem run_loadT {T n : Nat} (hT : AggT T n) {w : World} {g : Nat} (h : (cellsOf w g).size = n) (h0 : 0 < n) :
    (loadT T (.pointer (some ⟨g, 0, none⟩))).run Try.prog w = .ok (.value (.agg (cellsOf w g))) w := by
  obtain ⟨d, hd, hd'⟩ := hT.und
  have hh : ∃ t fr, w.heap[g]? = some (.cells (cellsOf w g) t fr) := by
    unfold cellsOf at *
    rcases e : w.heap[g]? with _ | o
    · rw [e] at h; simp at h; omega
    · cases o with
      | cells c t fr => exact ⟨t, fr, rfl⟩
      | _ => rw [e] at h; simp at h; omega
  obtain ⟨t, fr, hg⟩ := hh
  have := run_loadVar_row (P := Try.prog) w g t T (cellsOf w g) fr d hg hd (by cases d <;> first | rfl | simp at hd') (by rw [h]; exact hT.siz)
  simp only [loadT, Instr.loadAt, Instr.sureAddr, Sem.run_bind, Sem.run_pure, Result.andThen_ok, this]
theorem run_storeT {T n : Nat} (hT : AggT T n) {w : World} {g : Nat} {cs : Array Value} (h : rowOk w g n) (hs : cs.size = n) (hc : cs.all (·.oneCell') = true) :
    (storeT T (.pointer (some ⟨g, 0, none⟩)) (.agg cs)).run Try.prog w = .ok .skip (w.setRow g cs) := by
  obtain ⟨t, h1, h2⟩ := h.heap
  have := run_storeVar_row (P := Try.prog) w g t T (cellsOf w g) cs h1 (by rw [hs]; exact hT.siz) (by rw [h2, hs]) hc
  simp only [storeT, Instr.storeAt, Instr.sureAddr, Sem.run_bind, Sem.run_pure, Result.andThen_ok, this]

section
variable (ρ : Operand → Value) (dst : Option Tmp) (x y : Operand) (ty : TypeId) (pos : String) (after : Array Edge) (guard : Option (Nat × Bool))
@[go_sem ↓] theorem exec_loadP : execOp ρ { dst, op := .load 27 x, type := ty, pos, after, guard } = loadT 27 (ρ x) := rfl
@[go_sem ↓] theorem exec_storeP : execOp ρ { dst, op := .store 27 x y, type := ty, pos, after, guard } = storeT 27 (ρ x) (ρ y) := rfl
@[go_sem ↓] theorem exec_loadA : execOp ρ { dst, op := .load 22 x, type := ty, pos, after, guard } = loadT 22 (ρ x) := rfl
@[go_sem ↓] theorem exec_storeA : execOp ρ { dst, op := .store 22 x y, type := ty, pos, after, guard } = storeT 22 (ρ x) (ρ y) := rfl
@[go_sem ↓] theorem exec_loadB : execOp ρ { dst, op := .load 114 x, type := ty, pos, after, guard } = loadT 114 (ρ x) := rfl
@[go_sem ↓] theorem exec_storeB : execOp ρ { dst, op := .store 114 x y, type := ty, pos, after, guard } = storeT 114 (ρ x) (ρ y) := rfl
end
@[go_sem] theorem run_loadP {w : World} {g : Nat} (h : Is16 (cellsOf w g)) : (loadT 27 (.pointer (some ⟨g, 0, none⟩))).run Try.prog w = .ok (.value (.agg (cellsOf w g))) w := run_loadT aggP h (by decide)
@[go_sem] theorem run_storeP {w : World} {g : Nat} {cs : Array Value} (h : rowOk w g 16) (hs : Is16 cs) (hc : Ones cs) :
    (storeT 27 (.pointer (some ⟨g, 0, none⟩)) (.agg cs)).run Try.prog w = .ok .skip (w.setRow g cs) := run_storeT aggP h hs hc
@[go_sem] theorem run_loadA {w : World} {g : Nat} (h : Is16 (cellsOf w g)) : (loadT 22 (.pointer (some ⟨g, 0, none⟩))).run Try.prog w = .ok (.value (.agg (cellsOf w g))) w := run_loadT aggA h (by decide)
@[go_sem] theorem run_storeA {w : World} {g : Nat} {cs : Array Value} (h : rowOk w g 16) (hs : Is16 cs) (hc : Ones cs) :
    (storeT 22 (.pointer (some ⟨g, 0, none⟩)) (.agg cs)).run Try.prog w = .ok .skip (w.setRow g cs) := run_storeT aggA h hs hc
@[go_sem] theorem run_loadB {w : World} {g : Nat} (h : Is16 (cellsOf w g)) : (loadT 114 (.pointer (some ⟨g, 0, none⟩))).run Try.prog w = .ok (.value (.agg (cellsOf w g))) w := run_loadT aggB h (by decide)
@[go_sem] theorem run_storeB {w : World} {g : Nat} {cs : Array Value} (h : rowOk w g 16) (hs : Is16 cs) (hc : Ones cs) :
    (storeT 114 (.pointer (some ⟨g, 0, none⟩)) (.agg cs)).run Try.prog w = .ok .skip (w.setRow g cs) := run_storeT aggB h hs hc

/-- a pair of a whole value out of its cell and of a slot -/
theorem res_agg2 {fn : Func} {p t : Tmp} {T U : TypeId} {n : Nat} {cs : Array Value} {v : Value} {R : Ending → World → Prop} {a : Act} {w : World} {g : Nat} (hT : AggT T n) (hs : cs.size = n) (h : fn.results = #[.cell p T, .tmp t])
    (hp : a.tmps.getD p undef = .pointer (some ⟨g, 0, none⟩)) (hv : a.tmps.getD t undef = v) (hd : a.defers = []) (hg : w.heap[g]? = some (.cells cs U (0, 0))) (hR : R (.returned (.tuple #[.agg cs, v])) w) : bodyPost Try.prog fn R .ret a w := by
  obtain ⟨d, h1, h2⟩ := hT.und
  have hl := run_loadVar_row (P := Try.prog) w g U T cs (0, 0) d hg h1 (by cases d <;> first | rfl | simp at h2) (by rw [hs]; exact hT.siz)
  refine bodyPost_ret (v := .tuple #[.agg cs, v]) ?_ hd hR
  have hp' : a.tmps[p]?.getD undef = .pointer (some ⟨g, 0, none⟩) := by simpa using hp
  have hv' : a.tmps[t]?.getD undef = v := by simpa using hv
  simp [results, h, hp', hv', asAddr, hl]
theorem res_agg2b {fn : Func} {p t : Tmp} {T U : TypeId} {n : Nat} {cs : Array Value} {v : Value} {R : Ending → World → Prop} {a : Act} {w : World} {g : Nat} (hT : AggT T n) (hs : cs.size = n) (h : fn.results = #[.tmp t, .cell p T])
    (hp : a.tmps.getD p undef = .pointer (some ⟨g, 0, none⟩)) (hv : a.tmps.getD t undef = v) (hd : a.defers = []) (hg : w.heap[g]? = some (.cells cs U (0, 0))) (hR : R (.returned (.tuple #[v, .agg cs])) w) : bodyPost Try.prog fn R .ret a w := by
  obtain ⟨d, h1, h2⟩ := hT.und
  have hl := run_loadVar_row (P := Try.prog) w g U T cs (0, 0) d hg h1 (by cases d <;> first | rfl | simp at h2) (by rw [hs]; exact hT.siz)
  refine bodyPost_ret (v := .tuple #[v, .agg cs]) ?_ hd hR
  have hp' : a.tmps[p]?.getD undef = .pointer (some ⟨g, 0, none⟩) := by simpa using hp
  have hv' : a.tmps[t]?.getD undef = v := by simpa using hv
  simp [results, h, hp', hv', asAddr, hl]
/-- a world in which nothing below has turned, by blocks -/
theorem heap_of {w w' : World} {g : Nat} {o : Obj} (h : Below w.heap.size w w') (hg : w.heap[g]? = some o) : w'.heap[g]? = some o := by
  rcases Nat.lt_or_ge g w.heap.size with c | c
  · exact (h.block g c).trans hg
  · rw [Array.getElem?_eq_none c] at hg; cases hg

end Go.Proofs.Ytdoehnckolhloaa

namespace Go.Proofs.Ytdoehnckolhloaa
open Go.RowKit

@[irreducible] def dv (n : Int) (f g : Nat → Nat) : Array Value := row 33 fun i => if i = 0 then .int .i64 n else if i < 17 then .int .u8 (f (i - 1)) else .int .u8 (g (i - 17))
theorem dv_size (n : Int) (f g : Nat → Nat) : (dv n f g).size = 33 := by unfold dv; exact row_size _ _
theorem dv_n (n : Int) (f g : Nat → Nat) : (dv n f g)[0]? = some (.int .i64 n) := by unfold dv; rw [row_get _ _ (by omega)]; rfl
theorem dv_b (n : Int) (f g : Nat → Nat) {i : Nat} (h : i < 16) : (dv n f g)[1 + i]? = some (.int .u8 (f i)) := by
  unfold dv; rw [row_get _ _ (by omega), if_neg (by omega), if_pos (by omega), show 1 + i - 1 = i from by omega]
theorem dv_w (n : Int) (f g : Nat → Nat) {i : Nat} (h : i < 16) : (dv n f g)[17 + i]? = some (.int .u8 (g i)) := by
  unfold dv; rw [row_get _ _ (by omega), if_neg (by omega), if_neg (by omega), show 17 + i - 17 = i from by omega]
theorem dv_zero : dv 0 (fun _ => 0) (fun _ => 0) = #[Value.int .i64 0, Value.int .u8 0, Value.int .u8 0, Value.int .u8 0, Value.int .u8 0, Value.int .u8 0, Value.int .u8 0, Value.int .u8 0, Value.int .u8 0, Value.int .u8 0, Value.int .u8 0, Value.int .u8 0, Value.int .u8 0, Value.int .u8 0, Value.int .u8 0, Value.int .u8 0, Value.int .u8 0, Value.int .u8 0, Value.int .u8 0, Value.int .u8 0, Value.int .u8 0, Value.int .u8 0, Value.int .u8 0, Value.int .u8 0, Value.int .u8 0, Value.int .u8 0, Value.int .u8 0, Value.int .u8 0, Value.int .u8 0, Value.int .u8 0, Value.int .u8 0, Value.int .u8 0, Value.int .u8 0] := by unfold dv row; rfl
theorem dv_lit (n : Int) : dv n (fun _ => 0) (fun _ => 0) = #[Value.int .i64 n, Value.int .u8 0, Value.int .u8 0, Value.int .u8 0, Value.int .u8 0, Value.int .u8 0, Value.int .u8 0, Value.int .u8 0, Value.int .u8 0, Value.int .u8 0, Value.int .u8 0, Value.int .u8 0, Value.int .u8 0, Value.int .u8 0, Value.int .u8 0, Value.int .u8 0, Value.int .u8 0, Value.int .u8 0, Value.int .u8 0, Value.int .u8 0, Value.int .u8 0, Value.int .u8 0, Value.int .u8 0, Value.int .u8 0, Value.int .u8 0, Value.int .u8 0, Value.int .u8 0, Value.int .u8 0, Value.int .u8 0, Value.int .u8 0, Value.int .u8 0, Value.int .u8 0, Value.int .u8 0] := by unfold dv row; rfl
theorem dv_cells (n : Int) (f g : Nat → Nat) : (dv n f g).all (·.oneCell') = true := by
  unfold dv row
  simp only [List.all_toArray, List.all_map, List.all_eq_true, Function.comp]
  intro i _
  split
  · rfl
  · split <;> rfl

def Is33 (c : Array Value) : Prop := c.size = 33
@[go_sem] theorem is33_dv (n : Int) (f g : Nat → Nat) : Is33 (dv n f g) ↔ True := ⟨fun _ => trivial, fun _ => dv_size n f g⟩
@[go_sem] theorem is33_lit (x0 x1 x2 x3 x4 x5 x6 x7 x8 x9 x10 x11 x12 x13 x14 x15 x16 x17 x18 x19 x20 x21 x22 x23 x24 x25 x26 x27 x28 x29 x30 x31 x32 : Value) : Is33 #[x0, x1, x2, x3, x4, x5, x6, x7, x8, x9, x10, x11, x12, x13, x14, x15, x16, x17, x18, x19, x20, x21, x22, x23, x24, x25, x26, x27, x28, x29, x30, x31, x32] ↔ True := ⟨fun _ => trivial, fun _ => rfl⟩
@[go_sem] theorem ones_dv (n : Int) (f g : Nat → Nat) : Ones (dv n f g) ↔ True := ⟨fun _ => trivial, fun _ => dv_cells n f g⟩
@[go_sem] theorem ones_z33 : Ones #[Value.int .i64 0, Value.int .u8 0, Value.int .u8 0, Value.int .u8 0, Value.int .u8 0, Value.int .u8 0, Value.int .u8 0, Value.int .u8 0, Value.int .u8 0, Value.int .u8 0, Value.int .u8 0, Value.int .u8 0, Value.int .u8 0, Value.int .u8 0, Value.int .u8 0, Value.int .u8 0, Value.int .u8 0, Value.int .u8 0, Value.int .u8 0, Value.int .u8 0, Value.int .u8 0, Value.int .u8 0, Value.int .u8 0, Value.int .u8 0, Value.int .u8 0, Value.int .u8 0, Value.int .u8 0, Value.int .u8 0, Value.int .u8 0, Value.int .u8 0, Value.int .u8 0, Value.int .u8 0, Value.int .u8 0] ↔ True := ⟨fun _ => trivial, fun _ => by unfold Ones; simp [Value.oneCell']⟩
@[go_sem] theorem rowOk_at33 {w : World} {g : Nat} {c : Array Value} {t : TypeId} (h : g = w.heap.size) (hc : Is33 c) : rowOk (w.alloc (.cells c t)) g 33 ↔ True := ⟨fun _ => trivial, fun _ => ⟨c, t, heap_at _ _ _ h, hc⟩⟩

@[go_sem] theorem cellsOf_ne {w : World} {g g' : Nat} {c' : Array Value} (h : g ≠ g') : cellsOf (w.setRow g' c') g = cellsOf w g := cellsOf_setRow_ne h
@[go_sem] theorem cellsOf_same33 {w : World} {g : Nat} {c' : Array Value} (h : rowOk w g 33) : cellsOf (w.setRow g c') g = c' := cellsOf_setRow h
@[go_sem] theorem cellsOf_same16 {w : World} {g : Nat} {c' : Array Value} (h : rowOk w g 16) : cellsOf (w.setRow g c') g = c' := cellsOf_setRow h
@[go_sem] theorem rowOk_ne {w : World} {g g' n : Nat} {c' : Array Value} (h : g ≠ g') : rowOk (w.setRow g' c') g n ↔ rowOk w g n := rowOk_setRow_ne h
@[go_sem] theorem rowOk_same33 {w : World} {g : Nat} {c' : Array Value} (h : rowOk w g 33) (hc : Is33 c') : rowOk (w.setRow g c') g 33 ↔ True := ⟨fun _ => trivial, fun _ => rowOk_setRow h hc⟩
@[go_sem] theorem rowOk_same16 {w : World} {g : Nat} {c' : Array Value} (h : rowOk w g 16) (hc : Is16 c') : rowOk (w.setRow g c') g 16 ↔ True := ⟨fun _ => trivial, fun _ => rowOk_setRow h hc⟩
/-- Black and White of thirty-three cells -/
def blackOf (c : Array Value) : Array Value := c.extract 1 17
def whiteOf (c : Array Value) : Array Value := c.extract 17 33
def setBlack (c b : Array Value) : Array Value := (c.toList.take 1 ++ b.toList ++ c.toList.drop 17).toArray
def setWhite (c b : Array Value) : Array Value := (c.toList.take 17 ++ b.toList ++ c.toList.drop 33).toArray
theorem get_cases (n : Int) (f g : Nat → Nat) (i : Nat) : (dv n f g)[i]? = if i < 33 then some (if i = 0 then .int .i64 n else if i < 17 then .int .u8 (f (i - 1)) else .int .u8 (g (i - 17))) else none := by
  unfold dv
  by_cases h : i < 33
  · rw [row_get _ _ h, if_pos h]
  · rw [row_none _ _ h, if_neg h]
theorem av_cases (f : Nat → Nat) (i : Nat) : (av f)[i]? = if i < 16 then some (.int .u8 (f i)) else none := by
  by_cases h : i < 16
  · rw [av_get _ h, if_pos h]
  · rw [if_neg h, Array.getElem?_eq_none]; rw [av_size]; omega
@[go_sem] theorem blackOf_dv (n : Int) (f g : Nat → Nat) : blackOf (dv n f g) = av f := by
  apply Array.ext_getElem?
  intro i
  unfold blackOf
  rw [Array.getElem?_extract, get_cases, av_cases, dv_size]
  by_cases h : i < 16
  · rw [if_pos (by omega), if_pos (by omega), if_neg (by omega), if_pos (by omega), if_pos h, show 1 + i - 1 = i from by omega]
  · rw [if_neg (by omega), if_neg h]
@[go_sem] theorem whiteOf_dv (n : Int) (f g : Nat → Nat) : whiteOf (dv n f g) = av g := by
  apply Array.ext_getElem?
  intro i
  unfold whiteOf
  rw [Array.getElem?_extract, get_cases, av_cases, dv_size]
  by_cases h : i < 16
  · rw [if_pos (by omega), if_pos (by omega), if_neg (by omega), if_neg (by omega), if_pos h, show 17 + i - 17 = i from by omega]
  · rw [if_neg (by omega), if_neg h]
@[go_sem] theorem setBlack_dv (n : Int) (f g b : Nat → Nat) : setBlack (dv n f g) (av b) = dv n b g := by
  apply Array.ext_getElem?
  intro i
  have l1 : (dv n f g).toList.length = 33 := by simpa using dv_size n f g
  have l2 : (av b).toList.length = 16 := by simpa using av_size b
  unfold setBlack
  rw [List.getElem?_toArray, get_cases]
  by_cases h0 : i < 1
  · rw [List.getElem?_append_left (by simp [l1]; omega), List.getElem?_append_left (by simp [l1]; omega), List.getElem?_take_of_lt (by omega), Array.getElem?_toList, get_cases]
    rw [if_pos (by omega), if_pos (by omega), if_pos (by omega), if_pos (by omega)]
  · by_cases h1 : i < 17
    · rw [List.getElem?_append_left (by simp [l1, l2, av_size]; omega), List.getElem?_append_right (by simp [l1]; omega), Array.getElem?_toList, av_cases]
      have e : i - (List.take 1 (dv n f g).toList).length = i - 1 := by simp [l1, dv_size]
      rw [e, if_pos (by omega), if_pos (by omega), if_neg (by omega), if_pos h1]
    · rw [List.getElem?_append_right (by simp [l1, l2, av_size, dv_size]; omega), List.getElem?_drop, Array.getElem?_toList, get_cases]
      have e : 17 + (i - (List.take 1 (dv n f g).toList ++ (av b).toList).length) = i := by simp [l1, l2, av_size, dv_size]; omega
      rw [e]
      by_cases h2 : i < 33
      · rw [if_pos h2, if_pos h2, if_neg (by omega), if_neg (by omega), if_neg (by omega), if_neg (by omega)]
      · rw [if_neg h2, if_neg h2]
@[go_sem] theorem setWhite_dv (n : Int) (f g b : Nat → Nat) : setWhite (dv n f g) (av b) = dv n f b := by
  apply Array.ext_getElem?
  intro i
  have l1 : (dv n f g).toList.length = 33 := by simpa using dv_size n f g
  have l2 : (av b).toList.length = 16 := by simpa using av_size b
  unfold setWhite
  rw [List.getElem?_toArray, get_cases]
  by_cases h0 : i < 17
  · rw [List.getElem?_append_left (by simp [l1, dv_size, av_size]; omega), List.getElem?_append_left (by simp [l1, dv_size]; omega), List.getElem?_take_of_lt (by omega), Array.getElem?_toList, get_cases]
    by_cases h : i = 0
    · simp [h]
    · simp [h, h0, show i < 33 from by omega]
  · by_cases h1 : i < 33
    · rw [List.getElem?_append_left (by simp [l1, l2, av_size, dv_size]; omega), List.getElem?_append_right (by simp [l1, dv_size]; omega), Array.getElem?_toList, av_cases]
      have e : i - (List.take 17 (dv n f g).toList).length = i - 17 := by simp [l1, dv_size]
      rw [e, if_pos (by omega), if_pos (by omega), if_neg (by omega), if_neg (by omega)]
    · rw [List.getElem?_append_right (by simp [l1, l2, av_size, dv_size]; omega), List.getElem?_drop, Array.getElem?_toList, get_cases, if_neg (by omega), if_neg h1]

theorem aggD : AggT 29 33 := ⟨⟨_, Try.underlying29, rfl⟩, by kernel_rfl⟩
theorem aggL : AggT 24 33 := ⟨⟨_, Try.underlying24, rfl⟩, by kernel_rfl⟩

/-- sixteen cells out of the midst of a block, and into it -/
theorem run_load_mid {T n : Nat} (hT : AggT T n) {w : World} {g o : Nat} {cs : Array Value} (h : (cellsOf w g).extract o (o + n) = cs) (hs : cs.size = n) :
    (loadT T (.pointer (some ⟨g, o, none⟩))).run Try.prog w = .ok (.value (.agg cs)) w := by
  obtain ⟨d, hd, hd'⟩ := hT.und
  have := run_loadVar_mid (P := Try.prog) w g o T cs.toList d (fun j v hv => by
    rw [cell_of_cells]
    rw [← h] at hv
    simp only [Array.getElem?_toList, Array.getElem?_extract] at hv
    split at hv
    · exact hv
    · cases hv) hd (by cases d <;> first | rfl | simp at hd') (by rw [Array.length_toList, hs]; exact hT.siz)
  simp only [loadT, Instr.loadAt, Instr.sureAddr, Sem.run_bind, Sem.run_pure, Result.andThen_ok, this]
theorem run_store_mid {T n m : Nat} (hT : AggT T n) {w : World} {g o : Nat} {cs : Array Value} (h : rowOk w g m) (hm : o + n ≤ m) (hs : cs.size = n) (hc : cs.all (·.oneCell') = true) :
    (storeT T (.pointer (some ⟨g, o, none⟩)) (.agg cs)).run Try.prog w = .ok .skip (w.setRow g ((cellsOf w g).toList.take o ++ cs.toList ++ (cellsOf w g).toList.drop (o + n)).toArray) := by
  obtain ⟨t, h1, h2⟩ := h.heap
  have := run_storeCells_at (P := Try.prog) g o t cs.toList 0 (cellsOf w g) w h1 (by simp [hs, h2]; omega) (fun v hv => (Array.all_eq_true_iff_forall_mem.1 hc) v (by simpa using hv))
  rcases hq : Try.prog.info? T with _ | i
  · have := hT.siz; rw [hq] at this; cases this
  · have hi : i.size = n := by have := hT.siz; rw [hq] at this; simpa using this
    simp only [Nat.add_zero, Array.length_toList, hs] at this
    simp only [storeT, Instr.storeAt, Instr.sureAddr, storeVar, sizeOf, typeInfo, hq, Value.cells, Sem.run_bind, Sem.run_pure, Result.andThen_ok, run_program, hs, hi, ne_eq, not_true_eq_false, if_false, this]

section
variable (ρ : Operand → Value) (dst : Option Tmp) (x y : Operand) (ty : TypeId) (pos : String) (after : Array Edge) (guard : Option (Nat × Bool))
@[go_sem ↓] theorem exec_loadD : execOp ρ { dst, op := .load 29 x, type := ty, pos, after, guard } = loadT 29 (ρ x) := rfl
@[go_sem ↓] theorem exec_storeD : execOp ρ { dst, op := .store 29 x y, type := ty, pos, after, guard } = storeT 29 (ρ x) (ρ y) := rfl
@[go_sem ↓] theorem exec_loadL : execOp ρ { dst, op := .load 24 x, type := ty, pos, after, guard } = loadT 24 (ρ x) := rfl
end
section
variable {w : World} {g : Nat} {cs : Array Value}
@[go_sem] theorem run_loadD (h : Is33 (cellsOf w g)) : (loadT 29 (.pointer (some ⟨g, 0, none⟩))).run Try.prog w = .ok (.value (.agg (cellsOf w g))) w := run_loadT aggD h (by decide)
@[go_sem] theorem run_loadL (h : Is33 (cellsOf w g)) : (loadT 24 (.pointer (some ⟨g, 0, none⟩))).run Try.prog w = .ok (.value (.agg (cellsOf w g))) w := run_loadT aggL h (by decide)
@[go_sem] theorem run_storeD (h : rowOk w g 33) (hs : Is33 cs) (hc : Ones cs) :
    (storeT 29 (.pointer (some ⟨g, 0, none⟩)) (.agg cs)).run Try.prog w = .ok .skip (w.setRow g cs) := run_storeT aggD h hs hc
@[go_sem] theorem run_loadPb (h : Is16 (blackOf (cellsOf w g))) : (loadT 27 (.pointer (some ⟨g, 1, none⟩))).run Try.prog w = .ok (.value (.agg (blackOf (cellsOf w g)))) w := run_load_mid aggP rfl h
@[go_sem] theorem run_loadPw (h : Is16 (whiteOf (cellsOf w g))) : (loadT 27 (.pointer (some ⟨g, 17, none⟩))).run Try.prog w = .ok (.value (.agg (whiteOf (cellsOf w g)))) w := run_load_mid aggP rfl h
@[go_sem] theorem run_loadAb (h : Is16 (blackOf (cellsOf w g))) : (loadT 22 (.pointer (some ⟨g, 1, none⟩))).run Try.prog w = .ok (.value (.agg (blackOf (cellsOf w g)))) w := run_load_mid aggA rfl h
@[go_sem] theorem run_loadAw (h : Is16 (whiteOf (cellsOf w g))) : (loadT 22 (.pointer (some ⟨g, 17, none⟩))).run Try.prog w = .ok (.value (.agg (whiteOf (cellsOf w g)))) w := run_load_mid aggA rfl h
@[go_sem] theorem run_storePb (h : rowOk w g 33) (hs : Is16 cs) (hc : Ones cs) :
    (storeT 27 (.pointer (some ⟨g, 1, none⟩)) (.agg cs)).run Try.prog w = .ok .skip (w.setRow g (setBlack (cellsOf w g) cs)) := run_store_mid aggP h (by decide) hs hc
@[go_sem] theorem run_storePw (h : rowOk w g 33) (hs : Is16 cs) (hc : Ones cs) :
    (storeT 27 (.pointer (some ⟨g, 17, none⟩)) (.agg cs)).run Try.prog w = .ok .skip (w.setRow g (setWhite (cellsOf w g) cs)) := run_store_mid aggP h (by decide) hs hc
end

end Go.Proofs.Ytdoehnckolhloaa

namespace Go.Proofs.Ytdoehnckolhloaa
/-- pigeonhole -/
theorem pigeon : ∀ (n : Nat) (f : Nat → Nat), (∀ i, i ≤ n → f i < n) → ∃ i j, i < j ∧ j ≤ n ∧ f i = f j := by
  intro n
  induction n with
  | zero => intro f h; exact absurd (h 0 (Nat.le_refl _)) (by omega)
  | succ n ih =>
    intro f h
    by_cases he : ∃ i, i ≤ n ∧ f i = f (n + 1)
    · obtain ⟨i, hi, e⟩ := he
      exact ⟨i, n + 1, by omega, Nat.le_refl _, e⟩
    · have hne : ∀ i, i ≤ n → f i ≠ f (n + 1) := fun i hi e => he ⟨i, hi, e⟩
      obtain ⟨i, j, hij, hj, e⟩ := ih (fun i => if f i = n then f (n + 1) else f i) (by
        intro i hi
        have h1 := h i (by omega)
        have h2 := h (n + 1) (Nat.le_refl _)
        have h3 := hne i hi
        by_cases c : f i = n
        · simp only [if_pos c]; omega
        · simp only [if_neg c]; omega)
      refine ⟨i, j, hij, by omega, ?_⟩
      have h3 := hne i (by omega)
      have h4 := hne j (by omega)
      by_cases c : f i = n <;> by_cases d : f j = n
      · omega
      · simp only [if_pos c, if_neg d] at e; omega
      · simp only [if_neg c, if_pos d] at e; omega
      · simp only [if_neg c, if_neg d] at e; exact e

def Bij (p : Nat → Nat) (n : Nat) : Prop := (∀ x, x < n → p x < n) ∧ ∀ x y, x < n → y < n → p x = p y → x = y

def it (p : Nat → Nat) : Nat → Nat → Nat
  | 0, x => x
  | k + 1, x => p (it p k x)

theorem it_add (p : Nat → Nat) (j k x : Nat) : it p (j + k) x = it p j (it p k x) := by
  induction j with
  | zero => simp [it]
  | succ j ih => rw [Nat.succ_add]; simp [it, ih]

theorem it_succ' (p : Nat → Nat) (k x : Nat) : it p (k + 1) x = it p k (p x) := by
  rw [it_add p k 1 x]; rfl

variable {p q : Nat → Nat} {n : Nat}

theorem Bij.it_lt (h : Bij p n) (k : Nat) {x : Nat} (hx : x < n) : it p k x < n := by
  induction k with
  | zero => exact hx
  | succ k ih => exact h.1 _ ih

theorem Bij.it_inj (h : Bij p n) (k : Nat) {x y : Nat} (hx : x < n) (hy : y < n) (e : it p k x = it p k y) : x = y := by
  induction k with
  | zero => exact e
  | succ k ih => exact ih (h.2 _ _ (h.it_lt k hx) (h.it_lt k hy) e)

theorem Bij.period (h : Bij p n) {x : Nat} (hx : x < n) : ∃ L, 0 < L ∧ L ≤ n ∧ it p L x = x := by
  obtain ⟨i, j, hij, hj, e⟩ := pigeon n (fun k => it p k x) (fun i _ => h.it_lt i hx)
  refine ⟨j - i, by omega, by omega, ?_⟩
  have e1 : it p i (it p (j - i) x) = it p i x := by rw [← it_add, show i + (j - i) = j from by omega]; exact e.symm
  exact h.it_inj i (h.it_lt _ hx) hx e1

theorem exists_least {P : Nat → Prop} (h : ∃ k, P k) : ∃ k, P k ∧ ∀ j, j < k → ¬ P j := by
  obtain ⟨k, hk⟩ := h
  induction k using Nat.strongRecOn with
  | _ k ih =>
    by_cases c : ∃ j, j < k ∧ P j
    · obtain ⟨j, hj, hp⟩ := c; exact ih j hj hp
    · exact ⟨k, hk, fun j hj hp => c ⟨j, hj, hp⟩⟩

/-- the least period -/
theorem Bij.least (h : Bij p n) {x : Nat} (hx : x < n) : ∃ L, 0 < L ∧ L ≤ n ∧ it p L x = x ∧ ∀ j, 0 < j → j < L → it p j x ≠ x := by
  obtain ⟨L0, h0, h1, h2⟩ := h.period hx
  obtain ⟨L, hL, hmin⟩ := exists_least (P := fun L => 0 < L ∧ it p L x = x) ⟨L0, h0, h2⟩
  refine ⟨L, hL.1, ?_, hL.2, fun j hj hlt e => hmin j hlt ⟨hj, e⟩⟩
  by_cases c : L ≤ L0
  · omega
  · exact absurd ⟨h0, h2⟩ (hmin L0 (by omega))

theorem it_mul {L x : Nat} (e : it p L x = x) (k : Nat) : it p (L * k) x = x := by
  induction k with
  | zero => rfl
  | succ k ih => rw [Nat.mul_succ, it_add, e, ih]

theorem it_mod {L x : Nat} (e : it p L x = x) (k : Nat) : it p k x = it p (k % L) x := by
  conv => lhs; rw [← Nat.mod_add_div k L, it_add, it_mul e]

/-- the orbit relation -/
def R (p : Nat → Nat) (x y : Nat) : Prop := ∃ k, it p k x = y
theorem R.refl (x : Nat) : R p x x := ⟨0, rfl⟩
theorem R.step (x : Nat) : R p x (p x) := ⟨1, rfl⟩
theorem R.trans {x y z : Nat} (h : R p x y) (k : R p y z) : R p x z := by
  obtain ⟨i, rfl⟩ := h; obtain ⟨j, rfl⟩ := k; exact ⟨j + i, it_add p j i x⟩
theorem R.lt (h : Bij p n) {x y : Nat} (hx : x < n) (r : R p x y) : y < n := by obtain ⟨k, rfl⟩ := r; exact h.it_lt k hx
theorem R.symm (h : Bij p n) {x y : Nat} (hx : x < n) (r : R p x y) : R p y x := by
  obtain ⟨k, rfl⟩ := r
  obtain ⟨L, h0, _, h2⟩ := h.period hx
  refine ⟨L * (k + 1) - k, ?_⟩
  rw [← it_add, show L * (k + 1) - k + k = L * (k + 1) from by
    have : k + 1 ≤ L * (k + 1) := Nat.le_mul_of_pos_left _ h0
    omega, it_mul h2]
theorem R.of_steps {S : Nat → Nat → Prop} (hr : ∀ x, x < n → S x x) (ht : ∀ x y z, x < n → y < n → z < n → S x y → S y z → S x z)
    (h : Bij p n) (hs : ∀ x, x < n → S x (p x)) {x y : Nat} (hx : x < n) (r : R p x y) : S x y := by
  obtain ⟨k, rfl⟩ := r
  induction k with
  | zero => exact hr x hx
  | succ k ih => exact ht _ _ _ hx (h.it_lt k hx) (h.it_lt (k + 1) hx) ih (hs _ (h.it_lt k hx))
open Classical in
/-- number of classes of a relation below n: its least elements -/
noncomputable def cl (E : Nat → Nat → Prop) (n : Nat) : Nat := ((List.range n).filter fun x => decide (∀ y, y < n → E x y → x ≤ y)).length

theorem count_one (l : List Nat) (hl : l.Nodup) (P Q : Nat → Bool) (b : Nat) (hb : b ∈ l) (hq : Q b = true) (h : ∀ x, x ∈ l → P x = (Q x && x != b)) :
    (l.filter Q).length = (l.filter P).length + 1 := by
  induction l with
  | nil => cases hb
  | cons x l ih =>
    have hn := List.nodup_cons.1 hl
    by_cases e : x = b
    · subst e
      have hp : P x = false := by rw [h x (by simp)]; simp
      rw [List.filter_cons_of_pos hq, List.filter_cons_of_neg (by simp [hp])]
      have : l.filter P = l.filter Q := by
        apply List.filter_congr
        intro y hy
        have hne : y ≠ x := fun e => hn.1 (e ▸ hy)
        rw [h y (by simp [hy])]; simp [hne]
      rw [this]; rfl
    · have hb' : b ∈ l := by
        rcases List.mem_cons.1 hb with c | c
        · exact absurd c.symm e
        · exact c
      have := ih hn.2 hb' (fun y hy => h y (by simp [hy]))
      have hx : P x = Q x := by rw [h x (by simp)]; simp [e]
      by_cases c : Q x = true
      · rw [List.filter_cons_of_pos c, List.filter_cons_of_pos (by rw [hx]; exact c)]; simp [this]
      · rw [List.filter_cons_of_neg c, List.filter_cons_of_neg (by rw [hx]; exact c)]; exact this

structure Eqv (E : Nat → Nat → Prop) (n : Nat) : Prop where
  refl : ∀ x, x < n → E x x
  symm : ∀ x y, x < n → y < n → E x y → E y x
  trans : ∀ x y z, x < n → y < n → z < n → E x y → E y z → E x z

def Join (E : Nat → Nat → Prop) (a b x y : Nat) : Prop := E x y ∨ (E x a ∧ E b y) ∨ (E x b ∧ E a y)

theorem Eqv.leastOf {E : Nat → Nat → Prop} {n a : Nat} (h : Eqv E n) (ha : a < n) : ∃ m, m < n ∧ E a m ∧ ∀ y, y < n → E a y → m ≤ y := by
  obtain ⟨m, hm, hmin⟩ := exists_least (P := fun m => m < n ∧ E a m) ⟨a, ha, h.refl a ha⟩
  exact ⟨m, hm.1, hm.2, fun y hy e => Nat.le_of_not_lt fun c => hmin y c ⟨hy, e⟩⟩

theorem cl_congr {E E' : Nat → Nat → Prop} {n : Nat} (h : ∀ x y, x < n → y < n → (E x y ↔ E' x y)) : cl E n = cl E' n := by
  unfold cl
  congr 1
  apply List.filter_congr
  intro x hx
  have hx := List.mem_range.1 hx
  rw [decide_eq_decide]
  exact ⟨fun k y hy e => k y hy ((h x y hx hy).2 e), fun k y hy e => k y hy ((h x y hx hy).1 e)⟩

theorem cl_join_lt {E : Nat → Nat → Prop} {n a b A B : Nat} (h : Eqv E n) (ha : a < n) (hb : b < n) (hA : A < n) (hB : B < n) (eA : E a A) (_mA : ∀ y, y < n → E a y → A ≤ y)
    (eB : E b B) (mB : ∀ y, y < n → E b y → B ≤ y) (_hne : ¬ E a b) (hlt : A < B) : cl E n = cl (Join E a b) n + 1 := by
  classical
  unfold cl
  refine count_one _ List.nodup_range _ _ B (List.mem_range.2 hB) ?_ ?_
  · simp only [decide_eq_true_eq]
    exact fun y hy e => mB y hy (h.trans _ _ _ hb hB hy eB e)
  · intro x hx
    have hx := List.mem_range.1 hx
    rw [Bool.eq_iff_iff]
    simp only [decide_eq_true_eq, Bool.and_eq_true, bne_iff_ne, ne_eq]
    constructor
    · intro k
      refine ⟨fun y hy e => k y hy (.inl e), ?_⟩
      rintro rfl
      have := k A hA (.inr (.inr ⟨h.symm _ _ hb hx eB, eA⟩))
      omega
    · rintro ⟨k, kb⟩ y hy (e | ⟨e1, e2⟩ | ⟨e1, e2⟩)
      · exact k y hy e
      · have h1 := k A hA (h.trans _ _ _ hx ha hA e1 eA)
        have h2 := mB y hy e2
        omega
      · exfalso
        have h1 := k B hB (h.trans _ _ _ hx hb hB e1 eB)
        have h2 := mB x hx (h.symm _ _ hx hb e1)
        omega

theorem Join.comm {E : Nat → Nat → Prop} {a b x y : Nat} : Join E a b x y ↔ Join E b a x y := by
  unfold Join; constructor <;> rintro (h | h | h) <;> simp [h]

theorem cl_join {E : Nat → Nat → Prop} {n a b : Nat} (h : Eqv E n) (ha : a < n) (hb : b < n) (hne : ¬ E a b) : cl E n = cl (Join E a b) n + 1 := by
  obtain ⟨A, hA, eA, mA⟩ := h.leastOf ha
  obtain ⟨B, hB, eB, mB⟩ := h.leastOf hb
  rcases Nat.lt_trichotomy A B with c | c | c
  · exact cl_join_lt h ha hb hA hB eA mA eB mB hne c
  · exact absurd (h.trans _ _ _ ha hA hb eA (c ▸ h.symm _ _ hb hB eB)) hne
  · rw [cl_congr (E := Join E a b) (E' := Join E b a) (fun _ _ _ _ => Join.comm)]
    exact cl_join_lt h hb ha hB hA eB mB eA mA (fun e => hne (h.symm _ _ hb ha e)) c

theorem Eqv.join {E : Nat → Nat → Prop} {n a b : Nat} (h : Eqv E n) (ha : a < n) (hb : b < n) : Eqv (Join E a b) n where
  refl x hx := .inl (h.refl x hx)
  symm x y hx hy := by
    rintro (e | ⟨e, f⟩ | ⟨e, f⟩)
    · exact .inl (h.symm _ _ hx hy e)
    · exact .inr (.inr ⟨h.symm _ _ hb hy f, h.symm _ _ hx ha e⟩)
    · exact .inr (.inl ⟨h.symm _ _ ha hy f, h.symm _ _ hx hb e⟩)
  trans x y z hx hy hz := by
    have S := h.symm; have T := h.trans
    rintro (e | ⟨e, f⟩ | ⟨e, f⟩) (g | ⟨g, k⟩ | ⟨g, k⟩)
    · exact .inl (T _ _ _ hx hy hz e g)
    · exact .inr (.inl ⟨T _ _ _ hx hy ha e g, k⟩)
    · exact .inr (.inr ⟨T _ _ _ hx hy hb e g, k⟩)
    · exact .inr (.inl ⟨e, T _ _ _ hb hy hz f g⟩)
    · exact .inl (T _ _ _ hx ha hz e (S _ _ hz ha (T _ _ _ hz hb ha (S _ _ hb hz k) (T _ _ _ hb hy ha f g))))
    · exact .inl (T _ _ _ hx ha hz e k)
    · exact .inr (.inr ⟨e, T _ _ _ ha hy hz f g⟩)
    · exact .inl (T _ _ _ hx hb hz e k)
    · exact .inl (T _ _ _ hx hb hz e (S _ _ hz hb (T _ _ _ hz ha hb (S _ _ ha hz k) (T _ _ _ ha hy hb f g))))

theorem Bij.eqv {p : Nat → Nat} {n : Nat} (h : Bij p n) : Eqv (R p) n := ⟨fun x _ => R.refl x, fun _ _ hx _ r => r.symm h hx, fun _ _ _ _ _ _ => R.trans⟩

/-- a and b exchanged -/
def sw (a b x : Nat) : Nat := if x = a then b else if x = b then a else x
/-- first the exchange, then p -/
def mulsw (p : Nat → Nat) (a b x : Nat) : Nat := p (sw a b x)

theorem sw_lt {a b x n : Nat} (ha : a < n) (hb : b < n) (hx : x < n) : sw a b x < n := by unfold sw; split; omega; split <;> omega
theorem sw_sw (a b x : Nat) : sw a b (sw a b x) = x := by
  unfold sw
  by_cases h1 : x = a
  · subst h1; by_cases h : b = x <;> simp [h]
  · by_cases h2 : x = b
    · subst h2; simp [h1]
    · simp [h1, h2]
theorem Bij.mulsw {p : Nat → Nat} {n a b : Nat} (h : Bij p n) (ha : a < n) (hb : b < n) : Bij (mulsw p a b) n := by
  refine ⟨fun x hx => h.1 _ (sw_lt ha hb hx), fun x y hx hy e => ?_⟩
  have := h.2 _ _ (sw_lt ha hb hx) (sw_lt ha hb hy) e
  rw [← sw_sw a b x, this, sw_sw]
theorem mulsw_mulsw (p : Nat → Nat) (a b : Nat) : mulsw (mulsw p a b) a b = p := by funext x; simp [mulsw, sw_sw]

/-- an orbit is walked on by the changed permutation as long as neither a nor b is met -/
theorem it_mulsw {p : Nat → Nat} {a b x : Nat} (k : Nat) (h : ∀ j, j < k → it p j x ≠ a ∧ it p j x ≠ b) : it (mulsw p a b) k x = it p k x := by
  induction k with
  | zero => rfl
  | succ k ih =>
    have := h k (by omega)
    simp only [it]
    rw [ih fun j hj => h j (by omega)]
    simp [mulsw, sw, this.1, this.2]

theorem R_mulsw_ab {p : Nat → Nat} {n a b : Nat} (h : Bij p n) (hb : b < n) (hne : ¬ R p a b) (hne' : ¬ R p b a) : R (mulsw p a b) a b := by
  obtain ⟨L, h0, _, h2, h3⟩ := h.least hb
  have hab : a ≠ b := fun e => hne (e ▸ R.refl _)
  have e1 : mulsw p a b a = p b := by simp [mulsw, sw]
  refine ⟨(L - 1) + 1, ?_⟩
  rw [it_succ', e1, it_mulsw, ← it_succ', show L - 1 + 1 = L from by omega, h2]
  intro j hj
  rw [← it_succ']
  exact ⟨fun e => hne' ⟨_, e⟩, fun e => h3 (j + 1) (by omega) (by omega) e⟩

theorem R_mulsw_of_ne {p : Nat → Nat} {n a b : Nat} (h : Bij p n) (ha : a < n) (hb : b < n) (hne : ¬ R p a b) {x y : Nat} (hx : x < n) :
    R (mulsw p a b) x y ↔ Join (R p) a b x y := by
  have hne' : ¬ R p b a := fun r => hne (r.symm h hb)
  have hq := h.mulsw ha hb
  have rab : R (mulsw p a b) a b := R_mulsw_ab h hb hne hne'
  have rba : R (mulsw p a b) b a := rab.symm hq ha
  have step : ∀ z, z < n → R (mulsw p a b) z (p z) := by
    intro z hz
    by_cases c : z = a
    · subst c
      refine rab.trans ⟨1, ?_⟩
      have : z ≠ b := fun e => hne (e ▸ R.refl _)
      simp [it, mulsw, sw, Ne.symm this]
    · by_cases d : z = b
      · subst d
        exact rba.trans ⟨1, by simp [it, mulsw, sw]⟩
      · exact ⟨1, by simp [it, mulsw, sw, c, d]⟩
  have up : ∀ x y, x < n → R p x y → R (mulsw p a b) x y := fun x y hx r => R.of_steps (n := n) (fun z _ => R.refl z) (fun _ _ _ _ _ _ => R.trans) h step hx r
  have J := h.eqv.join ha hb
  constructor
  · intro r
    refine R.of_steps (n := n) J.refl J.trans hq ?_ hx r
    intro z hz
    by_cases c : z = a
    · subst c; exact .inr (.inl ⟨R.refl _, by simpa [mulsw, sw] using R.step b⟩)
    · by_cases d : z = b
      · subst d
        exact .inr (.inr ⟨R.refl _, by simpa [mulsw, sw, c] using R.step a⟩)
      · exact .inl (by simpa [mulsw, sw, c, d] using R.step (p := p) z)
  · rintro (e | ⟨e, f⟩ | ⟨e, f⟩)
    · exact up _ _ hx e
    · exact (up _ _ hx e).trans (rab.trans (up _ _ hb f))
    · exact (up _ _ hx e).trans (rba.trans (up _ _ ha f))

theorem R_split {p : Nat → Nat} {n a b : Nat} (h : Bij p n) (ha : a < n) (hab : a ≠ b) (r : R p a b) : ¬ R (mulsw p a b) a b := by
  obtain ⟨L, h0, _, h2, h3⟩ := h.least ha
  obtain ⟨k, hk⟩ := r
  rw [it_mod h2] at hk
  have hj : k % L < L := Nat.mod_lt _ h0
  generalize k % L = j at hk hj
  have hj0 : 0 < j := by rcases Nat.eq_zero_or_pos j with c | c; · subst c; exact absurd hk hab
                         · exact c
  -- the iterates of a are different
  have hd : ∀ i i', i < i' → i' < L → it p i a ≠ it p i' a := by
    intro i i' hi hi' e
    have : it p (i' - i) a = a := by
      refine h.it_inj i (h.it_lt _ ha) ha ?_
      rw [← it_add, show i + (i' - i) = i' from by omega]; exact e.symm
    exact h3 (i' - i) (by omega) (by omega) this
  -- the new orbit of a: a, p b, .., and a again
  have e1 : mulsw p a b a = it p (j + 1) a := by simp [mulsw, sw, it, hk]
  have walk : ∀ i, i + j + 1 ≤ L → it (mulsw p a b) (i + 1) a = it p (i + j + 1) a := by
    intro i hi
    rw [it_succ', e1, it_mulsw, ← it_add, show i + (j + 1) = i + j + 1 from by omega]
    intro m hm
    rw [← it_add]
    refine ⟨?_, ?_⟩
    · exact fun e => hd 0 (m + (j + 1)) (by omega) (by omega) e.symm
    · rw [← hk]; exact fun e => hd j (m + (j + 1)) (by omega) (by omega) e.symm
  have back : it (mulsw p a b) (L - j) a = a := by
    have := walk (L - j - 1) (by omega)
    rw [show L - j - 1 + 1 = L - j from by omega, show L - j - 1 + j + 1 = L from by omega, h2] at this
    exact this
  rintro ⟨k', hk'⟩
  rw [it_mod back] at hk'
  have hlt : k' % (L - j) < L - j := Nat.mod_lt _ (by omega)
  generalize k' % (L - j) = m at hk' hlt
  rcases m with _ | m
  · exact hab hk'
  · rw [walk m (by omega), ← hk] at hk'
    exact hd j (m + j + 1) (by omega) (by omega) hk'.symm

/-- number of orbits -/
noncomputable def orb (p : Nat → Nat) (n : Nat) : Nat := cl (R p) n

theorem orb_merge {p : Nat → Nat} {n a b : Nat} (h : Bij p n) (ha : a < n) (hb : b < n) (hne : ¬ R p a b) : orb p n = orb (mulsw p a b) n + 1 := by
  unfold orb
  rw [cl_congr (E := R (mulsw p a b)) (E' := Join (R p) a b) (fun x y hx _ => R_mulsw_of_ne h ha hb hne hx)]
  exact cl_join h.eqv ha hb hne
theorem orb_split {p : Nat → Nat} {n a b : Nat} (h : Bij p n) (ha : a < n) (hb : b < n) (hab : a ≠ b) (r : R p a b) : orb (mulsw p a b) n = orb p n + 1 := by
  have := orb_merge (h.mulsw ha hb) ha hb (R_split h ha hab r)
  rw [mulsw_mulsw] at this
  exact this
theorem it_fix {p : Nat → Nat} {x : Nat} (h : p x = x) (k : Nat) : it p k x = x := by
  induction k with
  | zero => rfl
  | succ k ih => simp only [it]; rw [ih, h]
theorem orb_id {n : Nat} (p : Nat → Nat) (hp : ∀ x, x < n → p x = x) : orb p n = n := by
  classical
  unfold orb cl
  rw [List.filter_eq_self.2, List.length_range]
  intro x hx
  have hx := List.mem_range.1 hx
  simp only [decide_eq_true_eq]
  rintro y _ ⟨k, rfl⟩
  rw [it_fix (hp x hx)]
  exact Nat.le_refl _
theorem orb_le (p : Nat → Nat) (n : Nat) : orb p n ≤ n := by
  unfold orb cl
  exact Nat.le_trans (List.length_filter_le _ _) (by simp)

theorem orb_congr {p q : Nat → Nat} {n : Nat} (h : Bij p n) (e : ∀ x, x < n → p x = q x) : orb p n = orb q n := by
  have hit : ∀ k x, x < n → it p k x = it q k x := by
    intro k x hx
    induction k with
    | zero => rfl
    | succ k ih => simp only [it]; rw [← ih]; exact e _ (h.it_lt k hx)
  exact cl_congr fun x y hx _ => ⟨fun ⟨k, hk⟩ => ⟨k, by rw [← hit k x hx]; exact hk⟩, fun ⟨k, hk⟩ => ⟨k, by rw [hit k x hx]; exact hk⟩⟩

theorem Bij.congr {p q : Nat → Nat} {n : Nat} (h : Bij p n) (e : ∀ x, x < n → p x = q x) : Bij q n :=
  ⟨fun x hx => e x hx ▸ h.1 x hx, fun x y hx hy he => h.2 x y hx hy (by rw [e x hx, e y hy]; exact he)⟩

theorem Bij.comp {p q : Nat → Nat} {n : Nat} (hp : Bij p n) (hq : Bij q n) : Bij (fun x => q (p x)) n :=
  ⟨fun x hx => hq.1 _ (hp.1 x hx), fun x y hx hy e => hp.2 _ _ hx hy (hq.2 _ _ (hp.1 x hx) (hp.1 y hy) e)⟩

/-- the components that two permutations have together -/
def Both (p q : Nat → Nat) (n : Nat) (x y : Nat) : Prop := ∀ E : Nat → Nat → Prop, Eqv E n → (∀ z, z < n → E z (p z)) → (∀ z, z < n → E z (q z)) → E x y
theorem Both.eqv (p q : Nat → Nat) (n : Nat) : Eqv (Both p q n) n :=
  ⟨fun x hx _ h _ _ => h.refl x hx, fun x y hx hy r E h a b => h.symm x y hx hy (r E h a b), fun x y z hx hy hz r s E h a b => h.trans x y z hx hy hz (r E h a b) (s E h a b)⟩
theorem Both.left (p q : Nat → Nat) (n : Nat) {x : Nat} (hx : x < n) : Both p q n x (p x) := fun _ _ a _ => a x hx
theorem Both.right (p q : Nat → Nat) (n : Nat) {x : Nat} (hx : x < n) : Both p q n x (q x) := fun _ _ _ b => b x hx

theorem Both_join {p q : Nat → Nat} {n a b : Nat} (ha : a < n) (hb : b < n) {x y : Nat} :
    Both p q n x y → Join (Both p (mulsw q a b) n) a b x y := by
  intro r
  refine r _ ((Both.eqv p (mulsw q a b) n).join ha hb) (fun z hz => .inl (Both.left _ _ _ hz)) ?_
  intro z hz
  by_cases c : z = a
  · subst c
    refine .inr (.inl ⟨(Both.eqv p _ n).refl _ hz, ?_⟩)
    have := Both.right p (mulsw q z b) n hb
    have e : mulsw q z b b = q z := by
      by_cases d : b = z
      · subst d; simp [mulsw, sw]
      · simp [mulsw, sw, d]
    rwa [e] at this
  · by_cases d : z = b
    · subst d
      refine .inr (.inr ⟨(Both.eqv p _ n).refl _ hz, ?_⟩)
      have := Both.right p (mulsw q a z) n ha
      have e : mulsw q a z a = q z := by simp [mulsw, sw]
      rwa [e] at this
    · refine .inl ?_
      have := Both.right p (mulsw q a b) n hz
      have e : mulsw q a b z = q z := by simp [mulsw, sw, c, d]
      rwa [e] at this

theorem R.both_right {p q : Nat → Nat} {n : Nat} (hq : Bij q n) {x y : Nat} (hx : x < n) (r : R q x y) : Both p q n x y :=
  R.of_steps (n := n) (Both.eqv p q n).refl (Both.eqv p q n).trans hq (fun _ hz => Both.right p q n hz) hx r
theorem R.both_left {p q : Nat → Nat} {n : Nat} (hp : Bij p n) {x y : Nat} (hx : x < n) (r : R p x y) : Both p q n x y :=
  R.of_steps (n := n) (Both.eqv p q n).refl (Both.eqv p q n).trans hp (fun _ hz => Both.left p q n hz) hx r

/-- two numbers of orbits and the third: parity, and the bound -/
theorem euler_bound (n : Nat) (p : Nat → Nat) (hp : Bij p n) : ∀ (k : Nat) (q : Nat → Nat), Bij q n → n - orb q n = k →
    (orb p n + orb q n + orb (fun x => p (q x)) n + n) % 2 = 0 ∧ orb p n + orb q n + orb (fun x => p (q x)) n ≤ n + 2 * cl (Both p q n) n := by
  intro k
  induction k with
  | zero =>
    intro q hq hk
    have hle := orb_le q n
    -- all orbits are of one number
    have hid : ∀ x, x < n → q x = x := by
      intro x hx
      by_cases c : q x = x
      · exact c
      · have := orb_split hq hx (hq.1 x hx) (fun e => c e.symm) (R.step x)
        have := orb_le (mulsw q x (q x)) n
        omega
    have e1 : orb (fun x => p (q x)) n = orb p n := (orb_congr hp fun x hx => by rw [hid x hx]).symm
    have e2 : cl (Both p q n) n = orb p n := by
      refine (cl_congr fun x y hx hy => ⟨fun r => R.both_left hp hx r, fun r => ?_⟩).symm
      exact r _ hp.eqv (fun z _ => R.step z) (fun z hz => by rw [hid z hz]; exact R.refl z)
    have e3 : orb q n = n := orb_id q hid
    rw [e1, e2, e3]
    omega
  | succ k ih =>
    intro q hq hk
    have hex : ∃ x, x < n ∧ q x ≠ x := by
      refine Classical.byContradiction fun c => ?_
      have := orb_id (n := n) q (fun x hx => Classical.byContradiction fun d => c ⟨x, hx, d⟩)
      omega
    obtain ⟨a, ha, hne⟩ := hex
    have hb := hq.1 a ha
    have hs := orb_split hq ha hb (fun e => hne e.symm) (R.step a)
    have hq' := hq.mulsw ha hb
    obtain ⟨h1, h2⟩ := ih (mulsw q a (q a)) hq' (by have := orb_le (mulsw q a (q a)) n; omega)
    generalize hbn : q a = b at *
    -- p after q is (p after q') after the exchange
    have ec : (fun x => p (q x)) = mulsw (fun x => p (mulsw q a b x)) a b := by funext x; simp [mulsw, sw_sw]
    have hc := hq'.comp hp
    have hab : a ≠ b := fun e => hne (e ▸ rfl)
    have hsub : ∀ x y, x < n → y < n → Both p (mulsw q a b) n x y → Both p q n x y := by
      intro x y hx hy r
      refine r _ (Both.eqv p q n) (fun z hz => Both.left p q n hz) (fun z hz => ?_)
      -- q' z is q of z, a or b, and a, b hang together by q
      have rab : Both p q n a b := by have := Both.right p q n ha; rwa [hbn] at this
      by_cases c : z = a
      · subst c
        have : mulsw q z b z = q b := by simp [mulsw, sw]
        rw [this]
        exact (Both.eqv p q n).trans _ _ _ hz hb (hq.1 _ hb) rab (Both.right p q n hb)
      · by_cases d : z = b
        · have : mulsw q a b z = q a := by simp [mulsw, sw, d, Ne.symm hab]
          rw [this, hbn, d]
          exact (Both.eqv p q n).refl _ hb
        · have : mulsw q a b z = q z := by simp [mulsw, sw, c, d]
          rw [this]; exact Both.right p q n hz
    by_cases hj : Both p (mulsw q a b) n a b
    · -- nothing is joined
      have ecl : cl (Both p q n) n = cl (Both p (mulsw q a b) n) n := by
        refine cl_congr fun x y hx hy => ⟨fun r => ?_, hsub x y hx hy⟩
        have E := Both.eqv p (mulsw q a b) n
        rcases Both_join (b := b) ha hb r with e | ⟨e, f⟩ | ⟨e, f⟩
        · exact e
        · exact E.trans _ _ _ hx ha hy e (E.trans _ _ _ ha hb hy hj f)
        · exact E.trans _ _ _ hx hb hy e (E.trans _ _ _ hb ha hy (E.symm _ _ ha hb hj) f)
      by_cases hr : R (fun x => p (mulsw q a b x)) a b
      · have := orb_split hc ha hb hab hr
        rw [ec, ecl]; omega
      · have := orb_merge hc ha hb hr
        rw [ec, ecl]; omega
    · have ecl : cl (Both p (mulsw q a b) n) n = cl (Both p q n) n + 1 := by
        rw [cl_join (Both.eqv p (mulsw q a b) n) ha hb hj]
        congr 1
        refine cl_congr fun x y hx hy => ⟨fun r => ?_, Both_join ha hb⟩
        have E := Both.eqv p q n
        have rab : Both p q n a b := by have := Both.right p q n ha; rwa [hbn] at this
        rcases r with e | ⟨e, f⟩ | ⟨e, f⟩
        · exact hsub _ _ hx hy e
        · exact E.trans _ _ _ hx ha hy (hsub _ _ hx ha e) (E.trans _ _ _ ha hb hy rab (hsub _ _ hb hy f))
        · exact E.trans _ _ _ hx hb hy (hsub _ _ hx hb e) (E.trans _ _ _ hb ha hy (E.symm _ _ ha hb rab) (hsub _ _ ha hy f))
      have hr : ¬ R (fun x => p (mulsw q a b x)) a b := by
        intro r
        refine hj (R.of_steps (n := n) (Both.eqv p (mulsw q a b) n).refl (Both.eqv p (mulsw q a b) n).trans hc ?_ ha r)
        intro z hz
        exact (Both.eqv p _ n).trans _ _ _ hz (hq'.1 z hz) (hc.1 z hz) (Both.right p _ n hz) (Both.left p _ n (hq'.1 z hz))
      have := orb_merge hc ha hb hr
      rw [ec]; omega
open Classical in
/-- the least number of steps that leads x to itself -/
noncomputable def per (p : Nat → Nat) (x : Nat) : Nat := if h : ∃ L, 0 < L ∧ it p L x = x then Classical.choose (exists_least h) else 0

theorem per_spec {p : Nat → Nat} {n x : Nat} (h : Bij p n) (hx : x < n) : 0 < per p x ∧ per p x ≤ n ∧ it p (per p x) x = x ∧ ∀ j, 0 < j → j < per p x → it p j x ≠ x := by
  obtain ⟨L, h0, h1, h2, _⟩ := h.least hx
  have hex : ∃ L, 0 < L ∧ it p L x = x := ⟨L, h0, h2⟩
  have hs := Classical.choose_spec (exists_least hex)
  have e : per p x = Classical.choose (exists_least hex) := by unfold per; rw [dif_pos hex]
  rw [← e] at hs
  refine ⟨hs.1.1, ?_, hs.1.2, fun j hj hlt ej => hs.2 j hlt ⟨hj, ej⟩⟩
  refine Nat.le_of_not_lt fun c => hs.2 L (by omega) ⟨h0, h2⟩

/-- the numbers of the cycle of x, from x on -/
noncomputable def orbit (p : Nat → Nat) (x : Nat) : List Nat := (List.range (per p x)).map fun i => it p i x

theorem it_distinct {p : Nat → Nat} {n x : Nat} (h : Bij p n) (hx : x < n) {i j : Nat} (hij : i < j) (hj : j < per p x) : it p i x ≠ it p j x := by
  intro e
  have : it p (j - i) x = x := by
    refine h.it_inj i (h.it_lt _ hx) hx ?_
    rw [← it_add, show i + (j - i) = j from by omega]; exact e.symm
  exact (per_spec h hx).2.2.2 (j - i) (by omega) (by omega) this

theorem it_back {p : Nat → Nat} {n x : Nat} (h : Bij p n) (hx : x < n) {k : Nat} : it p k x = x ↔ per p x ∣ k := by
  obtain ⟨h0, _, h2, h3⟩ := per_spec h hx
  constructor
  · intro e
    rw [it_mod h2] at e
    refine Nat.dvd_of_mod_eq_zero ?_
    rcases Nat.eq_zero_or_pos (k % per p x) with c | c
    · exact c
    · exact absurd e (h3 _ c (Nat.mod_lt _ h0))
  · rintro ⟨m, rfl⟩
    exact it_mul h2 m

theorem mem_orbit {p : Nat → Nat} {n x y : Nat} (h : Bij p n) (hx : x < n) : y ∈ orbit p x ↔ R p x y := by
  unfold orbit
  simp only [List.mem_map, List.mem_range]
  constructor
  · rintro ⟨i, _, e⟩; exact ⟨i, e⟩
  · rintro ⟨k, e⟩
    have := (per_spec h hx)
    exact ⟨k % per p x, Nat.mod_lt _ this.1, by rw [← it_mod this.2.2.1]; exact e⟩

def upd (m : Nat → Bool) (x : Nat) : Nat → Bool := fun y => y == x || m y

/-- a cycle as the program walks it: from x on, until a number has been met -/
def cyc (p : Nat → Nat) : Nat → (Nat → Bool) → Nat → List Nat
  | 0, _, _ => []
  | f + 1, m, x => if m x = true then [] else x :: cyc p f (upd m x) (p x)
def cycMet (p : Nat → Nat) : Nat → (Nat → Bool) → Nat → Nat → Bool
  | 0, m, _ => m
  | f + 1, m, x => if m x = true then m else cycMet p f (upd m x) (p x)

theorem cyc_gen {p : Nat → Nat} {n x : Nat} (h : Bij p n) (hx : x < n) (m : Nat → Bool) (hm : ∀ y, y < n → m (p y) = true → m y = true) (hmx : m x = false) :
    ∀ (d j f : Nat), d = per p x - j → j ≤ per p x → d < f →
      cyc p f (fun y => m y || ((List.range j).map fun i => it p i x).contains y) (it p j x) = (List.range' j (per p x - j)).map (fun i => it p i x) ∧
      cycMet p f (fun y => m y || ((List.range j).map fun i => it p i x).contains y) (it p j x) = fun y => m y || (orbit p x).contains y := by
  have hm' : ∀ j, m (it p j x) = false := by
    intro j
    induction j with
    | zero => exact hmx
    | succ j ih =>
      rcases hb : m (it p (j + 1) x) with _ | _
      · rfl
      · have := hm _ (h.it_lt j hx) hb; rw [ih] at this; cases this
  intro d
  induction d with
  | zero =>
    intro j f hd hj hf
    obtain rfl : j = per p x := by omega
    obtain ⟨f, rfl⟩ : ∃ f', f = f' + 1 := ⟨f - 1, by omega⟩
    have hc : ((List.range (per p x)).map fun i => it p i x).contains x = true := by
      simp only [List.contains_iff_mem]
      exact (mem_orbit h hx).2 (R.refl x)
    simp only [cyc, cycMet, (per_spec h hx).2.2.1, hc, Bool.or_true, if_true, Nat.sub_self, List.range'_zero, List.map_nil]
    exact ⟨trivial, rfl⟩
  | succ d ih =>
    intro j f hd hj hf
    obtain ⟨f, rfl⟩ : ∃ f', f = f' + 1 := ⟨f - 1, by omega⟩
    have hc : (m (it p j x) || ((List.range j).map fun i => it p i x).contains (it p j x)) = false := by
      rw [hm', Bool.false_or, Bool.eq_false_iff]
      simp only [ne_eq, List.contains_iff_mem, List.mem_map, List.mem_range, not_exists, not_and]
      exact fun i hi e => it_distinct h hx hi (by omega) e
    have hu : upd (fun y => m y || ((List.range j).map fun i => it p i x).contains y) (it p j x) = fun y => m y || ((List.range (j + 1)).map fun i => it p i x).contains y := by
      funext y
      simp only [upd, List.range_succ, List.map_append, List.map_cons, List.map_nil, List.contains_eq_mem, List.mem_append, List.mem_singleton]
      rw [Bool.eq_iff_iff]; simp only [Bool.or_eq_true, beq_iff_eq, decide_eq_true_eq]
      constructor
      · rintro (a | b | c); exact .inr (.inr a); exact .inl b; exact .inr (.inl c)
      · rintro (b | c | a); exact .inr (.inl b); exact .inr (.inr c); exact .inl a
    obtain ⟨g1, g2⟩ := ih (j + 1) f (by omega) (by omega) (by omega)
    simp only [cyc, cycMet, hc, Bool.false_eq_true, if_false, hu]
    have e : p (it p j x) = it p (j + 1) x := rfl
    rw [e, g1, g2]
    refine ⟨?_, rfl⟩
    rw [show per p x - j = (per p x - (j + 1)) + 1 from by omega, List.range'_succ, List.map_cons]

theorem cyc_orbit {p : Nat → Nat} {n x f : Nat} (h : Bij p n) (hx : x < n) (hf : n < f) (m : Nat → Bool) (hm : ∀ y, y < n → m (p y) = true → m y = true) (hmx : m x = false) :
    cyc p f m x = orbit p x ∧ cycMet p f m x = fun y => m y || (orbit p x).contains y := by
  have := cyc_gen h hx m hm hmx (per p x) 0 f (by omega) (by omega) (by have := (per_spec h hx).2.1; omega)
  simpa [it, orbit, List.range_eq_range'] using this

/-- the cycles of the numbers below k, and what has been met -/
def cycs (p : Nat → Nat) : Nat → List (List Nat)
  | 0 => []
  | k + 1 => if cyc p 17 (met p k) k = [] then cycs p k else cycs p k ++ [cyc p 17 (met p k) k]
where
  met (p : Nat → Nat) : Nat → Nat → Bool
    | 0 => fun _ => false
    | k + 1 => cycMet p 17 (met p k) k

open Classical in
/-- x is the least number of its cycle -/
noncomputable def head (p : Nat → Nat) (n x : Nat) : Bool := decide (∀ y, y < n → R p x y → x ≤ y)

theorem cycs_spec {p : Nat → Nat} {n : Nat} (h : Bij p n) (hn : n ≤ 16) : ∀ k, k ≤ n →
    cycs p k = ((List.range k).filter (head p n)).map (orbit p) ∧ ∀ y, cycs.met p k y = true ↔ ∃ x, x < k ∧ R p x y := by
  intro k
  induction k with
  | zero => intro _; exact ⟨rfl, fun y => by simp [cycs.met]⟩
  | succ k ih =>
    intro hk
    obtain ⟨h1, h2⟩ := ih (by omega)
    have hkn : k < n := by omega
    rcases hb : cycs.met p k k with _ | _
    · have hm : ∀ y, y < n → cycs.met p k (p y) = true → cycs.met p k y = true := by
        intro y hy hmy
        obtain ⟨x, hx, r⟩ := (h2 _).1 hmy
        exact (h2 _).2 ⟨x, hx, r.trans (R.symm h hy (R.step y))⟩
      obtain ⟨e1, e2⟩ := cyc_orbit h hkn (f := 17) (by omega) _ hm hb
      have hne : orbit p k ≠ [] := by
        intro e
        have : k ∈ orbit p k := (mem_orbit h hkn).2 (R.refl k)
        rw [e] at this; cases this
      have hhead : head p n k = true := by
        simp only [head, decide_eq_true_eq]
        intro y hy r
        refine Nat.le_of_not_lt fun c => ?_
        have := (h2 k).2 ⟨y, c, R.symm h hkn r⟩
        rw [hb] at this; cases this
      refine ⟨?_, fun y => ?_⟩
      · simp only [cycs, e1, if_neg hne, List.range_succ, List.filter_append, List.map_append, h1, List.filter_cons, hhead, if_true, List.filter_nil, List.map_cons, List.map_nil]
      · show cycMet p 17 (cycs.met p k) k y = true ↔ _
        rw [e2]
        simp only [Bool.or_eq_true, List.contains_iff_mem, h2, mem_orbit h hkn]
        constructor
        · rintro (⟨x, hx, r⟩ | r)
          · exact ⟨x, by omega, r⟩
          · exact ⟨k, by omega, r⟩
        · rintro ⟨x, hx, r⟩
          rcases Nat.lt_or_ge x k with c | c
          · exact .inl ⟨x, c, r⟩
          · obtain rfl : x = k := by omega
            exact .inr r
    · have ec : cyc p 17 (cycs.met p k) k = [] := by simp [cyc, hb]
      have em : cycMet p 17 (cycs.met p k) k = cycs.met p k := by simp [cycMet, hb]
      have hhead : head p n k = false := by
        rw [Bool.eq_false_iff]
        simp only [head, ne_eq, decide_eq_true_eq]
        intro c
        obtain ⟨x, hx, r⟩ := (h2 k).1 hb
        have := c x (by omega) (R.symm h (by omega) r)
        omega
      refine ⟨?_, fun y => ?_⟩
      · simp only [cycs, ec, if_true, List.range_succ, List.filter_append, h1, List.filter_cons, hhead, List.filter_nil, List.append_nil, Bool.false_eq_true, if_false]
      · show cycMet p 17 (cycs.met p k) k y = true ↔ _
        rw [em, h2]
        constructor
        · rintro ⟨x, hx, r⟩; exact ⟨x, by omega, r⟩
        · rintro ⟨x, hx, r⟩
          rcases Nat.lt_or_ge x k with c | c
          · exact ⟨x, c, r⟩
          · obtain rfl : x = k := by omega
            obtain ⟨z, hz, r'⟩ := (h2 x).1 hb
            exact ⟨z, hz, r'.trans r⟩

theorem cycs_length {p : Nat → Nat} {n : Nat} (h : Bij p n) (hn : n ≤ 16) : (cycs p n).length = orb p n := by
  rw [(cycs_spec h hn n (Nat.le_refl _)).1, List.length_map]
  rfl
theorem cycs_flat {p : Nat → Nat} {n : Nat} (h : Bij p n) (hn : n ≤ 16) : (cycs p n).flatten.Perm (List.range n) := by
  rw [(cycs_spec h hn n (Nat.le_refl _)).1]
  refine (List.perm_ext_iff_of_nodup ?_ List.nodup_range).2 ?_
  · rw [List.nodup_iff_pairwise_ne, List.pairwise_flatten]
    constructor
    · intro l hl
      obtain ⟨x, hx, rfl⟩ := List.mem_map.1 hl
      have hx := List.mem_range.1 (List.mem_filter.1 hx).1
      unfold orbit
      rw [List.pairwise_map]
      have := List.pairwise_lt_range (n := per p x)
      exact (List.Pairwise.imp_of_mem (fun {i j} _ hj hlt => it_distinct h hx hlt (List.mem_range.1 hj)) this)
    · rw [List.pairwise_map]
      have := (List.pairwise_lt_range (n := n)).filter (head p n)
      refine List.Pairwise.imp_of_mem ?_ this
      intro x y hx hy hlt z hz w hw e
      subst e
      have hxn := List.mem_range.1 (List.mem_filter.1 hx).1
      have hyn := List.mem_range.1 (List.mem_filter.1 hy).1
      have hh := (List.mem_filter.1 hy).2
      simp only [head, decide_eq_true_eq] at hh
      have := hh x hxn (((mem_orbit h hyn).1 hw).trans (R.symm h hxn ((mem_orbit h hxn).1 hz)))
      omega
  · intro y
    simp only [List.mem_flatten, List.mem_map, List.mem_filter, List.mem_range]
    constructor
    · rintro ⟨l, ⟨x, ⟨hx, _⟩, rfl⟩, hy⟩
      exact R.lt h hx ((mem_orbit h hx).1 hy)
    · intro hy
      obtain ⟨m, hm, r, hmin⟩ := h.eqv.leastOf hy
      have r' := R.symm h hy r
      refine ⟨_, ⟨m, ⟨hm, ?_⟩, rfl⟩, (mem_orbit h hm).2 r'⟩
      simp only [head, decide_eq_true_eq]
      exact fun z hz rz => hmin z hz (r.trans rz)

theorem cycs_sum {p : Nat → Nat} {n : Nat} (h : Bij p n) (hn : n ≤ 16) : ((cycs p n).map List.length).sum = n := by
  rw [← List.length_flatten, (cycs_flat h hn).length_eq, List.length_range]

theorem cycs_mem {p : Nat → Nat} {n : Nat} (h : Bij p n) (hn : n ≤ 16) {c : List Nat} (hc : c ∈ cycs p n) : ∃ x, x < n ∧ c = orbit p x := by
  rw [(cycs_spec h hn n (Nat.le_refl _)).1] at hc
  obtain ⟨x, hx, rfl⟩ := List.mem_map.1 hc
  exact ⟨x, List.mem_range.1 (List.mem_filter.1 hx).1, rfl⟩

theorem cycs_of {p : Nat → Nat} {n : Nat} (h : Bij p n) (hn : n ≤ 16) {y : Nat} (hy : y < n) : ∃ x, x < n ∧ orbit p x ∈ cycs p n ∧ R p x y := by
  have : y ∈ (cycs p n).flatten := (cycs_flat h hn).mem_iff.2 (List.mem_range.2 hy)
  obtain ⟨c, hc, hyc⟩ := List.mem_flatten.1 this
  obtain ⟨x, hx, rfl⟩ := cycs_mem h hn hc
  exact ⟨x, hx, hc, (mem_orbit h hx).1 hyc⟩

theorem orbit_length (p : Nat → Nat) (x : Nat) : (orbit p x).length = per p x := by simp [orbit]

theorem per_of_R {p : Nat → Nat} {n x y : Nat} (h : Bij p n) (hx : x < n) (r : R p x y) : per p y = per p x := by
  have hy := r.lt h hx
  obtain ⟨k, rfl⟩ := r
  have key : ∀ m, it p m (it p k x) = it p k x ↔ it p m x = x := by
    intro m
    rw [← it_add, Nat.add_comm, it_add]
    exact ⟨fun e => h.it_inj k (h.it_lt _ hx) hx e, fun e => by rw [e]⟩
  have a := (it_back h hx (k := per p (it p k x))).1 ((key _).1 (per_spec h hy).2.2.1)
  have b := (it_back h hy (k := per p x)).1 ((key _).2 (per_spec h hx).2.2.1)
  exact Nat.dvd_antisymm b a

/-- the lengths of the cycles -/
def lens (p : Nat → Nat) (n : Nat) : List Nat := (cycs p n).map List.length

theorem lens_pos {p : Nat → Nat} {n : Nat} (h : Bij p n) (hn : n ≤ 16) {l : Nat} (hl : l ∈ lens p n) : 1 ≤ l ∧ l ≤ n := by
  obtain ⟨c, hc, rfl⟩ := List.mem_map.1 hl
  obtain ⟨x, hx, rfl⟩ := cycs_mem h hn hc
  rw [orbit_length]
  have := per_spec h hx
  omega

/-- k steps lead all numbers to themselves exactly if k is a multiple of all lengths -/
theorem it_all {p : Nat → Nat} {n k : Nat} (h : Bij p n) (hn : n ≤ 16) : (∀ x, x < n → it p k x = x) ↔ ∀ l ∈ lens p n, l ∣ k := by
  constructor
  · intro e l hl
    obtain ⟨c, hc, rfl⟩ := List.mem_map.1 hl
    obtain ⟨x, hx, rfl⟩ := cycs_mem h hn hc
    rw [orbit_length]
    exact (it_back h hx).1 (e x hx)
  · intro d y hy
    obtain ⟨x, hx, hc, r⟩ := cycs_of h hn hy
    rw [it_back h hy, per_of_R h hx r, ← orbit_length]
    exact d _ (List.mem_map.2 ⟨_, hc, rfl⟩)

/-- the least common multiple of a list -/
def lcms (l : List Nat) : Nat := l.foldl Nat.lcm 1
theorem foldl_lcm_dvd (l : List Nat) : ∀ a k, l.foldl Nat.lcm a ∣ k ↔ a ∣ k ∧ ∀ x ∈ l, x ∣ k := by
  induction l with
  | nil => intro a k; simp
  | cons x l ih =>
    intro a k
    rw [List.foldl_cons, ih]
    constructor
    · rintro ⟨h1, h2⟩
      refine ⟨Nat.dvd_trans (Nat.dvd_lcm_left _ _) h1, fun y hy => ?_⟩
      rcases List.mem_cons.1 hy with rfl | c
      · exact Nat.dvd_trans (Nat.dvd_lcm_right _ _) h1
      · exact h2 y c
    · rintro ⟨h1, h2⟩
      exact ⟨Nat.lcm_dvd h1 (h2 x (by simp)), fun y hy => h2 y (by simp [hy])⟩
theorem lcms_dvd (l : List Nat) (k : Nat) : lcms l ∣ k ↔ ∀ x ∈ l, x ∣ k := by unfold lcms; rw [foldl_lcm_dvd]; simp

theorem foldl_lcm_pos (l : List Nat) : ∀ a, 0 < a → (∀ x ∈ l, 0 < x) → 0 < l.foldl Nat.lcm a := by
  induction l with
  | nil => intro a h _; exact h
  | cons x l ih => intro a h hx; exact ih _ (Nat.lcm_pos h (hx x (by simp))) fun y hy => hx y (by simp [hy])
theorem foldl_lcm_le (l : List Nat) : ∀ a, (∀ x ∈ l, 0 < x) → l.foldl Nat.lcm a ≤ a * 2 ^ l.sum := by
  induction l with
  | nil => intro a _; simp
  | cons x l ih =>
    intro a hx
    rw [List.foldl_cons]
    refine Nat.le_trans (ih _ fun y hy => hx y (by simp [hy])) ?_
    have h1 : Nat.lcm a x ≤ a * x := Nat.div_le_self _ _
    have h2 : x ≤ 2 ^ x := Nat.le_of_lt Nat.lt_two_pow_self
    rw [List.sum_cons, Nat.pow_add, ← Nat.mul_assoc]
    exact Nat.mul_le_mul_right _ (Nat.le_trans h1 (Nat.mul_le_mul_left _ h2))
theorem lcms_pos {p : Nat → Nat} {n : Nat} (h : Bij p n) (hn : n ≤ 16) : 0 < lcms (lens p n) := foldl_lcm_pos _ 1 (by omega) fun _ hl => (lens_pos h hn hl).1
theorem lcms_le {p : Nat → Nat} {n : Nat} (h : Bij p n) (hn : n ≤ 16) : lcms (lens p n) ≤ 65536 := by
  have := foldl_lcm_le (lens p n) 1 fun _ hl => (lens_pos h hn hl).1
  have e : (lens p n).sum = n := cycs_sum h hn
  rw [e, Nat.one_mul] at this
  exact Nat.le_trans this (Nat.le_trans (Nat.pow_le_pow_right (by omega) hn) (by decide))

/-- the order: the least number of steps, at least 1, that leads all to themselves -/
theorem order_spec {p : Nat → Nat} {n : Nat} (h : Bij p n) (hn : n ≤ 16) {k : Nat} (h0 : 0 < k) (hk : ∀ x, x < n → it p k x = x) (hmin : ∀ j, 0 < j → j < k → ¬ ∀ x, x < n → it p j x = x) :
    k = lcms (lens p n) := by
  have d : lcms (lens p n) ∣ k := (lcms_dvd _ _).2 ((it_all h hn).1 hk)
  have hp := lcms_pos h hn
  have hle := Nat.le_of_dvd h0 d
  rcases Nat.lt_or_ge (lcms (lens p n)) k with c | c
  · exact absurd ((it_all h hn).2 ((lcms_dvd _ _).1 (Nat.dvd_refl _))) (hmin _ hp c)
  · omega
theorem order_all {p : Nat → Nat} {n : Nat} (h : Bij p n) (hn : n ≤ 16) {x : Nat} (hx : x < n) : it p (lcms (lens p n)) x = x :=
  (it_all h hn).2 ((lcms_dvd _ _).1 (Nat.dvd_refl _)) x hx

/-- sorted in descending order -/
def sortD (l : List Nat) : List Nat := l.mergeSort (fun a b => decide (b ≤ a))
theorem sortD_perm (l : List Nat) : (sortD l).Perm l := List.mergeSort_perm _ _
theorem sortD_pairwise (l : List Nat) : (sortD l).Pairwise (fun a b => b ≤ a) := by
  have := List.pairwise_mergeSort (le := fun a b : Nat => decide (b ≤ a)) (by intro a b c; simp; omega) (by intro a b; simp; omega) l
  exact this.imp (by simp)
theorem sortD_unique {l m : List Nat} (hp : m.Perm l) (hs : m.Pairwise (fun a b => b ≤ a)) : m = sortD l :=
  List.Perm.eq_of_pairwise (le := fun a b => b ≤ a) (fun a b _ _ h1 h2 => by omega) hs (sortD_pairwise l) (hp.trans (sortD_perm l).symm)

/-- the counting sort of the numbers k, k - 1, .., 1 -/
def countD (l : List Nat) : Nat → List Nat
  | 0 => []
  | k + 1 => List.replicate (l.count (k + 1)) (k + 1) ++ countD l k
theorem mem_countD {l : List Nat} {k x : Nat} (h : x ∈ countD l k) : x ≤ k := by
  induction k with
  | zero => cases h
  | succ k ih =>
    rcases List.mem_append.1 h with c | c
    · have := (List.mem_replicate.1 c).2; omega
    · have := ih c; omega
theorem countD_count (l : List Nat) (k x : Nat) : (countD l k).count x = if 1 ≤ x ∧ x ≤ k then l.count x else 0 := by
  induction k with
  | zero => simp only [countD, List.count_nil]; rw [if_neg (by omega)]
  | succ k ih =>
    rw [countD, List.count_append, ih, List.count_replicate]
    by_cases c : k + 1 = x
    · subst c
      rw [if_pos (by simp), if_neg (by omega), if_pos (by omega)]; rfl
    · rw [if_neg (by simpa using c)]
      by_cases d : 1 ≤ x ∧ x ≤ k
      · rw [if_pos d, if_pos (by omega)]; omega
      · rw [if_neg d, if_neg (by omega)]
theorem countD_sort {l : List Nat} {k : Nat} (h : ∀ x ∈ l, 1 ≤ x ∧ x ≤ k) : countD l k = sortD l := by
  refine sortD_unique ?_ ?_
  · rw [List.perm_iff_count]
    intro x
    rw [countD_count]
    by_cases d : 1 ≤ x ∧ x ≤ k
    · rw [if_pos d]
    · rw [if_neg d]
      exact (List.count_eq_zero.2 fun hx => d (h x hx)).symm
  · clear h
    induction k with
    | zero => exact List.Pairwise.nil
    | succ k ih =>
      rw [countD, List.pairwise_append]
      refine ⟨?_, ih, ?_⟩
      · rw [List.pairwise_replicate]; right; exact Nat.le_refl _
      · intro a ha b hb
        have := (List.mem_replicate.1 ha).2
        have := mem_countD hb
        omega
/-- the search for what can be reached: the list in the order of finding, and what has been found -/
def badd (s : List Nat × (Nat → Bool)) (y : Nat) : List Nat × (Nat → Bool) := if s.2 y = true then s else (s.1 ++ [y], upd s.2 y)
def bfs (p q : Nat → Nat) (z : Nat) : Nat → List Nat × (Nat → Bool)
  | 0 => ([z], upd (fun _ => false) z)
  | i + 1 => match (bfs p q z i).1[i]? with
    | none => bfs p q z i
    | some x => badd (badd (bfs p q z i) (p x)) (q x)

structure BInv (n : Nat) (s : List Nat × (Nat → Bool)) : Prop where
  nodup : s.1.Nodup
  lt : ∀ x ∈ s.1, x < n
  mem : ∀ x, s.2 x = true ↔ x ∈ s.1
theorem BInv.add {n : Nat} {s : List Nat × (Nat → Bool)} (h : BInv n s) {y : Nat} (hy : y < n) : BInv n (badd s y) := by
  unfold badd
  by_cases c : s.2 y = true
  · rw [if_pos c]; exact h
  · rw [if_neg c]
    have hn : y ∉ s.1 := fun e => c ((h.mem y).2 e)
    refine ⟨?_, ?_, ?_⟩
    · rw [List.nodup_append]
      exact ⟨h.nodup, by simp, fun a ha b hb e => by simp at hb; subst e; subst hb; exact hn ha⟩
    · intro x hx
      rcases List.mem_append.1 hx with d | d
      · exact h.lt x d
      · simp at d; omega
    · intro x
      simp only [upd, Bool.or_eq_true, beq_iff_eq, h.mem, List.mem_append, List.mem_singleton]
      exact Or.comm
theorem bfs_inv {p q : Nat → Nat} {n : Nat} (hp : ∀ x, x < n → p x < n) (hq : ∀ x, x < n → q x < n) {z : Nat} (hz : z < n) (i : Nat) : BInv n (bfs p q z i) := by
  induction i with
  | zero =>
    refine ⟨by simp [bfs], by simpa [bfs] using hz, fun x => by simp [bfs, upd]⟩
  | succ i ih =>
    rw [bfs]
    rcases e : (bfs p q z i).1[i]? with _ | x
    · exact ih
    · have hx := ih.lt x (List.mem_of_getElem? e)
      exact (ih.add (hp x hx)).add (hq x hx)
theorem nodup_le : ∀ (l : List Nat) (m : List Nat), l.Nodup → (∀ x ∈ l, x ∈ m) → l.length ≤ m.length := by
  intro l
  induction l with
  | nil => intro m _ _; simp
  | cons x l ih =>
    intro m hn hm
    have hn' := List.nodup_cons.1 hn
    have hx : x ∈ m := hm x (by simp)
    have := ih (m.erase x) hn'.2 fun y hy => by
      exact (List.mem_erase_of_ne (fun e => hn'.1 (by rw [← e]; exact hy))).2 (hm y (by simp [hy]))
    rw [List.length_erase_of_mem hx] at this
    have : 0 < m.length := List.length_pos_of_mem hx
    simp only [List.length_cons]; omega
theorem BInv.length_le {n : Nat} {s : List Nat × (Nat → Bool)} (h : BInv n s) : s.1.length ≤ n := by
  have : ∀ (l : List Nat) (m : List Nat), l.Nodup → (∀ x ∈ l, x ∈ m) → l.length ≤ m.length := by
    intro l
    induction l with
    | nil => intro m _ _; simp
    | cons x l ih =>
      intro m hn hm
      have hn' := List.nodup_cons.1 hn
      have hx : x ∈ m := hm x (by simp)
      have := ih (m.erase x) hn'.2 fun y hy => by
        exact (List.mem_erase_of_ne (fun e => hn'.1 (by rw [← e]; exact hy))).2 (hm y (by simp [hy]))
      rw [List.length_erase_of_mem hx] at this
      have : 0 < m.length := List.length_pos_of_mem hx
      simp only [List.length_cons]; omega
  have := this s.1 (List.range n) h.nodup fun x hx => List.mem_range.2 (h.lt x hx)
  simpa using this
theorem badd_le (s : List Nat × (Nat → Bool)) (y : Nat) : s.1 <+: (badd s y).1 := by
  unfold badd; split
  · exact List.prefix_refl _
  · exact List.prefix_append _ _
theorem bfs_pre (p q : Nat → Nat) (z i : Nat) : (bfs p q z i).1 <+: (bfs p q z (i + 1)).1 := by
  rw [bfs]
  split
  · exact List.prefix_refl _
  · exact (badd_le _ _).trans (badd_le _ _)
theorem bfs_pre' (p q : Nat → Nat) (z : Nat) {i j : Nat} (h : i ≤ j) : (bfs p q z i).1 <+: (bfs p q z j).1 := by
  induction j with
  | zero => obtain rfl : i = 0 := by omega
            exact List.prefix_refl _
  | succ j ih =>
    rcases Nat.lt_or_ge j i with c | c
    · obtain rfl : i = j + 1 := by omega
      exact List.prefix_refl _
    · exact (ih c).trans (bfs_pre p q z j)
/-- behind the end of the list nothing turns any more -/
theorem bfs_stop {p q : Nat → Nat} {z i : Nat} (h : (bfs p q z i).1.length ≤ i) {j : Nat} (hj : i ≤ j) : bfs p q z j = bfs p q z i := by
  induction j with
  | zero => obtain rfl : i = 0 := by omega
            rfl
  | succ j ih =>
    rcases Nat.lt_or_ge j i with c | c
    · obtain rfl : i = j + 1 := by omega
      rfl
    · rw [bfs, ih c, List.getElem?_eq_none (by omega)]
/-- all that is found hangs together with 0 -/
theorem bfs_both {p q : Nat → Nat} {n : Nat} (hp : ∀ x, x < n → p x < n) (hq : ∀ x, x < n → q x < n) {u : Nat} (h0 : u < n) (i : Nat) : ∀ x ∈ (bfs p q u i).1, Both p q n u x := by
  induction i with
  | zero => intro x hx; simp [bfs] at hx; subst hx; exact (Both.eqv p q n).refl _ h0
  | succ i ih =>
    rw [bfs]
    rcases e : (bfs p q u i).1[i]? with _ | z
    · exact ih
    · have hm := List.mem_of_getElem? e
      have hz := (bfs_inv hp hq h0 i).lt z hm
      have E := Both.eqv p q n
      have add : ∀ (s : List Nat × (Nat → Bool)) (y : Nat), (∀ x ∈ s.1, Both p q n u x) → Both p q n u y → ∀ x ∈ (badd s y).1, Both p q n u x := by
        intro s y hs hy x hx
        unfold badd at hx
        split at hx
        · exact hs x hx
        · rcases List.mem_append.1 hx with c | c
          · exact hs x c
          · simp at c; subst c; exact hy
      exact add _ _ (add _ _ ih (E.trans _ _ _ h0 hz (hp z hz) (ih z hm) (Both.left p q n hz))) (E.trans _ _ _ h0 hz (hq z hz) (ih z hm) (Both.right p q n hz))

/-- all numbers can be reached -/
def conn (p q : Nat → Nat) (n : Nat) : Prop := (bfs p q 0 16).1.length = n
theorem conn_all {p q : Nat → Nat} {n : Nat} (hp : ∀ x, x < n → p x < n) (hq : ∀ x, x < n → q x < n) (h0 : 0 < n) (hc : conn p q n) : ∀ x, x < n → Both p q n 0 x := by
  intro x hx
  have I := bfs_inv hp hq h0 16
  refine bfs_both hp hq h0 16 x ?_
  refine Classical.byContradiction fun hn => ?_
  have : BInv n ((bfs p q 0 16).1 ++ [x], upd (bfs p q 0 16).2 x) := by
    have := I.add hx
    unfold badd at this
    rwa [if_neg fun e => hn ((I.mem x).1 e)] at this
  have := this.length_le
  unfold conn at hc
  simp at this; omega
theorem conn_cl {p q : Nat → Nat} {n : Nat} (hp : ∀ x, x < n → p x < n) (hq : ∀ x, x < n → q x < n) (h0 : 0 < n) (hc : conn p q n) : cl (Both p q n) n = 1 := by
  classical
  have ha := conn_all hp hq h0 hc
  unfold cl
  have : (List.range n).filter (fun x => decide (∀ y, y < n → Both p q n x y → x ≤ y)) = (List.range n).filter (fun x => x == 0) := by
    apply List.filter_congr
    intro x hx
    have hx := List.mem_range.1 hx
    rw [Bool.eq_iff_iff]
    simp only [decide_eq_true_eq, beq_iff_eq]
    constructor
    · intro k
      have := k 0 h0 ((Both.eqv p q n).symm _ _ h0 hx (ha x hx))
      omega
    · rintro rfl; intro _ _ _; omega
  rw [this]
  have e : List.range n = 0 :: (List.range' 1 (n - 1)) := by
    rw [List.range_eq_range']
    obtain ⟨m, rfl⟩ : ∃ m, n = m + 1 := ⟨n - 1, by omega⟩
    rw [List.range'_succ]; rfl
  rw [e, List.filter_cons_of_pos (by simp)]
  have : (List.range' 1 (n - 1)).filter (fun x => x == 0) = [] := by
    rw [List.filter_eq_nil_iff]
    intro x hx
    have := (List.mem_range'_1.1 hx).1
    simp; omega
  rw [this]; rfl

/-- what is found is closed under steps -/
theorem bfs_closed {p q : Nat → Nat} {n : Nat} (hp : ∀ x, x < n → p x < n) (hq : ∀ x, x < n → q x < n) (hn : n ≤ 16) {z : Nat} (hz : z < n) {y : Nat} (hy : y ∈ (bfs p q z 16).1) : p y ∈ (bfs p q z 16).1 ∧ q y ∈ (bfs p q z 16).1 := by
  obtain ⟨k, hk, e⟩ := List.getElem_of_mem hy
  have hl := (bfs_inv hp hq hz 16).length_le
  have h1 : ¬ (bfs p q z k).1.length ≤ k := fun c => by
    have := bfs_stop c (j := 16) (by omega)
    rw [this] at hk; omega
  have hpre := bfs_pre' p q z (show k ≤ 16 by omega)
  have hke : (bfs p q z k).1[k]? = some y := by
    obtain ⟨t, ht⟩ := hpre
    have : (bfs p q z 16).1[k]? = some y := by rw [List.getElem?_eq_getElem hk, e]
    rw [← ht, List.getElem?_append_left (by omega)] at this
    exact this
  have hs : bfs p q z (k + 1) = badd (badd (bfs p q z k) (p y)) (q y) := by rw [bfs, hke]
  have hsub := bfs_pre' p q z (show k + 1 ≤ 16 by omega)
  have I := bfs_inv hp hq hz k
  have hyn : y < n := I.lt y (List.mem_of_getElem? hke)
  have mem_badd : ∀ (s : List Nat × (Nat → Bool)) (x : Nat), BInv n s → x < n → x ∈ (badd s x).1 := by
    intro s x hs hx
    unfold badd
    by_cases c : s.2 x = true
    · rw [if_pos c]; exact (hs.mem x).1 c
    · rw [if_neg c]; simp
  have I1 := I.add (hp y hyn)
  have m1 : p y ∈ (bfs p q z (k + 1)).1 := by rw [hs]; exact (badd_le _ _).subset (mem_badd _ _ I (hp y hyn))
  have m2 : q y ∈ (bfs p q z (k + 1)).1 := by rw [hs]; exact mem_badd _ _ I1 (hq y hyn)
  exact ⟨hsub.subset m1, hsub.subset m2⟩
/-- in a dessin all is found from each number -/
theorem bfs_full {p q : Nat → Nat} {n : Nat} (hp : Bij p n) (hq : Bij q n) (hn : n ≤ 16) (hc : conn p q n) {z : Nat} (hz : z < n) : (bfs p q z 16).1.length = n := by
  have I := bfs_inv hp.1 hq.1 hz 16
  have cl : ∀ y, y < n → y ∈ (bfs p q z 16).1 → p y ∈ (bfs p q z 16).1 ∧ q y ∈ (bfs p q z 16).1 := fun y _ h => bfs_closed hp.1 hq.1 hn hz h
  have itm : ∀ (f : Nat → Nat), Bij f n → (∀ y, y < n → y ∈ (bfs p q z 16).1 → f y ∈ (bfs p q z 16).1) → ∀ y, y < n → (y ∈ (bfs p q z 16).1 ↔ f y ∈ (bfs p q z 16).1) := by
    intro f hf hcl y hy
    refine ⟨hcl y hy, fun h => ?_⟩
    obtain ⟨L, h0, _, h2⟩ := hf.period hy
    have all : ∀ j, it f j (f y) ∈ (bfs p q z 16).1 := by
      intro j
      induction j with
      | zero => exact h
      | succ j ih => exact hcl _ (hf.it_lt j (hf.1 y hy)) ih
    have := all (L - 1)
    rwa [← it_succ', show L - 1 + 1 = L from by omega, h2] at this
  let E : Nat → Nat → Prop := fun a b => a ∈ (bfs p q z 16).1 ↔ b ∈ (bfs p q z 16).1
  have hE : Eqv E n := ⟨fun _ _ => Iff.rfl, fun _ _ _ _ h => h.symm, fun _ _ _ _ _ _ h1 h2 => h1.trans h2⟩
  have hall := fun x hx => conn_all hp.1 hq.1 (by omega) hc x hx E hE (fun y hy => itm p hp (fun y hy h => (cl y hy h).1) y hy) (fun y hy => itm q hq (fun y hy h => (cl y hy h).2) y hy)
  have hz0 : z ∈ (bfs p q z 16).1 := (bfs_pre' p q z (show 0 ≤ 16 by omega)).subset (by simp [bfs])
  have h0 : 0 ∈ (bfs p q z 16).1 := (hall z hz).2 hz0
  have h1 := nodup_le (List.range n) (bfs p q z 16).1 List.nodup_range fun x hx => (hall x (List.mem_range.1 hx)).1 h0
  have h2 := I.length_le
  simp at h1; omega

/-- the permutation that leads back -/
theorem orb_inv {p q : Nat → Nat} {n : Nat} (hp : Bij p n) (hq : Bij q n) (e : ∀ x, x < n → q (p x) = x) : orb q n = orb p n := by
  have key : ∀ (p q : Nat → Nat), Bij p n → Bij q n → (∀ x, x < n → q (p x) = x) → ∀ x y, x < n → R p x y → R q y x := by
    intro p q hp hq e x y hx r
    obtain ⟨k, rfl⟩ := r
    induction k with
    | zero => exact R.refl _
    | succ k ih => exact R.trans ⟨1, e _ (hp.it_lt k hx)⟩ ih
  have e' : ∀ y, y < n → p (q y) = y := fun y hy => hq.2 _ _ (hp.1 _ (hq.1 y hy)) hy (e _ (hq.1 y hy))
  refine cl_congr fun x y hx hy => ⟨fun r => ?_, fun r => ?_⟩
  · exact R.symm hp hy (key q p hq hp e' x y hx r)
  · exact R.symm hq hy (key p q hp hq e x y hx r)

/-- the Euler number of a dessin is even and at most 2 -/
theorem euler_dessin {p q f : Nat → Nat} {n : Nat} (hp : Bij p n) (hq : Bij q n) (hf : Bij f n) (h0 : 0 < n) (hc : conn p q n) (e : ∀ x, x < n → f (q (p x)) = x) :
    (orb p n + orb q n + orb f n + n) % 2 = 0 ∧ orb p n + orb q n + orb f n ≤ n + 2 := by
  have hb := euler_bound n q hq (n - orb p n) p hp rfl
  have e1 : orb f n = orb (fun x => q (p x)) n := orb_inv (hp.comp hq) hf e
  have hc' : cl (Both q p n) n = 1 := by
    rw [← conn_cl hp.1 hq.1 h0 hc]
    exact cl_congr fun x y _ _ => ⟨fun r E a b c => r E a c b, fun r E a b c => r E a c b⟩
  rw [hc'] at hb
  rw [e1]; omega
end Go.Proofs.Ytdoehnckolhloaa

namespace Go.Proofs.Ytdoehnckolhloaa
open Go.RowKit

/-- numbers as cells -/
def nums (l : List Nat) : List Value := l.map fun (x : Nat) => Value.int .i64 (x : Int)
/-- a list of numbers in a row of its own from block B on -/
def Own1 (B : Nat) (w : World) (v : Value) (l : List Nat) : Prop := w.ownsRow B 2 1 v l.length (nums l)
/-- a list of such lists, each in a row of its own -/
def Own2 (B : Nat) (w : World) (v : Value) (ls : List (List Nat)) : Prop :=
  ∃ vs : List Value, vs.length = ls.length ∧ w.ownsRow B 32 1 v vs.length vs ∧ (∀ (i : Nat) (u : Value) (l : List Nat), vs[i]? = some u → ls[i]? = some l → Own1 B w u l) ∧
    ∀ (i j : Nat) (u u' : Value), i < j → vs[i]? = some u → vs[j]? = some u' → u.ownBlock = none ∨ u.ownBlock ≠ u'.ownBlock

theorem grown_refl (w : World) (r : Option Nat) : w.grownBy w r := ⟨rfl, rfl, rfl, Nat.le_refl _, fun _ _ _ => rfl⟩
theorem grown_drew {a w : World} {r : Option Nat} (h : a.grownBy w r) : a.grownBy w.drew r := ⟨h.os, h.tape, h.output, h.size, h.block⟩
theorem grown_alloc {a w : World} {r : Option Nat} (h : a.grownBy w r) (o : Obj) : a.grownBy (w.alloc o) r :=
  ⟨h.os, h.tape, h.output, by have := h.size; simp; omega, fun k hk hr => (Below.heap_alloc w o k (by have := h.size; omega)).trans (h.block k hk hr)⟩
/-- one step more, whose row is new or the same -/
theorem grown_step {a w w' : World} {r s : Option Nat} (h : a.grownBy w r) (k : w.grownBy w' s) (hs : ∀ g, s = some g → a.heap.size ≤ g ∨ r = some g) : a.grownBy w' r :=
  ⟨k.os.trans h.os, k.tape.trans h.tape, k.output.trans h.output, Nat.le_trans h.size k.size, fun g hg hr =>
    (k.block g (by have := h.size; omega) (fun e => by rcases hs g e.symm with c | c; omega; exact hr c.symm)).trans (h.block g hg hr)⟩
theorem grown_setCell {a w : World} {g i : Nat} {v : Value} (h : a.grownBy w (some g)) : a.grownBy (w.setCell ⟨g, i, none⟩ v) (some g) :=
  ⟨h.os, h.tape, h.output, by have := h.size; simpa using this, fun k hk hr => (Below.heap_setCell w ⟨g, i, none⟩ v k (fun e => hr (by rw [e]))).trans (h.block k hk hr)⟩
theorem grown_of_below {w w' : World} (h : Below w.heap.size w w') (r : Option Nat) : w.grownBy w' r := ⟨h.os, h.tape, h.output, h.size, fun k hk _ => h.block k hk⟩

theorem grown_cells {a b : World} {r : Option Nat} {g : Nat} (h : a.grownBy b r) (hg : g < a.heap.size) (hr : some g ≠ r) : cellsOf b g = cellsOf a g := by unfold cellsOf; rw [h.block g hg hr]
theorem grown_row {a b : World} {r : Option Nat} {g n : Nat} (h : a.grownBy b r) (hg : g < a.heap.size) (hr : some g ≠ r) : rowOk b g n ↔ rowOk a g n := by unfold rowOk; rw [h.block g hg hr]
theorem below_grown {B : Nat} {w0 a b : World} {r : Option Nat} (h : Below B w0 a) (hg : a.grownBy b r) (hB : B ≤ a.heap.size) (hr : ∀ g, r = some g → B ≤ g) : Below B w0 b := h.grown hg hB hr
/-- the one cell that was made last -/
theorem one_new (w : World) (v : Value) (t : TypeId) (g : Nat) (hg : g = w.heap.size) : ∀ (j : Nat) (u : Value), [v][j]? = some u → (w.alloc (.cells #[v] t)).cell? ((⟨g, 0, none⟩ : Addr).add j) = some u := by
  intro j u h
  rcases j with _ | j
  · simp at h; subst h
    rw [show ((⟨g, 0, none⟩ : Addr).add 0) = ⟨g, 0, none⟩ from rfl, cell_of_cells, cellsOf_at hg]; rfl
  · simp at h
/-- what owns a row is a slice -/
theorem own_slice {w : World} {B : Nat} {e : TypeId} {s n : Nat} {v : Value} {xs : List Value} (h : w.ownsRow B e s v n xs) : ∃ A c, v = .slice A n c := by
  rcases h.2 with ⟨rfl, rfl⟩ | ⟨g, cap, cur, rfl, _⟩
  · exact ⟨_, _, rfl⟩
  · exact ⟨_, _, rfl⟩
theorem Own1.kept {B : Nat} {w w' : World} {v : Value} {l : List Nat} {r : Option Nat} (h : Own1 B w v l) (hg : w.grownBy w' r) (hne : v.ownBlock = none ∨ v.ownBlock ≠ r) : Own1 B w' v l := World.ownsRow.kept h hg hne
theorem Own1.mono {B B' : Nat} {w : World} {v : Value} {l : List Nat} (h : Own1 B w v l) (hB : B' ≤ B) : Own1 B' w v l := by
  refine ⟨h.1, ?_⟩
  rcases h.2 with h | ⟨g, cap, cur, h1, h2, h3⟩
  · exact .inl h
  · exact .inr ⟨g, cap, cur, h1, by omega, h3⟩
theorem Own1.nil (B : Nat) (w : World) : Own1 B w (.slice none 0 0) [] := World.ownsRow_nil _ _ _ _
/-- rows of different elements are different blocks -/
theorem own_ne {B B' : Nat} {w : World} {e e' : TypeId} {s s' n n' : Nat} {v v' : Value} {xs xs' : List Value} (h : w.ownsRow B e s v n xs) (h' : w.ownsRow B' e' s' v' n' xs') (hne : e ≠ e') : v.ownBlock = none ∨ v.ownBlock ≠ v'.ownBlock := by
  rcases h.2 with ⟨rfl, _⟩ | ⟨g, cap, cur, rfl, _, hh, _⟩
  · exact .inl rfl
  · refine .inr fun e => ?_
    rcases h'.2 with ⟨rfl, _⟩ | ⟨g', cap', cur', rfl, _, hh', _⟩
    · cases e
    · have : g = g' := by simpa [Value.ownBlock] using e
      subst this
      rw [hh] at hh'
      simp at hh'
      exact hne hh'.2
theorem Own2.kept {B : Nat} {w w' : World} {v : Value} {ls : List (List Nat)} {r : Option Nat} (h : Own2 B w v ls) (hg : w.grownBy w' r) (hr : ∀ g, r = some g → g < B) : Own2 B w' v ls := by
  obtain ⟨vs, hl, ho, hi, hd⟩ := h
  have far : ∀ {e : TypeId} {s n : Nat} {u : Value} {xs : List Value}, w.ownsRow B e s u n xs → u.ownBlock = none ∨ u.ownBlock ≠ r := by
    intro e s n u xs hu
    rcases hb : u.ownBlock with _ | k
    · exact .inl rfl
    · refine .inr fun e => ?_
      have := hr k e.symm
      have := hu.lt k hb
      omega
  exact ⟨vs, hl, ho.kept hg (far ho), fun i u l h1 h2 => (hi i u l h1 h2).kept hg (far (hi i u l h1 h2)), hd⟩
theorem Own2.nil (B : Nat) (w : World) : Own2 B w (.slice none 0 0) [] := ⟨[], rfl, World.ownsRow_nil _ _ _ _, fun i u l h => by simp at h, fun i j u u' _ h => by simp at h⟩
/-- one list more -/
theorem Own2.add {B C : Nat} {w w' : World} {v v' u : Value} {ls : List (List Nat)} {l : List Nat} {vs : List Value} (hl : vs.length = ls.length) (ho : w.ownsRow B 32 1 v vs.length vs)
    (hi : ∀ (i : Nat) (u : Value) (l : List Nat), vs[i]? = some u → ls[i]? = some l → Own1 B w u l) (hd : ∀ (i j : Nat) (u u' : Value), i < j → vs[i]? = some u → vs[j]? = some u' → u.ownBlock = none ∨ u.ownBlock ≠ u'.ownBlock)
    (hu : Own1 C w u l) (hBC : B ≤ C) (hC : ∀ (i : Nat) (x : Value), vs[i]? = some x → ∀ g, x.ownBlock = some g → g < C)
    (ho' : w'.ownsRow B 32 1 v' (vs.length + 1) (vs ++ [u])) (hg : w.grownBy w' v.ownBlock) : Own2 B w' v' (ls ++ [l]) := by
  have k1 : ∀ (i : Nat) (x : Value) (m : List Nat), vs[i]? = some x → ls[i]? = some m → Own1 B w' x m := fun i x m h1 h2 => (hi i x m h1 h2).kept hg (own_ne (hi i x m h1 h2) ho (by decide))
  have k2 : Own1 C w' u l := hu.kept hg (own_ne hu ho (by decide))
  refine ⟨vs ++ [u], by simp [hl], by simpa using ho', ?_, ?_⟩
  · intro i x m h1 h2
    rcases Nat.lt_or_ge i vs.length with c | c
    · rw [List.getElem?_append_left c] at h1
      rw [List.getElem?_append_left (by omega)] at h2
      exact k1 i x m h1 h2
    · rw [List.getElem?_append_right c] at h1
      rw [List.getElem?_append_right (by omega)] at h2
      rw [hl] at h1
      rcases hz : i - ls.length with _ | z
      · rw [hz] at h1 h2; simp at h1 h2; subst h1 h2; exact k2.mono hBC
      · rw [hz] at h1; simp at h1
  · intro i j x x' hij h1 h2
    rcases Nat.lt_or_ge j vs.length with c | c
    · rw [List.getElem?_append_left (by omega)] at h1
      rw [List.getElem?_append_left c] at h2
      exact hd i j x x' hij h1 h2
    · rw [List.getElem?_append_right c] at h2
      have hj : j - vs.length = 0 := by
        rcases hz : j - vs.length with _ | z
        · rfl
        · rw [hz] at h2; simp at h2
      have hjl : j = vs.length := by omega
      subst hjl
      simp at h2; subst h2
      rw [List.getElem?_append_left hij] at h1
      rcases hx : x.ownBlock with _ | g
      · exact .inl rfl
      · refine .inr fun e => ?_
        have a := hC i x h1 g hx
        have b := World.ownsRow.lt hu g e.symm
        omega
/-- a row is no block of another kind -/
theorem own_ne_blk {B : Nat} {w : World} {e t : TypeId} {s n g : Nat} {v : Value} {xs : List Value} {cs : Array Value} {fr : Nat × Nat} (h : w.ownsRow B e s v n xs) (hg : w.heap[g]? = some (.cells cs t fr)) (hne : e ≠ t) : v.ownBlock = none ∨ v.ownBlock ≠ some g := by
  rcases h.2 with ⟨rfl, _⟩ | ⟨g', cap, cur, rfl, _, hh, _⟩
  · exact .inl rfl
  · refine .inr fun e => ?_
    have : g' = g := by simpa [Value.ownBlock] using e
    subst this
    rw [hh] at hg
    simp at hg
    exact hne hg.2.1
/-- an empty list that is not nil -/
theorem own_empty (w : World) (e : TypeId) (s : Nat) (B : Nat) (hB : B ≤ w.heap.size) : (w.alloc (.cells #[] e)).ownsRow B e s (.slice (some ⟨w.heap.size, 0, none⟩) 0 0) 0 [] :=
  ⟨by simp, .inr ⟨w.heap.size, 0, #[], rfl, hB, heap_at _ _ _ rfl, Nat.le_refl _, by unfold maxLen; omega, by simp, by simp⟩⟩
theorem Own2.keptBlk {B g : Nat} {w w' : World} {v : Value} {ls : List (List Nat)} {cs : Array Value} {t : TypeId} {fr : Nat × Nat} (h : Own2 B w v ls) (hg : w.grownBy w' (some g)) (hb : w.heap[g]? = some (.cells cs t fr)) (h1 : 2 ≠ t) (h2 : 32 ≠ t) : Own2 B w' v ls := by
  obtain ⟨vs, hl, ho, hi, hd⟩ := h
  exact ⟨vs, hl, ho.kept hg (own_ne_blk ho hb h2), fun i u l a b => (hi i u l a b).kept hg (own_ne_blk (hi i u l a b) hb h1), hd⟩
theorem Own2.mono {B B' : Nat} {w : World} {v : Value} {ls : List (List Nat)} (h : Own2 B w v ls) (hB : B' ≤ B) : Own2 B' w v ls := by
  obtain ⟨vs, a, b, c, d⟩ := h
  exact ⟨vs, a, ⟨b.1, b.2.imp id (fun ⟨g, cap, cur, h1, h2, h3⟩ => ⟨g, cap, cur, h1, by omega, h3⟩)⟩, fun i u l h1 h2 => (c i u l h1 h2).mono hB, d⟩
/-- the number of lists is the slice's length -/
theorem Own2.form {B : Nat} {w : World} {v : Value} {ls : List (List Nat)} (h : Own2 B w v ls) : ∃ A c, v = .slice A ls.length c := by
  obtain ⟨vs, a, b, _, _⟩ := h
  obtain ⟨A, c, e⟩ := own_slice b
  exact ⟨A, c, by rw [e, a]⟩
end Go.Proofs.Ytdoehnckolhloaa

namespace Go.Proofs.Ytdoehnckolhloaa
open Go.RowKit

section
variable {P : Program} {ops : Array Oper} {md : Region.Mode} {C : World → Prop}

/-- k operations more, all below n, whichever comes up; then L -/
def headQ (P : Program) (md : Region.Mode) (ops : Array Oper) (C : World → Prop) (n : Nat) (L : Array Bool → Act → Prop) : Nat → Array Bool → Act → Prop
  | 0, done, a => L done a
  | k + 1, done, a => Region.ready md ops done ≠ [] ∧ ∀ i ∈ Region.ready md ops done, i < n ∧ qOp P ops C i (headQ P md ops C n L k (done.setIfInBounds i true)) a

theorem headQ_any {n g : Nat} {L : Array Bool → Act → Prop} {Q : Exit → Act → World → Prop} (hL : ∀ done a w, C w → L done a → wpAny P md ops Q g done a w) (k : Nat) :
    ∀ (done : Array Bool) (a : Act) (w : World), C w → headQ P md ops C n L k done a → wpAny P md ops Q (k + g) done a w := by
  induction k with
  | zero => intro done a w hw h; rw [Nat.zero_add]; exact hL _ _ _ hw h
  | succ k ih =>
    intro done a w hw h
    rw [show k + 1 + g = (k + g) + 1 by omega]
    exact ⟨fun e => absurd e h.1, fun i hi => wpOp_of_qOp hw (fun a' w' hw' h' => ih _ a' w' hw' h') (h.2 i hi).2⟩

/-- an operation of the head may be taken first -/
theorem headQ_first {n i : Nat} {o : Oper} {v : Value} {L : Array Bool → Act → Prop} (hi : ops[i]? = some o) (hsel : ∀ (j : Nat) (o : Oper) cs b, ops[j]? = some o → o.op ≠ .select cs b)
    (hs : Region.sinkB md ops n = true) (hc : Region.chainB md ops n = true) (hn : n < ops.size) (hin : i < n) (hdone : ∀ done a, L done a → ∀ j ∈ Region.ready md ops done, n ≤ j) (k : Nat) :
    ∀ (done : Array Bool) (a : Act), HeadInv md ops n done →
      (∀ j oj, ops[j]? = some oj → j ≠ i → done.getD j true = false → (∀ e ∈ oj.after, Region.binds md e = true → e.on ≠ i) → o.apart ops oj = true) →
      i ∈ Region.ready md ops done → YieldsIn P ops C o v a →
      headQ P md ops C n L k (done.setIfInBounds i true) (a.put o.dst v) → headQ P md ops C n L (k + 1) done a := by
  have low : ∀ (done : Array Bool), HeadInv md ops n done → i ∈ Region.ready md ops done → ∀ j ∈ Region.ready md ops done, j < n := by
    intro done inv hr j hj
    rcases Nat.lt_or_ge j n with h | h
    · exact h
    · exact absurd hj (tail_waits hs hc hn inv _ i rfl hin (mem_ready.1 hr).1 j h)
  have some_ready : ∀ (done : Array Bool), i ∈ Region.ready md ops done → Region.ready md ops done ≠ [] := fun done hr e => by rw [e] at hr; cases hr
  induction k with
  | zero =>
    intro done a inv _ hr hy H
    refine ⟨some_ready done hr, fun j hj => ⟨low done inv hr j hj, ?_⟩⟩
    by_cases e : j = i
    · subst e; exact hy.qOp hi H
    · have := hdone _ _ H j (ready_mono hj e)
      have := low done inv hr j hj
      omega
  | succ k ih =>
    intro done a inv hfree hr hy H
    refine ⟨some_ready done hr, fun j hj => ⟨low done inv hr j hj, ?_⟩⟩
    by_cases e : j = i
    · subst e; exact hy.qOp hi H
    · obtain ⟨hjun, oj, hoj, hall⟩ := mem_ready.1 hj
      have hun := (mem_ready.1 hr).1
      have hno : ∀ e ∈ oj.after, Region.binds md e = true → e.on ≠ i := fun e he hb h => by
        have := hall e he hb
        rw [h, getD_both hun] at this
        cases this
      refine qOp_mono (fun a' h3 => ih (done.setIfInBounds j true) a' (inv.set hj (low done inv hr j hj)) (fun k' ok hk hki hk' hnk => hfree k' ok hk hki ?_ hnk) (ready_mono hr (Ne.symm e)) h3.1 ?_)
        (qOp_put hoj (hfree j oj hoj e hjun hno) (fun cs b => hsel i o cs b hi) (fun cs b => hsel j oj cs b hoj) hy (H.2 j (ready_mono hj e)).2)
      · by_cases e' : j = k'
        · subst e'; exact hjun
        · rw [getD_set_ne true e'] at hk'; exact hk'
      · rw [Array.setIfInBounds_comm _ _ e]; exact h3.2

theorem headQ_lex {n g : Nat} {K : Act → Prop} (hsel : Region.noSelect ops = true) (hs : Region.sinkB md ops n = true) (hc : Region.chainB md ops n = true) (hn : n < ops.size) (l : List Oper) :
    ∀ (k : Nat) (done : Array Bool) (a : Act), (∀ j, j < l.length → l[j]? = ops[k + j]?) → k + l.length = n → HeadInv md ops n done → Region.lexHead md ops g l.length k done = true →
    wpQuiet P ops C K l a → headQ P md ops C n (fun done' a' => Region.seqB md ops g n done' = true ∧ K a') l.length done a := by
  induction l with
  | nil =>
    intro k done a _ hk _ hB h
    obtain rfl : k = n := by simpa using hk
    exact ⟨by simpa [Region.lexHead] using hB, h⟩
  | cons o l ih =>
    intro k done a hl hk inv hB h
    have h0 : ops[k]? = some o := by simpa using (hl 0 (by simp)).symm
    simp only [List.length_cons] at hk
    simp only [List.length_cons, Region.lexHead, Bool.and_eq_true] at hB
    have hr : k ∈ Region.ready md ops done := by simpa using hB.1.1
    obtain ⟨v, hy, hK⟩ := yieldsIn_of_qOp (C := C) (K := wpQuiet P ops C K l) h0 (by unfold qOp; simp only [h0]; exact h)
    exact headQ_first h0 (Region.noSelect_spec hsel) hs hc hn (by omega) (fun done' a' hL => seqB_ready hL.1) l.length done a inv (Region.free_spec h0 hB.1.2) hr hy
      (ih (k + 1) _ _ (fun j hj => by have := hl (j + 1) (by simp; omega); simpa [Nat.add_assoc, Nat.add_comm 1 j] using this) (by omega) (inv.set hr (by omega)) hB.2 hK)

theorem region_tail {id : Nat} {Q : Exit → Act → World → Prop} {a : Act} {w : World} {l : List Oper} (C : World → Prop) (n : Nat) (hm : P.follows .mixedOrders = true) (hB : Region.lexTailB .any l.toArray n = true) (hC : C w.drew)
    (h : wpQuiet P l.toArray C (fun a' => ∀ w', C w' → wpList P l.toArray Q (l.drop n) a' w') (l.take n) a) : (Code.region id l.toArray true).wp P Q a w := by
  simp only [Region.lexTailB, Bool.and_eq_true, decide_eq_true_eq] at hB
  obtain ⟨⟨⟨⟨hsel, hn⟩, hs⟩, hc⟩, hlex⟩ := hB
  have hl : n < l.length := by simpa using hn
  have ht : (l.take n).length = n := by simp; omega
  have hd : (l.drop n).length = l.toArray.size - n := by simp
  have H := headQ_lex (md := .any) (g := l.toArray.size - n) hsel hs hc hn (l.take n) 0 (Array.replicate l.toArray.size false) a (fun j hj => by
    have hj' : j < n := by rw [ht] at hj; exact hj
    simp [hj']) (by simpa using ht) ⟨by simp, fun j oj _ e => (by rw [getD_replicate_false] at e; cases e), fun t _ e => getD_in (by simpa using e) (getD_replicate_false _ _)⟩ (by rw [ht]; exact hlex) h
  refine wp_region_any hm ?_
  have := headQ_any (Q := Q) (g := l.toArray.size - n) (fun done a' w' hw' hL => by
    have := wpAny_of_seq (md := .any) (Q' := Q) (l.drop n) n done a' w' (fun j => by simp [List.getElem?_drop]) (by rw [hd]; exact hL.1) (hL.2 w' hw')
    rwa [hd] at this) _ _ _ _ hC H
  rw [ht, show n + (l.toArray.size - n) = l.toArray.size by omega] at this
  exact this

/-- one operation of the head -/
theorem q_step {o : Oper} {rest : List Oper} {a : Act} {K : Act → Prop} (hw : Region.wanted o (yielded ops a.tmps) = true) (v : Value) (h1 : ∀ w, C w → o.quietAt P a C w v) (h2 : wpQuiet P ops C K rest (a.put o.dst v)) :
    wpQuiet P ops C K (o :: rest) a := by
  unfold wpQuiet; rw [if_pos hw]; exact ⟨v, h1, h2⟩
end

/-- the class: what has been made before stands, and new blocks may have come -/
def Grown (w0 w : World) : Prop := Below w0.heap.size w0 w
theorem Grown.drew (w : World) : Grown w w.drew := ⟨rfl, rfl, rfl, Nat.le_refl _, fun _ _ => rfl⟩
theorem Grown.cells {w0 w : World} {g : Nat} {c : Array Value} (h : Grown w0 w) (hc : cellsOf w0 g = c) (hg : g < w0.heap.size) : cellsOf w g = c := (below_cells h hg).trans hc
theorem Grown.row {w0 w : World} {g n : Nat} (h : Grown w0 w) (hr : rowOk w0 g n) : rowOk w g n := (below_row h hr.lt).2 hr
theorem Grown.call {w0 w w' : World} (h : Grown w0 w) (hb : Below w.heap.size w w') : Grown w0 w' := Below.trans h (hb.mono h.size)
end Go.Proofs.Ytdoehnckolhloaa

namespace Go.Proofs.Ytdoehnckolhloaa
open Go.RowKit

/-- bytes as cells; a list of bytes in a row of its own -/
def bytesL (l : List Nat) : List Value := l.map fun (x : Nat) => Value.int .u8 (x : Int)
def OwnB (B : Nat) (w : World) (v : Value) (l : List Nat) : Prop := w.ownsRow B 5 1 v l.length (bytesL l)
theorem infoU8 : (Try.prog.info? 5).map (fun i => (i.zero, i.size, i.bytes)) = some (some (.int .u8 0), 1, 1) := by kernel_rfl
theorem plainU8 : Try.prog.plainKey 5 = true := by kernel_rfl
/-- an element of an array of bytes that is a value -/
theorem run_index8 {T : TypeId} {n : Nat} (hT : Try.prog.underlying T = some (.array n 5)) {cs : Array Value} {j v : Nat} (hj : j < n) (h : cs[j]? = some (.int .u8 v)) (w : World) :
    (Instr.index T (.agg cs) (.int .i64 j)).run Try.prog w = .ok (.int .u8 v) w := by
  obtain ⟨i0, hi, hz0, hz1, hz2⟩ := info_parts infoU8
  simp [Instr.index, run_underlying hT, asIntOf, hj, go_sem, sizeOf, typeInfo, hi, hz1, h]
theorem OwnB.at {B : Nat} {w : World} {v : Value} {l : List Nat} (h : OwnB B w v l) {k : Nat} (hk : k < l.length) :
    ∃ g c, v = .slice (some ⟨g, 0, none⟩) l.length c ∧ B ≤ g ∧ g < w.heap.size ∧ l.length ≤ c ∧ c ≤ maxLen ∧ w.cell? ⟨g, k, none⟩ = some (.int .u8 (l[k] : Nat)) := by
  rcases h.2 with ⟨_, e⟩ | ⟨g, cap, cur, rfl, hB, hh, h1, h2, h3, h4⟩
  · omega
  · refine ⟨g, cap, rfl, hB, ?_, h1, h2, ?_⟩
    · rcases Nat.lt_or_ge g w.heap.size with c | c
      · exact c
      · rw [Array.getElem?_eq_none c] at hh; cases hh
    · rw [cell_of_cells, cellsOf_heap hh]
      have := congrArg (·[k]?) h4
      simp only [Nat.mul_one, List.getElem?_take_of_lt hk, Array.getElem?_toList] at this
      rw [this]
      unfold bytesL
      rw [List.getElem?_map, List.getElem?_eq_getElem hk]; rfl
theorem ownB_form {B : Nat} {w : World} {v : Value} {l : List Nat} (h : OwnB B w v l) : ∃ A c, v = .slice A l.length c := own_slice h

/-- the search, j of the two steps from X -/
def bst (f g : Nat → Nat) (S : List Nat × (Nat → Bool)) (X : Nat) : Nat → List Nat × (Nat → Bool)
  | 0 => S
  | 1 => badd S (f X)
  | _ + 2 => badd (badd S (f X)) (g X)
def stepY (f g : Nat → Nat) (X j : Nat) : Nat := if j = 0 then f X else g X
theorem bst_step (f g : Nat → Nat) (S : List Nat × (Nat → Bool)) (X : Nat) {j : Nat} (hj : j < 2) : bst f g S X (j + 1) = badd (bst f g S X j) (stepY f g X j) := by
  rcases j with _ | _ | j
  · rfl
  · rfl
  · omega
theorem stepY_lt {f g : Nat → Nat} {X m : Nat} (hf : f X < m) (hg : g X < m) (j : Nat) : stepY f g X j < m := by unfold stepY; split <;> assumption
theorem bst_inv {f g : Nat → Nat} {S : List Nat × (Nat → Bool)} {X m : Nat} (hS : BInv m S) (hf : f X < m) (hg : g X < m) (j : Nat) : BInv m (bst f g S X j) := by
  rcases j with _ | _ | j
  · exact hS
  · exact hS.add hf
  · exact (hS.add hf).add hg
theorem bfs_start (f g : Nat → Nat) (x : Nat) : bfs f g x 0 = ([x], mset (fun _ => false) x) := by rw [bfs]; rfl
theorem bfs_next {f g : Nat → Nat} {x k : Nat} (hk : k < (bfs f g x k).1.length) : bfs f g x (k + 1) = bst f g (bfs f g x k) (bfs f g x k).1[k] 2 := by
  rw [bfs, List.getElem?_eq_getElem hk]; rfl
theorem bst_pre (f g : Nat → Nat) (S : List Nat × (Nat → Bool)) (X j : Nat) : S.1 <+: (bst f g S X j).1 := by
  rcases j with _ | _ | j
  · exact List.prefix_refl _
  · exact badd_le _ _
  · exact (badd_le _ _).trans (badd_le _ _)
theorem badd_old {S : List Nat × (Nat → Bool)} {y : Nat} (h : S.2 y = true) : badd S y = S := by unfold badd; rw [if_pos h]
theorem badd_new {S : List Nat × (Nat → Bool)} {y : Nat} (h : S.2 y = false) : badd S y = (S.1 ++ [y], mset S.2 y) := by unfold badd; rw [if_neg (by simp [h])]; rfl

set_option maxRecDepth 100000 in
set_option maxHeartbeats 1000000 in
theorem dartsFrom_any (f g : Nat → Nat) (m : Nat) (hm : m ≤ 16) (hf : ∀ i, i < m → f i < m) (hg : ∀ i, i < m → g i < m) (x : Nat) (hx : x < m) (n : Int) (w : World) :
    Calls Try.prog 120 #[.agg (dv n f g), .int .u8 x] w fun e w' => ∃ v, e = .returned v ∧ Below w.heap.size w w' ∧ OwnB w.heap.size w' v (bfs f g x 16).1 := by
  have HI := hide fun k => bfs_inv hf hg hx k
  have HF := hide hf; clear hf
  have HG := hide hg; clear hg
  obtain ⟨i0, hi, hz0, hz1, hz2⟩ := info_parts infoU8
  have I0 := hide (And.intro hi (And.intro hz0 (And.intro hz1 hz2))); clear hi hz0 hz1 hz2
  have hx16 : x < 16 := by omega
  have h0 := bv_set (fun _ => false) x
  rw [bv_false] at h0
  go_enter Try.func120, Try.ntmps120
  go_wp2
  go_loopw [5, 7] (fun out i wr => ∃ k : Nat, k ≤ 16 ∧ i = .int .i64 k ∧ Below w.heap.size w wr ∧ cellsOf wr w.heap.size = dv n f g ∧ wr.heap[w.heap.size + 1 + 1]? = some (.cells (bv (bfs f g x k).2) 114 (0, 0)) ∧ OwnB (w.heap.size + 1) wr out (bfs f g x k).1)
    (fun _ i _ => 16 - (intOf i).toNat)
  case atStart => exact ⟨0, by omega, rfl, below3 _ _ _ _, cellsOf_heap (heap2 rfl), by rw [bfs_start]; exact heap_at _ _ _ (by simp), by rw [bfs_start]; exact ⟨by simp [bytesL], .inr ⟨w.heap.size + 1, 1, #[.int .u8 x], rfl, Nat.le_refl _, heap1 (by simp), Nat.le_refl _, by unfold maxLen; omega, by simp, by simp [bytesL]⟩⟩⟩
  case round =>
    obtain ⟨k, hk, rfl, hb, hcd, hhm, hown⟩ := hrel
    have hI := HI.out k
    have hl16 : (bfs f g x k).1.length ≤ 16 := by have := hI.length_le; omega
    by_cases hlt : k < (bfs f g x k).1.length
    · have hnext := bfs_next hlt
      have hX := hI.lt _ (List.getElem_mem hlt)
      obtain ⟨g0, c, rfl, hB0, hg0, hc1, hc2, hcell⟩ := hown.at hlt
      have hsz := hb.size
      have hk16 : k < 16 := by omega
      generalize hS : bfs f g x k = S at *
      generalize S.1[k] = X at *
      have HS := hide hS; clear hS
      have HN := hide hnext; clear hnext
      have hX16 : X < 16 := by omega
      have hfX := HF.out X hX
      have hgX := HG.out X hX
      have cb : wr.cell? ⟨w.heap.size, 1 + X, none⟩ = some (.int .u8 (f X)) := by rw [cell_of_cells, hcd, dv_b _ _ _ hX16]
      have cw : wr.cell? ⟨w.heap.size, 17 + X, none⟩ = some (.int .u8 (g X)) := by rw [cell_of_cells, hcd, dv_w _ _ _ hX16]
      have HCD := hide hcd; clear hcd
      have HM := hide hhm; clear hhm
      have HO := hide hown; clear hown
      have HIV := hide hI; clear hI
      go_wp2
      go_quiet (fail)
      go_wp2
      have hbz : Below w.heap.size w (wr.drewN nq) := ⟨hb.os, hb.tape, hb.output, hb.size, hb.block⟩
      have hcz : cellsOf (wr.drewN nq) w.heap.size = dv n f g := HCD.out
      have hmz : (wr.drewN nq).heap[w.heap.size + 1 + 1]? = some (.cells (bv S.2) 114 (0, 0)) := HM.out
      have hoz : OwnB (w.heap.size + 1) (wr.drewN nq) (.slice (some ⟨g0, 0, none⟩) S.1.length c) S.1 := HO.out
      clear hcell cb cw HCD HM HO hb hg0 hc1 hc2 hlt hsz
      generalize wr.drewN nq = wz at *
      clear wr
      go_loopw [5, 35] (fun out j wr => ∃ jj : Nat, jj ≤ 2 ∧ j = .int .i64 jj ∧ Below w.heap.size w wr ∧ cellsOf wr w.heap.size = dv n f g ∧ wr.heap[w.heap.size + 1 + 1]? = some (.cells (bv (bst f g S X jj).2) 114 (0, 0)) ∧ OwnB (w.heap.size + 1) wr out (bst f g S X jj).1)
        (fun _ j _ => 2 - (intOf j).toNat)
      case atStart => exact ⟨0, by omega, rfl, hbz, hcz, hmz, hoz⟩
      case round =>
        obtain ⟨j, hj, rfl, hb, hcd, hhm, hown⟩ := hrel
        clear hbz hcz hmz hoz
        have hsz := hb.size
        by_cases hj2 : j < 2
        · have hst := bst_step f g S X hj2
          have hYl := stepY_lt hfX hgX j
          have hidx : (#[Value.int .u8 (f X), Value.int .u8 (g X)] : Array Value)[j]? = some (.int .u8 (stepY f g X j)) := by
            rcases j with _ | _ | j
            · rfl
            · rfl
            · omega
          have hrun := run_index8 Try.underlying165 hj2 hidx
          have hIT := bst_inv HIV.out hfX hgX j
          generalize bst f g S X j = T at *
          generalize stepY f g X j = Y at *
          have hTl : T.1.length ≤ 16 := by have := hIT.length_le; omega
          have hY16 : Y < 16 := by omega
          have hlw : w.heap.size + 1 + 1 < wr.heap.size := by
            rcases Nat.lt_or_ge (w.heap.size + 1 + 1) wr.heap.size with e | e
            · exact e
            · rw [Array.getElem?_eq_none e] at hhm; cases hhm
          have hcm : cellsOf wr (w.heap.size + 1 + 1) = bv T.2 := cellsOf_heap hhm
          have HCD := hide hcd; clear hcd
          rcases hTY : T.2 Y with _ | _
          · have c0 : wr.cell? ⟨w.heap.size + 1 + 1, Y, none⟩ = some (.bool false) := by rw [cell_of_cells, hcm, bv_get _ hY16, hTY]
            have f0 : wr.frozen? ⟨w.heap.size + 1 + 1, Y, none⟩ = false := by simp [World.frozen?, hhm]
            have hS : World.grownBy wr (wr.setCell ⟨w.heap.size + 1 + 1, Y, none⟩ (.bool true)) (some (w.heap.size + 1 + 1)) := grown_setCell (grown_refl _ _)
            have hownA : (wr.setCell ⟨w.heap.size + 1 + 1, Y, none⟩ (.bool true)).ownsRow (w.heap.size + 1) 5 1 u5 T.1.length (bytesL T.1) := World.ownsRow.kept hown hS (own_ne_blk hown hhm (by decide))
            have hnb := own_ne_blk hown hhm (by decide)
            have hhs : (wr.setCell ⟨w.heap.size + 1 + 1, Y, none⟩ (.bool true)).heap[w.heap.size + 1 + 1]? = some (.cells (bv (mset T.2 Y)) 114 (0, 0)) := by rw [heap_setCell_same _ _ _ _ _ _ hhm, bv_set]
            have hbs : Below w.heap.size w (wr.setCell ⟨w.heap.size + 1 + 1, Y, none⟩ (.bool true)) := hb.grown hS hsz (fun g hg => by simp at hg; omega)
            have HH := hide hhm; clear hhm hcm
            have HS2 := hide hhs; clear hhs
            have HNB := hide hnb; clear hnb
            have HST := hide hst; clear hst
            have HTY := hide hTY; clear hTY
            have HBS := hide hbs; clear hbs
            have HOA := hide hownA; clear hownA
            go_wp2_with (at_builtin; refine wpList_append_own _ rfl _ _ 105 rfl (w.heap.size + 1) 5 i0 (.int .u8 0) 1 1 Try.underlying105 I0.out.1 I0.out.2.1 I0.out.2.2.1 I0.out.2.2.2 rfl (by decide) _ _ _ rfl (HOA.out.alloc _) ⟨wr.heap.size, 0, none⟩ 1 1 [.int .u8 Y] rfl rfl ?c1 ?c2 ?c3 ?c4 ?c5 ?_)
            case c1 => exact one_new _ _ _ _ (by simp)
            case c2 => intro u hu; simp at hu; subst hu; rfl
            case c3 => unfold maxLen; omega
            case c4 => omega
            case c5 => simp; omega
            intro v' w1 hown' hg' _
            have hrow : ∀ g, u5.ownBlock = some g → w.heap.size + 1 ≤ g := fun g hg => (HOA.out.lt g hg).1
            have hslt : w.heap.size + 1 + 1 < ((wr.setCell ⟨w.heap.size + 1 + 1, Y, none⟩ (.bool true)).alloc (.cells #[.int .u8 Y] 5)).heap.size := by simp; omega
            have hpc : cellsOf w1 w.heap.size = dv n f g := by
              rw [grown_cells hg' (by simp; omega) (fun e => by have := hrow _ e.symm; omega), cellsOf_past (by simp; omega), cellsOf_setCell_ne (by omega)]; exact HCD.out
            have hmc : w1.heap[w.heap.size + 1 + 1]? = some (.cells (bv (mset T.2 Y)) 114 (0, 0)) := by
              rw [hg'.block _ hslt (fun e => by rcases HNB.out with c | c; rw [c] at e; cases e; exact c e.symm), heap_past _ _ _ (by simp; omega)]; exact HS2.out
            have hbw : Below w.heap.size w w1 := (HBS.out.alloc (by simp; omega) _).grown hg' (by simp; omega) (fun g hg => by have := hrow g hg; omega)
            have hO : OwnB (w.heap.size + 1) w1 v' (badd T Y).1 := by
              rw [badd_new HTY.out]
              unfold OwnB bytesL at *
              simpa using hown'
            have H1 := hide hpc; clear hpc
            have H2 := hide hmc; clear hmc
            have H3 := hide hO; clear hO
            clear hown' hg' hrow c0 f0 hS HS2 HBS HOA HH HNB hslt hown
            go_wp2
            go_roundw
            case rel => exact ⟨j + 1, by omega, by go_num, hbw, H1.out, by rw [HST.out, badd_new HTY.out]; exact H2.out, by rw [HST.out]; exact H3.out⟩
            case measure => simp [intOf]; omega
          · have c0 : wr.cell? ⟨w.heap.size + 1 + 1, Y, none⟩ = some (.bool true) := by rw [cell_of_cells, hcm, bv_get _ hY16, hTY]
            have HH := hide hhm; clear hhm hcm
            have HST := hide hst; clear hst
            have HTY := hide hTY; clear hTY
            have HO := hide hown; clear hown
            go_wp2
            go_roundw
            case rel => exact ⟨j + 1, by omega, by go_num, hb, HCD.out, by rw [HST.out, badd_old HTY.out]; exact HH.out, by rw [HST.out, badd_old HTY.out]; exact HO.out⟩
            case measure => simp [intOf]; omega
        · obtain rfl : j = 2 := by omega
          have HH := hide hhm; clear hhm
          have HO := hide hown; clear hown
          have HCD := hide hcd; clear hcd
          go_wp2
          go_roundw
          case rel => exact ⟨k + 1, by omega, by go_num, hb, HCD.out, by rw [HN.out]; exact HH.out, by rw [HN.out]; exact HO.out⟩
          case measure => simp [intOf]; omega
    · obtain ⟨A, c, rfl⟩ := ownB_form hown
      have hst := bfs_stop (p := f) (q := g) (z := x) (i := k) (by omega) (j := 16) hk
      clear hhm hcd hI
      have HST := hide hst; clear hst
      have HO := hide hown; clear hown
      generalize bfs f g x k = S at *
      go_wp2
      go_ret
      exact ⟨_, rfl, hb, by rw [HST.out]; exact ⟨HO.out.1, HO.out.2.imp id (fun ⟨g, cap, cur, h1, h2, h3⟩ => ⟨g, cap, cur, h1, by omega, h3⟩)⟩⟩
end Go.Proofs.Ytdoehnckolhloaa

namespace Go.Proofs.Ytdoehnckolhloaa
open Go.RowKit

open Classical in
noncomputable def connB (f g : Nat → Nat) (m : Nat) : Bool := decide (conn f g m)
theorem connB_int (f g : Nat → Nat) (m : Nat) : ((((bfs f g 0 16).1.length : Nat) : Int) == (m : Int)) = connB f g m := by
  unfold connB conn
  generalize (bfs f g 0 16).1.length = a
  by_cases h : a = m
  · subst h; simp
  · have : ¬ (a : Int) = (m : Int) := by omega
    rw [beq_eq_false_iff_ne.2 this]; simp [h]

set_option maxRecDepth 100000 in
set_option maxHeartbeats 1000000 in
theorem isConn_any (f g : Nat → Nat) (m : Nat) (h0 : 0 < m) (hm : m ≤ 16) (hf : ∀ i, i < m → f i < m) (hg : ∀ i, i < m → g i < m) (w : World) :
    Calls Try.prog 88 #[.agg (dv m f g)] w fun e w' => e = .returned (.bool (connB f g m)) ∧ Below w.heap.size w w' := by
  have C : ∀ w1 : World, (cellsOf w1 w.heap.size = dv m f g ∧ w1.cell? ⟨w.heap.size, 0, none⟩ = some (.int .i64 m) ∧ w.heap.size < w1.heap.size ∧ Below w.heap.size w w1) →
      Calls Try.prog 120 #[.agg (dv m f g), .int .u8 0] w1 fun e w' => ∃ A c, e = .returned (.slice A (bfs f g 0 16).1.length c) ∧
        (cellsOf w' w.heap.size = dv m f g ∧ w'.cell? ⟨w.heap.size, 0, none⟩ = some (.int .i64 m) ∧ w.heap.size < w'.heap.size ∧ Below w.heap.size w w') := fun w1 ⟨h1, h2, h3, h4⟩ => by
    have := dartsFrom_any f g m hm hf hg 0 h0 m w1
    rw [show ((0 : Nat) : Int) = 0 from rfl] at this
    refine Calls.mono this ?_
    rintro e w' ⟨v, rfl, hb, ho⟩
    obtain ⟨A, c, rfl⟩ := ownB_form ho
    exact ⟨A, c, rfl, (below_cells hb h3).trans h1, (hb.cell (p := ⟨w.heap.size, 0, none⟩) h3).trans h2, Nat.lt_of_lt_of_le h3 hb.size, h4.trans (hb.mono (Nat.le_of_lt h3))⟩
  have C := hide C
  have hl := (bfs_inv hf hg h0 16).length_le
  have hb := connB_int f g m
  generalize bfs f g 0 16 = S at *
  generalize connB f g m = B at *
  clear hf hg
  have hn : cellsOf (w.alloc (.cells (dv m f g) 29)) w.heap.size = dv m f g := cellsOf_at rfl
  have hn2 : (w.alloc (.cells (dv m f g) 29)).cell? ⟨w.heap.size, 0, none⟩ = some (.int .i64 m) := by rw [cell_of_cells, hn]; exact dv_n m f g
  have hb1 := below1 w (.cells (dv m f g) 29)
  go_enter Try.func88, Try.ntmps88
  go_wp2
  go_region_held3 (fun w' => cellsOf w' w.heap.size = dv m f g ∧ w'.cell? ⟨w.heap.size, 0, none⟩ = some (.int .i64 m) ∧ w.heap.size < w'.heap.size ∧ Below w.heap.size w w') (first | assumption | exact ⟨hn, hn2, by simp, hb1.drew⟩) (first | (go_at_call 120; refine Calls.mono (C.out _ (by assumption)) ?_; rintro e w1 ⟨A, c, rfl, hS1⟩))
  all_goals go_wp2
  all_goals go_ret
  all_goals exact ⟨rfl, hS1.2.2.2⟩

set_option maxRecDepth 100000 in
set_option maxHeartbeats 1000000 in
theorem sConn_any (f g : Nat → Nat) (m : Nat) (h0 : 0 < m) (hm : m ≤ 16) (hf : ∀ i, i < m → f i < m) (hg : ∀ i, i < m → g i < m) (w : World) :
    Calls Try.prog 85 #[.int .i64 m, .agg (av f), .agg (av g)] w fun e w' => e = .returned (.bool (connB f g m)) ∧ Below w.heap.size w w' := by
  obtain ⟨F, FI, F0, FN, FS, FB⟩ : ∃ F : Nat → List Nat × (Nat → Bool), Hid (∀ k, BInv m (F k)) ∧ Hid (F 0 = ([0], mset (fun _ => false) 0)) ∧ Hid (∀ k (hk : k < (F k).1.length), F (k + 1) = bst f g (F k) ((F k).1[k]) 2) ∧
      Hid (∀ k, k ≤ 16 → (F k).1.length ≤ k → F 16 = F k) ∧ Hid ((((F 16).1.length : Nat) == (m : Int)) = connB f g m) :=
    ⟨bfs f g 0, hide fun k => bfs_inv hf hg h0 k, hide (bfs_start f g 0), hide fun k hk => bfs_next hk, hide fun k h1 h2 => bfs_stop h2 h1, hide (connB_int f g m)⟩
  have HF := hide hf; clear hf
  have HG := hide hg; clear hg
  generalize connB f g m = B at *
  obtain ⟨i0, hi, hz0, hz1, hz2⟩ := info_parts infoU8
  have I0 := hide (And.intro hi (And.intro hz0 (And.intro hz1 hz2))); clear hi hz0 hz1 hz2
  have h00 := bv_set (fun _ => false) 0
  rw [bv_false] at h00
  go_enter Try.func85, Try.ntmps85
  go_wp2
  have hlit : bv (mset (fun _ => false) 0) = #[.bool true, .bool false, .bool false, .bool false, .bool false, .bool false, .bool false, .bool false, .bool false, .bool false, .bool false, .bool false, .bool false, .bool false, .bool false, .bool false] := by unfold bv row; rfl
  go_loopw [8, 9] (fun out i wr => ∃ k : Nat, k ≤ 16 ∧ i = .int .i64 k ∧ Below w.heap.size w wr ∧ cellsOf wr w.heap.size = av f ∧ cellsOf wr (w.heap.size + 1) = av g ∧ wr.heap[w.heap.size + 1 + 1 + 1]? = some (.cells (bv (F k).2) 114 (0, 0)) ∧ OwnB (w.heap.size + 2) wr out (F k).1)
    (fun _ i _ => 16 - (intOf i).toNat)
  case atStart => exact ⟨0, by omega, rfl, below4 _ _ _ _ _, cellsOf_heap (heap3 rfl), cellsOf_heap (heap2 (by simp)), by rw [F0.out]; show _ = some (Obj.cells (bv (mset (fun _ => false) 0)) _ _); rw [hlit]; exact heap_at _ _ _ (by simp), by rw [F0.out]; exact ⟨by simp [bytesL], .inr ⟨w.heap.size + 1 + 1, 1, #[.int .u8 0], rfl, Nat.le_refl _, heap1 (by simp), Nat.le_refl _, by unfold maxLen; omega, by simp, by simp [bytesL]⟩⟩⟩
  case round =>
    clear hlit h00
    obtain ⟨k, hk, rfl, hb, hcf, hcg, hhm, hown⟩ := hrel
    have hI := FI.out k
    have hl16 : (F k).1.length ≤ 16 := by have := hI.length_le; omega
    by_cases hlt : k < (F k).1.length
    · have hnext := FN.out k hlt
      have hX := hI.lt _ (List.getElem_mem hlt)
      obtain ⟨g0, c, rfl, hB0, hg0, hc1, hc2, hcell⟩ := hown.at hlt
      have hsz := hb.size
      have hk16 : k < 16 := by omega
      generalize hS : F k = S at *
      generalize S.1[k] = X at *
      have HS := hide hS; clear hS
      have HN := hide hnext; clear hnext
      have hX16 : X < 16 := by omega
      have hfX := HF.out X hX
      have hgX := HG.out X hX
      have cb : wr.cell? ⟨w.heap.size, X, none⟩ = some (.int .u8 (f X)) := by rw [cell_of_cells, hcf, av_get _ hX16]
      have cw : wr.cell? ⟨w.heap.size + 1, X, none⟩ = some (.int .u8 (g X)) := by rw [cell_of_cells, hcg, av_get _ hX16]
      have HCF := hide hcf; clear hcf
      have HCG := hide hcg; clear hcg
      have HM := hide hhm; clear hhm
      have HO := hide hown; clear hown
      have HIV := hide hI; clear hI
      have hlw : w.heap.size + 1 + 1 + 1 < wr.heap.size := by
        rcases Nat.lt_or_ge (w.heap.size + 1 + 1 + 1) wr.heap.size with e | e
        · exact e
        · have := HM.out; rw [Array.getElem?_eq_none e] at this; cases this
      go_wp2
      go_region
      go_wp2
      have hz : World.grownBy wr ((wr.alloc (.cells #[.int .u8 (f X), .int .u8 (g X)] 5)).drew) none := grown_drew (grown_alloc (grown_refl _ _) _)
      have hbz : Below w.heap.size w ((wr.alloc (.cells #[.int .u8 (f X), .int .u8 (g X)] 5)).drew) := hb.grown hz hsz (fun g hg => by cases hg)
      have hcz : cellsOf ((wr.alloc (.cells #[.int .u8 (f X), .int .u8 (g X)] 5)).drew) w.heap.size = av f := by rw [grown_cells hz (by omega) (by simp)]; exact HCF.out
      have hcz' : cellsOf ((wr.alloc (.cells #[.int .u8 (f X), .int .u8 (g X)] 5)).drew) (w.heap.size + 1) = av g := by rw [grown_cells hz (by omega) (by simp)]; exact HCG.out
      have hmz : ((wr.alloc (.cells #[.int .u8 (f X), .int .u8 (g X)] 5)).drew).heap[w.heap.size + 1 + 1 + 1]? = some (.cells (bv S.2) 114 (0, 0)) := by rw [hz.block _ hlw (by simp)]; exact HM.out
      have hoz : OwnB (w.heap.size + 2) ((wr.alloc (.cells #[.int .u8 (f X), .int .u8 (g X)] 5)).drew) (.slice (some ⟨g0, 0, none⟩) S.1.length c) S.1 := World.ownsRow.kept HO.out hz (.inr (by simp [Value.ownBlock]))
      have hnz : ((wr.alloc (.cells #[.int .u8 (f X), .int .u8 (g X)] 5)).drew).heap[wr.heap.size]? = some (.cells #[.int .u8 (f X), .int .u8 (g X)] 5 (0, 0)) := heap_at wr (.cells #[.int .u8 (f X), .int .u8 (g X)] 5) _ rfl
      have hnb : wr.heap.size < ((wr.alloc (.cells #[.int .u8 (f X), .int .u8 (g X)] 5)).drew).heap.size := by simp
      obtain ⟨b, hbeq⟩ : ∃ b, b = wr.heap.size := ⟨_, rfl⟩
      rw [← hbeq] at hnz hnb hlw hg0 ⊢
      have hgne : g0 ≠ b := by omega
      clear hcell cb cw HCF HCG HM HO hb hg0 hc1 hc2 hlt hsz hz hbeq
      generalize (wr.alloc (.cells #[.int .u8 (f X), .int .u8 (g X)] 5)).drew = wz at *
      clear wr
      go_loopw [8, 11] (fun out j wr => ∃ jj : Nat, jj ≤ 2 ∧ j = .int .i64 jj ∧ Below w.heap.size w wr ∧ cellsOf wr w.heap.size = av f ∧ cellsOf wr (w.heap.size + 1) = av g ∧ wr.heap[w.heap.size + 1 + 1 + 1]? = some (.cells (bv (bst f g S X jj).2) 114 (0, 0)) ∧ OwnB (w.heap.size + 2) wr out (bst f g S X jj).1 ∧
          b < wr.heap.size ∧ (jj < 2 → wr.heap[b]? = some (.cells #[.int .u8 (f X), .int .u8 (g X)] 5 (0, 0))) ∧ (jj = 0 → out.ownBlock ≠ some b))
        (fun _ j _ => 2 - (intOf j).toNat)
      case atStart => exact ⟨0, by omega, rfl, hbz, hcz, hcz', hmz, hoz, hnb, fun _ => hnz, fun _ e => hgne (by injection e)⟩
      case round =>
        clear hbz hcz hcz' hmz hoz hnb hnz hgne
        obtain ⟨j, hj, rfl, hb, hcf, hcg, hhm, hown, hbl, hbb, hbn⟩ := hrel
        have hsz := hb.size
        have HCF := hide hcf; clear hcf
        have HCG := hide hcg; clear hcg
        by_cases hj2 : j < 2
        · have hst := bst_step f g S X hj2
          have hYl := stepY_lt hfX hgX j
          have hidx : (#[Value.int .u8 (f X), Value.int .u8 (g X)] : Array Value)[j]? = some (.int .u8 (stepY f g X j)) := by
            rcases j with _ | _ | j
            · rfl
            · rfl
            · omega
          have hcY : wr.cell? ⟨b, j, none⟩ = some (.int .u8 (stepY f g X j)) := by rw [cell_of_cells, cellsOf_heap (hbb hj2)]; exact hidx
          have hIT := bst_inv HIV.out hfX hgX j
          generalize bst f g S X j = T at *
          generalize stepY f g X j = Y at *
          clear hidx
          have hTl : T.1.length ≤ 16 := by have := hIT.length_le; omega
          have hY16 : Y < 16 := by omega
          have hcm : cellsOf wr (w.heap.size + 1 + 1 + 1) = bv T.2 := cellsOf_heap hhm
          have HBB := hide (hbb hj2); clear hbb
          rcases hTY : T.2 Y with _ | _
          · have c0 : wr.cell? ⟨w.heap.size + 1 + 1 + 1, Y, none⟩ = some (.bool false) := by rw [cell_of_cells, hcm, bv_get _ hY16, hTY]
            have f0 : wr.frozen? ⟨w.heap.size + 1 + 1 + 1, Y, none⟩ = false := by simp [World.frozen?, hhm]
            have hS : World.grownBy wr (wr.setCell ⟨w.heap.size + 1 + 1 + 1, Y, none⟩ (.bool true)) (some (w.heap.size + 1 + 1 + 1)) := grown_setCell (grown_refl _ _)
            have hcY2 : (wr.setCell ⟨w.heap.size + 1 + 1 + 1, Y, none⟩ (.bool true)).cell? ⟨b, j, none⟩ = some (.int .u8 Y) := by rw [cell_of_cells, cellsOf_setCell_ne (by omega), ← cell_of_cells]; exact hcY
            have hownA : (wr.setCell ⟨w.heap.size + 1 + 1 + 1, Y, none⟩ (.bool true)).ownsRow (w.heap.size + 2) 5 1 u8 T.1.length (bytesL T.1) := World.ownsRow.kept hown hS (own_ne_blk hown hhm (by decide))
            have hnb := own_ne_blk hown hhm (by decide)
            have hhs : (wr.setCell ⟨w.heap.size + 1 + 1 + 1, Y, none⟩ (.bool true)).heap[w.heap.size + 1 + 1 + 1]? = some (.cells (bv (mset T.2 Y)) 114 (0, 0)) := by rw [heap_setCell_same _ _ _ _ _ _ hhm, bv_set]
            have hbs : Below w.heap.size w (wr.setCell ⟨w.heap.size + 1 + 1 + 1, Y, none⟩ (.bool true)) := hb.grown hS hsz (fun g hg => by simp at hg; omega)
            have hhb : (wr.setCell ⟨w.heap.size + 1 + 1 + 1, Y, none⟩ (.bool true)).heap[b]? = some (.cells #[.int .u8 (f X), .int .u8 (g X)] 5 (0, 0)) := by rw [Below.heap_setCell wr ⟨w.heap.size + 1 + 1 + 1, Y, none⟩ _ b (show b ≠ w.heap.size + 1 + 1 + 1 by omega)]; exact HBB.out
            have hl3 : w.heap.size + 1 + 1 + 1 < wr.heap.size := by omega
            have HH := hide hhm; clear hhm hcm
            have HHB := hide hhb; clear hhb HBB
            have HS2 := hide hhs; clear hhs
            have HNB := hide hnb; clear hnb
            have HBN := hide hbn; clear hbn
            have HST := hide hst; clear hst
            have HTY := hide hTY; clear hTY
            have HBS := hide hbs; clear hbs
            have HOA := hide hownA; clear hownA
            have HCY2 := hide hcY2
            go_wp2_with (at_builtin; refine wpList_append_own _ rfl _ _ 105 rfl (w.heap.size + 2) 5 i0 (.int .u8 0) 1 1 Try.underlying105 I0.out.1 I0.out.2.1 I0.out.2.2.1 I0.out.2.2.2 rfl (by decide) _ _ _ rfl (HOA.out.alloc _) ⟨wr.heap.size, 0, none⟩ 1 1 [.int .u8 Y] rfl rfl ?c1 ?c2 ?c3 ?c4 ?c5 ?_)
            case c1 => exact one_new _ _ _ _ (by simp)
            case c2 => intro u hu; simp at hu; subst hu; rfl
            case c3 => unfold maxLen; omega
            case c4 => omega
            case c5 => simp; omega
            intro v' w1 hown' hg' _
            have hrow : ∀ g, u8.ownBlock = some g → w.heap.size + 2 ≤ g := fun g hg => (HOA.out.lt g hg).1
            have hslt : w.heap.size + 1 + 1 + 1 < ((wr.setCell ⟨w.heap.size + 1 + 1 + 1, Y, none⟩ (.bool true)).alloc (.cells #[.int .u8 Y] 5)).heap.size := by simp; omega
            have hpf : cellsOf w1 w.heap.size = av f := by
              rw [grown_cells hg' (by simp; omega) (fun e => by have := hrow _ e.symm; omega), cellsOf_past (by simp; omega), cellsOf_setCell_ne (by omega)]; exact HCF.out
            have hpg : cellsOf w1 (w.heap.size + 1) = av g := by
              rw [grown_cells hg' (by simp; omega) (fun e => by have := hrow _ e.symm; omega), cellsOf_past (by simp; omega), cellsOf_setCell_ne (by omega)]; exact HCG.out
            have hmc : w1.heap[w.heap.size + 1 + 1 + 1]? = some (.cells (bv (mset T.2 Y)) 114 (0, 0)) := by
              rw [hg'.block _ hslt (fun e => by rcases HNB.out with c | c; rw [c] at e; cases e; exact c e.symm), heap_past _ _ _ (by simp; omega)]; exact HS2.out
            have hbw : Below w.heap.size w w1 := (HBS.out.alloc (by simp; omega) _).grown hg' (by simp; omega) (fun g hg => by have := hrow g hg; omega)
            have hbl1 : b < w1.heap.size := by have := hg'.size; simp at this; omega
            have hbb1 : j + 1 < 2 → w1.heap[b]? = some (.cells #[.int .u8 (f X), .int .u8 (g X)] 5 (0, 0)) := fun h => by
              rw [hg'.block _ (by simp; omega) (fun e => HBN.out (by omega) e.symm), heap_past _ _ _ (by simp; omega)]; exact HHB.out
            have hO : OwnB (w.heap.size + 2) w1 v' (badd T Y).1 := by
              rw [badd_new HTY.out]
              unfold OwnB bytesL at *
              simpa using hown'
            have H1 := hide hpf; clear hpf
            have H2 := hide hmc; clear hmc
            have H3 := hide hO; clear hO
            have H4 := hide hpg; clear hpg
            have H5 := hide hbb1; clear hbb1
            clear hown' hg' hrow c0 f0 hS HS2 HBS HOA HH HNB hslt hown hcY hcY2 HCY2 HHB HBN
            go_wp2
            go_roundw
            case rel => exact ⟨j + 1, by omega, by go_num, hbw, H1.out, H4.out, by rw [HST.out, badd_new HTY.out]; exact H2.out, by rw [HST.out]; exact H3.out, hbl1, H5.out, fun e => by omega⟩
            case measure => simp [intOf]; omega
          · have c0 : wr.cell? ⟨w.heap.size + 1 + 1 + 1, Y, none⟩ = some (.bool true) := by rw [cell_of_cells, hcm, bv_get _ hY16, hTY]
            have HH := hide hhm; clear hhm hcm
            have HST := hide hst; clear hst
            have HTY := hide hTY; clear hTY
            have HO := hide hown; clear hown
            clear hbn
            go_wp2
            go_roundw
            case rel => exact ⟨j + 1, by omega, by go_num, hb, HCF.out, HCG.out, by rw [HST.out, badd_old HTY.out]; exact HH.out, by rw [HST.out, badd_old HTY.out]; exact HO.out, hbl, fun _ => HBB.out, fun e => by omega⟩
            case measure => simp [intOf]; omega
        · obtain rfl : j = 2 := by omega
          have HH := hide hhm; clear hhm
          have HO := hide hown; clear hown
          clear hbb hbn
          go_wp2
          go_roundw
          case rel => exact ⟨k + 1, by omega, by go_num, hb, HCF.out, HCG.out, by rw [HN.out]; exact HH.out, by rw [HN.out]; exact HO.out⟩
          case measure => simp [intOf]; omega
    · obtain ⟨A, c, rfl⟩ := ownB_form hown
      have hst := FS.out k hk (by omega)
      clear hhm hcf hcg hI hown
      rw [hst] at FB
      clear hst
      generalize F k = S at *
      have hcb := FB.out
      go_wp2
      go_ret
      exact ⟨rfl, hb⟩
end Go.Proofs.Ytdoehnckolhloaa

namespace Go.Proofs.Ytdoehnckolhloaa
open Go.RowKit

/-- a permutation of n numbers, as the document has it -/
def PermN (f : Nat → Nat) (n : Nat) : Prop := 1 ≤ n ∧ n ≤ 16 ∧ Bij f n ∧ ∀ i, n ≤ i → i < 16 → f i = 0
open Classical in
@[irreducible] noncomputable def permB (f : Nat → Nat) (n : Int) : Bool := decide (0 ≤ n ∧ PermN f n.toNat)
theorem permB_yes {f : Nat → Nat} {m : Nat} (h : PermN f m) : permB f (m : Int) = true := by unfold permB; simpa using h
theorem permB_no {f : Nat → Nat} {m : Nat} (h : ¬ PermN f m) : permB f (m : Int) = false := by unfold permB; simpa using h
theorem permB_out {f : Nat → Nat} {n : Int} (h : ¬ (1 ≤ n ∧ n ≤ 16)) : permB f n = false := by
  unfold permB; simp only [decide_eq_false_iff_not]
  rintro ⟨h0, h1, h2, _⟩
  omega
theorem permB_true {f : Nat → Nat} {n : Int} (h : permB f n = true) : ∃ m : Nat, n = (m : Int) ∧ PermN f m := by
  unfold permB at h; simp only [decide_eq_true_eq] at h
  exact ⟨n.toNat, by omega, h.2⟩

/-- what the first k entries have met -/
@[irreducible] def metk (f : Nat → Nat) (k : Nat) : Nat → Bool := fun y => (List.range k).any fun i => f i == y
theorem metk_iff (f : Nat → Nat) (k y : Nat) : metk f k y = true ↔ ∃ i, i < k ∧ f i = y := by unfold metk; simp
theorem metk_zero (f : Nat → Nat) : metk f 0 = fun _ => false := by unfold metk; rfl
theorem metk_step (f : Nat → Nat) (k : Nat) : mset (metk f k) (f k) = metk f (k + 1) := by
  funext y
  rw [Bool.eq_iff_iff]
  simp only [mset, Bool.or_eq_true, beq_iff_eq, metk_iff]
  constructor
  · rintro (rfl | ⟨i, hi, rfl⟩)
    · exact ⟨k, by omega, rfl⟩
    · exact ⟨i, by omega, rfl⟩
  · rintro ⟨i, hi, rfl⟩
    by_cases c : i = k
    · subst c; exact .inl rfl
    · exact .inr ⟨i, by omega, rfl⟩


theorem dart_yes (n : Int) (w : World) (h1 : 1 ≤ n) (h2 : n ≤ 16) : Calls Try.prog 119 #[.int .i64 n] w fun e w' => e = .returned (.bool true) ∧ w = w' := by
  go_enter Try.func119, Try.ntmps119
  go_wp2
  go_ret
  exact ⟨by simp, rfl⟩
theorem dart_no (n : Int) (w : World) (h : ¬ (1 ≤ n ∧ n ≤ 16)) : Calls Try.prog 119 #[.int .i64 n] w fun e w' => e = .returned (.bool false) ∧ w = w' := by
  by_cases h1 : 1 ≤ n
  · have h2 : ¬ n ≤ 16 := fun c => h ⟨h1, c⟩
    clear h
    go_enter Try.func119, Try.ntmps119
    go_wp2
    go_ret
    exact ⟨by simp, rfl⟩
  · clear h
    go_enter Try.func119, Try.ntmps119
    go_wp2
    go_ret
    exact ⟨by simp, rfl⟩

set_option maxRecDepth 100000 in
set_option maxHeartbeats 400000 in
theorem isPerm_any (f : Nat → Nat) (hf : ∀ i, f i < 256) (n : Int) (w : World) : Calls Try.prog 87 #[.agg (av f), .int .i64 n] w fun e w' => e = .returned (.bool (permB f n)) ∧ Below w.heap.size w w' := by
  by_cases hn : 1 ≤ n ∧ n ≤ 16
  · obtain ⟨m, rfl⟩ := Int.eq_ofNat_of_zero_le (show 0 ≤ n by omega)
    have hm1 : 1 ≤ m := by omega
    have hm2 : m ≤ 16 := by omega
    clear hn
    have hsl := slice_hi w.heap.size m hm2
    obtain ⟨o, ho, hsr⟩ := slice_lo w.heap.size m hm2
    have HO := hide ho; clear ho
    go_enter Try.func87, Try.ntmps87
    go_wp2_with (go_at_call 119; refine (dart_yes _ _ (by omega) (by omega)).mono ?_; rintro e w' ⟨rfl, rfl⟩)
    clear hsl
    rw [← bv_false]
    go_loopw [16] (fun i wr => ∃ k : Nat, k ≤ m ∧ i = .int .i64 k ∧ wr = (w.alloc (.cells (av f) 27)).alloc (.cells (bv (metk f k)) 114) ∧ (∀ i, i < k → f i < m) ∧ (∀ i j, i < j → j < k → f i ≠ f j))
      (fun i _ => m - (intOf i).toNat)
    case atStart => exact ⟨0, by omega, rfl, by rw [metk_zero], by omega, by omega⟩
    case round =>
      obtain ⟨k, hk, rfl, rfl, hb, hd⟩ := hrel
      have HB := hide hb; clear hb
      have HD := hide hd; clear hd
      by_cases hlt : k < m
      · have h1 := av_get f (i := k) (by omega)
        have h256 := hf k
        have HF := hide hf; clear hf
        by_cases hfm : f k < m
        · have h2 := bv_get (metk f k) (i := f k) (by omega)
          rcases hmk : metk f k (f k) with _ | _
          · rw [hmk] at h2
            have h3 := bv_set (metk f k) (f k)
            rw [metk_step] at h3
            have HM := hide hmk; clear hmk
            go_wp2
            go_roundw
            case rel =>
              refine ⟨k + 1, by omega, by go_num, rfl, fun i hi => ?_, fun i j hij hj e => ?_⟩
              · by_cases c : i = k
                · subst c; exact hfm
                · exact HB.out i (by omega)
              · by_cases c : j = k
                · subst c
                  have : metk f j (f j) = true := (metk_iff f j (f j)).2 ⟨i, hij, e⟩
                  rw [HM.out] at this; cases this
                · exact HD.out i j hij (by omega) e
            case measure => simp [intOf]; omega
          · rw [hmk] at h2
            have HM := hide hmk; clear hmk
            have hno : ¬ PermN f m := by
              rintro ⟨_, _, hbj, _⟩
              obtain ⟨i, hi, e⟩ := (metk_iff f k (f k)).1 HM.out
              have := hbj.2 i k (by omega) (by omega) e
              omega
            have HN := hide (permB_no hno); clear hno
            go_wp2
            go_ret
            exact ⟨by rw [HN.out]; rfl, ((Below.refl _ _).alloc (Nat.le_refl _) _).alloc (by simp) _⟩
        · have hno : ¬ PermN f m := by
            rintro ⟨_, _, hbj, _⟩
            exact hfm (hbj.1 k (by omega))
          have hd : decide (m ≤ f k) = true := by simp; omega
          have HN := hide (permB_no hno); clear hno
          go_wp2
          go_ret
          exact ⟨by rw [HN.out]; rfl, ((Below.refl _ _).alloc (Nat.le_refl _) _).alloc (by simp) _⟩
      · obtain rfl : k = m := by omega
        clear hlt hk
        go_wp2
        clear hsr
        go_loopw [35] (fun i wr => ∃ j : Nat, j ≤ 16 - k ∧ i = .int .i64 j ∧ wr = (w.alloc (.cells (av f) 27)).alloc (.cells (bv (metk f k)) 114) ∧ (∀ i, i < j → f (k + i) = 0))
          (fun i _ => 16 - k - (intOf i).toNat)
        case atStart => exact ⟨0, by omega, rfl, rfl, by omega⟩
        case round =>
          obtain ⟨j, hj, rfl, rfl, hz⟩ := hrel
          have HZ := hide hz; clear hz
          by_cases hlt : j < 16 - k
          · have hk16 : ¬ k = 16 := by omega
            obtain rfl : k = o := (HO.out (by omega)).symm
            have h1 := av_get f (i := k + j) (by omega)
            have h256 := hf (k + j)
            clear hf
            have hw : ((16 - k : Nat) : Int) = 16 - (k : Int) := by omega
            by_cases hf0 : f (k + j) = 0
            · have h0 : ((f (k + j) : Int) != 0) = false := by simp [hf0]
              have H0 := hide hf0; clear hf0
              go_wp2
              go_roundw
              case rel =>
                refine ⟨j + 1, by omega, by go_num, by first | rfl | trivial, fun i hi => ?_⟩
                by_cases c : i = j
                · subst c; exact H0.out
                · exact HZ.out i (by omega)
              case measure => simp [intOf]; omega
            · have h0 : ((f (k + j) : Int) != 0) = true := by simp [hf0]
              have hno : ¬ PermN f k := by
                rintro ⟨_, _, _, hz0⟩
                exact hf0 (hz0 (k + j) (by omega) (by omega))
              have HN := hide (permB_no hno); clear hno hf0
              go_wp2
              go_ret
              exact ⟨by rw [HN.out]; rfl, ((Below.refl _ _).alloc (Nat.le_refl _) _).alloc (by simp) _⟩
          · obtain rfl : j = 16 - k := by omega
            have hyes : PermN f k := by
              refine ⟨hm1, hm2, ⟨HB.out, fun x y hx hy e => ?_⟩, fun i h1 h2 => ?_⟩
              · rcases Nat.lt_trichotomy x y with c | c | c
                · exact absurd e (HD.out x y c hy)
                · exact c
                · exact absurd e.symm (HD.out y x c hx)
              · have := HZ.out (i - k) (by omega)
                rwa [show k + (i - k) = i from by omega] at this
            have HN := hide (permB_yes hyes); clear hyes
            go_wp2
            go_ret
            exact ⟨by rw [HN.out]; rfl, ((Below.refl _ _).alloc (Nat.le_refl _) _).alloc (by simp) _⟩
  · rw [permB_out hn]
    go_enter Try.func87, Try.ntmps87
    go_wp2_with (go_at_call 119; refine (dart_no _ _ hn).mono ?_; rintro e w' ⟨rfl, rfl⟩)
    go_ret
    exact ⟨rfl, (Below.refl _ _).alloc (Nat.le_refl _) _⟩

end Go.Proofs.Ytdoehnckolhloaa

namespace Go.Proofs.Ytdoehnckolhloaa
open Go.RowKit

theorem in_yes (n a b : Int) (w : World) (h1 : a ≤ n) (h2 : n ≤ b) : Calls Try.prog 64 #[.int .i64 n, .int .i64 a, .int .i64 b] w fun e w' => e = .returned (.bool true) ∧ w = w' := by
  go_enter Try.func64, Try.ntmps64
  go_wp2
  go_ret
  exact ⟨by simp, rfl⟩
theorem in_no (n a b : Int) (w : World) (h : ¬ (a ≤ n ∧ n ≤ b)) : Calls Try.prog 64 #[.int .i64 n, .int .i64 a, .int .i64 b] w fun e w' => e = .returned (.bool false) ∧ w = w' := by
  by_cases h1 : a ≤ n
  · have h2 : ¬ n ≤ b := fun c => h ⟨h1, c⟩
    clear h
    go_enter Try.func64, Try.ntmps64
    go_wp2
    go_ret
    exact ⟨by simp, rfl⟩
  · clear h
    go_enter Try.func64, Try.ntmps64
    go_wp2
    go_ret
    exact ⟨by simp, rfl⟩

set_option maxRecDepth 100000 in
set_option maxHeartbeats 400000 in
theorem sPerm_any (f : Nat → Nat) (hf : ∀ i, f i < 256) (n : Int) (w : World) : Calls Try.prog 84 #[.agg (av f), .int .i64 n] w fun e w' => e = .returned (.bool (permB f n)) ∧ Below w.heap.size w w' := by
  by_cases hn : 1 ≤ n ∧ n ≤ 16
  · obtain ⟨m, rfl⟩ := Int.eq_ofNat_of_zero_le (show 0 ≤ n by omega)
    have hm1 : 1 ≤ m := by omega
    have hm2 : m ≤ 16 := by omega
    clear hn
    go_enter Try.func84, Try.ntmps84
    go_wp2_with (go_at_call 64; refine (in_yes _ _ _ _ (by omega) (by omega)).mono ?_; rintro e w' ⟨rfl, rfl⟩)
    rw [← bv_false]
    go_loopw [6] (fun i wr => ∃ k : Nat, k ≤ 16 ∧ i = .int .i64 k ∧ wr = (w.alloc (.cells (av f) 27)).alloc (.cells (bv (metk f (min k m))) 114) ∧ (∀ i, i < k → i < m → f i < m) ∧ (∀ i j, i < j → j < k → j < m → f i ≠ f j) ∧ (∀ i, m ≤ i → i < k → f i = 0))
      (fun i _ => 16 - (intOf i).toNat)
    case atStart => exact ⟨0, by omega, rfl, by rw [Nat.zero_min, metk_zero], by omega, by omega, by omega⟩
    case round =>
      obtain ⟨k, hk, rfl, rfl, hb, hd, hz⟩ := hrel
      have HB := hide hb; clear hb
      have HD := hide hd; clear hd
      have HZ := hide hz; clear hz
      have h256 := hf k
      have HF := hide hf; clear hf
      by_cases hlt : k < 16
      · have h1 := av_get f (i := k) (by omega)
        by_cases hkm : k < m
        · have hmin : min k m = k := by omega
          have hmin' : min (k + 1) m = k + 1 := by omega
          rw [hmin]
          clear hmin
          by_cases hfm : f k < m
          · have h2 := bv_get (metk f k) (i := f k) (by omega)
            rcases hmk : metk f k (f k) with _ | _
            · rw [hmk] at h2
              have h3 := bv_set (metk f k) (f k)
              rw [metk_step] at h3
              have HM := hide hmk; clear hmk
              have HI := hide hmin'; clear hmin'
              go_wp2
              go_roundw
              case rel =>
                refine ⟨k + 1, by omega, by go_num, by rw [HI.out], fun i hi _ => ?_, fun i j hij hj _ e => ?_, by omega⟩
                · by_cases c : i = k
                  · subst c; exact hfm
                  · exact HB.out i (by omega) (by omega)
                · by_cases c : j = k
                  · subst c
                    have : metk f j (f j) = true := (metk_iff f j (f j)).2 ⟨i, hij, e⟩
                    rw [HM.out] at this; cases this
                  · exact HD.out i j hij (by omega) (by omega) e
              case measure => simp [intOf]; omega
            · rw [hmk] at h2
              have HM := hide hmk; clear hmk hmin'
              have hno : ¬ PermN f m := by
                rintro ⟨_, _, hbj, _⟩
                obtain ⟨i, hi, e⟩ := (metk_iff f k (f k)).1 HM.out
                have := hbj.2 i k (by omega) (by omega) e
                omega
              have HN := hide (permB_no hno); clear hno
              go_wp2
              go_ret
              exact ⟨by rw [HN.out]; rfl, below2 _ _ _⟩
          · have hno : ¬ PermN f m := by
              rintro ⟨_, _, hbj, _⟩
              exact hfm (hbj.1 k (by omega))
            have hd : decide (m ≤ f k) = true := by simp; omega
            have HN := hide (permB_no hno); clear hno hmin'
            go_wp2
            go_ret
            exact ⟨by rw [HN.out]; rfl, below2 _ _ _⟩
        · have hmin : min k m = m := by omega
          have hmin' : min (k + 1) m = m := by omega
          rw [hmin]
          have HI := hide hmin'; clear hmin hmin'
          by_cases hf0 : f k = 0
          · have h0 : ((f k : Int) != 0) = false := by simp [hf0]
            have H0 := hide hf0; clear hf0
            go_wp2
            go_roundw
            case rel =>
              refine ⟨k + 1, by omega, by go_num, by rw [HI.out], fun i hi h => HB.out i (by omega) h, fun i j hij hj h => HD.out i j hij (by omega) h, fun i hi h => ?_⟩
              by_cases c : i = k
              · subst c; exact H0.out
              · exact HZ.out i hi (by omega)
            case measure => simp [intOf]; omega
          · have h0 : ((f k : Int) != 0) = true := by simp [hf0]
            have hno : ¬ PermN f m := by
              rintro ⟨_, _, _, hz0⟩
              exact hf0 (hz0 k (by omega) (by omega))
            have HN := hide (permB_no hno); clear hno hf0
            go_wp2
            go_ret
            exact ⟨by rw [HN.out]; rfl, below2 _ _ _⟩
      · obtain rfl : k = 16 := by omega
        clear hlt hk
        have hyes : PermN f m := by
          refine ⟨hm1, hm2, ⟨fun x hx => HB.out x (by omega) hx, fun x y hx hy e => ?_⟩, fun i h1 h2 => HZ.out i h1 h2⟩
          rcases Nat.lt_trichotomy x y with c | c | c
          · exact absurd e (HD.out x y c (by omega) hy)
          · exact c
          · exact absurd e.symm (HD.out y x c (by omega) hx)
        have HN := hide (permB_yes hyes); clear hyes
        go_wp2
        go_ret
        exact ⟨by rw [HN.out]; rfl, below2 _ _ _⟩
  · rw [permB_out hn]
    go_enter Try.func84, Try.ntmps84
    go_wp2_with (go_at_call 64; refine (in_no _ _ _ _ hn).mono ?_; rintro e w' ⟨rfl, rfl⟩)
    go_ret
    exact ⟨rfl, below1 _ _⟩

end Go.Proofs.Ytdoehnckolhloaa

namespace Go.Proofs.Ytdoehnckolhloaa
open Go.RowKit

/-- a dessin of n darts, as the document has it -/
noncomputable def desB (n : Int) (f g : Nat → Nat) : Bool := permB f n && (permB g n && connB f g n.toNat)
/-- what is known of a dessin -/
structure DesN (f g : Nat → Nat) (m : Nat) : Prop where
  pos : 0 < m
  le : m ≤ 16
  black : PermN f m
  white : PermN g m
  conn : conn f g m
theorem DesN.bf {f g : Nat → Nat} {m : Nat} (h : DesN f g m) : Bij f m := h.black.2.2.1
theorem DesN.bg {f g : Nat → Nat} {m : Nat} (h : DesN f g m) : Bij g m := h.white.2.2.1
theorem desB_true {n : Int} {f g : Nat → Nat} (h : desB n f g = true) : ∃ m : Nat, n = (m : Int) ∧ DesN f g m := by
  unfold desB at h
  simp only [Bool.and_eq_true] at h
  obtain ⟨h1, h2, h3⟩ := h
  obtain ⟨m, rfl, hp⟩ := permB_true h1
  obtain ⟨m', e, hq⟩ := permB_true h2
  obtain rfl : m = m' := by omega
  rw [Int.toNat_natCast] at h3
  unfold connB at h3
  exact ⟨m, rfl, hp.1, hp.2.1, hp, hq, by simpa using h3⟩

set_option maxRecDepth 100000 in
set_option maxHeartbeats 1000000 in
theorem isDessin_any (n : Int) (f g : Nat → Nat) (hf : ∀ i, f i < 256) (hg : ∀ i, g i < 256) (w : World) :
    Calls Try.prog 48 #[.agg (dv n f g)] w fun e w' => e = .returned (.bool (desB n f g)) ∧ Below w.heap.size w w' := by
  have hn := dv_n n f g
  have C1 := hide fun w => isPerm_any f hf n w
  have C2 := hide fun w => isPerm_any g hg n w
  clear hf hg
  have hD : desB n f g = (permB f n && (permB g n && connB f g n.toNat)) := rfl
  rcases h1 : permB f n with _ | _
  · rw [h1] at C1 hD
    rw [Bool.false_and] at hD
    rw [hD]
    clear hD h1 C2
    go_enter Try.func48, Try.ntmps48
    go_wp2_with fail
    refine (C1.out _).mono ?_
    rintro e w1 ⟨rfl, hb⟩
    have b1 := (below1 w _).trans (hb.mono (by simp))
    clear hb
    go_wp2
    go_ret
    exact ⟨rfl, b1⟩
  · rcases h2 : permB g n with _ | _
    · rw [h1, h2] at hD
      rw [h1] at C1
      rw [h2] at C2
      rw [Bool.false_and, Bool.and_false] at hD
      rw [hD]
      clear hD h1 h2
      go_enter Try.func48, Try.ntmps48
      go_wp2_with fail
      refine (C1.out _).mono ?_
      rintro e w1 ⟨rfl, hb⟩
      have c1 : cellsOf w1 w.heap.size = dv n f g := (below_cells hb (by simp)).trans (cellsOf_heap (heap_at _ _ _ rfl))
      have n1 : w1.cell? ⟨w.heap.size, 0, none⟩ = some (.int .i64 n) := by rw [cell_of_cells, c1]; exact hn
      have b1 := (below1 w _).trans (hb.mono (by simp))
      clear hb
      go_wp2_with fail
      refine (C2.out _).mono ?_
      rintro e w2 ⟨rfl, hb⟩
      have b2 := b1.trans (hb.mono b1.size)
      clear hb b1 c1 n1
      go_wp2
      go_ret
      exact ⟨rfl, b2⟩
    · obtain ⟨m, rfl, hp⟩ := permB_true h1
      obtain ⟨m', e, hq⟩ := permB_true h2
      obtain rfl : m = m' := by omega
      rw [h1, h2, Bool.true_and, Bool.true_and, Int.toNat_natCast] at hD
      rw [h1] at C1
      rw [h2] at C2
      rw [hD]
      have C3 := hide fun w => isConn_any f g m hp.1 hp.2.1 hp.2.2.1.1 hq.2.2.1.1 w
      generalize connB f g m = B at *
      clear hD h1 h2 e hp hq
      go_enter Try.func48, Try.ntmps48
      go_wp2_with fail
      refine (C1.out _).mono ?_
      rintro e w1 ⟨rfl, hb⟩
      have c1 : cellsOf w1 w.heap.size = dv m f g := (below_cells hb (by simp)).trans (cellsOf_heap (heap_at _ _ _ rfl))
      have n1 : w1.cell? ⟨w.heap.size, 0, none⟩ = some (.int .i64 m) := by rw [cell_of_cells, c1]; exact hn
      have b1 := (below1 w _).trans (hb.mono (by simp))
      have l1 : w.heap.size < w1.heap.size := by have := hb.size; simp at this; omega
      clear hb
      go_wp2_with fail
      refine (C2.out _).mono ?_
      rintro e w2 ⟨rfl, hb⟩
      have c2 : cellsOf w2 w.heap.size = dv m f g := (below_cells hb l1).trans c1
      have b2 := b1.trans (hb.mono b1.size)
      clear hb b1 c1 n1 l1
      go_wp2_with fail
      refine (C3.out _).mono ?_
      rintro e w3 ⟨rfl, hb⟩
      have b3 := b2.trans (hb.mono b2.size)
      clear hb b2 c2
      go_wp2
      go_ret
      exact ⟨rfl, b3⟩

set_option maxRecDepth 100000 in
set_option maxHeartbeats 1000000 in
theorem sIs_any (n : Int) (f g : Nat → Nat) (hf : ∀ i, f i < 256) (hg : ∀ i, g i < 256) (w : World) :
    Calls Try.prog 45 #[.agg (dv n f g)] w fun e w' => e = .returned (.bool (desB n f g)) ∧ Below w.heap.size w w' := by
  have hn := dv_n n f g
  have C1 := hide fun w => sPerm_any f hf n w
  have C2 := hide fun w => sPerm_any g hg n w
  clear hf hg
  have hD : desB n f g = (permB f n && (permB g n && connB f g n.toNat)) := rfl
  rcases h1 : permB f n with _ | _
  · rw [h1] at C1 hD
    rw [Bool.false_and] at hD
    rw [hD]
    clear hD h1 C2
    go_enter Try.func45, Try.ntmps45
    go_wp2_with fail
    refine (C1.out _).mono ?_
    rintro e w1 ⟨rfl, hb⟩
    have b1 := (below1 w _).trans (hb.mono (by simp))
    clear hb
    go_wp2
    go_ret
    exact ⟨rfl, b1⟩
  · rcases h2 : permB g n with _ | _
    · rw [h1, h2] at hD
      rw [h1] at C1
      rw [h2] at C2
      rw [Bool.false_and, Bool.and_false] at hD
      rw [hD]
      clear hD h1 h2
      go_enter Try.func45, Try.ntmps45
      go_wp2_with fail
      refine (C1.out _).mono ?_
      rintro e w1 ⟨rfl, hb⟩
      have c1 : cellsOf w1 w.heap.size = dv n f g := (below_cells hb (by simp)).trans (cellsOf_heap (heap_at _ _ _ rfl))
      have n1 : w1.cell? ⟨w.heap.size, 0, none⟩ = some (.int .i64 n) := by rw [cell_of_cells, c1]; exact hn
      have b1 := (below1 w _).trans (hb.mono (by simp))
      clear hb
      go_wp2_with fail
      refine (C2.out _).mono ?_
      rintro e w2 ⟨rfl, hb⟩
      have b2 := b1.trans (hb.mono b1.size)
      clear hb b1 c1 n1
      go_wp2
      go_ret
      exact ⟨rfl, b2⟩
    · obtain ⟨m, rfl, hp⟩ := permB_true h1
      obtain ⟨m', e, hq⟩ := permB_true h2
      obtain rfl : m = m' := by omega
      rw [h1, h2, Bool.true_and, Bool.true_and, Int.toNat_natCast] at hD
      rw [h1] at C1
      rw [h2] at C2
      rw [hD]
      have C3 := hide fun w => sConn_any f g m hp.1 hp.2.1 hp.2.2.1.1 hq.2.2.1.1 w
      generalize connB f g m = B at *
      clear hD h1 h2 e hp hq
      go_enter Try.func45, Try.ntmps45
      go_wp2_with fail
      refine (C1.out _).mono ?_
      rintro e w1 ⟨rfl, hb⟩
      have c1 : cellsOf w1 w.heap.size = dv m f g := (below_cells hb (by simp)).trans (cellsOf_heap (heap_at _ _ _ rfl))
      have n1 : w1.cell? ⟨w.heap.size, 0, none⟩ = some (.int .i64 m) := by rw [cell_of_cells, c1]; exact hn
      have b1 := (below1 w _).trans (hb.mono (by simp))
      have l1 : w.heap.size < w1.heap.size := by have := hb.size; simp at this; omega
      clear hb
      go_wp2_with fail
      refine (C2.out _).mono ?_
      rintro e w2 ⟨rfl, hb⟩
      have c2 : cellsOf w2 w.heap.size = dv m f g := (below_cells hb l1).trans c1
      have n2 : w2.cell? ⟨w.heap.size, 0, none⟩ = some (.int .i64 m) := by rw [cell_of_cells, c2]; exact hn
      have b2 := b1.trans (hb.mono b1.size)
      clear hb b1 c1 n1 l1
      go_wp2_with fail
      refine (C3.out _).mono ?_
      rintro e w3 ⟨rfl, hb⟩
      have b3 := b2.trans (hb.mono b2.size)
      clear hb b2 c2 n2
      go_wp2
      go_ret
      exact ⟨rfl, b3⟩
end Go.Proofs.Ytdoehnckolhloaa

namespace Go.Proofs.Ytdoehnckolhloaa
open Go.RowKit

def thenF (p q : Nat → Nat) (n : Nat) : Nat → Nat := upto (fun i => q (p i)) n
def backTo (p : Nat → Nat) : Nat → Nat → Nat
  | 0 => fun _ => 0
  | k + 1 => fset (backTo p k) (p k) k
def sameF (n : Nat) : Nat → Nat := upto (fun i => i) n
def backF (p : Nat → Nat) (n : Nat) : Nat → Nat := backTo p n
theorem backTo_step (p : Nat → Nat) (k : Nat) : fset (backTo p k) (p k) k = backTo p (k + 1) := rfl

set_option maxHeartbeats 400000 in
theorem follow_any (p q : Nat → Nat) (m : Nat) (hm : m ≤ 16) (hp : ∀ i, i < m → p i < 16) (w : World) :
    Calls Try.prog 115 #[.agg (av p), .agg (av q), .int .i64 m] w fun e w' => e = .returned (.agg (av (thenF p q m))) ∧ Below w.heap.size w w' := by
  have HP := hide hp; clear hp
  go_enter Try.func115, Try.ntmps115
  go_wp2
  rw [← av_zero]
  go_loopw [10] (fun i wr => ∃ k : Nat, k ≤ m ∧ i = .int .i64 k ∧ wr = (((w.alloc (.cells (av p) 27)).alloc (.cells (av q) 27)).alloc (.cells (av fun _ => 0) 27)).alloc (.cells (av (upto (fun i => q (p i)) k)) 27)) (fun i _ => m - (intOf i).toNat)
  case atStart => exact ⟨0, by omega, rfl, by rw [upto_zero]⟩
  case round =>
    obtain ⟨k, hk, rfl, rfl⟩ := hrel
    by_cases hlt : k < m
    · have hp16 := HP.out k hlt
      have h1 := av_get p (i := k) (by omega)
      have h2 := av_get q (i := p k) hp16
      have h4 := av_get (upto (fun i => q (p i)) k) (i := k) (by omega)
      have h3 := av_set (upto (fun i => q (p i)) k) k (q (p k))
      rw [upto_step (fun i => q (p i))] at h3
      go_wp2
      go_roundw
      case rel => exact ⟨k + 1, by omega, by go_num, rfl⟩
      case measure => simp [intOf]; omega
    · obtain rfl : k = m := by omega
      clear hlt hk
      go_wp2
      exact res_agg (p := 6) (g := w.heap.size + 1 + 1) aggP (av_size (thenF p q k)) rfl rfl rfl (heap1 (by simp)) ⟨rfl, below4 _ _ _ _ _⟩

set_option maxHeartbeats 400000 in
theorem sThen_any (p q : Nat → Nat) (m : Nat) (hm : m ≤ 16) (hp : ∀ i, i < m → p i < 16) (w : World) :
    Calls Try.prog 130 #[.agg (av p), .agg (av q), .int .i64 m] w fun e w' => e = .returned (.agg (av (thenF p q m))) ∧ Below w.heap.size w w' := by
  have HP := hide hp; clear hp
  go_enter Try.func130, Try.ntmps130
  go_wp2
  rw [← av_zero]
  go_loopw [8] (fun i wr => ∃ k : Nat, k ≤ m ∧ i = .int .i64 k ∧ wr = (((w.alloc (.cells (av p) 27)).alloc (.cells (av q) 27)).alloc (.cells (av fun _ => 0) 27)).alloc (.cells (av (upto (fun i => q (p i)) k)) 27)) (fun i _ => m - (intOf i).toNat)
  case atStart => exact ⟨0, by omega, rfl, by rw [upto_zero]⟩
  case round =>
    obtain ⟨k, hk, rfl, rfl⟩ := hrel
    by_cases hlt : k < m
    · have hp16 := HP.out k hlt
      have h1 := av_get p (i := k) (by omega)
      have h2 := av_get q (i := p k) hp16
      have h4 := av_get (upto (fun i => q (p i)) k) (i := k) (by omega)
      have h3 := av_set (upto (fun i => q (p i)) k) k (q (p k))
      rw [upto_step (fun i => q (p i))] at h3
      go_wp2
      go_roundw
      case rel => exact ⟨k + 1, by omega, by go_num, rfl⟩
      case measure => simp [intOf]; omega
    · obtain rfl : k = m := by omega
      clear hlt hk
      go_wp2
      exact res_agg (p := 6) (g := w.heap.size + 1 + 1) aggP (av_size (thenF p q k)) rfl rfl rfl (heap1 (by simp)) ⟨rfl, below4 _ _ _ _ _⟩

set_option maxHeartbeats 400000 in
theorem undo_any (p : Nat → Nat) (m : Nat) (hm : m ≤ 16) (hp : ∀ i, i < m → p i < 16) (w : World) :
    Calls Try.prog 116 #[.agg (av p), .int .i64 m] w fun e w' => e = .returned (.agg (av (backF p m))) ∧ Below w.heap.size w w' := by
  have HP := hide hp; clear hp
  go_enter Try.func116, Try.ntmps116
  go_wp2
  rw [← av_zero]
  go_loopw [8] (fun i wr => ∃ k : Nat, k ≤ m ∧ i = .int .i64 k ∧ wr = ((w.alloc (.cells (av p) 27)).alloc (.cells (av fun _ => 0) 27)).alloc (.cells (av (backTo p k)) 27)) (fun i _ => m - (intOf i).toNat)
  case atStart => exact ⟨0, by omega, rfl, rfl⟩
  case round =>
    obtain ⟨k, hk, rfl, rfl⟩ := hrel
    by_cases hlt : k < m
    · have hp16 := HP.out k hlt
      have h1 := av_get p (i := k) (by omega)
      have h4 := av_get (backTo p k) (i := p k) hp16
      have h3 := av_set (backTo p k) (p k) k
      rw [backTo_step] at h3
      go_wp2
      go_roundw
      case rel => exact ⟨k + 1, by omega, by go_num, rfl⟩
      case measure => simp [intOf]; omega
    · obtain rfl : k = m := by omega
      clear hlt hk
      go_wp2
      exact res_agg (p := 4) (g := w.heap.size + 1) aggP (av_size (backF p k)) rfl rfl rfl (heap1 (by simp)) ⟨rfl, below3 _ _ _ _⟩

set_option maxHeartbeats 400000 in
theorem sBack_any (p : Nat → Nat) (m : Nat) (hm : m ≤ 16) (hp : ∀ i, i < m → p i < 16) (w : World) :
    Calls Try.prog 131 #[.agg (av p), .int .i64 m] w fun e w' => e = .returned (.agg (av (backF p m))) ∧ Below w.heap.size w w' := by
  have HP := hide hp; clear hp
  go_enter Try.func131, Try.ntmps131
  go_wp2
  rw [← av_zero]
  go_loopw [6] (fun i wr => ∃ k : Nat, k ≤ m ∧ i = .int .i64 k ∧ wr = ((w.alloc (.cells (av p) 27)).alloc (.cells (av fun _ => 0) 27)).alloc (.cells (av (backTo p k)) 27)) (fun i _ => m - (intOf i).toNat)
  case atStart => exact ⟨0, by omega, rfl, rfl⟩
  case round =>
    obtain ⟨k, hk, rfl, rfl⟩ := hrel
    by_cases hlt : k < m
    · have hp16 := HP.out k hlt
      have h1 := av_get p (i := k) (by omega)
      have h4 := av_get (backTo p k) (i := p k) hp16
      have h3 := av_set (backTo p k) (p k) k
      rw [backTo_step] at h3
      go_wp2
      go_roundw
      case rel => exact ⟨k + 1, by omega, by go_num, rfl⟩
      case measure => simp [intOf]; omega
    · obtain rfl : k = m := by omega
      clear hlt hk
      go_wp2
      exact res_agg (p := 4) (g := w.heap.size + 1) aggP (av_size (backF p k)) rfl rfl rfl (heap1 (by simp)) ⟨rfl, below3 _ _ _ _⟩

set_option maxHeartbeats 400000 in
theorem stay_any (m : Nat) (hm : m ≤ 16) (w : World) :
    Calls Try.prog 121 #[.int .i64 m] w fun e w' => e = .returned (.agg (av (sameF m))) ∧ Below w.heap.size w w' := by
  go_enter Try.func121, Try.ntmps121
  go_wp2
  rw [← av_zero]
  go_loopw [6] (fun i wr => ∃ k : Nat, k ≤ m ∧ i = .int .i64 k ∧ wr = (w.alloc (.cells (av fun _ => 0) 27)).alloc (.cells (av (upto (fun i => i) k)) 27)) (fun i _ => m - (intOf i).toNat)
  case atStart => exact ⟨0, by omega, rfl, by rw [upto_zero]⟩
  case round =>
    obtain ⟨k, hk, rfl, rfl⟩ := hrel
    by_cases hlt : k < m
    · have h4 := av_get (upto (fun i => i) k) (i := k) (by omega)
      have h3 := av_set (upto (fun i => i) k) k k
      rw [upto_step (fun i => i)] at h3
      go_wp2
      go_roundw
      case rel => exact ⟨k + 1, by omega, by go_num, rfl⟩
      case measure => simp [intOf]; omega
    · obtain rfl : k = m := by omega
      clear hlt hk
      go_wp2
      exact res_agg (p := 2) (g := w.heap.size) aggP (av_size (sameF k)) rfl rfl rfl (heap1 (by simp)) ⟨rfl, below2 _ _ _⟩

set_option maxHeartbeats 400000 in
theorem sSame_any (m : Nat) (hm : m ≤ 16) (w : World) :
    Calls Try.prog 135 #[.int .i64 m] w fun e w' => e = .returned (.agg (av (sameF m))) ∧ Below w.heap.size w w' := by
  go_enter Try.func135, Try.ntmps135
  go_wp2
  rw [← av_zero]
  go_loopw [4] (fun i wr => ∃ k : Nat, k ≤ m ∧ i = .int .i64 k ∧ wr = (w.alloc (.cells (av fun _ => 0) 27)).alloc (.cells (av (upto (fun i => i) k)) 27)) (fun i _ => m - (intOf i).toNat)
  case atStart => exact ⟨0, by omega, rfl, by rw [upto_zero]⟩
  case round =>
    obtain ⟨k, hk, rfl, rfl⟩ := hrel
    by_cases hlt : k < m
    · have h4 := av_get (upto (fun i => i) k) (i := k) (by omega)
      have h3 := av_set (upto (fun i => i) k) k k
      rw [upto_step (fun i => i)] at h3
      go_wp2
      go_roundw
      case rel => exact ⟨k + 1, by omega, by go_num, rfl⟩
      case measure => simp [intOf]; omega
    · obtain rfl : k = m := by omega
      clear hlt hk
      go_wp2
      exact res_agg (p := 2) (g := w.heap.size) aggP (av_size (sameF k)) rfl rfl rfl (heap1 (by simp)) ⟨rfl, below2 _ _ _⟩

end Go.Proofs.Ytdoehnckolhloaa
namespace Go.Proofs.Ytdoehnckolhloaa
open Go.RowKit

/-- what is held of a boxed dessin, in worlds that only grow -/
theorem keepD {B b : Nat} {w w1 w' : World} {cs : Array Value} {v : Value} (hB : B ≤ b) (h : cellsOf w1 b = cs ∧ w1.cell? ⟨b, 0, none⟩ = some v ∧ b < w1.heap.size ∧ Below B w w1) (hb : Below w1.heap.size w1 w') :
    cellsOf w' b = cs ∧ w'.cell? ⟨b, 0, none⟩ = some v ∧ b < w'.heap.size ∧ Below B w w' :=
  ⟨(below_cells hb h.2.2.1).trans h.1, (hb.cell (p := ⟨b, 0, none⟩) h.2.2.1).trans h.2.1, Nat.lt_of_lt_of_le h.2.2.1 hb.size, h.2.2.2.trans (hb.mono (by have := h.2.2.1; omega))⟩

def faceF (f g : Nat → Nat) (m : Nat) : Nat → Nat := backF (thenF f g m) m

theorem thenF_lt {f g : Nat → Nat} {m : Nat} (hm : m ≤ 16) (hf : ∀ i, i < m → f i < m) (hg : ∀ i, i < m → g i < m) (i : Nat) (hi : i < m) : thenF f g m i < 16 := by
  unfold thenF upto
  rw [if_pos hi]
  have := hg _ (hf i hi)
  show g (f i) < 16
  omega

-- left out here: loop.example/g01200/impl.face
set_option maxRecDepth 100000 in
set_option maxHeartbeats 1000000 in
theorem sFace_any (f g : Nat → Nat) (m : Nat) (hm : m ≤ 16) (hf : ∀ i, i < m → f i < m) (hg : ∀ i, i < m → g i < m) (w : World) :
    Calls Try.prog 118 #[.agg (dv m f g)] w fun e w' => e = .returned (.agg (av (faceF f g m))) ∧ Below w.heap.size w w' := by
  have C1 := hide fun w => sThen_any f g m hm (fun i hi => by have := hf i hi; omega) w
  have C2 := hide fun w => sBack_any (thenF f g m) m hm (thenF_lt hm hf hg) w
  have hF : faceF f g m = backF (thenF f g m) m := rfl
  rw [hF]
  generalize thenF f g m = T at *
  generalize backF T m = F at *
  clear hf hg hF
  have hn := dv_n m f g
  go_enter Try.func118, Try.ntmps118
  go_wp2
  rw [← av_zero]
  generalize hW : (w.alloc (.cells (dv m f g) 29)).alloc (.cells (av fun _ => 0) 27) = W
  have c0 : cellsOf W w.heap.size = dv m f g := by rw [← hW]; exact cellsOf_heap (heap1 rfl)
  have r1 : rowOk W (w.heap.size + 1) 16 := by rw [← hW]; exact ⟨_, _, heap_at _ _ _ (by simp), av_size _⟩
  have b0 : Below w.heap.size w W := by rw [← hW]; exact below2 _ _ _
  have l0 : w.heap.size < W.heap.size := by rw [← hW]; simp <;> omega
  clear hW
  refine region_tail (Grown W) 10 (by kernel_rfl) (by kernel_rfl) (Grown.drew W) ?_
  simp only [List.take_succ_cons, List.take_zero, List.drop_succ_cons, List.drop_zero]
  iterate 10
    apply q_step
    · go_simp
    · intro wx hx
      have e0 := hx.cells c0 l0
      have n0 : wx.cell? ⟨w.heap.size, 0, none⟩ = some (.int .i64 m) := by rw [cell_of_cells, e0]; exact hn
      first
        | (go_simp; exact rfl)
        | (go_simp; go_at_call 130; exact Calls.mono (C1.out wx) fun e w' h => ⟨h.1, hx.call h.2⟩)
        | (go_simp; go_at_call 131; exact Calls.mono (C2.out wx) fun e w' h => ⟨h.1, hx.call h.2⟩)
  refine wpQuiet_nil ?_
  intro w1 hx
  have r2 := hx.row r1
  have b2 : Below w.heap.size w w1 := b0.trans (Below.mono hx b0.size)
  clear c0 r1 b0 l0 hx
  go_wp2
  obtain ⟨t, ht, _⟩ := r2.heap
  exact res_agg (p := 2) (g := w.heap.size + 1) aggP (av_size F) rfl rfl rfl (setRow_heap _ _ _ _ t (0, 0) ht) ⟨rfl, below_setRow b2 (by omega) _⟩
end Go.Proofs.Ytdoehnckolhloaa

namespace Go.Proofs.Ytdoehnckolhloaa
open Go.RowKit

theorem backTo_at {p : Nat → Nat} {n : Nat} (h : Bij p n) : ∀ k, k ≤ n → ∀ x, x < k → backTo p k (p x) = x := by
  intro k
  induction k with
  | zero => intro _ x hx; omega
  | succ k ih =>
    intro hk x hx
    show fset (backTo p k) (p k) k (p x) = x
    unfold fset
    by_cases c : p x = p k
    · rw [if_pos c]; exact (h.2 x k (by omega) (by omega) c).symm
    · rw [if_neg c]
      by_cases d : x = k
      · subst d; exact absurd rfl c
      · exact ih (by omega) x (by omega)
theorem backTo_none {p : Nat → Nat} {y : Nat} : ∀ k, (∀ x, x < k → p x ≠ y) → backTo p k y = 0 := by
  intro k
  induction k with
  | zero => intro _; rfl
  | succ k ih =>
    intro h
    show fset (backTo p k) (p k) k y = 0
    unfold fset
    rw [if_neg (fun e => h k (by omega) e.symm)]
    exact ih fun x hx => h x (by omega)
theorem backF_at {p : Nat → Nat} {m : Nat} (h : Bij p m) {x : Nat} (hx : x < m) : backF p m (p x) = x := backTo_at h m (Nat.le_refl m) x hx
theorem Bij.onto {p : Nat → Nat} {m : Nat} (h : Bij p m) {y : Nat} (hy : y < m) : ∃ x, x < m ∧ p x = y := by
  obtain ⟨L, h0, _, e⟩ := h.period hy
  obtain ⟨k, rfl⟩ : ∃ k, L = k + 1 := ⟨L - 1, by omega⟩
  exact ⟨it p k y, h.it_lt k hy, e⟩
theorem backF_perm {p : Nat → Nat} {m : Nat} (h : PermN p m) : PermN (backF p m) m := by
  obtain ⟨h1, h2, h3, _⟩ := h
  refine ⟨h1, h2, ⟨fun y hy => ?_, fun y z hy hz e => ?_⟩, fun y h4 _ => ?_⟩
  · obtain ⟨x, hx, rfl⟩ := h3.onto hy
    rw [backF_at h3 hx]; exact hx
  · obtain ⟨x, hx, rfl⟩ := h3.onto hy
    obtain ⟨x', hx', rfl⟩ := h3.onto hz
    rw [backF_at h3 hx, backF_at h3 hx'] at e
    rw [e]
  · exact backTo_none m fun x hx e => by have := h3.1 x hx; omega
theorem thenF_at {p q : Nat → Nat} {m x : Nat} (hx : x < m) : thenF p q m x = q (p x) := by unfold thenF upto; rw [if_pos hx]
theorem thenF_out {p q : Nat → Nat} {m x : Nat} (hx : m ≤ x) : thenF p q m x = 0 := by unfold thenF upto; rw [if_neg (by omega)]
theorem thenF_perm {p q : Nat → Nat} {m : Nat} (hp : PermN p m) (hq : PermN q m) : PermN (thenF p q m) m := by
  refine ⟨hp.1, hp.2.1, ⟨fun x hx => ?_, fun x y hx hy e => ?_⟩, fun x hx _ => thenF_out hx⟩
  · rw [thenF_at hx]; exact hq.2.2.1.1 _ (hp.2.2.1.1 x hx)
  · rw [thenF_at hx, thenF_at hy] at e
    exact hp.2.2.1.2 x y hx hy (hq.2.2.1.2 _ _ (hp.2.2.1.1 x hx) (hp.2.2.1.1 y hy) e)
theorem faceF_perm {f g : Nat → Nat} {m : Nat} (hf : PermN f m) (hg : PermN g m) : PermN (faceF f g m) m := backF_perm (thenF_perm hf hg)
theorem faceF_at {f g : Nat → Nat} {m x : Nat} (hf : PermN f m) (hg : PermN g m) (hx : x < m) : faceF f g m (g (f x)) = x := by
  have := backF_at (thenF_perm hf hg).2.2.1 hx
  rwa [thenF_at hx] at this
theorem DesN.face {f g : Nat → Nat} {m : Nat} (h : DesN f g m) : PermN (faceF f g m) m := faceF_perm h.black h.white
/-- the numbers of cycles of a dessin -/
theorem DesN.euler {f g : Nat → Nat} {m : Nat} (h : DesN f g m) : ((cycs f m).length + (cycs g m).length + (cycs (faceF f g m) m).length + m) % 2 = 0 ∧ (cycs f m).length + (cycs g m).length + (cycs (faceF f g m) m).length ≤ m + 2 := by
  rw [cycs_length h.bf h.le, cycs_length h.bg h.le, cycs_length h.face.2.2.1 h.le]
  exact euler_dessin h.bf h.bg h.face.2.2.1 h.pos h.conn fun x hx => faceF_at h.black h.white hx
theorem PermN.lt {f : Nat → Nat} {m : Nat} (h : PermN f m) (i : Nat) (hi : i < 16) : f i < 16 := by
  rcases Nat.lt_or_ge i m with c | c
  · have := h.2.2.1.1 i c; have := h.2.1; omega
  · rw [h.2.2.2 i c hi]; omega
end Go.Proofs.Ytdoehnckolhloaa
