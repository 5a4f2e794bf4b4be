/- Texts put together: Base, Open, Agg, Perm, Own, Mark, Mk1, HS, AppH, Cyc, IsPerm, CycL, Ints, HS2, Arg, MkZ, HS3, MkS, QTail -/
import Derived.Test.YtpkfjdaedaplfaaChecked
import Derived.WalkKit
import Derived.WalkSpells
import Derived.WalkLawsBesides
import Derived.Deep.LoopGhost
import Derived.Deep.OwnRows
import Derived.Laws.Rows
import Derived.Laws.Tables
import Derived.Laws.CopyOwn
import Derived.ProofKit
import Derived.OpenShut
import Derived.ShutString
import Derived.ChangeOld
import Derived.Below
import Derived.Laws.OwnMore
import Derived.RegionTactic
import Derived.Deep.RegionWith
import Derived.BigQuiet
import Derived.Deep.QuietTactic
import Derived.OwnWalk
import Derived.ChangeSlices
import Derived.Deep.Quiet
import Derived.StillTail
namespace Go.Proofs.Ytpkfjdaedaplfaa
open Go.RowKit

theorem heap_past (w : World) (o : Obj) (g : Nat) (h : g < w.heap.size) : (w.alloc o).heap[g]? = w.heap[g]? := Below.heap_alloc w o g h
theorem heap_at (w : World) (o : Obj) (g : Nat) (h : g = w.heap.size) : (w.alloc o).heap[g]? = some o := by subst h; exact heap_alloc_new w o

/-- a row of n values -/
@[irreducible] def row (n : Nat) (f : Nat → Value) : Array Value := ((List.range n).map f).toArray
theorem row_size (n : Nat) (f : Nat → Value) : (row n f).size = n := by unfold row; simp
theorem row_get (n : Nat) (f : Nat → Value) {i : Nat} (h : i < n) : (row n f)[i]? = some (f i) := by unfold row; simp [h]
theorem row_none (n : Nat) (f : Nat → Value) {i : Nat} (h : ¬ i < n) : (row n f)[i]? = none := by rw [Array.getElem?_eq_none]; rw [row_size]; omega
theorem row_set (n : Nat) (f : Nat → Value) (i : Nat) (v : Value) : (row n f).setIfInBounds i v = row n (fun j => if j = i then v else f j) := by
  apply Array.ext_getElem?
  intro j
  rw [Array.getElem?_setIfInBounds, row_size]
  by_cases hj : j < n
  · rw [row_get _ _ hj, row_get _ _ hj]
    by_cases c : i = j
    · subst c; simp [hj]
    · rw [if_neg c, if_neg (Ne.symm c)]
  · rw [row_none _ _ hj, row_none _ _ hj]
    by_cases c : i = j
    · subst c; simp [hj]
    · rw [if_neg c]
theorem row_congr {n : Nat} {f g : Nat → Value} (h : ∀ i, i < n → f i = g i) : row n f = row n g := by
  unfold row
  congr 1
  apply List.map_congr_left
  intro i hi
  rw [h i (List.mem_range.1 hi)]
theorem row_inj {n : Nat} {f g : Nat → Value} (h : row n f = row n g) {i : Nat} (hi : i < n) : f i = g i := by
  have := row_get n f hi
  rw [h, row_get n g hi] at this
  exact (Option.some.inj this).symm

/-- sixteen bytes -/
@[irreducible] def av (f : Nat → Nat) : Array Value := row 16 fun i => .int .u8 (f i)
theorem av_size (f : Nat → Nat) : (av f).size = 16 := by unfold av; exact row_size _ _
theorem av_get (f : Nat → Nat) {i : Nat} (h : i < 16) : (av f)[i]? = some (.int .u8 (f i)) := by unfold av; exact row_get _ _ h
/-- one entry is turned -/
def fset (f : Nat → Nat) (i : Nat) (v : Nat) : Nat → Nat := fun j => if j = i then v else f j
theorem av_set (f : Nat → Nat) (i v : Nat) : (av f).setIfInBounds i (.int .u8 v) = av (fset f i v) := by
  unfold av
  rw [row_set]
  apply row_congr
  intro j _
  unfold fset
  by_cases c : j = i
  · rw [if_pos c, if_pos c]
  · rw [if_neg c, if_neg c]
theorem av_congr {f g : Nat → Nat} (h : ∀ i, i < 16 → f i = g i) : av f = av g := by
  unfold av
  exact row_congr fun i hi => by rw [h i hi]
theorem av_cells (f : Nat → Nat) : (av f).all (·.oneCell') = true := by unfold av row; simp [Value.oneCell']
theorem av_zero : av (fun _ => 0) = #[.int .u8 0, .int .u8 0, .int .u8 0, .int .u8 0, .int .u8 0, .int .u8 0, .int .u8 0, .int .u8 0, .int .u8 0, .int .u8 0, .int .u8 0, .int .u8 0, .int .u8 0, .int .u8 0, .int .u8 0, .int .u8 0] := by
  unfold av row; rfl

/-- sixteen bools -/
@[irreducible] def bv (f : Nat → Bool) : Array Value := row 16 fun i => .bool (f i)
theorem bv_size (f : Nat → Bool) : (bv f).size = 16 := by unfold bv; exact row_size _ _
theorem bv_get (f : Nat → Bool) {i : Nat} (h : i < 16) : (bv f)[i]? = some (.bool (f i)) := by unfold bv; exact row_get _ _ h
def mset (f : Nat → Bool) (i : Nat) : Nat → Bool := fun j => j == i || f j
theorem bv_set (f : Nat → Bool) (i : Nat) : (bv f).setIfInBounds i (.bool true) = bv (mset f i) := by
  unfold bv
  rw [row_set]
  apply row_congr
  intro j _
  unfold mset
  by_cases c : j = i
  · simp [c]
  · simp [c]
theorem bv_congr {f g : Nat → Bool} (h : ∀ i, i < 16 → f i = g i) : bv f = bv g := by
  unfold bv
  exact row_congr fun i hi => by rw [h i hi]
theorem bv_false : bv (fun _ => false) = #[.bool false, .bool false, .bool false, .bool false, .bool false, .bool false, .bool false, .bool false, .bool false, .bool false, .bool false, .bool false, .bool false, .bool false, .bool false, .bool false] := by
  unfold bv row; rfl

/-- the first k entries, the others 0 -/
def upto (f : Nat → Nat) (k : Nat) : Nat → Nat := fun i => if i < k then f i else 0
theorem upto_step (f : Nat → Nat) (k : Nat) : fset (upto f k) k (f k) = upto f (k + 1) := by
  funext i
  unfold fset upto
  by_cases c : i = k
  · subst c; simp
  · rw [if_neg c]
    by_cases d : i < k
    · rw [if_pos d, if_pos (by omega)]
    · rw [if_neg d, if_neg (by omega)]
theorem upto_zero (f : Nat → Nat) : upto f 0 = fun _ => 0 := by funext i; simp [upto]

-- left out here: None
-- left out here: None
-- left out here: None
-- left out here: None
-- left out here: None
-- left out here: None
/-- a type whose values are so many cells -/
structure AggT (T : TypeId) (n : Nat) : Prop where
  und : ∃ d, Try.prog.underlying T = some d ∧ (match d with | .struct _ | .array _ _ => true | _ => false) = true
  siz : (Try.prog.info? T).map (·.size) = some n
-- left out here: None
-- left out here: None
-- left out here: None
/-- a whole value into a block -/
theorem setRow_at (w : World) (c c' : Array Value) (t : TypeId) (g : Nat) (hg : g = w.heap.size) : (w.alloc (.cells c t)).setRow g c' = w.alloc (.cells c' t) := by
  subst hg
  simp only [World.setRow, World.alloc]
  congr 1
  apply Array.ext_getElem?
  intro i
  rw [Array.getElem?_modify]
  by_cases h : w.heap.size = i
  · subst h
    simp
  · have h' : ¬ i = w.heap.size := fun e => h e.symm
    simp [h, h', Array.getElem?_push]
theorem setRow_past (w : World) (o : Obj) (c' : Array Value) (g : Nat) (hg : g < w.heap.size) : (w.alloc o).setRow g c' = (w.setRow g c').alloc o := by
  simp only [World.setRow, World.alloc]
  congr 1
  apply Array.ext_getElem?
  intro i
  rw [Array.getElem?_modify, Array.getElem?_push, Array.getElem?_push, Array.getElem?_modify, Array.size_modify]
  by_cases h : g = i
  · subst h
    have : ¬ g = w.heap.size := by omega
    simp [this]
  · by_cases h' : i = w.heap.size
    · subst h'
      have : ¬ g = w.heap.size := by omega
      simp [this]
    · simp [h, h']

section
variable {ops : Array Oper} {rest : List Oper} {o : Oper} {a : Act} {w : World} {Q : Exit → Act → World → Prop} {T U : TypeId} {n : Nat} {cs old : Array Value} {o1 o2 o3 o4 : Obj} {fr : Nat × Nat}
/-- a whole value out of the block that was made last, last but one, .. -/
theorem ld_at (hT : AggT T n) (hs : cs.size = n) (hgd : o.guard = none) (x : Operand) (ho : o.op = .load T x) (g : Nat) (hx : a.eval x = .pointer (some ⟨g, 0, none⟩)) (hg : w.heap[g]? = some (.cells cs U fr))
    (h : wpList Try.prog ops Q rest (a.put o.dst (.agg cs)) w) : wpList Try.prog ops Q (o :: rest) a w := by
  obtain ⟨d, hd, hd'⟩ := hT.und
  exact wpList_load_row hgd T x ho g hx U cs fr d hg hd (by cases d <;> first | rfl | simp at hd') (by rw [hs]; exact hT.siz) h
theorem ld0 (hT : AggT T n) (hs : cs.size = n) (hgd : o.guard = none) (x : Operand) (ho : o.op = .load T x) (g : Nat) (hx : a.eval x = .pointer (some ⟨g, 0, none⟩)) (hg : g = w.heap.size)
    (h : wpList Try.prog ops Q rest (a.put o.dst (.agg cs)) (w.alloc (.cells cs U fr))) : wpList Try.prog ops Q (o :: rest) a (w.alloc (.cells cs U fr)) :=
  ld_at hT hs hgd x ho g hx (heap_at _ _ _ hg) h
theorem ld1 (hT : AggT T n) (hs : cs.size = n) (hgd : o.guard = none) (x : Operand) (ho : o.op = .load T x) (g : Nat) (hx : a.eval x = .pointer (some ⟨g, 0, none⟩)) (hg : g = w.heap.size)
    (h : wpList Try.prog ops Q rest (a.put o.dst (.agg cs)) ((w.alloc (.cells cs U fr)).alloc o1)) : wpList Try.prog ops Q (o :: rest) a ((w.alloc (.cells cs U fr)).alloc o1) :=
  ld_at hT hs hgd x ho g hx ((heap_past _ _ _ (by simp; omega)).trans (heap_at _ _ _ hg)) h
theorem ld2 (hT : AggT T n) (hs : cs.size = n) (hgd : o.guard = none) (x : Operand) (ho : o.op = .load T x) (g : Nat) (hx : a.eval x = .pointer (some ⟨g, 0, none⟩)) (hg : g = w.heap.size)
    (h : wpList Try.prog ops Q rest (a.put o.dst (.agg cs)) (((w.alloc (.cells cs U fr)).alloc o1).alloc o2)) : wpList Try.prog ops Q (o :: rest) a (((w.alloc (.cells cs U fr)).alloc o1).alloc o2) :=
  ld_at hT hs hgd x ho g hx ((heap_past _ _ _ (by simp; omega)).trans ((heap_past _ _ _ (by simp; omega)).trans (heap_at _ _ _ hg))) h
theorem ld3 (hT : AggT T n) (hs : cs.size = n) (hgd : o.guard = none) (x : Operand) (ho : o.op = .load T x) (g : Nat) (hx : a.eval x = .pointer (some ⟨g, 0, none⟩)) (hg : g = w.heap.size)
    (h : wpList Try.prog ops Q rest (a.put o.dst (.agg cs)) ((((w.alloc (.cells cs U fr)).alloc o1).alloc o2).alloc o3)) : wpList Try.prog ops Q (o :: rest) a ((((w.alloc (.cells cs U fr)).alloc o1).alloc o2).alloc o3) :=
  ld_at hT hs hgd x ho g hx ((heap_past _ _ _ (by simp; omega)).trans ((heap_past _ _ _ (by simp; omega)).trans ((heap_past _ _ _ (by simp; omega)).trans (heap_at _ _ _ hg)))) h
theorem ld4 (hT : AggT T n) (hs : cs.size = n) (hgd : o.guard = none) (x : Operand) (ho : o.op = .load T x) (g : Nat) (hx : a.eval x = .pointer (some ⟨g, 0, none⟩)) (hg : g = w.heap.size)
    (h : wpList Try.prog ops Q rest (a.put o.dst (.agg cs)) (((((w.alloc (.cells cs U fr)).alloc o1).alloc o2).alloc o3).alloc o4)) : wpList Try.prog ops Q (o :: rest) a (((((w.alloc (.cells cs U fr)).alloc o1).alloc o2).alloc o3).alloc o4) :=
  ld_at hT hs hgd x ho g hx ((heap_past _ _ _ (by simp; omega)).trans ((heap_past _ _ _ (by simp; omega)).trans ((heap_past _ _ _ (by simp; omega)).trans ((heap_past _ _ _ (by simp; omega)).trans (heap_at _ _ _ hg))))) h

theorem st_at (hT : AggT T n) (hs : cs.size = n) (hos : old.size = n) (hc : cs.all (·.oneCell') = true) (hgd : o.guard = none) (x y : Operand) (ho : o.op = .store T x y) (g : Nat) (hx : a.eval x = .pointer (some ⟨g, 0, none⟩)) (hy : a.eval y = .agg cs)
    (hg : w.heap[g]? = some (.cells old U (0, 0)))
    (h : wpList Try.prog ops Q rest (a.put o.dst undef) (w.setRow g cs)) : wpList Try.prog ops Q (o :: rest) a w :=
  wpList_store_row hgd T x y ho g cs hx hy U old hg (by rw [hs]; exact hT.siz) (by rw [hs, hos]) hc h
theorem st0 (hT : AggT T n) (hs : cs.size = n) (hos : old.size = n) (hc : cs.all (·.oneCell') = true) (hgd : o.guard = none) (x y : Operand) (ho : o.op = .store T x y) (g : Nat) (hx : a.eval x = .pointer (some ⟨g, 0, none⟩)) (hy : a.eval y = .agg cs)
    (hg : g = w.heap.size) (h : wpList Try.prog ops Q rest (a.put o.dst undef) (w.alloc (.cells cs U))) : wpList Try.prog ops Q (o :: rest) a (w.alloc (.cells old U)) :=
  st_at hT hs hos hc hgd x y ho g hx hy (heap_at _ _ _ hg) (by rw [setRow_at _ _ _ _ _ hg]; exact h)
theorem st1 (hT : AggT T n) (hs : cs.size = n) (hos : old.size = n) (hc : cs.all (·.oneCell') = true) (hgd : o.guard = none) (x y : Operand) (ho : o.op = .store T x y) (g : Nat) (hx : a.eval x = .pointer (some ⟨g, 0, none⟩)) (hy : a.eval y = .agg cs)
    (hg : g = w.heap.size) (h : wpList Try.prog ops Q rest (a.put o.dst undef) ((w.alloc (.cells cs U)).alloc o1)) : wpList Try.prog ops Q (o :: rest) a ((w.alloc (.cells old U)).alloc o1) :=
  st_at hT hs hos hc hgd x y ho g hx hy ((heap_past _ _ _ (by simp; omega)).trans (heap_at _ _ _ hg)) (by rw [setRow_past _ _ _ _ (by simp; omega), setRow_at _ _ _ _ _ hg]; exact h)
theorem st2 (hT : AggT T n) (hs : cs.size = n) (hos : old.size = n) (hc : cs.all (·.oneCell') = true) (hgd : o.guard = none) (x y : Operand) (ho : o.op = .store T x y) (g : Nat) (hx : a.eval x = .pointer (some ⟨g, 0, none⟩)) (hy : a.eval y = .agg cs)
    (hg : g = w.heap.size) (h : wpList Try.prog ops Q rest (a.put o.dst undef) (((w.alloc (.cells cs U)).alloc o1).alloc o2)) : wpList Try.prog ops Q (o :: rest) a (((w.alloc (.cells old U)).alloc o1).alloc o2) :=
  st_at hT hs hos hc hgd x y ho g hx hy ((heap_past _ _ _ (by simp; omega)).trans ((heap_past _ _ _ (by simp; omega)).trans (heap_at _ _ _ hg)))
    (by rw [setRow_past _ _ _ _ (by simp; omega), setRow_past _ _ _ _ (by simp; omega), setRow_at _ _ _ _ _ hg]; exact h)
theorem st3 (hT : AggT T n) (hs : cs.size = n) (hos : old.size = n) (hc : cs.all (·.oneCell') = true) (hgd : o.guard = none) (x y : Operand) (ho : o.op = .store T x y) (g : Nat) (hx : a.eval x = .pointer (some ⟨g, 0, none⟩)) (hy : a.eval y = .agg cs)
    (hg : g = w.heap.size) (h : wpList Try.prog ops Q rest (a.put o.dst undef) ((((w.alloc (.cells cs U)).alloc o1).alloc o2).alloc o3)) : wpList Try.prog ops Q (o :: rest) a ((((w.alloc (.cells old U)).alloc o1).alloc o2).alloc o3) :=
  st_at hT hs hos hc hgd x y ho g hx hy ((heap_past _ _ _ (by simp; omega)).trans ((heap_past _ _ _ (by simp; omega)).trans ((heap_past _ _ _ (by simp; omega)).trans (heap_at _ _ _ hg))))
    (by rw [setRow_past _ _ _ _ (by simp; omega), setRow_past _ _ _ _ (by simp; omega), setRow_past _ _ _ _ (by simp; omega), setRow_at _ _ _ _ _ hg]; exact h)
end

/-- a function that hands back such a value out of its cell -/
theorem res_agg {fn : Func} {p : Tmp} {T U : TypeId} {n : Nat} {cs : Array Value} {R : Ending → World → Prop} {a : Act} {w : World} {g : Nat} (hT : AggT T n) (hs : cs.size = n) (h : fn.results = #[.cell p T])
    (hp : a.tmps.getD p undef = .pointer (some ⟨g, 0, none⟩)) (hd : a.defers = []) (hg : w.heap[g]? = some (.cells cs U (0, 0))) (hR : R (.returned (.agg cs)) w) : bodyPost Try.prog fn R .ret a w := by
  obtain ⟨d, h1, h2⟩ := hT.und
  exact bodyPost_ret (results_cell_row h _ _ g U cs (0, 0) d hp hg h1 (by cases d <;> first | rfl | simp at h2) (by rw [hs]; exact hT.siz)) hd hR
theorem heap0 {w : World} {o : Obj} {g : Nat} (h : g = w.heap.size) : (w.alloc o).heap[g]? = some o := heap_at _ _ _ h
theorem heap1 {w : World} {o o1 : Obj} {g : Nat} (h : g = w.heap.size) : ((w.alloc o).alloc o1).heap[g]? = some o := (heap_past _ _ _ (by simp; omega)).trans (heap_at _ _ _ h)
theorem heap2 {w : World} {o o1 o2 : Obj} {g : Nat} (h : g = w.heap.size) : (((w.alloc o).alloc o1).alloc o2).heap[g]? = some o := (heap_past _ _ _ (by simp; omega)).trans (heap1 h)
theorem heap3 {w : World} {o o1 o2 o3 : Obj} {g : Nat} (h : g = w.heap.size) : ((((w.alloc o).alloc o1).alloc o2).alloc o3).heap[g]? = some o := (heap_past _ _ _ (by simp; omega)).trans (heap2 h)

theorem below1 (w : World) (a : Obj) : Below w.heap.size w (w.alloc a) := (Below.refl _ _).alloc (Nat.le_refl _) _
theorem below2 (w : World) (a b : Obj) : Below w.heap.size w ((w.alloc a).alloc b) := (below1 w a).alloc (by simp) _
theorem below3 (w : World) (a b c : Obj) : Below w.heap.size w (((w.alloc a).alloc b).alloc c) := (below2 w a b).alloc (by simp; omega) _
theorem below4 (w : World) (a b c d : Obj) : Below w.heap.size w ((((w.alloc a).alloc b).alloc c).alloc d) := (below3 w a b c).alloc (by simp; omega) _
theorem below5 (w : World) (a b c d e : Obj) : Below w.heap.size w (((((w.alloc a).alloc b).alloc c).alloc d).alloc e) := (below4 w a b c d).alloc (by simp; omega) _
theorem hide {p : Prop} (h : p) : Hid p := h

end Go.Proofs.Ytpkfjdaedaplfaa

namespace Go.Proofs.Ytpkfjdaedaplfaa
open Go.RowKit Go.ChangeShapes Go.WideShapes

section
variable {H : Type} {enc : TypeId × Value → H} {P : Program} {w : World} {base : Nat} {spare : Nat → Bool} {held : Bool}
theorem okWide_array {r : Reach} {b0 : Nat} {t : TypeId} {v : Value} {n : Nat} {e : TypeId} (ht : P.underlying t = some (.array n e)) (h : Value.okWide P w r b0 t v) : ∃ cs, v = .agg cs ∧ cs.size = P.cellsOf t := by
  simp only [Value.okWide, ht] at h
  obtain ⟨cs, h1, h2, _⟩ := h
  exact ⟨cs, h1, h2⟩

/-- sixteen cells that read as bytes -/
theorem bytes_of {l : List Value} {e : TypeId} {m : Nat} {xs : List (DataW H × List MemPlace)} (he : P.underlying e = some (.int .u8)) (hl : l.length = 16) (hx : xs.length = 16)
    (h : ∀ i, i < 16 → DataW.trod enc P w base spare held m e ((l.drop i).take 1) = xs[i]?) : ∃ f : Nat → Nat, (∀ i, f i < 256) ∧ l.toArray = av f := by
  have key : ∀ i, i < 16 → ∃ k : Nat, k < 256 ∧ l[i]? = some (.int .u8 k) := by
    intro i hi
    have h1 := h i hi
    rw [List.getElem?_eq_getElem (by omega)] at h1
    obtain ⟨n, hn, _, hw⟩ := DataW.trod_int he h1
    have hb := bounds_u8 hw
    obtain ⟨k, rfl⟩ := Int.eq_ofNat_of_zero_le hb.1
    refine ⟨k, by omega, ?_⟩
    rw [List.drop_eq_getElem_cons (by omega), List.take_succ_cons, List.take_zero] at hn
    rw [List.getElem?_eq_getElem (by omega), (List.cons.inj hn).1]
  refine ⟨fun i => match l[i]? with | some (.int .u8 n) => if n.toNat < 256 then n.toNat else 0 | _ => 0, fun i => ?_, ?_⟩
  · dsimp only
    split
    · split <;> omega
    · omega
  · apply Array.ext_getElem?
    intro i
    by_cases hi : i < 16
    · obtain ⟨k, hk, e⟩ := key i hi
      rw [av_get _ hi]
      simp only [List.getElem?_toArray, e]
      rw [if_pos (by omega)]
      simp
    · rw [Array.getElem?_eq_none (by simp; omega), Array.getElem?_eq_none (by rw [av_size]; omega)]

theorem open_bytes16 {r : Reach} {b0 : Nat} {t e : TypeId} {v : Value} {d : DataW H} {ps : List MemPlace} (ht : P.underlying t = some (.array 16 e)) (he : P.underlying e = some (.int .u8)) (hc : P.cellsOf t = 16) (hc1 : P.cellsOf e = 1)
    (hval : Value.okWide P w r b0 t v) (hd : DataW.Trod enc P w base spare held t v d ps) : ∃ f : Nat → Nat, (∀ i, f i < 256) ∧ v = .agg (av f) := by
  obtain ⟨cs, rfl, hs⟩ := okWide_array ht hval
  obtain ⟨fuel, hf⟩ := hd
  obtain ⟨xs, m, _, _, hl, hx, hi⟩ := DataW.trod_array ht hf
  obtain ⟨f, hb, e⟩ := bytes_of (l := cs.toList) he (by simpa [hc] using hs) hx (fun i h => by have := hi i h; rw [hc1, Nat.mul_one] at this; simpa [Value.cells] using this)
  exact ⟨f, hb, by rw [← e]⟩
end

end Go.Proofs.Ytpkfjdaedaplfaa

namespace Go.Proofs.Ytpkfjdaedaplfaa
open Go.RowKit

/-- the cells of a block -/
def cellsOf (w : World) (g : Nat) : Array Value := match w.heap[g]? with | some (.cells c _ _) => c | _ => #[]
/-- a block is a row of n cells, none frozen -/
def rowOk (w : World) (g n : Nat) : Prop := ∃ c t, w.heap[g]? = some (.cells c t (0, 0)) ∧ c.size = n

section
variable {w w' : World} {g : Nat} {c : Array Value} {t : TypeId} {o : Obj}
@[go_sem] theorem cellsOf_at (h : g = w.heap.size) : cellsOf (w.alloc (.cells c t)) g = c := by unfold cellsOf; rw [heap_at _ _ _ h]
@[go_sem] theorem cellsOf_past (h : g < w.heap.size) : cellsOf (w.alloc o) g = cellsOf w g := by unfold cellsOf; rw [heap_past _ _ _ h]
@[go_sem] theorem cellsOf_drew : cellsOf w.drew g = cellsOf w g := rfl
@[go_sem] theorem rowOk_past {n : Nat} (h : g < w.heap.size) : rowOk (w.alloc o) g n ↔ rowOk w g n := by unfold rowOk; rw [heap_past _ _ _ h]
@[go_sem] theorem rowOk_drew {n : Nat} : rowOk w.drew g n ↔ rowOk w g n := Iff.rfl
@[go_sem] theorem setRow_at' (h : g = w.heap.size) {c' : Array Value} : (w.alloc (.cells c t)).setRow g c' = w.alloc (.cells c' t) := setRow_at w c c' t g h
@[go_sem] theorem setRow_past' (h : g < w.heap.size) {c' : Array Value} : (w.alloc o).setRow g c' = (w.setRow g c').alloc o := setRow_past w o c' g h
@[go_sem] theorem setRow_drew {c' : Array Value} : w.drew.setRow g c' = (w.setRow g c').drew := rfl
theorem below_cells {B : Nat} (h : Below B w w') (hg : g < B) : cellsOf w' g = cellsOf w g := by unfold cellsOf; rw [h.block g hg]
theorem below_row {B n : Nat} (h : Below B w w') (hg : g < B) : rowOk w' g n ↔ rowOk w g n := by unfold rowOk; rw [h.block g hg]
theorem cellsOf_heap (h : w.heap[g]? = some (.cells c t (0, 0))) : cellsOf w g = c := by unfold cellsOf; rw [h]
theorem rowOk.heap {n : Nat} (h : rowOk w g n) : ∃ t, w.heap[g]? = some (.cells (cellsOf w g) t (0, 0)) ∧ (cellsOf w g).size = n := by
  obtain ⟨c, t, h1, h2⟩ := h
  exact ⟨t, by rw [cellsOf_heap h1]; exact h1, by rw [cellsOf_heap h1]; exact h2⟩
@[go_sem] theorem cellsOf_setRow {n : Nat} (h : rowOk w g n) {c' : Array Value} : cellsOf (w.setRow g c') g = c' := by
  obtain ⟨t, h1, _⟩ := h.heap
  exact cellsOf_heap (setRow_heap _ _ _ _ t (0, 0) h1)
theorem rowOk_setRow {n m : Nat} (h : rowOk w g n) {c' : Array Value} (hm : c'.size = m) : rowOk (w.setRow g c') g m := by
  obtain ⟨t, h1, _⟩ := h.heap
  exact ⟨c', t, setRow_heap _ _ _ _ t (0, 0) h1, hm⟩
theorem cellsOf_setRow_ne {g' : Nat} (h : g ≠ g') {c' : Array Value} : cellsOf (w.setRow g' c') g = cellsOf w g := by unfold cellsOf; rw [setRow_other _ _ _ _ h]
theorem rowOk_setRow_ne {g' n : Nat} (h : g ≠ g') {c' : Array Value} : rowOk (w.setRow g' c') g n ↔ rowOk w g n := by unfold rowOk; rw [setRow_other _ _ _ _ h]
/-- a cell of a row -/
theorem cell_of_cells (i : Nat) : w.cell? ⟨g, i, none⟩ = (cellsOf w g)[i]? := by
  unfold World.cell? cellsOf
  split <;> simp_all
theorem rowOk.frozen {n i : Nat} (h : rowOk w g n) : w.frozen? ⟨g, i, none⟩ = false := by
  obtain ⟨c, t, h1, _⟩ := h
  simp [World.frozen?, h1]
theorem rowOk.size {n : Nat} (h : rowOk w g n) : (cellsOf w g).size = n := by obtain ⟨t, _, h2⟩ := h.heap; exact h2
theorem rowOk.lt {n : Nat} (h : rowOk w g n) : g < w.heap.size := by
  obtain ⟨c, t, h1, _⟩ := h
  rcases Nat.lt_or_ge g w.heap.size with hlt | hge
  · exact hlt
  · rw [Array.getElem?_eq_none hge] at h1; cases h1
/-- a store into one cell of a row -/
theorem cellsOf_setCell {i : Nat} {v : Value} : cellsOf (w.setCell ⟨g, i, none⟩ v) g = (cellsOf w g).setIfInBounds i v := by
  unfold cellsOf World.setCell
  simp only [Array.getElem?_modify]
  rcases w.heap[g]? with _ | o
  · simp
  · cases o <;> simp
theorem cellsOf_setCell_ne {g' i : Nat} (h : g ≠ g') {v : Value} : cellsOf (w.setCell ⟨g', i, none⟩ v) g = cellsOf w g := by
  unfold cellsOf
  rw [Below.heap_setCell w ⟨g', i, none⟩ v g h]
theorem rowOk_setCell {n i g' : Nat} {v : Value} (h : rowOk w g n) : rowOk (w.setCell ⟨g', i, none⟩ v) g n := by
  obtain ⟨c, t, h1, h2⟩ := h
  by_cases e : g = g'
  · subst e
    refine ⟨c.setIfInBounds i v, t, ?_, by simpa using h2⟩
    simp [World.setCell, Array.getElem?_modify, h1]
  · exact ⟨c, t, by rw [Below.heap_setCell w ⟨g', i, none⟩ v g e]; exact h1, h2⟩
end

@[go_sem] theorem lt_2 (n : Nat) : n < n + 1 + 1 ↔ True := by simp; omega
@[go_sem] theorem lt_3 (n : Nat) : n < n + 1 + 1 + 1 ↔ True := by simp; omega
@[go_sem] theorem lt_4 (n : Nat) : n < n + 1 + 1 + 1 + 1 ↔ True := by simp; omega
@[go_sem] theorem lt_5 (n : Nat) : n < n + 1 + 1 + 1 + 1 + 1 ↔ True := by simp; omega
@[go_sem] theorem lt_6 (n : Nat) : n < n + 1 + 1 + 1 + 1 + 1 + 1 ↔ True := by simp; omega
@[go_sem] theorem eq_r1 (n : Nat) : (n = n + 1) ↔ False := by simp <;> omega
@[go_sem] theorem eq_l1 (n : Nat) : (n + 1 = n) ↔ False := by simp <;> omega
@[go_sem] theorem eq_r2 (n : Nat) : (n = n + 1 + 1) ↔ False := by simp <;> omega
@[go_sem] theorem eq_l2 (n : Nat) : (n + 1 + 1 = n) ↔ False := by simp <;> omega
@[go_sem] theorem eq_r3 (n : Nat) : (n = n + 1 + 1 + 1) ↔ False := by simp <;> omega
@[go_sem] theorem eq_l3 (n : Nat) : (n + 1 + 1 + 1 = n) ↔ False := by simp <;> omega
@[go_sem] theorem eq_r4 (n : Nat) : (n = n + 1 + 1 + 1 + 1) ↔ False := by simp <;> omega
@[go_sem] theorem eq_l4 (n : Nat) : (n + 1 + 1 + 1 + 1 = n) ↔ False := by simp <;> omega
@[go_sem] theorem eq_r5 (n : Nat) : (n = n + 1 + 1 + 1 + 1 + 1) ↔ False := by simp <;> omega
@[go_sem] theorem eq_l5 (n : Nat) : (n + 1 + 1 + 1 + 1 + 1 = n) ↔ False := by simp <;> omega
/-- sixteen cells; cells that are one each: behind names, so that the walk takes no size for a rule -/
def Is16 (c : Array Value) : Prop := c.size = 16
def Ones (c : Array Value) : Prop := c.all (·.oneCell') = true
@[go_sem] theorem is16_av (f : Nat → Nat) : Is16 (av f) ↔ True := ⟨fun _ => trivial, fun _ => av_size f⟩
@[go_sem] theorem is16_bv (f : Nat → Bool) : Is16 (bv f) ↔ True := ⟨fun _ => trivial, fun _ => bv_size f⟩
@[go_sem] theorem is16_lit (x0 x1 x2 x3 x4 x5 x6 x7 x8 x9 x10 x11 x12 x13 x14 x15 : Value) : Is16 #[x0, x1, x2, x3, x4, x5, x6, x7, x8, x9, x10, x11, x12, x13, x14, x15] ↔ True := ⟨fun _ => trivial, fun _ => rfl⟩
@[go_sem] theorem ones_av (f : Nat → Nat) : Ones (av f) ↔ True := ⟨fun _ => trivial, fun _ => av_cells f⟩
theorem bv_cells (f : Nat → Bool) : (bv f).all (·.oneCell') = true := by unfold bv row; simp [Value.oneCell']
@[go_sem] theorem ones_bv (f : Nat → Bool) : Ones (bv f) ↔ True := ⟨fun _ => trivial, fun _ => bv_cells f⟩
@[go_sem] theorem ones_z : Ones #[Value.int .u8 0, Value.int .u8 0, Value.int .u8 0, Value.int .u8 0, Value.int .u8 0, Value.int .u8 0, Value.int .u8 0, Value.int .u8 0, Value.int .u8 0, Value.int .u8 0, Value.int .u8 0, Value.int .u8 0, Value.int .u8 0, Value.int .u8 0, Value.int .u8 0, Value.int .u8 0] ↔ True := ⟨fun _ => trivial, fun _ => by unfold Ones; simp [Value.oneCell']⟩
@[go_sem] theorem ones_f : Ones #[Value.bool false, Value.bool false, Value.bool false, Value.bool false, Value.bool false, Value.bool false, Value.bool false, Value.bool false, Value.bool false, Value.bool false, Value.bool false, Value.bool false, Value.bool false, Value.bool false, Value.bool false, Value.bool false] ↔ True := ⟨fun _ => trivial, fun _ => by unfold Ones; simp [Value.oneCell']⟩
@[go_sem] theorem rowOk_at {w : World} {g : Nat} {c : Array Value} {t : TypeId} (h : g = w.heap.size) (hc : Is16 c) : rowOk (w.alloc (.cells c t)) g 16 ↔ True := ⟨fun _ => trivial, fun _ => ⟨c, t, heap_at _ _ _ h, hc⟩⟩

/-- what the operation 'load T' does -/
def loadT (T : TypeId) (v : Value) : Sem Next := do pure (.value (← Instr.loadAt T v))
def storeT (T : TypeId) (v x : Value) : Sem Next := do Instr.storeAt T v x; pure .skip

theorem run_loadT {T n : Nat} (hT : AggT T n) {w : World} {g : Nat} (h : (cellsOf w g).size = n) (h0 : 0 < n) :
    (loadT T (.pointer (some ⟨g, 0, none⟩))).run Try.prog w = .ok (.value (.agg (cellsOf w g))) w := by
  obtain ⟨d, hd, hd'⟩ := hT.und
  have hh : ∃ t fr, w.heap[g]? = some (.cells (cellsOf w g) t fr) := by
    unfold cellsOf at *
    rcases e : w.heap[g]? with _ | o
    · rw [e] at h; simp at h; omega
    · cases o with
      | cells c t fr => exact ⟨t, fr, rfl⟩
      | _ => rw [e] at h; simp at h; omega
  obtain ⟨t, fr, hg⟩ := hh
  have := run_loadVar_row (P := Try.prog) w g t T (cellsOf w g) fr d hg hd (by cases d <;> first | rfl | simp at hd') (by rw [h]; exact hT.siz)
  simp only [loadT, Instr.loadAt, Instr.sureAddr, Sem.run_bind, Sem.run_pure, Result.andThen_ok, this]
theorem run_storeT {T n : Nat} (hT : AggT T n) {w : World} {g : Nat} {cs : Array Value} (h : rowOk w g n) (hs : cs.size = n) (hc : cs.all (·.oneCell') = true) :
    (storeT T (.pointer (some ⟨g, 0, none⟩)) (.agg cs)).run Try.prog w = .ok .skip (w.setRow g cs) := by
  obtain ⟨t, h1, h2⟩ := h.heap
  have := run_storeVar_row (P := Try.prog) w g t T (cellsOf w g) cs h1 (by rw [hs]; exact hT.siz) (by rw [h2, hs]) hc
  simp only [storeT, Instr.storeAt, Instr.sureAddr, Sem.run_bind, Sem.run_pure, Result.andThen_ok, this]

section
variable (ρ : Operand → Value) (dst : Option Tmp) (x y : Operand) (ty : TypeId) (pos : String) (after : Array Edge) (guard : Option (Nat × Bool))
-- left out here: None
-- left out here: None
-- left out here: None
-- left out here: None
-- left out here: None
-- left out here: None
end
-- left out here: None
-- left out here: None
-- left out here: None
-- left out here: None
-- left out here: None
-- left out here: None
/-- a pair of a whole value out of its cell and of a slot -/
theorem res_agg2 {fn : Func} {p t : Tmp} {T U : TypeId} {n : Nat} {cs : Array Value} {v : Value} {R : Ending → World → Prop} {a : Act} {w : World} {g : Nat} (hT : AggT T n) (hs : cs.size = n) (h : fn.results = #[.cell p T, .tmp t])
    (hp : a.tmps.getD p undef = .pointer (some ⟨g, 0, none⟩)) (hv : a.tmps.getD t undef = v) (hd : a.defers = []) (hg : w.heap[g]? = some (.cells cs U (0, 0))) (hR : R (.returned (.tuple #[.agg cs, v])) w) : bodyPost Try.prog fn R .ret a w := by
  obtain ⟨d, h1, h2⟩ := hT.und
  have hl := run_loadVar_row (P := Try.prog) w g U T cs (0, 0) d hg h1 (by cases d <;> first | rfl | simp at h2) (by rw [hs]; exact hT.siz)
  refine bodyPost_ret (v := .tuple #[.agg cs, v]) ?_ hd hR
  have hp' : a.tmps[p]?.getD undef = .pointer (some ⟨g, 0, none⟩) := by simpa using hp
  have hv' : a.tmps[t]?.getD undef = v := by simpa using hv
  simp [results, h, hp', hv', asAddr, hl]
theorem res_agg2b {fn : Func} {p t : Tmp} {T U : TypeId} {n : Nat} {cs : Array Value} {v : Value} {R : Ending → World → Prop} {a : Act} {w : World} {g : Nat} (hT : AggT T n) (hs : cs.size = n) (h : fn.results = #[.tmp t, .cell p T])
    (hp : a.tmps.getD p undef = .pointer (some ⟨g, 0, none⟩)) (hv : a.tmps.getD t undef = v) (hd : a.defers = []) (hg : w.heap[g]? = some (.cells cs U (0, 0))) (hR : R (.returned (.tuple #[v, .agg cs])) w) : bodyPost Try.prog fn R .ret a w := by
  obtain ⟨d, h1, h2⟩ := hT.und
  have hl := run_loadVar_row (P := Try.prog) w g U T cs (0, 0) d hg h1 (by cases d <;> first | rfl | simp at h2) (by rw [hs]; exact hT.siz)
  refine bodyPost_ret (v := .tuple #[v, .agg cs]) ?_ hd hR
  have hp' : a.tmps[p]?.getD undef = .pointer (some ⟨g, 0, none⟩) := by simpa using hp
  have hv' : a.tmps[t]?.getD undef = v := by simpa using hv
  simp [results, h, hp', hv', asAddr, hl]
/-- a world in which nothing below has turned, by blocks -/
theorem heap_of {w w' : World} {g : Nat} {o : Obj} (h : Below w.heap.size w w') (hg : w.heap[g]? = some o) : w'.heap[g]? = some o := by
  rcases Nat.lt_or_ge g w.heap.size with c | c
  · exact (h.block g c).trans hg
  · rw [Array.getElem?_eq_none c] at hg; cases hg

end Go.Proofs.Ytpkfjdaedaplfaa

namespace Go.Proofs.Ytpkfjdaedaplfaa
/-- pigeonhole -/
theorem pigeon : ∀ (n : Nat) (f : Nat → Nat), (∀ i, i ≤ n → f i < n) → ∃ i j, i < j ∧ j ≤ n ∧ f i = f j := by
  intro n
  induction n with
  | zero => intro f h; exact absurd (h 0 (Nat.le_refl _)) (by omega)
  | succ n ih =>
    intro f h
    by_cases he : ∃ i, i ≤ n ∧ f i = f (n + 1)
    · obtain ⟨i, hi, e⟩ := he
      exact ⟨i, n + 1, by omega, Nat.le_refl _, e⟩
    · have hne : ∀ i, i ≤ n → f i ≠ f (n + 1) := fun i hi e => he ⟨i, hi, e⟩
      obtain ⟨i, j, hij, hj, e⟩ := ih (fun i => if f i = n then f (n + 1) else f i) (by
        intro i hi
        have h1 := h i (by omega)
        have h2 := h (n + 1) (Nat.le_refl _)
        have h3 := hne i hi
        by_cases c : f i = n
        · simp only [if_pos c]; omega
        · simp only [if_neg c]; omega)
      refine ⟨i, j, hij, by omega, ?_⟩
      have h3 := hne i (by omega)
      have h4 := hne j (by omega)
      by_cases c : f i = n <;> by_cases d : f j = n
      · omega
      · simp only [if_pos c, if_neg d] at e; omega
      · simp only [if_neg c, if_pos d] at e; omega
      · simp only [if_neg c, if_neg d] at e; exact e

def Bij (p : Nat → Nat) (n : Nat) : Prop := (∀ x, x < n → p x < n) ∧ ∀ x y, x < n → y < n → p x = p y → x = y

def it (p : Nat → Nat) : Nat → Nat → Nat
  | 0, x => x
  | k + 1, x => p (it p k x)

theorem it_add (p : Nat → Nat) (j k x : Nat) : it p (j + k) x = it p j (it p k x) := by
  induction j with
  | zero => simp [it]
  | succ j ih => rw [Nat.succ_add]; simp [it, ih]

theorem it_succ' (p : Nat → Nat) (k x : Nat) : it p (k + 1) x = it p k (p x) := by
  rw [it_add p k 1 x]; rfl

variable {p q : Nat → Nat} {n : Nat}

theorem Bij.it_lt (h : Bij p n) (k : Nat) {x : Nat} (hx : x < n) : it p k x < n := by
  induction k with
  | zero => exact hx
  | succ k ih => exact h.1 _ ih

theorem Bij.it_inj (h : Bij p n) (k : Nat) {x y : Nat} (hx : x < n) (hy : y < n) (e : it p k x = it p k y) : x = y := by
  induction k with
  | zero => exact e
  | succ k ih => exact ih (h.2 _ _ (h.it_lt k hx) (h.it_lt k hy) e)

theorem Bij.period (h : Bij p n) {x : Nat} (hx : x < n) : ∃ L, 0 < L ∧ L ≤ n ∧ it p L x = x := by
  obtain ⟨i, j, hij, hj, e⟩ := pigeon n (fun k => it p k x) (fun i _ => h.it_lt i hx)
  refine ⟨j - i, by omega, by omega, ?_⟩
  have e1 : it p i (it p (j - i) x) = it p i x := by rw [← it_add, show i + (j - i) = j from by omega]; exact e.symm
  exact h.it_inj i (h.it_lt _ hx) hx e1

theorem exists_least {P : Nat → Prop} (h : ∃ k, P k) : ∃ k, P k ∧ ∀ j, j < k → ¬ P j := by
  obtain ⟨k, hk⟩ := h
  induction k using Nat.strongRecOn with
  | _ k ih =>
    by_cases c : ∃ j, j < k ∧ P j
    · obtain ⟨j, hj, hp⟩ := c; exact ih j hj hp
    · exact ⟨k, hk, fun j hj hp => c ⟨j, hj, hp⟩⟩

/-- the least period -/
theorem Bij.least (h : Bij p n) {x : Nat} (hx : x < n) : ∃ L, 0 < L ∧ L ≤ n ∧ it p L x = x ∧ ∀ j, 0 < j → j < L → it p j x ≠ x := by
  obtain ⟨L0, h0, h1, h2⟩ := h.period hx
  obtain ⟨L, hL, hmin⟩ := exists_least (P := fun L => 0 < L ∧ it p L x = x) ⟨L0, h0, h2⟩
  refine ⟨L, hL.1, ?_, hL.2, fun j hj hlt e => hmin j hlt ⟨hj, e⟩⟩
  by_cases c : L ≤ L0
  · omega
  · exact absurd ⟨h0, h2⟩ (hmin L0 (by omega))

theorem it_mul {L x : Nat} (e : it p L x = x) (k : Nat) : it p (L * k) x = x := by
  induction k with
  | zero => rfl
  | succ k ih => rw [Nat.mul_succ, it_add, e, ih]

theorem it_mod {L x : Nat} (e : it p L x = x) (k : Nat) : it p k x = it p (k % L) x := by
  conv => lhs; rw [← Nat.mod_add_div k L, it_add, it_mul e]

/-- the orbit relation -/
def R (p : Nat → Nat) (x y : Nat) : Prop := ∃ k, it p k x = y
theorem R.refl (x : Nat) : R p x x := ⟨0, rfl⟩
theorem R.step (x : Nat) : R p x (p x) := ⟨1, rfl⟩
theorem R.trans {x y z : Nat} (h : R p x y) (k : R p y z) : R p x z := by
  obtain ⟨i, rfl⟩ := h; obtain ⟨j, rfl⟩ := k; exact ⟨j + i, it_add p j i x⟩
theorem R.lt (h : Bij p n) {x y : Nat} (hx : x < n) (r : R p x y) : y < n := by obtain ⟨k, rfl⟩ := r; exact h.it_lt k hx
theorem R.symm (h : Bij p n) {x y : Nat} (hx : x < n) (r : R p x y) : R p y x := by
  obtain ⟨k, rfl⟩ := r
  obtain ⟨L, h0, _, h2⟩ := h.period hx
  refine ⟨L * (k + 1) - k, ?_⟩
  rw [← it_add, show L * (k + 1) - k + k = L * (k + 1) from by
    have : k + 1 ≤ L * (k + 1) := Nat.le_mul_of_pos_left _ h0
    omega, it_mul h2]
theorem R.of_steps {S : Nat → Nat → Prop} (hr : ∀ x, x < n → S x x) (ht : ∀ x y z, x < n → y < n → z < n → S x y → S y z → S x z)
    (h : Bij p n) (hs : ∀ x, x < n → S x (p x)) {x y : Nat} (hx : x < n) (r : R p x y) : S x y := by
  obtain ⟨k, rfl⟩ := r
  induction k with
  | zero => exact hr x hx
  | succ k ih => exact ht _ _ _ hx (h.it_lt k hx) (h.it_lt (k + 1) hx) ih (hs _ (h.it_lt k hx))
open Classical in
/-- number of classes of a relation below n: its least elements -/
noncomputable def cl (E : Nat → Nat → Prop) (n : Nat) : Nat := ((List.range n).filter fun x => decide (∀ y, y < n → E x y → x ≤ y)).length

theorem count_one (l : List Nat) (hl : l.Nodup) (P Q : Nat → Bool) (b : Nat) (hb : b ∈ l) (hq : Q b = true) (h : ∀ x, x ∈ l → P x = (Q x && x != b)) :
    (l.filter Q).length = (l.filter P).length + 1 := by
  induction l with
  | nil => cases hb
  | cons x l ih =>
    have hn := List.nodup_cons.1 hl
    by_cases e : x = b
    · subst e
      have hp : P x = false := by rw [h x (by simp)]; simp
      rw [List.filter_cons_of_pos hq, List.filter_cons_of_neg (by simp [hp])]
      have : l.filter P = l.filter Q := by
        apply List.filter_congr
        intro y hy
        have hne : y ≠ x := fun e => hn.1 (e ▸ hy)
        rw [h y (by simp [hy])]; simp [hne]
      rw [this]; rfl
    · have hb' : b ∈ l := by
        rcases List.mem_cons.1 hb with c | c
        · exact absurd c.symm e
        · exact c
      have := ih hn.2 hb' (fun y hy => h y (by simp [hy]))
      have hx : P x = Q x := by rw [h x (by simp)]; simp [e]
      by_cases c : Q x = true
      · rw [List.filter_cons_of_pos c, List.filter_cons_of_pos (by rw [hx]; exact c)]; simp [this]
      · rw [List.filter_cons_of_neg c, List.filter_cons_of_neg (by rw [hx]; exact c)]; exact this

structure Eqv (E : Nat → Nat → Prop) (n : Nat) : Prop where
  refl : ∀ x, x < n → E x x
  symm : ∀ x y, x < n → y < n → E x y → E y x
  trans : ∀ x y z, x < n → y < n → z < n → E x y → E y z → E x z

def Join (E : Nat → Nat → Prop) (a b x y : Nat) : Prop := E x y ∨ (E x a ∧ E b y) ∨ (E x b ∧ E a y)

theorem Eqv.leastOf {E : Nat → Nat → Prop} {n a : Nat} (h : Eqv E n) (ha : a < n) : ∃ m, m < n ∧ E a m ∧ ∀ y, y < n → E a y → m ≤ y := by
  obtain ⟨m, hm, hmin⟩ := exists_least (P := fun m => m < n ∧ E a m) ⟨a, ha, h.refl a ha⟩
  exact ⟨m, hm.1, hm.2, fun y hy e => Nat.le_of_not_lt fun c => hmin y c ⟨hy, e⟩⟩

theorem cl_congr {E E' : Nat → Nat → Prop} {n : Nat} (h : ∀ x y, x < n → y < n → (E x y ↔ E' x y)) : cl E n = cl E' n := by
  unfold cl
  congr 1
  apply List.filter_congr
  intro x hx
  have hx := List.mem_range.1 hx
  rw [decide_eq_decide]
  exact ⟨fun k y hy e => k y hy ((h x y hx hy).2 e), fun k y hy e => k y hy ((h x y hx hy).1 e)⟩

theorem cl_join_lt {E : Nat → Nat → Prop} {n a b A B : Nat} (h : Eqv E n) (ha : a < n) (hb : b < n) (hA : A < n) (hB : B < n) (eA : E a A) (_mA : ∀ y, y < n → E a y → A ≤ y)
    (eB : E b B) (mB : ∀ y, y < n → E b y → B ≤ y) (_hne : ¬ E a b) (hlt : A < B) : cl E n = cl (Join E a b) n + 1 := by
  classical
  unfold cl
  refine count_one _ List.nodup_range _ _ B (List.mem_range.2 hB) ?_ ?_
  · simp only [decide_eq_true_eq]
    exact fun y hy e => mB y hy (h.trans _ _ _ hb hB hy eB e)
  · intro x hx
    have hx := List.mem_range.1 hx
    rw [Bool.eq_iff_iff]
    simp only [decide_eq_true_eq, Bool.and_eq_true, bne_iff_ne, ne_eq]
    constructor
    · intro k
      refine ⟨fun y hy e => k y hy (.inl e), ?_⟩
      rintro rfl
      have := k A hA (.inr (.inr ⟨h.symm _ _ hb hx eB, eA⟩))
      omega
    · rintro ⟨k, kb⟩ y hy (e | ⟨e1, e2⟩ | ⟨e1, e2⟩)
      · exact k y hy e
      · have h1 := k A hA (h.trans _ _ _ hx ha hA e1 eA)
        have h2 := mB y hy e2
        omega
      · exfalso
        have h1 := k B hB (h.trans _ _ _ hx hb hB e1 eB)
        have h2 := mB x hx (h.symm _ _ hx hb e1)
        omega

theorem Join.comm {E : Nat → Nat → Prop} {a b x y : Nat} : Join E a b x y ↔ Join E b a x y := by
  unfold Join; constructor <;> rintro (h | h | h) <;> simp [h]

theorem cl_join {E : Nat → Nat → Prop} {n a b : Nat} (h : Eqv E n) (ha : a < n) (hb : b < n) (hne : ¬ E a b) : cl E n = cl (Join E a b) n + 1 := by
  obtain ⟨A, hA, eA, mA⟩ := h.leastOf ha
  obtain ⟨B, hB, eB, mB⟩ := h.leastOf hb
  rcases Nat.lt_trichotomy A B with c | c | c
  · exact cl_join_lt h ha hb hA hB eA mA eB mB hne c
  · exact absurd (h.trans _ _ _ ha hA hb eA (c ▸ h.symm _ _ hb hB eB)) hne
  · rw [cl_congr (E := Join E a b) (E' := Join E b a) (fun _ _ _ _ => Join.comm)]
    exact cl_join_lt h hb ha hB hA eB mB eA mA (fun e => hne (h.symm _ _ hb ha e)) c

theorem Eqv.join {E : Nat → Nat → Prop} {n a b : Nat} (h : Eqv E n) (ha : a < n) (hb : b < n) : Eqv (Join E a b) n where
  refl x hx := .inl (h.refl x hx)
  symm x y hx hy := by
    rintro (e | ⟨e, f⟩ | ⟨e, f⟩)
    · exact .inl (h.symm _ _ hx hy e)
    · exact .inr (.inr ⟨h.symm _ _ hb hy f, h.symm _ _ hx ha e⟩)
    · exact .inr (.inl ⟨h.symm _ _ ha hy f, h.symm _ _ hx hb e⟩)
  trans x y z hx hy hz := by
    have S := h.symm; have T := h.trans
    rintro (e | ⟨e, f⟩ | ⟨e, f⟩) (g | ⟨g, k⟩ | ⟨g, k⟩)
    · exact .inl (T _ _ _ hx hy hz e g)
    · exact .inr (.inl ⟨T _ _ _ hx hy ha e g, k⟩)
    · exact .inr (.inr ⟨T _ _ _ hx hy hb e g, k⟩)
    · exact .inr (.inl ⟨e, T _ _ _ hb hy hz f g⟩)
    · exact .inl (T _ _ _ hx ha hz e (S _ _ hz ha (T _ _ _ hz hb ha (S _ _ hb hz k) (T _ _ _ hb hy ha f g))))
    · exact .inl (T _ _ _ hx ha hz e k)
    · exact .inr (.inr ⟨e, T _ _ _ ha hy hz f g⟩)
    · exact .inl (T _ _ _ hx hb hz e k)
    · exact .inl (T _ _ _ hx hb hz e (S _ _ hz hb (T _ _ _ hz ha hb (S _ _ ha hz k) (T _ _ _ ha hy hb f g))))

theorem Bij.eqv {p : Nat → Nat} {n : Nat} (h : Bij p n) : Eqv (R p) n := ⟨fun x _ => R.refl x, fun _ _ hx _ r => r.symm h hx, fun _ _ _ _ _ _ => R.trans⟩

/-- a and b exchanged -/
def sw (a b x : Nat) : Nat := if x = a then b else if x = b then a else x
/-- first the exchange, then p -/
def mulsw (p : Nat → Nat) (a b x : Nat) : Nat := p (sw a b x)

theorem sw_lt {a b x n : Nat} (ha : a < n) (hb : b < n) (hx : x < n) : sw a b x < n := by unfold sw; split; omega; split <;> omega
theorem sw_sw (a b x : Nat) : sw a b (sw a b x) = x := by
  unfold sw
  by_cases h1 : x = a
  · subst h1; by_cases h : b = x <;> simp [h]
  · by_cases h2 : x = b
    · subst h2; simp [h1]
    · simp [h1, h2]
theorem Bij.mulsw {p : Nat → Nat} {n a b : Nat} (h : Bij p n) (ha : a < n) (hb : b < n) : Bij (mulsw p a b) n := by
  refine ⟨fun x hx => h.1 _ (sw_lt ha hb hx), fun x y hx hy e => ?_⟩
  have := h.2 _ _ (sw_lt ha hb hx) (sw_lt ha hb hy) e
  rw [← sw_sw a b x, this, sw_sw]
theorem mulsw_mulsw (p : Nat → Nat) (a b : Nat) : mulsw (mulsw p a b) a b = p := by funext x; simp [mulsw, sw_sw]

/-- an orbit is walked on by the changed permutation as long as neither a nor b is met -/
theorem it_mulsw {p : Nat → Nat} {a b x : Nat} (k : Nat) (h : ∀ j, j < k → it p j x ≠ a ∧ it p j x ≠ b) : it (mulsw p a b) k x = it p k x := by
  induction k with
  | zero => rfl
  | succ k ih =>
    have := h k (by omega)
    simp only [it]
    rw [ih fun j hj => h j (by omega)]
    simp [mulsw, sw, this.1, this.2]

theorem R_mulsw_ab {p : Nat → Nat} {n a b : Nat} (h : Bij p n) (hb : b < n) (hne : ¬ R p a b) (hne' : ¬ R p b a) : R (mulsw p a b) a b := by
  obtain ⟨L, h0, _, h2, h3⟩ := h.least hb
  have hab : a ≠ b := fun e => hne (e ▸ R.refl _)
  have e1 : mulsw p a b a = p b := by simp [mulsw, sw]
  refine ⟨(L - 1) + 1, ?_⟩
  rw [it_succ', e1, it_mulsw, ← it_succ', show L - 1 + 1 = L from by omega, h2]
  intro j hj
  rw [← it_succ']
  exact ⟨fun e => hne' ⟨_, e⟩, fun e => h3 (j + 1) (by omega) (by omega) e⟩

theorem R_mulsw_of_ne {p : Nat → Nat} {n a b : Nat} (h : Bij p n) (ha : a < n) (hb : b < n) (hne : ¬ R p a b) {x y : Nat} (hx : x < n) :
    R (mulsw p a b) x y ↔ Join (R p) a b x y := by
  have hne' : ¬ R p b a := fun r => hne (r.symm h hb)
  have hq := h.mulsw ha hb
  have rab : R (mulsw p a b) a b := R_mulsw_ab h hb hne hne'
  have rba : R (mulsw p a b) b a := rab.symm hq ha
  have step : ∀ z, z < n → R (mulsw p a b) z (p z) := by
    intro z hz
    by_cases c : z = a
    · subst c
      refine rab.trans ⟨1, ?_⟩
      have : z ≠ b := fun e => hne (e ▸ R.refl _)
      simp [it, mulsw, sw, Ne.symm this]
    · by_cases d : z = b
      · subst d
        exact rba.trans ⟨1, by simp [it, mulsw, sw]⟩
      · exact ⟨1, by simp [it, mulsw, sw, c, d]⟩
  have up : ∀ x y, x < n → R p x y → R (mulsw p a b) x y := fun x y hx r => R.of_steps (n := n) (fun z _ => R.refl z) (fun _ _ _ _ _ _ => R.trans) h step hx r
  have J := h.eqv.join ha hb
  constructor
  · intro r
    refine R.of_steps (n := n) J.refl J.trans hq ?_ hx r
    intro z hz
    by_cases c : z = a
    · subst c; exact .inr (.inl ⟨R.refl _, by simpa [mulsw, sw] using R.step b⟩)
    · by_cases d : z = b
      · subst d
        exact .inr (.inr ⟨R.refl _, by simpa [mulsw, sw, c] using R.step a⟩)
      · exact .inl (by simpa [mulsw, sw, c, d] using R.step (p := p) z)
  · rintro (e | ⟨e, f⟩ | ⟨e, f⟩)
    · exact up _ _ hx e
    · exact (up _ _ hx e).trans (rab.trans (up _ _ hb f))
    · exact (up _ _ hx e).trans (rba.trans (up _ _ ha f))

theorem R_split {p : Nat → Nat} {n a b : Nat} (h : Bij p n) (ha : a < n) (hab : a ≠ b) (r : R p a b) : ¬ R (mulsw p a b) a b := by
  obtain ⟨L, h0, _, h2, h3⟩ := h.least ha
  obtain ⟨k, hk⟩ := r
  rw [it_mod h2] at hk
  have hj : k % L < L := Nat.mod_lt _ h0
  generalize k % L = j at hk hj
  have hj0 : 0 < j := by rcases Nat.eq_zero_or_pos j with c | c; · subst c; exact absurd hk hab
                         · exact c
  -- the iterates of a are different
  have hd : ∀ i i', i < i' → i' < L → it p i a ≠ it p i' a := by
    intro i i' hi hi' e
    have : it p (i' - i) a = a := by
      refine h.it_inj i (h.it_lt _ ha) ha ?_
      rw [← it_add, show i + (i' - i) = i' from by omega]; exact e.symm
    exact h3 (i' - i) (by omega) (by omega) this
  -- the new orbit of a: a, p b, .., and a again
  have e1 : mulsw p a b a = it p (j + 1) a := by simp [mulsw, sw, it, hk]
  have walk : ∀ i, i + j + 1 ≤ L → it (mulsw p a b) (i + 1) a = it p (i + j + 1) a := by
    intro i hi
    rw [it_succ', e1, it_mulsw, ← it_add, show i + (j + 1) = i + j + 1 from by omega]
    intro m hm
    rw [← it_add]
    refine ⟨?_, ?_⟩
    · exact fun e => hd 0 (m + (j + 1)) (by omega) (by omega) e.symm
    · rw [← hk]; exact fun e => hd j (m + (j + 1)) (by omega) (by omega) e.symm
  have back : it (mulsw p a b) (L - j) a = a := by
    have := walk (L - j - 1) (by omega)
    rw [show L - j - 1 + 1 = L - j from by omega, show L - j - 1 + j + 1 = L from by omega, h2] at this
    exact this
  rintro ⟨k', hk'⟩
  rw [it_mod back] at hk'
  have hlt : k' % (L - j) < L - j := Nat.mod_lt _ (by omega)
  generalize k' % (L - j) = m at hk' hlt
  rcases m with _ | m
  · exact hab hk'
  · rw [walk m (by omega), ← hk] at hk'
    exact hd j (m + j + 1) (by omega) (by omega) hk'.symm

/-- number of orbits -/
noncomputable def orb (p : Nat → Nat) (n : Nat) : Nat := cl (R p) n

theorem orb_merge {p : Nat → Nat} {n a b : Nat} (h : Bij p n) (ha : a < n) (hb : b < n) (hne : ¬ R p a b) : orb p n = orb (mulsw p a b) n + 1 := by
  unfold orb
  rw [cl_congr (E := R (mulsw p a b)) (E' := Join (R p) a b) (fun x y hx _ => R_mulsw_of_ne h ha hb hne hx)]
  exact cl_join h.eqv ha hb hne
theorem orb_split {p : Nat → Nat} {n a b : Nat} (h : Bij p n) (ha : a < n) (hb : b < n) (hab : a ≠ b) (r : R p a b) : orb (mulsw p a b) n = orb p n + 1 := by
  have := orb_merge (h.mulsw ha hb) ha hb (R_split h ha hab r)
  rw [mulsw_mulsw] at this
  exact this
theorem it_fix {p : Nat → Nat} {x : Nat} (h : p x = x) (k : Nat) : it p k x = x := by
  induction k with
  | zero => rfl
  | succ k ih => simp only [it]; rw [ih, h]
theorem orb_id {n : Nat} (p : Nat → Nat) (hp : ∀ x, x < n → p x = x) : orb p n = n := by
  classical
  unfold orb cl
  rw [List.filter_eq_self.2, List.length_range]
  intro x hx
  have hx := List.mem_range.1 hx
  simp only [decide_eq_true_eq]
  rintro y _ ⟨k, rfl⟩
  rw [it_fix (hp x hx)]
  exact Nat.le_refl _
theorem orb_le (p : Nat → Nat) (n : Nat) : orb p n ≤ n := by
  unfold orb cl
  exact Nat.le_trans (List.length_filter_le _ _) (by simp)

theorem orb_congr {p q : Nat → Nat} {n : Nat} (h : Bij p n) (e : ∀ x, x < n → p x = q x) : orb p n = orb q n := by
  have hit : ∀ k x, x < n → it p k x = it q k x := by
    intro k x hx
    induction k with
    | zero => rfl
    | succ k ih => simp only [it]; rw [← ih]; exact e _ (h.it_lt k hx)
  exact cl_congr fun x y hx _ => ⟨fun ⟨k, hk⟩ => ⟨k, by rw [← hit k x hx]; exact hk⟩, fun ⟨k, hk⟩ => ⟨k, by rw [hit k x hx]; exact hk⟩⟩

theorem Bij.congr {p q : Nat → Nat} {n : Nat} (h : Bij p n) (e : ∀ x, x < n → p x = q x) : Bij q n :=
  ⟨fun x hx => e x hx ▸ h.1 x hx, fun x y hx hy he => h.2 x y hx hy (by rw [e x hx, e y hy]; exact he)⟩

theorem Bij.comp {p q : Nat → Nat} {n : Nat} (hp : Bij p n) (hq : Bij q n) : Bij (fun x => q (p x)) n :=
  ⟨fun x hx => hq.1 _ (hp.1 x hx), fun x y hx hy e => hp.2 _ _ hx hy (hq.2 _ _ (hp.1 x hx) (hp.1 y hy) e)⟩

/-- the components that two permutations have together -/
def Both (p q : Nat → Nat) (n : Nat) (x y : Nat) : Prop := ∀ E : Nat → Nat → Prop, Eqv E n → (∀ z, z < n → E z (p z)) → (∀ z, z < n → E z (q z)) → E x y
theorem Both.eqv (p q : Nat → Nat) (n : Nat) : Eqv (Both p q n) n :=
  ⟨fun x hx _ h _ _ => h.refl x hx, fun x y hx hy r E h a b => h.symm x y hx hy (r E h a b), fun x y z hx hy hz r s E h a b => h.trans x y z hx hy hz (r E h a b) (s E h a b)⟩
theorem Both.left (p q : Nat → Nat) (n : Nat) {x : Nat} (hx : x < n) : Both p q n x (p x) := fun _ _ a _ => a x hx
theorem Both.right (p q : Nat → Nat) (n : Nat) {x : Nat} (hx : x < n) : Both p q n x (q x) := fun _ _ _ b => b x hx

theorem Both_join {p q : Nat → Nat} {n a b : Nat} (ha : a < n) (hb : b < n) {x y : Nat} :
    Both p q n x y → Join (Both p (mulsw q a b) n) a b x y := by
  intro r
  refine r _ ((Both.eqv p (mulsw q a b) n).join ha hb) (fun z hz => .inl (Both.left _ _ _ hz)) ?_
  intro z hz
  by_cases c : z = a
  · subst c
    refine .inr (.inl ⟨(Both.eqv p _ n).refl _ hz, ?_⟩)
    have := Both.right p (mulsw q z b) n hb
    have e : mulsw q z b b = q z := by
      by_cases d : b = z
      · subst d; simp [mulsw, sw]
      · simp [mulsw, sw, d]
    rwa [e] at this
  · by_cases d : z = b
    · subst d
      refine .inr (.inr ⟨(Both.eqv p _ n).refl _ hz, ?_⟩)
      have := Both.right p (mulsw q a z) n ha
      have e : mulsw q a z a = q z := by simp [mulsw, sw]
      rwa [e] at this
    · refine .inl ?_
      have := Both.right p (mulsw q a b) n hz
      have e : mulsw q a b z = q z := by simp [mulsw, sw, c, d]
      rwa [e] at this

theorem R.both_right {p q : Nat → Nat} {n : Nat} (hq : Bij q n) {x y : Nat} (hx : x < n) (r : R q x y) : Both p q n x y :=
  R.of_steps (n := n) (Both.eqv p q n).refl (Both.eqv p q n).trans hq (fun _ hz => Both.right p q n hz) hx r
theorem R.both_left {p q : Nat → Nat} {n : Nat} (hp : Bij p n) {x y : Nat} (hx : x < n) (r : R p x y) : Both p q n x y :=
  R.of_steps (n := n) (Both.eqv p q n).refl (Both.eqv p q n).trans hp (fun _ hz => Both.left p q n hz) hx r

/-- two numbers of orbits and the third: parity, and the bound -/
theorem euler_bound (n : Nat) (p : Nat → Nat) (hp : Bij p n) : ∀ (k : Nat) (q : Nat → Nat), Bij q n → n - orb q n = k →
    (orb p n + orb q n + orb (fun x => p (q x)) n + n) % 2 = 0 ∧ orb p n + orb q n + orb (fun x => p (q x)) n ≤ n + 2 * cl (Both p q n) n := by
  intro k
  induction k with
  | zero =>
    intro q hq hk
    have hle := orb_le q n
    -- all orbits are of one number
    have hid : ∀ x, x < n → q x = x := by
      intro x hx
      by_cases c : q x = x
      · exact c
      · have := orb_split hq hx (hq.1 x hx) (fun e => c e.symm) (R.step x)
        have := orb_le (mulsw q x (q x)) n
        omega
    have e1 : orb (fun x => p (q x)) n = orb p n := (orb_congr hp fun x hx => by rw [hid x hx]).symm
    have e2 : cl (Both p q n) n = orb p n := by
      refine (cl_congr fun x y hx hy => ⟨fun r => R.both_left hp hx r, fun r => ?_⟩).symm
      exact r _ hp.eqv (fun z _ => R.step z) (fun z hz => by rw [hid z hz]; exact R.refl z)
    have e3 : orb q n = n := orb_id q hid
    rw [e1, e2, e3]
    omega
  | succ k ih =>
    intro q hq hk
    have hex : ∃ x, x < n ∧ q x ≠ x := by
      refine Classical.byContradiction fun c => ?_
      have := orb_id (n := n) q (fun x hx => Classical.byContradiction fun d => c ⟨x, hx, d⟩)
      omega
    obtain ⟨a, ha, hne⟩ := hex
    have hb := hq.1 a ha
    have hs := orb_split hq ha hb (fun e => hne e.symm) (R.step a)
    have hq' := hq.mulsw ha hb
    obtain ⟨h1, h2⟩ := ih (mulsw q a (q a)) hq' (by have := orb_le (mulsw q a (q a)) n; omega)
    generalize hbn : q a = b at *
    -- p after q is (p after q') after the exchange
    have ec : (fun x => p (q x)) = mulsw (fun x => p (mulsw q a b x)) a b := by funext x; simp [mulsw, sw_sw]
    have hc := hq'.comp hp
    have hab : a ≠ b := fun e => hne (e ▸ rfl)
    have hsub : ∀ x y, x < n → y < n → Both p (mulsw q a b) n x y → Both p q n x y := by
      intro x y hx hy r
      refine r _ (Both.eqv p q n) (fun z hz => Both.left p q n hz) (fun z hz => ?_)
      -- q' z is q of z, a or b, and a, b hang together by q
      have rab : Both p q n a b := by have := Both.right p q n ha; rwa [hbn] at this
      by_cases c : z = a
      · subst c
        have : mulsw q z b z = q b := by simp [mulsw, sw]
        rw [this]
        exact (Both.eqv p q n).trans _ _ _ hz hb (hq.1 _ hb) rab (Both.right p q n hb)
      · by_cases d : z = b
        · have : mulsw q a b z = q a := by simp [mulsw, sw, d, Ne.symm hab]
          rw [this, hbn, d]
          exact (Both.eqv p q n).refl _ hb
        · have : mulsw q a b z = q z := by simp [mulsw, sw, c, d]
          rw [this]; exact Both.right p q n hz
    by_cases hj : Both p (mulsw q a b) n a b
    · -- nothing is joined
      have ecl : cl (Both p q n) n = cl (Both p (mulsw q a b) n) n := by
        refine cl_congr fun x y hx hy => ⟨fun r => ?_, hsub x y hx hy⟩
        have E := Both.eqv p (mulsw q a b) n
        rcases Both_join (b := b) ha hb r with e | ⟨e, f⟩ | ⟨e, f⟩
        · exact e
        · exact E.trans _ _ _ hx ha hy e (E.trans _ _ _ ha hb hy hj f)
        · exact E.trans _ _ _ hx hb hy e (E.trans _ _ _ hb ha hy (E.symm _ _ ha hb hj) f)
      by_cases hr : R (fun x => p (mulsw q a b x)) a b
      · have := orb_split hc ha hb hab hr
        rw [ec, ecl]; omega
      · have := orb_merge hc ha hb hr
        rw [ec, ecl]; omega
    · have ecl : cl (Both p (mulsw q a b) n) n = cl (Both p q n) n + 1 := by
        rw [cl_join (Both.eqv p (mulsw q a b) n) ha hb hj]
        congr 1
        refine cl_congr fun x y hx hy => ⟨fun r => ?_, Both_join ha hb⟩
        have E := Both.eqv p q n
        have rab : Both p q n a b := by have := Both.right p q n ha; rwa [hbn] at this
        rcases r with e | ⟨e, f⟩ | ⟨e, f⟩
        · exact hsub _ _ hx hy e
        · exact E.trans _ _ _ hx ha hy (hsub _ _ hx ha e) (E.trans _ _ _ ha hb hy rab (hsub _ _ hb hy f))
        · exact E.trans _ _ _ hx hb hy (hsub _ _ hx hb e) (E.trans _ _ _ hb ha hy (E.symm _ _ ha hb rab) (hsub _ _ ha hy f))
      have hr : ¬ R (fun x => p (mulsw q a b x)) a b := by
        intro r
        refine hj (R.of_steps (n := n) (Both.eqv p (mulsw q a b) n).refl (Both.eqv p (mulsw q a b) n).trans hc ?_ ha r)
        intro z hz
        exact (Both.eqv p _ n).trans _ _ _ hz (hq'.1 z hz) (hc.1 z hz) (Both.right p _ n hz) (Both.left p _ n (hq'.1 z hz))
      have := orb_merge hc ha hb hr
      rw [ec]; omega
open Classical in
/-- the least number of steps that leads x to itself -/
noncomputable def per (p : Nat → Nat) (x : Nat) : Nat := if h : ∃ L, 0 < L ∧ it p L x = x then Classical.choose (exists_least h) else 0

theorem per_spec {p : Nat → Nat} {n x : Nat} (h : Bij p n) (hx : x < n) : 0 < per p x ∧ per p x ≤ n ∧ it p (per p x) x = x ∧ ∀ j, 0 < j → j < per p x → it p j x ≠ x := by
  obtain ⟨L, h0, h1, h2, _⟩ := h.least hx
  have hex : ∃ L, 0 < L ∧ it p L x = x := ⟨L, h0, h2⟩
  have hs := Classical.choose_spec (exists_least hex)
  have e : per p x = Classical.choose (exists_least hex) := by unfold per; rw [dif_pos hex]
  rw [← e] at hs
  refine ⟨hs.1.1, ?_, hs.1.2, fun j hj hlt ej => hs.2 j hlt ⟨hj, ej⟩⟩
  refine Nat.le_of_not_lt fun c => hs.2 L (by omega) ⟨h0, h2⟩

/-- the numbers of the cycle of x, from x on -/
noncomputable def orbit (p : Nat → Nat) (x : Nat) : List Nat := (List.range (per p x)).map fun i => it p i x

theorem it_distinct {p : Nat → Nat} {n x : Nat} (h : Bij p n) (hx : x < n) {i j : Nat} (hij : i < j) (hj : j < per p x) : it p i x ≠ it p j x := by
  intro e
  have : it p (j - i) x = x := by
    refine h.it_inj i (h.it_lt _ hx) hx ?_
    rw [← it_add, show i + (j - i) = j from by omega]; exact e.symm
  exact (per_spec h hx).2.2.2 (j - i) (by omega) (by omega) this

theorem it_back {p : Nat → Nat} {n x : Nat} (h : Bij p n) (hx : x < n) {k : Nat} : it p k x = x ↔ per p x ∣ k := by
  obtain ⟨h0, _, h2, h3⟩ := per_spec h hx
  constructor
  · intro e
    rw [it_mod h2] at e
    refine Nat.dvd_of_mod_eq_zero ?_
    rcases Nat.eq_zero_or_pos (k % per p x) with c | c
    · exact c
    · exact absurd e (h3 _ c (Nat.mod_lt _ h0))
  · rintro ⟨m, rfl⟩
    exact it_mul h2 m

theorem mem_orbit {p : Nat → Nat} {n x y : Nat} (h : Bij p n) (hx : x < n) : y ∈ orbit p x ↔ R p x y := by
  unfold orbit
  simp only [List.mem_map, List.mem_range]
  constructor
  · rintro ⟨i, _, e⟩; exact ⟨i, e⟩
  · rintro ⟨k, e⟩
    have := (per_spec h hx)
    exact ⟨k % per p x, Nat.mod_lt _ this.1, by rw [← it_mod this.2.2.1]; exact e⟩

def upd (m : Nat → Bool) (x : Nat) : Nat → Bool := fun y => y == x || m y

/-- a cycle as the program walks it: from x on, until a number has been met -/
def cyc (p : Nat → Nat) : Nat → (Nat → Bool) → Nat → List Nat
  | 0, _, _ => []
  | f + 1, m, x => if m x = true then [] else x :: cyc p f (upd m x) (p x)
def cycMet (p : Nat → Nat) : Nat → (Nat → Bool) → Nat → Nat → Bool
  | 0, m, _ => m
  | f + 1, m, x => if m x = true then m else cycMet p f (upd m x) (p x)

theorem cyc_gen {p : Nat → Nat} {n x : Nat} (h : Bij p n) (hx : x < n) (m : Nat → Bool) (hm : ∀ y, y < n → m (p y) = true → m y = true) (hmx : m x = false) :
    ∀ (d j f : Nat), d = per p x - j → j ≤ per p x → d < f →
      cyc p f (fun y => m y || ((List.range j).map fun i => it p i x).contains y) (it p j x) = (List.range' j (per p x - j)).map (fun i => it p i x) ∧
      cycMet p f (fun y => m y || ((List.range j).map fun i => it p i x).contains y) (it p j x) = fun y => m y || (orbit p x).contains y := by
  have hm' : ∀ j, m (it p j x) = false := by
    intro j
    induction j with
    | zero => exact hmx
    | succ j ih =>
      rcases hb : m (it p (j + 1) x) with _ | _
      · rfl
      · have := hm _ (h.it_lt j hx) hb; rw [ih] at this; cases this
  intro d
  induction d with
  | zero =>
    intro j f hd hj hf
    obtain rfl : j = per p x := by omega
    obtain ⟨f, rfl⟩ : ∃ f', f = f' + 1 := ⟨f - 1, by omega⟩
    have hc : ((List.range (per p x)).map fun i => it p i x).contains x = true := by
      simp only [List.contains_iff_mem]
      exact (mem_orbit h hx).2 (R.refl x)
    simp only [cyc, cycMet, (per_spec h hx).2.2.1, hc, Bool.or_true, if_true, Nat.sub_self, List.range'_zero, List.map_nil]
    exact ⟨trivial, rfl⟩
  | succ d ih =>
    intro j f hd hj hf
    obtain ⟨f, rfl⟩ : ∃ f', f = f' + 1 := ⟨f - 1, by omega⟩
    have hc : (m (it p j x) || ((List.range j).map fun i => it p i x).contains (it p j x)) = false := by
      rw [hm', Bool.false_or, Bool.eq_false_iff]
      simp only [ne_eq, List.contains_iff_mem, List.mem_map, List.mem_range, not_exists, not_and]
      exact fun i hi e => it_distinct h hx hi (by omega) e
    have hu : upd (fun y => m y || ((List.range j).map fun i => it p i x).contains y) (it p j x) = fun y => m y || ((List.range (j + 1)).map fun i => it p i x).contains y := by
      funext y
      simp only [upd, List.range_succ, List.map_append, List.map_cons, List.map_nil, List.contains_eq_mem, List.mem_append, List.mem_singleton]
      rw [Bool.eq_iff_iff]; simp only [Bool.or_eq_true, beq_iff_eq, decide_eq_true_eq]
      constructor
      · rintro (a | b | c); exact .inr (.inr a); exact .inl b; exact .inr (.inl c)
      · rintro (b | c | a); exact .inr (.inl b); exact .inr (.inr c); exact .inl a
    obtain ⟨g1, g2⟩ := ih (j + 1) f (by omega) (by omega) (by omega)
    simp only [cyc, cycMet, hc, Bool.false_eq_true, if_false, hu]
    have e : p (it p j x) = it p (j + 1) x := rfl
    rw [e, g1, g2]
    refine ⟨?_, rfl⟩
    rw [show per p x - j = (per p x - (j + 1)) + 1 from by omega, List.range'_succ, List.map_cons]

theorem cyc_orbit {p : Nat → Nat} {n x f : Nat} (h : Bij p n) (hx : x < n) (hf : n < f) (m : Nat → Bool) (hm : ∀ y, y < n → m (p y) = true → m y = true) (hmx : m x = false) :
    cyc p f m x = orbit p x ∧ cycMet p f m x = fun y => m y || (orbit p x).contains y := by
  have := cyc_gen h hx m hm hmx (per p x) 0 f (by omega) (by omega) (by have := (per_spec h hx).2.1; omega)
  simpa [it, orbit, List.range_eq_range'] using this

/-- the cycles of the numbers below k, and what has been met -/
def cycs (p : Nat → Nat) : Nat → List (List Nat)
  | 0 => []
  | k + 1 => if cyc p 17 (met p k) k = [] then cycs p k else cycs p k ++ [cyc p 17 (met p k) k]
where
  met (p : Nat → Nat) : Nat → Nat → Bool
    | 0 => fun _ => false
    | k + 1 => cycMet p 17 (met p k) k

open Classical in
/-- x is the least number of its cycle -/
noncomputable def head (p : Nat → Nat) (n x : Nat) : Bool := decide (∀ y, y < n → R p x y → x ≤ y)

theorem cycs_spec {p : Nat → Nat} {n : Nat} (h : Bij p n) (hn : n ≤ 16) : ∀ k, k ≤ n →
    cycs p k = ((List.range k).filter (head p n)).map (orbit p) ∧ ∀ y, cycs.met p k y = true ↔ ∃ x, x < k ∧ R p x y := by
  intro k
  induction k with
  | zero => intro _; exact ⟨rfl, fun y => by simp [cycs.met]⟩
  | succ k ih =>
    intro hk
    obtain ⟨h1, h2⟩ := ih (by omega)
    have hkn : k < n := by omega
    rcases hb : cycs.met p k k with _ | _
    · have hm : ∀ y, y < n → cycs.met p k (p y) = true → cycs.met p k y = true := by
        intro y hy hmy
        obtain ⟨x, hx, r⟩ := (h2 _).1 hmy
        exact (h2 _).2 ⟨x, hx, r.trans (R.symm h hy (R.step y))⟩
      obtain ⟨e1, e2⟩ := cyc_orbit h hkn (f := 17) (by omega) _ hm hb
      have hne : orbit p k ≠ [] := by
        intro e
        have : k ∈ orbit p k := (mem_orbit h hkn).2 (R.refl k)
        rw [e] at this; cases this
      have hhead : head p n k = true := by
        simp only [head, decide_eq_true_eq]
        intro y hy r
        refine Nat.le_of_not_lt fun c => ?_
        have := (h2 k).2 ⟨y, c, R.symm h hkn r⟩
        rw [hb] at this; cases this
      refine ⟨?_, fun y => ?_⟩
      · simp only [cycs, e1, if_neg hne, List.range_succ, List.filter_append, List.map_append, h1, List.filter_cons, hhead, if_true, List.filter_nil, List.map_cons, List.map_nil]
      · show cycMet p 17 (cycs.met p k) k y = true ↔ _
        rw [e2]
        simp only [Bool.or_eq_true, List.contains_iff_mem, h2, mem_orbit h hkn]
        constructor
        · rintro (⟨x, hx, r⟩ | r)
          · exact ⟨x, by omega, r⟩
          · exact ⟨k, by omega, r⟩
        · rintro ⟨x, hx, r⟩
          rcases Nat.lt_or_ge x k with c | c
          · exact .inl ⟨x, c, r⟩
          · obtain rfl : x = k := by omega
            exact .inr r
    · have ec : cyc p 17 (cycs.met p k) k = [] := by simp [cyc, hb]
      have em : cycMet p 17 (cycs.met p k) k = cycs.met p k := by simp [cycMet, hb]
      have hhead : head p n k = false := by
        rw [Bool.eq_false_iff]
        simp only [head, ne_eq, decide_eq_true_eq]
        intro c
        obtain ⟨x, hx, r⟩ := (h2 k).1 hb
        have := c x (by omega) (R.symm h (by omega) r)
        omega
      refine ⟨?_, fun y => ?_⟩
      · simp only [cycs, ec, if_true, List.range_succ, List.filter_append, h1, List.filter_cons, hhead, List.filter_nil, List.append_nil, Bool.false_eq_true, if_false]
      · show cycMet p 17 (cycs.met p k) k y = true ↔ _
        rw [em, h2]
        constructor
        · rintro ⟨x, hx, r⟩; exact ⟨x, by omega, r⟩
        · rintro ⟨x, hx, r⟩
          rcases Nat.lt_or_ge x k with c | c
          · exact ⟨x, c, r⟩
          · obtain rfl : x = k := by omega
            obtain ⟨z, hz, r'⟩ := (h2 x).1 hb
            exact ⟨z, hz, r'.trans r⟩

theorem cycs_length {p : Nat → Nat} {n : Nat} (h : Bij p n) (hn : n ≤ 16) : (cycs p n).length = orb p n := by
  rw [(cycs_spec h hn n (Nat.le_refl _)).1, List.length_map]
  rfl
theorem cycs_flat {p : Nat → Nat} {n : Nat} (h : Bij p n) (hn : n ≤ 16) : (cycs p n).flatten.Perm (List.range n) := by
  rw [(cycs_spec h hn n (Nat.le_refl _)).1]
  refine (List.perm_ext_iff_of_nodup ?_ List.nodup_range).2 ?_
  · rw [List.nodup_iff_pairwise_ne, List.pairwise_flatten]
    constructor
    · intro l hl
      obtain ⟨x, hx, rfl⟩ := List.mem_map.1 hl
      have hx := List.mem_range.1 (List.mem_filter.1 hx).1
      unfold orbit
      rw [List.pairwise_map]
      have := List.pairwise_lt_range (n := per p x)
      exact (List.Pairwise.imp_of_mem (fun {i j} _ hj hlt => it_distinct h hx hlt (List.mem_range.1 hj)) this)
    · rw [List.pairwise_map]
      have := (List.pairwise_lt_range (n := n)).filter (head p n)
      refine List.Pairwise.imp_of_mem ?_ this
      intro x y hx hy hlt z hz w hw e
      subst e
      have hxn := List.mem_range.1 (List.mem_filter.1 hx).1
      have hyn := List.mem_range.1 (List.mem_filter.1 hy).1
      have hh := (List.mem_filter.1 hy).2
      simp only [head, decide_eq_true_eq] at hh
      have := hh x hxn (((mem_orbit h hyn).1 hw).trans (R.symm h hxn ((mem_orbit h hxn).1 hz)))
      omega
  · intro y
    simp only [List.mem_flatten, List.mem_map, List.mem_filter, List.mem_range]
    constructor
    · rintro ⟨l, ⟨x, ⟨hx, _⟩, rfl⟩, hy⟩
      exact R.lt h hx ((mem_orbit h hx).1 hy)
    · intro hy
      obtain ⟨m, hm, r, hmin⟩ := h.eqv.leastOf hy
      have r' := R.symm h hy r
      refine ⟨_, ⟨m, ⟨hm, ?_⟩, rfl⟩, (mem_orbit h hm).2 r'⟩
      simp only [head, decide_eq_true_eq]
      exact fun z hz rz => hmin z hz (r.trans rz)

theorem cycs_sum {p : Nat → Nat} {n : Nat} (h : Bij p n) (hn : n ≤ 16) : ((cycs p n).map List.length).sum = n := by
  rw [← List.length_flatten, (cycs_flat h hn).length_eq, List.length_range]

theorem cycs_mem {p : Nat → Nat} {n : Nat} (h : Bij p n) (hn : n ≤ 16) {c : List Nat} (hc : c ∈ cycs p n) : ∃ x, x < n ∧ c = orbit p x := by
  rw [(cycs_spec h hn n (Nat.le_refl _)).1] at hc
  obtain ⟨x, hx, rfl⟩ := List.mem_map.1 hc
  exact ⟨x, List.mem_range.1 (List.mem_filter.1 hx).1, rfl⟩

theorem cycs_of {p : Nat → Nat} {n : Nat} (h : Bij p n) (hn : n ≤ 16) {y : Nat} (hy : y < n) : ∃ x, x < n ∧ orbit p x ∈ cycs p n ∧ R p x y := by
  have : y ∈ (cycs p n).flatten := (cycs_flat h hn).mem_iff.2 (List.mem_range.2 hy)
  obtain ⟨c, hc, hyc⟩ := List.mem_flatten.1 this
  obtain ⟨x, hx, rfl⟩ := cycs_mem h hn hc
  exact ⟨x, hx, hc, (mem_orbit h hx).1 hyc⟩

theorem orbit_length (p : Nat → Nat) (x : Nat) : (orbit p x).length = per p x := by simp [orbit]

theorem per_of_R {p : Nat → Nat} {n x y : Nat} (h : Bij p n) (hx : x < n) (r : R p x y) : per p y = per p x := by
  have hy := r.lt h hx
  obtain ⟨k, rfl⟩ := r
  have key : ∀ m, it p m (it p k x) = it p k x ↔ it p m x = x := by
    intro m
    rw [← it_add, Nat.add_comm, it_add]
    exact ⟨fun e => h.it_inj k (h.it_lt _ hx) hx e, fun e => by rw [e]⟩
  have a := (it_back h hx (k := per p (it p k x))).1 ((key _).1 (per_spec h hy).2.2.1)
  have b := (it_back h hy (k := per p x)).1 ((key _).2 (per_spec h hx).2.2.1)
  exact Nat.dvd_antisymm b a

/-- the lengths of the cycles -/
def lens (p : Nat → Nat) (n : Nat) : List Nat := (cycs p n).map List.length

theorem lens_pos {p : Nat → Nat} {n : Nat} (h : Bij p n) (hn : n ≤ 16) {l : Nat} (hl : l ∈ lens p n) : 1 ≤ l ∧ l ≤ n := by
  obtain ⟨c, hc, rfl⟩ := List.mem_map.1 hl
  obtain ⟨x, hx, rfl⟩ := cycs_mem h hn hc
  rw [orbit_length]
  have := per_spec h hx
  omega

/-- k steps lead all numbers to themselves exactly if k is a multiple of all lengths -/
theorem it_all {p : Nat → Nat} {n k : Nat} (h : Bij p n) (hn : n ≤ 16) : (∀ x, x < n → it p k x = x) ↔ ∀ l ∈ lens p n, l ∣ k := by
  constructor
  · intro e l hl
    obtain ⟨c, hc, rfl⟩ := List.mem_map.1 hl
    obtain ⟨x, hx, rfl⟩ := cycs_mem h hn hc
    rw [orbit_length]
    exact (it_back h hx).1 (e x hx)
  · intro d y hy
    obtain ⟨x, hx, hc, r⟩ := cycs_of h hn hy
    rw [it_back h hy, per_of_R h hx r, ← orbit_length]
    exact d _ (List.mem_map.2 ⟨_, hc, rfl⟩)

/-- the least common multiple of a list -/
def lcms (l : List Nat) : Nat := l.foldl Nat.lcm 1
theorem foldl_lcm_dvd (l : List Nat) : ∀ a k, l.foldl Nat.lcm a ∣ k ↔ a ∣ k ∧ ∀ x ∈ l, x ∣ k := by
  induction l with
  | nil => intro a k; simp
  | cons x l ih =>
    intro a k
    rw [List.foldl_cons, ih]
    constructor
    · rintro ⟨h1, h2⟩
      refine ⟨Nat.dvd_trans (Nat.dvd_lcm_left _ _) h1, fun y hy => ?_⟩
      rcases List.mem_cons.1 hy with rfl | c
      · exact Nat.dvd_trans (Nat.dvd_lcm_right _ _) h1
      · exact h2 y c
    · rintro ⟨h1, h2⟩
      exact ⟨Nat.lcm_dvd h1 (h2 x (by simp)), fun y hy => h2 y (by simp [hy])⟩
theorem lcms_dvd (l : List Nat) (k : Nat) : lcms l ∣ k ↔ ∀ x ∈ l, x ∣ k := by unfold lcms; rw [foldl_lcm_dvd]; simp

theorem foldl_lcm_pos (l : List Nat) : ∀ a, 0 < a → (∀ x ∈ l, 0 < x) → 0 < l.foldl Nat.lcm a := by
  induction l with
  | nil => intro a h _; exact h
  | cons x l ih => intro a h hx; exact ih _ (Nat.lcm_pos h (hx x (by simp))) fun y hy => hx y (by simp [hy])
theorem foldl_lcm_le (l : List Nat) : ∀ a, (∀ x ∈ l, 0 < x) → l.foldl Nat.lcm a ≤ a * 2 ^ l.sum := by
  induction l with
  | nil => intro a _; simp
  | cons x l ih =>
    intro a hx
    rw [List.foldl_cons]
    refine Nat.le_trans (ih _ fun y hy => hx y (by simp [hy])) ?_
    have h1 : Nat.lcm a x ≤ a * x := Nat.div_le_self _ _
    have h2 : x ≤ 2 ^ x := Nat.le_of_lt Nat.lt_two_pow_self
    rw [List.sum_cons, Nat.pow_add, ← Nat.mul_assoc]
    exact Nat.mul_le_mul_right _ (Nat.le_trans h1 (Nat.mul_le_mul_left _ h2))
theorem lcms_pos {p : Nat → Nat} {n : Nat} (h : Bij p n) (hn : n ≤ 16) : 0 < lcms (lens p n) := foldl_lcm_pos _ 1 (by omega) fun _ hl => (lens_pos h hn hl).1
theorem lcms_le {p : Nat → Nat} {n : Nat} (h : Bij p n) (hn : n ≤ 16) : lcms (lens p n) ≤ 65536 := by
  have := foldl_lcm_le (lens p n) 1 fun _ hl => (lens_pos h hn hl).1
  have e : (lens p n).sum = n := cycs_sum h hn
  rw [e, Nat.one_mul] at this
  exact Nat.le_trans this (Nat.le_trans (Nat.pow_le_pow_right (by omega) hn) (by decide))

/-- the order: the least number of steps, at least 1, that leads all to themselves -/
theorem order_spec {p : Nat → Nat} {n : Nat} (h : Bij p n) (hn : n ≤ 16) {k : Nat} (h0 : 0 < k) (hk : ∀ x, x < n → it p k x = x) (hmin : ∀ j, 0 < j → j < k → ¬ ∀ x, x < n → it p j x = x) :
    k = lcms (lens p n) := by
  have d : lcms (lens p n) ∣ k := (lcms_dvd _ _).2 ((it_all h hn).1 hk)
  have hp := lcms_pos h hn
  have hle := Nat.le_of_dvd h0 d
  rcases Nat.lt_or_ge (lcms (lens p n)) k with c | c
  · exact absurd ((it_all h hn).2 ((lcms_dvd _ _).1 (Nat.dvd_refl _))) (hmin _ hp c)
  · omega
theorem order_all {p : Nat → Nat} {n : Nat} (h : Bij p n) (hn : n ≤ 16) {x : Nat} (hx : x < n) : it p (lcms (lens p n)) x = x :=
  (it_all h hn).2 ((lcms_dvd _ _).1 (Nat.dvd_refl _)) x hx

/-- sorted in descending order -/
def sortD (l : List Nat) : List Nat := l.mergeSort (fun a b => decide (b ≤ a))
theorem sortD_perm (l : List Nat) : (sortD l).Perm l := List.mergeSort_perm _ _
theorem sortD_pairwise (l : List Nat) : (sortD l).Pairwise (fun a b => b ≤ a) := by
  have := List.pairwise_mergeSort (le := fun a b : Nat => decide (b ≤ a)) (by intro a b c; simp; omega) (by intro a b; simp; omega) l
  exact this.imp (by simp)
theorem sortD_unique {l m : List Nat} (hp : m.Perm l) (hs : m.Pairwise (fun a b => b ≤ a)) : m = sortD l :=
  List.Perm.eq_of_pairwise (le := fun a b => b ≤ a) (fun a b _ _ h1 h2 => by omega) hs (sortD_pairwise l) (hp.trans (sortD_perm l).symm)

/-- the counting sort of the numbers k, k - 1, .., 1 -/
def countD (l : List Nat) : Nat → List Nat
  | 0 => []
  | k + 1 => List.replicate (l.count (k + 1)) (k + 1) ++ countD l k
theorem mem_countD {l : List Nat} {k x : Nat} (h : x ∈ countD l k) : x ≤ k := by
  induction k with
  | zero => cases h
  | succ k ih =>
    rcases List.mem_append.1 h with c | c
    · have := (List.mem_replicate.1 c).2; omega
    · have := ih c; omega
theorem countD_count (l : List Nat) (k x : Nat) : (countD l k).count x = if 1 ≤ x ∧ x ≤ k then l.count x else 0 := by
  induction k with
  | zero => simp only [countD, List.count_nil]; rw [if_neg (by omega)]
  | succ k ih =>
    rw [countD, List.count_append, ih, List.count_replicate]
    by_cases c : k + 1 = x
    · subst c
      rw [if_pos (by simp), if_neg (by omega), if_pos (by omega)]; rfl
    · rw [if_neg (by simpa using c)]
      by_cases d : 1 ≤ x ∧ x ≤ k
      · rw [if_pos d, if_pos (by omega)]; omega
      · rw [if_neg d, if_neg (by omega)]
theorem countD_sort {l : List Nat} {k : Nat} (h : ∀ x ∈ l, 1 ≤ x ∧ x ≤ k) : countD l k = sortD l := by
  refine sortD_unique ?_ ?_
  · rw [List.perm_iff_count]
    intro x
    rw [countD_count]
    by_cases d : 1 ≤ x ∧ x ≤ k
    · rw [if_pos d]
    · rw [if_neg d]
      exact (List.count_eq_zero.2 fun hx => d (h x hx)).symm
  · clear h
    induction k with
    | zero => exact List.Pairwise.nil
    | succ k ih =>
      rw [countD, List.pairwise_append]
      refine ⟨?_, ih, ?_⟩
      · rw [List.pairwise_replicate]; right; exact Nat.le_refl _
      · intro a ha b hb
        have := (List.mem_replicate.1 ha).2
        have := mem_countD hb
        omega
/-- the search for what can be reached: the list in the order of finding, and what has been found -/
def badd (s : List Nat × (Nat → Bool)) (y : Nat) : List Nat × (Nat → Bool) := if s.2 y = true then s else (s.1 ++ [y], upd s.2 y)
def bfs (p q : Nat → Nat) (z : Nat) : Nat → List Nat × (Nat → Bool)
  | 0 => ([z], upd (fun _ => false) z)
  | i + 1 => match (bfs p q z i).1[i]? with
    | none => bfs p q z i
    | some x => badd (badd (bfs p q z i) (p x)) (q x)

structure BInv (n : Nat) (s : List Nat × (Nat → Bool)) : Prop where
  nodup : s.1.Nodup
  lt : ∀ x ∈ s.1, x < n
  mem : ∀ x, s.2 x = true ↔ x ∈ s.1
theorem BInv.add {n : Nat} {s : List Nat × (Nat → Bool)} (h : BInv n s) {y : Nat} (hy : y < n) : BInv n (badd s y) := by
  unfold badd
  by_cases c : s.2 y = true
  · rw [if_pos c]; exact h
  · rw [if_neg c]
    have hn : y ∉ s.1 := fun e => c ((h.mem y).2 e)
    refine ⟨?_, ?_, ?_⟩
    · rw [List.nodup_append]
      exact ⟨h.nodup, by simp, fun a ha b hb e => by simp at hb; subst e; subst hb; exact hn ha⟩
    · intro x hx
      rcases List.mem_append.1 hx with d | d
      · exact h.lt x d
      · simp at d; omega
    · intro x
      simp only [upd, Bool.or_eq_true, beq_iff_eq, h.mem, List.mem_append, List.mem_singleton]
      exact Or.comm
theorem bfs_inv {p q : Nat → Nat} {n : Nat} (hp : ∀ x, x < n → p x < n) (hq : ∀ x, x < n → q x < n) {z : Nat} (hz : z < n) (i : Nat) : BInv n (bfs p q z i) := by
  induction i with
  | zero =>
    refine ⟨by simp [bfs], by simpa [bfs] using hz, fun x => by simp [bfs, upd]⟩
  | succ i ih =>
    rw [bfs]
    rcases e : (bfs p q z i).1[i]? with _ | x
    · exact ih
    · have hx := ih.lt x (List.mem_of_getElem? e)
      exact (ih.add (hp x hx)).add (hq x hx)
theorem nodup_le : ∀ (l : List Nat) (m : List Nat), l.Nodup → (∀ x ∈ l, x ∈ m) → l.length ≤ m.length := by
  intro l
  induction l with
  | nil => intro m _ _; simp
  | cons x l ih =>
    intro m hn hm
    have hn' := List.nodup_cons.1 hn
    have hx : x ∈ m := hm x (by simp)
    have := ih (m.erase x) hn'.2 fun y hy => by
      exact (List.mem_erase_of_ne (fun e => hn'.1 (by rw [← e]; exact hy))).2 (hm y (by simp [hy]))
    rw [List.length_erase_of_mem hx] at this
    have : 0 < m.length := List.length_pos_of_mem hx
    simp only [List.length_cons]; omega
theorem BInv.length_le {n : Nat} {s : List Nat × (Nat → Bool)} (h : BInv n s) : s.1.length ≤ n := by
  have : ∀ (l : List Nat) (m : List Nat), l.Nodup → (∀ x ∈ l, x ∈ m) → l.length ≤ m.length := by
    intro l
    induction l with
    | nil => intro m _ _; simp
    | cons x l ih =>
      intro m hn hm
      have hn' := List.nodup_cons.1 hn
      have hx : x ∈ m := hm x (by simp)
      have := ih (m.erase x) hn'.2 fun y hy => by
        exact (List.mem_erase_of_ne (fun e => hn'.1 (by rw [← e]; exact hy))).2 (hm y (by simp [hy]))
      rw [List.length_erase_of_mem hx] at this
      have : 0 < m.length := List.length_pos_of_mem hx
      simp only [List.length_cons]; omega
  have := this s.1 (List.range n) h.nodup fun x hx => List.mem_range.2 (h.lt x hx)
  simpa using this
theorem badd_le (s : List Nat × (Nat → Bool)) (y : Nat) : s.1 <+: (badd s y).1 := by
  unfold badd; split
  · exact List.prefix_refl _
  · exact List.prefix_append _ _
theorem bfs_pre (p q : Nat → Nat) (z i : Nat) : (bfs p q z i).1 <+: (bfs p q z (i + 1)).1 := by
  rw [bfs]
  split
  · exact List.prefix_refl _
  · exact (badd_le _ _).trans (badd_le _ _)
theorem bfs_pre' (p q : Nat → Nat) (z : Nat) {i j : Nat} (h : i ≤ j) : (bfs p q z i).1 <+: (bfs p q z j).1 := by
  induction j with
  | zero => obtain rfl : i = 0 := by omega
            exact List.prefix_refl _
  | succ j ih =>
    rcases Nat.lt_or_ge j i with c | c
    · obtain rfl : i = j + 1 := by omega
      exact List.prefix_refl _
    · exact (ih c).trans (bfs_pre p q z j)
/-- behind the end of the list nothing turns any more -/
theorem bfs_stop {p q : Nat → Nat} {z i : Nat} (h : (bfs p q z i).1.length ≤ i) {j : Nat} (hj : i ≤ j) : bfs p q z j = bfs p q z i := by
  induction j with
  | zero => obtain rfl : i = 0 := by omega
            rfl
  | succ j ih =>
    rcases Nat.lt_or_ge j i with c | c
    · obtain rfl : i = j + 1 := by omega
      rfl
    · rw [bfs, ih c, List.getElem?_eq_none (by omega)]
/-- all that is found hangs together with 0 -/
theorem bfs_both {p q : Nat → Nat} {n : Nat} (hp : ∀ x, x < n → p x < n) (hq : ∀ x, x < n → q x < n) {u : Nat} (h0 : u < n) (i : Nat) : ∀ x ∈ (bfs p q u i).1, Both p q n u x := by
  induction i with
  | zero => intro x hx; simp [bfs] at hx; subst hx; exact (Both.eqv p q n).refl _ h0
  | succ i ih =>
    rw [bfs]
    rcases e : (bfs p q u i).1[i]? with _ | z
    · exact ih
    · have hm := List.mem_of_getElem? e
      have hz := (bfs_inv hp hq h0 i).lt z hm
      have E := Both.eqv p q n
      have add : ∀ (s : List Nat × (Nat → Bool)) (y : Nat), (∀ x ∈ s.1, Both p q n u x) → Both p q n u y → ∀ x ∈ (badd s y).1, Both p q n u x := by
        intro s y hs hy x hx
        unfold badd at hx
        split at hx
        · exact hs x hx
        · rcases List.mem_append.1 hx with c | c
          · exact hs x c
          · simp at c; subst c; exact hy
      exact add _ _ (add _ _ ih (E.trans _ _ _ h0 hz (hp z hz) (ih z hm) (Both.left p q n hz))) (E.trans _ _ _ h0 hz (hq z hz) (ih z hm) (Both.right p q n hz))

/-- all numbers can be reached -/
def conn (p q : Nat → Nat) (n : Nat) : Prop := (bfs p q 0 16).1.length = n
theorem conn_all {p q : Nat → Nat} {n : Nat} (hp : ∀ x, x < n → p x < n) (hq : ∀ x, x < n → q x < n) (h0 : 0 < n) (hc : conn p q n) : ∀ x, x < n → Both p q n 0 x := by
  intro x hx
  have I := bfs_inv hp hq h0 16
  refine bfs_both hp hq h0 16 x ?_
  refine Classical.byContradiction fun hn => ?_
  have : BInv n ((bfs p q 0 16).1 ++ [x], upd (bfs p q 0 16).2 x) := by
    have := I.add hx
    unfold badd at this
    rwa [if_neg fun e => hn ((I.mem x).1 e)] at this
  have := this.length_le
  unfold conn at hc
  simp at this; omega
theorem conn_cl {p q : Nat → Nat} {n : Nat} (hp : ∀ x, x < n → p x < n) (hq : ∀ x, x < n → q x < n) (h0 : 0 < n) (hc : conn p q n) : cl (Both p q n) n = 1 := by
  classical
  have ha := conn_all hp hq h0 hc
  unfold cl
  have : (List.range n).filter (fun x => decide (∀ y, y < n → Both p q n x y → x ≤ y)) = (List.range n).filter (fun x => x == 0) := by
    apply List.filter_congr
    intro x hx
    have hx := List.mem_range.1 hx
    rw [Bool.eq_iff_iff]
    simp only [decide_eq_true_eq, beq_iff_eq]
    constructor
    · intro k
      have := k 0 h0 ((Both.eqv p q n).symm _ _ h0 hx (ha x hx))
      omega
    · rintro rfl; intro _ _ _; omega
  rw [this]
  have e : List.range n = 0 :: (List.range' 1 (n - 1)) := by
    rw [List.range_eq_range']
    obtain ⟨m, rfl⟩ : ∃ m, n = m + 1 := ⟨n - 1, by omega⟩
    rw [List.range'_succ]; rfl
  rw [e, List.filter_cons_of_pos (by simp)]
  have : (List.range' 1 (n - 1)).filter (fun x => x == 0) = [] := by
    rw [List.filter_eq_nil_iff]
    intro x hx
    have := (List.mem_range'_1.1 hx).1
    simp; omega
  rw [this]; rfl

/-- what is found is closed under steps -/
theorem bfs_closed {p q : Nat → Nat} {n : Nat} (hp : ∀ x, x < n → p x < n) (hq : ∀ x, x < n → q x < n) (hn : n ≤ 16) {z : Nat} (hz : z < n) {y : Nat} (hy : y ∈ (bfs p q z 16).1) : p y ∈ (bfs p q z 16).1 ∧ q y ∈ (bfs p q z 16).1 := by
  obtain ⟨k, hk, e⟩ := List.getElem_of_mem hy
  have hl := (bfs_inv hp hq hz 16).length_le
  have h1 : ¬ (bfs p q z k).1.length ≤ k := fun c => by
    have := bfs_stop c (j := 16) (by omega)
    rw [this] at hk; omega
  have hpre := bfs_pre' p q z (show k ≤ 16 by omega)
  have hke : (bfs p q z k).1[k]? = some y := by
    obtain ⟨t, ht⟩ := hpre
    have : (bfs p q z 16).1[k]? = some y := by rw [List.getElem?_eq_getElem hk, e]
    rw [← ht, List.getElem?_append_left (by omega)] at this
    exact this
  have hs : bfs p q z (k + 1) = badd (badd (bfs p q z k) (p y)) (q y) := by rw [bfs, hke]
  have hsub := bfs_pre' p q z (show k + 1 ≤ 16 by omega)
  have I := bfs_inv hp hq hz k
  have hyn : y < n := I.lt y (List.mem_of_getElem? hke)
  have mem_badd : ∀ (s : List Nat × (Nat → Bool)) (x : Nat), BInv n s → x < n → x ∈ (badd s x).1 := by
    intro s x hs hx
    unfold badd
    by_cases c : s.2 x = true
    · rw [if_pos c]; exact (hs.mem x).1 c
    · rw [if_neg c]; simp
  have I1 := I.add (hp y hyn)
  have m1 : p y ∈ (bfs p q z (k + 1)).1 := by rw [hs]; exact (badd_le _ _).subset (mem_badd _ _ I (hp y hyn))
  have m2 : q y ∈ (bfs p q z (k + 1)).1 := by rw [hs]; exact mem_badd _ _ I1 (hq y hyn)
  exact ⟨hsub.subset m1, hsub.subset m2⟩
/-- in a dessin all is found from each number -/
theorem bfs_full {p q : Nat → Nat} {n : Nat} (hp : Bij p n) (hq : Bij q n) (hn : n ≤ 16) (hc : conn p q n) {z : Nat} (hz : z < n) : (bfs p q z 16).1.length = n := by
  have I := bfs_inv hp.1 hq.1 hz 16
  have cl : ∀ y, y < n → y ∈ (bfs p q z 16).1 → p y ∈ (bfs p q z 16).1 ∧ q y ∈ (bfs p q z 16).1 := fun y _ h => bfs_closed hp.1 hq.1 hn hz h
  have itm : ∀ (f : Nat → Nat), Bij f n → (∀ y, y < n → y ∈ (bfs p q z 16).1 → f y ∈ (bfs p q z 16).1) → ∀ y, y < n → (y ∈ (bfs p q z 16).1 ↔ f y ∈ (bfs p q z 16).1) := by
    intro f hf hcl y hy
    refine ⟨hcl y hy, fun h => ?_⟩
    obtain ⟨L, h0, _, h2⟩ := hf.period hy
    have all : ∀ j, it f j (f y) ∈ (bfs p q z 16).1 := by
      intro j
      induction j with
      | zero => exact h
      | succ j ih => exact hcl _ (hf.it_lt j (hf.1 y hy)) ih
    have := all (L - 1)
    rwa [← it_succ', show L - 1 + 1 = L from by omega, h2] at this
  let E : Nat → Nat → Prop := fun a b => a ∈ (bfs p q z 16).1 ↔ b ∈ (bfs p q z 16).1
  have hE : Eqv E n := ⟨fun _ _ => Iff.rfl, fun _ _ _ _ h => h.symm, fun _ _ _ _ _ _ h1 h2 => h1.trans h2⟩
  have hall := fun x hx => conn_all hp.1 hq.1 (by omega) hc x hx E hE (fun y hy => itm p hp (fun y hy h => (cl y hy h).1) y hy) (fun y hy => itm q hq (fun y hy h => (cl y hy h).2) y hy)
  have hz0 : z ∈ (bfs p q z 16).1 := (bfs_pre' p q z (show 0 ≤ 16 by omega)).subset (by simp [bfs])
  have h0 : 0 ∈ (bfs p q z 16).1 := (hall z hz).2 hz0
  have h1 := nodup_le (List.range n) (bfs p q z 16).1 List.nodup_range fun x hx => (hall x (List.mem_range.1 hx)).1 h0
  have h2 := I.length_le
  simp at h1; omega

/-- the permutation that leads back -/
theorem orb_inv {p q : Nat → Nat} {n : Nat} (hp : Bij p n) (hq : Bij q n) (e : ∀ x, x < n → q (p x) = x) : orb q n = orb p n := by
  have key : ∀ (p q : Nat → Nat), Bij p n → Bij q n → (∀ x, x < n → q (p x) = x) → ∀ x y, x < n → R p x y → R q y x := by
    intro p q hp hq e x y hx r
    obtain ⟨k, rfl⟩ := r
    induction k with
    | zero => exact R.refl _
    | succ k ih => exact R.trans ⟨1, e _ (hp.it_lt k hx)⟩ ih
  have e' : ∀ y, y < n → p (q y) = y := fun y hy => hq.2 _ _ (hp.1 _ (hq.1 y hy)) hy (e _ (hq.1 y hy))
  refine cl_congr fun x y hx hy => ⟨fun r => ?_, fun r => ?_⟩
  · exact R.symm hp hy (key q p hq hp e' x y hx r)
  · exact R.symm hq hy (key p q hp hq e x y hx r)

/-- the Euler number of a dessin is even and at most 2 -/
theorem euler_dessin {p q f : Nat → Nat} {n : Nat} (hp : Bij p n) (hq : Bij q n) (hf : Bij f n) (h0 : 0 < n) (hc : conn p q n) (e : ∀ x, x < n → f (q (p x)) = x) :
    (orb p n + orb q n + orb f n + n) % 2 = 0 ∧ orb p n + orb q n + orb f n ≤ n + 2 := by
  have hb := euler_bound n q hq (n - orb p n) p hp rfl
  have e1 : orb f n = orb (fun x => q (p x)) n := orb_inv (hp.comp hq) hf e
  have hc' : cl (Both q p n) n = 1 := by
    rw [← conn_cl hp.1 hq.1 h0 hc]
    exact cl_congr fun x y _ _ => ⟨fun r E a b c => r E a c b, fun r E a b c => r E a c b⟩
  rw [hc'] at hb
  rw [e1]; omega
end Go.Proofs.Ytpkfjdaedaplfaa

namespace Go.Proofs.Ytpkfjdaedaplfaa
open Go.RowKit

/-- numbers as cells -/
def nums (l : List Nat) : List Value := l.map fun (x : Nat) => Value.int .i64 (x : Int)
/-- a list of numbers in a row of its own from block B on -/
def Own1 (B : Nat) (w : World) (v : Value) (l : List Nat) : Prop := w.ownsRow B 2 1 v l.length (nums l)
/-- a list of such lists, each in a row of its own -/
def Own2 (B : Nat) (w : World) (v : Value) (ls : List (List Nat)) : Prop :=
  ∃ vs : List Value, vs.length = ls.length ∧ w.ownsRow B 79 1 v vs.length vs ∧ (∀ (i : Nat) (u : Value) (l : List Nat), vs[i]? = some u → ls[i]? = some l → Own1 B w u l) ∧
    ∀ (i j : Nat) (u u' : Value), i < j → vs[i]? = some u → vs[j]? = some u' → u.ownBlock = none ∨ u.ownBlock ≠ u'.ownBlock

theorem grown_refl (w : World) (r : Option Nat) : w.grownBy w r := ⟨rfl, rfl, rfl, Nat.le_refl _, fun _ _ _ => rfl⟩
theorem grown_drew {a w : World} {r : Option Nat} (h : a.grownBy w r) : a.grownBy w.drew r := ⟨h.os, h.tape, h.output, h.size, h.block⟩
theorem grown_alloc {a w : World} {r : Option Nat} (h : a.grownBy w r) (o : Obj) : a.grownBy (w.alloc o) r :=
  ⟨h.os, h.tape, h.output, by have := h.size; simp; omega, fun k hk hr => (Below.heap_alloc w o k (by have := h.size; omega)).trans (h.block k hk hr)⟩
/-- one step more, whose row is new or the same -/
theorem grown_step {a w w' : World} {r s : Option Nat} (h : a.grownBy w r) (k : w.grownBy w' s) (hs : ∀ g, s = some g → a.heap.size ≤ g ∨ r = some g) : a.grownBy w' r :=
  ⟨k.os.trans h.os, k.tape.trans h.tape, k.output.trans h.output, Nat.le_trans h.size k.size, fun g hg hr =>
    (k.block g (by have := h.size; omega) (fun e => by rcases hs g e.symm with c | c; omega; exact hr c.symm)).trans (h.block g hg hr)⟩
theorem grown_setCell {a w : World} {g i : Nat} {v : Value} (h : a.grownBy w (some g)) : a.grownBy (w.setCell ⟨g, i, none⟩ v) (some g) :=
  ⟨h.os, h.tape, h.output, by have := h.size; simpa using this, fun k hk hr => (Below.heap_setCell w ⟨g, i, none⟩ v k (fun e => hr (by rw [e]))).trans (h.block k hk hr)⟩
theorem grown_of_below {w w' : World} (h : Below w.heap.size w w') (r : Option Nat) : w.grownBy w' r := ⟨h.os, h.tape, h.output, h.size, fun k hk _ => h.block k hk⟩

theorem grown_cells {a b : World} {r : Option Nat} {g : Nat} (h : a.grownBy b r) (hg : g < a.heap.size) (hr : some g ≠ r) : cellsOf b g = cellsOf a g := by unfold cellsOf; rw [h.block g hg hr]
theorem grown_row {a b : World} {r : Option Nat} {g n : Nat} (h : a.grownBy b r) (hg : g < a.heap.size) (hr : some g ≠ r) : rowOk b g n ↔ rowOk a g n := by unfold rowOk; rw [h.block g hg hr]
theorem below_grown {B : Nat} {w0 a b : World} {r : Option Nat} (h : Below B w0 a) (hg : a.grownBy b r) (hB : B ≤ a.heap.size) (hr : ∀ g, r = some g → B ≤ g) : Below B w0 b := h.grown hg hB hr
/-- the one cell that was made last -/
theorem one_new (w : World) (v : Value) (t : TypeId) (g : Nat) (hg : g = w.heap.size) : ∀ (j : Nat) (u : Value), [v][j]? = some u → (w.alloc (.cells #[v] t)).cell? ((⟨g, 0, none⟩ : Addr).add j) = some u := by
  intro j u h
  rcases j with _ | j
  · simp at h; subst h
    rw [show ((⟨g, 0, none⟩ : Addr).add 0) = ⟨g, 0, none⟩ from rfl, cell_of_cells, cellsOf_at hg]; rfl
  · simp at h
/-- what owns a row is a slice -/
theorem own_slice {w : World} {B : Nat} {e : TypeId} {s n : Nat} {v : Value} {xs : List Value} (h : w.ownsRow B e s v n xs) : ∃ A c, v = .slice A n c := by
  rcases h.2 with ⟨rfl, rfl⟩ | ⟨g, cap, cur, rfl, _⟩
  · exact ⟨_, _, rfl⟩
  · exact ⟨_, _, rfl⟩
theorem Own1.kept {B : Nat} {w w' : World} {v : Value} {l : List Nat} {r : Option Nat} (h : Own1 B w v l) (hg : w.grownBy w' r) (hne : v.ownBlock = none ∨ v.ownBlock ≠ r) : Own1 B w' v l := World.ownsRow.kept h hg hne
theorem Own1.mono {B B' : Nat} {w : World} {v : Value} {l : List Nat} (h : Own1 B w v l) (hB : B' ≤ B) : Own1 B' w v l := by
  refine ⟨h.1, ?_⟩
  rcases h.2 with h | ⟨g, cap, cur, h1, h2, h3⟩
  · exact .inl h
  · exact .inr ⟨g, cap, cur, h1, by omega, h3⟩
theorem Own1.nil (B : Nat) (w : World) : Own1 B w (.slice none 0 0) [] := World.ownsRow_nil _ _ _ _
/-- rows of different elements are different blocks -/
theorem own_ne {B B' : Nat} {w : World} {e e' : TypeId} {s s' n n' : Nat} {v v' : Value} {xs xs' : List Value} (h : w.ownsRow B e s v n xs) (h' : w.ownsRow B' e' s' v' n' xs') (hne : e ≠ e') : v.ownBlock = none ∨ v.ownBlock ≠ v'.ownBlock := by
  rcases h.2 with ⟨rfl, _⟩ | ⟨g, cap, cur, rfl, _, hh, _⟩
  · exact .inl rfl
  · refine .inr fun e => ?_
    rcases h'.2 with ⟨rfl, _⟩ | ⟨g', cap', cur', rfl, _, hh', _⟩
    · cases e
    · have : g = g' := by simpa [Value.ownBlock] using e
      subst this
      rw [hh] at hh'
      simp at hh'
      exact hne hh'.2
theorem Own2.kept {B : Nat} {w w' : World} {v : Value} {ls : List (List Nat)} {r : Option Nat} (h : Own2 B w v ls) (hg : w.grownBy w' r) (hr : ∀ g, r = some g → g < B) : Own2 B w' v ls := by
  obtain ⟨vs, hl, ho, hi, hd⟩ := h
  have far : ∀ {e : TypeId} {s n : Nat} {u : Value} {xs : List Value}, w.ownsRow B e s u n xs → u.ownBlock = none ∨ u.ownBlock ≠ r := by
    intro e s n u xs hu
    rcases hb : u.ownBlock with _ | k
    · exact .inl rfl
    · refine .inr fun e => ?_
      have := hr k e.symm
      have := hu.lt k hb
      omega
  exact ⟨vs, hl, ho.kept hg (far ho), fun i u l h1 h2 => (hi i u l h1 h2).kept hg (far (hi i u l h1 h2)), hd⟩
theorem Own2.nil (B : Nat) (w : World) : Own2 B w (.slice none 0 0) [] := ⟨[], rfl, World.ownsRow_nil _ _ _ _, fun i u l h => by simp at h, fun i j u u' _ h => by simp at h⟩
/-- one list more -/
theorem Own2.add {B C : Nat} {w w' : World} {v v' u : Value} {ls : List (List Nat)} {l : List Nat} {vs : List Value} (hl : vs.length = ls.length) (ho : w.ownsRow B 79 1 v vs.length vs)
    (hi : ∀ (i : Nat) (u : Value) (l : List Nat), vs[i]? = some u → ls[i]? = some l → Own1 B w u l) (hd : ∀ (i j : Nat) (u u' : Value), i < j → vs[i]? = some u → vs[j]? = some u' → u.ownBlock = none ∨ u.ownBlock ≠ u'.ownBlock)
    (hu : Own1 C w u l) (hBC : B ≤ C) (hC : ∀ (i : Nat) (x : Value), vs[i]? = some x → ∀ g, x.ownBlock = some g → g < C)
    (ho' : w'.ownsRow B 79 1 v' (vs.length + 1) (vs ++ [u])) (hg : w.grownBy w' v.ownBlock) : Own2 B w' v' (ls ++ [l]) := by
  have k1 : ∀ (i : Nat) (x : Value) (m : List Nat), vs[i]? = some x → ls[i]? = some m → Own1 B w' x m := fun i x m h1 h2 => (hi i x m h1 h2).kept hg (own_ne (hi i x m h1 h2) ho (by decide))
  have k2 : Own1 C w' u l := hu.kept hg (own_ne hu ho (by decide))
  refine ⟨vs ++ [u], by simp [hl], by simpa using ho', ?_, ?_⟩
  · intro i x m h1 h2
    rcases Nat.lt_or_ge i vs.length with c | c
    · rw [List.getElem?_append_left c] at h1
      rw [List.getElem?_append_left (by omega)] at h2
      exact k1 i x m h1 h2
    · rw [List.getElem?_append_right c] at h1
      rw [List.getElem?_append_right (by omega)] at h2
      rw [hl] at h1
      rcases hz : i - ls.length with _ | z
      · rw [hz] at h1 h2; simp at h1 h2; subst h1 h2; exact k2.mono hBC
      · rw [hz] at h1; simp at h1
  · intro i j x x' hij h1 h2
    rcases Nat.lt_or_ge j vs.length with c | c
    · rw [List.getElem?_append_left (by omega)] at h1
      rw [List.getElem?_append_left c] at h2
      exact hd i j x x' hij h1 h2
    · rw [List.getElem?_append_right c] at h2
      have hj : j - vs.length = 0 := by
        rcases hz : j - vs.length with _ | z
        · rfl
        · rw [hz] at h2; simp at h2
      have hjl : j = vs.length := by omega
      subst hjl
      simp at h2; subst h2
      rw [List.getElem?_append_left hij] at h1
      rcases hx : x.ownBlock with _ | g
      · exact .inl rfl
      · refine .inr fun e => ?_
        have a := hC i x h1 g hx
        have b := World.ownsRow.lt hu g e.symm
        omega
/-- a row is no block of another kind -/
theorem own_ne_blk {B : Nat} {w : World} {e t : TypeId} {s n g : Nat} {v : Value} {xs : List Value} {cs : Array Value} {fr : Nat × Nat} (h : w.ownsRow B e s v n xs) (hg : w.heap[g]? = some (.cells cs t fr)) (hne : e ≠ t) : v.ownBlock = none ∨ v.ownBlock ≠ some g := by
  rcases h.2 with ⟨rfl, _⟩ | ⟨g', cap, cur, rfl, _, hh, _⟩
  · exact .inl rfl
  · refine .inr fun e => ?_
    have : g' = g := by simpa [Value.ownBlock] using e
    subst this
    rw [hh] at hg
    simp at hg
    exact hne hg.2.1
/-- an empty list that is not nil -/
theorem own_empty (w : World) (e : TypeId) (s : Nat) (B : Nat) (hB : B ≤ w.heap.size) : (w.alloc (.cells #[] e)).ownsRow B e s (.slice (some ⟨w.heap.size, 0, none⟩) 0 0) 0 [] :=
  ⟨by simp, .inr ⟨w.heap.size, 0, #[], rfl, hB, heap_at _ _ _ rfl, Nat.le_refl _, by unfold maxLen; omega, by simp, by simp⟩⟩
theorem Own2.keptBlk {B g : Nat} {w w' : World} {v : Value} {ls : List (List Nat)} {cs : Array Value} {t : TypeId} {fr : Nat × Nat} (h : Own2 B w v ls) (hg : w.grownBy w' (some g)) (hb : w.heap[g]? = some (.cells cs t fr)) (h1 : 2 ≠ t) (h2 : 79 ≠ t) : Own2 B w' v ls := by
  obtain ⟨vs, hl, ho, hi, hd⟩ := h
  exact ⟨vs, hl, ho.kept hg (own_ne_blk ho hb h2), fun i u l a b => (hi i u l a b).kept hg (own_ne_blk (hi i u l a b) hb h1), hd⟩
theorem Own2.mono {B B' : Nat} {w : World} {v : Value} {ls : List (List Nat)} (h : Own2 B w v ls) (hB : B' ≤ B) : Own2 B' w v ls := by
  obtain ⟨vs, a, b, c, d⟩ := h
  exact ⟨vs, a, ⟨b.1, b.2.imp id (fun ⟨g, cap, cur, h1, h2, h3⟩ => ⟨g, cap, cur, h1, by omega, h3⟩)⟩, fun i u l h1 h2 => (c i u l h1 h2).mono hB, d⟩
/-- the number of lists is the slice's length -/
theorem Own2.form {B : Nat} {w : World} {v : Value} {ls : List (List Nat)} (h : Own2 B w v ls) : ∃ A c, v = .slice A ls.length c := by
  obtain ⟨vs, a, b, _, _⟩ := h
  obtain ⟨A, c, e⟩ := own_slice b
  exact ⟨A, c, by rw [e, a]⟩
end Go.Proofs.Ytpkfjdaedaplfaa

namespace Go.Proofs.Ytpkfjdaedaplfaa
open Go.RowKit

theorem Own1.len {B : Nat} {w : World} {A : Option Addr} {n c : Nat} {l : List Nat} (h : Own1 B w (.slice A n c) l) : n = l.length := by
  rcases h.2 with ⟨e, h0⟩ | ⟨g, cap, cur, e, _⟩
  · injection e with _ e _; omega
  · injection e
theorem Own1.at {B : Nat} {w : World} {A : Option Addr} {n c k : Nat} {l : List Nat} (h : Own1 B w (.slice A n c) l) (hk : k < l.length) :
    ∃ g, A = some ⟨g, 0, none⟩ ∧ B ≤ g ∧ g < w.heap.size ∧ w.cell? ⟨g, k, none⟩ = some (.int .i64 (l[k] : Nat)) ∧ w.frozen? ⟨g, k, none⟩ = false := by
  rcases h.2 with ⟨_, h0⟩ | ⟨g, cap, cur, e, hB, hh, h1, h2, h3, h4⟩
  · omega
  · injection e with e1 e2 e3
    have hlt : g < w.heap.size := (Array.getElem?_eq_some_iff.1 hh).1
    refine ⟨g, e1, hB, hlt, ?_, by simp [World.frozen?, hh]⟩
    rw [cell_of_cells, cellsOf_heap hh]
    have : (cur.toList.take (l.length * 1))[k]? = (nums l)[k]? := by rw [h4]
    rw [List.getElem?_take_of_lt (by omega), Array.getElem?_toList] at this
    rw [this]
    simp [nums, hk]

set_option maxRecDepth 100000 in
set_option maxHeartbeats 400000 in
theorem eqInt64S_same (l : List Nat) (A A' : Option Addr) (c c' B B' : Nat) (hl : l.length ≤ 140737488351232) (w : World) (h : Own1 B w (.slice A l.length c) l) (h' : Own1 B' w (.slice A' l.length c') l) :
    Calls Try.prog 79 #[.slice A l.length c, .slice A' l.length c'] w fun e w' => e = .returned (.bool true) ∧ Below w.heap.size w w' := by
  have H := hide h; clear h
  have H' := hide h'; clear h'
  have hne : ((l.length : Int) != (l.length : Int)) = false := by simp
  go_enter Try.func79, Try.ntmps79
  go_wp2
  go_loopw [5] (fun i wr => ∃ k : Nat, k ≤ l.length ∧ i = .int .i64 k ∧ Below w.heap.size w wr) (fun i _ => l.length - (intOf i).toNat)
  case atStart => exact ⟨0, by omega, rfl, Below.refl _ _⟩
  case round =>
    obtain ⟨k, hk, rfl, hb⟩ := hrel
    by_cases hlt : k < l.length
    · obtain ⟨g, rfl, _, hg, h1, _⟩ := H.out.at hlt
      obtain ⟨g', rfl, _, hg', h1', _⟩ := H'.out.at hlt
      have c1 : wr.cell? ⟨g, k, none⟩ = some (.int .i64 (l[k] : Nat)) := (hb.cell (p := ⟨g, k, none⟩) hg).trans h1
      have c1' : wr.cell? ⟨g', k, none⟩ = some (.int .i64 (l[k] : Nat)) := (hb.cell (p := ⟨g', k, none⟩) hg').trans h1'
      clear h1 h1'
      generalize l[k] = x at *
      have hx : ((x : Int) != (x : Int)) = false := by simp
      go_wp2
      go_region
      all_goals go_wp2
      all_goals go_roundw
      case rel => exact ⟨k + 1, by omega, by go_num, hb.drew⟩
      case measure => simp [intOf]; omega
    · go_wp2
      go_ret
      exact ⟨rfl, hb⟩

/-- k, k + 1, .. -/
def marks (k n : Nat) : List Nat := (List.range n).map fun i => k + i
theorem marks_length (k n : Nat) : (marks k n).length = n := by unfold marks; simp
theorem marks_get (k n i : Nat) (h : i < n) : (marks k n)[i]? = some (k + i) := by unfold marks; simp [h]

theorem own_set {B : Nat} {w : World} {g n c k x : Nat} {l : List Nat} (h : Own1 B w (.slice (some ⟨g, 0, none⟩) n c) l) (hk : k < l.length) : Own1 B (w.setCell ⟨g, k, none⟩ (.int .i64 (x : Nat))) (.slice (some ⟨g, 0, none⟩) n c) (l.set k x) := by
  unfold Own1 at *
  rcases h.2 with ⟨e, _⟩ | ⟨g', cap, cur, e, hB, hh, h1, h2, h3, h4⟩
  · cases e
  · injection e with e1 e2 e3
    have : g = g' := by injection e1 with e1; injection e1
    subst this
    refine ⟨by simp [nums], .inr ⟨g, cap, cur.setIfInBounds k (.int .i64 (x : Nat)), by rw [e2, e3, List.length_set], hB, heap_setCell_same w g k cur _ _ hh, by simpa using h1, h2, by simpa using h3, ?_⟩⟩
    simp only [Array.toList_setIfInBounds, List.length_set, List.take_set]
    rw [h4]
    simp [nums, List.map_set]

set_option maxRecDepth 100000 in
set_option maxHeartbeats 400000 in
theorem markInt64S_any (l : List Nat) (A : Option Addr) (c B k0 : Nat) (hl : l.length ≤ 140737488351232) (hk0 : k0 ≤ 140737488351232) (w : World) (h : Own1 B w (.slice A l.length c) l) :
    Calls Try.prog 80 #[.slice A l.length c, .int .i64 k0] w fun e w' => e = .returned (.int .i64 (k0 + l.length : Nat)) ∧ w.grownBy w' (Value.slice A l.length c).ownBlock ∧ Own1 B w' (.slice A l.length c) (marks k0 l.length) := by
  go_enter Try.func80, Try.ntmps80
  go_wp2
  go_loopw [1, 5] (fun q i wr => ∃ k : Nat, k ≤ l.length ∧ i = .int .i64 k ∧ q = .int .i64 (k0 + k : Nat) ∧ w.grownBy wr (Value.slice A l.length c).ownBlock ∧ Own1 B wr (.slice A l.length c) (marks k0 k ++ l.drop k)) (fun _ i _ => l.length - (intOf i).toNat)
  case atStart => exact ⟨0, by omega, rfl, by simp, grown_refl _ _, by simpa [marks] using h⟩
  case round =>
    obtain ⟨k, hk, rfl, rfl, hg, ho⟩ := hrel
    by_cases hlt : k < l.length
    · have hlen : (marks k0 k ++ l.drop k).length = l.length := by rw [List.length_append, marks_length, List.length_drop]; omega
      obtain ⟨g, hA, hgB, hglt, h1, h2⟩ := ho.at (k := k) (by omega)
      have hs := own_set (x := k0 + k) (hA ▸ ho) (k := k) (by omega)
      have hset : (marks k0 k ++ l.drop k).set k (k0 + k) = marks k0 (k + 1) ++ l.drop (k + 1) := by
        rw [List.set_append_right _ _ (by rw [marks_length]; omega), marks_length, Nat.sub_self, List.drop_eq_getElem_cons hlt, List.set_cons_zero]
        unfold marks
        rw [List.range_succ, List.map_append, List.append_assoc]; rfl
      rw [hset] at hs
      generalize (marks k0 k ++ l.drop k)[k] = y at h1
      have hg2 : w.grownBy (wr.setCell ⟨g, k, none⟩ (.int .i64 (k0 + k : Nat))) (Value.slice A l.length c).ownBlock := by rw [hA]; rw [hA] at hg; exact grown_setCell hg
      subst hA
      have HS := hide hs; clear hs
      have HG := hide hg2; clear hg2
      clear hset hlen ho hg
      have hcast : ((k0 + k : Nat) : Int) = (k0 : Int) + (k : Int) := by omega
      rw [hcast] at HS HG
      rw [hcast]
      clear hcast
      go_wp2
      go_roundw
      case rel => exact ⟨k + 1, by omega, by go_num, by go_num, HG.out, HS.out⟩
      case measure => simp [intOf]; omega
    · obtain rfl : k = l.length := by omega
      go_wp2
      go_ret
      exact ⟨rfl, hg, by simpa using ho⟩

set_option maxRecDepth 100000 in
set_option maxHeartbeats 400000 in
theorem heldInt64S_any (n : Nat) (A : Option Addr) (c B k0 : Nat) (hl : n ≤ 140737488351232) (hk0 : k0 ≤ 140737488351232) (w : World) (h : Own1 B w (.slice A n c) (marks k0 n)) :
    Calls Try.prog 81 #[.slice A n c, .int .i64 k0] w fun e w' => e = .returned (.int .i64 (k0 + n : Nat)) ∧ Below w.heap.size w w' := by
  have H := hide h; clear h
  go_enter Try.func81, Try.ntmps81
  go_wp2
  go_loopw [1, 5] (fun q i wr => ∃ k : Nat, k ≤ n ∧ i = .int .i64 k ∧ q = .int .i64 (k0 + k : Nat) ∧ wr = w) (fun _ i _ => n - (intOf i).toNat)
  case atStart => exact ⟨0, by omega, rfl, by simp, rfl⟩
  case round =>
    obtain ⟨k, hk, rfl, rfl, rfl⟩ := hrel
    have hcast : ((k0 + k : Nat) : Int) = (k0 : Int) + (k : Int) := by omega
    by_cases hlt : k < n
    · have hlen : k < (marks k0 n).length := by rw [marks_length]; exact hlt
      obtain ⟨g, rfl, _, _, h1, _⟩ := H.out.at hlen
      have hv : (marks k0 n)[k] = k0 + k := by have := marks_get k0 n k hlt; rw [List.getElem?_eq_getElem hlen] at this; exact Option.some.inj this
      rw [hv, hcast] at h1
      rw [hcast]
      clear hv hcast hlen
      have hne : (((k0 : Int) + (k : Int)) != ((k0 : Int) + (k : Int))) = false := by simp
      go_wp2
      go_roundw
      case rel => exact ⟨k + 1, by omega, by go_num, by go_num, by first | rfl | trivial⟩
      case measure => simp [intOf]; omega
    · obtain rfl : k = n := by omega
      clear hcast
      go_wp2
      go_ret
      exact ⟨rfl, Below.refl _ _⟩

/-- a list of lists whose slices are known -/
structure Own2v (B : Nat) (w : World) (v : Value) (vs : List Value) (ls : List (List Nat)) : Prop where
  len : vs.length = ls.length
  row : w.ownsRow B 79 1 v vs.length vs
  each : ∀ (i : Nat) (u : Value) (l : List Nat), vs[i]? = some u → ls[i]? = some l → Own1 B w u l
  dist : ∀ (i j : Nat) (u u' : Value), i < j → vs[i]? = some u → vs[j]? = some u' → u.ownBlock = none ∨ u.ownBlock ≠ u'.ownBlock
theorem own2v {B : Nat} {w : World} {v : Value} {ls : List (List Nat)} : Own2 B w v ls ↔ ∃ vs, Own2v B w v vs ls := ⟨fun ⟨vs, a, b, c, d⟩ => ⟨vs, a, b, c, d⟩, fun ⟨vs, h⟩ => ⟨vs, h.len, h.row, h.each, h.dist⟩⟩
theorem Own2v.below {B C : Nat} {w w' : World} {v : Value} {vs : List Value} {ls : List (List Nat)} (h : Own2v B w v vs ls) (hb : Below C w w') (hC : w.heap.size ≤ C) : Own2v B w' v vs ls := by
  have hg := grown_of_below (hb.mono hC) none
  have far : ∀ u : Value, u.ownBlock = none ∨ u.ownBlock ≠ none := fun u => Classical.em _
  exact ⟨h.len, h.row.kept hg (far _), fun i u l a b => (h.each i u l a b).kept hg (far _), h.dist⟩
/-- what lies below C stays, whatever is written from C on -/
theorem Own2v.lower {B C : Nat} {w w' : World} {v : Value} {vs : List Value} {ls : List (List Nat)} (h : Own2v B w v vs ls) (hb : Below C w w') (hC : ∀ k, v.ownBlock = some k → k < C) (hC' : ∀ (i : Nat) (u : Value), vs[i]? = some u → ∀ k, u.ownBlock = some k → k < C) : Own2v B w' v vs ls := by
  have key : ∀ {e : TypeId} {s n : Nat} {u : Value} {xs : List Value}, w.ownsRow B e s u n xs → (∀ k, u.ownBlock = some k → k < C) → w'.ownsRow B e s u n xs := by
    intro e s n u xs hu hk
    refine ⟨hu.1, ?_⟩
    rcases hu.2 with c | ⟨g, cap, cur, rfl, h1, h2, h3⟩
    · exact .inl c
    · exact .inr ⟨g, cap, cur, rfl, h1, by rw [hb.block g (hk g rfl)]; exact h2, h3⟩
  exact ⟨h.len, key h.row hC, fun i u l a b => key (h.each i u l a b) (hC' i u a), h.dist⟩
/-- the i-th slice out of the row -/
theorem Own2v.at {B : Nat} {w : World} {A : Option Addr} {n c i : Nat} {vs : List Value} {ls : List (List Nat)} (h : Own2v B w (.slice A n c) vs ls) (hi : i < ls.length) :
    ∃ g A' c', A = some ⟨g, 0, none⟩ ∧ g < w.heap.size ∧ vs[i]? = some (.slice A' ls[i].length c') ∧ w.cell? ⟨g, i, none⟩ = some (.slice A' ls[i].length c') ∧ Own1 B w (.slice A' ls[i].length c') ls[i] := by
  have hv : i < vs.length := by rw [h.len]; exact hi
  have h1 := h.each i _ _ (List.getElem?_eq_getElem hv) (List.getElem?_eq_getElem hi)
  obtain ⟨A', c', e⟩ := own_slice h1
  rcases h.row.2 with ⟨_, h0⟩ | ⟨g, cap, cur, e', hB, hh, h2, h3, h4, h5⟩
  · omega
  · injection e' with e1 e2 e3
    have hlt : g < w.heap.size := (Array.getElem?_eq_some_iff.1 hh).1
    refine ⟨g, A', c', e1, hlt, by rw [List.getElem?_eq_getElem hv, e], ?_, by rw [← e]; exact h1⟩
    rw [cell_of_cells, cellsOf_heap hh]
    have : (cur.toList.take (vs.length * 1))[i]? = vs[i]? := by rw [h5]
    rw [List.getElem?_take_of_lt (by omega), Array.getElem?_toList] at this
    rw [this, List.getElem?_eq_getElem hv, e]
/-- one row is turned -/
theorem Own2v.upd {B i : Nat} {w w' : World} {v u : Value} {l : List Nat} {vs : List Value} {ls : List (List Nat)} (h : Own2v B w v vs ls) (hi : i < ls.length) (hu : vs[i]? = some u) (hg : w.grownBy w' u.ownBlock) (hn : Own1 B w' u l) : Own2v B w' v vs (ls.set i l) := by
  have hiu := h.each i u _ hu (List.getElem?_eq_getElem hi)
  refine ⟨by rw [List.length_set]; exact h.len, h.row.kept hg (own_ne h.row hiu (by decide)), ?_, h.dist⟩
  intro j x m hx hm
  by_cases e : i = j
  · subst e
    rw [hu] at hx
    simp only [Option.some.injEq] at hx
    subst hx
    rw [List.getElem?_set_self hi] at hm
    simp only [Option.some.injEq] at hm
    subst hm
    exact hn
  · rw [List.getElem?_set_ne e] at hm
    refine (h.each j x m hx hm).kept hg ?_
    rcases Nat.lt_or_ge i j with c | c
    · rcases hb : x.ownBlock with _ | k
      · exact .inl rfl
      · refine .inr fun e' => ?_
        rcases h.dist i j u x c hu hx with d | d
        · rw [d] at e'; cases e'
        · exact d (by rw [hb, e'])
    · exact h.dist j i x u (by omega) hx hu

def total (ls : List (List Nat)) : Nat := (ls.map List.length).sum
/-- all numbers counted through -/
def marksL (k : Nat) : List (List Nat) → List (List Nat)
  | [] => []
  | l :: ls => marks k l.length :: marksL (k + l.length) ls
theorem marksL_length (ls : List (List Nat)) : ∀ k, (marksL k ls).length = ls.length := by
  induction ls with
  | nil => intro k; rfl
  | cons l ls ih => intro k; simp [marksL, ih]
theorem marksL_get (ls : List (List Nat)) : ∀ (k i : Nat) (h : i < ls.length), (marksL k ls)[i]? = some (marks (k + total (ls.take i)) ls[i].length) := by
  induction ls with
  | nil => intro k i h; simp at h
  | cons l ls ih =>
    intro k i h
    rcases i with _ | i
    · simp [marksL, total]
    · simp only [List.length_cons] at h
      simp only [marksL, List.getElem?_cons_succ, List.take_succ_cons, List.getElem_cons_succ]
      rw [ih (k + l.length) i (by omega)]
      simp [total, Nat.add_assoc]
theorem total_take_succ (ls : List (List Nat)) (i : Nat) (h : i < ls.length) : total (ls.take (i + 1)) = total (ls.take i) + ls[i].length := by
  unfold total
  rw [List.take_succ_eq_append_getElem h, List.map_append, List.sum_append]
  simp
theorem total_take_le (ls : List (List Nat)) (i : Nat) : total (ls.take i) ≤ total ls := by
  unfold total
  conv => rhs; rw [← List.take_append_drop i ls, List.map_append, List.sum_append]
  omega
theorem len_le_total (ls : List (List Nat)) (i : Nat) (h : i < ls.length) : ls[i].length ≤ total ls := by
  have := total_take_succ ls i h
  have := total_take_le ls (i + 1)
  omega

set_option maxRecDepth 100000 in
set_option maxHeartbeats 400000 in
theorem markInt64SS_any (ls : List (List Nat)) (A : Option Addr) (c B k0 : Nat) (vs : List Value) (hl : total ls ≤ 1000000) (hl2 : ls.length ≤ 1000000) (hk0 : k0 ≤ 1000000) (w : World) (hBw : B ≤ w.heap.size) (h : Own2v B w (.slice A ls.length c) vs ls) :
    Calls Try.prog 54 #[.slice A ls.length c, .int .i64 k0] w fun e w' => e = .returned (.int .i64 (k0 + total ls : Nat)) ∧ Below B w w' ∧ w.heap.size ≤ w'.heap.size ∧ Own2v B w' (.slice A ls.length c) vs (marksL k0 ls) := by
  go_enter Try.func54, Try.ntmps54
  go_wp2
  go_loopw [1, 5] (fun q i wr => ∃ k : Nat, k ≤ ls.length ∧ i = .int .i64 k ∧ q = .int .i64 (k0 + total (ls.take k) : Nat) ∧ Below B w wr ∧ Own2v B wr (.slice A ls.length c) vs ((marksL k0 ls).take k ++ ls.drop k)) (fun _ i _ => ls.length - (intOf i).toNat)
  case atStart => exact ⟨0, by omega, rfl, by simp [total], Below.refl _ _, by simpa using h⟩
  case round =>
    obtain ⟨k, hk, rfl, rfl, hb, ho⟩ := hrel
    have ht := total_take_le ls k
    by_cases hlt : k < ls.length
    · have hml : ((marksL k0 ls).take k).length = k := by rw [List.length_take, marksL_length]; omega
      have hlen : k < ((marksL k0 ls).take k ++ ls.drop k).length := by rw [List.length_append, hml, List.length_drop]; omega
      have hge : ((marksL k0 ls).take k ++ ls.drop k)[k] = ls[k] := by
        rw [List.getElem_append_right (by omega)]
        simp only [hml, Nat.sub_self, List.getElem_drop, Nat.add_zero]
      obtain ⟨g, A', c', rfl, hg, hv, hc, h1⟩ := ho.at hlen
      rw [hge] at hv hc h1
      have hle := len_le_total ls k hlt
      have hts := total_take_succ ls k hlt
      have hset : ((marksL k0 ls).take k ++ ls.drop k).set k (marks (k0 + total (ls.take k)) ls[k].length) = (marksL k0 ls).take (k + 1) ++ ls.drop (k + 1) := by
        have hkm : k < (marksL k0 ls).length := by rw [marksL_length]; exact hlt
        have e : (marksL k0 ls)[k] = marks (k0 + total (ls.take k)) ls[k].length := by
          have := marksL_get ls k0 k hlt
          rw [List.getElem?_eq_getElem hkm] at this
          exact Option.some.inj this
        rw [List.set_append_right _ _ (by omega), hml, Nat.sub_self, List.drop_eq_getElem_cons hlt, List.set_cons_zero, List.take_succ_eq_append_getElem hkm, e, List.append_assoc]
        rfl
      have C := hide (markInt64S_any ls[k] A' c' B (k0 + total (ls.take k)) (by omega) (by omega) wr h1)
      have hrow : ∀ x, (Value.slice A' ls[k].length c').ownBlock = some x → B ≤ x := fun x hx => (World.ownsRow.lt h1 x hx).1
      have hBr : B ≤ wr.heap.size := Nat.le_trans hBw hb.size
      clear hge
      have HSET := hide hset; clear hset
      have HV := hide hv; clear hv
      have HO := hide ho; clear ho
      have HT := hide hts; clear hts
      have H1 := hide h1; clear h1
      have HR := hide hrow; clear hrow
      have HLEN := hide hlen; clear hlen
      clear hml
      go_wp2_with fail
      refine C.out.mono ?_
      rintro e w1 ⟨rfl, hg1, hn⟩
      have hO := HO.out.upd HLEN.out HV.out hg1 hn
      rw [HSET.out] at hO
      have hbw : Below B w w1 := below_grown hb hg1 hBr HR.out
      have HOO := hide hO; clear hO
      clear hn hg1 hc
      go_wp2
      go_roundw
      case rel => exact ⟨k + 1, by omega, by go_num, by rw [HT.out]; go_num, hbw, HOO.out⟩
      case measure => simp [intOf]; omega
    · obtain rfl : k = ls.length := by omega
      go_wp2
      go_ret
      exact ⟨by simp, hb, hb.size, by have := ho; rwa [List.drop_length, List.append_nil, List.take_of_length_le (by rw [marksL_length]; omega)] at this⟩

set_option maxRecDepth 100000 in
set_option maxHeartbeats 400000 in
theorem heldInt64SS_any (ls : List (List Nat)) (A : Option Addr) (c B k0 : Nat) (vs : List Value) (hl : total ls ≤ 1000000) (hl2 : ls.length ≤ 1000000) (hk0 : k0 ≤ 1000000) (w : World) (h : Own2v B w (.slice A ls.length c) vs (marksL k0 ls)) :
    Calls Try.prog 55 #[.slice A ls.length c, .int .i64 k0] w fun e w' => e = .returned (.int .i64 (k0 + total ls : Nat)) ∧ Below w.heap.size w w' := by
  have H := hide h; clear h
  go_enter Try.func55, Try.ntmps55
  go_wp2
  go_loopw [1, 5] (fun q i wr => ∃ k : Nat, k ≤ ls.length ∧ i = .int .i64 k ∧ q = .int .i64 (k0 + total (ls.take k) : Nat) ∧ Below w.heap.size w wr) (fun _ i _ => ls.length - (intOf i).toNat)
  case atStart => exact ⟨0, by omega, rfl, by simp [total], Below.refl _ _⟩
  case round =>
    obtain ⟨k, hk, rfl, rfl, hb⟩ := hrel
    have ht := total_take_le ls k
    by_cases hlt : k < ls.length
    · have hmk : k < (marksL k0 ls).length := by rw [marksL_length]; exact hlt
      have e : (marksL k0 ls)[k] = marks (k0 + total (ls.take k)) ls[k].length := by
        have := marksL_get ls k0 k hlt
        rw [List.getElem?_eq_getElem hmk] at this
        exact Option.some.inj this
      obtain ⟨g, A', c', rfl, hg, hv, hc, h1⟩ := (H.out.below hb (Nat.le_refl _)).at hmk
      rw [e, marks_length] at hc h1
      clear hv
      have hle := len_le_total ls k hlt
      have hts := total_take_succ ls k hlt
      have C := hide (heldInt64S_any ls[k].length A' c' B (k0 + total (ls.take k)) (by omega) (by omega) wr h1)
      have HT := hide hts; clear hts
      clear e hmk h1
      have hneg : decide (((k0 + total (ls.take k) + ls[k].length : Nat) : Int) < 0) = false := by simp; omega
      go_wp2_with fail
      refine C.out.mono ?_
      rintro e w1 ⟨rfl, hb1⟩
      have hbb := hb.trans (hb1.mono hb.size)
      clear hc hb1
      go_wp2
      go_roundw
      case rel => exact ⟨k + 1, by omega, by go_num, by rw [HT.out]; go_num, hbb⟩
      case measure => simp [intOf]; omega
    · obtain rfl : k = ls.length := by omega
      go_wp2
      go_ret
      exact ⟨by simp, hb⟩

set_option maxRecDepth 100000 in
set_option maxHeartbeats 400000 in
theorem eqInt64SS_same (ls : List (List Nat)) (A A' : Option Addr) (c c' B B' : Nat) (vs vs' : List Value) (hl : total ls ≤ 1000000) (hl2 : ls.length ≤ 1000000) (w : World)
    (h : Own2v B w (.slice A ls.length c) vs ls) (h' : Own2v B' w (.slice A' ls.length c') vs' ls) :
    Calls Try.prog 53 #[.slice A ls.length c, .slice A' ls.length c'] w fun e w' => e = .returned (.bool true) ∧ Below w.heap.size w w' := by
  have H := hide h; clear h
  have H' := hide h'; clear h'
  have hne : ((ls.length : Int) != (ls.length : Int)) = false := by simp
  go_enter Try.func53, Try.ntmps53
  go_wp2
  go_loopw [5] (fun i wr => ∃ k : Nat, k ≤ ls.length ∧ i = .int .i64 k ∧ Below w.heap.size w wr) (fun i _ => ls.length - (intOf i).toNat)
  case atStart => exact ⟨0, by omega, rfl, Below.refl _ _⟩
  case round =>
    obtain ⟨k, hk, rfl, hb⟩ := hrel
    by_cases hlt : k < ls.length
    · obtain ⟨g, B1, b1, rfl, hg, _, hc, h1⟩ := H.out.at hlt
      obtain ⟨g', B2, b2, rfl, hg', _, hc', h1'⟩ := H'.out.at hlt
      have c1 : wr.cell? ⟨g, k, none⟩ = some (.slice B1 ls[k].length b1) := (hb.cell (p := ⟨g, k, none⟩) hg).trans hc
      have c2 : wr.cell? ⟨g', k, none⟩ = some (.slice B2 ls[k].length b2) := (hb.cell (p := ⟨g', k, none⟩) hg').trans hc'
      have hle := len_le_total ls k hlt
      have far : ∀ u : Value, u.ownBlock = none ∨ u.ownBlock ≠ none := fun u => Classical.em _
      have o1 := h1.kept (grown_of_below hb none) (far _)
      have o2 := h1'.kept (grown_of_below hb none) (far _)
      have C := hide fun W (e : W.heap = wr.heap) => eqInt64S_same ls[k] B1 B2 b1 b2 B B' (by omega) W (show W.ownsRow _ _ _ _ _ _ by unfold Own1 World.ownsRow at o1; unfold World.ownsRow; rw [e]; exact o1) (show W.ownsRow _ _ _ _ _ _ by unfold Own1 World.ownsRow at o2; unfold World.ownsRow; rw [e]; exact o2)
      clear hc hc' h1 h1' far o1 o2
      go_wp2
      go_region_with (go_at_call 79; refine (C.out _ ?_).mono ?_; rfl; rintro e w1 ⟨rfl, hb1⟩)
      all_goals
        have hbb : Below w.heap.size w w1 := hb.drew.trans (hb1.mono hb.size)
        clear hb1 c1 c2
        go_wp2
        go_roundw
        case rel => exact ⟨k + 1, by omega, by go_num, hbb⟩
        case measure => simp [intOf]; omega
    · go_wp2
      go_ret
      exact ⟨rfl, hb⟩
theorem own2_form {B : Nat} {w : World} {v : Value} {ls : List (List Nat)} (h : Own2 B w v ls) : ∃ A c vs, v = .slice A ls.length c ∧ Own2v B w (.slice A ls.length c) vs ls := by
  obtain ⟨A, c, rfl⟩ := h.form
  obtain ⟨vs, hv⟩ := own2v.1 h
  exact ⟨A, c, vs, rfl, hv⟩
theorem Own2v.lt {B : Nat} {w : World} {v : Value} {vs : List Value} {ls : List (List Nat)} (h : Own2v B w v vs ls) : (∀ k, v.ownBlock = some k → k < w.heap.size) ∧ ∀ (i : Nat) (u : Value), vs[i]? = some u → ∀ k, u.ownBlock = some k → k < w.heap.size := by
  refine ⟨fun k hk => (h.row.lt k hk).2, fun i u hu k hk => ?_⟩
  have hi : i < ls.length := by rw [← h.len]; exact (List.getElem?_eq_some_iff.1 hu).1
  exact (World.ownsRow.lt (h.each i u _ hu (List.getElem?_eq_getElem hi)) k hk).2
theorem mark1 (ls : List (List Nat)) (A : Option Addr) (c B : Nat) (vs : List Value) (hl : total ls ≤ 1000000) (hl2 : ls.length ≤ 1000000) (w : World) (hBw : B ≤ w.heap.size) (h : Own2v B w (.slice A ls.length c) vs ls) :
    Calls Try.prog 54 #[.slice A ls.length c, .int .i64 1] w fun e w' => e = .returned (.int .i64 (1 + total ls : Nat)) ∧ Below B w w' ∧ w.heap.size ≤ w'.heap.size ∧ Own2v B w' (.slice A ls.length c) vs (marksL 1 ls) :=
  markInt64SS_any ls A c B 1 vs hl hl2 (by omega) w hBw h
theorem held1 (ls : List (List Nat)) (A : Option Addr) (c B : Nat) (vs : List Value) (hl : total ls ≤ 1000000) (hl2 : ls.length ≤ 1000000) (w : World) (h : Own2v B w (.slice A ls.length c) vs (marksL 1 ls)) :
    Calls Try.prog 55 #[.slice A ls.length c, .int .i64 1] w fun e w' => e = .returned (.int .i64 (1 + total ls : Nat)) ∧ Below w.heap.size w w' :=
  heldInt64SS_any ls A c B 1 vs hl hl2 (by omega) w h

end Go.Proofs.Ytpkfjdaedaplfaa

namespace Go.Proofs.Ytpkfjdaedaplfaa
open Go.RowKit

theorem own1_form {B : Nat} {w : World} {v : Value} {l : List Nat} (h : Own1 B w v l) : ∃ A c, v = .slice A l.length c ∧ Own1 B w (.slice A l.length c) l := by
  obtain ⟨A, c, rfl⟩ := own_slice h
  exact ⟨A, c, rfl, h⟩
theorem Own1.below {B C : Nat} {w w' : World} {v : Value} {l : List Nat} (h : Own1 B w v l) (hb : Below C w w') (hC : w.heap.size ≤ C) : Own1 B w' v l := h.kept (grown_of_below (hb.mono hC) none) (Classical.em _)
theorem Own1.lower {B C : Nat} {w w' : World} {v : Value} {l : List Nat} (h : Own1 B w v l) (hb : Below C w w') (hC : ∀ k, v.ownBlock = some k → k < C) : Own1 B w' v l := by
  refine ⟨h.1, ?_⟩
  rcases h.2 with c | ⟨g, cap, cur, rfl, h1, h2, h3⟩
  · exact .inl c
  · exact .inr ⟨g, cap, cur, rfl, h1, by rw [hb.block g (hC g rfl)]; exact h2, h3⟩
theorem Own1.low {B : Nat} {w : World} {v : Value} {l : List Nat} (h : Own1 B w v l) : ∀ k, v.ownBlock = some k → k < w.heap.size := fun k hk => (World.ownsRow.lt h k hk).2
theorem mk1 (l : List Nat) (A : Option Addr) (c B : Nat) (hl : l.length ≤ 1000000) (w : World) (hBw : B ≤ w.heap.size) (h : Own1 B w (.slice A l.length c) l) :
    Calls Try.prog 80 #[.slice A l.length c, .int .i64 1] w fun e w' => e = .returned (.int .i64 (1 + l.length : Nat)) ∧ Below B w w' ∧ w.heap.size ≤ w'.heap.size ∧ Own1 B w' (.slice A l.length c) (marks 1 l.length) :=
  (markInt64S_any l A c B 1 (by omega) (by omega) w h).mono fun e w' ⟨h1, h2, h3⟩ => ⟨h1, (Below.refl B w).grown h2 hBw (fun g hg => (World.ownsRow.lt h g hg).1), h2.size, h3⟩
theorem hd1 (l : List Nat) (A : Option Addr) (c B : Nat) (hl : l.length ≤ 1000000) (w : World) (h : Own1 B w (.slice A l.length c) (marks 1 l.length)) :
    Calls Try.prog 81 #[.slice A l.length c, .int .i64 1] w fun e w' => e = .returned (.int .i64 (1 + l.length : Nat)) ∧ Below w.heap.size w w' :=
  heldInt64S_any l.length A c B 1 (by omega) (by omega) w h
end Go.Proofs.Ytpkfjdaedaplfaa

namespace Go.Proofs.Ytpkfjdaedaplfaa
open Go.RowKit

/-- a part of memory: its blocks, and what holds of them -/
structure Part where
  own : Nat → Prop
  ok : World → Prop
  keep : ∀ w w' : World, ok w → (∀ g, own g → w'.heap[g]? = w.heap[g]?) → ok w'
  lt : ∀ (w : World) (g : Nat), ok w → own g → g < w.heap.size

theorem lt_of_some {w : World} {g : Nat} {o : Obj} (h : w.heap[g]? = some o) : g < w.heap.size := (Array.getElem?_eq_some_iff.1 h).1

/-- a whole block of cells -/
def pBlk (g : Nat) (c : Array Value) (t : TypeId) : Part where
  own k := k = g
  ok w := w.heap[g]? = some (.cells c t (0, 0))
  keep _ _ h k := (k g rfl).trans h
  lt _ _ h k := by subst k; exact lt_of_some h
/-- another object -/
def pObj (g : Nat) (o : Obj) : Part where
  own k := k = g
  ok w := w.heap[g]? = some o
  keep _ _ h k := (k g rfl).trans h
  lt _ _ h k := by subst k; exact lt_of_some h
/-- a row that grows -/
def pRow (v : Value) (e : TypeId) (s n : Nat) (xs : List Value) : Part where
  own k := v.ownBlock = some k
  ok w := w.ownsRow 0 e s v n xs
  keep w w' h k := by
    refine ⟨h.1, ?_⟩
    rcases h.2 with ⟨rfl, rfl⟩ | ⟨g, cap, cur, rfl, hb, hg, h1⟩
    · exact .inl ⟨rfl, rfl⟩
    · exact .inr ⟨g, cap, cur, rfl, hb, (k g rfl).trans hg, h1⟩
  lt w g h k := (World.ownsRow.lt h g k).2
/-- all of some parts -/
def Holds (w0 w : World) (L : List Part) : Prop :=
  Below w0.heap.size w0 w ∧ (∀ a ∈ L, a.ok w ∧ ∀ g, a.own g → w0.heap.size ≤ g) ∧ L.Pairwise (fun a b => ∀ g, a.own g → b.own g → False)

theorem Holds.start (w : World) : Holds w w [] := ⟨Below.refl _ _, by simp, List.Pairwise.nil⟩
theorem Holds.low {w0 w : World} {L : List Part} (h : Holds w0 w L) : Below w0.heap.size w0 w := h.1
theorem Holds.size {w0 w : World} {L : List Part} (h : Holds w0 w L) : w0.heap.size ≤ w.heap.size := h.1.size
theorem Holds.at {w0 w : World} {L : List Part} (h : Holds w0 w L) (i : Nat) {a : Part} (hi : L[i]? = some a) : a.ok w := (h.2.1 a (List.mem_of_getElem? hi)).1
theorem Holds.above {w0 w : World} {L : List Part} (h : Holds w0 w L) (i : Nat) {a : Part} (hi : L[i]? = some a) {g : Nat} (hg : a.own g) : w0.heap.size ≤ g := (h.2.1 a (List.mem_of_getElem? hi)).2 g hg
theorem Holds.apart {w0 w : World} {L : List Part} (h : Holds w0 w L) {i j : Nat} (hij : i ≠ j) {a b : Part} (hi : L[i]? = some a) (hj : L[j]? = some b) {g : Nat} (ha : a.own g) (hb : b.own g) : False := by
  have hp := List.pairwise_iff_getElem.1 h.2.2
  obtain ⟨hi', rfl⟩ := List.getElem?_eq_some_iff.1 hi
  obtain ⟨hj', rfl⟩ := List.getElem?_eq_some_iff.1 hj
  rcases Nat.lt_or_gt_of_ne hij with c | c
  · exact hp i j hi' hj' c g ha hb
  · exact hp j i hj' hi' c g hb ha
theorem Holds.sub {w0 w : World} {L L' : List Part} (h : Holds w0 w L) (hs : L'.Sublist L) : Holds w0 w L' := ⟨h.1, fun a ha => h.2.1 a (hs.subset ha), h.2.2.sublist hs⟩
theorem Holds.tail {w0 w : World} {a : Part} {L : List Part} (h : Holds w0 w (a :: L)) : Holds w0 w L := h.sub (List.sublist_cons_self a L)
/-- nothing that existed has turned -/
theorem Holds.call {w0 w w' : World} {L : List Part} (h : Holds w0 w L) (hb : Below w.heap.size w w') : Holds w0 w' L :=
  ⟨h.1.trans (hb.mono h.1.size), fun a ha => ⟨a.keep _ _ (h.2.1 a ha).1 fun g hg => hb.block g (a.lt _ _ (h.2.1 a ha).1 hg), (h.2.1 a ha).2⟩, h.2.2⟩
theorem Holds.drew {w0 w : World} {L : List Part} (h : Holds w0 w L) : Holds w0 w.drew L :=
  ⟨h.1.drew, fun a ha => ⟨a.keep _ _ (h.2.1 a ha).1 fun _ _ => rfl, (h.2.1 a ha).2⟩, h.2.2⟩
theorem Holds.drewN {w0 w : World} {L : List Part} (h : Holds w0 w L) (n : Nat) : Holds w0 (w.drewN n) L :=
  ⟨⟨h.1.os, h.1.tape, h.1.output, h.1.size, h.1.block⟩, fun a ha => ⟨a.keep _ _ (h.2.1 a ha).1 fun _ _ => rfl, (h.2.1 a ha).2⟩, h.2.2⟩
/-- a part more, all of it new -/
theorem Holds.new {w0 w w' : World} {L : List Part} (h : Holds w0 w L) (hb : Below w.heap.size w w') (a : Part) (ha : a.ok w') (hn : ∀ g, a.own g → w.heap.size ≤ g) : Holds w0 w' (a :: L) := by
  have h' := h.call hb
  refine ⟨h'.1, fun b hb => ?_, List.pairwise_cons.2 ⟨fun b hb' g hg hg' => ?_, h'.2.2⟩⟩
  · rcases List.mem_cons.1 hb with rfl | hb
    · exact ⟨ha, fun g hg => Nat.le_trans h.1.size (hn g hg)⟩
    · exact h'.2.1 b hb
  · have := b.lt _ _ (h.2.1 b hb').1 hg'
    have := hn g hg
    omega
theorem Holds.alloc {w0 w : World} {L : List Part} (h : Holds w0 w L) (o : Obj) : Holds w0 (w.alloc o) L := h.call (below1 w o)
theorem Holds.blk {w0 w : World} {L : List Part} (h : Holds w0 w L) (c : Array Value) (t : TypeId) (g : Nat) (hg : g = w.heap.size) : Holds w0 (w.alloc (.cells c t)) (pBlk g c t :: L) :=
  h.new (below1 w _) _ (heap_at _ _ _ hg) fun k hk => by cases hk; omega
theorem Holds.obj {w0 w : World} {L : List Part} (h : Holds w0 w L) (o : Obj) (g : Nat) (hg : g = w.heap.size) : Holds w0 (w.alloc o) (pObj g o :: L) :=
  h.new (below1 w _) _ (heap_at _ _ _ hg) fun k hk => by cases hk; omega
/-- one part is turned, alone -/
theorem Holds.turn {w0 w w' : World} {L : List Part} (h : Holds w0 w L) (i : Nat) {a : Part} (hi : L[i]? = some a) (a' : Part) (ha' : a'.ok w') (ho : w'.os = w.os) (ht : w'.tape = w.tape) (hu : w'.output = w.output) (hs : w.heap.size ≤ w'.heap.size)
    (hk : ∀ g, g < w.heap.size → ¬ a.own g → w'.heap[g]? = w.heap[g]?) (hn : ∀ g, a'.own g → a.own g ∨ w.heap.size ≤ g) : Holds w0 w' (L.set i a') := by
  obtain ⟨hil, hie⟩ := List.getElem?_eq_some_iff.1 hi
  have low : Below w0.heap.size w0 w' := h.1.trans ⟨ho, ht, hu, hs, fun g hg => hk g (Nat.lt_of_lt_of_le hg h.1.size) fun hg' => by have := h.above i hi hg'; omega⟩
  have old : ∀ j (b : Part), j ≠ i → L[j]? = some b → b.ok w' := fun j b hj hb => b.keep _ _ (h.at j hb) fun g hg => hk g (b.lt _ _ (h.at j hb) hg) fun hg' => h.apart hj hb hi hg hg'
  have ab : ∀ g, a'.own g → w0.heap.size ≤ g := fun g hg => by
    rcases hn g hg with c | c
    · exact h.above i hi c
    · exact Nat.le_trans h.1.size c
  have far : ∀ j (b : Part) g, j ≠ i → L[j]? = some b → b.own g → a'.own g → False := fun j b g hj hb hg hg' => by
    rcases hn g hg' with c | c
    · exact h.apart hj hb hi hg c
    · have := b.lt _ _ (h.at j hb) hg; omega
  refine ⟨low, fun b hb => ?_, List.pairwise_iff_getElem.2 fun j k hj hk' hjk g h1 h2 => ?_⟩
  · obtain ⟨j, hj⟩ := List.getElem?_of_mem hb
    rw [List.getElem?_set] at hj
    by_cases e : i = j
    · rw [if_pos e, if_pos hil] at hj
      cases hj
      exact ⟨ha', ab⟩
    · rw [if_neg e] at hj
      exact ⟨old j b (Ne.symm e) hj, fun g hg => h.above j hj hg⟩
  · rw [List.length_set] at hj hk'
    rw [List.getElem_set] at h1 h2
    by_cases e : i = j
    · rw [if_pos e] at h1
      rw [if_neg (by omega)] at h2
      exact far k _ g (by omega) (List.getElem?_eq_getElem hk') h2 h1
    · rw [if_neg e] at h1
      by_cases e' : i = k
      · rw [if_pos e'] at h2
        exact far j _ g (by omega) (List.getElem?_eq_getElem hj) h1 h2
      · rw [if_neg e'] at h2
        exact h.apart (by omega) (List.getElem?_eq_getElem hj) (List.getElem?_eq_getElem hk') h1 h2
/-- .. by a row of cells of its own that has grown -/
theorem Holds.grow {w0 w w' : World} {L : List Part} (h : Holds w0 w L) (i : Nat) {a : Part} (hi : L[i]? = some a) (a' : Part) (ha' : a'.ok w') {r : Option Nat} (hg : w.grownBy w' r) (hr : ∀ g, r = some g → a.own g) (hn : ∀ g, a'.own g → a.own g ∨ w.heap.size ≤ g) : Holds w0 w' (L.set i a') :=
  h.turn i hi a' ha' hg.os hg.tape hg.output hg.size (fun g hl ho => hg.block g hl fun e => ho (hr g e.symm)) hn
theorem heap_setCell_ne (w : World) (g j k : Nat) (v : Value) (h : k ≠ g) : (w.setCell ⟨g, j, none⟩ v).heap[k]? = w.heap[k]? := Below.heap_setCell w ⟨g, j, none⟩ v k h
/-- a store into a cell of a block -/
theorem Holds.set {w0 w : World} {L : List Part} (h : Holds w0 w L) (i : Nat) {g : Nat} {c : Array Value} {t : TypeId} (hi : L[i]? = some (pBlk g c t)) (j : Nat) (v : Value) : Holds w0 (w.setCell ⟨g, j, none⟩ v) (L.set i (pBlk g (c.setIfInBounds j v) t)) :=
  h.turn i hi _ (heap_setCell_same _ _ _ _ _ _ (h.at i hi)) rfl rfl rfl (by simp) (fun k _ ho => heap_setCell_ne _ _ _ _ _ ho) fun k hk => .inl hk
/-- a store of a whole block -/
theorem Holds.setRow {w0 w : World} {L : List Part} (h : Holds w0 w L) (i : Nat) {g : Nat} {c : Array Value} {t : TypeId} (hi : L[i]? = some (pBlk g c t)) (c' : Array Value) : Holds w0 (w.setRow g c') (L.set i (pBlk g c' t)) :=
  h.turn i hi _ (setRow_heap _ _ _ _ t (0, 0) (h.at i hi)) rfl rfl rfl (by simp) (fun k _ ho => setRow_other _ _ _ _ ho) fun k hk => .inl hk
/-- what the walk asks of a block -/
theorem Holds.cells {w0 w : World} {L : List Part} (h : Holds w0 w L) (i : Nat) {g : Nat} {c : Array Value} {t : TypeId} (hi : L[i]? = some (pBlk g c t)) : cellsOf w g = c := cellsOf_heap (h.at i hi)
theorem Holds.rowOk {w0 w : World} {L : List Part} (h : Holds w0 w L) (i : Nat) {g : Nat} {c : Array Value} {t : TypeId} (hi : L[i]? = some (pBlk g c t)) {n : Nat} (hn : c.size = n) : rowOk w g n := ⟨c, t, h.at i hi, hn⟩
theorem Holds.cell {w0 w : World} {L : List Part} (h : Holds w0 w L) (i : Nat) {g : Nat} {c : Array Value} {t : TypeId} (hi : L[i]? = some (pBlk g c t)) {j : Nat} {v : Value} (hv : c[j]? = some v) : w.cell? ⟨g, j, none⟩ = some v := by rw [cell_of_cells, h.cells i hi]; exact hv
theorem Holds.frozen {w0 w : World} {L : List Part} (h : Holds w0 w L) (i : Nat) {g : Nat} {c : Array Value} {t : TypeId} (hi : L[i]? = some (pBlk g c t)) (j : Nat) : w.frozen? ⟨g, j, none⟩ = false := by
  have := h.at i hi
  simp only [pBlk] at this
  simp [World.frozen?, this]
theorem Holds.lt {w0 w : World} {L : List Part} (h : Holds w0 w L) (i : Nat) {g : Nat} {c : Array Value} {t : TypeId} (hi : L[i]? = some (pBlk g c t)) : g < w.heap.size := lt_of_some (h.at i hi)
/-- a row by its cells -/
theorem row_at {w : World} {B : Nat} {v : Value} {e : TypeId} {s n : Nat} {xs : List Value} (h : w.ownsRow B e s v n xs) (hn : 0 < n) :
    ∃ g c, v = .slice (some ⟨g, 0, none⟩) n c ∧ B ≤ g ∧ g < w.heap.size ∧ n ≤ c ∧ c ≤ maxLen ∧ (∀ j u, xs[j]? = some u → w.cell? ⟨g, j, none⟩ = some u) ∧ ∀ j, w.frozen? ⟨g, j, none⟩ = false := by
  rcases h.2 with ⟨_, e⟩ | ⟨g, cap, cur, rfl, hB, hh, h1, h2, h3, h4⟩
  · omega
  · refine ⟨g, cap, rfl, hB, lt_of_some hh, h1, h2, fun j u hu => ?_, fun j => by simp [World.frozen?, hh]⟩
    rw [cell_of_cells, cellsOf_heap hh]
    have hj : j < xs.length := (List.getElem?_eq_some_iff.1 hu).1
    rw [h.1] at hj
    rw [← h4, List.getElem?_take_of_lt hj, Array.getElem?_toList] at hu
    exact hu
theorem Holds.row {w0 w : World} {L : List Part} (h : Holds w0 w L) (i : Nat) {v : Value} {e : TypeId} {s n : Nat} {xs : List Value} (hi : L[i]? = some (pRow v e s n xs)) : w.ownsRow w0.heap.size e s v n xs := by
  have h1 : w.ownsRow 0 e s v n xs := h.at i hi
  refine ⟨h1.1, ?_⟩
  rcases h1.2 with c | ⟨g, cap, cur, rfl, _, k⟩
  · exact .inl c
  · exact .inr ⟨g, cap, cur, rfl, h.above i hi rfl, k⟩
theorem row_low {w : World} {B B' : Nat} {e : TypeId} {s n : Nat} {v : Value} {xs : List Value} (h : w.ownsRow B e s v n xs) (hB : B' ≤ B) : w.ownsRow B' e s v n xs :=
  ⟨h.1, h.2.imp id fun ⟨g, cap, cur, h1, h2, h3⟩ => ⟨g, cap, cur, h1, by omega, h3⟩⟩
/-- a new row -/
theorem Holds.newRow {w0 w w' : World} {L : List Part} (h : Holds w0 w L) (hb : Below w.heap.size w w') {v : Value} {e : TypeId} {s n : Nat} {xs : List Value} (hr : w'.ownsRow w.heap.size e s v n xs) : Holds w0 w' (pRow v e s n xs :: L) :=
  h.new hb _ (row_low hr (Nat.zero_le _)) fun g hg => (hr.lt g hg).1
/-- a block that is a row -/
theorem Holds.rowNew {w0 w : World} {L : List Part} (h : Holds w0 w L) (cs : Array Value) (e : TypeId) (s n g : Nat) (hg : g = w.heap.size) (hs : cs.size = n * s) (hn : n ≤ maxLen) : Holds w0 (w.alloc (.cells cs e)) (pRow (.slice (some ⟨g, 0, none⟩) n n) e s n cs.toList :: L) :=
by
  have hr : (w.alloc (.cells cs e)).ownsRow 0 e s (.slice (some ⟨g, 0, none⟩) n n) n cs.toList :=
    ⟨by rw [Array.length_toList]; exact hs, .inr ⟨g, n, cs, rfl, Nat.zero_le _, heap_at _ _ _ hg, Nat.le_refl _, hn, hs, by rw [← hs, ← Array.length_toList, List.take_length]⟩⟩
  refine h.new (below1 w _) _ hr fun k hk => ?_
  have : g = k := by simpa [pRow, Value.ownBlock] using hk
  omega
theorem Holds.nilRow {w0 w : World} {L : List Part} (h : Holds w0 w L) (e : TypeId) (s : Nat) : Holds w0 w (pRow (.slice none 0 0) e s 0 [] :: L) :=
  h.new (Below.refl _ _) _ (World.ownsRow_nil _ _ _ _) fun g hg => by cases hg
end Go.Proofs.Ytpkfjdaedaplfaa

namespace Go.Proofs.Ytpkfjdaedaplfaa
open Go.RowKit

section
variable {P : Program} {w : World}
/-- where a grown row lies -/
theorem append_lies (B : Nat) (t ty e : TypeId) (i : TypeInfo) (z : Value) (size bytes : Nat) (ht : P.underlying t = some (.slice e)) (hi : P.info? e = some i) (hz : i.zero = some z)
    (hsize : i.size = size) (hby : i.bytes = bytes) (hzs : z.cells.size = size) (hsz : 0 < size)
    (v : Value) (n : Nat) (xs : List Value) (hown : w.ownsRow B e size v n xs)
    (a : Addr) (m c : Nat) (news : List Value) (hl : news.length = m * size) (hnews : ∀ j u, news[j]? = some u → w.cell? (a.add j) = some u) (h1 : ∀ u ∈ news, u.oneCell' = true)
    (h63 : n + m ≤ maxLen) (hbytes : (n + m) * bytes ≤ 140737488355328) (hbase : B ≤ w.heap.size) {v' : Value} {w' : World} (hr : (Builtin.append_ #[t, t] ty #[v, .slice (some a) m c]).run P w = .ok v' w') :
    ∀ g, v'.ownBlock = some g → v.ownBlock = some g ∨ w.heap.size ≤ g := by
  intro g hg
  rcases hown.2 with ⟨rfl, rfl⟩ | ⟨g0, cap, cur, rfl, hbg, hg0, hnc, hcm, hcs, htake⟩
  · have hx : xs = [] := List.eq_nil_of_length_eq_zero (by simpa using hown.1)
    obtain ⟨v2, w2, hr2, ho2, _⟩ := run_append_own (P := P) w w.heap.size t ty e i z size bytes ht hi hz hsize hby hzs hsz (.slice none 0 0) 0 [] (World.ownsRow_nil _ _ _ _) a m c news hl hnews h1 h63 hbytes (Nat.le_refl _)
    rw [hr] at hr2
    cases hr2
    exact .inr (ho2.lt g hg).1
  · by_cases hroom : n + m ≤ cap
    · subst hsize
      have hfit : n * i.size + news.length ≤ cur.size := by rw [hl, hcs, ← Nat.add_mul]; exact Nat.mul_le_mul_right _ hroom
      rw [run_append_room (P := P) w t ty e i ht hi g0 n cap cur hg0 a m c news hl hnews h1 hroom hfit] at hr
      cases hr
      exact .inl hg
    · subst hsize
      subst hby
      have h63' : n + m ≤ 9223372036854775807 := by simp only [maxLen] at h63; omega
      rw [run_append_grow (P := P) w t ty e i z ht hi hz ⟨g0, 0, none⟩ n cap xs hown.1 (hown.cells (g := g0) rfl) a m c news hl hnews (by omega) (by omega) (growslice_fits (by omega) hbytes)] at hr
      cases hr
      refine .inr ?_
      have : w.heap.size = g := by simpa [Value.ownBlock] using hg
      omega

theorem appH {ops : Array Oper} {rest : List Oper} {o : Oper} {a : Act} {Q : Exit → Act → World → Prop} (hgd : o.guard = none) (s x : Operand) (t : TypeId)
    (ho : o.op = .call { callee := .builtin .append, args := #[s, x], argTypes := #[t, t] })
    (e : TypeId) (i : TypeInfo) (z : Value) (size bytes : Nat) (ht : P.underlying t = some (.slice e)) (hi : P.info? e = some i) (hz : i.zero = some z)
    (hsize : i.size = size) (hby : i.bytes = bytes) (hzs : z.cells.size = size) (hsz : 0 < size)
    (v : Value) (n : Nat) (xs : List Value) (hs : a.eval s = v) {w0 : World} {L : List Part} (H : Holds w0 w L) (k : Nat) (hk : L[k]? = some (pRow v e size n xs))
    (ad : Addr) (m c : Nat) (news : List Value) (hx : a.eval x = .slice (some ad) m c) (hl : news.length = m * size) (hnews : ∀ j u, news[j]? = some u → w.cell? (ad.add j) = some u) (h1 : ∀ u ∈ news, u.oneCell' = true)
    (h63 : n + m ≤ maxLen) (hbytes : (n + m) * bytes ≤ 140737488355328)
    (h : ∀ v' w', Holds w0 w' (L.set k (pRow v' e size (n + m) (xs ++ news))) → wpList P ops Q rest (a.put o.dst v') w') : wpList P ops Q (o :: rest) a w := by
  have hown := H.row k hk
  refine wpList_plain hgd fun _ hK => ?_
  obtain ⟨v', w', hr, h2, h3, h4⟩ := run_append_own (P := P) w w0.heap.size t o.type e i z size bytes ht hi hz hsize hby hzs hsz v n xs hown ad m c news hl hnews h1 h63 hbytes H.size
  have h5 := append_lies w0.heap.size t o.type e i z size bytes ht hi hz hsize hby hzs hsz v n xs hown ad m c news hl hnews h1 h63 hbytes H.size hr
  unfold Oper.wp execOp
  simp only [ho, resolve, invoke, builtin, Sem.run_bind, Sem.run_pure, Result.andThen_ok, List.map_toArray, List.map_cons, List.map_nil, hs, hx, hr]
  exact hK _ _ (h v' w' (H.grow k hk _ (row_low h2 (Nat.zero_le _)) h3 (fun g hg => hg) h5))
/-- the same as a run -/
theorem run_appH (t ty : TypeId) (e : TypeId) (i : TypeInfo) (z : Value) (size bytes : Nat) (ht : P.underlying t = some (.slice e)) (hi : P.info? e = some i) (hz : i.zero = some z)
    (hsize : i.size = size) (hby : i.bytes = bytes) (hzs : z.cells.size = size) (hsz : 0 < size)
    (v : Value) (n : Nat) (xs : List Value) {w0 : World} {L : List Part} (H : Holds w0 w L) (k : Nat) (hk : L[k]? = some (pRow v e size n xs))
    (ad : Addr) (m c : Nat) (news : List Value) (hl : news.length = m * size) (hnews : ∀ j u, news[j]? = some u → w.cell? (ad.add j) = some u) (h1 : ∀ u ∈ news, u.oneCell' = true)
    (h63 : n + m ≤ maxLen) (hbytes : (n + m) * bytes ≤ 140737488355328) :
    ∃ v' w', (Builtin.append_ #[t, t] ty #[v, .slice (some ad) m c]).run P w = .ok v' w' ∧ Holds w0 w' (L.set k (pRow v' e size (n + m) (xs ++ news))) ∧ w.heap.size ≤ w'.heap.size := by
  have hown := H.row k hk
  obtain ⟨v', w', hr, h2, h3, h4⟩ := run_append_own (P := P) w w0.heap.size t ty e i z size bytes ht hi hz hsize hby hzs hsz v n xs hown ad m c news hl hnews h1 h63 hbytes H.size
  have h5 := append_lies w0.heap.size t ty e i z size bytes ht hi hz hsize hby hzs hsz v n xs hown ad m c news hl hnews h1 h63 hbytes H.size hr
  exact ⟨v', w', hr, H.grow k hk _ (row_low h2 (Nat.zero_le _)) h3 (fun g hg => hg) h5, h3.size⟩
theorem exec_append {o : Oper} {a : Act} {s x : Operand} {t : TypeId} (ho : o.op = .call { callee := .builtin .append, args := #[s, x], argTypes := #[t, t] }) {v v' u : Value} {w' : World} (hs : a.eval s = v) (hx : a.eval x = u)
    (hr : (Builtin.append_ #[t, t] o.type #[v, u]).run P w = .ok v' w') : (execOp a.eval o).run P w = .ok (.value v') w' := by
  unfold execOp
  simp only [ho, resolve, invoke, builtin, Sem.run_bind, Sem.run_pure, Result.andThen_ok, List.map_toArray, List.map_cons, List.map_nil, hs, hx, hr]
end
end Go.Proofs.Ytpkfjdaedaplfaa

namespace Go.Proofs.Ytpkfjdaedaplfaa

/-- what has been met behind j steps from i -/
@[irreducible] def Mj (p : Nat → Nat) (m0 : Nat → Bool) (i j : Nat) : Nat → Bool := fun y => m0 y || ((List.range j).map fun a => it p a i).contains y
theorem Mj_zero (p : Nat → Nat) (m0 : Nat → Bool) (i : Nat) : Mj p m0 i 0 = m0 := by unfold Mj; funext y; simp
theorem Mj_step (p : Nat → Nat) (m0 : Nat → Bool) (i j : Nat) : mset (Mj p m0 i j) (it p j i) = Mj p m0 i (j + 1) := by
  unfold Mj
  funext y
  simp only [mset, List.range_succ, List.map_append, List.map_cons, List.map_nil, List.contains_eq_mem, List.mem_append, List.mem_singleton]
  rw [Bool.eq_iff_iff]; simp only [Bool.or_eq_true, beq_iff_eq, decide_eq_true_eq]
  constructor
  · rintro (a | b | c); exact .inr (.inr a); exact .inl b; exact .inr (.inl c)
  · rintro (b | c | a); exact .inr (.inl b); exact .inr (.inr c); exact .inl a
section
variable {p : Nat → Nat} {n k : Nat}
theorem met_closed (h : Bij p n) (hn : n ≤ 16) (hk : k < n) : ∀ y, y < n → cycs.met p k (p y) = true → cycs.met p k y = true := by
  intro y hy hmy
  obtain ⟨_, h2⟩ := cycs_spec h hn k (by omega)
  obtain ⟨x, hx, r⟩ := (h2 _).1 hmy
  exact (h2 _).2 ⟨x, hx, r.trans (R.symm h hy (R.step y))⟩
theorem met_it (h : Bij p n) (hn : n ≤ 16) (hk : k < n) (hb : cycs.met p k k = false) (j : Nat) : cycs.met p k (it p j k) = false := by
  induction j with
  | zero => exact hb
  | succ j ih =>
    rcases hc : cycs.met p k (it p (j + 1) k) with _ | _
    · rfl
    · have := met_closed h hn hk _ (h.it_lt j hk) hc; rw [ih] at this; cases this
theorem Mj_false (h : Bij p n) (hn : n ≤ 16) (hk : k < n) (hb : cycs.met p k k = false) {j : Nat} (hj : j < per p k) : Mj p (cycs.met p k) k j (it p j k) = false := by
  unfold Mj
  rw [met_it h hn hk hb, Bool.false_or, Bool.eq_false_iff]
  simp only [ne_eq, List.contains_iff_mem, List.mem_map, List.mem_range, not_exists, not_and]
  exact fun i hi e => it_distinct h hk hi hj e
theorem Mj_true (h : Bij p n) (hk : k < n) : Mj p (cycs.met p k) k (per p k) (it p (per p k) k) = true := by
  unfold Mj
  rw [(per_spec h hk).2.2.1]
  have : ((List.range (per p k)).map fun a => it p a k).contains k = true := by
    simp only [List.contains_iff_mem]
    exact (mem_orbit h hk).2 (R.refl k)
  rw [this, Bool.or_true]
theorem cycs_new (h : Bij p n) (hn : n ≤ 16) (hk : k < n) (hb : cycs.met p k k = false) : cycs p (k + 1) = cycs p k ++ [orbit p k] ∧ cycs.met p (k + 1) = Mj p (cycs.met p k) k (per p k) := by
  obtain ⟨e1, e2⟩ := cyc_orbit h hk (f := 17) (by omega) _ (met_closed h hn hk) hb
  have hne : orbit p k ≠ [] := by
    intro e
    have : k ∈ orbit p k := (mem_orbit h hk).2 (R.refl k)
    rw [e] at this; cases this
  refine ⟨by simp only [cycs, e1, if_neg hne], ?_⟩
  show cycMet p 17 (cycs.met p k) k = _
  rw [e2]
  unfold Mj orbit
  rfl
theorem cycs_old (hb : cycs.met p k k = true) : cycs p (k + 1) = cycs p k ∧ cycs.met p (k + 1) = cycs.met p k := by
  have ec : cyc p 17 (cycs.met p k) k = [] := by simp [cyc, hb]
  have em : cycMet p 17 (cycs.met p k) k = cycs.met p k := by simp [cycMet, hb]
  exact ⟨by simp only [cycs, ec, if_true], em⟩
/-- the first j numbers of the cycle of k -/
def orbTo (p : Nat → Nat) (k j : Nat) : List Nat := (List.range j).map fun a => it p a k
theorem orbTo_zero (p : Nat → Nat) (k : Nat) : orbTo p k 0 = [] := rfl
theorem orbTo_step (p : Nat → Nat) (k j : Nat) : orbTo p k (j + 1) = orbTo p k j ++ [it p j k] := by unfold orbTo; rw [List.range_succ, List.map_append]; rfl
theorem orbTo_length (p : Nat → Nat) (k j : Nat) : (orbTo p k j).length = j := by unfold orbTo; simp
theorem orbTo_per (p : Nat → Nat) (k : Nat) : orbTo p k (per p k) = orbit p k := rfl
theorem cycs_len_le (h : Bij p n) (hn : n ≤ 16) (hk : k ≤ n) : (cycs p k).length ≤ 16 := by
  rw [(cycs_spec h hn k hk).1, List.length_map]
  exact Nat.le_trans (List.length_filter_le _ _) (by simp; omega)
/-- both ways at once: how many steps the walk from k takes -/
theorem cyc_J (h : Bij p n) (hn : n ≤ 16) (hk : k < n) : ∃ J, J ≤ 16 ∧ (∀ j, j < J → Mj p (cycs.met p k) k j (it p j k) = false) ∧ Mj p (cycs.met p k) k J (it p J k) = true ∧
    cycs p (k + 1) = (if J = 0 then cycs p k else cycs p k ++ [orbTo p k J]) ∧ cycs.met p (k + 1) = Mj p (cycs.met p k) k J := by
  rcases hb : cycs.met p k k with _ | _
  · obtain ⟨e1, e2⟩ := cycs_new h hn hk hb
    have hp := per_spec h hk
    exact ⟨per p k, by omega, fun j hj => Mj_false h hn hk hb hj, Mj_true h hk, by rw [e1, if_neg (by omega), orbTo_per], e2⟩
  · obtain ⟨e1, e2⟩ := cycs_old hb
    exact ⟨0, by omega, by omega, by rw [Mj_zero]; exact hb, by rw [e1, if_pos rfl], by rw [e2, Mj_zero]⟩
end
end Go.Proofs.Ytpkfjdaedaplfaa

namespace Go.Proofs.Ytpkfjdaedaplfaa
open Go.RowKit

/-- a permutation of n numbers, as the document has it -/
def PermN (f : Nat → Nat) (n : Nat) : Prop := 1 ≤ n ∧ n ≤ 16 ∧ Bij f n ∧ ∀ i, n ≤ i → i < 16 → f i = 0
open Classical in
@[irreducible] noncomputable def permB (f : Nat → Nat) (n : Int) : Bool := decide (0 ≤ n ∧ PermN f n.toNat)
theorem permB_yes {f : Nat → Nat} {m : Nat} (h : PermN f m) : permB f (m : Int) = true := by unfold permB; simpa using h
theorem permB_no {f : Nat → Nat} {m : Nat} (h : ¬ PermN f m) : permB f (m : Int) = false := by unfold permB; simpa using h
theorem permB_out {f : Nat → Nat} {n : Int} (h : ¬ (1 ≤ n ∧ n ≤ 16)) : permB f n = false := by
  unfold permB; simp only [decide_eq_false_iff_not]
  rintro ⟨h0, h1, h2, _⟩
  omega
theorem permB_true {f : Nat → Nat} {n : Int} (h : permB f n = true) : ∃ m : Nat, n = (m : Int) ∧ PermN f m := by
  unfold permB at h; simp only [decide_eq_true_eq] at h
  exact ⟨n.toNat, by omega, h.2⟩

/-- what the first k entries have met -/
@[irreducible] def metk (f : Nat → Nat) (k : Nat) : Nat → Bool := fun y => (List.range k).any fun i => f i == y
theorem metk_iff (f : Nat → Nat) (k y : Nat) : metk f k y = true ↔ ∃ i, i < k ∧ f i = y := by unfold metk; simp
theorem metk_zero (f : Nat → Nat) : metk f 0 = fun _ => false := by unfold metk; rfl
theorem metk_step (f : Nat → Nat) (k : Nat) : mset (metk f k) (f k) = metk f (k + 1) := by
  funext y
  rw [Bool.eq_iff_iff]
  simp only [mset, Bool.or_eq_true, beq_iff_eq, metk_iff]
  constructor
  · rintro (rfl | ⟨i, hi, rfl⟩)
    · exact ⟨k, by omega, rfl⟩
    · exact ⟨i, by omega, rfl⟩
  · rintro ⟨i, hi, rfl⟩
    by_cases c : i = k
    · subst c; exact .inl rfl
    · exact .inr ⟨i, by omega, rfl⟩


-- left out here: loop.example/g01200/impl.isDartCount
-- left out here: loop.example/g01200/impl.isDartCount
-- left out here: loop.example/g01200/impl.IsPermutation loop.example/g01200/impl.isDartCount
end Go.Proofs.Ytpkfjdaedaplfaa

namespace Go.Proofs.Ytpkfjdaedaplfaa
open Go.RowKit

theorem info64 : (Try.prog.info? 2).map (fun i => (i.zero, i.size, i.bytes)) = some (some (.int .i64 0), 1, 8) := by kernel_rfl
theorem infoSl : (Try.prog.info? 79).map (fun i => (i.zero, i.size, i.bytes)) = some (some (.slice none 0 0), 1, 24) := by kernel_rfl

-- left out here: loop.example/g01200/impl.cycleList
end Go.Proofs.Ytpkfjdaedaplfaa

namespace Go.Proofs.Ytpkfjdaedaplfaa
open Go.RowKit

def pInts (v : Value) (l : List Nat) : Part := pRow v 2 1 l.length (nums l)
theorem nums_length (l : List Nat) : (nums l).length = l.length := by unfold nums; simp
theorem nums_at {l : List Nat} {k : Nat} (hk : k < l.length) : (nums l)[k]? = some (.int .i64 (l[k] : Nat)) := by unfold nums; simp [hk]
theorem Holds.ints {w0 w : World} {L : List Part} (h : Holds w0 w L) (i : Nat) {v : Value} {l : List Nat} (hi : L[i]? = some (pInts v l)) {k : Nat} (hk : k < l.length) :
    ∃ g c, v = .slice (some ⟨g, 0, none⟩) l.length c ∧ g < w.heap.size ∧ w.cell? ⟨g, k, none⟩ = some (.int .i64 (l[k] : Nat)) ∧ w.frozen? ⟨g, k, none⟩ = false := by
  obtain ⟨g, c, h1, h2, h3, h4, h5, h6, h7⟩ := row_at (h.row i hi) (by omega : 0 < l.length)
  exact ⟨g, c, h1, h3, h6 _ _ (nums_at hk), h7 k⟩
theorem Holds.intsForm {w0 w : World} {L : List Part} (h : Holds w0 w L) (i : Nat) {v : Value} {l : List Nat} (hi : L[i]? = some (pInts v l)) : ∃ A c, v = .slice A l.length c := own_slice (h.row i hi)
theorem Holds.own1 {w0 w : World} {L : List Part} (h : Holds w0 w L) (i : Nat) {v : Value} {l : List Nat} (hi : L[i]? = some (pInts v l)) : Own1 w0.heap.size w v l := h.row i hi
theorem nums_one {l : List Nat} : ∀ u ∈ nums l, u.oneCell' = true := by
  intro u hu
  obtain ⟨x, _, rfl⟩ := List.mem_map.1 hu
  rfl
/-- one number more -/
theorem appI {ops : Array Oper} {rest : List Oper} {o : Oper} {a : Act} {Q : Exit → Act → World → Prop} {w0 w : World} {L : List Part} (H : Holds w0 w L) (k : Nat) {v : Value} {l : List Nat} (hk : L[k]? = some (pInts v l))
    (g : Nat) (news : List Nat) (t : TypeId) (hc : w.heap[g]? = some (.cells (nums news).toArray t (0, 0))) (hb : l.length + news.length ≤ 1000000)
    (hgd : o.guard = none) (s x : Operand)
    (ho : o.op = .call { callee := .builtin .append, args := #[s, x], argTypes := #[79, 79] })
    (hs : a.eval s = v) (hx : a.eval x = .slice (some ⟨g, 0, none⟩) news.length news.length)
    (h : ∀ v' w', Holds w0 w' (L.set k (pInts v' (l ++ news))) → wpList Try.prog ops Q rest (a.put o.dst v') w') : wpList Try.prog ops Q (o :: rest) a w := by
  obtain ⟨i0, hi, hz0, hz1, hz2⟩ := info_parts info64
  refine appH (P := Try.prog) hgd s x 79 ho 2 i0 (.int .i64 0) 1 8 Try.underlying79 hi hz0 hz1 hz2 rfl (by decide) v l.length (nums l) hs H k hk ⟨g, 0, none⟩ news.length news.length (nums news) hx
    (by rw [nums_length]; omega) (fun j u hu => ?_) nums_one (by unfold maxLen; omega) (by omega) fun v' w' h1 => h v' w' ?_
  · have : ((⟨g, 0, none⟩ : Addr).add j) = ⟨g, j, none⟩ := by simp [Addr.add]; exact Eq.symm
    rw [this, cell_of_cells, cellsOf_heap hc]
    simpa using hu
  · unfold pInts at *
    have e : nums (l ++ news) = nums l ++ nums news := by unfold nums; simp
    rw [List.length_append, e]
    exact h1
end Go.Proofs.Ytpkfjdaedaplfaa

namespace Go.Proofs.Ytpkfjdaedaplfaa
open Go.RowKit

theorem Holds.perm {w0 w : World} {L L' : List Part} (h : Holds w0 w L) (hp : L.Perm L') : Holds w0 w L' :=
  ⟨h.1, fun a ha => h.2.1 a (hp.mem_iff.2 ha), (hp.pairwise_iff (R := fun a b : Part => ∀ g, a.own g → b.own g → False) (fun {a b} hab g hb ha => hab g ha hb)).1 h.2.2⟩
theorem Holds.third {w0 w : World} {a b c : Part} {L : List Part} (h : Holds w0 w (a :: b :: c :: L)) : Holds w0 w (b :: c :: a :: L) :=
  h.perm ((List.Perm.swap b a (c :: L)).trans ((List.Perm.swap c a L).cons b))
/-- a store into a cell of a row -/
theorem Holds.put {w0 w : World} {L : List Part} (h : Holds w0 w L) (i : Nat) {g n c : Nat} {e : TypeId} {s : Nat} {xs : List Value} (hi : L[i]? = some (pRow (.slice (some ⟨g, 0, none⟩) n c) e s n xs)) (j : Nat) (u : Value) :
    Holds w0 (w.setCell ⟨g, j, none⟩ u) (L.set i (pRow (.slice (some ⟨g, 0, none⟩) n c) e s n (xs.set j u))) := by
  have h1 : w.ownsRow 0 e s (.slice (some ⟨g, 0, none⟩) n c) n xs := h.at i hi
  have h2 := World.ownsRow.stored h1 j u
  exact h.grow i hi _ h2.1 h2.2 (fun k hk => by cases hk; rfl) fun k hk => .inl hk
section
variable {P : Program} {ops : Array Oper} {rest : List Oper} {o : Oper} {a : Act} {Q : Exit → Act → World → Prop} {w : World}
/-- make([]T, n) -/
theorem makeH (hgd : o.guard = none) (t : TypeId) (x y : Operand) (ho : o.op = .makeSlice t x y) (e : TypeId) (i : TypeInfo) (z : Value) (bytes : Nat) (ht : P.underlying t = some (.slice e)) (hi : P.info? e = some i) (hz : i.zero = some z)
    (hsize : i.size = 1) (hby : i.bytes = bytes) (hzs : z.cells = #[z]) (n : Nat) (kx ky : IntKind) (hx : a.eval x = .int kx (n : Int)) (hy : a.eval y = .int ky (n : Int)) (hn : n ≤ 1000000) (hb : bytes ≤ 64)
    {w0 : World} {L : List Part} (H : Holds w0 w L)
    (h : ∀ w', Holds w0 w' (pRow (.slice (some ⟨w.heap.size, 0, none⟩) n n) e 1 n (List.replicate n z) :: L) → wpList P ops Q rest (a.put o.dst (.slice (some ⟨w.heap.size, 0, none⟩) n n)) w') : wpList P ops Q (o :: rest) a w := by
  refine wpList_plain hgd fun _ hK => ?_
  have h1 : bytes * n ≤ 64 * 1000000 := Nat.mul_le_mul hb hn
  obtain ⟨w', hr, ho', hg⟩ := run_makeSlice_full (P := P) w w.heap.size t e i z 1 ht hi hz hsize kx ky n (by omega) (by rw [hby]; omega) (by unfold maxLen; omega) (Nat.le_refl _)
  rw [hzs, Nat.mul_one, toList_madeCells_one] at ho'
  unfold Oper.wp execOp
  simp only [ho, hx, hy, Sem.run_bind, Sem.run_pure, Result.andThen_ok, hr]
  refine hK _ _ (h w' (H.newRow ⟨hg.os, hg.tape, hg.output, hg.size, fun g hl => hg.block g hl (by simp)⟩ ho'))
end
/-- the rows of a list of lists, a part each -/
def rowsP : List Value → List (List Nat) → List Part
  | v :: vs, l :: ls => pInts v l :: rowsP vs ls
  | _, _ => []
theorem rowsP_snoc {vs : List Value} {ls : List (List Nat)} (hl : vs.length = ls.length) (u : Value) (l : List Nat) : rowsP (vs ++ [u]) (ls ++ [l]) = rowsP vs ls ++ [pInts u l] := by
  induction vs generalizing ls with
  | nil => cases ls with
    | nil => rfl
    | cons => simp at hl
  | cons v vs ih => cases ls with
    | nil => simp at hl
    | cons m ls => simp only [List.cons_append, rowsP]; rw [ih (by simpa using hl)]
theorem rowsP_at {vs : List Value} {ls : List (List Nat)} {i : Nat} {u : Value} {l : List Nat} (h1 : vs[i]? = some u) (h2 : ls[i]? = some l) : (rowsP vs ls)[i]? = some (pInts u l) := by
  induction vs generalizing ls i with
  | nil => simp at h1
  | cons v vs ih => cases ls with
    | nil => simp at h2
    | cons m ls =>
      cases i with
      | zero => simp at h1 h2; subst h1 h2; rfl
      | succ i => simp at h1 h2; simp only [rowsP, List.getElem?_cons_succ]; exact ih h1 h2
theorem Holds.rowEnd {w0 w : World} {u : Value} {l : List Nat} {A : List Part} {vs : List Value} {ls : List (List Nat)} (hl : vs.length = ls.length) (h : Holds w0 w (pInts u l :: (A ++ rowsP vs ls))) : Holds w0 w (A ++ rowsP (vs ++ [u]) (ls ++ [l])) := by
  refine h.perm ?_
  rw [rowsP_snoc hl, ← List.append_assoc]
  exact (List.perm_append_comm (l₁ := [pInts u l]) (l₂ := A ++ rowsP vs ls))
/-- a row of slices, its part -/
def pVals (v : Value) (vs : List Value) : Part := pRow v 79 1 vs.length vs
theorem Holds.own2 {w0 w : World} {v : Value} {A : List Part} {vs : List Value} {ls : List (List Nat)} (hl : vs.length = ls.length) (h : Holds w0 w (A ++ pVals v vs :: rowsP vs ls)) : Own2 w0.heap.size w v ls := by
  have h' : Holds w0 w (pVals v vs :: rowsP vs ls) := h.sub (List.sublist_append_right _ _)
  have at_ : ∀ (i : Nat) (u : Value) (l : List Nat), vs[i]? = some u → ls[i]? = some l → (pVals v vs :: rowsP vs ls)[i + 1]? = some (pInts u l) := fun i u l h1 h2 => by rw [List.getElem?_cons_succ]; exact rowsP_at h1 h2
  refine ⟨vs, hl, h'.row 0 rfl, fun i u l h1 h2 => h'.own1 (i + 1) (at_ i u l h1 h2), fun i j u u' hij h1 h2 => ?_⟩
  rcases hb : u.ownBlock with _ | g
  · exact .inl rfl
  · refine .inr fun e => ?_
    have li : i < ls.length := by rw [← hl]; exact (List.getElem?_eq_some_iff.1 h1).1
    have lj : j < ls.length := by rw [← hl]; exact (List.getElem?_eq_some_iff.1 h2).1
    exact h'.apart (i := i + 1) (j := j + 1) (by omega) (at_ i u _ h1 (List.getElem?_eq_getElem li)) (at_ j u' _ h2 (List.getElem?_eq_getElem lj)) (g := g) hb e.symm
theorem Holds.valsForm {w0 w : World} {L : List Part} (h : Holds w0 w L) (i : Nat) {v : Value} {vs : List Value} (hi : L[i]? = some (pVals v vs)) : ∃ A c, v = .slice A vs.length c := own_slice (h.row i hi)
/-- one list more -/
theorem appRow {ops : Array Oper} {rest : List Oper} {o : Oper} {a : Act} {Q : Exit → Act → World → Prop} {w0 w : World} {L : List Part} (H : Holds w0 w L) (k : Nat) {v : Value} {vs : List Value} (hk : L[k]? = some (pVals v vs))
    (g : Nat) (u : Value) (hu : u.oneCell' = true) (t : TypeId) (hc : w.heap[g]? = some (.cells #[u] t (0, 0))) (hb : vs.length ≤ 1000000)
    (hgd : o.guard = none) (s x : Operand)
    (ho : o.op = .call { callee := .builtin .append, args := #[s, x], argTypes := #[69, 69] })
    (hs : a.eval s = v) (hx : a.eval x = .slice (some ⟨g, 0, none⟩) 1 1)
    (h : ∀ v' w', Holds w0 w' (L.set k (pVals v' (vs ++ [u]))) → wpList Try.prog ops Q rest (a.put o.dst v') w') : wpList Try.prog ops Q (o :: rest) a w := by
  obtain ⟨i0, hi, hz0, hz1, hz2⟩ := info_parts infoSl
  refine appH (P := Try.prog) hgd s x 69 ho 79 i0 (.slice none 0 0) 1 24 Try.underlying69 hi hz0 hz1 hz2 rfl (by decide) v vs.length vs hs H k hk ⟨g, 0, none⟩ 1 1 [u] hx
    rfl (fun j x hj => ?_) (fun x hx => by simp at hx; subst hx; exact hu) (by unfold maxLen; omega) (by omega) fun v' w' h1 => h v' w' ?_
  · have : ((⟨g, 0, none⟩ : Addr).add j) = ⟨g, j, none⟩ := by simp [Addr.add]; exact Eq.symm
    rw [this, cell_of_cells, cellsOf_heap hc]
    simpa using hj
  · unfold pVals
    rw [List.length_append]
    exact h1
end Go.Proofs.Ytpkfjdaedaplfaa

namespace Go.Proofs.Ytpkfjdaedaplfaa
open Go.RowKit

def zc (l : List Int) : List Value := l.map fun x => Value.int .i64 x
theorem zc_length (l : List Int) : (zc l).length = l.length := by simp [zc]
theorem zc_get (l : List Int) (i : Nat) : (zc l)[i]? = l[i]?.map (Value.int .i64) := by simp [zc]
/-- a list of numbers in a row of the call's own -/
def OwnZ (B : Nat) (w : World) (v : Value) (l : List Int) : Prop := w.ownsRow B 2 1 v l.length (zc l)
/-- a slice whose cells read as the list -/
def RdZ (w : World) (v : Value) (l : List Int) : Prop :=
  ∃ (A : Option Addr) (c : Nat), v = .slice A l.length c ∧ l.length ≤ 9223372036854775807 ∧ ∀ (i : Nat) (x : Int), l[i]? = some x → ∃ a, A = some a ∧ a.block < w.heap.size ∧ w.cell? (a.add i) = some (.int .i64 x)
theorem RdZ.form {w : World} {v : Value} {l : List Int} (h : RdZ w v l) : ∃ A c, v = .slice A l.length c ∧ l.length ≤ 9223372036854775807 := by
  obtain ⟨A, c, h1, h2, _⟩ := h; exact ⟨A, c, h1, h2⟩
theorem RdZ.at {w : World} {A : Option Addr} {n c k : Nat} {l : List Int} (h : RdZ w (.slice A n c) l) (hk : k < l.length) :
    ∃ a, A = some a ∧ a.block < w.heap.size ∧ w.cell? (a.add k) = some (.int .i64 l[k]) := by
  obtain ⟨A', c', e, _, h3⟩ := h
  injection e with e1 _ _
  subst e1
  exact h3 k _ (List.getElem?_eq_getElem hk)
theorem RdZ.below {C : Nat} {w w' : World} {v : Value} {l : List Int} (h : RdZ w v l) (hb : Below C w w') (hC : w.heap.size ≤ C) : RdZ w' v l := by
  obtain ⟨A, c, h1, h2, h3⟩ := h
  refine ⟨A, c, h1, h2, fun i x hx => ?_⟩
  obtain ⟨a, e, h4, h5⟩ := h3 i x hx
  refine ⟨a, e, Nat.lt_of_lt_of_le h4 hb.size, ?_⟩
  rw [← h5]
  have hq : (a.add i).block = a.block := by unfold Addr.add; split <;> rfl
  exact hb.cell (p := a.add i) (by omega)
theorem OwnZ.rd {B : Nat} {w : World} {v : Value} {l : List Int} (h : OwnZ B w v l) (hl : l.length ≤ 9223372036854775807) : RdZ w v l := by
  rcases h.2 with ⟨e, h0⟩ | ⟨g, cap, cur, e, hB, hh, h1, h2, h3, h4⟩
  · exact ⟨none, 0, by rw [e, h0], hl, fun i x hx => by have := (List.getElem?_eq_some_iff.1 hx).1; omega⟩
  · refine ⟨_, _, e, hl, fun i x hx => ⟨_, rfl, (Array.getElem?_eq_some_iff.1 hh).1, ?_⟩⟩
    have hadd : (⟨g, 0, none⟩ : Addr).add i = ⟨g, i, none⟩ := by unfold Addr.add; split <;> simp_all
    rw [hadd, cell_of_cells, cellsOf_heap hh]
    have hi := (List.getElem?_eq_some_iff.1 hx).1
    have e2 : (cur.toList.take (l.length * 1))[i]? = (zc l)[i]? := by rw [h4]
    rw [List.getElem?_take_of_lt (by omega), Array.getElem?_toList, zc_get, hx] at e2
    exact e2
theorem OwnZ.kept {B : Nat} {w w' : World} {v : Value} {l : List Int} {r : Option Nat} (h : OwnZ B w v l) (hg : w.grownBy w' r) (hne : v.ownBlock = none ∨ v.ownBlock ≠ r) : OwnZ B w' v l := World.ownsRow.kept h hg hne
theorem OwnZ.below {B C : Nat} {w w' : World} {v : Value} {l : List Int} (h : OwnZ B w v l) (hb : Below C w w') (hC : w.heap.size ≤ C) : OwnZ B w' v l := h.kept (grown_of_below (hb.mono hC) none) (Classical.em _)

-- left out here: loop.example/g01200/laws.szInt64S
set_option maxRecDepth 100000 in
set_option maxHeartbeats 400000 in
theorem eqInt64S_rd (l : List Int) (v v' : Value) (w : World) (h : RdZ w v l) (h' : RdZ w v' l) :
    Calls Try.prog 79 #[v, v'] w fun e w' => e = .returned (.bool true) ∧ Below w.heap.size w w' := by
  obtain ⟨A, c, rfl, hl⟩ := h.form
  obtain ⟨A', c', rfl, _⟩ := h'.form
  have H := hide h; clear h
  have H' := hide h'; clear h'
  have hne : ((l.length : Int) != (l.length : Int)) = false := by simp
  go_enter Try.func79, Try.ntmps79
  go_wp2
  go_loopw [5] (fun i wr => ∃ k : Nat, k ≤ l.length ∧ i = .int .i64 k ∧ Below w.heap.size w wr) (fun i _ => l.length - (intOf i).toNat)
  case atStart => exact ⟨0, by omega, rfl, Below.refl _ _⟩
  case round =>
    obtain ⟨k, hk, rfl, hb⟩ := hrel
    by_cases hlt : k < l.length
    · obtain ⟨a, rfl, _, c1⟩ := (H.out.below hb (Nat.le_refl _)).at hlt
      obtain ⟨a', rfl, _, c2⟩ := (H'.out.below hb (Nat.le_refl _)).at hlt
      generalize l[k] = x at *
      have hx : (x != x) = false := by simp
      go_wp2
      go_region
      all_goals go_wp2
      all_goals go_roundw
      case rel => exact ⟨k + 1, by omega, by go_num, hb.drew⟩
      case measure => simp [intOf]; omega
    · obtain rfl : k = l.length := by omega
      clear hlt hk
      go_wp2
      go_ret
      exact ⟨rfl, hb⟩

/-- the first k numbers, zeros behind them -/
def upZ (l : List Int) (k : Nat) : List Int := l.take k ++ List.replicate (l.length - k) 0
theorem upZ_length (l : List Int) {k : Nat} (h : k ≤ l.length) : (upZ l k).length = l.length := by unfold upZ; simp; omega
theorem upZ_set (l : List Int) {k : Nat} (h : k < l.length) : (upZ l k).set k l[k] = upZ l (k + 1) := by
  unfold upZ
  rw [List.set_append_right _ _ (by simp; omega), List.take_succ_eq_append_getElem h]
  have e : k - (l.take k).length = 0 := by simp; omega
  rw [e, show l.length - k = (l.length - (k + 1)) + 1 from by omega, List.replicate_succ, List.set_cons_zero, List.append_assoc]
  rfl

-- left out here: loop.example/g01200/laws.toInt64S
end Go.Proofs.Ytpkfjdaedaplfaa

namespace Go.Proofs.Ytpkfjdaedaplfaa
open Go.RowKit

set_option maxRecDepth 100000 in
set_option maxHeartbeats 400000 in
theorem markZ_any (l : List Int) (A : Option Addr) (c B k0 : Nat) (hl : l.length ≤ 140737488351232) (hk0 : k0 ≤ 140737488351232) (w : World) (h : OwnZ B w (.slice A l.length c) l) :
    Calls Try.prog 80 #[.slice A l.length c, .int .i64 k0] w fun e w' => e = .returned (.int .i64 (k0 + l.length : Nat)) ∧ w.grownBy w' (Value.slice A l.length c).ownBlock ∧ w'.ownsRow B 2 1 (.slice A l.length c) l.length (nums (marks k0 l.length)) := by
  have hz : ∀ k, k < l.length → (nums (marks k0 k) ++ (zc l).drop k)[k]? = some (.int .i64 (l.getD k 0)) := fun k hk => by
    rw [List.getElem?_append_right (by rw [nums_length, marks_length]; omega), nums_length, marks_length, Nat.sub_self, List.getElem?_drop, Nat.add_zero, zc_get]
    simp [hk]
  have hs : ∀ k, k < l.length → (nums (marks k0 k) ++ (zc l).drop k).set k (.int .i64 ((k0 + k : Nat) : Int)) = nums (marks k0 (k + 1)) ++ (zc l).drop (k + 1) := fun k hk => by
    rw [List.set_append_right _ _ (by rw [nums_length, marks_length]; omega), nums_length, marks_length, Nat.sub_self, List.drop_eq_getElem_cons (show k < (zc l).length by rw [zc_length]; exact hk), List.set_cons_zero]
    unfold marks nums
    rw [List.range_succ, List.map_append, List.map_append, List.append_assoc]; rfl
  have HZ := hide (And.intro hz hs); clear hz hs
  have h' : w.ownsRow B 2 1 (.slice A l.length c) l.length (zc l) := h
  clear h
  go_enter Try.func80, Try.ntmps80
  go_wp2
  go_loopw [1, 5] (fun q i wr => ∃ k : Nat, k ≤ l.length ∧ i = .int .i64 k ∧ q = .int .i64 (k0 + k : Nat) ∧ w.grownBy wr (Value.slice A l.length c).ownBlock ∧ wr.ownsRow B 2 1 (.slice A l.length c) l.length (nums (marks k0 k) ++ (zc l).drop k)) (fun _ i _ => l.length - (intOf i).toNat)
  case atStart => exact ⟨0, by omega, rfl, by simp, grown_refl _ _, by simpa [marks, nums] using h'⟩
  case round =>
    clear h'
    obtain ⟨k, hk, rfl, rfl, hg, ho⟩ := hrel
    by_cases hlt : k < l.length
    · obtain ⟨g, c', hA, _, _, _, _, hcell, hfr⟩ := row_at ho (by omega)
      injection hA with hA hA1 hA2
      subst hA
      clear hA1 hA2
      have h1 := hcell k _ (HZ.out.1 k hlt)
      have h2 := hfr k
      have hs := World.ownsRow.stored ho k (.int .i64 ((k0 + k : Nat) : Int))
      have hs1 := hs.1
      rw [HZ.out.2 k hlt] at hs1
      have hg2 : w.grownBy (wr.setCell ⟨g, k, none⟩ (.int .i64 ((k0 + k : Nat) : Int))) (Value.slice (some ⟨g, 0, none⟩) l.length c).ownBlock := grown_setCell hg
      have HS := hide hs1; clear hs1 hs
      have HG := hide hg2; clear hg2 ho hg hcell hfr
      generalize l.getD k 0 = y at h1
      have hcast : ((k0 + k : Nat) : Int) = (k0 : Int) + (k : Int) := by omega
      rw [hcast] at HS HG
      rw [hcast]
      clear hcast
      go_wp2
      go_roundw
      case rel => exact ⟨k + 1, by omega, by go_num, by go_num, HG.out, HS.out⟩
      case measure => simp [intOf]; omega
    · obtain rfl : k = l.length := by omega
      rw [List.drop_of_length_le (by rw [zc_length]; exact Nat.le_refl _), List.append_nil] at ho
      go_wp2
      go_ret
      exact ⟨rfl, hg, ho⟩
theorem Own1.as {B : Nat} {w : World} {v : Value} {n : Nat} (h : Own1 B w v (marks 1 n)) : w.ownsRow B 2 1 v n (nums (marks 1 n)) := by
  have h' : w.ownsRow B 2 1 v (marks 1 n).length (nums (marks 1 n)) := h
  rwa [marks_length] at h'
theorem Own1.of {B : Nat} {w : World} {v : Value} {n : Nat} (h : w.ownsRow B 2 1 v n (nums (marks 1 n))) : Own1 B w v (marks 1 n) := by
  show w.ownsRow B 2 1 v (marks 1 n).length (nums (marks 1 n))
  rwa [marks_length]
end Go.Proofs.Ytpkfjdaedaplfaa

namespace Go.Proofs.Ytpkfjdaedaplfaa
open Go.RowKit

theorem Holds.joinL {w0 w w' : World} {L A : List Part} (h : Holds w0 w L) (k : Holds w w' A) : Holds w0 w' (L ++ A) := by
  have h' := h.call k.low
  refine ⟨h'.1, fun b hb => ?_, List.pairwise_append.2 ⟨h'.2.2, k.2.2, fun a ha b hb g hg hg' => ?_⟩⟩
  · rcases List.mem_append.1 hb with hb | hb
    · exact h'.2.1 b hb
    · exact ⟨(k.2.1 b hb).1, fun g hg => Nat.le_trans h.size ((k.2.1 b hb).2 g hg)⟩
  · have h1 := a.lt _ _ (h.2.1 a ha).1 hg
    have h2 := (k.2.1 b hb).2 g hg'
    omega
theorem rowsP_length {vs : List Value} {ls : List (List Nat)} (hl : vs.length = ls.length) : (rowsP vs ls).length = ls.length := by
  induction vs generalizing ls with
  | nil => cases ls with
    | nil => rfl
    | cons => simp at hl
  | cons v vs ih => cases ls with
    | nil => simp at hl
    | cons m ls => simp only [rowsP, List.length_cons]; rw [ih (by simpa using hl)]
theorem Holds.ofOwn2 {w w' : World} {v : Value} {vs : List Value} {ls : List (List Nat)} (hb : Below w.heap.size w w') (ho : Own2v w.heap.size w' v vs ls) : Holds w w' (pVals v vs :: rowsP vs ls) := by
  have rl := rowsP_length ho.len
  have each : ∀ (i : Nat) (h : i < (rowsP vs ls).length), ∃ u l, vs[i]? = some u ∧ ls[i]? = some l ∧ (rowsP vs ls)[i] = pInts u l := fun i h => by
    have h1 : i < ls.length := by omega
    have h2 : i < vs.length := by rw [ho.len]; exact h1
    have := rowsP_at (List.getElem?_eq_getElem h2) (List.getElem?_eq_getElem h1)
    rw [List.getElem?_eq_getElem h] at this
    exact ⟨_, _, List.getElem?_eq_getElem h2, List.getElem?_eq_getElem h1, Option.some.inj this⟩
  refine ⟨hb, fun a ha => ?_, List.pairwise_cons.2 ⟨fun a ha g hg hg' => ?_, List.pairwise_iff_getElem.2 fun i j hi hj hij g hg hg' => ?_⟩⟩
  · rcases List.mem_cons.1 ha with rfl | ha
    · exact ⟨row_low ho.row (Nat.zero_le _), fun g hg => (ho.row.lt g hg).1⟩
    · obtain ⟨i, hi, rfl⟩ := List.getElem_of_mem ha
      obtain ⟨u, l, h1, h2, h3⟩ := each i hi
      rw [h3]
      have h4 := ho.each i u l h1 h2
      exact ⟨row_low h4 (Nat.zero_le _), fun g hg => (World.ownsRow.lt h4 g hg).1⟩
  · obtain ⟨i, hi, rfl⟩ := List.getElem_of_mem ha
    obtain ⟨u, l, h1, h2, h3⟩ := each i hi
    rw [h3] at hg'
    have h4 := ho.each i u l h1 h2
    change v.ownBlock = some g at hg
    change u.ownBlock = some g at hg'
    rcases own_ne ho.row h4 (by decide) with c | c
    · rw [c] at hg; cases hg
    · exact c (by rw [hg]; exact hg'.symm)
  · obtain ⟨u, l, h1, h2, h3⟩ := each i hi
    obtain ⟨u', l', h1', h2', h3'⟩ := each j hj
    rw [h3] at hg
    rw [h3'] at hg'
    change u.ownBlock = some g at hg
    change u'.ownBlock = some g at hg'
    rcases ho.dist i j u u' hij h1 h1' with c | c
    · rw [c] at hg; cases hg
    · exact c (by rw [hg]; exact hg'.symm)
/-- the i-th list, and the cell that holds its slice -/
theorem Holds.rowAt {w0 w : World} {L : List Part} {v : Value} {vs : List Value} {ls : List (List Nat)} (h : Holds w0 w L) (hl : vs.length = ls.length) (a : Nat) (ha : L[a]? = some (pVals v vs)) (hr : ∀ i, L[i + (a + 1)]? = (rowsP vs ls)[i]?) {i : Nat} (hi : i < ls.length) :
    ∃ g c A' c', v = .slice (some ⟨g, 0, none⟩) vs.length c ∧ vs[i]? = some (.slice A' ls[i].length c') ∧ w.cell? ⟨g, i, none⟩ = some (.slice A' ls[i].length c') ∧ L[i + (a + 1)]? = some (pInts (.slice A' ls[i].length c') ls[i]) := by
  have hv : i < vs.length := by omega
  have hpart : L[i + (a + 1)]? = some (pInts vs[i] ls[i]) := by rw [hr]; exact rowsP_at (List.getElem?_eq_getElem hv) (List.getElem?_eq_getElem hi)
  obtain ⟨A', c', e⟩ := h.intsForm _ hpart
  obtain ⟨g, c, h1, _, _, _, _, h6, _⟩ := row_at (h.row a ha) (by omega)
  have h7 := h6 i _ (List.getElem?_eq_getElem hv)
  rw [e] at h7 hpart
  exact ⟨g, c, A', c', h1, by rw [List.getElem?_eq_getElem hv, e], h7, hpart⟩
end Go.Proofs.Ytpkfjdaedaplfaa

namespace Go.Proofs.Ytpkfjdaedaplfaa
open Go.RowKit

theorem Own2v.keep {B : Nat} {w w' : World} {v : Value} {vs : List Value} {ls : List (List Nat)} {r : Option Nat} (h : Own2v B w v vs ls) (hg : w.grownBy w' r) (h1 : ∀ k, r = some k → v.ownBlock ≠ some k) (h2 : ∀ k, r = some k → ∀ (i : Nat) (u : Value), vs[i]? = some u → u.ownBlock ≠ some k) : Own2v B w' v vs ls := by
  have key : ∀ u : Value, (∀ k, r = some k → u.ownBlock ≠ some k) → u.ownBlock = none ∨ u.ownBlock ≠ r := fun u hu => by
    rcases hb : u.ownBlock with _ | g
    · exact .inl rfl
    · exact .inr fun e => hu g e.symm hb
  exact ⟨h.len, h.row.kept hg (key v h1), fun i u l a b => World.ownsRow.kept (h.each i u l a b) hg (key u fun k hk => h2 k hk i u a), h.dist⟩
theorem Own2v.ge {B : Nat} {w : World} {v : Value} {vs : List Value} {ls : List (List Nat)} (h : Own2v B w v vs ls) : (∀ k, v.ownBlock = some k → B ≤ k) ∧ ∀ (i : Nat) (u : Value), vs[i]? = some u → ∀ k, u.ownBlock = some k → B ≤ k := by
  refine ⟨fun k hk => (h.row.lt k hk).1, fun i u hu k hk => ?_⟩
  have hi : i < ls.length := by rw [← h.len]; exact (List.getElem?_eq_some_iff.1 hu).1
  exact (World.ownsRow.lt (h.each i u _ hu (List.getElem?_eq_getElem hi)) k hk).1
end Go.Proofs.Ytpkfjdaedaplfaa

namespace Go.Proofs.Ytpkfjdaedaplfaa
open Go.RowKit

section
variable {P : Program} {ops : Array Oper} {md : Region.Mode} {C : World → Prop}

/-- k operations more, all below n, whichever comes up; then L -/
def headQ (P : Program) (md : Region.Mode) (ops : Array Oper) (C : World → Prop) (n : Nat) (L : Array Bool → Act → Prop) : Nat → Array Bool → Act → Prop
  | 0, done, a => L done a
  | k + 1, done, a => Region.ready md ops done ≠ [] ∧ ∀ i ∈ Region.ready md ops done, i < n ∧ qOp P ops C i (headQ P md ops C n L k (done.setIfInBounds i true)) a

theorem headQ_any {n g : Nat} {L : Array Bool → Act → Prop} {Q : Exit → Act → World → Prop} (hL : ∀ done a w, C w → L done a → wpAny P md ops Q g done a w) (k : Nat) :
    ∀ (done : Array Bool) (a : Act) (w : World), C w → headQ P md ops C n L k done a → wpAny P md ops Q (k + g) done a w := by
  induction k with
  | zero => intro done a w hw h; rw [Nat.zero_add]; exact hL _ _ _ hw h
  | succ k ih =>
    intro done a w hw h
    rw [show k + 1 + g = (k + g) + 1 by omega]
    exact ⟨fun e => absurd e h.1, fun i hi => wpOp_of_qOp hw (fun a' w' hw' h' => ih _ a' w' hw' h') (h.2 i hi).2⟩

/-- an operation of the head may be taken first -/
theorem headQ_first {n i : Nat} {o : Oper} {v : Value} {L : Array Bool → Act → Prop} (hi : ops[i]? = some o) (hsel : ∀ (j : Nat) (o : Oper) cs b, ops[j]? = some o → o.op ≠ .select cs b)
    (hs : Region.sinkB md ops n = true) (hc : Region.chainB md ops n = true) (hn : n < ops.size) (hin : i < n) (hdone : ∀ done a, L done a → ∀ j ∈ Region.ready md ops done, n ≤ j) (k : Nat) :
    ∀ (done : Array Bool) (a : Act), HeadInv md ops n done →
      (∀ j oj, ops[j]? = some oj → j ≠ i → done.getD j true = false → (∀ e ∈ oj.after, Region.binds md e = true → e.on ≠ i) → o.apart ops oj = true) →
      i ∈ Region.ready md ops done → YieldsIn P ops C o v a →
      headQ P md ops C n L k (done.setIfInBounds i true) (a.put o.dst v) → headQ P md ops C n L (k + 1) done a := by
  have low : ∀ (done : Array Bool), HeadInv md ops n done → i ∈ Region.ready md ops done → ∀ j ∈ Region.ready md ops done, j < n := by
    intro done inv hr j hj
    rcases Nat.lt_or_ge j n with h | h
    · exact h
    · exact absurd hj (tail_waits hs hc hn inv _ i rfl hin (mem_ready.1 hr).1 j h)
  have some_ready : ∀ (done : Array Bool), i ∈ Region.ready md ops done → Region.ready md ops done ≠ [] := fun done hr e => by rw [e] at hr; cases hr
  induction k with
  | zero =>
    intro done a inv _ hr hy H
    refine ⟨some_ready done hr, fun j hj => ⟨low done inv hr j hj, ?_⟩⟩
    by_cases e : j = i
    · subst e; exact hy.qOp hi H
    · have := hdone _ _ H j (ready_mono hj e)
      have := low done inv hr j hj
      omega
  | succ k ih =>
    intro done a inv hfree hr hy H
    refine ⟨some_ready done hr, fun j hj => ⟨low done inv hr j hj, ?_⟩⟩
    by_cases e : j = i
    · subst e; exact hy.qOp hi H
    · obtain ⟨hjun, oj, hoj, hall⟩ := mem_ready.1 hj
      have hun := (mem_ready.1 hr).1
      have hno : ∀ e ∈ oj.after, Region.binds md e = true → e.on ≠ i := fun e he hb h => by
        have := hall e he hb
        rw [h, getD_both hun] at this
        cases this
      refine qOp_mono (fun a' h3 => ih (done.setIfInBounds j true) a' (inv.set hj (low done inv hr j hj)) (fun k' ok hk hki hk' hnk => hfree k' ok hk hki ?_ hnk) (ready_mono hr (Ne.symm e)) h3.1 ?_)
        (qOp_put hoj (hfree j oj hoj e hjun hno) (fun cs b => hsel i o cs b hi) (fun cs b => hsel j oj cs b hoj) hy (H.2 j (ready_mono hj e)).2)
      · by_cases e' : j = k'
        · subst e'; exact hjun
        · rw [getD_set_ne true e'] at hk'; exact hk'
      · rw [Array.setIfInBounds_comm _ _ e]; exact h3.2

theorem headQ_lex {n g : Nat} {K : Act → Prop} (hsel : Region.noSelect ops = true) (hs : Region.sinkB md ops n = true) (hc : Region.chainB md ops n = true) (hn : n < ops.size) (l : List Oper) :
    ∀ (k : Nat) (done : Array Bool) (a : Act), (∀ j, j < l.length → l[j]? = ops[k + j]?) → k + l.length = n → HeadInv md ops n done → Region.lexHead md ops g l.length k done = true →
    wpQuiet P ops C K l a → headQ P md ops C n (fun done' a' => Region.seqB md ops g n done' = true ∧ K a') l.length done a := by
  induction l with
  | nil =>
    intro k done a _ hk _ hB h
    obtain rfl : k = n := by simpa using hk
    exact ⟨by simpa [Region.lexHead] using hB, h⟩
  | cons o l ih =>
    intro k done a hl hk inv hB h
    have h0 : ops[k]? = some o := by simpa using (hl 0 (by simp)).symm
    simp only [List.length_cons] at hk
    simp only [List.length_cons, Region.lexHead, Bool.and_eq_true] at hB
    have hr : k ∈ Region.ready md ops done := by simpa using hB.1.1
    obtain ⟨v, hy, hK⟩ := yieldsIn_of_qOp (C := C) (K := wpQuiet P ops C K l) h0 (by unfold qOp; simp only [h0]; exact h)
    exact headQ_first h0 (Region.noSelect_spec hsel) hs hc hn (by omega) (fun done' a' hL => seqB_ready hL.1) l.length done a inv (Region.free_spec h0 hB.1.2) hr hy
      (ih (k + 1) _ _ (fun j hj => by have := hl (j + 1) (by simp; omega); simpa [Nat.add_assoc, Nat.add_comm 1 j] using this) (by omega) (inv.set hr (by omega)) hB.2 hK)

theorem region_tail {id : Nat} {Q : Exit → Act → World → Prop} {a : Act} {w : World} {l : List Oper} (C : World → Prop) (n : Nat) (hm : P.follows .mixedOrders = true) (hB : Region.lexTailB .any l.toArray n = true) (hC : C w.drew)
    (h : wpQuiet P l.toArray C (fun a' => ∀ w', C w' → wpList P l.toArray Q (l.drop n) a' w') (l.take n) a) : (Code.region id l.toArray true).wp P Q a w := by
  simp only [Region.lexTailB, Bool.and_eq_true, decide_eq_true_eq] at hB
  obtain ⟨⟨⟨⟨hsel, hn⟩, hs⟩, hc⟩, hlex⟩ := hB
  have hl : n < l.length := by simpa using hn
  have ht : (l.take n).length = n := by simp; omega
  have hd : (l.drop n).length = l.toArray.size - n := by simp
  have H := headQ_lex (md := .any) (g := l.toArray.size - n) hsel hs hc hn (l.take n) 0 (Array.replicate l.toArray.size false) a (fun j hj => by
    have hj' : j < n := by rw [ht] at hj; exact hj
    simp [hj']) (by simpa using ht) ⟨by simp, fun j oj _ e => (by rw [getD_replicate_false] at e; cases e), fun t _ e => getD_in (by simpa using e) (getD_replicate_false _ _)⟩ (by rw [ht]; exact hlex) h
  refine wp_region_any hm ?_
  have := headQ_any (Q := Q) (g := l.toArray.size - n) (fun done a' w' hw' hL => by
    have := wpAny_of_seq (md := .any) (Q' := Q) (l.drop n) n done a' w' (fun j => by simp [List.getElem?_drop]) (by rw [hd]; exact hL.1) (hL.2 w' hw')
    rwa [hd] at this) _ _ _ _ hC H
  rw [ht, show n + (l.toArray.size - n) = l.toArray.size by omega] at this
  exact this

/-- one operation of the head -/
theorem q_step {o : Oper} {rest : List Oper} {a : Act} {K : Act → Prop} (hw : Region.wanted o (yielded ops a.tmps) = true) (v : Value) (h1 : ∀ w, C w → o.quietAt P a C w v) (h2 : wpQuiet P ops C K rest (a.put o.dst v)) :
    wpQuiet P ops C K (o :: rest) a := by
  unfold wpQuiet; rw [if_pos hw]; exact ⟨v, h1, h2⟩
end

/-- the class: what has been made before stands, and new blocks may have come -/
def Grown (w0 w : World) : Prop := Below w0.heap.size w0 w
theorem Grown.drew (w : World) : Grown w w.drew := ⟨rfl, rfl, rfl, Nat.le_refl _, fun _ _ => rfl⟩
theorem Grown.cells {w0 w : World} {g : Nat} {c : Array Value} (h : Grown w0 w) (hc : cellsOf w0 g = c) (hg : g < w0.heap.size) : cellsOf w g = c := (below_cells h hg).trans hc
theorem Grown.row {w0 w : World} {g n : Nat} (h : Grown w0 w) (hr : rowOk w0 g n) : rowOk w g n := (below_row h hr.lt).2 hr
theorem Grown.call {w0 w w' : World} (h : Grown w0 w) (hb : Below w.heap.size w w') : Grown w0 w' := Below.trans h (hb.mono h.size)
end Go.Proofs.Ytpkfjdaedaplfaa
