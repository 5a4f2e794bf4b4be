/- Whole arrays and structs as the walk loads and stores them: by the row of cells that a block holds. -/
import Derived.Test.YtpkfjdaedaplfaaBase
namespace Go.Proofs.Ytpkfjdaedaplfaa
open Go.RowKit

/-- the cells of a block -/
def cellsOf (w : World) (g : Nat) : Array Value := match w.heap[g]? with | some (.cells c _ _) => c | _ => #[]
/-- a block is a row of n cells, none frozen -/
def rowOk (w : World) (g n : Nat) : Prop := ∃ c t, w.heap[g]? = some (.cells c t (0, 0)) ∧ c.size = n

section
variable {w w' : World} {g : Nat} {c : Array Value} {t : TypeId} {o : Obj}
@[go_sem] theorem cellsOf_at (h : g = w.heap.size) : cellsOf (w.alloc (.cells c t)) g = c := by unfold cellsOf; rw [heap_at _ _ _ h]
@[go_sem] theorem cellsOf_past (h : g < w.heap.size) : cellsOf (w.alloc o) g = cellsOf w g := by unfold cellsOf; rw [heap_past _ _ _ h]
@[go_sem] theorem cellsOf_drew : cellsOf w.drew g = cellsOf w g := rfl
@[go_sem] theorem rowOk_past {n : Nat} (h : g < w.heap.size) : rowOk (w.alloc o) g n ↔ rowOk w g n := by unfold rowOk; rw [heap_past _ _ _ h]
@[go_sem] theorem rowOk_drew {n : Nat} : rowOk w.drew g n ↔ rowOk w g n := Iff.rfl
@[go_sem] theorem setRow_at' (h : g = w.heap.size) {c' : Array Value} : (w.alloc (.cells c t)).setRow g c' = w.alloc (.cells c' t) := setRow_at w c c' t g h
@[go_sem] theorem setRow_past' (h : g < w.heap.size) {c' : Array Value} : (w.alloc o).setRow g c' = (w.setRow g c').alloc o := setRow_past w o c' g h
@[go_sem] theorem setRow_drew {c' : Array Value} : w.drew.setRow g c' = (w.setRow g c').drew := rfl
theorem below_cells {B : Nat} (h : Below B w w') (hg : g < B) : cellsOf w' g = cellsOf w g := by unfold cellsOf; rw [h.block g hg]
theorem below_row {B n : Nat} (h : Below B w w') (hg : g < B) : rowOk w' g n ↔ rowOk w g n := by unfold rowOk; rw [h.block g hg]
theorem cellsOf_heap (h : w.heap[g]? = some (.cells c t (0, 0))) : cellsOf w g = c := by unfold cellsOf; rw [h]
theorem rowOk.heap {n : Nat} (h : rowOk w g n) : ∃ t, w.heap[g]? = some (.cells (cellsOf w g) t (0, 0)) ∧ (cellsOf w g).size = n := by
  obtain ⟨c, t, h1, h2⟩ := h
  exact ⟨t, by rw [cellsOf_heap h1]; exact h1, by rw [cellsOf_heap h1]; exact h2⟩
@[go_sem] theorem cellsOf_setRow {n : Nat} (h : rowOk w g n) {c' : Array Value} : cellsOf (w.setRow g c') g = c' := by
  obtain ⟨t, h1, _⟩ := h.heap
  exact cellsOf_heap (setRow_heap _ _ _ _ t (0, 0) h1)
theorem rowOk_setRow {n m : Nat} (h : rowOk w g n) {c' : Array Value} (hm : c'.size = m) : rowOk (w.setRow g c') g m := by
  obtain ⟨t, h1, _⟩ := h.heap
  exact ⟨c', t, setRow_heap _ _ _ _ t (0, 0) h1, hm⟩
theorem cellsOf_setRow_ne {g' : Nat} (h : g ≠ g') {c' : Array Value} : cellsOf (w.setRow g' c') g = cellsOf w g := by unfold cellsOf; rw [setRow_other _ _ _ _ h]
theorem rowOk_setRow_ne {g' n : Nat} (h : g ≠ g') {c' : Array Value} : rowOk (w.setRow g' c') g n ↔ rowOk w g n := by unfold rowOk; rw [setRow_other _ _ _ _ h]
/-- a cell of a row -/
theorem cell_of_cells (i : Nat) : w.cell? ⟨g, i, none⟩ = (cellsOf w g)[i]? := by
  unfold World.cell? cellsOf
  split <;> simp_all
theorem rowOk.frozen {n i : Nat} (h : rowOk w g n) : w.frozen? ⟨g, i, none⟩ = false := by
  obtain ⟨c, t, h1, _⟩ := h
  simp [World.frozen?, h1]
theorem rowOk.size {n : Nat} (h : rowOk w g n) : (cellsOf w g).size = n := by obtain ⟨t, _, h2⟩ := h.heap; exact h2
theorem rowOk.lt {n : Nat} (h : rowOk w g n) : g < w.heap.size := by
  obtain ⟨c, t, h1, _⟩ := h
  rcases Nat.lt_or_ge g w.heap.size with hlt | hge
  · exact hlt
  · rw [Array.getElem?_eq_none hge] at h1; cases h1
/-- a store into one cell of a row -/
theorem cellsOf_setCell {i : Nat} {v : Value} : cellsOf (w.setCell ⟨g, i, none⟩ v) g = (cellsOf w g).setIfInBounds i v := by
  unfold cellsOf World.setCell
  simp only [Array.getElem?_modify]
  rcases w.heap[g]? with _ | o
  · simp
  · cases o <;> simp
theorem cellsOf_setCell_ne {g' i : Nat} (h : g ≠ g') {v : Value} : cellsOf (w.setCell ⟨g', i, none⟩ v) g = cellsOf w g := by
  unfold cellsOf
  rw [Below.heap_setCell w ⟨g', i, none⟩ v g h]
theorem rowOk_setCell {n i g' : Nat} {v : Value} (h : rowOk w g n) : rowOk (w.setCell ⟨g', i, none⟩ v) g n := by
  obtain ⟨c, t, h1, h2⟩ := h
  by_cases e : g = g'
  · subst e
    refine ⟨c.setIfInBounds i v, t, ?_, by simpa using h2⟩
    simp [World.setCell, Array.getElem?_modify, h1]
  · exact ⟨c, t, by rw [Below.heap_setCell w ⟨g', i, none⟩ v g e]; exact h1, h2⟩
end

@[go_sem] theorem lt_2 (n : Nat) : n < n + 1 + 1 ↔ True := by simp; omega
@[go_sem] theorem lt_3 (n : Nat) : n < n + 1 + 1 + 1 ↔ True := by simp; omega
@[go_sem] theorem lt_4 (n : Nat) : n < n + 1 + 1 + 1 + 1 ↔ True := by simp; omega
@[go_sem] theorem lt_5 (n : Nat) : n < n + 1 + 1 + 1 + 1 + 1 ↔ True := by simp; omega
@[go_sem] theorem lt_6 (n : Nat) : n < n + 1 + 1 + 1 + 1 + 1 + 1 ↔ True := by simp; omega
@[go_sem] theorem eq_r1 (n : Nat) : (n = n + 1) ↔ False := by simp <;> omega
@[go_sem] theorem eq_l1 (n : Nat) : (n + 1 = n) ↔ False := by simp <;> omega
@[go_sem] theorem eq_r2 (n : Nat) : (n = n + 1 + 1) ↔ False := by simp <;> omega
@[go_sem] theorem eq_l2 (n : Nat) : (n + 1 + 1 = n) ↔ False := by simp <;> omega
@[go_sem] theorem eq_r3 (n : Nat) : (n = n + 1 + 1 + 1) ↔ False := by simp <;> omega
@[go_sem] theorem eq_l3 (n : Nat) : (n + 1 + 1 + 1 = n) ↔ False := by simp <;> omega
@[go_sem] theorem eq_r4 (n : Nat) : (n = n + 1 + 1 + 1 + 1) ↔ False := by simp <;> omega
@[go_sem] theorem eq_l4 (n : Nat) : (n + 1 + 1 + 1 + 1 = n) ↔ False := by simp <;> omega
@[go_sem] theorem eq_r5 (n : Nat) : (n = n + 1 + 1 + 1 + 1 + 1) ↔ False := by simp <;> omega
@[go_sem] theorem eq_l5 (n : Nat) : (n + 1 + 1 + 1 + 1 + 1 = n) ↔ False := by simp <;> omega
/-- sixteen cells; cells that are one each: behind names, so that the walk takes no size for a rule -/
def Is16 (c : Array Value) : Prop := c.size = 16
def Ones (c : Array Value) : Prop := c.all (·.oneCell') = true
@[go_sem] theorem is16_av (f : Nat → Nat) : Is16 (av f) ↔ True := ⟨fun _ => trivial, fun _ => av_size f⟩
@[go_sem] theorem is16_bv (f : Nat → Bool) : Is16 (bv f) ↔ True := ⟨fun _ => trivial, fun _ => bv_size f⟩
@[go_sem] theorem is16_lit (x0 x1 x2 x3 x4 x5 x6 x7 x8 x9 x10 x11 x12 x13 x14 x15 : Value) : Is16 #[x0, x1, x2, x3, x4, x5, x6, x7, x8, x9, x10, x11, x12, x13, x14, x15] ↔ True := ⟨fun _ => trivial, fun _ => rfl⟩
@[go_sem] theorem ones_av (f : Nat → Nat) : Ones (av f) ↔ True := ⟨fun _ => trivial, fun _ => av_cells f⟩
theorem bv_cells (f : Nat → Bool) : (bv f).all (·.oneCell') = true := by unfold bv row; simp [Value.oneCell']
@[go_sem] theorem ones_bv (f : Nat → Bool) : Ones (bv f) ↔ True := ⟨fun _ => trivial, fun _ => bv_cells f⟩
@[go_sem] theorem ones_z : Ones #[Value.int .u8 0, Value.int .u8 0, Value.int .u8 0, Value.int .u8 0, Value.int .u8 0, Value.int .u8 0, Value.int .u8 0, Value.int .u8 0, Value.int .u8 0, Value.int .u8 0, Value.int .u8 0, Value.int .u8 0, Value.int .u8 0, Value.int .u8 0, Value.int .u8 0, Value.int .u8 0] ↔ True := ⟨fun _ => trivial, fun _ => by unfold Ones; simp [Value.oneCell']⟩
@[go_sem] theorem ones_f : Ones #[Value.bool false, Value.bool false, Value.bool false, Value.bool false, Value.bool false, Value.bool false, Value.bool false, Value.bool false, Value.bool false, Value.bool false, Value.bool false, Value.bool false, Value.bool false, Value.bool false, Value.bool false, Value.bool false] ↔ True := ⟨fun _ => trivial, fun _ => by unfold Ones; simp [Value.oneCell']⟩
@[go_sem] theorem rowOk_at {w : World} {g : Nat} {c : Array Value} {t : TypeId} (h : g = w.heap.size) (hc : Is16 c) : rowOk (w.alloc (.cells c t)) g 16 ↔ True := ⟨fun _ => trivial, fun _ => ⟨c, t, heap_at _ _ _ h, hc⟩⟩

/-- what the operation 'load T' does -/
def loadT (T : TypeId) (v : Value) : Sem Next := do pure (.value (← Instr.loadAt T v))
def storeT (T : TypeId) (v x : Value) : Sem Next := do Instr.storeAt T v x; pure .skip

theorem run_loadT {T n : Nat} (hT : AggT T n) {w : World} {g : Nat} (h : (cellsOf w g).size = n) (h0 : 0 < n) :
    (loadT T (.pointer (some ⟨g, 0, none⟩))).run Try.prog w = .ok (.value (.agg (cellsOf w g))) w := by
  obtain ⟨d, hd, hd'⟩ := hT.und
  have hh : ∃ t fr, w.heap[g]? = some (.cells (cellsOf w g) t fr) := by
    unfold cellsOf at *
    rcases e : w.heap[g]? with _ | o
    · rw [e] at h; simp at h; omega
    · cases o with
      | cells c t fr => exact ⟨t, fr, rfl⟩
      | _ => rw [e] at h; simp at h; omega
  obtain ⟨t, fr, hg⟩ := hh
  have := run_loadVar_row (P := Try.prog) w g t T (cellsOf w g) fr d hg hd (by cases d <;> first | rfl | simp at hd') (by rw [h]; exact hT.siz)
  simp only [loadT, Instr.loadAt, Instr.sureAddr, Sem.run_bind, Sem.run_pure, Result.andThen_ok, this]
theorem run_storeT {T n : Nat} (hT : AggT T n) {w : World} {g : Nat} {cs : Array Value} (h : rowOk w g n) (hs : cs.size = n) (hc : cs.all (·.oneCell') = true) :
    (storeT T (.pointer (some ⟨g, 0, none⟩)) (.agg cs)).run Try.prog w = .ok .skip (w.setRow g cs) := by
  obtain ⟨t, h1, h2⟩ := h.heap
  have := run_storeVar_row (P := Try.prog) w g t T (cellsOf w g) cs h1 (by rw [hs]; exact hT.siz) (by rw [h2, hs]) hc
  simp only [storeT, Instr.storeAt, Instr.sureAddr, Sem.run_bind, Sem.run_pure, Result.andThen_ok, this]

section
variable (ρ : Operand → Value) (dst : Option Tmp) (x y : Operand) (ty : TypeId) (pos : String) (after : Array Edge) (guard : Option (Nat × Bool))
-- left out here: None
-- left out here: None
-- left out here: None
-- left out here: None
-- left out here: None
-- left out here: None
end
-- left out here: None
-- left out here: None
-- left out here: None
-- left out here: None
-- left out here: None
-- left out here: None
/-- a pair of a whole value out of its cell and of a slot -/
theorem res_agg2 {fn : Func} {p t : Tmp} {T U : TypeId} {n : Nat} {cs : Array Value} {v : Value} {R : Ending → World → Prop} {a : Act} {w : World} {g : Nat} (hT : AggT T n) (hs : cs.size = n) (h : fn.results = #[.cell p T, .tmp t])
    (hp : a.tmps.getD p undef = .pointer (some ⟨g, 0, none⟩)) (hv : a.tmps.getD t undef = v) (hd : a.defers = []) (hg : w.heap[g]? = some (.cells cs U (0, 0))) (hR : R (.returned (.tuple #[.agg cs, v])) w) : bodyPost Try.prog fn R .ret a w := by
  obtain ⟨d, h1, h2⟩ := hT.und
  have hl := run_loadVar_row (P := Try.prog) w g U T cs (0, 0) d hg h1 (by cases d <;> first | rfl | simp at h2) (by rw [hs]; exact hT.siz)
  refine bodyPost_ret (v := .tuple #[.agg cs, v]) ?_ hd hR
  have hp' : a.tmps[p]?.getD undef = .pointer (some ⟨g, 0, none⟩) := by simpa using hp
  have hv' : a.tmps[t]?.getD undef = v := by simpa using hv
  simp [results, h, hp', hv', asAddr, hl]
theorem res_agg2b {fn : Func} {p t : Tmp} {T U : TypeId} {n : Nat} {cs : Array Value} {v : Value} {R : Ending → World → Prop} {a : Act} {w : World} {g : Nat} (hT : AggT T n) (hs : cs.size = n) (h : fn.results = #[.tmp t, .cell p T])
    (hp : a.tmps.getD p undef = .pointer (some ⟨g, 0, none⟩)) (hv : a.tmps.getD t undef = v) (hd : a.defers = []) (hg : w.heap[g]? = some (.cells cs U (0, 0))) (hR : R (.returned (.tuple #[v, .agg cs])) w) : bodyPost Try.prog fn R .ret a w := by
  obtain ⟨d, h1, h2⟩ := hT.und
  have hl := run_loadVar_row (P := Try.prog) w g U T cs (0, 0) d hg h1 (by cases d <;> first | rfl | simp at h2) (by rw [hs]; exact hT.siz)
  refine bodyPost_ret (v := .tuple #[v, .agg cs]) ?_ hd hR
  have hp' : a.tmps[p]?.getD undef = .pointer (some ⟨g, 0, none⟩) := by simpa using hp
  have hv' : a.tmps[t]?.getD undef = v := by simpa using hv
  simp [results, h, hp', hv', asAddr, hl]
/-- a world in which nothing below has turned, by blocks -/
theorem heap_of {w w' : World} {g : Nat} {o : Obj} (h : Below w.heap.size w w') (hg : w.heap[g]? = some o) : w'.heap[g]? = some o := by
  rcases Nat.lt_or_ge g w.heap.size with c | c
  · exact (h.block g c).trans hg
  · rw [Array.getElem?_eq_none c] at hg; cases hg

end Go.Proofs.Ytpkfjdaedaplfaa
