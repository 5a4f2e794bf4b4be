/- Tables of cosets: what a table is; rows of a hundred and of two hundred bools. -/
import Derived.Test.YteeideminlcblaaSet
import Derived.Test.YteeideminlcblaaArg2
import Derived.Test.YteeideminlcblaaHS3
namespace Go.Proofs.Yteeideminlcblaa
open Go.RowKit

/-- the number in column k of row i -/
def tE (T : List (List Int)) (k i : Nat) : Int := (T.getD i []).getD k 0
def tF (T : List (List Int)) (k : Nat) : Nat → Nat := fun i => (tE T k i).toNat
/-- row i is good in column k -/
def rowG (T : List (List Int)) (i k : Nat) : Prop := (T.getD i []).length = 2 ∧ 0 ≤ tE T k i ∧ tE T k i < T.length ∧ ∀ j, j < i → tE T k j ≠ tE T k i
def okT (T : List (List Int)) : Prop := 1 ≤ T.length ∧ T.length ≤ 100 ∧ ∀ i, i < T.length → ∀ k, k < 2 → rowG T i k
def tps (T : List (List Int)) : List (Nat → Nat) := [tF T 0, tF T 1]
@[irreducible] def rch (T : List (List Int)) : List Nat := (gb (tps T) noB 0 100).1
theorem rch_eq (T : List (List Int)) : rch T = (gb (tps T) noB 0 100).1 := by unfold rch; rfl
open Classical in
noncomputable def tabB (T : List (List Int)) : Bool := decide (okT T ∧ (rch T).length = T.length)
open Classical in
theorem tabB_no {T : List (List Int)} (h : ¬ okT T) : tabB T = false := by unfold tabB; exact decide_eq_false fun k => h k.1
open Classical in
theorem tabB_yes {T : List (List Int)} (h : okT T) : tabB T = (((rch T).length : Int) == (T.length : Int)) := by
  unfold tabB
  by_cases c : (rch T).length = T.length
  · rw [c]; simp [h]
  · have c' : ((rch T).length : Int) ≠ T.length := by omega
    rw [decide_eq_false fun k => c k.2]
    exact (beq_eq_false_iff_ne.2 c').symm
open Classical in
theorem tabB_true {T : List (List Int)} (h : tabB T = true) : okT T := by unfold tabB at h; exact (of_decide_eq_true h).1
theorem okT.at {T : List (List Int)} (h : okT T) {i : Nat} (hi : i < T.length) {k : Nat} (hk : k < 2) : (T.getD i []).length = 2 ∧ tE T k i = (tF T k i : Nat) ∧ tF T k i < T.length := by
  obtain ⟨h1, h2, h3, _⟩ := h.2.2 i hi k hk
  refine ⟨h1, ?_, ?_⟩
  · unfold tF; omega
  · unfold tF; omega
theorem tps_at0 (T : List (List Int)) : (tps T).getD 0 id = tF T 0 := rfl
theorem tps_at1 (T : List (List Int)) : (tps T).getD 1 id = tF T 1 := rfl
theorem tps_at {T : List (List Int)} {k : Nat} (hk : k < 2) : (tps T).getD k id = tF T k := by
  have : k = 0 ∨ k = 1 := by omega
  rcases this with rfl | rfl <;> rfl
theorem okT.keeps {T : List (List Int)} (h : okT T) : Keeps (tps T) T.length := by
  intro j hj x hx
  have hj2 : j < 2 := hj
  rw [tps_at hj2]
  exact (h.at hx hj2).2.2
theorem getD_at {T : List (List Int)} {i : Nat} (h : i < T.length) : T.getD i [] = T[i] := by rw [List.getD_eq_getElem?_getD, List.getElem?_eq_getElem h]; rfl
theorem tE_at {T : List (List Int)} {i k : Nat} (h : i < T.length) (hk : k < T[i].length) : tE T k i = T[i][k] := by
  unfold tE
  rw [getD_at h, List.getD_eq_getElem?_getD, List.getElem?_eq_getElem hk]; rfl
/-- a hundred bools -/
@[irreducible] def cv (f : Nat → Bool) : Array Value := row 100 fun i => .bool (f i)
theorem cv_size (f : Nat → Bool) : (cv f).size = 100 := by unfold cv; exact row_size _ _
theorem cv_get (f : Nat → Bool) {i : Nat} (h : i < 100) : (cv f)[i]? = some (.bool (f i)) := by unfold cv; exact row_get _ _ h
theorem cv_set (f : Nat → Bool) (i : Nat) : (cv f).setIfInBounds i (.bool true) = cv (mset f i) := by
  unfold cv
  rw [row_set]
  apply row_congr
  intro j _
  unfold mset
  by_cases c : j = i
  · simp [c]
  · simp [c]
theorem cv_cells (f : Nat → Bool) : (cv f).all (·.oneCell') = true := by unfold cv row; simp [Value.oneCell']
def Is100 (c : Array Value) : Prop := c.size = 100
@[go_sem] theorem is100_cv (f : Nat → Bool) : Is100 (cv f) ↔ True := ⟨fun _ => trivial, fun _ => cv_size f⟩
@[go_sem] theorem ones_cv (f : Nat → Bool) : Ones (cv f) ↔ True := ⟨fun _ => trivial, fun _ => cv_cells f⟩
theorem aggCv : AggT 66 100 := ⟨⟨_, Try.underlying66, rfl⟩, by kernel_rfl⟩
@[go_sem ↓] theorem exec_storeCv (ρ : Operand → Value) (dst : Option Tmp) (x y : Operand) (ty : TypeId) (pos : String) (after : Array Edge) (guard : Option (Nat × Bool)) : execOp ρ { dst, op := .store 66 x y, type := ty, pos, after, guard } = storeT 66 (ρ x) (ρ y) := rfl
@[go_sem] theorem run_storeCv {w : World} {g : Nat} {cs : Array Value} (h : rowOk w g 100) (hs : Is100 cs) (hc : Ones cs) : (storeT 66 (.pointer (some ⟨g, 0, none⟩)) (.agg cs)).run Try.prog w = .ok .skip (w.setRow g cs) := run_storeT aggCv h hs hc
@[go_sem] theorem rowOk_at100 {w : World} {g : Nat} {c : Array Value} {t : TypeId} (h : g = w.heap.size) (hc : Is100 c) : rowOk (w.alloc (.cells c t)) g 100 ↔ True := ⟨fun _ => trivial, fun _ => ⟨c, t, heap_at _ _ _ h, hc⟩⟩
@[go_sem] theorem zcCv : Try.zeroCells66 = cv (fun _ => false) := by unfold cv row; rfl
set_option maxRecDepth 100000 in
/-- [100]bool with one ahead -/
theorem builtCv : Try.prog.built 66 [(0, .bool true)] = some (cv (mset (fun _ => false) 0)) := by unfold cv row; kernel_rfl
def buildCv (ps : Array (Nat × Value)) : Sem Next := do pure (.value (← Instr.build 66 ps))
@[go_sem ↓] theorem exec_buildCv (ρ : Operand → Value) (dst : Option Tmp) (parts : Array (Nat × Operand)) (ty : TypeId) (pos : String) (after : Array Edge) (guard : Option (Nat × Bool)) :
    execOp ρ { dst, op := .build 66 parts, type := ty, pos, after, guard } = buildCv (parts.map fun (i, x) => (i, ρ x)) := rfl
@[go_sem] theorem run_buildCv (w : World) : (buildCv #[(0, .bool true)]).run Try.prog w = .ok (.value (.agg (cv (mset (fun _ => false) 0)))) w := by
  simp only [buildCv, Sem.run_bind, run_build (P := Try.prog) w 66 #[(0, .bool true)] _ builtCv, Result.andThen_ok, Sem.run_pure]
/-- two rows of a hundred bools -/
@[irreducible] def ev (f : Nat → Bool) : Array Value := row 200 fun i => .bool (f i)
theorem ev_size (f : Nat → Bool) : (ev f).size = 200 := by unfold ev; exact row_size _ _
theorem ev_get (f : Nat → Bool) {i : Nat} (h : i < 200) : (ev f)[i]? = some (.bool (f i)) := by unfold ev; exact row_get _ _ h
theorem ev_set (f : Nat → Bool) (i : Nat) : (ev f).setIfInBounds i (.bool true) = ev (mset f i) := by
  unfold ev
  rw [row_set]
  apply row_congr
  intro j _
  unfold mset
  by_cases c : j = i
  · simp [c]
  · simp [c]
@[go_sem] theorem zcEv : Try.zeroCells67 = ev (fun _ => false) := by unfold ev row; rfl
/-- what the program has met ahead of place (i, k): column and number as one -/
def metP (T : List (List Int)) (i k : Nat) (p : Nat) : Prop := ∃ c v, c < 2 ∧ v < 100 ∧ p = c * 100 + v ∧ ∃ j, (j < i ∨ (j = i ∧ c < k)) ∧ tE T c j = (v : Int)
theorem metP_iff {T : List (List Int)} {i k c v : Nat} (hc : c < 2) (hv : v < 100) : metP T i k (c * 100 + v) ↔ ∃ j, (j < i ∨ (j = i ∧ c < k)) ∧ tE T c j = (v : Int) := by
  constructor
  · rintro ⟨c', v', h1, h2, h3, h4⟩
    have e1 : c' = c := by omega
    subst e1
    have e2 : v' = v := by omega
    subst e2
    exact h4
  · exact fun h => ⟨c, v, hc, hv, rfl, h⟩
theorem metP_step {T : List (List Int)} {i k v : Nat} (hk : k < 2) (hv : v < 100) (he : tE T k i = (v : Int)) {m : Nat → Bool} (hm : ∀ p, m p = true ↔ metP T i k p) : ∀ p, mset m (k * 100 + v) p = true ↔ metP T i (k + 1) p := by
  intro p
  unfold mset
  rw [Bool.or_eq_true, hm, beq_iff_eq]
  constructor
  · rintro (rfl | ⟨c, u, h1, h2, h3, j, h4, h5⟩)
    · exact ⟨k, v, hk, hv, rfl, i, .inr ⟨rfl, by omega⟩, he⟩
    · exact ⟨c, u, h1, h2, h3, j, by omega, h5⟩
  · rintro ⟨c, u, h1, h2, h3, j, h4, h5⟩
    by_cases e : j = i ∧ c = k
    · obtain ⟨rfl, rfl⟩ := e
      rw [he] at h5
      have : u = v := by omega
      subst this
      exact .inl h3
    · exact .inr ⟨c, u, h1, h2, h3, j, by omega, h5⟩
theorem metP_row {T : List (List Int)} {i : Nat} {m : Nat → Bool} (hm : ∀ p, m p = true ↔ metP T i 2 p) : ∀ p, m p = true ↔ metP T (i + 1) 0 p := by
  intro p
  rw [hm]
  constructor
  · rintro ⟨c, u, h1, h2, h3, j, h4, h5⟩; exact ⟨c, u, h1, h2, h3, j, by omega, h5⟩
  · rintro ⟨c, u, h1, h2, h3, j, h4, h5⟩; exact ⟨c, u, h1, h2, h3, j, by omega, h5⟩
theorem metP_zero (T : List (List Int)) : ∀ p, (fun _ => false : Nat → Bool) p = true ↔ metP T 0 0 p := by
  intro p
  constructor
  · intro h; cases h
  · rintro ⟨c, u, h1, h2, h3, j, h4, h5⟩; omega
end Go.Proofs.Yteeideminlcblaa
