/- Two classes of flags: the search that numbers them 1 and 2 and stands still where a step stays in its class. -/
import Derived.Test.YteeideminlcblaaSet
import Derived.Test.YteeideminlcblaaFlg
namespace Go.Proofs.Yteeideminlcblaa
open Go.RowKit

abbrev CSt := List Nat × (Nat → Nat)
def kset (K : Nat → Nat) (i v : Nat) : Nat → Nat := fun j => if j = i then v else K j
/-- one step from X to Y -/
def cadd (S : CSt) (X Y : Nat) : Option CSt := if S.2 Y = 0 then some (S.1 ++ [Y], kset S.2 Y (3 - S.2 X)) else if S.2 Y = S.2 X then none else some S
/-- the first j steps from X -/
def cgo (ps : List (Nat → Nat)) (S : CSt) (X : Nat) : Nat → Option CSt
  | 0 => some S
  | j + 1 => (cgo ps S X j).bind fun T => cadd T X (ps.getD j id X)
/-- the search from 0, the steps of the first k flags found taken -/
def cb (ps : List (Nat → Nat)) : Nat → Option CSt
  | 0 => some ([0], kset (fun _ => 0) 0 1)
  | k + 1 => (cb ps k).bind fun S => match S.1[k]? with
    | none => some S
    | some X => cgo ps S X ps.length
structure CInv (n : Nat) (S : CSt) : Prop where
  nodup : S.1.Nodup
  lt : ∀ x ∈ S.1, x < n
  mem : ∀ x, S.2 x ≠ 0 ↔ x ∈ S.1
  le : ∀ x, S.2 x ≤ 2
theorem CInv.length_le {n : Nat} {S : CSt} (h : CInv n S) : S.1.length ≤ n := by
  have := nodup_le S.1 (List.range n) h.nodup fun x hx => List.mem_range.2 (h.lt x hx)
  rw [List.length_range] at this
  exact this
theorem CInv.add {n : Nat} {S T : CSt} (h : CInv n S) {X Y : Nat} (hX : X ∈ S.1) (hY : Y < n) (e : cadd S X Y = some T) : CInv n T := by
  unfold cadd at e
  split at e
  · rename_i h0
    obtain rfl := Option.some.inj e
    have hn : Y ∉ S.1 := fun k => (h.mem Y).2 k h0
    have hx0 := (h.mem X).2 hX
    have hx2 := h.le X
    refine ⟨?_, fun x hx => ?_, fun x => ?_, fun x => ?_⟩
    · refine List.nodup_append.2 ⟨h.nodup, by simp, fun a ha b hb => ?_⟩
      simp only [List.mem_singleton] at hb
      subst hb
      rintro rfl
      exact hn ha
    · rcases List.mem_append.1 hx with d | d
      · exact h.lt x d
      · simp only [List.mem_singleton] at d; omega
    · show kset S.2 Y (3 - S.2 X) x ≠ 0 ↔ x ∈ S.1 ++ [Y]
      unfold kset
      by_cases c : x = Y
      · subst c; rw [if_pos rfl]; simp; omega
      · rw [if_neg c, h.mem]; simp [c]
    · show kset S.2 Y (3 - S.2 X) x ≤ 2
      unfold kset
      split
      · omega
      · exact h.le x
  · split at e
    · cases e
    · obtain rfl := Option.some.inj e; exact h
theorem cadd_pre {S T : CSt} {X Y : Nat} (e : cadd S X Y = some T) : S.1 <+: T.1 := by
  unfold cadd at e
  split at e
  · obtain rfl := Option.some.inj e; exact List.prefix_append _ _
  · split at e
    · cases e
    · obtain rfl := Option.some.inj e; exact List.prefix_refl _
theorem cadd_new {S : CSt} {X Y : Nat} (h : S.2 Y = 0) : cadd S X Y = some (S.1 ++ [Y], kset S.2 Y (3 - S.2 X)) := by unfold cadd; rw [if_pos h]
theorem cadd_same {S : CSt} {X Y : Nat} (h0 : S.2 Y ≠ 0) (h : S.2 Y = S.2 X) : cadd S X Y = none := by unfold cadd; rw [if_neg h0, if_pos h]
theorem cadd_other {S : CSt} {X Y : Nat} (h0 : S.2 Y ≠ 0) (h : S.2 Y ≠ S.2 X) : cadd S X Y = some S := by unfold cadd; rw [if_neg h0, if_neg h]
section
variable {ps : List (Nat → Nat)} {n : Nat}
theorem cgo_inv (hk : Keeps ps n) {S : CSt} (hS : CInv n S) {X : Nat} (hX : X ∈ S.1) : ∀ j, j ≤ ps.length → ∀ T, cgo ps S X j = some T → CInv n T ∧ S.1 <+: T.1 := by
  intro j
  induction j with
  | zero => intro _ T e; obtain rfl := Option.some.inj e; exact ⟨hS, List.prefix_refl _⟩
  | succ j ih =>
    intro h T e
    obtain ⟨U, hU, hT⟩ := Option.bind_eq_some_iff.1 (show (cgo ps S X j).bind (fun T => cadd T X (ps.getD j id X)) = some T from e)
    obtain ⟨hI, hp⟩ := ih (by omega) U hU
    exact ⟨hI.add (hp.subset hX) (hk j (by omega) X (hS.lt X hX)) hT, hp.trans (cadd_pre hT)⟩
theorem cgo_none {S : CSt} {X j i : Nat} (h : cgo ps S X j = none) (hi : j ≤ i) : cgo ps S X i = none := by
  induction i with
  | zero => obtain rfl : j = 0 := by omega
            exact h
  | succ i ih =>
    rcases Nat.lt_or_ge i j with c | c
    · obtain rfl : j = i + 1 := by omega
      exact h
    · show (cgo ps S X i).bind _ = none
      rw [ih c]; rfl
theorem cb_none {k i : Nat} (h : cb ps k = none) (hi : k ≤ i) : cb ps i = none := by
  induction i with
  | zero => obtain rfl : k = 0 := by omega
            exact h
  | succ i ih =>
    rcases Nat.lt_or_ge i k with c | c
    · obtain rfl : k = i + 1 := by omega
      exact h
    · show (cb ps i).bind _ = none
      rw [ih c]; rfl
theorem cb_next {k : Nat} {S : CSt} (h : cb ps k = some S) {X : Nat} (hX : S.1[k]? = some X) : cb ps (k + 1) = cgo ps S X ps.length := by
  show (cb ps k).bind _ = _
  rw [h]
  simp only [Option.bind_some, hX]
theorem cb_stop {k : Nat} {S : CSt} (h : cb ps k = some S) (hl : S.1.length ≤ k) {i : Nat} (hi : k ≤ i) : cb ps i = some S := by
  induction i with
  | zero => obtain rfl : k = 0 := by omega
            exact h
  | succ i ih =>
    rcases Nat.lt_or_ge i k with c | c
    · obtain rfl : k = i + 1 := by omega
      exact h
    · show (cb ps i).bind _ = _
      rw [ih c]
      simp only [Option.bind_some, List.getElem?_eq_none (show S.1.length ≤ i by omega)]
theorem cb_inv (hk : Keeps ps n) (h0 : 0 < n) : ∀ k S, cb ps k = some S → CInv n S := by
  intro k
  induction k with
  | zero =>
    intro S e
    obtain rfl := Option.some.inj e
    refine ⟨by simp, fun x hx => by simp at hx; omega, fun x => ?_, fun x => ?_⟩
    · show kset (fun _ => 0) 0 1 x ≠ 0 ↔ x ∈ [0]
      unfold kset; by_cases c : x = 0 <;> simp [c]
    · show (if x = 0 then 1 else 0) ≤ 2
      split <;> omega
  | succ k ih =>
    intro S e
    obtain ⟨U, hU, hT⟩ := Option.bind_eq_some_iff.1 (show (cb ps k).bind (fun S => match S.1[k]? with | none => some S | some X => cgo ps S X ps.length) = some S from e)
    have hI := ih U hU
    rcases hx : U.1[k]? with _ | X
    · simp only [hx] at hT
      obtain rfl := Option.some.inj hT
      exact hI
    · simp only [hx] at hT
      exact (cgo_inv hk hI (List.mem_of_getElem? hx) _ (Nat.le_refl _) S hT).1
end
/-- whether no step stays in its class -/
def orB (ps : List (Nat → Nat)) : Bool := (cb ps 32).isSome

/-- thirty-two numbers -/
@[irreducible] def iv (f : Nat → Int) : Array Value := row 32 fun i => .int .i64 (f i)
theorem iv_size (f : Nat → Int) : (iv f).size = 32 := by unfold iv; exact row_size _ _
theorem iv_get (f : Nat → Int) {i : Nat} (h : i < 32) : (iv f)[i]? = some (.int .i64 (f i)) := by unfold iv; exact row_get _ _ h
theorem iv_cells (f : Nat → Int) : (iv f).all (·.oneCell') = true := by unfold iv row; simp [Value.oneCell']
theorem iv_zero : iv (fun _ => 0) = #[.int .i64 0, .int .i64 0, .int .i64 0, .int .i64 0, .int .i64 0, .int .i64 0, .int .i64 0, .int .i64 0, .int .i64 0, .int .i64 0, .int .i64 0, .int .i64 0, .int .i64 0, .int .i64 0, .int .i64 0, .int .i64 0, .int .i64 0, .int .i64 0, .int .i64 0, .int .i64 0, .int .i64 0, .int .i64 0, .int .i64 0, .int .i64 0, .int .i64 0, .int .i64 0, .int .i64 0, .int .i64 0, .int .i64 0, .int .i64 0, .int .i64 0, .int .i64 0] := by unfold iv row; rfl
/-- the classes as the program numbers them: 1 and -1 -/
def sgn (k : Nat) : Int := if k = 0 then 0 else if k = 1 then 1 else -1
def pc (K : Nat → Nat) : Nat → Int := fun i => sgn (K i)
def mc (K : Nat → Nat) : Nat → Int := fun i => (K i : Int)
theorem pc_set (K : Nat → Nat) (i v : Nat) : (iv (pc K)).setIfInBounds i (.int .i64 (sgn v)) = iv (pc (kset K i v)) := by
  unfold iv
  rw [row_set]
  apply row_congr
  intro j _
  unfold pc kset
  by_cases c : j = i
  · rw [if_pos c, if_pos c]
  · rw [if_neg c, if_neg c]
theorem mc_set (K : Nat → Nat) (i v : Nat) : (iv (mc K)).setIfInBounds i (.int .i64 (v : Int)) = iv (mc (kset K i v)) := by
  unfold iv
  rw [row_set]
  apply row_congr
  intro j _
  unfold mc kset
  by_cases c : j = i
  · rw [if_pos c, if_pos c]
  · rw [if_neg c, if_neg c]
theorem pc_get (K : Nat → Nat) {i k : Nat} (hi : i < 32) (h : K i = k) : (iv (pc K))[i]? = some (.int .i64 (sgn k)) := by rw [iv_get _ hi]; unfold pc; rw [h]
theorem mc_get (K : Nat → Nat) {i k : Nat} (hi : i < 32) (h : K i = k) : (iv (mc K))[i]? = some (.int .i64 (k : Int)) := by rw [iv_get _ hi]; unfold mc; rw [h]
theorem pc_zero : iv (pc fun _ => 0) = iv fun _ => 0 := by unfold pc sgn; rfl
theorem mc_zero : iv (mc fun _ => 0) = iv fun _ => 0 := by unfold mc; rfl
@[go_sem] theorem is32_iv (f : Nat → Int) : Is32 (iv f) ↔ True := ⟨fun _ => trivial, fun _ => iv_size f⟩
@[go_sem] theorem ones_iv (f : Nat → Int) : Ones (iv f) ↔ True := ⟨fun _ => trivial, fun _ => iv_cells f⟩
@[go_sem] theorem ones_i32z : Ones #[Value.int .i64 0, Value.int .i64 0, Value.int .i64 0, Value.int .i64 0, Value.int .i64 0, Value.int .i64 0, Value.int .i64 0, Value.int .i64 0, Value.int .i64 0, Value.int .i64 0, Value.int .i64 0, Value.int .i64 0, Value.int .i64 0, Value.int .i64 0, Value.int .i64 0, Value.int .i64 0, Value.int .i64 0, Value.int .i64 0, Value.int .i64 0, Value.int .i64 0, Value.int .i64 0, Value.int .i64 0, Value.int .i64 0, Value.int .i64 0, Value.int .i64 0, Value.int .i64 0, Value.int .i64 0, Value.int .i64 0, Value.int .i64 0, Value.int .i64 0, Value.int .i64 0, Value.int .i64 0] ↔ True := ⟨fun _ => trivial, fun _ => by unfold Ones; simp [Value.oneCell']⟩
theorem aggI32 : AggT 88 32 := ⟨⟨_, Try.underlying88, rfl⟩, by kernel_rfl⟩
theorem aggI64 : AggT 84 32 := ⟨⟨_, Try.underlying84, rfl⟩, by kernel_rfl⟩
@[go_sem ↓] theorem exec_loadI32 (ρ : Operand → Value) (dst : Option Tmp) (x : Operand) (ty : TypeId) (pos : String) (after : Array Edge) (guard : Option (Nat × Bool)) : execOp ρ { dst, op := .load 88 x, type := ty, pos, after, guard } = loadT 88 (ρ x) := rfl
@[go_sem ↓] theorem exec_storeI32 (ρ : Operand → Value) (dst : Option Tmp) (x y : Operand) (ty : TypeId) (pos : String) (after : Array Edge) (guard : Option (Nat × Bool)) : execOp ρ { dst, op := .store 88 x y, type := ty, pos, after, guard } = storeT 88 (ρ x) (ρ y) := rfl
@[go_sem] theorem run_loadI32 {w : World} {g : Nat} (h : Is32 (cellsOf w g)) : (loadT 88 (.pointer (some ⟨g, 0, none⟩))).run Try.prog w = .ok (.value (.agg (cellsOf w g))) w := run_loadT aggI32 h (by decide)
@[go_sem] theorem run_storeI32 {w : World} {g : Nat} {cs : Array Value} (h : rowOk w g 32) (hs : Is32 cs) (hc : Ones cs) : (storeT 88 (.pointer (some ⟨g, 0, none⟩)) (.agg cs)).run Try.prog w = .ok .skip (w.setRow g cs) := run_storeT aggI32 h hs hc
@[go_sem ↓] theorem exec_loadI64 (ρ : Operand → Value) (dst : Option Tmp) (x : Operand) (ty : TypeId) (pos : String) (after : Array Edge) (guard : Option (Nat × Bool)) : execOp ρ { dst, op := .load 84 x, type := ty, pos, after, guard } = loadT 84 (ρ x) := rfl
@[go_sem ↓] theorem exec_storeI64 (ρ : Operand → Value) (dst : Option Tmp) (x y : Operand) (ty : TypeId) (pos : String) (after : Array Edge) (guard : Option (Nat × Bool)) : execOp ρ { dst, op := .store 84 x y, type := ty, pos, after, guard } = storeT 84 (ρ x) (ρ y) := rfl
@[go_sem] theorem run_loadI64 {w : World} {g : Nat} (h : Is32 (cellsOf w g)) : (loadT 84 (.pointer (some ⟨g, 0, none⟩))).run Try.prog w = .ok (.value (.agg (cellsOf w g))) w := run_loadT aggI64 h (by decide)
@[go_sem] theorem run_storeI64 {w : World} {g : Nat} {cs : Array Value} (h : rowOk w g 32) (hs : Is32 cs) (hc : Ones cs) : (storeT 84 (.pointer (some ⟨g, 0, none⟩)) (.agg cs)).run Try.prog w = .ok .skip (w.setRow g cs) := run_storeT aggI64 h hs hc
end Go.Proofs.Yteeideminlcblaa
