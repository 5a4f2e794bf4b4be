/- ExchangeOf of the program and of the model; the law's walk -/
import Derived.Test.YteeideminlcblaaDoorMake
import Derived.Test.YteeideminlcblaaDoorPlR
import Derived.Test.YteeideminlcblaaDoorFace
import Derived.Test.YteeideminlcblaaDoorToDs
import Derived.Test.YteeideminlcblaaDoorEqDs
import Derived.Test.YteeideminlcblaaDoorRegS
namespace Go.Proofs.YteeideminlcblaaDoor
open Go.RowKit

@[irreducible] def pv (l : List (Nat → Nat)) : Array Value := (plB l).toArray
theorem pv_list (l : List (Nat → Nat)) : (pv l).toList = plB l := by unfold pv; rfl
theorem pv_size (l : List (Nat → Nat)) : (pv l).size = l.length * 16 := by rw [← Array.length_toList, pv_list, plB_length]
theorem pv_cells (l : List (Nat → Nat)) : (pv l).all (·.oneCell') = true := by
  rw [Array.all_eq_true_iff_forall_mem]
  intro u hu
  exact plB_one u (by rw [← pv_list]; exact hu.val)
@[go_sem] theorem ones_pv (l : List (Nat → Nat)) : Ones (pv l) ↔ True := ⟨fun _ => trivial, fun _ => pv_cells l⟩
theorem pv_part (l : List (Nat → Nat)) {k : Nat} (hk : k < l.length) : (pv l).extract (k * 16) (k * 16 + 16) = av l[k] := plB_ext (by rw [pv_list, ← plB_length, List.take_length]) hk
theorem pv_load {w : World} {g : Nat} {l : List (Nat → Nat)} (h : cellsOf w g = pv l) (k o : Nat) (hk : k < l.length) (ho : o = k * 16) : (loadT 28 (.pointer (some ⟨g, o, none⟩))).run Tryd.prog w = .ok (.value (.agg (av l[k]))) w := by
  subst ho; exact run_loadR (by rw [h]; exact pv_part l hk)
/-- so many cells -/
def IsN (n : Nat) (c : Array Value) : Prop := c.size = n
@[go_sem] theorem pv_size2 (a b : Nat → Nat) : IsN 32 (pv [a, b]) ↔ True := ⟨fun _ => trivial, fun _ => pv_size _⟩
@[go_sem] theorem pv_size3 (a b c : Nat → Nat) : IsN 48 (pv [a, b, c]) ↔ True := ⟨fun _ => trivial, fun _ => pv_size _⟩
@[go_sem] theorem pv_size12 (a b c d e f g h i j k l : Nat → Nat) : IsN 192 (pv [a, b, c, d, e, f, g, h, i, j, k, l]) ↔ True := ⟨fun _ => trivial, fun _ => pv_size _⟩
theorem rowOk_atN {n : Nat} {w : World} {g : Nat} {c : Array Value} {t : TypeId} (h : g = w.heap.size) (hc : IsN n c) : rowOk (w.alloc (.cells c t)) g n ↔ True := ⟨fun _ => trivial, fun _ => ⟨c, t, heap_at _ _ _ h, hc⟩⟩
-- left out here: None
-- left out here: None
-- left out here: None
@[go_sem] theorem rowOk_atX2 {w : World} {g : Nat} {c : Array Value} {t : TypeId} (h : g = w.heap.size) (hc : IsN 32 c) : rowOk (w.alloc (.cells c t)) g 32 ↔ True := rowOk_atN h hc
-- left out here: None
-- left out here: None
-- left out here: None
@[go_sem] theorem rowOk_atX62 {w : World} {g : Nat} {c : Array Value} {t : TypeId} (h : g = w.heap.size) (hc : IsN 192 c) : rowOk (w.alloc (.cells c t)) g 192 ↔ True := rowOk_atN h hc
-- left out here: None
-- left out here: None
-- left out here: None
@[go_sem] theorem rowOk_atX3 {w : World} {g : Nat} {c : Array Value} {t : TypeId} (h : g = w.heap.size) (hc : IsN 48 c) : rowOk (w.alloc (.cells c t)) g 48 ↔ True := rowOk_atN h hc
-- left out here: None
-- left out here: None
-- left out here: None
-- left out here: None
-- left out here: None
-- left out here: None
-- left out here: None
-- left out here: None
-- left out here: None
-- left out here: None
-- left out here: None
-- left out here: None
-- left out here: None
theorem pv_zero3 : pv [fun _ => 0, fun _ => 0, fun _ => 0] = #[Value.int .u8 0, Value.int .u8 0, Value.int .u8 0, Value.int .u8 0, Value.int .u8 0, Value.int .u8 0, Value.int .u8 0, Value.int .u8 0, Value.int .u8 0, Value.int .u8 0, Value.int .u8 0, Value.int .u8 0, Value.int .u8 0, Value.int .u8 0, Value.int .u8 0, Value.int .u8 0, Value.int .u8 0, Value.int .u8 0, Value.int .u8 0, Value.int .u8 0, Value.int .u8 0, Value.int .u8 0, Value.int .u8 0, Value.int .u8 0, Value.int .u8 0, Value.int .u8 0, Value.int .u8 0, Value.int .u8 0, Value.int .u8 0, Value.int .u8 0, Value.int .u8 0, Value.int .u8 0, Value.int .u8 0, Value.int .u8 0, Value.int .u8 0, Value.int .u8 0, Value.int .u8 0, Value.int .u8 0, Value.int .u8 0, Value.int .u8 0, Value.int .u8 0, Value.int .u8 0, Value.int .u8 0, Value.int .u8 0, Value.int .u8 0, Value.int .u8 0, Value.int .u8 0, Value.int .u8 0] := by unfold pv plB av row; rfl
@[go_sem] theorem isN_lit6 (a b c d e f : Value) : IsN 6 #[a, b, c, d, e, f] ↔ True := ⟨fun _ => trivial, fun _ => rfl⟩
def six (a b c d e f : Int) : Array Value := #[.int .i64 a, .int .i64 b, .int .i64 c, .int .i64 d, .int .i64 e, .int .i64 f]
@[go_sem] theorem isN_six (a b c d e f : Int) : IsN 6 (six a b c d e f) ↔ True := ⟨fun _ => trivial, fun _ => rfl⟩
@[go_sem] theorem ones_six (a b c d e f : Int) : Ones (six a b c d e f) ↔ True := ⟨fun _ => trivial, fun _ => by unfold Ones six; simp [Value.oneCell']⟩
-- left out here: None
-- left out here: None
-- left out here: None
@[go_sem] theorem rowOk_at6 {w : World} {g : Nat} {c : Array Value} {t : TypeId} (h : g = w.heap.size) (hc : IsN 6 c) : rowOk (w.alloc (.cells c t)) g 6 ↔ True := rowOk_atN h hc
-- left out here: None
-- left out here: None
-- left out here: None
-- left out here: None
/-- what exchange k makes of three permutations -/
def exB (f g h : Nat → Nat) (k : Nat) : Nat → Nat := if k = 0 then f else if k = 1 then g else if k = 2 then g else if k = 3 then h else if k = 4 then f else h
def exW (f g h : Nat → Nat) (k : Nat) : Nat → Nat := if k = 0 then g else if k = 1 then f else if k = 2 then h else if k = 3 then f else if k = 4 then h else g
open Classical in
noncomputable def excR (n : Int) (f g : Nat → Nat) (k : Int) : Value :=
  if desB n f g = true then (if 0 ≤ k ∧ k ≤ 5 then .tuple #[.agg (dv n (exB f g (faceF f g n.toNat) k.toNat) (exW f g (faceF f g n.toNat) k.toNat)), .int .i64 0] else .tuple #[.agg (dv 0 (fun _ => 0) (fun _ => 0)), .int .i64 2]) else .tuple #[.agg (dv 0 (fun _ => 0) (fun _ => 0)), .int .i64 1]
theorem excR_eq (n : Int) (f g : Nat → Nat) (k : Int) : ∃ (a : Int) (r s : Nat → Nat) (c : Int), excR n f g k = .tuple #[.agg (dv a r s), .int .i64 c] := by
  unfold excR; split
  · split
    · exact ⟨_, _, _, _, rfl⟩
    · exact ⟨_, _, _, _, rfl⟩
  · exact ⟨_, _, _, _, rfl⟩

-- left out here: loop.example/g01200/impl.isTurnNumber
theorem l01InE_any (n a b : Int) (w : World) : Calls Tryd.prog 65 #[.int .i64 n, .int .i64 a, .int .i64 b] w fun e w' => e = .returned (.bool (decide (a ≤ n ∧ n ≤ b))) ∧ w = w' := by
  by_cases h : a ≤ n ∧ n ≤ b
  · rw [decide_eq_true h]; exact in_yes n a b w h.1 h.2
  · rw [decide_eq_false h]; exact in_no n a b w h

theorem l01In_any (n a b : Int) (w : World) : Calls Tryd.prog 65 #[.int .i64 n, .int .i64 a, .int .i64 b] w fun e w' => e = .returned (.bool (decide (a ≤ n ∧ n ≤ b))) ∧ Below w.heap.size w w' := (l01InE_any n a b w).mono fun e w' h => ⟨h.1, by rw [← h.2]; exact Below.refl _ _⟩
-- left out here: loop.example/g01200/impl.ExchangeOf
-- left out here: loop.example/g01200/spec.ExchangeOf
end Go.Proofs.YteeideminlcblaaDoor
