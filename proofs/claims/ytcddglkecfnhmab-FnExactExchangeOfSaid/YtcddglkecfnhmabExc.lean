/- ExchangeOf of the program and of the model; the law's walk -/
import Derived.Test.YtcddglkecfnhmabMake
import Derived.Test.YtcddglkecfnhmabPlR
import Derived.Test.YtcddglkecfnhmabFace
import Derived.Test.YtcddglkecfnhmabToDs
import Derived.Test.YtcddglkecfnhmabEqDs
import Derived.Test.YtcddglkecfnhmabRegS
namespace Go.Proofs.Ytcddglkecfnhmab
open Go.RowKit

@[irreducible] def pv (l : List (Nat → Nat)) : Array Value := (plB l).toArray
theorem pv_list (l : List (Nat → Nat)) : (pv l).toList = plB l := by unfold pv; rfl
theorem pv_size (l : List (Nat → Nat)) : (pv l).size = l.length * 16 := by rw [← Array.length_toList, pv_list, plB_length]
theorem pv_cells (l : List (Nat → Nat)) : (pv l).all (·.oneCell') = true := by
  rw [Array.all_eq_true_iff_forall_mem]
  intro u hu
  exact plB_one u (by rw [← pv_list]; exact hu.val)
@[go_sem] theorem ones_pv (l : List (Nat → Nat)) : Ones (pv l) ↔ True := ⟨fun _ => trivial, fun _ => pv_cells l⟩
theorem pv_part (l : List (Nat → Nat)) {k : Nat} (hk : k < l.length) : (pv l).extract (k * 16) (k * 16 + 16) = av l[k] := plB_ext (by rw [pv_list, ← plB_length, List.take_length]) hk
theorem pv_load {w : World} {g : Nat} {l : List (Nat → Nat)} (h : cellsOf w g = pv l) (k o : Nat) (hk : k < l.length) (ho : o = k * 16) : (loadT 27 (.pointer (some ⟨g, o, none⟩))).run Try.prog w = .ok (.value (.agg (av l[k]))) w := by
  subst ho; exact run_loadR (by rw [h]; exact pv_part l hk)
/-- so many cells -/
def IsN (n : Nat) (c : Array Value) : Prop := c.size = n
@[go_sem] theorem pv_size2 (a b : Nat → Nat) : IsN 32 (pv [a, b]) ↔ True := ⟨fun _ => trivial, fun _ => pv_size _⟩
@[go_sem] theorem pv_size3 (a b c : Nat → Nat) : IsN 48 (pv [a, b, c]) ↔ True := ⟨fun _ => trivial, fun _ => pv_size _⟩
@[go_sem] theorem pv_size12 (a b c d e f g h i j k l : Nat → Nat) : IsN 192 (pv [a, b, c, d, e, f, g, h, i, j, k, l]) ↔ True := ⟨fun _ => trivial, fun _ => pv_size _⟩
theorem rowOk_atN {n : Nat} {w : World} {g : Nat} {c : Array Value} {t : TypeId} (h : g = w.heap.size) (hc : IsN n c) : rowOk (w.alloc (.cells c t)) g n ↔ True := ⟨fun _ => trivial, fun _ => ⟨c, t, heap_at _ _ _ h, hc⟩⟩
theorem aggX2 : AggT 47 32 := ⟨⟨_, Try.underlying47, rfl⟩, by kernel_rfl⟩
@[go_sem ↓] theorem exec_storeX2 (ρ : Operand → Value) (dst : Option Tmp) (x y : Operand) (ty : TypeId) (pos : String) (after : Array Edge) (guard : Option (Nat × Bool)) : execOp ρ { dst, op := .store 47 x y, type := ty, pos, after, guard } = storeT 47 (ρ x) (ρ y) := rfl
@[go_sem] theorem run_storeX2 {w : World} {g : Nat} {cs : Array Value} (h : rowOk w g 32) (hs : IsN 32 cs) (hc : Ones cs) : (storeT 47 (.pointer (some ⟨g, 0, none⟩)) (.agg cs)).run Try.prog w = .ok .skip (w.setRow g cs) := run_storeT aggX2 h hs hc
@[go_sem] theorem rowOk_atX2 {w : World} {g : Nat} {c : Array Value} {t : TypeId} (h : g = w.heap.size) (hc : IsN 32 c) : rowOk (w.alloc (.cells c t)) g 32 ↔ True := rowOk_atN h hc
theorem aggX62 : AggT 48 192 := ⟨⟨_, Try.underlying48, rfl⟩, by kernel_rfl⟩
@[go_sem ↓] theorem exec_storeX62 (ρ : Operand → Value) (dst : Option Tmp) (x y : Operand) (ty : TypeId) (pos : String) (after : Array Edge) (guard : Option (Nat × Bool)) : execOp ρ { dst, op := .store 48 x y, type := ty, pos, after, guard } = storeT 48 (ρ x) (ρ y) := rfl
@[go_sem] theorem run_storeX62 {w : World} {g : Nat} {cs : Array Value} (h : rowOk w g 192) (hs : IsN 192 cs) (hc : Ones cs) : (storeT 48 (.pointer (some ⟨g, 0, none⟩)) (.agg cs)).run Try.prog w = .ok .skip (w.setRow g cs) := run_storeT aggX62 h hs hc
@[go_sem] theorem rowOk_atX62 {w : World} {g : Nat} {c : Array Value} {t : TypeId} (h : g = w.heap.size) (hc : IsN 192 c) : rowOk (w.alloc (.cells c t)) g 192 ↔ True := rowOk_atN h hc
theorem aggX3 : AggT 44 48 := ⟨⟨_, Try.underlying44, rfl⟩, by kernel_rfl⟩
@[go_sem ↓] theorem exec_storeX3 (ρ : Operand → Value) (dst : Option Tmp) (x y : Operand) (ty : TypeId) (pos : String) (after : Array Edge) (guard : Option (Nat × Bool)) : execOp ρ { dst, op := .store 44 x y, type := ty, pos, after, guard } = storeT 44 (ρ x) (ρ y) := rfl
@[go_sem] theorem run_storeX3 {w : World} {g : Nat} {cs : Array Value} (h : rowOk w g 48) (hs : IsN 48 cs) (hc : Ones cs) : (storeT 44 (.pointer (some ⟨g, 0, none⟩)) (.agg cs)).run Try.prog w = .ok .skip (w.setRow g cs) := run_storeT aggX3 h hs hc
@[go_sem] theorem rowOk_atX3 {w : World} {g : Nat} {c : Array Value} {t : TypeId} (h : g = w.heap.size) (hc : IsN 48 c) : rowOk (w.alloc (.cells c t)) g 48 ↔ True := rowOk_atN h hc
set_option maxRecDepth 100000 in
theorem builtX2 (a b : Nat → Nat) : Try.prog.built 47 [(0, .agg (av a)), (1, .agg (av b))] = some (pv [a, b]) := by
  have h := built_arr (P := Try.prog) (T := 47) (n := 2) (E := 27) (s := 16) (N := 32) Try.underlying47 (by kernel_rfl) (by kernel_rfl) [(0, .agg (av a)), (1, .agg (av b))] (by simp [Fits, Value.cells, av_size, pv_size]) (by simp [flatC, Value.cells, av_size, pv_size])
  rw [h]
  unfold flatC
  simp only [List.flatMap_cons, List.flatMap_nil, Value.cells, pv_list]
  unfold pv plB
  simp only [List.flatMap_cons, List.flatMap_nil, List.append_nil, List.append_assoc]
def buildX2 (ps : Array (Nat × Value)) : Sem Next := do pure (.value (← Instr.build 47 ps))
@[go_sem ↓] theorem exec_buildX2 (ρ : Operand → Value) (dst : Option Tmp) (parts : Array (Nat × Operand)) (ty : TypeId) (pos : String) (after : Array Edge) (guard : Option (Nat × Bool)) :
    execOp ρ { dst, op := .build 47 parts, type := ty, pos, after, guard } = buildX2 (parts.map fun (i, x) => (i, ρ x)) := rfl
@[go_sem] theorem run_buildX2 (a b : Nat → Nat) (w : World) : (buildX2 #[(0, .agg (av a)), (1, .agg (av b))]).run Try.prog w = .ok (.value (.agg (pv [a, b]))) w := by
  simp only [buildX2, Sem.run_bind, run_build (P := Try.prog) w 47 #[(0, .agg (av a)), (1, .agg (av b))] _ (builtX2 a b), Result.andThen_ok, Sem.run_pure]
set_option maxRecDepth 100000 in
theorem builtX62 (a b c d e f g h i j k l : Nat → Nat) : Try.prog.built 48 [(0, .agg (pv [a, b])), (1, .agg (pv [c, d])), (2, .agg (pv [e, f])), (3, .agg (pv [g, h])), (4, .agg (pv [i, j])), (5, .agg (pv [k, l]))] = some (pv [a, b, c, d, e, f, g, h, i, j, k, l]) := by
  have h := built_arr (P := Try.prog) (T := 48) (n := 6) (E := 47) (s := 32) (N := 192) Try.underlying48 (by kernel_rfl) (by kernel_rfl) [(0, .agg (pv [a, b])), (1, .agg (pv [c, d])), (2, .agg (pv [e, f])), (3, .agg (pv [g, h])), (4, .agg (pv [i, j])), (5, .agg (pv [k, l]))] (by simp [Fits, Value.cells, av_size, pv_size]) (by simp [flatC, Value.cells, av_size, pv_size])
  rw [h]
  unfold flatC
  simp only [List.flatMap_cons, List.flatMap_nil, Value.cells, pv_list]
  unfold pv plB
  simp only [List.flatMap_cons, List.flatMap_nil, List.append_nil, List.append_assoc]
def buildX62 (ps : Array (Nat × Value)) : Sem Next := do pure (.value (← Instr.build 48 ps))
@[go_sem ↓] theorem exec_buildX62 (ρ : Operand → Value) (dst : Option Tmp) (parts : Array (Nat × Operand)) (ty : TypeId) (pos : String) (after : Array Edge) (guard : Option (Nat × Bool)) :
    execOp ρ { dst, op := .build 48 parts, type := ty, pos, after, guard } = buildX62 (parts.map fun (i, x) => (i, ρ x)) := rfl
@[go_sem] theorem run_buildX62 (a b c d e f g h i j k l : Nat → Nat) (w : World) : (buildX62 #[(0, .agg (pv [a, b])), (1, .agg (pv [c, d])), (2, .agg (pv [e, f])), (3, .agg (pv [g, h])), (4, .agg (pv [i, j])), (5, .agg (pv [k, l]))]).run Try.prog w = .ok (.value (.agg (pv [a, b, c, d, e, f, g, h, i, j, k, l]))) w := by
  simp only [buildX62, Sem.run_bind, run_build (P := Try.prog) w 48 #[(0, .agg (pv [a, b])), (1, .agg (pv [c, d])), (2, .agg (pv [e, f])), (3, .agg (pv [g, h])), (4, .agg (pv [i, j])), (5, .agg (pv [k, l]))] _ (builtX62 a b c d e f g h i j k l), Result.andThen_ok, Sem.run_pure]
set_option maxRecDepth 100000 in
theorem builtX3 (a b c : Nat → Nat) : Try.prog.built 44 [(0, .agg (av a)), (1, .agg (av b)), (2, .agg (av c))] = some (pv [a, b, c]) := by
  have h := built_arr (P := Try.prog) (T := 44) (n := 3) (E := 27) (s := 16) (N := 48) Try.underlying44 (by kernel_rfl) (by kernel_rfl) [(0, .agg (av a)), (1, .agg (av b)), (2, .agg (av c))] (by simp [Fits, Value.cells, av_size, pv_size]) (by simp [flatC, Value.cells, av_size, pv_size])
  rw [h]
  unfold flatC
  simp only [List.flatMap_cons, List.flatMap_nil, Value.cells, pv_list]
  unfold pv plB
  simp only [List.flatMap_cons, List.flatMap_nil, List.append_nil, List.append_assoc]
def buildX3 (ps : Array (Nat × Value)) : Sem Next := do pure (.value (← Instr.build 44 ps))
@[go_sem ↓] theorem exec_buildX3 (ρ : Operand → Value) (dst : Option Tmp) (parts : Array (Nat × Operand)) (ty : TypeId) (pos : String) (after : Array Edge) (guard : Option (Nat × Bool)) :
    execOp ρ { dst, op := .build 44 parts, type := ty, pos, after, guard } = buildX3 (parts.map fun (i, x) => (i, ρ x)) := rfl
@[go_sem] theorem run_buildX3 (a b c : Nat → Nat) (w : World) : (buildX3 #[(0, .agg (av a)), (1, .agg (av b)), (2, .agg (av c))]).run Try.prog w = .ok (.value (.agg (pv [a, b, c]))) w := by
  simp only [buildX3, Sem.run_bind, run_build (P := Try.prog) w 44 #[(0, .agg (av a)), (1, .agg (av b)), (2, .agg (av c))] _ (builtX3 a b c), Result.andThen_ok, Sem.run_pure]
set_option maxRecDepth 100000 in
@[go_sem] theorem run_zeroX62 (w : World) : (zeroValue 48).run Try.prog w = .ok (.agg (pv [fun _ => 0, fun _ => 0, fun _ => 0, fun _ => 0, fun _ => 0, fun _ => 0, fun _ => 0, fun _ => 0, fun _ => 0, fun _ => 0, fun _ => 0, fun _ => 0])) w := by
  have hz : (Try.prog.info? 48).map (·.zero) = some (some (.agg (pv [fun _ => 0, fun _ => 0, fun _ => 0, fun _ => 0, fun _ => 0, fun _ => 0, fun _ => 0, fun _ => 0, fun _ => 0, fun _ => 0, fun _ => 0, fun _ => 0]))) := by unfold pv plB av row; kernel_rfl
  rcases hi : Try.prog.info? 48 with _ | it
  · rw [hi] at hz; cases hz
  · rw [hi] at hz
    have hz' : it.zero = some (.agg (pv [fun _ => 0, fun _ => 0, fun _ => 0, fun _ => 0, fun _ => 0, fun _ => 0, fun _ => 0, fun _ => 0, fun _ => 0, fun _ => 0, fun _ => 0, fun _ => 0])) := by simpa using hz
    simp [zeroValue, typeInfo, hi, hz']
theorem pv_zero3 : pv [fun _ => 0, fun _ => 0, fun _ => 0] = #[Value.int .u8 0, Value.int .u8 0, Value.int .u8 0, Value.int .u8 0, Value.int .u8 0, Value.int .u8 0, Value.int .u8 0, Value.int .u8 0, Value.int .u8 0, Value.int .u8 0, Value.int .u8 0, Value.int .u8 0, Value.int .u8 0, Value.int .u8 0, Value.int .u8 0, Value.int .u8 0, Value.int .u8 0, Value.int .u8 0, Value.int .u8 0, Value.int .u8 0, Value.int .u8 0, Value.int .u8 0, Value.int .u8 0, Value.int .u8 0, Value.int .u8 0, Value.int .u8 0, Value.int .u8 0, Value.int .u8 0, Value.int .u8 0, Value.int .u8 0, Value.int .u8 0, Value.int .u8 0, Value.int .u8 0, Value.int .u8 0, Value.int .u8 0, Value.int .u8 0, Value.int .u8 0, Value.int .u8 0, Value.int .u8 0, Value.int .u8 0, Value.int .u8 0, Value.int .u8 0, Value.int .u8 0, Value.int .u8 0, Value.int .u8 0, Value.int .u8 0, Value.int .u8 0, Value.int .u8 0] := by unfold pv plB av row; rfl
@[go_sem] theorem isN_lit6 (a b c d e f : Value) : IsN 6 #[a, b, c, d, e, f] ↔ True := ⟨fun _ => trivial, fun _ => rfl⟩
def six (a b c d e f : Int) : Array Value := #[.int .i64 a, .int .i64 b, .int .i64 c, .int .i64 d, .int .i64 e, .int .i64 f]
@[go_sem] theorem isN_six (a b c d e f : Int) : IsN 6 (six a b c d e f) ↔ True := ⟨fun _ => trivial, fun _ => rfl⟩
@[go_sem] theorem ones_six (a b c d e f : Int) : Ones (six a b c d e f) ↔ True := ⟨fun _ => trivial, fun _ => by unfold Ones six; simp [Value.oneCell']⟩
theorem agg6 : AggT 45 6 := ⟨⟨_, Try.underlying45, rfl⟩, by kernel_rfl⟩
@[go_sem ↓] theorem exec_store6 (ρ : Operand → Value) (dst : Option Tmp) (x y : Operand) (ty : TypeId) (pos : String) (after : Array Edge) (guard : Option (Nat × Bool)) : execOp ρ { dst, op := .store 45 x y, type := ty, pos, after, guard } = storeT 45 (ρ x) (ρ y) := rfl
@[go_sem] theorem run_store6 {w : World} {g : Nat} {cs : Array Value} (h : rowOk w g 6) (hs : IsN 6 cs) (hc : Ones cs) : (storeT 45 (.pointer (some ⟨g, 0, none⟩)) (.agg cs)).run Try.prog w = .ok .skip (w.setRow g cs) := run_storeT agg6 h hs hc
@[go_sem] theorem rowOk_at6 {w : World} {g : Nat} {c : Array Value} {t : TypeId} (h : g = w.heap.size) (hc : IsN 6 c) : rowOk (w.alloc (.cells c t)) g 6 ↔ True := rowOk_atN h hc
theorem built6 (a b c d e f : Int) : Try.prog.built 45 [(0, .int .i64 a), (1, .int .i64 b), (2, .int .i64 c), (3, .int .i64 d), (4, .int .i64 e), (5, .int .i64 f)] = some (six a b c d e f) := by
  have h := built_arr (P := Try.prog) (T := 45) (n := 6) (E := 3) (s := 1) (N := 6) Try.underlying45 (by kernel_rfl) (by kernel_rfl) [(0, .int .i64 a), (1, .int .i64 b), (2, .int .i64 c), (3, .int .i64 d), (4, .int .i64 e), (5, .int .i64 f)] (by simp [Fits, Value.cells]) (by simp [flatC, Value.cells])
  rw [h]
  rfl
def build6 (ps : Array (Nat × Value)) : Sem Next := do pure (.value (← Instr.build 45 ps))
@[go_sem ↓] theorem exec_build6 (ρ : Operand → Value) (dst : Option Tmp) (parts : Array (Nat × Operand)) (ty : TypeId) (pos : String) (after : Array Edge) (guard : Option (Nat × Bool)) :
    execOp ρ { dst, op := .build 45 parts, type := ty, pos, after, guard } = build6 (parts.map fun (i, x) => (i, ρ x)) := rfl
@[go_sem] theorem run_build6 (a b c d e f : Int) (w : World) : (build6 #[(0, .int .i64 a), (1, .int .i64 b), (2, .int .i64 c), (3, .int .i64 d), (4, .int .i64 e), (5, .int .i64 f)]).run Try.prog w = .ok (.value (.agg (six a b c d e f))) w := by
  simp only [build6, Sem.run_bind, run_build (P := Try.prog) w 45 #[(0, .int .i64 a), (1, .int .i64 b), (2, .int .i64 c), (3, .int .i64 d), (4, .int .i64 e), (5, .int .i64 f)] _ (built6 a b c d e f), Result.andThen_ok, Sem.run_pure]

/-- what exchange k makes of three permutations -/
def exB (f g h : Nat → Nat) (k : Nat) : Nat → Nat := if k = 0 then f else if k = 1 then g else if k = 2 then g else if k = 3 then h else if k = 4 then f else h
def exW (f g h : Nat → Nat) (k : Nat) : Nat → Nat := if k = 0 then g else if k = 1 then f else if k = 2 then h else if k = 3 then f else if k = 4 then h else g
open Classical in
noncomputable def excR (n : Int) (f g : Nat → Nat) (k : Int) : Value :=
  if desB n f g = true then (if 0 ≤ k ∧ k ≤ 5 then .tuple #[.agg (dv n (exB f g (faceF f g n.toNat) k.toNat) (exW f g (faceF f g n.toNat) k.toNat)), .int .i64 0] else .tuple #[.agg (dv 0 (fun _ => 0) (fun _ => 0)), .int .i64 2]) else .tuple #[.agg (dv 0 (fun _ => 0) (fun _ => 0)), .int .i64 1]
theorem excR_eq (n : Int) (f g : Nat → Nat) (k : Int) : ∃ (a : Int) (r s : Nat → Nat) (c : Int), excR n f g k = .tuple #[.agg (dv a r s), .int .i64 c] := by
  unfold excR; split
  · split
    · exact ⟨_, _, _, _, rfl⟩
    · exact ⟨_, _, _, _, rfl⟩
  · exact ⟨_, _, _, _, rfl⟩

set_option maxRecDepth 100000 in
theorem isTurn_any (k : Int) (w : World) : Calls Try.prog 30 #[.int .i64 k] w fun e w' => e = .returned (.bool (decide (0 ≤ k) && decide (k < 6))) ∧ Below w.heap.size w w' := by
  by_cases h1 : 0 ≤ k
  · by_cases h2 : k < 6
    · have e1 : decide (0 ≤ k) = true := decide_eq_true h1
      have e2 : decide (k < 6) = true := decide_eq_true h2
      go_enter Try.func30, Try.ntmps30
      go_wp2
      go_ret
      exact ⟨by simp [h1, h2], Below.refl _ _⟩
    · have e1 : decide (0 ≤ k) = true := decide_eq_true h1
      have e2 : decide (k < 6) = false := decide_eq_false h2
      go_enter Try.func30, Try.ntmps30
      go_wp2
      go_ret
      exact ⟨by simp [h2], Below.refl _ _⟩
  · have e1 : decide (0 ≤ k) = false := decide_eq_false h1
    go_enter Try.func30, Try.ntmps30
    go_wp2
    go_ret
    exact ⟨by simp [h1], Below.refl _ _⟩
theorem l01InE_any (n a b : Int) (w : World) : Calls Try.prog 28 #[.int .i64 n, .int .i64 a, .int .i64 b] w fun e w' => e = .returned (.bool (decide (a ≤ n ∧ n ≤ b))) ∧ w = w' := by
  by_cases h : a ≤ n ∧ n ≤ b
  · rw [decide_eq_true h]; exact in_yes n a b w h.1 h.2
  · rw [decide_eq_false h]; exact in_no n a b w h

theorem l01In_any (n a b : Int) (w : World) : Calls Try.prog 28 #[.int .i64 n, .int .i64 a, .int .i64 b] w fun e w' => e = .returned (.bool (decide (a ≤ n ∧ n ≤ b))) ∧ Below w.heap.size w w' := (l01InE_any n a b w).mono fun e w' h => ⟨h.1, by rw [← h.2]; exact Below.refl _ _⟩
set_option maxRecDepth 100000 in
set_option maxHeartbeats 4000000 in
theorem exchangeOf_any (n : Int) (f g : Nat → Nat) (hf : ∀ i, f i < 256) (hg : ∀ i, g i < 256) (k : Int) (w : World) :
    Calls Try.prog 13 #[.agg (dv n f g), .int .i64 k] w fun e w' => e = .returned (excR n f g k) ∧ Below w.heap.size w w' := by
  have C1 := hide fun w => isDessin_any n f g hf hg w
  have HH0 := ((Holds.start w).blk (dv n f g) 29 w.heap.size rfl).blk (dv 0 (fun _ => 0) (fun _ => 0)) 29 (w.heap.size + 1) (by simp)
  clear hf hg
  rcases h1 : desB n f g with _ | _
  · rw [h1] at C1
    have hr : excR n f g k = .tuple #[.agg (dv 0 (fun _ => 0) (fun _ => 0)), .int .i64 1] := by unfold excR; rw [if_neg (by simp [h1])]
    rw [hr]
    clear h1 hr
    go_enter Try.func13, Try.ntmps13
    go_wp2_with fail
    rw [← dv_zero]
    refine (C1.out _).mono ?_
    rintro e w1 ⟨rfl, hb⟩
    have HH1 := HH0.call hb
    have cd1 := HH1.cells 1 rfl
    have rr1 := HH1.rowOk (n := 33) 0 rfl (dv_size _ _ _)
    clear hb HH0
    have HHs := HH1.setRow 0 rfl (dv 0 (fun _ => 0) (fun _ => 0))
    go_wp2
    exact res_agg2 (p := 4) (t := 5) (g := w.heap.size + 1) (v := .int .i64 1) aggD (dv_size _ _ _) rfl rfl rfl rfl (HHs.at 0 rfl) ⟨rfl, HHs.low⟩
  rw [h1] at C1
  obtain ⟨m, rfl, hd⟩ := desB_true h1
  have hn := dv_n m f g
  by_cases hk : 0 ≤ k ∧ k ≤ 5
  rotate_left
  · have hr : excR (m : Int) f g k = .tuple #[.agg (dv 0 (fun _ => 0) (fun _ => 0)), .int .i64 2] := by unfold excR; rw [if_pos h1, if_neg hk]
    rw [hr]
    have C2 := hide fun w => isTurn_any k w
    rw [show (decide (0 ≤ k) && decide (k < 6)) = false by simp; omega] at C2
    clear h1 hr hd hk
    go_enter Try.func13, Try.ntmps13
    go_wp2_with fail
    rw [← dv_zero]
    refine (C1.out _).mono ?_
    rintro e w1 ⟨rfl, hb⟩
    have HH1 := HH0.call hb
    have cd1 := HH1.cells 1 rfl
    have rr1 := HH1.rowOk (n := 33) 0 rfl (dv_size _ _ _)
    clear hb HH0
    go_wp2_with fail
    refine (C2.out _).mono ?_
    rintro e w2 ⟨rfl, hb⟩
    have HH2 := HH1.call hb
    have cd2 := HH2.cells 1 rfl
    have rr2 := HH2.rowOk (n := 33) 0 rfl (dv_size _ _ _)
    clear hb HH1 cd1 rr1
    have HHs := HH2.setRow 0 rfl (dv 0 (fun _ => 0) (fun _ => 0))
    go_wp2
    exact res_agg2 (p := 4) (t := 5) (g := w.heap.size + 1) (v := .int .i64 2) aggD (dv_size _ _ _) rfl rfl rfl rfl (HHs.at 0 rfl) ⟨rfl, HHs.low⟩
  have C2 := hide fun w => isTurn_any k w
  rw [show (decide (0 ≤ k) && decide (k < 6)) = true by simp; omega] at C2
  have hr : excR (m : Int) f g k = .tuple #[.agg (dv m (exB f g (faceF f g m) k.toNat) (exW f g (faceF f g m) k.toNat)), .int .i64 0] := by unfold excR; rw [if_pos h1, if_pos hk, Int.toNat_natCast]
  rw [hr]
  have C3 := hide fun w => face_any f g m hd.le hd.bf.1 hd.bg.1 w
  generalize faceF f g m = F at *
  clear h1 hr hd
  go_enter Try.func13, Try.ntmps13
  go_wp2_with fail
  rw [← dv_zero]
  refine (C1.out _).mono ?_
  rintro e w1 ⟨rfl, hb⟩
  have HH1 := HH0.call hb
  have cd1 := HH1.cells 1 rfl
  have rr1 := HH1.rowOk (n := 33) 0 rfl (dv_size _ _ _)
  clear hb HH0
  go_wp2_with fail
  refine (C2.out _).mono ?_
  rintro e w2 ⟨rfl, hb⟩
  have HH2 := HH1.call hb
  have cd2 := HH2.cells 1 rfl
  have rr2 := HH2.rowOk (n := 33) 0 rfl (dv_size _ _ _)
  clear hb HH1 cd1 rr1
  go_wp2
  clear cd2 rr2
  apply Rd.region_R3 (w0 := w) [pBlk (w.heap.size + 1) (dv 0 (fun _ => 0) (fun _ => 0)) 29, pBlk w.heap.size (dv (m : Int) f g) 29] [pBlk (w.heap.size + 1) (dv 0 (fun _ => 0) (fun _ => 0)) 29, pBlk w.heap.size (dv (m : Int) f g) 29] [6, 7, 8, 9, 10, 11] (.q 0 <| .q 1 <| .q 2 <| .q 3 <| .q 4 <| .q 5 <| .s3 6 (.s2 7 (.s1 8 <| .s1 9 <| .s1 10 <| .s1 11 .fin) 8 (.s1 7 <| .s1 9 <| .s1 10 <| .s1 11 .fin)) 7 (.s2 6 (.s1 8 <| .s1 9 <| .s1 10 <| .s1 11 .fin) 8 (.s1 6 <| .s1 9 <| .s1 10 <| .s1 11 .fin)) 8 (.s2 6 (.s1 7 <| .s1 9 <| .s1 10 <| .s1 11 .fin) 7 (.s1 6 <| .s1 9 <| .s1 10 <| .s1 11 .fin))) HH2 (.refl _) (by kernel_rfl) (by kernel_rfl) (by kernel_rfl) (F := fun (g6 g7 g8 : Nat) => pBlk g8 (av F) 27 :: pBlk g7 (av g) 27 :: pBlk g6 (av f) 27 :: [pBlk (w.heap.size + 1) (dv 0 (fun _ => 0) (fun _ => 0)) 29, pBlk w.heap.size (dv (m : Int) f g) 29])
  case h =>
    intro K key
    iterate 5
      apply Rd.v_q
      · simp only [List.getElem?_toArray, List.getElem?_cons_zero, List.getElem?_cons_succ]; exact rfl
      · rfl
      · go_simp
      · intro wx hx
        have q0 := hx.cells 1 rfl
        unfold atG
        go_simp
        simp only [uponG]
        exact ⟨by trivial, rfl⟩
    iterate 1
      apply Rd.v_q
      · simp only [List.getElem?_toArray, List.getElem?_cons_zero, List.getElem?_cons_succ]; exact rfl
      · rfl
      · go_simp
      · intro wx hx
        have q0 := hx.cells 1 rfl
        unfold atG
        go_simp
        simp only [uponG]
        exact ⟨by trivial, C3.out wx⟩
    refine ⟨?_, ?_, ?_⟩
    · refine Rd.v_box (av fun _ => 0) 27 (by simp only [List.getElem?_toArray, List.getElem?_cons_zero, List.getElem?_cons_succ]; exact rfl) rfl (by go_simp) (fun wx hx hD => by rw [av_zero]; go_simp) fun g6 => ?_
      refine ⟨?_, ?_⟩
      · refine Rd.v_box (av fun _ => 0) 27 (by simp only [List.getElem?_toArray, List.getElem?_cons_zero, List.getElem?_cons_succ]; exact rfl) rfl (by go_simp) (fun wx hx hD => by rw [av_zero]; go_simp) fun g7 => ?_
        refine Rd.v_box (av fun _ => 0) 27 (by simp only [List.getElem?_toArray, List.getElem?_cons_zero, List.getElem?_cons_succ]; exact rfl) rfl (by go_simp) (fun wx hx hD => by rw [av_zero]; go_simp) fun g8 => ?_
        refine Rd.v_put 2 g6 (av fun _ => 0) (av f) 27 rfl (.cons _ (.cons _ (.cons _ (.refl _)))) (by simp only [List.getElem?_toArray, List.getElem?_cons_zero, List.getElem?_cons_succ]; exact rfl) rfl (by go_simp) (fun wx hx hD => ?_) ?_
        · have rr := hD.rowOk 2 rfl (av_size _)
          go_simp
        refine Rd.v_put 1 g7 (av fun _ => 0) (av g) 27 rfl (.cons _ (.cons _ (.cons _ (.refl _)))) (by simp only [List.getElem?_toArray, List.getElem?_cons_zero, List.getElem?_cons_succ]; exact rfl) rfl (by go_simp) (fun wx hx hD => ?_) ?_
        · have rr := hD.rowOk 1 rfl (av_size _)
          go_simp
        refine Rd.v_put 0 g8 (av fun _ => 0) (av F) 27 rfl (.cons _ (.cons _ (.cons _ (.refl _)))) (by simp only [List.getElem?_toArray, List.getElem?_cons_zero, List.getElem?_cons_succ]; exact rfl) rfl (by go_simp) (fun wx hx hD => ?_) ?_
        · have rr := hD.rowOk 0 rfl (av_size _)
          go_simp
        rintro w4 - hx4
        go_simp
        exact key g6 g7 g8 _ (hx4.perm (.refl _))
      · refine Rd.v_box (av fun _ => 0) 27 (by simp only [List.getElem?_toArray, List.getElem?_cons_zero, List.getElem?_cons_succ]; exact rfl) rfl (by go_simp) (fun wx hx hD => by rw [av_zero]; go_simp) fun g8 => ?_
        refine Rd.v_box (av fun _ => 0) 27 (by simp only [List.getElem?_toArray, List.getElem?_cons_zero, List.getElem?_cons_succ]; exact rfl) rfl (by go_simp) (fun wx hx hD => by rw [av_zero]; go_simp) fun g7 => ?_
        refine Rd.v_put 2 g6 (av fun _ => 0) (av f) 27 rfl (.cons _ (.cons _ (.cons _ (.refl _)))) (by simp only [List.getElem?_toArray, List.getElem?_cons_zero, List.getElem?_cons_succ]; exact rfl) rfl (by go_simp) (fun wx hx hD => ?_) ?_
        · have rr := hD.rowOk 2 rfl (av_size _)
          go_simp
        refine Rd.v_put 0 g7 (av fun _ => 0) (av g) 27 rfl (.cons _ (.cons _ (.cons _ (.refl _)))) (by simp only [List.getElem?_toArray, List.getElem?_cons_zero, List.getElem?_cons_succ]; exact rfl) rfl (by go_simp) (fun wx hx hD => ?_) ?_
        · have rr := hD.rowOk 0 rfl (av_size _)
          go_simp
        refine Rd.v_put 1 g8 (av fun _ => 0) (av F) 27 rfl (.cons _ (.cons _ (.cons _ (.refl _)))) (by simp only [List.getElem?_toArray, List.getElem?_cons_zero, List.getElem?_cons_succ]; exact rfl) rfl (by go_simp) (fun wx hx hD => ?_) ?_
        · have rr := hD.rowOk 1 rfl (av_size _)
          go_simp
        rintro w4 - hx4
        go_simp
        exact key g6 g7 g8 _ (hx4.perm (List.Perm.swap _ _ _))
    · refine Rd.v_box (av fun _ => 0) 27 (by simp only [List.getElem?_toArray, List.getElem?_cons_zero, List.getElem?_cons_succ]; exact rfl) rfl (by go_simp) (fun wx hx hD => by rw [av_zero]; go_simp) fun g7 => ?_
      refine ⟨?_, ?_⟩
      · refine Rd.v_box (av fun _ => 0) 27 (by simp only [List.getElem?_toArray, List.getElem?_cons_zero, List.getElem?_cons_succ]; exact rfl) rfl (by go_simp) (fun wx hx hD => by rw [av_zero]; go_simp) fun g6 => ?_
        refine Rd.v_box (av fun _ => 0) 27 (by simp only [List.getElem?_toArray, List.getElem?_cons_zero, List.getElem?_cons_succ]; exact rfl) rfl (by go_simp) (fun wx hx hD => by rw [av_zero]; go_simp) fun g8 => ?_
        refine Rd.v_put 1 g6 (av fun _ => 0) (av f) 27 rfl (.cons _ (.cons _ (.cons _ (.refl _)))) (by simp only [List.getElem?_toArray, List.getElem?_cons_zero, List.getElem?_cons_succ]; exact rfl) rfl (by go_simp) (fun wx hx hD => ?_) ?_
        · have rr := hD.rowOk 1 rfl (av_size _)
          go_simp
        refine Rd.v_put 2 g7 (av fun _ => 0) (av g) 27 rfl (.cons _ (.cons _ (.cons _ (.refl _)))) (by simp only [List.getElem?_toArray, List.getElem?_cons_zero, List.getElem?_cons_succ]; exact rfl) rfl (by go_simp) (fun wx hx hD => ?_) ?_
        · have rr := hD.rowOk 2 rfl (av_size _)
          go_simp
        refine Rd.v_put 0 g8 (av fun _ => 0) (av F) 27 rfl (.cons _ (.cons _ (.cons _ (.refl _)))) (by simp only [List.getElem?_toArray, List.getElem?_cons_zero, List.getElem?_cons_succ]; exact rfl) rfl (by go_simp) (fun wx hx hD => ?_) ?_
        · have rr := hD.rowOk 0 rfl (av_size _)
          go_simp
        rintro w4 - hx4
        go_simp
        exact key g6 g7 g8 _ (hx4.perm ((List.Perm.swap _ _ _).cons _))
      · refine Rd.v_box (av fun _ => 0) 27 (by simp only [List.getElem?_toArray, List.getElem?_cons_zero, List.getElem?_cons_succ]; exact rfl) rfl (by go_simp) (fun wx hx hD => by rw [av_zero]; go_simp) fun g8 => ?_
        refine Rd.v_box (av fun _ => 0) 27 (by simp only [List.getElem?_toArray, List.getElem?_cons_zero, List.getElem?_cons_succ]; exact rfl) rfl (by go_simp) (fun wx hx hD => by rw [av_zero]; go_simp) fun g6 => ?_
        refine Rd.v_put 0 g6 (av fun _ => 0) (av f) 27 rfl (.cons _ (.cons _ (.cons _ (.refl _)))) (by simp only [List.getElem?_toArray, List.getElem?_cons_zero, List.getElem?_cons_succ]; exact rfl) rfl (by go_simp) (fun wx hx hD => ?_) ?_
        · have rr := hD.rowOk 0 rfl (av_size _)
          go_simp
        refine Rd.v_put 2 g7 (av fun _ => 0) (av g) 27 rfl (.cons _ (.cons _ (.cons _ (.refl _)))) (by simp only [List.getElem?_toArray, List.getElem?_cons_zero, List.getElem?_cons_succ]; exact rfl) rfl (by go_simp) (fun wx hx hD => ?_) ?_
        · have rr := hD.rowOk 2 rfl (av_size _)
          go_simp
        refine Rd.v_put 1 g8 (av fun _ => 0) (av F) 27 rfl (.cons _ (.cons _ (.cons _ (.refl _)))) (by simp only [List.getElem?_toArray, List.getElem?_cons_zero, List.getElem?_cons_succ]; exact rfl) rfl (by go_simp) (fun wx hx hD => ?_) ?_
        · have rr := hD.rowOk 1 rfl (av_size _)
          go_simp
        rintro w4 - hx4
        go_simp
        exact key g6 g7 g8 _ (hx4.perm ((List.Perm.swap _ _ _).trans ((List.Perm.swap _ _ _).cons _)))
    · refine Rd.v_box (av fun _ => 0) 27 (by simp only [List.getElem?_toArray, List.getElem?_cons_zero, List.getElem?_cons_succ]; exact rfl) rfl (by go_simp) (fun wx hx hD => by rw [av_zero]; go_simp) fun g8 => ?_
      refine ⟨?_, ?_⟩
      · refine Rd.v_box (av fun _ => 0) 27 (by simp only [List.getElem?_toArray, List.getElem?_cons_zero, List.getElem?_cons_succ]; exact rfl) rfl (by go_simp) (fun wx hx hD => by rw [av_zero]; go_simp) fun g6 => ?_
        refine Rd.v_box (av fun _ => 0) 27 (by simp only [List.getElem?_toArray, List.getElem?_cons_zero, List.getElem?_cons_succ]; exact rfl) rfl (by go_simp) (fun wx hx hD => by rw [av_zero]; go_simp) fun g7 => ?_
        refine Rd.v_put 1 g6 (av fun _ => 0) (av f) 27 rfl (.cons _ (.cons _ (.cons _ (.refl _)))) (by simp only [List.getElem?_toArray, List.getElem?_cons_zero, List.getElem?_cons_succ]; exact rfl) rfl (by go_simp) (fun wx hx hD => ?_) ?_
        · have rr := hD.rowOk 1 rfl (av_size _)
          go_simp
        refine Rd.v_put 0 g7 (av fun _ => 0) (av g) 27 rfl (.cons _ (.cons _ (.cons _ (.refl _)))) (by simp only [List.getElem?_toArray, List.getElem?_cons_zero, List.getElem?_cons_succ]; exact rfl) rfl (by go_simp) (fun wx hx hD => ?_) ?_
        · have rr := hD.rowOk 0 rfl (av_size _)
          go_simp
        refine Rd.v_put 2 g8 (av fun _ => 0) (av F) 27 rfl (.cons _ (.cons _ (.cons _ (.refl _)))) (by simp only [List.getElem?_toArray, List.getElem?_cons_zero, List.getElem?_cons_succ]; exact rfl) rfl (by go_simp) (fun wx hx hD => ?_) ?_
        · have rr := hD.rowOk 2 rfl (av_size _)
          go_simp
        rintro w4 - hx4
        go_simp
        exact key g6 g7 g8 _ (hx4.perm (((List.Perm.swap _ _ _).cons _).trans (List.Perm.swap _ _ _)))
      · refine Rd.v_box (av fun _ => 0) 27 (by simp only [List.getElem?_toArray, List.getElem?_cons_zero, List.getElem?_cons_succ]; exact rfl) rfl (by go_simp) (fun wx hx hD => by rw [av_zero]; go_simp) fun g7 => ?_
        refine Rd.v_box (av fun _ => 0) 27 (by simp only [List.getElem?_toArray, List.getElem?_cons_zero, List.getElem?_cons_succ]; exact rfl) rfl (by go_simp) (fun wx hx hD => by rw [av_zero]; go_simp) fun g6 => ?_
        refine Rd.v_put 0 g6 (av fun _ => 0) (av f) 27 rfl (.cons _ (.cons _ (.cons _ (.refl _)))) (by simp only [List.getElem?_toArray, List.getElem?_cons_zero, List.getElem?_cons_succ]; exact rfl) rfl (by go_simp) (fun wx hx hD => ?_) ?_
        · have rr := hD.rowOk 0 rfl (av_size _)
          go_simp
        refine Rd.v_put 1 g7 (av fun _ => 0) (av g) 27 rfl (.cons _ (.cons _ (.cons _ (.refl _)))) (by simp only [List.getElem?_toArray, List.getElem?_cons_zero, List.getElem?_cons_succ]; exact rfl) rfl (by go_simp) (fun wx hx hD => ?_) ?_
        · have rr := hD.rowOk 1 rfl (av_size _)
          go_simp
        refine Rd.v_put 2 g8 (av fun _ => 0) (av F) 27 rfl (.cons _ (.cons _ (.cons _ (.refl _)))) (by simp only [List.getElem?_toArray, List.getElem?_cons_zero, List.getElem?_cons_succ]; exact rfl) rfl (by go_simp) (fun wx hx hD => ?_) ?_
        · have rr := hD.rowOk 2 rfl (av_size _)
          go_simp
        rintro w4 - hx4
        go_simp
        exact key g6 g7 g8 _ (hx4.perm (((List.Perm.swap _ _ _).cons _).trans ((List.Perm.swap _ _ _).trans ((List.Perm.swap _ _ _).cons _))))
  intro g6 g7 g8 w4 H4
  clear HH2
  have c6 := H4.cells 2 rfl
  have c7 := H4.cells 1 rfl
  have c8 := H4.cells 0 rfl
  have H5 := H4.blk (pv [f, g, g, f, g, F, F, f, f, F, F, g]) 48 w4.heap.size rfl
  clear H4
  go_wp2
  clear c6 c7 c8
  generalize w4.alloc _ = w5 at *
  generalize w4.heap.size = g9 at *
  have hk6 : k = 0 ∨ k = 1 ∨ k = 2 ∨ k = 3 ∨ k = 4 ∨ k = 5 := by omega
  clear hk C2
  rcases hk6 with rfl | rfl | rfl | rfl | rfl | rfl
  · have hn1 := hn
    refine region_tail (fun wx => Holds w wx _) 11 (by kernel_rfl) (by kernel_rfl) H5.drew ?_
    simp only [List.take_succ_cons, List.take_zero, List.drop_succ_cons, List.drop_zero]
    iterate 11
      apply q_step
      · go_simp
      · intro wx hx
        have n1 := hx.cell 5 rfl hn
        have l1 := pv_load (hx.cells 0 rfl) 0 0 (by simp) rfl
        have l2 := pv_load (hx.cells 0 rfl) 1 16 (by simp) rfl
        simp only [List.getElem_cons_zero, List.getElem_cons_succ] at l1 l2
        go_simp
        exact rfl
    refine wpQuiet_nil ?_
    intro w6 H6
    have H7 := H6.setRow 4 rfl (dv (m : Int) (exB f g F 0) (exW f g F 0))
    have rr2 := H6.rowOk (n := 33) 4 rfl (dv_size _ _ _)
    go_wp2
    exact res_agg2 (p := 4) (t := 5) (g := w.heap.size + 1) (v := .int .i64 0) aggD (dv_size _ _ _) rfl rfl rfl rfl (H7.at 4 rfl) ⟨rfl, H7.low⟩
  · have hn1 := hn
    refine region_tail (fun wx => Holds w wx _) 11 (by kernel_rfl) (by kernel_rfl) H5.drew ?_
    simp only [List.take_succ_cons, List.take_zero, List.drop_succ_cons, List.drop_zero]
    iterate 11
      apply q_step
      · go_simp
      · intro wx hx
        have n1 := hx.cell 5 rfl hn
        have l1 := pv_load (hx.cells 0 rfl) 2 32 (by simp) rfl
        have l2 := pv_load (hx.cells 0 rfl) 3 48 (by simp) rfl
        simp only [List.getElem_cons_zero, List.getElem_cons_succ] at l1 l2
        go_simp
        exact rfl
    refine wpQuiet_nil ?_
    intro w6 H6
    have H7 := H6.setRow 4 rfl (dv (m : Int) (exB f g F 1) (exW f g F 1))
    have rr2 := H6.rowOk (n := 33) 4 rfl (dv_size _ _ _)
    go_wp2
    exact res_agg2 (p := 4) (t := 5) (g := w.heap.size + 1) (v := .int .i64 0) aggD (dv_size _ _ _) rfl rfl rfl rfl (H7.at 4 rfl) ⟨rfl, H7.low⟩
  · have hn1 := hn
    refine region_tail (fun wx => Holds w wx _) 11 (by kernel_rfl) (by kernel_rfl) H5.drew ?_
    simp only [List.take_succ_cons, List.take_zero, List.drop_succ_cons, List.drop_zero]
    iterate 11
      apply q_step
      · go_simp
      · intro wx hx
        have n1 := hx.cell 5 rfl hn
        have l1 := pv_load (hx.cells 0 rfl) 4 64 (by simp) rfl
        have l2 := pv_load (hx.cells 0 rfl) 5 80 (by simp) rfl
        simp only [List.getElem_cons_zero, List.getElem_cons_succ] at l1 l2
        go_simp
        exact rfl
    refine wpQuiet_nil ?_
    intro w6 H6
    have H7 := H6.setRow 4 rfl (dv (m : Int) (exB f g F 2) (exW f g F 2))
    have rr2 := H6.rowOk (n := 33) 4 rfl (dv_size _ _ _)
    go_wp2
    exact res_agg2 (p := 4) (t := 5) (g := w.heap.size + 1) (v := .int .i64 0) aggD (dv_size _ _ _) rfl rfl rfl rfl (H7.at 4 rfl) ⟨rfl, H7.low⟩
  · have hn1 := hn
    refine region_tail (fun wx => Holds w wx _) 11 (by kernel_rfl) (by kernel_rfl) H5.drew ?_
    simp only [List.take_succ_cons, List.take_zero, List.drop_succ_cons, List.drop_zero]
    iterate 11
      apply q_step
      · go_simp
      · intro wx hx
        have n1 := hx.cell 5 rfl hn
        have l1 := pv_load (hx.cells 0 rfl) 6 96 (by simp) rfl
        have l2 := pv_load (hx.cells 0 rfl) 7 112 (by simp) rfl
        simp only [List.getElem_cons_zero, List.getElem_cons_succ] at l1 l2
        go_simp
        exact rfl
    refine wpQuiet_nil ?_
    intro w6 H6
    have H7 := H6.setRow 4 rfl (dv (m : Int) (exB f g F 3) (exW f g F 3))
    have rr2 := H6.rowOk (n := 33) 4 rfl (dv_size _ _ _)
    go_wp2
    exact res_agg2 (p := 4) (t := 5) (g := w.heap.size + 1) (v := .int .i64 0) aggD (dv_size _ _ _) rfl rfl rfl rfl (H7.at 4 rfl) ⟨rfl, H7.low⟩
  · have hn1 := hn
    refine region_tail (fun wx => Holds w wx _) 11 (by kernel_rfl) (by kernel_rfl) H5.drew ?_
    simp only [List.take_succ_cons, List.take_zero, List.drop_succ_cons, List.drop_zero]
    iterate 11
      apply q_step
      · go_simp
      · intro wx hx
        have n1 := hx.cell 5 rfl hn
        have l1 := pv_load (hx.cells 0 rfl) 8 128 (by simp) rfl
        have l2 := pv_load (hx.cells 0 rfl) 9 144 (by simp) rfl
        simp only [List.getElem_cons_zero, List.getElem_cons_succ] at l1 l2
        go_simp
        exact rfl
    refine wpQuiet_nil ?_
    intro w6 H6
    have H7 := H6.setRow 4 rfl (dv (m : Int) (exB f g F 4) (exW f g F 4))
    have rr2 := H6.rowOk (n := 33) 4 rfl (dv_size _ _ _)
    go_wp2
    exact res_agg2 (p := 4) (t := 5) (g := w.heap.size + 1) (v := .int .i64 0) aggD (dv_size _ _ _) rfl rfl rfl rfl (H7.at 4 rfl) ⟨rfl, H7.low⟩
  · have hn1 := hn
    refine region_tail (fun wx => Holds w wx _) 11 (by kernel_rfl) (by kernel_rfl) H5.drew ?_
    simp only [List.take_succ_cons, List.take_zero, List.drop_succ_cons, List.drop_zero]
    iterate 11
      apply q_step
      · go_simp
      · intro wx hx
        have n1 := hx.cell 5 rfl hn
        have l1 := pv_load (hx.cells 0 rfl) 10 160 (by simp) rfl
        have l2 := pv_load (hx.cells 0 rfl) 11 176 (by simp) rfl
        simp only [List.getElem_cons_zero, List.getElem_cons_succ] at l1 l2
        go_simp
        exact rfl
    refine wpQuiet_nil ?_
    intro w6 H6
    have H7 := H6.setRow 4 rfl (dv (m : Int) (exB f g F 5) (exW f g F 5))
    have rr2 := H6.rowOk (n := 33) 4 rfl (dv_size _ _ _)
    go_wp2
    exact res_agg2 (p := 4) (t := 5) (g := w.heap.size + 1) (v := .int .i64 0) aggD (dv_size _ _ _) rfl rfl rfl rfl (H7.at 4 rfl) ⟨rfl, H7.low⟩

set_option maxRecDepth 100000 in
set_option maxHeartbeats 4000000 in
theorem sExchangeOf_any (n : Int) (f g : Nat → Nat) (hf : ∀ i, f i < 256) (hg : ∀ i, g i < 256) (k : Int) (w : World) :
    Calls Try.prog 12 #[.agg (dv n f g), .int .i64 k] w fun e w' => e = .returned (excR n f g k) ∧ Below w.heap.size w w' := by
  have C1 := hide fun w => sIs_any n f g hf hg w
  have HH0 := ((Holds.start w).blk (dv n f g) 29 w.heap.size rfl).blk (dv 0 (fun _ => 0) (fun _ => 0)) 29 (w.heap.size + 1) (by simp)
  clear hf hg
  rcases h1 : desB n f g with _ | _
  · rw [h1] at C1
    have hr : excR n f g k = .tuple #[.agg (dv 0 (fun _ => 0) (fun _ => 0)), .int .i64 1] := by unfold excR; rw [if_neg (by simp [h1])]
    rw [hr]
    clear h1 hr
    go_enter Try.func12, Try.ntmps12
    go_wp2_with fail
    rw [← dv_zero]
    refine (C1.out _).mono ?_
    rintro e w1 ⟨rfl, hb⟩
    have HH1 := HH0.call hb
    have cd1 := HH1.cells 1 rfl
    have rr1 := HH1.rowOk (n := 33) 0 rfl (dv_size _ _ _)
    clear hb HH0
    have HHs := HH1.setRow 0 rfl (dv 0 (fun _ => 0) (fun _ => 0))
    go_wp2
    exact res_agg2 (p := 4) (t := 5) (g := w.heap.size + 1) (v := .int .i64 1) aggD (dv_size _ _ _) rfl rfl rfl rfl (HHs.at 0 rfl) ⟨rfl, HHs.low⟩
  rw [h1] at C1
  obtain ⟨m, rfl, hd⟩ := desB_true h1
  have hn := dv_n m f g
  by_cases hk : 0 ≤ k ∧ k ≤ 5
  rotate_left
  · have hr : excR (m : Int) f g k = .tuple #[.agg (dv 0 (fun _ => 0) (fun _ => 0)), .int .i64 2] := by unfold excR; rw [if_pos h1, if_neg hk]
    rw [hr]
    have C2 := hide fun w => l01In_any k 0 5 w
    rw [show (decide (0 ≤ k ∧ k ≤ 5)) = false by simp; omega] at C2
    clear h1 hr hd hk
    go_enter Try.func12, Try.ntmps12
    go_wp2_with fail
    rw [← dv_zero]
    refine (C1.out _).mono ?_
    rintro e w1 ⟨rfl, hb⟩
    have HH1 := HH0.call hb
    have cd1 := HH1.cells 1 rfl
    have rr1 := HH1.rowOk (n := 33) 0 rfl (dv_size _ _ _)
    clear hb HH0
    go_wp2_with fail
    refine (C2.out _).mono ?_
    rintro e w2 ⟨rfl, hb⟩
    have HH2 := HH1.call hb
    have cd2 := HH2.cells 1 rfl
    have rr2 := HH2.rowOk (n := 33) 0 rfl (dv_size _ _ _)
    clear hb HH1 cd1 rr1
    have HHs := HH2.setRow 0 rfl (dv 0 (fun _ => 0) (fun _ => 0))
    go_wp2
    exact res_agg2 (p := 4) (t := 5) (g := w.heap.size + 1) (v := .int .i64 2) aggD (dv_size _ _ _) rfl rfl rfl rfl (HHs.at 0 rfl) ⟨rfl, HHs.low⟩
  have C2 := hide fun w => l01In_any k 0 5 w
  rw [show (decide (0 ≤ k ∧ k ≤ 5)) = true by simp; omega] at C2
  have hr : excR (m : Int) f g k = .tuple #[.agg (dv m (exB f g (faceF f g m) k.toNat) (exW f g (faceF f g m) k.toNat)), .int .i64 0] := by unfold excR; rw [if_pos h1, if_pos hk, Int.toNat_natCast]
  rw [hr]
  have C3 := hide fun w => sFace_any f g m hd.le hd.bf.1 hd.bg.1 w
  generalize faceF f g m = F at *
  clear h1 hr hd
  go_enter Try.func12, Try.ntmps12
  go_wp2_with fail
  rw [← dv_zero]
  refine (C1.out _).mono ?_
  rintro e w1 ⟨rfl, hb⟩
  have HH1 := HH0.call hb
  have cd1 := HH1.cells 1 rfl
  have rr1 := HH1.rowOk (n := 33) 0 rfl (dv_size _ _ _)
  clear hb HH0
  go_wp2_with fail
  refine (C2.out _).mono ?_
  rintro e w2 ⟨rfl, hb⟩
  have HH2 := HH1.call hb
  have cd2 := HH2.cells 1 rfl
  have rr2 := HH2.rowOk (n := 33) 0 rfl (dv_size _ _ _)
  clear hb HH1 cd1 rr1
  go_wp2
  clear cd2 rr2
  refine Rd.region_P (w0 := w) [pBlk (w.heap.size + 1) (dv 0 (fun _ => 0) (fun _ => 0)) 29, pBlk w.heap.size (dv (m : Int) f g) 29] [pBlk (w.heap.size + 1) (dv 0 (fun _ => 0) (fun _ => 0)) 29, pBlk w.heap.size (dv (m : Int) f g) 29] [7, 8] (.q 0 <| .q 1 <| .q 2 <| .q 3 <| .q 4 <| .q 5 <| .q 6 <| .s1 7 <| .s1 8 .fin) HH2 (.refl _) (by kernel_rfl) (by kernel_rfl) (by kernel_rfl) ?_
  iterate 5
    apply Rd.v_q
    · simp only [List.getElem?_toArray, List.getElem?_cons_zero, List.getElem?_cons_succ]; exact rfl
    · rfl
    · go_simp
    · intro wx hx
      have q0 := hx.cells 1 rfl
      unfold atG
      go_simp
      simp only [uponG]
      exact ⟨by trivial, rfl⟩
  iterate 1
    apply Rd.v_q
    · simp only [List.getElem?_toArray, List.getElem?_cons_zero, List.getElem?_cons_succ]; exact rfl
    · rfl
    · go_simp
    · intro wx hx
      have q0 := hx.cells 1 rfl
      unfold atG
      go_simp
      simp only [uponG]
      exact ⟨by trivial, C3.out wx⟩
  iterate 1
    apply Rd.v_q
    · simp only [List.getElem?_toArray, List.getElem?_cons_zero, List.getElem?_cons_succ]; exact rfl
    · rfl
    · go_simp
    · intro wx hx
      have q0 := hx.cells 1 rfl
      unfold atG
      go_simp
      simp only [uponG]
      exact ⟨by trivial, rfl⟩
  refine Rd.v_box (pv [fun _ => 0, fun _ => 0, fun _ => 0]) 44 (by simp only [List.getElem?_toArray, List.getElem?_cons_zero, List.getElem?_cons_succ]; exact rfl) rfl (by go_simp) (fun wx hx hD => by rw [pv_zero3]; go_simp) fun g6 => ?_
  refine Rd.v_put 0 g6 (pv [fun _ => 0, fun _ => 0, fun _ => 0]) (pv [f, g, F]) 44 rfl (.cons _ (.refl _)) (by simp only [List.getElem?_toArray, List.getElem?_cons_zero, List.getElem?_cons_succ]; exact rfl) rfl (by go_simp) (fun wx hx hD => ?_) ?_
  · have rr := hD.rowOk (n := 48) 0 rfl (pv_size _)
    go_simp
  rintro w4 - H4
  clear HH2
  simp only [List.set_cons_zero] at H4
  have H5 := (H4.blk (six 0 1 1 2 0 2) 45 w4.heap.size rfl).blk (six 1 0 2 0 2 1) 45 (w4.heap.size + 1) (by simp)
  clear H4
  go_simp
  go_wp2
  generalize (w4.alloc _).alloc _ = w5 at *
  generalize w4.heap.size = g7 at *
  have hk6 : k = 0 ∨ k = 1 ∨ k = 2 ∨ k = 3 ∨ k = 4 ∨ k = 5 := by omega
  clear hk C2
  rcases hk6 with rfl | rfl | rfl | rfl | rfl | rfl
  · have hn1 := hn
    refine region_tail (fun wx => Holds w wx _) 13 (by kernel_rfl) (by kernel_rfl) H5.drew ?_
    simp only [List.take_succ_cons, List.take_zero, List.drop_succ_cons, List.drop_zero]
    iterate 13
      apply q_step
      · go_simp
      · intro wx hx
        have n1 := hx.cell 4 rfl hn
        have i1 : wx.cell? ⟨g7, 0, none⟩ = some (.int .i64 0) := hx.cell 1 rfl rfl
        have i2 : wx.cell? ⟨g7 + 1, 0, none⟩ = some (.int .i64 1) := hx.cell 0 rfl rfl
        have l1 := pv_load (hx.cells 2 rfl) 0 0 (by simp) rfl
        have l2 := pv_load (hx.cells 2 rfl) 1 16 (by simp) rfl
        simp only [List.getElem_cons_zero, List.getElem_cons_succ] at l1 l2
        go_simp
        exact rfl
    refine wpQuiet_nil ?_
    intro w6 H6
    have H7 := H6.setRow 3 rfl (dv (m : Int) (exB f g F 0) (exW f g F 0))
    have rr2 := H6.rowOk (n := 33) 3 rfl (dv_size _ _ _)
    go_wp2
    exact res_agg2 (p := 4) (t := 5) (g := w.heap.size + 1) (v := .int .i64 0) aggD (dv_size _ _ _) rfl rfl rfl rfl (H7.at 3 rfl) ⟨rfl, H7.low⟩
  · have hn1 := hn
    refine region_tail (fun wx => Holds w wx _) 13 (by kernel_rfl) (by kernel_rfl) H5.drew ?_
    simp only [List.take_succ_cons, List.take_zero, List.drop_succ_cons, List.drop_zero]
    iterate 13
      apply q_step
      · go_simp
      · intro wx hx
        have n1 := hx.cell 4 rfl hn
        have i1 : wx.cell? ⟨g7, 1, none⟩ = some (.int .i64 1) := hx.cell 1 rfl rfl
        have i2 : wx.cell? ⟨g7 + 1, 1, none⟩ = some (.int .i64 0) := hx.cell 0 rfl rfl
        have l1 := pv_load (hx.cells 2 rfl) 1 16 (by simp) rfl
        have l2 := pv_load (hx.cells 2 rfl) 0 0 (by simp) rfl
        simp only [List.getElem_cons_zero, List.getElem_cons_succ] at l1 l2
        go_simp
        exact rfl
    refine wpQuiet_nil ?_
    intro w6 H6
    have H7 := H6.setRow 3 rfl (dv (m : Int) (exB f g F 1) (exW f g F 1))
    have rr2 := H6.rowOk (n := 33) 3 rfl (dv_size _ _ _)
    go_wp2
    exact res_agg2 (p := 4) (t := 5) (g := w.heap.size + 1) (v := .int .i64 0) aggD (dv_size _ _ _) rfl rfl rfl rfl (H7.at 3 rfl) ⟨rfl, H7.low⟩
  · have hn1 := hn
    refine region_tail (fun wx => Holds w wx _) 13 (by kernel_rfl) (by kernel_rfl) H5.drew ?_
    simp only [List.take_succ_cons, List.take_zero, List.drop_succ_cons, List.drop_zero]
    iterate 13
      apply q_step
      · go_simp
      · intro wx hx
        have n1 := hx.cell 4 rfl hn
        have i1 : wx.cell? ⟨g7, 2, none⟩ = some (.int .i64 1) := hx.cell 1 rfl rfl
        have i2 : wx.cell? ⟨g7 + 1, 2, none⟩ = some (.int .i64 2) := hx.cell 0 rfl rfl
        have l1 := pv_load (hx.cells 2 rfl) 1 16 (by simp) rfl
        have l2 := pv_load (hx.cells 2 rfl) 2 32 (by simp) rfl
        simp only [List.getElem_cons_zero, List.getElem_cons_succ] at l1 l2
        go_simp
        exact rfl
    refine wpQuiet_nil ?_
    intro w6 H6
    have H7 := H6.setRow 3 rfl (dv (m : Int) (exB f g F 2) (exW f g F 2))
    have rr2 := H6.rowOk (n := 33) 3 rfl (dv_size _ _ _)
    go_wp2
    exact res_agg2 (p := 4) (t := 5) (g := w.heap.size + 1) (v := .int .i64 0) aggD (dv_size _ _ _) rfl rfl rfl rfl (H7.at 3 rfl) ⟨rfl, H7.low⟩
  · have hn1 := hn
    refine region_tail (fun wx => Holds w wx _) 13 (by kernel_rfl) (by kernel_rfl) H5.drew ?_
    simp only [List.take_succ_cons, List.take_zero, List.drop_succ_cons, List.drop_zero]
    iterate 13
      apply q_step
      · go_simp
      · intro wx hx
        have n1 := hx.cell 4 rfl hn
        have i1 : wx.cell? ⟨g7, 3, none⟩ = some (.int .i64 2) := hx.cell 1 rfl rfl
        have i2 : wx.cell? ⟨g7 + 1, 3, none⟩ = some (.int .i64 0) := hx.cell 0 rfl rfl
        have l1 := pv_load (hx.cells 2 rfl) 2 32 (by simp) rfl
        have l2 := pv_load (hx.cells 2 rfl) 0 0 (by simp) rfl
        simp only [List.getElem_cons_zero, List.getElem_cons_succ] at l1 l2
        go_simp
        exact rfl
    refine wpQuiet_nil ?_
    intro w6 H6
    have H7 := H6.setRow 3 rfl (dv (m : Int) (exB f g F 3) (exW f g F 3))
    have rr2 := H6.rowOk (n := 33) 3 rfl (dv_size _ _ _)
    go_wp2
    exact res_agg2 (p := 4) (t := 5) (g := w.heap.size + 1) (v := .int .i64 0) aggD (dv_size _ _ _) rfl rfl rfl rfl (H7.at 3 rfl) ⟨rfl, H7.low⟩
  · have hn1 := hn
    refine region_tail (fun wx => Holds w wx _) 13 (by kernel_rfl) (by kernel_rfl) H5.drew ?_
    simp only [List.take_succ_cons, List.take_zero, List.drop_succ_cons, List.drop_zero]
    iterate 13
      apply q_step
      · go_simp
      · intro wx hx
        have n1 := hx.cell 4 rfl hn
        have i1 : wx.cell? ⟨g7, 4, none⟩ = some (.int .i64 0) := hx.cell 1 rfl rfl
        have i2 : wx.cell? ⟨g7 + 1, 4, none⟩ = some (.int .i64 2) := hx.cell 0 rfl rfl
        have l1 := pv_load (hx.cells 2 rfl) 0 0 (by simp) rfl
        have l2 := pv_load (hx.cells 2 rfl) 2 32 (by simp) rfl
        simp only [List.getElem_cons_zero, List.getElem_cons_succ] at l1 l2
        go_simp
        exact rfl
    refine wpQuiet_nil ?_
    intro w6 H6
    have H7 := H6.setRow 3 rfl (dv (m : Int) (exB f g F 4) (exW f g F 4))
    have rr2 := H6.rowOk (n := 33) 3 rfl (dv_size _ _ _)
    go_wp2
    exact res_agg2 (p := 4) (t := 5) (g := w.heap.size + 1) (v := .int .i64 0) aggD (dv_size _ _ _) rfl rfl rfl rfl (H7.at 3 rfl) ⟨rfl, H7.low⟩
  · have hn1 := hn
    refine region_tail (fun wx => Holds w wx _) 13 (by kernel_rfl) (by kernel_rfl) H5.drew ?_
    simp only [List.take_succ_cons, List.take_zero, List.drop_succ_cons, List.drop_zero]
    iterate 13
      apply q_step
      · go_simp
      · intro wx hx
        have n1 := hx.cell 4 rfl hn
        have i1 : wx.cell? ⟨g7, 5, none⟩ = some (.int .i64 2) := hx.cell 1 rfl rfl
        have i2 : wx.cell? ⟨g7 + 1, 5, none⟩ = some (.int .i64 1) := hx.cell 0 rfl rfl
        have l1 := pv_load (hx.cells 2 rfl) 2 32 (by simp) rfl
        have l2 := pv_load (hx.cells 2 rfl) 1 16 (by simp) rfl
        simp only [List.getElem_cons_zero, List.getElem_cons_succ] at l1 l2
        go_simp
        exact rfl
    refine wpQuiet_nil ?_
    intro w6 H6
    have H7 := H6.setRow 3 rfl (dv (m : Int) (exB f g F 5) (exW f g F 5))
    have rr2 := H6.rowOk (n := 33) 3 rfl (dv_size _ _ _)
    go_wp2
    exact res_agg2 (p := 4) (t := 5) (g := w.heap.size + 1) (v := .int .i64 0) aggD (dv_size _ _ _) rfl rfl rfl rfl (H7.at 3 rfl) ⟨rfl, H7.low⟩

end Go.Proofs.Ytcddglkecfnhmab
