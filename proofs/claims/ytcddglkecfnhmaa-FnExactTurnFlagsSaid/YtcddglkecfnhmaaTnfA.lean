/- TurnFlags: what both make; the model; arrays of functions -/
import Derived.Test.YtcddglkecfnhmaaDegM
import Derived.Test.YtcddglkecfnhmaaExc
import Derived.Test.YtcddglkecfnhmaaFfr
import Derived.Test.YtcddglkecfnhmaaStp
namespace Go.Proofs.Ytcddglkecfnhmaa
open Go.RowKit

def tnA (c s b : Nat → Nat) (k : Nat) : Nat → Nat := if k = 0 then c else if k = 1 then s else if k = 2 then b else if k = 3 then s else if k = 4 then c else b
def tnB (c s b : Nat → Nat) (k : Nat) : Nat → Nat := if k = 0 then s else if k = 1 then c else if k = 2 then s else if k = 3 then b else if k = 4 then b else c
noncomputable def tnfR (n : Int) (c t s : Nat → Nat) (k : Int) : Value :=
  if flB n c t s = true then (if 0 ≤ k ∧ k ≤ 5 then .tuple #[.agg (fv n (tnA c s (bothF c s n.toNat) k.toNat) t (tnB c s (bothF c s n.toNat) k.toNat)), .int .i64 0] else .tuple #[.agg (fv 0 (fun _ => 0) (fun _ => 0) (fun _ => 0)), .int .i64 2]) else .tuple #[.agg (fv 0 (fun _ => 0) (fun _ => 0) (fun _ => 0)), .int .i64 1]
theorem tnfR_eq (n : Int) (c t s : Nat → Nat) (k : Int) : ∃ (a : Int) (b d e : Nat → Nat) (q : Int), tnfR n c t s k = .tuple #[.agg (fv a b d e), .int .i64 q] := by
  unfold tnfR; split
  · split
    · exact ⟨_, _, _, _, _, rfl⟩
    · exact ⟨_, _, _, _, _, rfl⟩
  · exact ⟨_, _, _, _, _, rfl⟩
@[irreducible] def q3 (l : List (Nat → Nat)) : Array Value := (lsB l).toArray
theorem q3_size (l : List (Nat → Nat)) : (q3 l).size = l.length * 32 := by unfold q3; simpa using lsB_length l
theorem q3_one (l : List (Nat → Nat)) : (q3 l).all (·.oneCell') = true := by
  unfold q3
  rw [Array.all_eq_true_iff_forall_mem]
  intro u hu
  have hu' : u ∈ lsB l := by simpa using hu
  unfold lsB at hu'
  obtain ⟨p, _, hp⟩ := List.mem_flatMap.1 hu'
  have h1 := qv_cells p
  rw [Array.all_eq_true_iff_forall_mem] at h1
  exact h1 u (by simpa using hp)
@[go_sem] theorem ones_q3 (l : List (Nat → Nat)) : Ones (q3 l) ↔ True := ⟨fun _ => trivial, fun _ => q3_one l⟩
@[go_sem] theorem q3_isN (a b c : Nat → Nat) : IsN 96 (q3 [a, b, c]) ↔ True := ⟨fun _ => trivial, fun _ => q3_size _⟩
theorem q3_part (l : List (Nat → Nat)) {k : Nat} (hk : k < l.length) : (q3 l).extract (k * 32) (k * 32 + 32) = qv (l.getD k id) := by
  have hs := q3_size l
  apply Array.ext_getElem?
  intro i
  rw [Array.getElem?_extract]
  by_cases c : i < 32
  · rw [if_pos (by omega), qv_get _ c]
    unfold q3
    rw [List.getElem?_toArray]
    exact lsB_at hk c
  · rw [if_neg (by omega), Array.getElem?_eq_none]
    rw [qv_size]; omega
theorem q3_load {w : World} {g : Nat} {l : List (Nat → Nat)} (h : cellsOf w g = q3 l) (k o : Nat) (hk : k < l.length) (ho : o = k * 32) : (loadT 25 (.pointer (some ⟨g, o, none⟩))).run Try.prog w = .ok (.value (.agg (qv (l.getD k id)))) w := by
  subst ho
  exact run_load_mid aggQb (by rw [h]; exact q3_part l hk) (qv_size _)
theorem aggQ3 : AggT 93 96 := ⟨⟨_, Try.underlying93, rfl⟩, by kernel_rfl⟩
@[go_sem ↓] theorem exec_storeQ3 (ρ : Operand → Value) (dst : Option Tmp) (x y : Operand) (ty : TypeId) (pos : String) (after : Array Edge) (guard : Option (Nat × Bool)) : execOp ρ { dst, op := .store 93 x y, type := ty, pos, after, guard } = storeT 93 (ρ x) (ρ y) := rfl
@[go_sem] theorem run_storeQ3 {w : World} {g : Nat} {cs : Array Value} (h : rowOk w g 96) (hs : IsN 96 cs) (hc : Ones cs) : (storeT 93 (.pointer (some ⟨g, 0, none⟩)) (.agg cs)).run Try.prog w = .ok .skip (w.setRow g cs) := run_storeT aggQ3 h hs hc
set_option maxRecDepth 100000 in
theorem builtQ3 (a b c : Nat → Nat) : Try.prog.built 93 [(0, .agg (qv a)), (1, .agg (qv b)), (2, .agg (qv c))] = some (q3 [a, b, c]) := by
  have h := built_arr (P := Try.prog) (T := 93) (n := 3) (E := 25) (s := 32) (N := 96) Try.underlying93 (by kernel_rfl) (by kernel_rfl) [(0, .agg (qv a)), (1, .agg (qv b)), (2, .agg (qv c))] (by simp [Fits, Value.cells, qv_size]) (by simp [flatC, Value.cells, qv_size])
  rw [h]
  unfold q3 flatC lsB
  simp only [List.flatMap_cons, List.flatMap_nil, Value.cells]
def buildQ3 (ps : Array (Nat × Value)) : Sem Next := do pure (.value (← Instr.build 93 ps))
@[go_sem ↓] theorem exec_buildQ3 (ρ : Operand → Value) (dst : Option Tmp) (parts : Array (Nat × Operand)) (ty : TypeId) (pos : String) (after : Array Edge) (guard : Option (Nat × Bool)) :
    execOp ρ { dst, op := .build 93 parts, type := ty, pos, after, guard } = buildQ3 (parts.map fun (i, x) => (i, ρ x)) := rfl
@[go_sem] theorem run_buildQ3 (a b c : Nat → Nat) (w : World) : (buildQ3 #[(0, .agg (qv a)), (1, .agg (qv b)), (2, .agg (qv c))]).run Try.prog w = .ok (.value (.agg (q3 [a, b, c]))) w := by
  simp only [buildQ3, Sem.run_bind, run_build (P := Try.prog) w 93 #[(0, .agg (qv a)), (1, .agg (qv b)), (2, .agg (qv c))] _ (builtQ3 a b c), Result.andThen_ok, Sem.run_pure]
set_option maxRecDepth 100000 in
theorem q3_zero : Try.zeroCells93 = q3 [fun _ => 0, fun _ => 0, fun _ => 0] := by unfold q3 lsB qv row; rfl


/-- a function as a value -/
abbrev fnV (f : Nat) : Value := .func (.func f) #[] #[]
theorem builtFn2 (a b : Nat) : Try.prog.built 72 [(0, fnV a), (1, fnV b)] = some #[fnV a, fnV b] := by
  have h := built_arr (P := Try.prog) (T := 72) (n := 2) (E := 71) (s := 1) (N := 2) Try.underlying72 (by kernel_rfl) (by kernel_rfl) [(0, fnV a), (1, fnV b)] (by simp [Fits, Value.cells, fnV]) (by simp [flatC, Value.cells, fnV])
  rw [h]
  rfl
def buildFn2 (ps : Array (Nat × Value)) : Sem Next := do pure (.value (← Instr.build 72 ps))
@[go_sem ↓] theorem exec_buildFn2 (ρ : Operand → Value) (dst : Option Tmp) (parts : Array (Nat × Operand)) (ty : TypeId) (pos : String) (after : Array Edge) (guard : Option (Nat × Bool)) :
    execOp ρ { dst, op := .build 72 parts, type := ty, pos, after, guard } = buildFn2 (parts.map fun (i, x) => (i, ρ x)) := rfl
@[go_sem] theorem run_buildFn2 (a b : Nat) (w : World) : (buildFn2 #[(0, fnV a), (1, fnV b)]).run Try.prog w = .ok (.value (.agg #[fnV a, fnV b])) w := by
  simp only [buildFn2, Sem.run_bind, run_build (P := Try.prog) w 72 #[(0, fnV a), (1, fnV b)] _ (builtFn2 a b), Result.andThen_ok, Sem.run_pure]
theorem builtFn12 (a b c d e f g h i j k l : Nat) : Try.prog.built 73 [(0, .agg #[fnV a, fnV b]), (1, .agg #[fnV c, fnV d]), (2, .agg #[fnV e, fnV f]), (3, .agg #[fnV g, fnV h]), (4, .agg #[fnV i, fnV j]), (5, .agg #[fnV k, fnV l])] = some #[fnV a, fnV b, fnV c, fnV d, fnV e, fnV f, fnV g, fnV h, fnV i, fnV j, fnV k, fnV l] := by
  have h := built_arr (P := Try.prog) (T := 73) (n := 6) (E := 72) (s := 2) (N := 12) Try.underlying73 (by kernel_rfl) (by kernel_rfl) [(0, .agg #[fnV a, fnV b]), (1, .agg #[fnV c, fnV d]), (2, .agg #[fnV e, fnV f]), (3, .agg #[fnV g, fnV h]), (4, .agg #[fnV i, fnV j]), (5, .agg #[fnV k, fnV l])] (by simp [Fits, Value.cells, fnV]) (by simp [flatC, Value.cells, fnV])
  rw [h]
  rfl
def buildFn12 (ps : Array (Nat × Value)) : Sem Next := do pure (.value (← Instr.build 73 ps))
@[go_sem ↓] theorem exec_buildFn12 (ρ : Operand → Value) (dst : Option Tmp) (parts : Array (Nat × Operand)) (ty : TypeId) (pos : String) (after : Array Edge) (guard : Option (Nat × Bool)) :
    execOp ρ { dst, op := .build 73 parts, type := ty, pos, after, guard } = buildFn12 (parts.map fun (i, x) => (i, ρ x)) := rfl
@[go_sem] theorem run_buildFn12 (a b c d e f g h i j k l : Nat) (w : World) : (buildFn12 #[(0, .agg #[fnV a, fnV b]), (1, .agg #[fnV c, fnV d]), (2, .agg #[fnV e, fnV f]), (3, .agg #[fnV g, fnV h]), (4, .agg #[fnV i, fnV j]), (5, .agg #[fnV k, fnV l])]).run Try.prog w = .ok (.value (.agg #[fnV a, fnV b, fnV c, fnV d, fnV e, fnV f, fnV g, fnV h, fnV i, fnV j, fnV k, fnV l])) w := by
  simp only [buildFn12, Sem.run_bind, run_build (P := Try.prog) w 73 #[(0, .agg #[fnV a, fnV b]), (1, .agg #[fnV c, fnV d]), (2, .agg #[fnV e, fnV f]), (3, .agg #[fnV g, fnV h]), (4, .agg #[fnV i, fnV j]), (5, .agg #[fnV k, fnV l])] _ (builtFn12 a b c d e f g h i j k l), Result.andThen_ok, Sem.run_pure]
theorem aggFn12 : AggT 73 12 := ⟨⟨_, Try.underlying73, rfl⟩, by kernel_rfl⟩
@[go_sem ↓] theorem exec_storeFn12 (ρ : Operand → Value) (dst : Option Tmp) (x y : Operand) (ty : TypeId) (pos : String) (after : Array Edge) (guard : Option (Nat × Bool)) : execOp ρ { dst, op := .store 73 x y, type := ty, pos, after, guard } = storeT 73 (ρ x) (ρ y) := rfl
@[go_sem] theorem run_storeFn12 {w : World} {g : Nat} {cs : Array Value} (h : rowOk w g 12) (hs : IsN 12 cs) (hc : Ones cs) : (storeT 73 (.pointer (some ⟨g, 0, none⟩)) (.agg cs)).run Try.prog w = .ok .skip (w.setRow g cs) := run_storeT aggFn12 h hs hc
@[go_sem] theorem rowOk_atFn12 {w : World} {g : Nat} {c : Array Value} {t : TypeId} (h : g = w.heap.size) (hc : IsN 12 c) : rowOk (w.alloc (.cells c t)) g 12 ↔ True := rowOk_atN h hc
@[go_sem] theorem isN_lit12 (a b c d e f g h i j k l : Value) : IsN 12 #[a, b, c, d, e, f, g, h, i, j, k, l] ↔ True := ⟨fun _ => trivial, fun _ => rfl⟩
@[go_sem] theorem ones_fn12 (a b c d e f g h i j k l : Nat) : Ones #[fnV a, fnV b, fnV c, fnV d, fnV e, fnV f, fnV g, fnV h, fnV i, fnV j, fnV k, fnV l] ↔ True := ⟨fun _ => trivial, fun _ => by unfold Ones; simp [Value.oneCell']⟩
@[irreducible] def mdF (p c : Nat → Nat) (n : Nat) : Nat → Nat := fun i => if i < n then p i else c i
theorem mdF_zero (p c : Nat → Nat) : mdF p c 0 = c := by unfold mdF; funext i; rw [if_neg (by omega)]
theorem mdF_succ (p c : Nat → Nat) (x : Nat) : fset (mdF p c x) x (p x) = mdF p c (x + 1) := by
  unfold mdF fset
  funext i
  by_cases h : i = x
  · rw [if_pos h, if_pos (by omega), h]
  · rw [if_neg h]
    show (if i < x then p i else c i) = if i < x + 1 then p i else c i
    by_cases h2 : i < x
    · rw [if_pos h2, if_pos (by omega)]
    · rw [if_neg h2, if_neg (by omega)]
theorem mdF_of {p c a : Nat → Nat} {n : Nat} (h1 : ∀ x, x < n → a x = p x) (h2 : ∀ x, n ≤ x → x < 32 → a x = c x) : ∀ i, i < 32 → mdF p c n i = a i := by
  intro i hi
  unfold mdF
  by_cases h : i < n
  · rw [if_pos h, h1 i h]
  · rw [if_neg h, h2 i (by omega) hi]


set_option maxRecDepth 100000 in
set_option maxHeartbeats 4000000 in
theorem sTurn_any (n : Nat) (c t s : Nat → Nat) (hf : flP n c t s) (k : Int) (hk : 0 ≤ k ∧ k ≤ 5) (w : World) :
    Calls Try.prog 54 #[.agg (fv (n : Int) c t s), .int .i64 k] w fun e w' => e = .returned (.agg (fv (n : Int) (tnA c s (bothF c s n) k.toNat) t (tnB c s (bothF c s n) k.toNat))) ∧ Below w.heap.size w w' := by
  have C3 := hide fun w => sBoth_any c s n hf.1.2.1 (fun x hx => by have := hf.2.1.keeps hx; have := hf.1.2.1; omega) w
  have hn := fv_n (n : Int) c t s
  have HH2 := ((Holds.start w).blk (fv (n : Int) c t s) 27 w.heap.size rfl).blk (fv 0 (fun _ => 0) (fun _ => 0) (fun _ => 0)) 27 (w.heap.size + 1) (by simp)
  generalize bothF c s n = b at *
  clear hf
  go_enter Try.func54, Try.ntmps54
  go_wp2
  refine Rd.region_P (w0 := w) [pBlk (w.heap.size + 1) (fv 0 (fun _ => 0) (fun _ => 0) (fun _ => 0)) 27, pBlk w.heap.size (fv (n : Int) c t s) 27] [pBlk (w.heap.size + 1) (fv 0 (fun _ => 0) (fun _ => 0) (fun _ => 0)) 27, pBlk w.heap.size (fv (n : Int) c t s) 27] [12, 13] (.q 0 <| .q 1 <| .q 2 <| .q 3 <| .q 4 <| .q 5 <| .q 6 <| .q 7 <| .q 8 <| .q 9 <| .q 10 <| .q 11 <| .s1 12 <| .s1 13 .fin) HH2 (.refl _) (by kernel_rfl) (by kernel_rfl) (by kernel_rfl) ?_
  iterate 10
    apply Rd.v_q
    · simp only [List.getElem?_toArray, List.getElem?_cons_zero, List.getElem?_cons_succ]; exact rfl
    · rfl
    · go_simp
    · intro wx hx
      have q0 := hx.cells 1 rfl
      have n1 := hx.cell 1 rfl hn
      unfold atG
      go_simp
      simp only [uponG]
      exact ⟨by trivial, rfl⟩
  iterate 1
    apply Rd.v_q
    · simp only [List.getElem?_toArray, List.getElem?_cons_zero, List.getElem?_cons_succ]; exact rfl
    · rfl
    · go_simp
    · intro wx hx
      have q0 := hx.cells 1 rfl
      have n1 := hx.cell 1 rfl hn
      unfold atG
      go_simp
      simp only [uponG]
      exact ⟨by trivial, C3.out wx⟩
  iterate 1
    apply Rd.v_q
    · simp only [List.getElem?_toArray, List.getElem?_cons_zero, List.getElem?_cons_succ]; exact rfl
    · rfl
    · go_simp
    · intro wx hx
      have q0 := hx.cells 1 rfl
      have n1 := hx.cell 1 rfl hn
      unfold atG
      go_simp
      simp only [uponG]
      exact ⟨by trivial, rfl⟩
  refine Rd.v_box (q3 [fun _ => 0, fun _ => 0, fun _ => 0]) 93 (by simp only [List.getElem?_toArray, List.getElem?_cons_zero, List.getElem?_cons_succ]; exact rfl) rfl (by go_simp) (fun wx hx hD => by rw [← q3_zero]; go_simp) fun g6 => ?_
  refine Rd.v_put 0 g6 (q3 [fun _ => 0, fun _ => 0, fun _ => 0]) (q3 [c, s, b]) 93 rfl (.cons _ (.refl _)) (by simp only [List.getElem?_toArray, List.getElem?_cons_zero, List.getElem?_cons_succ]; exact rfl) rfl (by go_simp) (fun wx hx hD => ?_) ?_
  · have rr := hD.rowOk (n := 96) 0 rfl (q3_size _)
    go_simp
  rintro w4 - H4
  clear HH2
  simp only [List.set_cons_zero] at H4
  have H5 := (H4.blk (six 0 1 2 1 0 2) 94 w4.heap.size rfl).blk (six 1 0 1 2 2 0) 94 (w4.heap.size + 1) (by simp)
  clear H4
  go_simp
  go_wp2
  generalize (w4.alloc _).alloc _ = w5 at *
  generalize w4.heap.size = g7 at *
  have hk6 : k = 0 ∨ k = 1 ∨ k = 2 ∨ k = 3 ∨ k = 4 ∨ k = 5 := by omega
  clear hk
  rcases hk6 with rfl | rfl | rfl | rfl | rfl | rfl
  · have hn1 := hn
    refine region_tail (fun wx => Holds w wx _) 15 (by kernel_rfl) (by kernel_rfl) H5.drew ?_
    simp only [List.take_succ_cons, List.take_zero, List.drop_succ_cons, List.drop_zero]
    iterate 15
      apply q_step
      · go_simp
      · intro wx hx
        have n1 := hx.cell 4 rfl hn
        have q0 := hx.cells 4 rfl
        have i1 : wx.cell? ⟨g7, 0, none⟩ = some (.int .i64 0) := hx.cell 1 rfl rfl
        have i2 : wx.cell? ⟨g7 + 1, 0, none⟩ = some (.int .i64 1) := hx.cell 0 rfl rfl
        have l1 := q3_load (hx.cells 2 rfl) 0 0 (by simp) rfl
        have l2 := q3_load (hx.cells 2 rfl) 1 32 (by simp) rfl
        simp only [List.getD_cons_zero, List.getD_cons_succ] at l1 l2
        go_simp
        exact rfl
    refine wpQuiet_nil ?_
    intro w6 H6
    have H7 := H6.setRow 3 rfl (fv (n : Int) (tnA c s b 0) t (tnB c s b 0))
    have rr2 := H6.rowOk (n := 97) 3 rfl (fv_size _ _ _ _)
    go_wp2
    exact res_agg (p := 4) (g := w.heap.size + 1) aggFl (fv_size _ _ _ _) rfl rfl rfl (H7.at 3 rfl) ⟨rfl, H7.low⟩
  · have hn1 := hn
    refine region_tail (fun wx => Holds w wx _) 15 (by kernel_rfl) (by kernel_rfl) H5.drew ?_
    simp only [List.take_succ_cons, List.take_zero, List.drop_succ_cons, List.drop_zero]
    iterate 15
      apply q_step
      · go_simp
      · intro wx hx
        have n1 := hx.cell 4 rfl hn
        have q0 := hx.cells 4 rfl
        have i1 : wx.cell? ⟨g7, 1, none⟩ = some (.int .i64 1) := hx.cell 1 rfl rfl
        have i2 : wx.cell? ⟨g7 + 1, 1, none⟩ = some (.int .i64 0) := hx.cell 0 rfl rfl
        have l1 := q3_load (hx.cells 2 rfl) 1 32 (by simp) rfl
        have l2 := q3_load (hx.cells 2 rfl) 0 0 (by simp) rfl
        simp only [List.getD_cons_zero, List.getD_cons_succ] at l1 l2
        go_simp
        exact rfl
    refine wpQuiet_nil ?_
    intro w6 H6
    have H7 := H6.setRow 3 rfl (fv (n : Int) (tnA c s b 1) t (tnB c s b 1))
    have rr2 := H6.rowOk (n := 97) 3 rfl (fv_size _ _ _ _)
    go_wp2
    exact res_agg (p := 4) (g := w.heap.size + 1) aggFl (fv_size _ _ _ _) rfl rfl rfl (H7.at 3 rfl) ⟨rfl, H7.low⟩
  · have hn1 := hn
    refine region_tail (fun wx => Holds w wx _) 15 (by kernel_rfl) (by kernel_rfl) H5.drew ?_
    simp only [List.take_succ_cons, List.take_zero, List.drop_succ_cons, List.drop_zero]
    iterate 15
      apply q_step
      · go_simp
      · intro wx hx
        have n1 := hx.cell 4 rfl hn
        have q0 := hx.cells 4 rfl
        have i1 : wx.cell? ⟨g7, 2, none⟩ = some (.int .i64 2) := hx.cell 1 rfl rfl
        have i2 : wx.cell? ⟨g7 + 1, 2, none⟩ = some (.int .i64 1) := hx.cell 0 rfl rfl
        have l1 := q3_load (hx.cells 2 rfl) 2 64 (by simp) rfl
        have l2 := q3_load (hx.cells 2 rfl) 1 32 (by simp) rfl
        simp only [List.getD_cons_zero, List.getD_cons_succ] at l1 l2
        go_simp
        exact rfl
    refine wpQuiet_nil ?_
    intro w6 H6
    have H7 := H6.setRow 3 rfl (fv (n : Int) (tnA c s b 2) t (tnB c s b 2))
    have rr2 := H6.rowOk (n := 97) 3 rfl (fv_size _ _ _ _)
    go_wp2
    exact res_agg (p := 4) (g := w.heap.size + 1) aggFl (fv_size _ _ _ _) rfl rfl rfl (H7.at 3 rfl) ⟨rfl, H7.low⟩
  · have hn1 := hn
    refine region_tail (fun wx => Holds w wx _) 15 (by kernel_rfl) (by kernel_rfl) H5.drew ?_
    simp only [List.take_succ_cons, List.take_zero, List.drop_succ_cons, List.drop_zero]
    iterate 15
      apply q_step
      · go_simp
      · intro wx hx
        have n1 := hx.cell 4 rfl hn
        have q0 := hx.cells 4 rfl
        have i1 : wx.cell? ⟨g7, 3, none⟩ = some (.int .i64 1) := hx.cell 1 rfl rfl
        have i2 : wx.cell? ⟨g7 + 1, 3, none⟩ = some (.int .i64 2) := hx.cell 0 rfl rfl
        have l1 := q3_load (hx.cells 2 rfl) 1 32 (by simp) rfl
        have l2 := q3_load (hx.cells 2 rfl) 2 64 (by simp) rfl
        simp only [List.getD_cons_zero, List.getD_cons_succ] at l1 l2
        go_simp
        exact rfl
    refine wpQuiet_nil ?_
    intro w6 H6
    have H7 := H6.setRow 3 rfl (fv (n : Int) (tnA c s b 3) t (tnB c s b 3))
    have rr2 := H6.rowOk (n := 97) 3 rfl (fv_size _ _ _ _)
    go_wp2
    exact res_agg (p := 4) (g := w.heap.size + 1) aggFl (fv_size _ _ _ _) rfl rfl rfl (H7.at 3 rfl) ⟨rfl, H7.low⟩
  · have hn1 := hn
    refine region_tail (fun wx => Holds w wx _) 15 (by kernel_rfl) (by kernel_rfl) H5.drew ?_
    simp only [List.take_succ_cons, List.take_zero, List.drop_succ_cons, List.drop_zero]
    iterate 15
      apply q_step
      · go_simp
      · intro wx hx
        have n1 := hx.cell 4 rfl hn
        have q0 := hx.cells 4 rfl
        have i1 : wx.cell? ⟨g7, 4, none⟩ = some (.int .i64 0) := hx.cell 1 rfl rfl
        have i2 : wx.cell? ⟨g7 + 1, 4, none⟩ = some (.int .i64 2) := hx.cell 0 rfl rfl
        have l1 := q3_load (hx.cells 2 rfl) 0 0 (by simp) rfl
        have l2 := q3_load (hx.cells 2 rfl) 2 64 (by simp) rfl
        simp only [List.getD_cons_zero, List.getD_cons_succ] at l1 l2
        go_simp
        exact rfl
    refine wpQuiet_nil ?_
    intro w6 H6
    have H7 := H6.setRow 3 rfl (fv (n : Int) (tnA c s b 4) t (tnB c s b 4))
    have rr2 := H6.rowOk (n := 97) 3 rfl (fv_size _ _ _ _)
    go_wp2
    exact res_agg (p := 4) (g := w.heap.size + 1) aggFl (fv_size _ _ _ _) rfl rfl rfl (H7.at 3 rfl) ⟨rfl, H7.low⟩
  · have hn1 := hn
    refine region_tail (fun wx => Holds w wx _) 15 (by kernel_rfl) (by kernel_rfl) H5.drew ?_
    simp only [List.take_succ_cons, List.take_zero, List.drop_succ_cons, List.drop_zero]
    iterate 15
      apply q_step
      · go_simp
      · intro wx hx
        have n1 := hx.cell 4 rfl hn
        have q0 := hx.cells 4 rfl
        have i1 : wx.cell? ⟨g7, 5, none⟩ = some (.int .i64 2) := hx.cell 1 rfl rfl
        have i2 : wx.cell? ⟨g7 + 1, 5, none⟩ = some (.int .i64 0) := hx.cell 0 rfl rfl
        have l1 := q3_load (hx.cells 2 rfl) 2 64 (by simp) rfl
        have l2 := q3_load (hx.cells 2 rfl) 0 0 (by simp) rfl
        simp only [List.getD_cons_zero, List.getD_cons_succ] at l1 l2
        go_simp
        exact rfl
    refine wpQuiet_nil ?_
    intro w6 H6
    have H7 := H6.setRow 3 rfl (fv (n : Int) (tnA c s b 5) t (tnB c s b 5))
    have rr2 := H6.rowOk (n := 97) 3 rfl (fv_size _ _ _ _)
    go_wp2
    exact res_agg (p := 4) (g := w.heap.size + 1) aggFl (fv_size _ _ _ _) rfl rfl rfl (H7.at 3 rfl) ⟨rfl, H7.low⟩

set_option maxRecDepth 100000 in
set_option maxHeartbeats 4000000 in
theorem sTurnFlags_any (n : Int) (c t s : Nat → Nat) (hc : ∀ i, c i < 256) (ht : ∀ i, t i < 256) (hs : ∀ i, s i < 256) (k : Int) (w : World) :
    Calls Try.prog 19 #[.agg (fv n c t s), .int .i64 k] w fun e w' => e = .returned (tnfR n c t s k) ∧ Below w.heap.size w w' := by
  have C1 := hide fun w => sAre_any n c t s hc ht hs w
  have HH0 := ((Holds.start w).blk (fv n c t s) 27 w.heap.size rfl).blk (fv 0 (fun _ => 0) (fun _ => 0) (fun _ => 0)) 27 (w.heap.size + 1) (by simp)
  clear hc ht hs
  rcases h1 : flB n c t s with _ | _
  · rw [h1] at C1
    have hr : tnfR n c t s k = .tuple #[.agg (fv 0 (fun _ => 0) (fun _ => 0) (fun _ => 0)), .int .i64 1] := by unfold tnfR; rw [if_neg (by simp [h1])]
    rw [hr]
    clear h1 hr
    go_enter Try.func19, Try.ntmps19
    go_wp2_with fail
    refine (C1.out _).mono ?_
    rintro e w1 ⟨rfl, hb⟩
    have HH1 := HH0.call hb
    have cd1 := HH1.cells 1 rfl
    have rr1 := HH1.rowOk (n := 97) 0 rfl (fv_size _ _ _ _)
    clear hb HH0
    have HHs := HH1.setRow 0 rfl (fv 0 (fun _ => 0) (fun _ => 0) (fun _ => 0))
    go_wp2
    exact res_agg2 (p := 4) (t := 5) (g := w.heap.size + 1) (v := .int .i64 1) aggFl (fv_size _ _ _ _) rfl rfl rfl rfl (HHs.at 0 rfl) ⟨rfl, HHs.low⟩
  rw [h1] at C1
  obtain ⟨n, rfl, hf⟩ := flB_true h1
  by_cases hk : 0 ≤ k ∧ k ≤ 5
  rotate_left
  · have hr : tnfR (n : Int) c t s k = .tuple #[.agg (fv 0 (fun _ => 0) (fun _ => 0) (fun _ => 0)), .int .i64 2] := by unfold tnfR; rw [if_pos h1, if_neg hk]
    rw [hr]
    have C2 := hide fun w => l01In_any k 0 5 w
    rw [show (decide (0 ≤ k ∧ k ≤ 5)) = false by simp; omega] at C2
    clear h1 hr hf hk
    go_enter Try.func19, Try.ntmps19
    go_wp2_with fail
    refine (C1.out _).mono ?_
    rintro e w1 ⟨rfl, hb⟩
    have HH1 := HH0.call hb
    have cd1 := HH1.cells 1 rfl
    have rr1 := HH1.rowOk (n := 97) 0 rfl (fv_size _ _ _ _)
    clear hb HH0
    go_wp2_with fail
    refine (C2.out _).mono ?_
    rintro e w2 ⟨rfl, hb⟩
    have HH2 := HH1.call hb
    have cd2 := HH2.cells 1 rfl
    have rr2 := HH2.rowOk (n := 97) 0 rfl (fv_size _ _ _ _)
    clear hb HH1 cd1 rr1
    have HHs := HH2.setRow 0 rfl (fv 0 (fun _ => 0) (fun _ => 0) (fun _ => 0))
    go_wp2
    exact res_agg2 (p := 4) (t := 5) (g := w.heap.size + 1) (v := .int .i64 2) aggFl (fv_size _ _ _ _) rfl rfl rfl rfl (HHs.at 0 rfl) ⟨rfl, HHs.low⟩
  have C2 := hide fun w => l01In_any k 0 5 w
  rw [show (decide (0 ≤ k ∧ k ≤ 5)) = true by simp; omega] at C2
  have hr : tnfR (n : Int) c t s k = .tuple #[.agg (fv (n : Int) (tnA c s (bothF c s n) k.toNat) t (tnB c s (bothF c s n) k.toNat)), .int .i64 0] := by unfold tnfR; rw [if_pos h1, if_pos hk, Int.toNat_natCast]
  rw [hr]
  have C3 := hide fun w => sTurn_any n c t s hf k hk w
  generalize tnA c s (bothF c s n) k.toNat = a at *
  generalize tnB c s (bothF c s n) k.toNat = b at *
  clear h1 hr hf hk
  go_enter Try.func19, Try.ntmps19
  go_wp2_with fail
  refine (C1.out _).mono ?_
  rintro e w1 ⟨rfl, hb⟩
  have HH1 := HH0.call hb
  have cd1 := HH1.cells 1 rfl
  have rr1 := HH1.rowOk (n := 97) 0 rfl (fv_size _ _ _ _)
  clear hb HH0
  go_wp2_with fail
  refine (C2.out _).mono ?_
  rintro e w2 ⟨rfl, hb⟩
  have HH2 := HH1.call hb
  have cd2 := HH2.cells 1 rfl
  have rr2 := HH2.rowOk (n := 97) 0 rfl (fv_size _ _ _ _)
  clear hb HH1 cd1 rr1
  go_wp2_with fail
  refine (C3.out _).mono ?_
  rintro e w3 ⟨rfl, hb⟩
  have HH4 := HH2.call hb
  have rr3 := HH4.rowOk (n := 97) 0 rfl (fv_size _ _ _ _)
  clear hb HH2 cd2 rr2
  have HHs := HH4.setRow 0 rfl (fv (n : Int) a t b)
  go_wp2
  exact res_agg2 (p := 4) (t := 5) (g := w.heap.size + 1) (v := .int .i64 0) aggFl (fv_size _ _ _ _) rfl rfl rfl rfl (HHs.at 0 rfl) ⟨rfl, HHs.low⟩
end Go.Proofs.Ytcddglkecfnhmaa
