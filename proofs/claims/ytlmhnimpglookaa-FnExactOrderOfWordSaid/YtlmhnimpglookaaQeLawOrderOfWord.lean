/- Texts put together: SameD, Iso, Grn, Grn2, Turn, RegT, RegS, Wd, Let, Arg, Arg2, Poc, SPoc -/
import Derived.Test.YtlmhnimpglookaaQdLawOrderOfWord
import Derived.Test.YtlmhnimpglookaaChecked
import Derived.WalkKit
import Derived.WalkSpells
import Derived.WalkLawsBesides
import Derived.Deep.LoopGhost
import Derived.Deep.OwnRows
import Derived.Laws.Rows
import Derived.Laws.Tables
import Derived.Laws.CopyOwn
import Derived.ProofKit
import Derived.OpenShut
import Derived.ShutString
import Derived.ChangeOld
import Derived.Below
import Derived.Laws.OwnMore
import Derived.Laws.CopyRow
import Derived.Deep.MidRow
import Derived.BigQuiet
import Derived.Deep.QuietTactic
import Derived.RegionTactic
import Derived.Deep.RegionWith
import Derived.Maps.Keyed
import Derived.DeepKeys4
import Derived.Maps.Own
import Derived.Carry
import Derived.Deep.Quiet
import Derived.StillTail
import Derived.ChangeKeysEq
import Derived.StillTailTactics
import Derived.Deep.RegionHeld3
import Derived.Laws.Cover3
import Derived.Lib.Bytealg
import Derived.Lib.BytesEntry
import Derived.Laws.Externs
import Derived.Laws.StructEq
import Derived.OwnWalk
import Derived.ChangeSlices
import Derived.Deep.Slices
import Derived.WideShapes
namespace Go.Proofs.Ytlmhnimpglookaa
open Go.RowKit

theorem run_items2 (d : Nat) (f g : Nat → Nat) (w : World) : ∀ is : List Nat, (∀ i ∈ is, i < 16) →
    (Op.eqItems (d + 1) 5 1 (av f) (av g) is).run Try.prog w = .ok (is.all fun i => ((f i : Nat) : Int) == ((g i : Nat) : Int)) w
  | [], _ => by simp [Op.eqItems]
  | i :: is, h => by
    have hi := h i (by simp)
    have ih := run_items2 d f g w is fun j hj => h j (by simp [hj])
    have h1 := run_part_plain w plain8 (av_get f hi)
    have h2 := run_part_plain w plain8 (av_get g hi)
    have h3 := run_equalIn_int w d 5 .u8 .u8 (f i) (g i) Try.underlying5
    simp only [Op.eqItems, Nat.mul_one, Sem.run_bind, h1, h2, h3, Result.andThen_ok, List.all_cons]
    rcases hb : (((f i : Nat) : Int) == ((g i : Nat) : Int)) with _ | _
    · simp
    · simp [ih]
theorem run_sameP2 (d : Nat) (f g : Nat → Nat) (w : World) : (Op.equalIn (d + 2) 42 (.agg (av f)) (.agg (av g))).run Try.prog w = .ok (sameB f g) w := by
  obtain ⟨i0, hi, _⟩ := info_parts info8
  have h := run_equalIn_array w (d + 1) (av f) (av g) Try.underlying42 hi
  rw [cells8] at h
  rw [h, run_items2 d f g w _ (by simp)]
  unfold sameB; rfl
theorem info64D : (Try.prog.info? 2).map (·.size) = some 1 := by kernel_rfl
theorem infoPD : (Try.prog.info? 42).map (·.size) = some 16 := by kernel_rfl
theorem part_n (n : Int) (F G : Nat → Nat) (w : World) : (part 2 (dv n F G) 0).run Try.prog w = .ok (.int .i64 n) w :=
  run_part_plain w (by kernel_rfl) (dv_n n F G)
theorem part_b (n : Int) (F G : Nat → Nat) (w : World) : (part 42 (dv n F G) 1).run Try.prog w = .ok (.agg (av F)) w := by
  rcases hi : Try.prog.info? 42 with _ | i
  · have := infoPD; rw [hi] at this; cases this
  · have hsz : i.size = 16 := by have := infoPD; rw [hi] at this; simpa using this
    have hag : (isAgg 42).run Try.prog w = .ok true w := by simp [isAgg, run_underlying Try.underlying42]
    have e := blackOf_dv n F G
    unfold blackOf at e
    simp [part, hag, sizeOf, typeInfo, hi, hsz, e]
theorem part_w (n : Int) (F G : Nat → Nat) (w : World) : (part 42 (dv n F G) 17).run Try.prog w = .ok (.agg (av G)) w := by
  rcases hi : Try.prog.info? 42 with _ | i
  · have := infoPD; rw [hi] at this; cases this
  · have hsz : i.size = 16 := by have := infoPD; rw [hi] at this; simpa using this
    have hag : (isAgg 42).run Try.prog w = .ok true w := by simp [isAgg, run_underlying Try.underlying42]
    have e := whiteOf_dv n F G
    unfold whiteOf at e
    simp [part, hag, sizeOf, typeInfo, hi, hsz, e]
@[irreducible] def eqDB (n : Int) (F G : Nat → Nat) (n' : Int) (F' G' : Nat → Nat) : Bool := (n == n') && (sameB F F' && sameB G G')
theorem eqDB_iff (n : Int) (F G : Nat → Nat) (n' : Int) (F' G' : Nat → Nat) : eqDB n F G n' F' G' = true ↔ dv n F G = dv n' F' G' := by
  unfold eqDB
  rw [Bool.and_eq_true, Bool.and_eq_true, beq_iff_eq, sameB_iff, sameB_iff]
  constructor
  · rintro ⟨rfl, h1, h2⟩
    unfold dv
    apply row_congr
    intro i hi
    by_cases c : i = 0
    · rw [if_pos c, if_pos c]
    · rw [if_neg c, if_neg c]
      by_cases d : i < 17
      · rw [if_pos d, if_pos d, h1 (i - 1) (by omega)]
      · rw [if_neg d, if_neg d, h2 (i - 17) (by omega)]
  · intro h
    have hn : (dv n F G)[0]? = (dv n' F' G')[0]? := by rw [h]
    rw [dv_n, dv_n] at hn
    refine ⟨by simpa using hn, fun i hi => ?_, fun i hi => ?_⟩
    · have hb : (dv n F G)[1 + i]? = (dv n' F' G')[1 + i]? := by rw [h]
      rw [dv_b _ _ _ hi, dv_b _ _ _ hi] at hb
      simp at hb; omega
    · have hb : (dv n F G)[17 + i]? = (dv n' F' G')[17 + i]? := by rw [h]
      rw [dv_w _ _ _ hi, dv_w _ _ _ hi] at hb
      simp at hb; omega
theorem run_sameD (n : Int) (F G : Nat → Nat) (n' : Int) (F' G' : Nat → Nat) (w : World) : (Op.equalIn 10000 44 (.agg (dv n F G)) (.agg (dv n' F' G'))).run Try.prog w = .ok (eqDB n F G n' F' G') w := by
  have ht : Try.prog.underlying 44 = some (.struct (Try.prog.fieldsOf 44)) := by kernel_rfl
  have hp : Try.prog.stoodInHeld 44 = false := by kernel_rfl
  rw [run_equalIn_struct w 9999 44 _ _ ht hp]
  have hi : (Op.equalIn 9999 2 (.int .i64 n) (.int .i64 n')).run Try.prog w = .ok (n == n') w := run_equalIn_int w 9998 2 .i64 .i64 n n' Try.underlying2
  have hb : (Op.equalIn 9999 42 (.agg (av F)) (.agg (av F'))).run Try.prog w = .ok (sameB F F') w := run_sameP2 9997 F F' w
  have hw : (Op.equalIn 9999 42 (.agg (av G)) (.agg (av G'))).run Try.prog w = .ok (sameB G G') w := run_sameP2 9997 G G' w
  unfold eqDB
  rcases h1 : n == n' with _ | _
  · rw [h1] at hi
    simp [Program.fieldsOf, Try.underlying44, Op.eqFields, part_n, hi]
  · rw [h1] at hi
    rcases h2 : sameB F F' with _ | _
    · rw [h2] at hb
      simp [Program.fieldsOf, Try.underlying44, Op.eqFields, part_n, part_b, hi, hb]
    · rw [h2] at hb
      rcases h3 : sameB G G' with _ | _
      · rw [h3] at hw
        simp [Program.fieldsOf, Try.underlying44, Op.eqFields, part_n, part_b, part_w, hi, hb, hw]
      · rw [h3] at hw
        simp [Program.fieldsOf, Try.underlying44, Op.eqFields, part_n, part_b, part_w, hi, hb, hw]
@[go_sem] theorem guardD : Try.prog.eqGuardType Try.prog.depth 44 = false := by kernel_rfl
@[go_sem ↓] theorem run_eqlD (n : Int) (F G : Nat → Nat) (n' : Int) (F' G' : Nat → Nat) (w : World) : (binOp .eql 44 (.agg (dv n F G)) (.agg (dv n' F' G'))).run Try.prog w = .ok (.bool (eqDB n F G n' F' G')) w := by
  rw [run_eql_struct, run_sameD]; rfl
@[go_sem ↓] theorem run_neqD (n : Int) (F G : Nat → Nat) (n' : Int) (F' G' : Nat → Nat) (w : World) : (binOp .neq 44 (.agg (dv n F G)) (.agg (dv n' F' G'))).run Try.prog w = .ok (.bool (!eqDB n F G n' F' G')) w := by
  rw [run_neq_struct, run_sameD]; rfl
end Go.Proofs.Ytlmhnimpglookaa

namespace Go.Proofs.Ytlmhnimpglookaa
open Go.RowKit

/-- from the form of one dessin back by a naming of the other one -/
def isoP (first : Nat → Nat) (k : Nat) (s : Nat → Nat) : Nat → Nat := thenF first (backF s k) k
/-- all isomorphisms -/
noncomputable def isoL (f g : Nat → Nat) (m : Nat) (f' g' : Nat → Nat) (k : Nat) : List (Nat → Nat) := (lstT (formK f' g' k) (namF f' g' k) k (formK f g m 0)).map (isoP (namF f g m 0) k)
theorem isoL_len (f g : Nat → Nat) (m : Nat) (f' g' : Nat → Nat) (k : Nat) : (isoL f g m f' g' k).length ≤ k := by unfold isoL; rw [List.length_map]; exact lstT_len _ _ _ _
theorem upon_appPl {o : Oper} {a : Act} {w0 w : World} {L : List Part} (H : Holds w0 w L) (k : Nat) {v : Value} {l : List (Nat → Nat)} (hk : L[k]? = some (pPl v l))
    (g : Nat) (p : Nat → Nat) (t : TypeId) (hc : w.heap[g]? = some (.cells (av p) t (0, 0))) (hb : l.length ≤ 100000) {C : World → Prop} {R : Value → World → Prop}
    (h : ∀ v' w', Holds w0 w' (L.set k (pPl v' (l ++ [p]))) → C w' ∧ R v' w') (s x : Operand)
    (ho : o.op = .call { callee := .builtin .append, args := #[s, x], argTypes := #[86, 86] })
    (hs : a.eval s = v) (hx : a.eval x = .slice (some ⟨g, 0, none⟩) 1 1) : Rd.uponE Try.prog C R w ((execOp a.eval o).run Try.prog w) := by
  obtain ⟨v', w', h1, h2⟩ := run_appPl H k hk g p t hc hb s x ho hs hx
  rw [h1]
  exact h v' w' h2

-- left out here: loop.example/g01200/impl.isomorphisms
end Go.Proofs.Ytlmhnimpglookaa

namespace Go.Proofs.Ytlmhnimpglookaa
open Go.RowKit

@[irreducible] def gv (p : Nat → Nat) (y : Int) : Array Value := row 17 fun i => if i = 16 then .int .i64 y else .int .u8 (p i)
theorem gv_size (p : Nat → Nat) (y : Int) : (gv p y).size = 17 := by unfold gv; exact row_size _ _
theorem gv_cases (p : Nat → Nat) (y : Int) (i : Nat) : (gv p y)[i]? = if i < 17 then some (if i = 16 then .int .i64 y else .int .u8 (p i)) else none := by
  unfold gv
  by_cases c : i < 17
  · rw [row_get _ _ c, if_pos c]
  · rw [row_none _ _ c, if_neg c]
theorem gv_len (p : Nat → Nat) (y : Int) : (gv p y).toList.length = 17 := by rw [Array.length_toList, gv_size]
theorem gv_cells (p : Nat → Nat) (y : Int) : (gv p y).all (·.oneCell') = true := by
  unfold gv row
  simp [Value.oneCell']
  intro x _
  by_cases c : x = 16
  · rw [if_pos c]
  · rw [if_neg c]
theorem gv_level (p : Nat → Nat) (y : Int) : (gv p y)[16]? = some (.int .i64 y) := by rw [gv_cases]; rfl
theorem gv_places (p : Nat → Nat) (y : Int) : (gv p y).extract 0 16 = av p := by
  apply Array.ext_getElem?
  intro i
  rw [Array.getElem?_extract, av_cases, gv_cases, gv_size]
  by_cases c : i < 16
  · rw [if_pos (by omega), if_pos (by omega), if_neg (by omega), if_pos c, Nat.zero_add]
  · rw [if_neg (by omega), if_neg c]
theorem gv_zero : gv (fun _ => 0) 0 = #[.int .u8 0, .int .u8 0, .int .u8 0, .int .u8 0, .int .u8 0, .int .u8 0, .int .u8 0, .int .u8 0, .int .u8 0, .int .u8 0, .int .u8 0, .int .u8 0, .int .u8 0, .int .u8 0, .int .u8 0, .int .u8 0, .int .i64 0] := by unfold gv row; rfl

def grB (l : List ((Nat → Nat) × Nat)) : List Value := l.flatMap fun q => (gv q.1 q.2).toList
theorem grB_cons (q : (Nat → Nat) × Nat) (l : List ((Nat → Nat) × Nat)) : grB (q :: l) = (gv q.1 q.2).toList ++ grB l := rfl
theorem grB_length (l : List ((Nat → Nat) × Nat)) : (grB l).length = l.length * 17 := by
  induction l with
  | nil => rfl
  | cons p l ih => rw [grB_cons, List.length_append, ih, gv_len, List.length_cons, Nat.succ_mul]; omega
theorem grB_append (l l' : List ((Nat → Nat) × Nat)) : grB (l ++ l') = grB l ++ grB l' := by unfold grB; simp
theorem grB_one {l : List ((Nat → Nat) × Nat)} : ∀ u ∈ grB l, u.oneCell' = true := by
  intro u hu
  unfold grB at hu
  obtain ⟨p, _, hp⟩ := List.mem_flatMap.1 hu
  have := Array.all_eq_true_iff_forall_mem.1 (gv_cells p.1 p.2) u (by simpa using hp)
  exact this
theorem grB_at {l : List ((Nat → Nat) × Nat)} {k : Nat} (hk : k < l.length) {i : Nat} (hi : i < 17) : (grB l)[k * 17 + i]? = (gv l[k].1 l[k].2)[i]? := by
  induction l generalizing k with
  | nil => simp at hk
  | cons p l ih =>
    rw [grB_cons]
    rcases k with _ | k
    · rw [Nat.zero_mul, Nat.zero_add, List.getElem?_append_left (by rw [gv_len]; exact hi), Array.getElem?_toList]; rfl
    · rw [List.getElem?_append_right (by rw [gv_len]; omega), gv_len, show (k + 1) * 17 + i - 17 = k * 17 + i by omega]
      exact ih (k := k) (by simpa using hk)
theorem grB_ext {l : List ((Nat → Nat) × Nat)} {cur : Array Value} (h : cur.toList.take (l.length * 17) = grB l) {k : Nat} (hk : k < l.length) : cur.extract (k * 17) (k * 17 + 17) = gv l[k].1 l[k].2 := by
  have hlen : l.length * 17 ≤ cur.size := by
    have h1 := congrArg List.length h
    rw [grB_length, List.length_take] at h1
    have h2 : cur.toList.length = cur.size := Array.length_toList
    rw [← h2, ← h1]
    exact Nat.min_le_right _ _
  have hk16 : k * 17 + 17 ≤ l.length * 17 := by omega
  apply Array.ext_getElem?
  intro i
  rw [Array.getElem?_extract]
  by_cases c : i < 17
  · rw [if_pos (by omega)]
    have h1 := grB_at hk c
    rw [← h, List.getElem?_take_of_lt (by omega), Array.getElem?_toList] at h1
    exact h1
  · rw [if_neg (by omega), Array.getElem?_eq_none (by rw [gv_size]; omega)]
theorem infoGr : (Try.prog.info? 122).map (fun i => (i.zero, i.size, i.bytes)) = some (some (.agg #[.int .u8 0, .int .u8 0, .int .u8 0, .int .u8 0, .int .u8 0, .int .u8 0, .int .u8 0, .int .u8 0, .int .u8 0, .int .u8 0, .int .u8 0, .int .u8 0, .int .u8 0, .int .u8 0, .int .u8 0, .int .u8 0, .int .i64 0]), 17, 24) := by kernel_rfl
/-- a row of grains, its part -/
def pGr (v : Value) (l : List ((Nat → Nat) × Nat)) : Part := pRow v 122 17 l.length (grB l)
theorem Holds.grForm {w0 w : World} {L : List Part} (h : Holds w0 w L) (i : Nat) {v : Value} {l : List ((Nat → Nat) × Nat)} (hi : L[i]? = some (pGr v l)) : ∃ A c, v = .slice A l.length c := own_slice (h.row i hi)

set_option maxRecDepth 1000000 in
theorem builtGr (p : Nat → Nat) (y : Int) : Try.prog.built 122 [(0, .agg (av p)), (1, .int .i64 y)] = some (gv p y) := by
  have hu : Try.prog.underlying 122 = some (.struct _) := Try.underlying122
  have hz : (Try.prog.info? 122).map (·.zero) = some (some (.agg (gv (fun _ => 0) 0))) := by rw [gv_zero]; kernel_rfl
  unfold Program.built
  rcases hi : Try.prog.info? 122 with _ | it
  · rw [hi] at hz; cases hz
  · rw [hi] at hz
    have hz' : it.zero = some (.agg (gv (fun _ => 0) 0)) := by simpa using hz
    rw [hu]
    simp only [hz']
    generalize he : List.mapM (fun (f : Field) => Option.map (fun i => (f.offset, i.size)) (Try.prog.info? f.type)) _ = z
    have hz2 : z = some [(0, 16), (16, 1)] := he.symm.trans (by kernel_rfl)
    subst hz2
    simp only [Instr.fill, Value.cells, List.getElem?_toArray, List.getElem?_cons_zero, List.getElem?_cons_succ, av_size, splice_eq, splice_size, gv_size]
    rw [if_neg (by simp), if_neg (by simp)]
    congr 1
    apply Array.ext_getElem?
    intro i
    have l1 : (av p).toList.length = 16 := by simpa using av_size p
    rw [foldset, foldset, gv_cases, gv_cases, splice_size, gv_size, l1, Array.getElem?_toList, Array.getElem?_toList, av_cases]
    simp only [List.length_cons, List.length_nil, Nat.zero_add, Nat.add_zero, Nat.sub_zero]
    by_cases h0 : i = 16
    · subst h0; simp
    · by_cases h1 : i < 16
      · rw [if_neg (by omega), if_pos (by omega), if_pos (by omega), if_pos (by omega), if_neg h0]
      · rw [if_neg (by omega), if_neg (by omega), if_neg (by omega), if_neg (by omega)]
/-- what the operation 'build a grain' does -/
def buildGr (ps : Array (Nat × Value)) : Sem Next := do pure (.value (← Instr.build 122 ps))
@[go_sem ↓] theorem exec_buildGr (ρ : Operand → Value) (dst : Option Tmp) (parts : Array (Nat × Operand)) (ty : TypeId) (pos : String) (after : Array Edge) (guard : Option (Nat × Bool)) :
    execOp ρ { dst, op := .build 122 parts, type := ty, pos, after, guard } = buildGr (parts.map fun (i, x) => (i, ρ x)) := rfl
@[go_sem] theorem run_buildGr (p : Nat → Nat) (y : Int) (w : World) : (buildGr #[(0, .agg (av p)), (1, .int .i64 y)]).run Try.prog w = .ok (.value (.agg (gv p y))) w := by
  simp only [buildGr, Sem.run_bind, run_build (P := Try.prog) w 122 #[(0, .agg (av p)), (1, .int .i64 y)] _ (builtGr p y), Result.andThen_ok, Sem.run_pure]
/-- one grain laid for an append -/
def buildSlGr (n : Nat) (ps : Array (Nat × Value)) : Sem Next := do pure (.value (← Instr.buildSlice 123 n ps))
@[go_sem ↓] theorem exec_buildSlGr (ρ : Operand → Value) (dst : Option Tmp) (n : Nat) (parts : Array (Nat × Operand)) (ty : TypeId) (pos : String) (after : Array Edge) (guard : Option (Nat × Bool)) :
    execOp ρ { dst, op := .buildSlice 123 n parts, type := ty, pos, after, guard } = buildSlGr n (parts.map fun (i, x) => (i, ρ x)) := rfl
theorem fillGr (p : Nat → Nat) (y : Int) (cs : Array Value) (hcs : cs.size = 17) : Instr.fill (fun i => some (i * 17, 17)) cs [(0, .agg (gv p y))] = some (gv p y) := by
  simp only [Instr.fill, Value.cells, gv_size, hcs, splice_eq]
  rw [if_neg (by simp)]
  congr 1
  apply Array.ext_getElem?
  intro i
  rw [foldset, hcs, gv_len, Array.getElem?_toList]
  by_cases c : i < 17
  · rw [if_pos (by omega)]; congr 1
  · rw [if_neg (by omega), Array.getElem?_eq_none (by rw [hcs]; omega), Array.getElem?_eq_none (by rw [gv_size]; omega)]
@[go_sem] theorem run_bslGr (p : Nat → Nat) (y : Int) (w : World) : (buildSlGr 1 #[(0, .agg (gv p y))]).run Try.prog w = .ok (.value (.slice (some ⟨w.heap.size, 0, none⟩) 1 1)) (w.alloc (.cells (gv p y) 122)) := by
  obtain ⟨i0, hi, hz0, hz1, _⟩ := info_parts infoGr
  have hsz : ¬ (1 * i0.size > 2 ^ 24) := by rw [hz1]; decide
  have hnz : ¬ (1 * i0.size = 0) := by rw [hz1]; decide
  have hff : ∀ cs : Array Value, cs.size = 17 → Instr.fill (fun i => some (i * i0.size, i0.size)) cs [(0, .agg (gv p y))] = some (gv p y) := fun cs h => by rw [hz1]; exact fillGr p y cs h
  simp only [buildSlGr, Instr.buildSlice, run_underlying Try.underlying123, sizeOf, typeInfo, hi, zeroValue, hz0, Sem.run_bind, Sem.run_pure, Result.andThen_ok, run_program, hsz, hnz, if_false]
  rw [hff _ (by simp [hz1])]
  rfl
theorem run_appGr {o : Oper} {a : Act} {w0 w : World} {L : List Part} (H : Holds w0 w L) (k : Nat) {v : Value} {l : List ((Nat → Nat) × Nat)} (hk : L[k]? = some (pGr v l))
    (g : Nat) (q : (Nat → Nat) × Nat) (t : TypeId) (hc : w.heap[g]? = some (.cells (gv q.1 q.2) t (0, 0))) (hb : l.length ≤ 1000000) (s x : Operand)
    (ho : o.op = .call { callee := .builtin .append, args := #[s, x], argTypes := #[123, 123] })
    (hs : a.eval s = v) (hx : a.eval x = .slice (some ⟨g, 0, none⟩) 1 1) :
    ∃ v' w', (execOp a.eval o).run Try.prog w = .ok (.value v') w' ∧ Holds w0 w' (L.set k (pGr v' (l ++ [q]))) := by
  obtain ⟨i0, hi, hz0, hz1, hz2⟩ := info_parts infoGr
  obtain ⟨v', w', h1, h2, _⟩ := run_appH (P := Try.prog) (w := w) 123 o.type 122 i0 _ 17 24 Try.underlying123 hi hz0 hz1 hz2 rfl (by decide) v l.length (grB l) H k hk ⟨g, 0, none⟩ 1 1 (gv q.1 q.2).toList
    (by rw [gv_len]) (fun j u hu => by
      have : ((⟨g, 0, none⟩ : Addr).add j) = ⟨g, j, none⟩ := by simp [Addr.add]; exact Eq.symm
      rw [this, cell_of_cells, cellsOf_heap hc]
      simpa using hu) (fun u hu => grB_one (l := [q]) u (by unfold grB; simpa using hu)) (by unfold maxLen; omega) (by omega)
  refine ⟨v', w', exec_append ho hs hx h1, ?_⟩
  unfold pGr at *
  have e : grB (l ++ [q]) = grB l ++ (gv q.1 q.2).toList := by rw [grB_append]; unfold grB; simp
  rw [List.length_append, e]
  exact h2
theorem upon_appGr {o : Oper} {a : Act} {w0 w : World} {L : List Part} (H : Holds w0 w L) (k : Nat) {v : Value} {l : List ((Nat → Nat) × Nat)} (hk : L[k]? = some (pGr v l))
    (g : Nat) (q : (Nat → Nat) × Nat) (t : TypeId) (hc : w.heap[g]? = some (.cells (gv q.1 q.2) t (0, 0))) (hb : l.length ≤ 1000000) {C : World → Prop} {R : Value → World → Prop}
    (h : ∀ v' w', Holds w0 w' (L.set k (pGr v' (l ++ [q]))) → C w' ∧ R v' w') (s x : Operand)
    (ho : o.op = .call { callee := .builtin .append, args := #[s, x], argTypes := #[123, 123] })
    (hs : a.eval s = v) (hx : a.eval x = .slice (some ⟨g, 0, none⟩) 1 1) : Rd.uponE Try.prog C R w ((execOp a.eval o).run Try.prog w) := by
  obtain ⟨v', w', h1, h2⟩ := run_appGr H k hk g q t hc hb s x ho hs hx
  rw [h1]
  exact h v' w' h2
/-- a row's list, appended as a whole (append(waiting, made...)) -/
theorem appGrs {ops : Array Oper} {rest : List Oper} {o : Oper} {a : Act} {Q : Exit → Act → World → Prop} {w0 w : World} {L : List Part} (H : Holds w0 w L) (k : Nat) {v : Value} {l l2 : List ((Nat → Nat) × Nat)} (hk : L[k]? = some (pGr v l))
    (g c : Nat) (hn : ∀ j u, (grB l2)[j]? = some u → w.cell? ⟨g, j, none⟩ = some u) (hb : l.length + l2.length ≤ 1000000)
    (hgd : o.guard = none) (s x : Operand)
    (ho : o.op = .call { callee := .builtin .append, args := #[s, x], argTypes := #[123, 123] })
    (hs : a.eval s = v) (hx : a.eval x = .slice (some ⟨g, 0, none⟩) l2.length c)
    (h : ∀ v' w', Holds w0 w' (L.set k (pGr v' (l ++ l2))) → wpList Try.prog ops Q rest (a.put o.dst v') w') : wpList Try.prog ops Q (o :: rest) a w := by
  obtain ⟨i0, hi, hz0, hz1, hz2⟩ := info_parts infoGr
  refine appH (P := Try.prog) hgd s x 123 ho 122 i0 _ 17 24 Try.underlying123 hi hz0 hz1 hz2 rfl (by decide) v l.length (grB l) hs H k hk ⟨g, 0, none⟩ l2.length c (grB l2) hx
    (grB_length l2) (fun j u hu => ?_) (fun u hu => grB_one u hu) (by unfold maxLen; omega) (by omega) fun v' w' h1 => h v' w' ?_
  · have : ((⟨g, 0, none⟩ : Addr).add j) = ⟨g, j, none⟩ := by simp [Addr.add]; exact Eq.symm
    rw [this]
    exact hn j u hu
  · unfold pGr at *
    rw [List.length_append, grB_append]
    exact h1
end Go.Proofs.Ytlmhnimpglookaa

namespace Go.Proofs.Ytlmhnimpglookaa
open Go.RowKit

theorem aggG : AggT 122 17 := ⟨⟨_, Try.underlying122, rfl⟩, by kernel_rfl⟩
def Is17g (c : Array Value) : Prop := c.size = 17
@[go_sem] theorem is17_gv (p : Nat → Nat) (y : Int) : Is17g (gv p y) ↔ True := ⟨fun _ => trivial, fun _ => gv_size p y⟩
@[go_sem] theorem is17g_lit (x0 x1 x2 x3 x4 x5 x6 x7 x8 x9 x10 x11 x12 x13 x14 x15 x16 : Value) : Is17g #[x0, x1, x2, x3, x4, x5, x6, x7, x8, x9, x10, x11, x12, x13, x14, x15, x16] ↔ True := ⟨fun _ => trivial, fun _ => rfl⟩
@[go_sem] theorem ones_gv (p : Nat → Nat) (y : Int) : Ones (gv p y) ↔ True := ⟨fun _ => trivial, fun _ => gv_cells p y⟩
@[go_sem] theorem rowOk_at17g {w : World} {g : Nat} {c : Array Value} {t : TypeId} (h : g = w.heap.size) (hc : Is17g c) : rowOk (w.alloc (.cells c t)) g 17 ↔ True := ⟨fun _ => trivial, fun _ => ⟨c, t, heap_at _ _ _ h, hc⟩⟩
section
variable (ρ : Operand → Value) (dst : Option Tmp) (x y : Operand) (ty : TypeId) (pos : String) (after : Array Edge) (guard : Option (Nat × Bool))
@[go_sem ↓] theorem exec_loadG : execOp ρ { dst, op := .load 122 x, type := ty, pos, after, guard } = loadT 122 (ρ x) := rfl
@[go_sem ↓] theorem exec_storeG : execOp ρ { dst, op := .store 122 x y, type := ty, pos, after, guard } = storeT 122 (ρ x) (ρ y) := rfl
end
@[go_sem] theorem run_storeG {w : World} {g : Nat} {cs : Array Value} (h : rowOk w g 17) (hs : Is17g cs) (hc : Ones cs) :
    (storeT 122 (.pointer (some ⟨g, 0, none⟩)) (.agg cs)).run Try.prog w = .ok .skip (w.setRow g cs) := run_storeT aggG h hs hc
/-- the permutation of a grain -/
theorem run_loadGp {w : World} {g : Nat} {p : Nat → Nat} {y : Int} (h : cellsOf w g = gv p y) : (loadT 42 (.pointer (some ⟨g, 0, none⟩))).run Try.prog w = .ok (.value (.agg (av p))) w :=
  run_load_mid aggP (by rw [h, Nat.zero_add]; exact gv_places p y) (av_size _)
theorem one_grain {w : World} {g : Nat} {p : Nat → Nat} {y : Nat} (h : (pBlk g (gv p y) 122).ok w) : (pGr (.slice (some ⟨g, 0, none⟩) 1 1) [(p, y)]).ok w := by
  refine ⟨by rw [grB_length], .inr ⟨g, 1, gv p y, rfl, Nat.zero_le _, h, Nat.le_refl _, by unfold maxLen; omega, gv_size p y, ?_⟩⟩
  rw [show [(p, y)].length * 17 = (gv p y).toList.length by rw [gv_len]; rfl, List.take_length]
  unfold grB; simp
/-- the last grain of a row, and the row without it -/
theorem gr_last {w : World} {v : Value} {W0 : List ((Nat → Nat) × Nat)} {q : Nat → Nat} {l : Nat} (h : (pGr v (W0 ++ [(q, l)])).ok w) :
    ∃ g c, v = .slice (some ⟨g, 0, none⟩) (W0.length + 1) c ∧ W0.length + 1 ≤ c ∧ g < w.heap.size ∧ (loadT 122 (.pointer (some ⟨g, W0.length * 17, none⟩))).run Try.prog w = .ok (.value (.agg (gv q l))) w ∧
      (pGr (.slice (some ⟨g, 0, none⟩) W0.length c) W0).ok w := by
  have hl : (W0 ++ [(q, l)]).length = W0.length + 1 := by simp
  rcases h.2 with ⟨_, e⟩ | ⟨g, cap, cur, rfl, hB, hh, h1, h2, h3, h4⟩
  · omega
  · refine ⟨g, cap, by rw [hl], by omega, lt_of_some hh, ?_, by rw [grB_length], .inr ⟨g, cap, cur, rfl, hB, hh, by omega, h2, h3, ?_⟩⟩
    · have := grB_ext h4 (k := W0.length) (by omega)
      rw [List.getElem_append_right (Nat.le_refl _)] at this
      simp only [Nat.sub_self, List.getElem_cons_zero] at this
      exact run_load_mid aggG (by rw [cellsOf_heap hh]; exact this) (gv_size _ _)
    · have h5 := congrArg (List.take (W0.length * 17)) h4
      rw [List.take_take, hl, Nat.min_eq_left (by omega), grB_append, List.take_append_of_le_length (by rw [grB_length]; exact Nat.le_refl _)] at h5
      exact h5.trans (List.take_of_length_le (by rw [grB_length]; exact Nat.le_refl _))
theorem set_same {α : Type _} {l : List α} {i : Nat} {a : α} (h : l[i]? = some a) : l.set i a = l := by
  apply List.ext_getElem?
  intro j
  rw [List.getElem?_set]
  split
  · rename_i e; subst e
    obtain ⟨h1, h2⟩ := List.getElem?_eq_some_iff.1 h
    rw [if_pos h1, h]
  · rfl
theorem run_append_none {w : World} (t ty e : TypeId) (i : TypeInfo) (ht : Try.prog.underlying t = some (.slice e)) (hi : Try.prog.info? e = some i) (A : Option Addr) (n c : Nat) (h : n ≤ c) :
    (Builtin.append_ #[t, t] ty #[.slice A n c, .slice none 0 0]).run Try.prog w = .ok (.slice A n c) w := by
  cases A <;> simp [Builtin.append_, run_underlying ht, sizeOf, typeInfo, hi, Builtin.lenOf, Builtin.firstCells, h, storeCells]
theorem run_appGrs {o : Oper} {a : Act} {w0 w : World} {L : List Part} (H : Holds w0 w L) (k : Nat) {v : Value} {l : List ((Nat → Nat) × Nat)} (hk : L[k]? = some (pGr v l))
    {u : Value} {l2 : List ((Nat → Nat) × Nat)} (hu : (pGr u l2).ok w) (hb : l.length + l2.length ≤ 1000000) (s x : Operand)
    (ho : o.op = .call { callee := .builtin .append, args := #[s, x], argTypes := #[123, 123] })
    (hs : a.eval s = v) (hx : a.eval x = u) :
    ∃ v' w', (execOp a.eval o).run Try.prog w = .ok (.value v') w' ∧ Holds w0 w' (L.set k (pGr v' (l ++ l2))) := by
  obtain ⟨i0, hi, hz0, hz1, hz2⟩ := info_parts infoGr
  rcases hu.2 with ⟨rfl, e⟩ | ⟨g, cap, cur, rfl, hB, hh, h1, h2, h3, h4⟩
  · have e2 : l2 = [] := List.eq_nil_of_length_eq_zero e
    subst e2
    have hv : ∃ A c, v = .slice A l.length c ∧ l.length ≤ c := by
      rcases (H.row k hk).2 with ⟨rfl, e⟩ | ⟨g, cap, cur, rfl, _, _, h1, _⟩
      · exact ⟨none, 0, by rw [e], by omega⟩
      · exact ⟨_, cap, rfl, h1⟩
    obtain ⟨A, c, rfl, hc⟩ := hv
    refine ⟨_, w, exec_append ho hs hx (run_append_none _ _ _ i0 Try.underlying123 hi A l.length c hc), ?_⟩
    rw [List.append_nil, set_same hk]
    exact H
  · obtain ⟨v', w', r1, r2, _⟩ := run_appH (P := Try.prog) (w := w) 123 o.type 122 i0 _ 17 24 Try.underlying123 hi hz0 hz1 hz2 rfl (by decide) v l.length (grB l) H k hk ⟨g, 0, none⟩ l2.length cap (grB l2)
      (grB_length l2) (fun j u hu => by
        have : ((⟨g, 0, none⟩ : Addr).add j) = ⟨g, j, none⟩ := by simp [Addr.add]; exact Eq.symm
        have hj : j < l2.length * 17 := by
          rcases Nat.lt_or_ge j (l2.length * 17) with c | c
          · exact c
          · rw [List.getElem?_eq_none (by rw [grB_length]; exact c)] at hu; cases hu
        rw [this, cell_of_cells, cellsOf_heap hh, ← Array.getElem?_toList]
        rw [← h4, List.getElem?_take_of_lt hj] at hu
        exact hu) (fun u hu => grB_one u hu) (by unfold maxLen; omega) (by omega)
    refine ⟨v', w', exec_append ho hs hx r1, ?_⟩
    unfold pGr at *
    rw [List.length_append, grB_append]
    exact r2
theorem upon_appGrs {o : Oper} {a : Act} {w0 w : World} {L : List Part} (H : Holds w0 w L) (k : Nat) {v : Value} {l : List ((Nat → Nat) × Nat)} (hk : L[k]? = some (pGr v l))
    {u : Value} {l2 : List ((Nat → Nat) × Nat)} (hu : (pGr u l2).ok w) (hb : l.length + l2.length ≤ 1000000) {C : World → Prop} {R : Value → World → Prop}
    (h : ∀ v' w', Holds w0 w' (L.set k (pGr v' (l ++ l2))) → C w' ∧ R v' w') (s x : Operand)
    (ho : o.op = .call { callee := .builtin .append, args := #[s, x], argTypes := #[123, 123] })
    (hs : a.eval s = v) (hx : a.eval x = u) : Rd.uponE Try.prog C R w ((execOp a.eval o).run Try.prog w) := by
  obtain ⟨v', w', h1, h2⟩ := run_appGrs H k hk hu hb s x ho hs hx
  rw [h1]
  exact h v' w' h2
end Go.Proofs.Ytlmhnimpglookaa

namespace Go.Proofs.Ytlmhnimpglookaa
open Go.RowKit

theorem aggTn : AggT 109 17 := ⟨⟨_, Try.underlying109, rfl⟩, by kernel_rfl⟩
section
variable (ρ : Operand → Value) (dst : Option Tmp) (x y : Operand) (ty : TypeId) (pos : String) (after : Array Edge) (guard : Option (Nat × Bool))
@[go_sem ↓] theorem exec_loadTn : execOp ρ { dst, op := .load 109 x, type := ty, pos, after, guard } = loadT 109 (ρ x) := rfl
@[go_sem ↓] theorem exec_storeTn : execOp ρ { dst, op := .store 109 x y, type := ty, pos, after, guard } = storeT 109 (ρ x) (ρ y) := rfl
end
@[go_sem] theorem run_storeTn {w : World} {g : Nat} {cs : Array Value} (h : rowOk w g 17) (hs : Is17g cs) (hc : Ones cs) :
    (storeT 109 (.pointer (some ⟨g, 0, none⟩)) (.agg cs)).run Try.prog w = .ok .skip (w.setRow g cs) := run_storeT aggTn h hs hc
theorem run_loadTn {w : World} {g : Nat} {p : Nat → Nat} {y : Int} (h : cellsOf w g = gv p y) : (loadT 109 (.pointer (some ⟨g, 0, none⟩))).run Try.prog w = .ok (.value (.agg (gv p y))) w :=
  run_load_mid aggTn (by
    rw [h, Nat.zero_add]
    apply Array.ext_getElem?
    intro i
    rw [Array.getElem?_extract, gv_size]
    by_cases c : i < 17
    · rw [if_pos (by omega), Nat.zero_add]
    · rw [if_neg (by omega), Array.getElem?_eq_none (by rw [gv_size]; omega)]) (gv_size _ _)
set_option maxRecDepth 1000000 in
theorem builtTn (p : Nat → Nat) (y : Int) : Try.prog.built 109 [(0, .agg (av p)), (1, .int .i64 y)] = some (gv p y) := by
  have hu : Try.prog.underlying 109 = some (.struct _) := Try.underlying109
  have hz : (Try.prog.info? 109).map (·.zero) = some (some (.agg (gv (fun _ => 0) 0))) := by rw [gv_zero]; kernel_rfl
  unfold Program.built
  rcases hi : Try.prog.info? 109 with _ | it
  · rw [hi] at hz; cases hz
  · rw [hi] at hz
    have hz' : it.zero = some (.agg (gv (fun _ => 0) 0)) := by simpa using hz
    rw [hu]
    simp only [hz']
    generalize he : List.mapM (fun (f : Field) => Option.map (fun i => (f.offset, i.size)) (Try.prog.info? f.type)) _ = z
    have hz2 : z = some [(0, 16), (16, 1)] := he.symm.trans (by kernel_rfl)
    subst hz2
    simp only [Instr.fill, Value.cells, List.getElem?_toArray, List.getElem?_cons_zero, List.getElem?_cons_succ, av_size, splice_eq, splice_size, gv_size]
    rw [if_neg (by simp), if_neg (by simp)]
    congr 1
    apply Array.ext_getElem?
    intro i
    have l1 : (av p).toList.length = 16 := by simpa using av_size p
    rw [foldset, foldset, gv_cases, gv_cases, splice_size, gv_size, l1, Array.getElem?_toList, Array.getElem?_toList, av_cases]
    simp only [List.length_cons, List.length_nil, Nat.zero_add, Nat.add_zero, Nat.sub_zero]
    by_cases h0 : i = 16
    · subst h0; simp
    · by_cases h1 : i < 16
      · rw [if_neg (by omega), if_pos (by omega), if_pos (by omega), if_pos (by omega), if_neg h0]
      · rw [if_neg (by omega), if_neg (by omega), if_neg (by omega), if_neg (by omega)]
def buildTn (ps : Array (Nat × Value)) : Sem Next := do pure (.value (← Instr.build 109 ps))
@[go_sem ↓] theorem exec_buildTn (ρ : Operand → Value) (dst : Option Tmp) (parts : Array (Nat × Operand)) (ty : TypeId) (pos : String) (after : Array Edge) (guard : Option (Nat × Bool)) :
    execOp ρ { dst, op := .build 109 parts, type := ty, pos, after, guard } = buildTn (parts.map fun (i, x) => (i, ρ x)) := rfl
@[go_sem] theorem run_buildTn (p : Nat → Nat) (y : Int) (w : World) : (buildTn #[(0, .agg (av p)), (1, .int .i64 y)]).run Try.prog w = .ok (.value (.agg (gv p y))) w := by
  simp only [buildTn, Sem.run_bind, run_build (P := Try.prog) w 109 #[(0, .agg (av p)), (1, .int .i64 y)] _ (builtTn p y), Result.andThen_ok, Sem.run_pure]

set_option maxRecDepth 100000 in
set_option maxHeartbeats 1000000 in
theorem after_any (q p : Nat → Nat) (m : Nat) (hm : m ≤ 16) (hp : ∀ i, i < m → p i < 16) (w : World) :
    Calls Try.prog 94 #[.agg (gv q m), .agg (av p)] w fun e w' => e = .returned (.agg (av (thenF p q m))) ∧ Below w.heap.size w w' := by
  have H1 := (((Holds.start w).blk (gv q m) 109 w.heap.size rfl).blk (av p) 42 (w.heap.size + 1) (by simp)).blk (av fun _ => 0) 42 (w.heap.size + 1 + 1) (by simp)
  rw [av_zero] at H1
  have C := hide (fun w => follow_any p q m hm hp w)
  have d1 := H1.cells 1 rfl
  have l1 := run_loadGp (H1.cells 2 rfl)
  have n1 := H1.cell 2 rfl (gv_level q m)
  have rr := H1.rowOk (n := 16) 0 rfl rfl
  clear hp
  go_enter Try.func94, Try.ntmps94
  go_wp2_with fail
  refine (C.out _).mono ?_
  rintro e w1 ⟨rfl, hb⟩
  have H2 := H1.call hb
  have H3 := H2.setRow 0 rfl (av (thenF p q m))
  have rr2 := H2.rowOk (n := 16) 0 rfl rfl
  clear d1 l1 n1 rr hb
  go_wp2
  exact res_agg (p := 4) (g := w.heap.size + 1 + 1) aggP (av_size _) rfl rfl rfl (H3.at 0 rfl) ⟨rfl, H3.low⟩

set_option maxRecDepth 100000 in
set_option maxHeartbeats 1000000 in
theorem backAfter_any (q p : Nat → Nat) (m : Nat) (hm : m ≤ 16) (hp : ∀ i, i < m → p i < 16) (hq : ∀ i, i < m → q i < 16) (w : World) :
    Calls Try.prog 95 #[.agg (gv q m), .agg (av p)] w fun e w' => e = .returned (.agg (av (thenF p (backF q m) m))) ∧ Below w.heap.size w w' := by
  have H1 := (((Holds.start w).blk (gv q m) 109 w.heap.size rfl).blk (av p) 42 (w.heap.size + 1) (by simp)).blk (av fun _ => 0) 42 (w.heap.size + 1 + 1) (by simp)
  rw [av_zero] at H1
  have C1 := hide (fun w => undo_any q m hm hq w)
  have C2 := hide (fun w => follow_any p (backF q m) m hm hp w)
  have hR : thenF p (backF q m) m = thenF p (backF q m) m := rfl
  generalize hT : thenF p (backF q m) m = T at *
  generalize backF q m = B at *
  clear hp hq hR hT
  go_enter Try.func95, Try.ntmps95
  go_wp2
  refine region_tail (fun wx => Holds w wx _) 9 (by kernel_rfl) (by kernel_rfl) H1.drew ?_
  simp only [List.take_succ_cons, List.take_zero, List.drop_succ_cons, List.drop_zero]
  iterate 9
    apply q_step
    · go_simp
    · intro wx hx
      have d1 := hx.cells 1 rfl
      have l1 := run_loadGp (hx.cells 2 rfl)
      have n1 := hx.cell 2 rfl (gv_level q m)
      first
        | (go_simp; exact rfl)
        | (go_simp; go_at_call 97; exact Calls.mono (C2.out wx) fun e w' h => ⟨h.1, hx.call h.2⟩)
        | (go_simp; go_at_call 109; exact Calls.mono (C1.out wx) fun e w' h => ⟨h.1, hx.call h.2⟩)
  refine wpQuiet_nil ?_
  intro w1 H2
  have H3 := H2.setRow 0 rfl (av T)
  have rr2 := H2.rowOk (n := 16) 0 rfl rfl
  go_wp2
  exact res_agg (p := 4) (g := w.heap.size + 1 + 1) aggP (av_size _) rfl rfl rfl (H3.at 0 rfl) ⟨rfl, H3.low⟩
end Go.Proofs.Ytlmhnimpglookaa

namespace Go.Proofs.Ytlmhnimpglookaa.Rd
open Go.RowKit

section
variable (P : Program) (md : Region.Mode) (ops : Array Oper) (C : World → Prop) (E : Nat → Bool) (K : Act → World → Prop)

/-- k operations more, all below n, whichever comes up; then L -/
def anyT (n : Nat) (L : Array Bool → Act → (World → Prop) → Prop) : Nat → Array Bool → Act → (World → Prop) → Prop
  | 0, done, a, D => L done a D
  | k + 1, done, a, D => Region.ready md ops done ≠ [] ∧ ∀ i ∈ Region.ready md ops done, i < n ∧ opV P ops C E i (anyT n L k (done.setIfInBounds i true)) a D

theorem anyT_any (hC : ∀ w w', C w → Below w.heap.size w w' → C w') {n g : Nat} {L : Array Bool → Act → (World → Prop) → Prop} {Q : Exit → Act → World → Prop} (hL : ∀ done a D w, C w → D w → L done a D → wpAny P md ops Q g done a w) (k : Nat) :
    ∀ (done : Array Bool) (a : Act) (D : World → Prop) (w : World), Stable D → C w → D w → anyT P md ops C E n L k done a D → wpAny P md ops Q (k + g) done a w := by
  induction k with
  | zero => intro done a D w _ hw hDw h; rw [Nat.zero_add]; exact hL _ _ _ _ hw hDw h
  | succ k ih =>
    intro done a D w hD hw hDw h
    rw [show k + 1 + g = (k + g) + 1 by omega]
    exact ⟨fun e => absurd e h.1, fun i hi => op_sound P ops C E hC hD hw hDw (fun a' D' w' h1 h2 h3 h4 => ih _ a' D' w' h1 h2 h3 h4) (h.2 i hi).2⟩

theorem anyT_first {n i : Nat} {o : Oper} {v : Value} {L : Array Bool → Act → (World → Prop) → Prop} (hi : ops[i]? = some o) (hE : E i = false) (hsel : ∀ (j : Nat) (o : Oper) cs b, ops[j]? = some o → o.op ≠ .select cs b)
    (hs : Region.sinkB md ops n = true) (hc : Region.chainB md ops n = true) (hn : n < ops.size) (hin : i < n) (hdone : ∀ done a D, L done a D → ∀ j ∈ Region.ready md ops done, n ≤ j) (k : Nat) :
    ∀ (done : Array Bool) (a : Act) (D : World → Prop), HeadInv md ops n done →
      (∀ j oj, ops[j]? = some oj → j ≠ i → done.getD j true = false → (∀ e ∈ oj.after, Region.binds md e = true → e.on ≠ i) → o.apart ops oj = true) →
      i ∈ Region.ready md ops done → YieldsG P ops C o v a →
      anyT P md ops C E n L k (done.setIfInBounds i true) (a.put o.dst v) D → anyT P md ops C E n L (k + 1) done a D := by
  have low : ∀ (done : Array Bool), HeadInv md ops n done → i ∈ Region.ready md ops done → ∀ j ∈ Region.ready md ops done, j < n := by
    intro done inv hr j hj
    rcases Nat.lt_or_ge j n with h | h
    · exact h
    · exact absurd hj (tail_waits hs hc hn inv _ i rfl hin (mem_ready.1 hr).1 j h)
  have some_ready : ∀ (done : Array Bool), i ∈ Region.ready md ops done → Region.ready md ops done ≠ [] := fun done hr e => by rw [e] at hr; cases hr
  induction k with
  | zero =>
    intro done a D inv _ hr hy H
    refine ⟨some_ready done hr, fun j hj => ⟨low done inv hr j hj, ?_⟩⟩
    by_cases e : j = i
    · subst e; exact hy.op P ops C E hi hE H
    · have := hdone _ _ _ H j (ready_mono hj e)
      have := low done inv hr j hj
      omega
  | succ k ih =>
    intro done a D inv hfree hr hy H
    refine ⟨some_ready done hr, fun j hj => ⟨low done inv hr j hj, ?_⟩⟩
    by_cases e : j = i
    · subst e; exact hy.op P ops C E hi hE H
    · obtain ⟨hjun, oj, hoj, hall⟩ := mem_ready.1 hj
      have hun := (mem_ready.1 hr).1
      have hno : ∀ e ∈ oj.after, Region.binds md e = true → e.on ≠ i := fun e he hb h => by
        have := hall e he hb
        rw [h, getD_both hun] at this
        cases this
      refine opV_mono P ops C E (fun a' D' h3 => ih (done.setIfInBounds j true) a' D' (inv.set hj (low done inv hr j hj)) (fun k' ok hk hki hk' hnk => hfree k' ok hk hki ?_ hnk) (ready_mono hr (Ne.symm e)) h3.1 ?_)
        (opV_put P ops C E hoj (hfree j oj hoj e hjun hno) (fun cs b => hsel i o cs b hi) (fun cs b => hsel j oj cs b hoj) hy (H.2 j (ready_mono hj e)).2)
      · by_cases e' : j = k'
        · subst e'; exact hjun
        · rw [getD_set_ne true e'] at hk'; exact hk'
      · rw [Array.setIfInBounds_comm _ _ e]; exact h3.2

/-- a plan of the head, and that the tail is forced -/
def planT (sp : List Nat) (n g : Nat) : Plan → Nat → Array Bool → Bool
  | .fin, k, done => decide (k = 0) && Region.seqB md ops g n done
  | .q i p, k, done => !sp.contains i && ((Region.ready md ops done).contains i && Region.free md ops done i && (decide (i < ops.size) && (decide (i < n) && (decide (0 < k) && planT sp n g p (k - 1) (done.setIfInBounds i true)))))
  | .s1 i p, k, done => decide (Region.ready md ops done = [i]) && (decide (i < n) && (decide (0 < k) && planT sp n g p (k - 1) (done.setIfInBounds i true)))
  | .s2 _ _ _ _, _, _ => false
  | .s3 _ _ _ _ _ _, _, _ => false

theorem anyT_walk (hsel : Region.noSelect ops = true) (sp : List Nat) (hsp : ∀ k, sp.contains k = false → E k = false) {n g : Nat} (hs : Region.sinkB md ops n = true) (hc : Region.chainB md ops n = true) (hn : n < ops.size) (p : Plan) :
    ∀ (k : Nat) (done : Array Bool) (a : Act) (D : World → Prop), HeadInv md ops n done → planT md ops sp n g p k done = true → walkV P ops C E K p a D →
      anyT P md ops C E n (fun done' a' D' => Region.seqB md ops g n done' = true ∧ ∀ w, C w → D' w → K a' w) k done a D := by
  induction p with
  | fin =>
    intro k done a D _ hB h
    simp only [planT, Bool.and_eq_true, decide_eq_true_eq] at hB
    obtain ⟨rfl, hB⟩ := hB
    exact ⟨hB, h⟩
  | q i p ih =>
    intro k done a D inv hB h
    simp only [planT, Bool.and_eq_true, decide_eq_true_eq, Bool.not_eq_true'] at hB
    obtain ⟨hcn, ⟨hr, hfree⟩, hk, hin, h0, hB'⟩ := hB
    obtain ⟨j, rfl⟩ : ∃ j, k = j + 1 := ⟨k - 1, by omega⟩
    have hE := hsp i hcn
    have hr' : i ∈ Region.ready md ops done := by simpa using hr
    have hi : ops[i]? = some ops[i] := Array.getElem?_eq_getElem hk
    obtain ⟨v, hy, hK⟩ := yieldsG_of P ops C E hi hE h
    exact anyT_first P md ops C E hi hE (Region.noSelect_spec hsel) hs hc hn hin (fun done' a' D' hL => seqB_ready hL.1) j done a D inv (Region.free_spec hi hfree) hr' hy (ih _ _ _ _ (inv.set hr' hin) hB' hK)
  | s1 i p ih =>
    intro k done a D inv hB h
    simp only [planT, Bool.and_eq_true, decide_eq_true_eq] at hB
    obtain ⟨hr, hin, h0, hB'⟩ := hB
    obtain ⟨j, rfl⟩ : ∃ j, k = j + 1 := ⟨k - 1, by omega⟩
    refine ⟨fun e => (by rw [hr] at e; cases e), fun i' hi => ?_⟩
    have hi0 := hi
    rw [hr] at hi
    obtain rfl : i' = i := by simpa using hi
    exact ⟨hin, opV_mono P ops C E (fun a' D' h' => ih _ _ _ _ (inv.set hi0 hin) hB' h') h⟩
  | s2 => intro k done a D _ hB; simp [planT] at hB
  | s3 => intro k done a D _ hB; simp [planT] at hB
end
def tailB (l : List Oper) (sp : List Nat) (n : Nat) (p : Plan) : Bool :=
  Region.noSelect l.toArray && (decide (n < l.length) && (Region.sinkB .any l.toArray n && (Region.chainB .any l.toArray n && planT .any l.toArray sp n (l.toArray.size - n) p n (Array.replicate l.toArray.size false))))
/-- a region by parts of memory, with a forced tail -/
theorem region_PT {P : Program} {id : Nat} {Q : Exit → Act → World → Prop} {a : Act} {w w0 : World} {l : List Oper} (L : List Part) (L1 : List Part) (sp : List Nat) (n : Nat) (p : Plan) (H : Holds w0 w L1) (hL : L.Sublist L1)
    (hm : P.follows .mixedOrders = true) (hB : tailB l sp n p = true)
    (h : walkV P l.toArray (fun wx => Holds w0 wx L) (fun k => sp.contains k) (fun a' w' => wpList P l.toArray Q (l.drop n) a' w') p a (fun wx => Holds w0 wx L1)) : (Code.region id l.toArray true).wp P Q a w := by
  simp only [tailB, Bool.and_eq_true, decide_eq_true_eq] at hB
  obtain ⟨hsel, hn, hs, hc, hplan⟩ := hB
  have hd : (l.drop n).length = l.toArray.size - n := by simp
  have hn' : n < l.toArray.size := by simpa using hn
  have X := anyT_walk P .any l.toArray (fun wx => Holds w0 wx L) (fun k => sp.contains k) (fun a' w' => wpList P l.toArray Q (l.drop n) a' w') hsel sp (fun _ h => h) hs hc hn' p n (Array.replicate l.toArray.size false) a (fun wx => Holds w0 wx L1)
    ⟨by simp, fun j oj _ e => (by rw [getD_replicate_false] at e; cases e), fun t _ e => getD_in (by simpa using e) (getD_replicate_false _ _)⟩ hplan h
  refine wp_region_any hm ?_
  have := anyT_any P .any l.toArray (fun wx => Holds w0 wx L) (fun k => sp.contains k) (fun _ _ h hb => h.call hb) (Q := Q) (g := l.toArray.size - n) (fun done a' D' w' hw' hDw' hL' => by
    have := wpAny_of_seq (md := .any) (Q' := Q) (l.drop n) n done a' w' (fun j => by simp [List.getElem?_drop]) (by rw [hd]; exact hL'.1) (hL'.2 w' hw' hDw')
    rwa [hd] at this) n (Array.replicate l.toArray.size false) a (fun wx => Holds w0 wx L1) w.drew (fun _ _ h hb => h.call hb) (H.drew.sub hL) H.drew X
  rw [show n + (l.toArray.size - n) = l.toArray.size by omega] at this
  exact this
end Go.Proofs.Ytlmhnimpglookaa.Rd

namespace Go.Proofs.Ytlmhnimpglookaa.Rd
open Go.RowKit
section
variable {P : Program} {ops : Array Oper} {E : Nat → Bool} {k : Nat} {a : Act} {N : Act → (World → Prop) → Prop} {w0 : World} {L L1 : List Part}
theorem v_put {o : Oper} (i g : Nat) (cs cs' : Array Value) (t : TypeId) (hi : L1[i]? = some (pBlk g cs t)) (hsub : L.Sublist (L1.set i (pBlk g cs' t))) (ho : ops[k]? = some o) (hE : E k = true) (hw : Region.wanted o (yielded ops a.tmps) = true)
    (h1 : ∀ w, Holds w0 w L → Holds w0 w L1 → (execOp a.eval o).run P w = .ok .skip (w.setRow g cs'))
    (h2 : N (a.put o.dst undef) (fun wx => Holds w0 wx (L1.set i (pBlk g cs' t)))) : opV P ops (fun wx => Holds w0 wx L) E k N a (fun wx => Holds w0 wx L1) := by
  refine v_s (fun u w => u = undef ∧ Holds w0 w (L1.set i (pBlk g cs' t))) (fun _ _ _ h hb => ⟨h.1, h.2.call hb⟩) ho hE hw (fun w hx hD => ?_) fun v hv => ?_
  · rw [h1 w hx hD]
    exact ⟨(hD.setRow i hi cs').sub hsub, rfl, hD.setRow i hi cs'⟩
  · obtain ⟨w, _, rfl, hr⟩ := hv
    refine cast (congrArg (N _) ?_) h2
    funext wx
    exact propext ⟨fun h => ⟨rfl, h⟩, fun h => h.2⟩
end
theorem region_R1 {P : Program} {id : Nat} {Q : Exit → Act → World → Prop} {a : Act} {w w0 : World} {l : List Oper} (L : List Part) (L1 : List Part) (sp : List Nat) (p : Plan) (H : Holds w0 w L1) (hL : L.Sublist L1)
    (hm : P.follows .mixedOrders = true) (hsel : Region.noSelect l.toArray = true) (hB : planB .any l.toArray sp l.toArray.size p (Array.replicate l.toArray.size false) = true)
    {α : Type} (F : α → List Part) (act : α → Act)
    (h : ∀ K : Act → World → Prop, (∀ g wx, Holds w0 wx (F g) → K (act g) wx) → walkV P l.toArray (fun wx => Holds w0 wx L) (fun k => sp.contains k) K p a (fun wx => Holds w0 wx L1))
    (key : ∀ g wx, Holds w0 wx (F g) → Q .normal (act g) wx) : (Code.region id l.toArray true).wp P Q a w :=
  region_P L L1 sp p H hL hm hsel hB (h (fun a' w' => Q .normal a' w') key)
theorem region_R2 {P : Program} {id : Nat} {Q : Exit → Act → World → Prop} {a : Act} {w w0 : World} {l : List Oper} (L : List Part) (L1 : List Part) (sp : List Nat) (p : Plan) (H : Holds w0 w L1) (hL : L.Sublist L1)
    (hm : P.follows .mixedOrders = true) (hsel : Region.noSelect l.toArray = true) (hB : planB .any l.toArray sp l.toArray.size p (Array.replicate l.toArray.size false) = true)
    {α β : Type} (F : α → β → List Part) (act : α → β → Act)
    (h : ∀ K : Act → World → Prop, (∀ g g' wx, Holds w0 wx (F g g') → K (act g g') wx) → walkV P l.toArray (fun wx => Holds w0 wx L) (fun k => sp.contains k) K p a (fun wx => Holds w0 wx L1))
    (key : ∀ g g' wx, Holds w0 wx (F g g') → Q .normal (act g g') wx) : (Code.region id l.toArray true).wp P Q a w :=
  region_P L L1 sp p H hL hm hsel hB (h (fun a' w' => Q .normal a' w') key)
theorem region_R3 {P : Program} {id : Nat} {Q : Exit → Act → World → Prop} {a : Act} {w w0 : World} {l : List Oper} (L : List Part) (L1 : List Part) (sp : List Nat) (p : Plan) (H : Holds w0 w L1) (hL : L.Sublist L1)
    (hm : P.follows .mixedOrders = true) (hsel : Region.noSelect l.toArray = true) (hB : planB .any l.toArray sp l.toArray.size p (Array.replicate l.toArray.size false) = true)
    {α β γ : Type} (F : α → β → γ → List Part) (act : α → β → γ → Act)
    (h : ∀ K : Act → World → Prop, (∀ g g' g'' wx, Holds w0 wx (F g g' g'') → K (act g g' g'') wx) → walkV P l.toArray (fun wx => Holds w0 wx L) (fun k => sp.contains k) K p a (fun wx => Holds w0 wx L1))
    (key : ∀ g g' g'' wx, Holds w0 wx (F g g' g'') → Q .normal (act g g' g'') wx) : (Code.region id l.toArray true).wp P Q a w :=
  region_P L L1 sp p H hL hm hsel hB (h (fun a' w' => Q .normal a' w') key)
end Go.Proofs.Ytlmhnimpglookaa.Rd

namespace Go.Proofs.Ytlmhnimpglookaa
open Go.RowKit

def ltr (m : Nat) (f g : Nat → Nat) (c : Nat) : Option (Nat → Nat) :=
  if c = 98 then some f else if c = 66 then some (backF f m) else if c = 119 then some g else if c = 87 then some (backF g m) else if c = 102 then some (faceF f g m) else if c = 70 then some (backF (faceF f g m) m) else none
def valW (m : Nat) (f g : Nat → Nat) : List Nat → (Nat → Nat) → Option (Nat → Nat)
  | [], v => some v
  | c :: cs, v => match ltr m f g c with
    | some s => valW m f g cs (thenF v s m)
    | none => none
/-- the letters of a word from a place on -/
def letsF (s : ByteArray) : Nat → Nat → List Nat
  | 0, _ => []
  | k + 1, i => if h : i < s.size then (s[i]'h).toNat :: letsF s k (i + 1) else []
def lets (s : ByteArray) (i : Nat) : List Nat := letsF s (s.size - i) i
theorem lets_at (s : ByteArray) {i : Nat} (h : i < s.size) : lets s i = (s[i]'h).toNat :: lets s (i + 1) := by
  unfold lets
  obtain ⟨k, hk⟩ : ∃ k, s.size - i = k + 1 := ⟨s.size - i - 1, by omega⟩
  rw [hk, letsF, dif_pos h, show s.size - (i + 1) = k by omega]
theorem lets_end (s : ByteArray) {i : Nat} (h : s.size ≤ i) : lets s i = [] := by
  unfold lets
  rw [show s.size - i = 0 by omega]
  rfl
/-- what a word says, from a place on -/
noncomputable def wordR (m : Nat) (f g : Nat → Nat) (s : ByteArray) : Option (Nat → Nat) := if s.size ≤ 60 then valW m f g (lets s 0) (sameF m) else none
theorem ltr_perm {m : Nat} {f g : Nat → Nat} (hf : PermN f m) (hg : PermN g m) {c : Nat} {p : Nat → Nat} (h : ltr m f g c = some p) : PermN p m := by
  unfold ltr at h
  have hF := faceF_perm hf hg
  split at h
  · cases h; exact hf
  split at h
  · cases h; exact backF_perm hf
  split at h
  · cases h; exact hg
  split at h
  · cases h; exact backF_perm hg
  split at h
  · cases h; exact hF
  split at h
  · cases h; exact backF_perm hF
  · cases h
end Go.Proofs.Ytlmhnimpglookaa

namespace Go.Proofs.Ytlmhnimpglookaa
open Go.RowKit
open Go.Maps (Keyed)

theorem keyedI32 : Keyed Try.prog 21 := Go.Maps.int_keyed Try.underlying21
theorem isK_i32 (c : Int) (h0 : 0 ≤ c) (h1 : c < 2147483648) : IsK Try.prog 21 (.int .i32 c) := by
  have w1 : (Lit.int .i32 c).wf = true := by unfold Lit.wf; simp [IntKind.min, IntKind.max, IntKind.signed, IntKind.bits]; omega
  unfold IsK keyOf
  rw [Try.underlying21]
  unfold mapKey
  rw [Try.underlying21]
  simp [w1]
def aftV (f : Nat → Nat) (m : Nat) : Value := .func (.func 94) #[.agg (gv f m)] #[]
def bakV (f : Nat → Nat) (m : Nat) : Value := .func (.func 95) #[.agg (gv f m)] #[]
noncomputable def letM (m : Nat) (f g F : Nat → Nat) : Value → Option Value :=
  mput (mput (mput (mput (mput (mput (fun _ => none) (.int .i32 98) (aftV f m)) (.int .i32 66) (bakV f m)) (.int .i32 119) (aftV g m)) (.int .i32 87) (bakV g m)) (.int .i32 102) (aftV F m)) (.int .i32 70) (bakV F m)
theorem letM_at (m : Nat) (f g F : Nat → Nat) (c : Int) : letM m f g F (.int .i32 c) = if c = 98 then some (aftV f m) else if c = 66 then some (bakV f m) else if c = 119 then some (aftV g m) else if c = 87 then some (bakV g m) else if c = 102 then some (aftV F m) else if c = 70 then some (bakV F m) else none := by
  have e : ∀ k : Int, ((Value.int .i32 c) = (Value.int .i32 k)) ↔ c = k := fun k => ⟨fun h => by injection h, fun h => by rw [h]⟩
  unfold letM mput
  simp only [e]
  by_cases h1 : c = 98
  · subst h1; rfl
  by_cases h2 : c = 66
  · subst h2; rfl
  by_cases h3 : c = 119
  · subst h3; rfl
  by_cases h4 : c = 87
  · subst h4; rfl
  by_cases h5 : c = 102
  · subst h5; rfl
  by_cases h6 : c = 70
  · subst h6; rfl
  simp only [h1, h2, h3, h4, h5, h6, if_false]

set_option maxRecDepth 100000 in
set_option maxHeartbeats 4000000 in
theorem lettersOf_any (f g : Nat → Nat) (m : Nat) (hm : m ≤ 16) (hf : ∀ i, i < m → f i < m) (hg : ∀ i, i < m → g i < m) (w : World) :
    Calls Try.prog 75 #[.agg (dv m f g)] w fun e w' => ∃ G, e = .returned (.map (some G)) ∧ Below w.heap.size w w' ∧ w.heap.size ≤ G ∧ (pMap Try.prog 21 G (letM m f g (faceF f g m))).ok w' := by
  have CF := hide fun w => face_any f g m hm hf hg w
  have H0 := (Holds.start w).blk (dv m f g) 44 w.heap.size rfl
  have hn' := dv_n m f g
  generalize faceF f g m = F at *
  clear hf hg
  go_enter Try.func75, Try.ntmps75
  go_wp2
  apply Rd.region_R3 (w0 := w) [pBlk w.heap.size (dv m f g) 44] [pBlk w.heap.size (dv m f g) 44] [15, 16, 17, 18, 19, 20] (.q 0 <| .q 1 <| .q 2 <| .q 3 <| .q 4 <| .q 5 <| .q 6 <| .q 7 <| .q 8 <| .q 9 <| .q 10 <| .q 11 <| .q 12 <| .q 13 <| .q 14 <| .s3 15 (.s2 16 (.s1 17 <| .s1 18 <| .s1 19 <| .s1 20 .fin) 17 (.s1 16 <| .s1 18 <| .s1 19 <| .s1 20 .fin)) 16 (.s2 15 (.s1 17 <| .s1 18 <| .s1 19 <| .s1 20 .fin) 17 (.s1 15 <| .s1 18 <| .s1 19 <| .s1 20 .fin)) 17 (.s2 15 (.s1 16 <| .s1 18 <| .s1 19 <| .s1 20 .fin) 16 (.s1 15 <| .s1 18 <| .s1 19 <| .s1 20 .fin))) H0 (.refl _) (by kernel_rfl) (by kernel_rfl) (by kernel_rfl) (F := fun (g3 g4 g5 : Nat) => pBlk g5 (gv F m) 109 :: pBlk g4 (gv g m) 109 :: pBlk g3 (gv f m) 109 :: [pBlk w.heap.size (dv m f g) 44])
  case h =>
    intro K key
    apply Rd.v_q
    · simp only [List.getElem?_toArray, List.getElem?_cons_zero, List.getElem?_cons_succ]; exact rfl
    · rfl
    · go_simp
    · intro wx hx
      have q0 := hx.cells 0 rfl
      have q1 := hx.cell 0 rfl hn'
      unfold atG
      go_simp
      simp only [uponG]
      exact ⟨by trivial, rfl⟩
    apply Rd.v_q
    · simp only [List.getElem?_toArray, List.getElem?_cons_zero, List.getElem?_cons_succ]; exact rfl
    · rfl
    · go_simp
    · intro wx hx
      have q0 := hx.cells 0 rfl
      have q1 := hx.cell 0 rfl hn'
      unfold atG
      go_simp
      simp only [uponG]
      exact ⟨by trivial, rfl⟩
    apply Rd.v_q
    · simp only [List.getElem?_toArray, List.getElem?_cons_zero, List.getElem?_cons_succ]; exact rfl
    · rfl
    · go_simp
    · intro wx hx
      have q0 := hx.cells 0 rfl
      have q1 := hx.cell 0 rfl hn'
      unfold atG
      go_simp
      simp only [uponG]
      exact ⟨by trivial, rfl⟩
    apply Rd.v_q
    · simp only [List.getElem?_toArray, List.getElem?_cons_zero, List.getElem?_cons_succ]; exact rfl
    · rfl
    · go_simp
    · intro wx hx
      have q0 := hx.cells 0 rfl
      have q1 := hx.cell 0 rfl hn'
      unfold atG
      go_simp
      simp only [uponG]
      exact ⟨by trivial, rfl⟩
    apply Rd.v_q
    · simp only [List.getElem?_toArray, List.getElem?_cons_zero, List.getElem?_cons_succ]; exact rfl
    · rfl
    · go_simp
    · intro wx hx
      have q0 := hx.cells 0 rfl
      have q1 := hx.cell 0 rfl hn'
      unfold atG
      go_simp
      simp only [uponG]
      exact ⟨by trivial, rfl⟩
    apply Rd.v_q
    · simp only [List.getElem?_toArray, List.getElem?_cons_zero, List.getElem?_cons_succ]; exact rfl
    · rfl
    · go_simp
    · intro wx hx
      have q0 := hx.cells 0 rfl
      have q1 := hx.cell 0 rfl hn'
      unfold atG
      go_simp
      simp only [uponG]
      exact ⟨by trivial, rfl⟩
    apply Rd.v_q
    · simp only [List.getElem?_toArray, List.getElem?_cons_zero, List.getElem?_cons_succ]; exact rfl
    · rfl
    · go_simp
    · intro wx hx
      have q0 := hx.cells 0 rfl
      have q1 := hx.cell 0 rfl hn'
      unfold atG
      go_simp
      simp only [uponG]
      exact ⟨by trivial, rfl⟩
    apply Rd.v_q
    · simp only [List.getElem?_toArray, List.getElem?_cons_zero, List.getElem?_cons_succ]; exact rfl
    · rfl
    · go_simp
    · intro wx hx
      have q0 := hx.cells 0 rfl
      have q1 := hx.cell 0 rfl hn'
      unfold atG
      go_simp
      simp only [uponG]
      exact ⟨by trivial, rfl⟩
    apply Rd.v_q
    · simp only [List.getElem?_toArray, List.getElem?_cons_zero, List.getElem?_cons_succ]; exact rfl
    · rfl
    · go_simp
    · intro wx hx
      have q0 := hx.cells 0 rfl
      have q1 := hx.cell 0 rfl hn'
      unfold atG
      go_simp
      simp only [uponG]
      exact ⟨by trivial, rfl⟩
    apply Rd.v_q
    · simp only [List.getElem?_toArray, List.getElem?_cons_zero, List.getElem?_cons_succ]; exact rfl
    · rfl
    · go_simp
    · intro wx hx
      have q0 := hx.cells 0 rfl
      have q1 := hx.cell 0 rfl hn'
      unfold atG
      go_simp
      simp only [uponG]
      exact ⟨by trivial, rfl⟩
    apply Rd.v_q
    · simp only [List.getElem?_toArray, List.getElem?_cons_zero, List.getElem?_cons_succ]; exact rfl
    · rfl
    · go_simp
    · intro wx hx
      have q0 := hx.cells 0 rfl
      have q1 := hx.cell 0 rfl hn'
      unfold atG
      go_simp
      simp only [uponG]
      exact ⟨by trivial, rfl⟩
    apply Rd.v_q
    · simp only [List.getElem?_toArray, List.getElem?_cons_zero, List.getElem?_cons_succ]; exact rfl
    · rfl
    · go_simp
    · intro wx hx
      have q0 := hx.cells 0 rfl
      have q1 := hx.cell 0 rfl hn'
      unfold atG
      go_simp
      simp only [uponG]
      exact ⟨by trivial, CF.out wx⟩
    apply Rd.v_q
    · simp only [List.getElem?_toArray, List.getElem?_cons_zero, List.getElem?_cons_succ]; exact rfl
    · rfl
    · go_simp
    · intro wx hx
      have q0 := hx.cells 0 rfl
      have q1 := hx.cell 0 rfl hn'
      unfold atG
      go_simp
      simp only [uponG]
      exact ⟨by trivial, rfl⟩
    apply Rd.v_q
    · simp only [List.getElem?_toArray, List.getElem?_cons_zero, List.getElem?_cons_succ]; exact rfl
    · rfl
    · go_simp
    · intro wx hx
      have q0 := hx.cells 0 rfl
      have q1 := hx.cell 0 rfl hn'
      unfold atG
      go_simp
      simp only [uponG]
      exact ⟨by trivial, rfl⟩
    apply Rd.v_q
    · simp only [List.getElem?_toArray, List.getElem?_cons_zero, List.getElem?_cons_succ]; exact rfl
    · rfl
    · go_simp
    · intro wx hx
      have q0 := hx.cells 0 rfl
      have q1 := hx.cell 0 rfl hn'
      unfold atG
      go_simp
      simp only [uponG]
      exact ⟨by trivial, rfl⟩
    refine ⟨?_, ?_, ?_⟩
    · refine Rd.v_box (gv (fun _ => 0) 0) 109 (by simp only [List.getElem?_toArray, List.getElem?_cons_zero, List.getElem?_cons_succ]; exact rfl) rfl (by go_simp) (fun wx hx hD => by rw [gv_zero]; go_simp) fun g3 => ?_
      refine ⟨?_, ?_⟩
      · refine Rd.v_box (gv (fun _ => 0) 0) 109 (by simp only [List.getElem?_toArray, List.getElem?_cons_zero, List.getElem?_cons_succ]; exact rfl) rfl (by go_simp) (fun wx hx hD => by rw [gv_zero]; go_simp) fun g4 => ?_
        refine Rd.v_box (gv (fun _ => 0) 0) 109 (by simp only [List.getElem?_toArray, List.getElem?_cons_zero, List.getElem?_cons_succ]; exact rfl) rfl (by go_simp) (fun wx hx hD => by rw [gv_zero]; go_simp) fun g5 => ?_
        refine Rd.v_put 2 g3 (gv (fun _ => 0) 0) (gv f m) 109 rfl (.cons _ (.cons _ (.cons _ (.refl _)))) (by simp only [List.getElem?_toArray, List.getElem?_cons_zero, List.getElem?_cons_succ]; exact rfl) rfl (by go_simp) (fun wx hx hD => ?_) ?_
        · have rr := hD.rowOk 2 rfl (gv_size _ _)
          go_simp
        refine Rd.v_put 1 g4 (gv (fun _ => 0) 0) (gv g m) 109 rfl (.cons _ (.cons _ (.cons _ (.refl _)))) (by simp only [List.getElem?_toArray, List.getElem?_cons_zero, List.getElem?_cons_succ]; exact rfl) rfl (by go_simp) (fun wx hx hD => ?_) ?_
        · have rr := hD.rowOk 1 rfl (gv_size _ _)
          go_simp
        refine Rd.v_put 0 g5 (gv (fun _ => 0) 0) (gv F m) 109 rfl (.cons _ (.cons _ (.cons _ (.refl _)))) (by simp only [List.getElem?_toArray, List.getElem?_cons_zero, List.getElem?_cons_succ]; exact rfl) rfl (by go_simp) (fun wx hx hD => ?_) ?_
        · have rr := hD.rowOk 0 rfl (gv_size _ _)
          go_simp
        rintro w4 - hx4
        go_simp
        exact key g3 g4 g5 _ (hx4.perm (.refl _))
      · refine Rd.v_box (gv (fun _ => 0) 0) 109 (by simp only [List.getElem?_toArray, List.getElem?_cons_zero, List.getElem?_cons_succ]; exact rfl) rfl (by go_simp) (fun wx hx hD => by rw [gv_zero]; go_simp) fun g5 => ?_
        refine Rd.v_box (gv (fun _ => 0) 0) 109 (by simp only [List.getElem?_toArray, List.getElem?_cons_zero, List.getElem?_cons_succ]; exact rfl) rfl (by go_simp) (fun wx hx hD => by rw [gv_zero]; go_simp) fun g4 => ?_
        refine Rd.v_put 2 g3 (gv (fun _ => 0) 0) (gv f m) 109 rfl (.cons _ (.cons _ (.cons _ (.refl _)))) (by simp only [List.getElem?_toArray, List.getElem?_cons_zero, List.getElem?_cons_succ]; exact rfl) rfl (by go_simp) (fun wx hx hD => ?_) ?_
        · have rr := hD.rowOk 2 rfl (gv_size _ _)
          go_simp
        refine Rd.v_put 0 g4 (gv (fun _ => 0) 0) (gv g m) 109 rfl (.cons _ (.cons _ (.cons _ (.refl _)))) (by simp only [List.getElem?_toArray, List.getElem?_cons_zero, List.getElem?_cons_succ]; exact rfl) rfl (by go_simp) (fun wx hx hD => ?_) ?_
        · have rr := hD.rowOk 0 rfl (gv_size _ _)
          go_simp
        refine Rd.v_put 1 g5 (gv (fun _ => 0) 0) (gv F m) 109 rfl (.cons _ (.cons _ (.cons _ (.refl _)))) (by simp only [List.getElem?_toArray, List.getElem?_cons_zero, List.getElem?_cons_succ]; exact rfl) rfl (by go_simp) (fun wx hx hD => ?_) ?_
        · have rr := hD.rowOk 1 rfl (gv_size _ _)
          go_simp
        rintro w4 - hx4
        go_simp
        exact key g3 g4 g5 _ (hx4.perm (List.Perm.swap _ _ _))
    · refine Rd.v_box (gv (fun _ => 0) 0) 109 (by simp only [List.getElem?_toArray, List.getElem?_cons_zero, List.getElem?_cons_succ]; exact rfl) rfl (by go_simp) (fun wx hx hD => by rw [gv_zero]; go_simp) fun g4 => ?_
      refine ⟨?_, ?_⟩
      · refine Rd.v_box (gv (fun _ => 0) 0) 109 (by simp only [List.getElem?_toArray, List.getElem?_cons_zero, List.getElem?_cons_succ]; exact rfl) rfl (by go_simp) (fun wx hx hD => by rw [gv_zero]; go_simp) fun g3 => ?_
        refine Rd.v_box (gv (fun _ => 0) 0) 109 (by simp only [List.getElem?_toArray, List.getElem?_cons_zero, List.getElem?_cons_succ]; exact rfl) rfl (by go_simp) (fun wx hx hD => by rw [gv_zero]; go_simp) fun g5 => ?_
        refine Rd.v_put 1 g3 (gv (fun _ => 0) 0) (gv f m) 109 rfl (.cons _ (.cons _ (.cons _ (.refl _)))) (by simp only [List.getElem?_toArray, List.getElem?_cons_zero, List.getElem?_cons_succ]; exact rfl) rfl (by go_simp) (fun wx hx hD => ?_) ?_
        · have rr := hD.rowOk 1 rfl (gv_size _ _)
          go_simp
        refine Rd.v_put 2 g4 (gv (fun _ => 0) 0) (gv g m) 109 rfl (.cons _ (.cons _ (.cons _ (.refl _)))) (by simp only [List.getElem?_toArray, List.getElem?_cons_zero, List.getElem?_cons_succ]; exact rfl) rfl (by go_simp) (fun wx hx hD => ?_) ?_
        · have rr := hD.rowOk 2 rfl (gv_size _ _)
          go_simp
        refine Rd.v_put 0 g5 (gv (fun _ => 0) 0) (gv F m) 109 rfl (.cons _ (.cons _ (.cons _ (.refl _)))) (by simp only [List.getElem?_toArray, List.getElem?_cons_zero, List.getElem?_cons_succ]; exact rfl) rfl (by go_simp) (fun wx hx hD => ?_) ?_
        · have rr := hD.rowOk 0 rfl (gv_size _ _)
          go_simp
        rintro w4 - hx4
        go_simp
        exact key g3 g4 g5 _ (hx4.perm ((List.Perm.swap _ _ _).cons _))
      · refine Rd.v_box (gv (fun _ => 0) 0) 109 (by simp only [List.getElem?_toArray, List.getElem?_cons_zero, List.getElem?_cons_succ]; exact rfl) rfl (by go_simp) (fun wx hx hD => by rw [gv_zero]; go_simp) fun g5 => ?_
        refine Rd.v_box (gv (fun _ => 0) 0) 109 (by simp only [List.getElem?_toArray, List.getElem?_cons_zero, List.getElem?_cons_succ]; exact rfl) rfl (by go_simp) (fun wx hx hD => by rw [gv_zero]; go_simp) fun g3 => ?_
        refine Rd.v_put 0 g3 (gv (fun _ => 0) 0) (gv f m) 109 rfl (.cons _ (.cons _ (.cons _ (.refl _)))) (by simp only [List.getElem?_toArray, List.getElem?_cons_zero, List.getElem?_cons_succ]; exact rfl) rfl (by go_simp) (fun wx hx hD => ?_) ?_
        · have rr := hD.rowOk 0 rfl (gv_size _ _)
          go_simp
        refine Rd.v_put 2 g4 (gv (fun _ => 0) 0) (gv g m) 109 rfl (.cons _ (.cons _ (.cons _ (.refl _)))) (by simp only [List.getElem?_toArray, List.getElem?_cons_zero, List.getElem?_cons_succ]; exact rfl) rfl (by go_simp) (fun wx hx hD => ?_) ?_
        · have rr := hD.rowOk 2 rfl (gv_size _ _)
          go_simp
        refine Rd.v_put 1 g5 (gv (fun _ => 0) 0) (gv F m) 109 rfl (.cons _ (.cons _ (.cons _ (.refl _)))) (by simp only [List.getElem?_toArray, List.getElem?_cons_zero, List.getElem?_cons_succ]; exact rfl) rfl (by go_simp) (fun wx hx hD => ?_) ?_
        · have rr := hD.rowOk 1 rfl (gv_size _ _)
          go_simp
        rintro w4 - hx4
        go_simp
        exact key g3 g4 g5 _ (hx4.perm ((List.Perm.swap _ _ _).trans ((List.Perm.swap _ _ _).cons _)))
    · refine Rd.v_box (gv (fun _ => 0) 0) 109 (by simp only [List.getElem?_toArray, List.getElem?_cons_zero, List.getElem?_cons_succ]; exact rfl) rfl (by go_simp) (fun wx hx hD => by rw [gv_zero]; go_simp) fun g5 => ?_
      refine ⟨?_, ?_⟩
      · refine Rd.v_box (gv (fun _ => 0) 0) 109 (by simp only [List.getElem?_toArray, List.getElem?_cons_zero, List.getElem?_cons_succ]; exact rfl) rfl (by go_simp) (fun wx hx hD => by rw [gv_zero]; go_simp) fun g3 => ?_
        refine Rd.v_box (gv (fun _ => 0) 0) 109 (by simp only [List.getElem?_toArray, List.getElem?_cons_zero, List.getElem?_cons_succ]; exact rfl) rfl (by go_simp) (fun wx hx hD => by rw [gv_zero]; go_simp) fun g4 => ?_
        refine Rd.v_put 1 g3 (gv (fun _ => 0) 0) (gv f m) 109 rfl (.cons _ (.cons _ (.cons _ (.refl _)))) (by simp only [List.getElem?_toArray, List.getElem?_cons_zero, List.getElem?_cons_succ]; exact rfl) rfl (by go_simp) (fun wx hx hD => ?_) ?_
        · have rr := hD.rowOk 1 rfl (gv_size _ _)
          go_simp
        refine Rd.v_put 0 g4 (gv (fun _ => 0) 0) (gv g m) 109 rfl (.cons _ (.cons _ (.cons _ (.refl _)))) (by simp only [List.getElem?_toArray, List.getElem?_cons_zero, List.getElem?_cons_succ]; exact rfl) rfl (by go_simp) (fun wx hx hD => ?_) ?_
        · have rr := hD.rowOk 0 rfl (gv_size _ _)
          go_simp
        refine Rd.v_put 2 g5 (gv (fun _ => 0) 0) (gv F m) 109 rfl (.cons _ (.cons _ (.cons _ (.refl _)))) (by simp only [List.getElem?_toArray, List.getElem?_cons_zero, List.getElem?_cons_succ]; exact rfl) rfl (by go_simp) (fun wx hx hD => ?_) ?_
        · have rr := hD.rowOk 2 rfl (gv_size _ _)
          go_simp
        rintro w4 - hx4
        go_simp
        exact key g3 g4 g5 _ (hx4.perm (((List.Perm.swap _ _ _).cons _).trans (List.Perm.swap _ _ _)))
      · refine Rd.v_box (gv (fun _ => 0) 0) 109 (by simp only [List.getElem?_toArray, List.getElem?_cons_zero, List.getElem?_cons_succ]; exact rfl) rfl (by go_simp) (fun wx hx hD => by rw [gv_zero]; go_simp) fun g4 => ?_
        refine Rd.v_box (gv (fun _ => 0) 0) 109 (by simp only [List.getElem?_toArray, List.getElem?_cons_zero, List.getElem?_cons_succ]; exact rfl) rfl (by go_simp) (fun wx hx hD => by rw [gv_zero]; go_simp) fun g3 => ?_
        refine Rd.v_put 0 g3 (gv (fun _ => 0) 0) (gv f m) 109 rfl (.cons _ (.cons _ (.cons _ (.refl _)))) (by simp only [List.getElem?_toArray, List.getElem?_cons_zero, List.getElem?_cons_succ]; exact rfl) rfl (by go_simp) (fun wx hx hD => ?_) ?_
        · have rr := hD.rowOk 0 rfl (gv_size _ _)
          go_simp
        refine Rd.v_put 1 g4 (gv (fun _ => 0) 0) (gv g m) 109 rfl (.cons _ (.cons _ (.cons _ (.refl _)))) (by simp only [List.getElem?_toArray, List.getElem?_cons_zero, List.getElem?_cons_succ]; exact rfl) rfl (by go_simp) (fun wx hx hD => ?_) ?_
        · have rr := hD.rowOk 1 rfl (gv_size _ _)
          go_simp
        refine Rd.v_put 2 g5 (gv (fun _ => 0) 0) (gv F m) 109 rfl (.cons _ (.cons _ (.cons _ (.refl _)))) (by simp only [List.getElem?_toArray, List.getElem?_cons_zero, List.getElem?_cons_succ]; exact rfl) rfl (by go_simp) (fun wx hx hD => ?_) ?_
        · have rr := hD.rowOk 2 rfl (gv_size _ _)
          go_simp
        rintro w4 - hx4
        go_simp
        exact key g3 g4 g5 _ (hx4.perm (((List.Perm.swap _ _ _).cons _).trans ((List.Perm.swap _ _ _).trans ((List.Perm.swap _ _ _).cons _))))
  intro g3 g4 g5 w4 H4
  clear H0
  have mk := fun w => run_mk (P := Try.prog) 77 w
  have H5 := H4.newMap Try.prog 21 w4.heap.size rfl
  have hG := H4.1.size
  have l3 := run_loadTn (H5.cells 3 rfl)
  have l4 := run_loadTn (H5.cells 2 rfl)
  have l5 := run_loadTn (H5.cells 1 rfl)
  clear H4
  go_wp2_with (refine minsH keyedI32 rfl _ _ _ rfl Try.underlying77 H5 0 rfl rfl rfl rfl ?_ ?_)
  · exact isK_i32 _ (by decide) (by decide)
  intro v0 K0 s0
  clear l3 l4 l5 H5 mk s0
  have l3 := run_loadTn (K0.cells 3 rfl)
  have l4 := run_loadTn (K0.cells 2 rfl)
  have l5 := run_loadTn (K0.cells 1 rfl)
  go_wp2_with (refine minsH keyedI32 rfl _ _ _ rfl Try.underlying77 K0 0 rfl rfl rfl rfl ?_ ?_)
  · exact isK_i32 _ (by decide) (by decide)
  intro v1 K1 s1
  clear l3 l4 l5 K0  s1
  have l3 := run_loadTn (K1.cells 3 rfl)
  have l4 := run_loadTn (K1.cells 2 rfl)
  have l5 := run_loadTn (K1.cells 1 rfl)
  go_wp2_with (refine minsH keyedI32 rfl _ _ _ rfl Try.underlying77 K1 0 rfl rfl rfl rfl ?_ ?_)
  · exact isK_i32 _ (by decide) (by decide)
  intro v2 K2 s2
  clear l3 l4 l5 K1  s2
  have l3 := run_loadTn (K2.cells 3 rfl)
  have l4 := run_loadTn (K2.cells 2 rfl)
  have l5 := run_loadTn (K2.cells 1 rfl)
  go_wp2_with (refine minsH keyedI32 rfl _ _ _ rfl Try.underlying77 K2 0 rfl rfl rfl rfl ?_ ?_)
  · exact isK_i32 _ (by decide) (by decide)
  intro v3 K3 s3
  clear l3 l4 l5 K2  s3
  have l3 := run_loadTn (K3.cells 3 rfl)
  have l4 := run_loadTn (K3.cells 2 rfl)
  have l5 := run_loadTn (K3.cells 1 rfl)
  go_wp2_with (refine minsH keyedI32 rfl _ _ _ rfl Try.underlying77 K3 0 rfl rfl rfl rfl ?_ ?_)
  · exact isK_i32 _ (by decide) (by decide)
  intro v4 K4 s4
  clear l3 l4 l5 K3  s4
  have l3 := run_loadTn (K4.cells 3 rfl)
  have l4 := run_loadTn (K4.cells 2 rfl)
  have l5 := run_loadTn (K4.cells 1 rfl)
  go_wp2_with (refine minsH keyedI32 rfl _ _ _ rfl Try.underlying77 K4 0 rfl rfl rfl rfl ?_ ?_)
  · exact isK_i32 _ (by decide) (by decide)
  intro v5 K5 s5
  clear l3 l4 l5 K4  s5
  go_wp2
  go_ret
  exact ⟨_, rfl, K5.low, hG, K5.at 0 rfl⟩
end Go.Proofs.Ytlmhnimpglookaa

namespace Go.Proofs.Ytlmhnimpglookaa
open Go.RowKit

def zc (l : List Int) : List Value := l.map fun x => Value.int .i64 x
theorem zc_length (l : List Int) : (zc l).length = l.length := by simp [zc]
theorem zc_get (l : List Int) (i : Nat) : (zc l)[i]? = l[i]?.map (Value.int .i64) := by simp [zc]
/-- a list of numbers in a row of the call's own -/
def OwnZ (B : Nat) (w : World) (v : Value) (l : List Int) : Prop := w.ownsRow B 2 1 v l.length (zc l)
/-- a slice whose cells read as the list -/
def RdZ (w : World) (v : Value) (l : List Int) : Prop :=
  ∃ (A : Option Addr) (c : Nat), v = .slice A l.length c ∧ l.length ≤ 9223372036854775807 ∧ ∀ (i : Nat) (x : Int), l[i]? = some x → ∃ a, A = some a ∧ a.block < w.heap.size ∧ w.cell? (a.add i) = some (.int .i64 x)
theorem RdZ.form {w : World} {v : Value} {l : List Int} (h : RdZ w v l) : ∃ A c, v = .slice A l.length c ∧ l.length ≤ 9223372036854775807 := by
  obtain ⟨A, c, h1, h2, _⟩ := h; exact ⟨A, c, h1, h2⟩
theorem RdZ.at {w : World} {A : Option Addr} {n c k : Nat} {l : List Int} (h : RdZ w (.slice A n c) l) (hk : k < l.length) :
    ∃ a, A = some a ∧ a.block < w.heap.size ∧ w.cell? (a.add k) = some (.int .i64 l[k]) := by
  obtain ⟨A', c', e, _, h3⟩ := h
  injection e with e1 _ _
  subst e1
  exact h3 k _ (List.getElem?_eq_getElem hk)
theorem RdZ.below {C : Nat} {w w' : World} {v : Value} {l : List Int} (h : RdZ w v l) (hb : Below C w w') (hC : w.heap.size ≤ C) : RdZ w' v l := by
  obtain ⟨A, c, h1, h2, h3⟩ := h
  refine ⟨A, c, h1, h2, fun i x hx => ?_⟩
  obtain ⟨a, e, h4, h5⟩ := h3 i x hx
  refine ⟨a, e, Nat.lt_of_lt_of_le h4 hb.size, ?_⟩
  rw [← h5]
  have hq : (a.add i).block = a.block := by unfold Addr.add; split <;> rfl
  exact hb.cell (p := a.add i) (by omega)
theorem OwnZ.rd {B : Nat} {w : World} {v : Value} {l : List Int} (h : OwnZ B w v l) (hl : l.length ≤ 9223372036854775807) : RdZ w v l := by
  rcases h.2 with ⟨e, h0⟩ | ⟨g, cap, cur, e, hB, hh, h1, h2, h3, h4⟩
  · exact ⟨none, 0, by rw [e, h0], hl, fun i x hx => by have := (List.getElem?_eq_some_iff.1 hx).1; omega⟩
  · refine ⟨_, _, e, hl, fun i x hx => ⟨_, rfl, (Array.getElem?_eq_some_iff.1 hh).1, ?_⟩⟩
    have hadd : (⟨g, 0, none⟩ : Addr).add i = ⟨g, i, none⟩ := by unfold Addr.add; split <;> simp_all
    rw [hadd, cell_of_cells, cellsOf_heap hh]
    have hi := (List.getElem?_eq_some_iff.1 hx).1
    have e2 : (cur.toList.take (l.length * 1))[i]? = (zc l)[i]? := by rw [h4]
    rw [List.getElem?_take_of_lt (by omega), Array.getElem?_toList, zc_get, hx] at e2
    exact e2
theorem OwnZ.kept {B : Nat} {w w' : World} {v : Value} {l : List Int} {r : Option Nat} (h : OwnZ B w v l) (hg : w.grownBy w' r) (hne : v.ownBlock = none ∨ v.ownBlock ≠ r) : OwnZ B w' v l := World.ownsRow.kept h hg hne
theorem OwnZ.below {B C : Nat} {w w' : World} {v : Value} {l : List Int} (h : OwnZ B w v l) (hb : Below C w w') (hC : w.heap.size ≤ C) : OwnZ B w' v l := h.kept (grown_of_below (hb.mono hC) none) (Classical.em _)

set_option maxRecDepth 100000 in
set_option maxHeartbeats 400000 in
theorem szInt64S_any (A : Option Addr) (n c : Nat) (hn : n ≤ 9223372036854775807) (left : Int) (h0 : 0 ≤ left) (h1 : left ≤ 1048576) (w : World) :
    Calls Try.prog 56 #[.slice A n c, .int .i64 left] w fun e w' => e = .returned (.int .i64 (if left < n then -1 else left - n)) ∧ w' = w := by
  by_cases hlt : left < n
  · rw [if_pos hlt]
    have hd : decide (left - (n : Int) < 0) = true := by simp; omega
    go_enter Try.func56, Try.ntmps56
    go_wp2
    go_ret
    exact ⟨rfl, rfl⟩
  · rw [if_neg hlt]
    have hd : decide (left - (n : Int) < 0) = false := decide_eq_false (by omega)
    go_enter Try.func56, Try.ntmps56
    go_wp2
    go_ret
    exact ⟨rfl, rfl⟩

set_option maxRecDepth 100000 in
set_option maxHeartbeats 400000 in
theorem eqInt64S_rd (l : List Int) (v v' : Value) (w : World) (h : RdZ w v l) (h' : RdZ w v' l) :
    Calls Try.prog 18 #[v, v'] w fun e w' => e = .returned (.bool true) ∧ Below w.heap.size w w' := by
  obtain ⟨A, c, rfl, hl⟩ := h.form
  obtain ⟨A', c', rfl, _⟩ := h'.form
  have H := hide h; clear h
  have H' := hide h'; clear h'
  have hne : ((l.length : Int) != (l.length : Int)) = false := by simp
  go_enter Try.func18, Try.ntmps18
  go_wp2
  go_loopw [5] (fun i wr => ∃ k : Nat, k ≤ l.length ∧ i = .int .i64 k ∧ Below w.heap.size w wr) (fun i _ => l.length - (intOf i).toNat)
  case atStart => exact ⟨0, by omega, rfl, Below.refl _ _⟩
  case round =>
    obtain ⟨k, hk, rfl, hb⟩ := hrel
    by_cases hlt : k < l.length
    · obtain ⟨a, rfl, _, c1⟩ := (H.out.below hb (Nat.le_refl _)).at hlt
      obtain ⟨a', rfl, _, c2⟩ := (H'.out.below hb (Nat.le_refl _)).at hlt
      generalize l[k] = x at *
      have hx : (x != x) = false := by simp
      go_wp2
      go_region
      all_goals go_wp2
      all_goals go_roundw
      case rel => exact ⟨k + 1, by omega, by go_num, hb.drew⟩
      case measure => simp [intOf]; omega
    · obtain rfl : k = l.length := by omega
      clear hlt hk
      go_wp2
      go_ret
      exact ⟨rfl, hb⟩

/-- the first k numbers, zeros behind them -/
def upZ (l : List Int) (k : Nat) : List Int := l.take k ++ List.replicate (l.length - k) 0
theorem upZ_length (l : List Int) {k : Nat} (h : k ≤ l.length) : (upZ l k).length = l.length := by unfold upZ; simp; omega
theorem upZ_set (l : List Int) {k : Nat} (h : k < l.length) : (upZ l k).set k l[k] = upZ l (k + 1) := by
  unfold upZ
  rw [List.set_append_right _ _ (by simp; omega), List.take_succ_eq_append_getElem h]
  have e : k - (l.take k).length = 0 := by simp; omega
  rw [e, show l.length - k = (l.length - (k + 1)) + 1 from by omega, List.replicate_succ, List.set_cons_zero, List.append_assoc]
  rfl

set_option maxRecDepth 100000 in
set_option maxHeartbeats 400000 in
theorem toInt64S_any (l : List Int) (v : Value) (w : World) (h : RdZ w v l) (hl : l.length ≤ 1048576) :
    Calls Try.prog 16 #[v] w fun e w' => ∃ u, e = .returned u ∧ Below w.heap.size w w' ∧ OwnZ w.heap.size w' u l := by
  obtain ⟨A, c, rfl, _⟩ := h.form
  obtain ⟨i0, hi, hz0, hz1, hz2⟩ := info_parts info64
  have I0 := hide (And.intro hi (And.intro hz0 (And.intro hz1 hz2))); clear hi hz0 hz1 hz2
  have H := hide h; clear h
  have hb8 := I0.out.2.2.2
  have hbb : i0.bytes * l.length ≤ 281474976710656 := by rw [hb8]; omega
  clear hb8
  go_enter Try.func16, Try.ntmps16
  go_wp2_with (refine wpList_make_full _ rfl _ _ 22 rfl w.heap.size 2 i0 (.int .i64 0) 1 Try.underlying22 I0.out.1 I0.out.2.1 I0.out.2.2.1 .i64 .i64 _ _ l.length rfl rfl rfl rfl hbb (by unfold maxLen; omega) (Nat.le_refl _) ?_)
  intro w1 ho hg
  have b1 : Below w.heap.size w w1 := (Below.refl _ _).grown hg (Nat.le_refl _) (fun k hk => by cases hk)
  have hz : (madeCells #[Value.int .i64 0] l.length).toList = zc (upZ l 0) := by rw [toList_madeCells_one]; unfold upZ zc; simp
  rw [hz] at ho
  clear hz hg hbb
  have HO := hide ho; clear ho
  go_wp2
  go_loopw [4] (fun i wr => ∃ k : Nat, k ≤ l.length ∧ i = .int .i64 k ∧ Below w.heap.size w wr ∧ wr.ownsRow w.heap.size 2 1 (.slice (some ⟨w.heap.size, 0, none⟩) l.length l.length) l.length (zc (upZ l k))) (fun i _ => l.length - (intOf i).toNat)
  case atStart => exact ⟨0, by omega, rfl, b1, HO.out⟩
  case round =>
    clear HO b1
    obtain ⟨k, hk, rfl, hbw, ho⟩ := hrel
    by_cases hlt : k < l.length
    · obtain ⟨a, rfl, ha, c1⟩ := (H.out.below hbw (Nat.le_refl _)).at hlt
      have f0 := World.ownsRow.frozenAt ho k
      have c0 : wr.cell? ⟨w.heap.size, k, none⟩ = some (.int .i64 ((upZ l k).getD k 0)) := by
        have := World.ownsRow.cellAt ho k (by omega)
        rw [this, zc_get, List.getD_eq_getElem?_getD, List.getElem?_eq_getElem (by rw [upZ_length _ hk]; exact hlt)]; rfl
      have hst := World.ownsRow.stored ho k (.int .i64 l[k])
      have hup : (zc (upZ l k)).set k (.int .i64 l[k]) = zc (upZ l (k + 1)) := by rw [← upZ_set l hlt]; unfold zc; rw [List.map_set]
      rw [hup] at hst
      generalize (upZ l k).getD k 0 = y at *
      generalize l[k] = x at *
      have HST := hide hst; clear hst hup ho
      go_wp2
      go_roundw
      case rel => exact ⟨k + 1, by omega, by go_num, hbw.grown HST.out.2 hbw.size (fun g hg => by cases hg; exact Nat.le_refl _), HST.out.1⟩
      case measure => simp [intOf]; omega
    · obtain rfl : k = l.length := by omega
      have hul : upZ l l.length = l := by unfold upZ; simp
      rw [hul] at ho
      have HO := hide ho; clear ho hul hlt hk
      go_wp2
      go_ret
      exact ⟨_, rfl, hbw, HO.out⟩
end Go.Proofs.Ytlmhnimpglookaa

namespace Go.Proofs.Ytlmhnimpglookaa
open Go.RowKit

def RdZ2 (w : World) (v : Value) (ls : List (List Int)) : Prop :=
  ∃ (A : Option Addr) (c : Nat) (us : List Value), v = .slice A ls.length c ∧ ls.length ≤ 9223372036854775807 ∧ us.length = ls.length ∧
    (∀ (i : Nat) (u : Value), us[i]? = some u → ∃ a, A = some a ∧ a.block < w.heap.size ∧ w.cell? (a.add i) = some u) ∧ ∀ (i : Nat) (u : Value) (l : List Int), us[i]? = some u → ls[i]? = some l → RdZ w u l
theorem RdZ2.form {w : World} {v : Value} {ls : List (List Int)} (h : RdZ2 w v ls) : ∃ A c, v = .slice A ls.length c ∧ ls.length ≤ 9223372036854775807 := by
  obtain ⟨A, c, _, h1, h2, _⟩ := h; exact ⟨A, c, h1, h2⟩
theorem RdZ2.below {C : Nat} {w w' : World} {v : Value} {ls : List (List Int)} (h : RdZ2 w v ls) (hb : Below C w w') (hC : w.heap.size ≤ C) : RdZ2 w' v ls := by
  obtain ⟨A, c, us, h1, h2, h3, h4, h5⟩ := h
  refine ⟨A, c, us, h1, h2, h3, fun i u hu => ?_, fun i u l hu hl => (h5 i u l hu hl).below hb hC⟩
  obtain ⟨a, e, k4, k5⟩ := h4 i u hu
  refine ⟨a, e, Nat.lt_of_lt_of_le k4 hb.size, ?_⟩
  rw [← k5]
  have hq : (a.add i).block = a.block := by unfold Addr.add; split <;> rfl
  exact hb.cell (p := a.add i) (by omega)
theorem RdZ2.at {w : World} {A : Option Addr} {n c k : Nat} {ls : List (List Int)} (h : RdZ2 w (.slice A n c) ls) (hk : k < ls.length) :
    ∃ a A' c', A = some a ∧ w.cell? (a.add k) = some (.slice A' ls[k].length c') ∧ RdZ w (.slice A' ls[k].length c') ls[k] := by
  obtain ⟨A0, c0, us, e, _, h3, h4, h5⟩ := h
  injection e with e1 _ _
  subst e1
  have hu : us[k]? = some us[k] := List.getElem?_eq_getElem (by omega)
  obtain ⟨a, ea, _, hc⟩ := h4 k _ hu
  have hr := h5 k _ _ hu (List.getElem?_eq_getElem hk)
  obtain ⟨A', c', e', _⟩ := hr.form
  rw [e'] at hc hr
  exact ⟨a, A', c', ea, hc, hr⟩

theorem block_of_cell {w : World} {p : Addr} {u : Value} (h : w.cell? p = some u) : p.block < w.heap.size := by
  rcases Nat.lt_or_ge p.block w.heap.size with c | c
  · exact c
  · unfold World.cell? at h
    rw [Array.getElem?_eq_none c] at h
    simp at h
theorem rd2_lt {w : World} {a : Addr} {n c k : Nat} {ls : List (List Int)} (h : RdZ2 w (.slice (some a) n c) ls) (hk : k < ls.length) : a.block < w.heap.size := by
  obtain ⟨A0, c0, us, e, _, h3, h4, h5⟩ := h
  injection e with e1 _ _
  obtain ⟨a', ea, hl, _⟩ := h4 k _ (List.getElem?_eq_getElem (by omega))
  rw [← e1] at ea
  injection ea with ea
  rw [ea]; exact hl
theorem rd_cell {w wx : World} {a : Addr} {k : Nat} {u : Value} (hx : Grown w wx) (h : w.cell? (a.add k) = some u) (hl : a.block < w.heap.size) : wx.cell? (a.add k) = some u := by
  have hq : (a.add k).block = a.block := by unfold Addr.add; split <;> rfl
  rw [← h]
  exact Below.cell hx (p := a.add k) (by omega)
/-- what has been measured is small -/
def smallZ (ls : List (List Int)) : Prop := ls.length ≤ 1048576 ∧ ∀ l ∈ ls, l.length ≤ 1048576
set_option maxRecDepth 100000 in
set_option maxHeartbeats 400000 in
theorem szInt64SS_any (v : Value) (ls : List (List Int)) (w : World) (h : RdZ2 w v ls) :
    Calls Try.prog 24 #[v, .int .i64 1048576] w fun e w' => ∃ r : Int, e = .returned (.int .i64 r) ∧ Below w.heap.size w w' ∧ (r < 0 ∨ smallZ ls) := by
  obtain ⟨A, c, rfl, hl⟩ := h.form
  have H := hide h; clear h
  by_cases hbig : (1048576 : Int) < ls.length
  · have hd : decide ((1048576 : Int) - (ls.length : Int) < 0) = true := by simp; omega
    go_enter Try.func24, Try.ntmps24
    go_wp2
    go_ret
    exact ⟨_, rfl, Below.refl _ _, .inl (by decide)⟩
  · have hd : decide ((1048576 : Int) - (ls.length : Int) < 0) = false := decide_eq_false (by omega)
    go_enter Try.func24, Try.ntmps24
    go_wp2
    go_loopw [5, 1] (fun i t wr => ∃ (k : Nat) (left : Int), k ≤ ls.length ∧ i = .int .i64 k ∧ t = .int .i64 left ∧ 0 ≤ left ∧ left ≤ 1048576 ∧ Below w.heap.size w wr ∧ ∀ (i : Nat) (l : List Int), i < k → ls[i]? = some l → l.length ≤ 1048576) (fun i _ _ => ls.length - (intOf i).toNat)
    case atStart => exact ⟨0, 1048576 - ls.length, by omega, rfl, rfl, by omega, by omega, Below.refl _ _, by omega⟩
    case round =>
      obtain ⟨k, left, hk, rfl, rfl, hl0, hl1, hb, hs⟩ := hrel
      have HS := hide hs; clear hs
      by_cases hlt : k < ls.length
      · obtain ⟨a, A', c', rfl, c1, hr⟩ := (H.out.below hb (Nat.le_refl _)).at hlt
        obtain ⟨_, _, _, hln⟩ := hr.form
        have hgk : ls[k]? = some ls[k] := List.getElem?_eq_getElem hlt
        have HG := hide hgk; clear hgk hr
        generalize hL : ls[k] = l at *
        clear hL
        have C := szInt64S_any A' l.length c' hln left hl0 hl1
        by_cases hlen : left < l.length
        · rw [if_pos hlen] at C
          have C' := hide C; clear C
          clear hd
          go_wp2_with (go_at_call 56; refine (C'.out _).mono ?_; rintro e w' ⟨rfl, rfl⟩)
          go_ret
          exact ⟨_, rfl, hb, .inl (by decide)⟩
        · rw [if_neg hlen] at C
          have C' := hide C; clear C
          have hd2 : decide (left - (l.length : Int) < 0) = false := decide_eq_false (by omega)
          clear hd
          go_wp2_with (go_at_call 56; refine (C'.out _).mono ?_; rintro e w' ⟨rfl, rfl⟩)
          go_roundw
          case rel =>
            refine ⟨k + 1, left - l.length, by omega, by go_num, rfl, by omega, by omega, hb, fun i m hi hm => ?_⟩
            by_cases ci : i = k
            · subst ci
              rw [HG.out] at hm
              injection hm with hm
              subst hm
              omega
            · exact HS.out i m (by omega) hm
          case measure => simp [intOf]; omega
      · obtain rfl : k = ls.length := by omega
        clear hlt hk hd
        go_wp2
        go_ret
        refine ⟨_, rfl, hb, .inr ⟨by omega, fun l hl => ?_⟩⟩
        obtain ⟨i, hi, rfl⟩ := List.mem_iff_getElem.1 hl
        exact HS.out i _ hi (List.getElem?_eq_getElem hi)

set_option maxRecDepth 100000 in
set_option maxHeartbeats 1000000 in
theorem eqInt64SS_rd (ls : List (List Int)) (v v' : Value) (w : World) (h : RdZ2 w v ls) (h' : RdZ2 w v' ls) :
    Calls Try.prog 21 #[v, v'] w fun e w' => e = .returned (.bool true) ∧ Below w.heap.size w w' := by
  obtain ⟨A, c, rfl, hl⟩ := h.form
  obtain ⟨A', c', rfl, _⟩ := h'.form
  have H := hide h; clear h
  have H' := hide h'; clear h'
  have hne : ((ls.length : Int) != (ls.length : Int)) = false := by simp
  go_enter Try.func21, Try.ntmps21
  go_wp2
  go_loopw [5] (fun i wr => ∃ k : Nat, k ≤ ls.length ∧ i = .int .i64 k ∧ Below w.heap.size w wr) (fun i _ => ls.length - (intOf i).toNat)
  case atStart => exact ⟨0, by omega, rfl, Below.refl _ _⟩
  case round =>
    obtain ⟨k, hk, rfl, hb⟩ := hrel
    by_cases hlt : k < ls.length
    · obtain ⟨a, A1, d1, rfl, c1, r1⟩ := (H.out.below hb (Nat.le_refl _)).at hlt
      obtain ⟨a', A2, d2, rfl, c2, r2⟩ := (H'.out.below hb (Nat.le_refl _)).at hlt
      have hab : a.block < wr.heap.size := rd2_lt (H.out.below hb (Nat.le_refl _)) hlt
      have hab' : a'.block < wr.heap.size := rd2_lt (H'.out.below hb (Nat.le_refl _)) hlt
      have R1 := hide r1; clear r1
      have R2 := hide r2; clear r2
      generalize ls[k] = l at *
      go_wp2
      refine region_V (w := wr) (fun _ => none) (fun _ => false) [] (.q 0 <| .q 1 <| .q 2 <| .q 3 <| .q 4 <| .q 5 <| .q 6 <| .q 7 <| .q 8 <| .q 9 .fin) (by kernel_rfl) (by kernel_rfl) (by kernel_rfl) (fun k hk => ?_) ?_
      · exact ⟨rfl, rfl⟩
      apply v_other
      · simp only [List.getElem?_toArray, List.getElem?_cons_zero, List.getElem?_cons_succ]; exact rfl
      · rfl
      · rfl
      · go_simp
      · intro wx hx
        have e1 := rd_cell hx c1 hab
        have e2 := rd_cell hx c2 hab'
        have D1 := hide fun (_ : World) => eqInt64S_rd l _ _ wx (R1.out.below hx (Nat.le_refl _)) (R2.out.below hx (Nat.le_refl _))
        unfold atG
        go_simp
        simp only [uponG]
        exact ⟨by trivial, rfl⟩
      apply v_other
      · simp only [List.getElem?_toArray, List.getElem?_cons_zero, List.getElem?_cons_succ]; exact rfl
      · rfl
      · rfl
      · go_simp
      · intro wx hx
        have e1 := rd_cell hx c1 hab
        have e2 := rd_cell hx c2 hab'
        have D1 := hide fun (_ : World) => eqInt64S_rd l _ _ wx (R1.out.below hx (Nat.le_refl _)) (R2.out.below hx (Nat.le_refl _))
        unfold atG
        go_simp
        simp only [uponG]
        exact ⟨by trivial, rfl⟩
      apply v_other
      · simp only [List.getElem?_toArray, List.getElem?_cons_zero, List.getElem?_cons_succ]; exact rfl
      · rfl
      · rfl
      · go_simp
      · intro wx hx
        have e1 := rd_cell hx c1 hab
        have e2 := rd_cell hx c2 hab'
        have D1 := hide fun (_ : World) => eqInt64S_rd l _ _ wx (R1.out.below hx (Nat.le_refl _)) (R2.out.below hx (Nat.le_refl _))
        unfold atG
        go_simp
        simp only [uponG]
        exact ⟨by trivial, rfl⟩
      apply v_other
      · simp only [List.getElem?_toArray, List.getElem?_cons_zero, List.getElem?_cons_succ]; exact rfl
      · rfl
      · rfl
      · go_simp
      · intro wx hx
        have e1 := rd_cell hx c1 hab
        have e2 := rd_cell hx c2 hab'
        have D1 := hide fun (_ : World) => eqInt64S_rd l _ _ wx (R1.out.below hx (Nat.le_refl _)) (R2.out.below hx (Nat.le_refl _))
        unfold atG
        go_simp
        simp only [uponG]
        exact ⟨by trivial, rfl⟩
      apply v_other
      · simp only [List.getElem?_toArray, List.getElem?_cons_zero, List.getElem?_cons_succ]; exact rfl
      · rfl
      · rfl
      · go_simp
      · intro wx hx
        have e1 := rd_cell hx c1 hab
        have e2 := rd_cell hx c2 hab'
        have D1 := hide fun (_ : World) => eqInt64S_rd l _ _ wx (R1.out.below hx (Nat.le_refl _)) (R2.out.below hx (Nat.le_refl _))
        unfold atG
        go_simp
        simp only [uponG]
        exact ⟨by trivial, rfl⟩
      apply v_other
      · simp only [List.getElem?_toArray, List.getElem?_cons_zero, List.getElem?_cons_succ]; exact rfl
      · rfl
      · rfl
      · go_simp
      · intro wx hx
        have e1 := rd_cell hx c1 hab
        have e2 := rd_cell hx c2 hab'
        have D1 := hide fun (_ : World) => eqInt64S_rd l _ _ wx (R1.out.below hx (Nat.le_refl _)) (R2.out.below hx (Nat.le_refl _))
        unfold atG
        go_simp
        simp only [uponG]
        exact ⟨by trivial, rfl⟩
      apply v_other
      · simp only [List.getElem?_toArray, List.getElem?_cons_zero, List.getElem?_cons_succ]; exact rfl
      · rfl
      · rfl
      · go_simp
      · intro wx hx
        have e1 := rd_cell hx c1 hab
        have e2 := rd_cell hx c2 hab'
        have D1 := hide fun (_ : World) => eqInt64S_rd l _ _ wx (R1.out.below hx (Nat.le_refl _)) (R2.out.below hx (Nat.le_refl _))
        unfold atG
        go_simp
        simp only [uponG]
        exact ⟨by trivial, rfl⟩
      apply v_other
      · simp only [List.getElem?_toArray, List.getElem?_cons_zero, List.getElem?_cons_succ]; exact rfl
      · rfl
      · rfl
      · go_simp
      · intro wx hx
        have e1 := rd_cell hx c1 hab
        have e2 := rd_cell hx c2 hab'
        have D1 := hide fun (_ : World) => eqInt64S_rd l _ _ wx (R1.out.below hx (Nat.le_refl _)) (R2.out.below hx (Nat.le_refl _))
        unfold atG
        go_simp
        simp only [uponG]
        exact ⟨by trivial, rfl⟩
      apply v_other
      · simp only [List.getElem?_toArray, List.getElem?_cons_zero, List.getElem?_cons_succ]; exact rfl
      · rfl
      · rfl
      · go_simp
      · intro wx hx
        have e1 := rd_cell hx c1 hab
        have e2 := rd_cell hx c2 hab'
        have D1 := hide fun (_ : World) => eqInt64S_rd l _ _ wx (R1.out.below hx (Nat.le_refl _)) (R2.out.below hx (Nat.le_refl _))
        unfold atG
        go_simp
        simp only [uponG]
        exact ⟨by trivial, D1.out wx⟩
      apply v_other
      · simp only [List.getElem?_toArray, List.getElem?_cons_zero, List.getElem?_cons_succ]; exact rfl
      · rfl
      · rfl
      · go_simp
      · intro wx hx
        have e1 := rd_cell hx c1 hab
        have e2 := rd_cell hx c2 hab'
        have D1 := hide fun (_ : World) => eqInt64S_rd l _ _ wx (R1.out.below hx (Nat.le_refl _)) (R2.out.below hx (Nat.le_refl _))
        unfold atG
        go_simp
        simp only [uponG]
        exact ⟨by trivial, rfl⟩
      rintro w1 hx _
      have b1 : Below w.heap.size w w1 := hb.trans (Below.mono hx hb.size)
      clear hx c1 c2
      go_simp
      go_wp2
      go_roundw
      case rel => exact ⟨k + 1, by omega, by go_num, b1⟩
      case measure => simp [intOf]; omega
    · obtain rfl : k = ls.length := by omega
      clear hlt hk
      go_wp2
      go_ret
      exact ⟨rfl, hb⟩

set_option maxRecDepth 100000 in
set_option maxHeartbeats 1000000 in
theorem toInt64SS_any (ls : List (List Int)) (v : Value) (w : World) (h : RdZ2 w v ls) (hs : smallZ ls) :
    Calls Try.prog 26 #[v] w fun e w' => ∃ u, e = .returned u ∧ Below w.heap.size w w' ∧ RdZ2 w' u ls := by
  obtain ⟨A, c, rfl, _⟩ := h.form
  obtain ⟨i0, hi, hz0, hz1, hz2⟩ := info_parts infoSl
  have I0 := hide (And.intro hi (And.intro hz0 (And.intro hz1 hz2))); clear hi hz0 hz1 hz2
  have H := hide h; clear h
  obtain ⟨hs1, hs2⟩ := hs
  have HS := hide hs2; clear hs2
  have hb24 := I0.out.2.2.2
  have hbb : i0.bytes * ls.length ≤ 281474976710656 := by rw [hb24]; omega
  clear hb24
  go_enter Try.func26, Try.ntmps26
  go_wp2_with (refine wpList_make_full _ rfl _ _ 26 rfl w.heap.size 22 i0 (.slice none 0 0) 1 Try.underlying26 I0.out.1 I0.out.2.1 I0.out.2.2.1 .i64 .i64 _ _ ls.length rfl rfl rfl rfl hbb (by unfold maxLen; omega) (Nat.le_refl _) ?_)
  intro w1 ho hg
  have b1 : Below w.heap.size w w1 := (Below.refl _ _).grown hg (Nat.le_refl _) (fun k hk => by cases hk)
  have hz : (madeCells #[Value.slice none 0 0] ls.length).toList = [] ++ List.replicate (ls.length - 0) (Value.slice none 0 0) := by rw [toList_madeCells_one]; simp
  rw [hz] at ho
  have l1 : w.heap.size < w1.heap.size := (World.ownsRow.lt ho w.heap.size rfl).2
  clear hz hg hbb
  have HO := hide ho; clear ho
  go_wp2
  go_loopw [4] (fun i wr => ∃ (k : Nat) (us : List Value), k ≤ ls.length ∧ i = .int .i64 k ∧ us.length = k ∧ Below w.heap.size w wr ∧ w.heap.size < wr.heap.size ∧
      wr.ownsRow w.heap.size 22 1 (.slice (some ⟨w.heap.size, 0, none⟩) ls.length ls.length) ls.length (us ++ List.replicate (ls.length - k) (.slice none 0 0)) ∧
      ∀ (i : Nat) (u : Value) (l : List Int), us[i]? = some u → ls[i]? = some l → OwnZ (w.heap.size + 1) wr u l) (fun i _ => ls.length - (intOf i).toNat)
  case atStart => exact ⟨0, [], by omega, rfl, rfl, b1, l1, HO.out, fun i u l h => by simp at h⟩
  case round =>
    clear HO b1 l1
    obtain ⟨k, us, hk, rfl, hul, hbw, hlw, ho, hall⟩ := hrel
    by_cases hlt : k < ls.length
    · obtain ⟨a, A', c', rfl, c1, hr⟩ := (H.out.below hbw (Nat.le_refl _)).at hlt
      have hgk : ls[k]? = some ls[k] := List.getElem?_eq_getElem hlt
      have hsm := HS.out _ (List.getElem_mem hlt)
      have HG := hide hgk; clear hgk
      have C := hide (toInt64S_any ls[k] _ wr hr hsm)
      clear hr
      generalize hL : ls[k] = l at *
      have HL := hide hL; clear hL
      have HO := hide ho; clear ho
      have HA := hide hall; clear hall
      have HU := hide hul; clear hul
      go_wp2_with fail
      refine (C.out).mono ?_
      rintro e w2 ⟨u, rfl, hb2, hou⟩
      have s2 := hb2.size
      have ho2 : w2.ownsRow w.heap.size 22 1 (.slice (some ⟨w.heap.size, 0, none⟩) ls.length ls.length) ls.length (us ++ List.replicate (ls.length - k) (.slice none 0 0)) := World.ownsRow.kept HO.out (grown_of_below hb2 none) (Classical.em _)
      have hou' : OwnZ (w.heap.size + 1) w2 u l := ⟨hou.1, hou.2.imp id fun ⟨g, cap, cur, q1, q2, q3⟩ => ⟨g, cap, cur, q1, by omega, q3⟩⟩
      have f0 := World.ownsRow.frozenAt ho2 k
      have hkn : (us ++ List.replicate (ls.length - k) (Value.slice none 0 0))[k]? = some (.slice none 0 0) := by
        rw [List.getElem?_append_right (by rw [HU.out]; exact Nat.le_refl _), HU.out, Nat.sub_self, List.getElem?_replicate, if_pos (by omega)]
      have c0 : w2.cell? ⟨w.heap.size, k, none⟩ = some (.slice none 0 0) := by
        have := World.ownsRow.cellAt ho2 k (by omega)
        rw [this, hkn]
      have hst := World.ownsRow.stored ho2 k u
      have hset : (us ++ List.replicate (ls.length - k) (Value.slice none 0 0)).set k u = (us ++ [u]) ++ List.replicate (ls.length - (k + 1)) (.slice none 0 0) := by
        rw [List.set_append_right _ _ (by rw [HU.out]; exact Nat.le_refl _), HU.out, Nat.sub_self, show ls.length - k = (ls.length - (k + 1)) + 1 from by omega, List.replicate_succ, List.set_cons_zero, List.append_assoc]
        rfl
      rw [hset] at hst
      have b3 := (hbw.trans (hb2.mono (by omega))).grown hst.2 (by omega) (fun g hg => by cases hg; exact Nat.le_refl _)
      have far : ∀ {x : Value} {m : List Int}, OwnZ (w.heap.size + 1) w2 x m → x.ownBlock = none ∨ x.ownBlock ≠ some w.heap.size := fun {x m} hx => by
        rcases hq : x.ownBlock with _ | g
        · exact .inl rfl
        · refine .inr fun e => ?_
          have := (World.ownsRow.lt hx g hq).1
          injection e with e; omega
      have hall' : ∀ (i : Nat) (x : Value) (m : List Int), (us ++ [u])[i]? = some x → ls[i]? = some m → OwnZ (w.heap.size + 1) (w2.setCell ⟨w.heap.size, k, none⟩ u) x m := by
        intro i x m h1 h2
        rcases Nat.lt_or_ge i us.length with ci | ci
        · rw [List.getElem?_append_left ci] at h1
          have := (HA.out i x m h1 h2).below hb2 (Nat.le_refl _)
          exact this.kept hst.2 (far this)
        · rw [List.getElem?_append_right ci] at h1
          have hi : i = k := by
            rcases hz : i - us.length with _ | z
            · have := HU.out; omega
            · rw [hz] at h1; simp at h1
          subst hi
          rw [HU.out, Nat.sub_self] at h1
          simp at h1
          subst h1
          rw [HG.out] at h2
          injection h2 with h2
          subst h2
          exact hou'.kept hst.2 (far hou')
      obtain ⟨Au, cu, rfl⟩ := own_slice hou
      have HST := hide (And.intro hst.1 (And.intro b3 hall')); clear hst b3 hall' hset hkn far hou hou' ho2
      clear c1 C
      go_wp2
      go_roundw
      case rel => exact ⟨k + 1, us ++ [.slice Au l.length cu], by omega, by go_num, by simp [HU.out], HST.out.2.1, by simp; omega, HST.out.1, HST.out.2.2⟩
      case measure => simp [intOf]; omega
    · obtain rfl : k = ls.length := by omega
      rw [Nat.sub_self, List.replicate_zero, List.append_nil] at ho
      have hrd : RdZ2 wr (.slice (some ⟨w.heap.size, 0, none⟩) ls.length ls.length) ls := by
        refine ⟨_, _, us, rfl, by omega, hul, fun i u hu => ⟨_, rfl, hlw, ?_⟩, fun i u l hu hl => (hall i u l hu hl).rd ?_⟩
        · have hadd : (⟨w.heap.size, 0, none⟩ : Addr).add i = ⟨w.heap.size, i, none⟩ := by unfold Addr.add; split <;> simp_all
          have hi := (List.getElem?_eq_some_iff.1 hu).1
          rw [hadd, World.ownsRow.cellAt ho i (by omega), hu]
        · have := HS.out l (List.mem_of_getElem? hl); omega
      have HR := hide hrd; clear hrd ho hall hul hlt hk
      go_wp2
      go_ret
      exact ⟨_, rfl, hbw, HR.out⟩

section
open Go.ChangeShapes Go.WideShapes
variable {H : Type} {enc : TypeId × Value → H} {P : Program} {w : World} {base : Nat} {spare : Nat → Bool} {held : Bool}
/-- whole numbers that int64 holds -/
def fits64 (l : List Int) : Prop := ∀ x ∈ l, -9223372036854775808 ≤ x ∧ x ≤ 9223372036854775807
theorem rd_of_trod {t e : TypeId} {fuel : Nat} {v : Value} {x : DataW H × List MemPlace} (ht : P.underlying t = some (.slice e)) (he : P.underlying e = some (.int .i64)) (hc : P.cellsOf e = 1) (h : DataW.trod enc P w base spare held fuel t [v] = some x) :
    ∃ l, RdZ w v l ∧ fits64 l := by
  rcases open_ints ht he hc h with ⟨e1, _⟩ | ⟨a, len, cap, zs, e1, _, hl, hm, hz, _, hcell, hw⟩
  · injection e1 with e1
    subst e1
    exact ⟨[], ⟨none, 0, rfl, by simp, fun i x hx => by simp at hx⟩, fun x hx => by simp at hx⟩
  · injection e1 with e1
    subst e1
    have hlz : len ≤ zs.length := by rw [hz]; split <;> omega
    refine ⟨zs.take len, ⟨some a, cap, by simp [Nat.min_eq_left hlz], ?_, fun i x hx => ?_⟩, fun x hx => bounds_i64 (hw x (List.mem_of_mem_take hx))⟩
    · have : maxLen = 9223372036854775807 := rfl
      simp; omega
    · have hi : i < len := by have := (List.getElem?_eq_some_iff.1 hx).1; simp at this; omega
      rw [List.getElem?_take_of_lt hi] at hx
      have hc' := hcell i (by omega)
      have hg : zs.getD i 0 = x := by rw [List.getD_eq_getElem?_getD, hx]; rfl
      rw [hg] at hc'
      refine ⟨a, rfl, ?_, hc'⟩
      have hq : (a.add i).block = a.block := by unfold Addr.add; split <;> rfl
      rw [← hq]
      exact block_of_cell hc'
theorem open_is {r : Reach} {b0 : Nat} {t e : TypeId} {v : Value} {d : DataW H} {ps : List MemPlace} (ht : P.underlying t = some (.slice e)) (he : P.underlying e = some (.int .i64)) (hc : P.cellsOf e = 1)
    (hval : Value.okWide P w r b0 t v) (hd : DataW.Trod enc P w base spare held t v d ps) : ∃ l, RdZ w v l ∧ fits64 l := by
  obtain ⟨a, len, cap, rfl⟩ := okWide_slice ht hval
  obtain ⟨fuel, hf⟩ := hd
  exact rd_of_trod ht he hc hf
theorem open_iss {r : Reach} {b0 : Nat} {t s e : TypeId} {v : Value} {d : DataW H} {ps : List MemPlace} (ht : P.underlying t = some (.slice s)) (hs : P.underlying s = some (.slice e)) (he : P.underlying e = some (.int .i64)) (hc : P.cellsOf s = 1) (hc2 : P.cellsOf e = 1)
    (hval : Value.okWide P w r b0 t v) (hd : DataW.Trod enc P w base spare held t v d ps) : ∃ ls, RdZ2 w v ls ∧ ∀ l ∈ ls, fits64 l := by
  obtain ⟨a0, len0, cap0, rfl⟩ := okWide_slice ht hval
  obtain ⟨fuel, hf⟩ := hd
  rcases Go.Deep.open_slice1 ht hc hf with ⟨e1, _⟩ | ⟨a, len, cap, m, n, V, D, Pl, e1, _, hl, hm, hmm, _, hV⟩
  · injection e1 with e1
    rw [e1]
    exact ⟨[], ⟨none, 0, [], rfl, by simp, rfl, fun i u hu => by simp at hu, fun i u l hu => by simp at hu⟩, fun l hl => by simp at hl⟩
  · injection e1 with e1
    rw [e1]
    have hlm : len ≤ m := by rw [hmm]; split <;> omega
    have key : ∀ i, i < len → ∃ l, RdZ w (V i) l ∧ fits64 l := fun i hi => rd_of_trod hs he hc2 (hV i (by omega)).2
    obtain ⟨L, hL⟩ : ∃ L : Nat → List Int, ∀ i, i < len → RdZ w (V i) (L i) ∧ fits64 (L i) := by
      refine ⟨fun i => if h : i < len then (key i h).choose else [], fun i hi => ?_⟩
      simp only [hi, dif_pos]
      exact (key i hi).choose_spec
    refine ⟨(List.range len).map L, ⟨some a, cap, (List.range len).map V, by simp, ?_, by simp, fun i u hu => ?_, fun i u l hu hl => ?_⟩, fun l hl => ?_⟩
    · have : maxLen = 9223372036854775807 := rfl
      simp; omega
    · have hi : i < len := by have := (List.getElem?_eq_some_iff.1 hu).1; simpa using this
      simp [hi] at hu
      subst hu
      have hc' := (hV i (by omega)).1
      refine ⟨a, rfl, ?_, hc'⟩
      have hq : (a.add i).block = a.block := by unfold Addr.add; split <;> rfl
      rw [← hq]
      exact block_of_cell hc'
    · have hi : i < len := by have := (List.getElem?_eq_some_iff.1 hu).1; simpa using this
      simp [hi] at hu hl
      subst hu hl
      exact (hL i hi).1
    · obtain ⟨i, hi, rfl⟩ := List.mem_map.1 hl
      exact (hL i (List.mem_range.1 hi)).2
end
end Go.Proofs.Ytlmhnimpglookaa

namespace Go.Proofs.Ytlmhnimpglookaa
open Go.RowKit

def yb (x : Int) : Nat := (x % 256).toNat
theorem yb_cast (x : Int) : ((yb x : Nat) : Int) = x % 256 := by unfold yb; omega
def prs (l : List Int) : List (Nat × Nat) := (List.range l.length).map fun i => ((l.getD i 0).toNat, yb (l.getD ((i + 1) % l.length) 0))
def outP (m : Nat) (P : List (Nat × Nat)) : Nat → Nat := P.foldl (fun f p => fset f p.1 p.2) (sameF m)
theorem outP_snoc (m : Nat) (P : List (Nat × Nat)) (q : Nat × Nat) : outP m (P ++ [q]) = fset (outP m P) q.1 q.2 := by simp [outP]
theorem prs_succ (l : List Int) {i : Nat} (hi : i < l.length) : (prs l).take (i + 1) = (prs l).take i ++ [((l[i]).toNat, yb (l[(i + 1) % l.length]'(Nat.mod_lt _ (by omega))))] := by
  have hl : (prs l).length = l.length := by simp [prs]
  rw [List.take_succ_eq_append_getElem (by omega)]
  congr 2
  have h2 : (i + 1) % l.length < l.length := Nat.mod_lt _ (by omega)
  simp [prs, List.getD_eq_getElem?_getD, hi, h2]
theorem prs_all (l : List Int) : (prs l).take l.length = prs l := List.take_of_length_le (by simp [prs])
def inR (m : Nat) (D : List Int) : Prop := (∀ x ∈ D, 0 ≤ x ∧ x < (m : Int)) ∧ D.Nodup
theorem inR.sub {m : Nat} {D E : List Int} (h : inR m E) (hs : D.Sublist E) : inR m D := ⟨fun x hx => h.1 x (hs.subset hx), hs.nodup h.2⟩
theorem inR.snoc {m : Nat} {D : List Int} {x : Int} (h : inR m D) (h0 : 0 ≤ x) (h1 : x < m) (h2 : x ∉ D) : inR m (D ++ [x]) := by
  refine ⟨fun y hy => ?_, ?_⟩
  · rcases List.mem_append.1 hy with c | c
    · exact h.1 y c
    · rw [List.mem_singleton.1 c]; exact ⟨h0, h1⟩
  · rw [List.nodup_append]
    refine ⟨h.2, by simp, fun a ha b hb e => ?_⟩
    rw [List.mem_singleton.1 hb] at e
    exact h2 (e ▸ ha)
def goodC (m : Nat) (ls : List (List Int)) : Prop := (∀ l ∈ ls, l ≠ []) ∧ inR m ls.flatten
theorem flat_succ (ls : List (List Int)) {j : Nat} (hj : j < ls.length) : (ls.take (j + 1)).flatten = (ls.take j).flatten ++ ls[j] := by
  rw [List.take_succ_eq_append_getElem hj, List.flatten_append, List.flatten_cons, List.flatten_nil, List.append_nil]
theorem prs_flat (ls : List (List Int)) {j : Nat} (hj : j < ls.length) : (ls.take (j + 1)).flatMap prs = (ls.take j).flatMap prs ++ prs ls[j] := by
  rw [List.take_succ_eq_append_getElem hj, List.flatMap_append, List.flatMap_cons, List.flatMap_nil, List.append_nil]
theorem flat_sub (ls : List (List Int)) {j i : Nat} (hj : j < ls.length) (hi : i < ls[j].length) : ((ls.take j).flatten ++ ls[j].take i ++ [ls[j][i]]).Sublist ls.flatten := by
  have e : ls[j].take i ++ [ls[j][i]] = ls[j].take (i + 1) := (List.take_succ_eq_append_getElem hi).symm
  rw [List.append_assoc, e]
  have h1 : ((ls.take j).flatten ++ ls[j].take (i + 1)).Sublist ((ls.take (j + 1)).flatten) := by
    rw [flat_succ ls hj]
    exact List.Sublist.append (List.Sublist.refl _) (List.take_sublist _ _)
  refine h1.trans ?_
  conv => rhs; rw [← List.take_append_drop (j + 1) ls, List.flatten_append]
  exact List.sublist_append_left _ _
def metB (D : List Int) : Nat → Bool := fun y => decide ((y : Int) ∈ D)
theorem metB_snoc (D : List Int) (y : Nat) : mset (metB D) y = metB (D ++ [(y : Int)]) := by
  funext z
  unfold mset metB
  by_cases c : z = y
  · subst c; simp
  · have : ¬ (z : Int) = (y : Int) := by omega
    simp [c, this]
theorem metB_nil : metB [] = fun _ => false := by funext z; simp [metB]

/-- what the program and the model have made: the result's cell, the places, what has been used -/
structure PW (w wr : World) (G : Nat) (f : Nat → Nat) (b : Nat → Bool) : Prop where
  low : Below w.heap.size w wr
  res : rowOk wr w.heap.size 16
  out : wr.heap[G]? = some (.cells (av f) 42 (0, 0))
  met : wr.heap[G + 1]? = some (.cells (bv b) 88 (0, 0))
  pos : w.heap.size < G
theorem PW.setB {w wr : World} {G : Nat} {f : Nat → Nat} {b : Nat → Bool} (h : PW w wr G f b) (y : Nat) : PW w (wr.setCell ⟨G + 1, y, none⟩ (.bool true)) G f (mset b y) := by
  have hp := h.pos
  refine ⟨below_setCell h.low (by omega) _ _, rowOk_setCell h.res, ?_, ?_, hp⟩
  · rw [Below.heap_setCell wr ⟨G + 1, y, none⟩ _ _ (show G ≠ G + 1 by omega)]; exact h.out
  · rw [heap_setCell_same _ _ _ _ _ _ h.met, bv_set]
theorem PW.setO {w wr : World} {G : Nat} {f : Nat → Nat} {b : Nat → Bool} (h : PW w wr G f b) (y v : Nat) : PW w (wr.setCell ⟨G, y, none⟩ (.int .u8 v)) G (fset f y v) b := by
  have hp := h.pos
  refine ⟨below_setCell h.low (by omega) _ _, rowOk_setCell h.res, ?_, ?_, hp⟩
  · rw [heap_setCell_same _ _ _ _ _ _ h.out, av_set]
  · rw [Below.heap_setCell wr ⟨G, y, none⟩ _ _ (show G + 1 ≠ G by omega)]; exact h.met
open Classical in
noncomputable def pocR (ls : List (List Int)) (n : Int) : Value := if 1 ≤ n ∧ n ≤ 16 ∧ goodC n.toNat ls then .tuple #[.agg (av (outP n.toNat (ls.flatMap prs))), .int .i64 0] else .tuple #[.agg (av fun _ => 0), .int .i64 2]
theorem pocR_eq (ls : List (List Int)) (n : Int) : ∃ (r : Nat → Nat) (c : Int), pocR ls n = .tuple #[.agg (av r), .int .i64 c] := by
  unfold pocR; split
  · exact ⟨_, _, rfl⟩
  · exact ⟨_, _, rfl⟩

-- left out here: loop.example/g01200/impl.PlacesOfCycles
end Go.Proofs.Ytlmhnimpglookaa

namespace Go.Proofs.Ytlmhnimpglookaa
open Go.RowKit

theorem PW.drew {w wr : World} {G : Nat} {f : Nat → Nat} {b : Nat → Bool} (h : PW w wr G f b) : PW w wr.drew G f b := ⟨h.low.drew, h.res, h.out, h.met, h.pos⟩
theorem in_any (n a b : Int) (w : World) : Calls Try.prog 51 #[.int .i64 n, .int .i64 a, .int .i64 b] w fun e w' => e = .returned (.bool (decide (a ≤ n ∧ n ≤ b))) ∧ w = w' := by
  by_cases h : a ≤ n ∧ n ≤ b
  · rw [decide_eq_true h]; exact in_yes n a b w h.1 h.2
  · rw [decide_eq_false h]; exact in_no n a b w h
open Classical in
noncomputable def madeR (ls : List (List Int)) (n : Int) : Value := if 1 ≤ n ∧ n ≤ 16 ∧ goodC n.toNat ls then .tuple #[.agg (av (outP n.toNat (ls.flatMap prs))), .bool true] else .tuple #[.agg (av fun _ => 0), .bool false]

-- left out here: loop.example/g01200/spec.l01Made
-- left out here: loop.example/g01200/spec.PlacesOfCycles
end Go.Proofs.Ytlmhnimpglookaa
