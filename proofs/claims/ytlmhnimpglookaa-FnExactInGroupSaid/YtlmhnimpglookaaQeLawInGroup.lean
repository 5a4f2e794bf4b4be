/- Texts put together: SameD, Iso, Grn, Grp, Sie, Sv, Sft, Prds, AddM, Grn2 -/
import Derived.Test.YtlmhnimpglookaaQdLawInGroup
import Derived.Test.YtlmhnimpglookaaChecked
import Derived.WalkKit
import Derived.WalkSpells
import Derived.WalkLawsBesides
import Derived.Deep.LoopGhost
import Derived.Deep.OwnRows
import Derived.Laws.Rows
import Derived.Laws.Tables
import Derived.Laws.CopyOwn
import Derived.ProofKit
import Derived.OpenShut
import Derived.ShutString
import Derived.ChangeOld
import Derived.Below
import Derived.Laws.OwnMore
import Derived.Laws.CopyRow
import Derived.Deep.MidRow
import Derived.BigQuiet
import Derived.Deep.QuietTactic
import Derived.RegionTactic
import Derived.Deep.RegionWith
import Derived.Maps.Keyed
import Derived.DeepKeys4
import Derived.Maps.Own
import Derived.Carry
import Derived.Deep.Quiet
import Derived.StillTail
import Derived.ChangeKeysEq
import Derived.StillTailTactics
import Derived.Deep.RegionHeld3
import Derived.Laws.Cover3
import Derived.Lib.Bytealg
import Derived.Lib.BytesEntry
import Derived.Laws.Externs
import Derived.Laws.StructEq
import Derived.WalkMore
namespace Go.Proofs.Ytlmhnimpglookaa
open Go.RowKit

theorem run_items2 (d : Nat) (f g : Nat → Nat) (w : World) : ∀ is : List Nat, (∀ i ∈ is, i < 16) →
    (Op.eqItems (d + 1) 5 1 (av f) (av g) is).run Try.prog w = .ok (is.all fun i => ((f i : Nat) : Int) == ((g i : Nat) : Int)) w
  | [], _ => by simp [Op.eqItems]
  | i :: is, h => by
    have hi := h i (by simp)
    have ih := run_items2 d f g w is fun j hj => h j (by simp [hj])
    have h1 := run_part_plain w plain8 (av_get f hi)
    have h2 := run_part_plain w plain8 (av_get g hi)
    have h3 := run_equalIn_int w d 5 .u8 .u8 (f i) (g i) Try.underlying5
    simp only [Op.eqItems, Nat.mul_one, Sem.run_bind, h1, h2, h3, Result.andThen_ok, List.all_cons]
    rcases hb : (((f i : Nat) : Int) == ((g i : Nat) : Int)) with _ | _
    · simp
    · simp [ih]
theorem run_sameP2 (d : Nat) (f g : Nat → Nat) (w : World) : (Op.equalIn (d + 2) 42 (.agg (av f)) (.agg (av g))).run Try.prog w = .ok (sameB f g) w := by
  obtain ⟨i0, hi, _⟩ := info_parts info8
  have h := run_equalIn_array w (d + 1) (av f) (av g) Try.underlying42 hi
  rw [cells8] at h
  rw [h, run_items2 d f g w _ (by simp)]
  unfold sameB; rfl
theorem info64D : (Try.prog.info? 2).map (·.size) = some 1 := by kernel_rfl
theorem infoPD : (Try.prog.info? 42).map (·.size) = some 16 := by kernel_rfl
theorem part_n (n : Int) (F G : Nat → Nat) (w : World) : (part 2 (dv n F G) 0).run Try.prog w = .ok (.int .i64 n) w :=
  run_part_plain w (by kernel_rfl) (dv_n n F G)
theorem part_b (n : Int) (F G : Nat → Nat) (w : World) : (part 42 (dv n F G) 1).run Try.prog w = .ok (.agg (av F)) w := by
  rcases hi : Try.prog.info? 42 with _ | i
  · have := infoPD; rw [hi] at this; cases this
  · have hsz : i.size = 16 := by have := infoPD; rw [hi] at this; simpa using this
    have hag : (isAgg 42).run Try.prog w = .ok true w := by simp [isAgg, run_underlying Try.underlying42]
    have e := blackOf_dv n F G
    unfold blackOf at e
    simp [part, hag, sizeOf, typeInfo, hi, hsz, e]
theorem part_w (n : Int) (F G : Nat → Nat) (w : World) : (part 42 (dv n F G) 17).run Try.prog w = .ok (.agg (av G)) w := by
  rcases hi : Try.prog.info? 42 with _ | i
  · have := infoPD; rw [hi] at this; cases this
  · have hsz : i.size = 16 := by have := infoPD; rw [hi] at this; simpa using this
    have hag : (isAgg 42).run Try.prog w = .ok true w := by simp [isAgg, run_underlying Try.underlying42]
    have e := whiteOf_dv n F G
    unfold whiteOf at e
    simp [part, hag, sizeOf, typeInfo, hi, hsz, e]
@[irreducible] def eqDB (n : Int) (F G : Nat → Nat) (n' : Int) (F' G' : Nat → Nat) : Bool := (n == n') && (sameB F F' && sameB G G')
theorem eqDB_iff (n : Int) (F G : Nat → Nat) (n' : Int) (F' G' : Nat → Nat) : eqDB n F G n' F' G' = true ↔ dv n F G = dv n' F' G' := by
  unfold eqDB
  rw [Bool.and_eq_true, Bool.and_eq_true, beq_iff_eq, sameB_iff, sameB_iff]
  constructor
  · rintro ⟨rfl, h1, h2⟩
    unfold dv
    apply row_congr
    intro i hi
    by_cases c : i = 0
    · rw [if_pos c, if_pos c]
    · rw [if_neg c, if_neg c]
      by_cases d : i < 17
      · rw [if_pos d, if_pos d, h1 (i - 1) (by omega)]
      · rw [if_neg d, if_neg d, h2 (i - 17) (by omega)]
  · intro h
    have hn : (dv n F G)[0]? = (dv n' F' G')[0]? := by rw [h]
    rw [dv_n, dv_n] at hn
    refine ⟨by simpa using hn, fun i hi => ?_, fun i hi => ?_⟩
    · have hb : (dv n F G)[1 + i]? = (dv n' F' G')[1 + i]? := by rw [h]
      rw [dv_b _ _ _ hi, dv_b _ _ _ hi] at hb
      simp at hb; omega
    · have hb : (dv n F G)[17 + i]? = (dv n' F' G')[17 + i]? := by rw [h]
      rw [dv_w _ _ _ hi, dv_w _ _ _ hi] at hb
      simp at hb; omega
theorem run_sameD (n : Int) (F G : Nat → Nat) (n' : Int) (F' G' : Nat → Nat) (w : World) : (Op.equalIn 10000 44 (.agg (dv n F G)) (.agg (dv n' F' G'))).run Try.prog w = .ok (eqDB n F G n' F' G') w := by
  have ht : Try.prog.underlying 44 = some (.struct (Try.prog.fieldsOf 44)) := by kernel_rfl
  have hp : Try.prog.stoodInHeld 44 = false := by kernel_rfl
  rw [run_equalIn_struct w 9999 44 _ _ ht hp]
  have hi : (Op.equalIn 9999 2 (.int .i64 n) (.int .i64 n')).run Try.prog w = .ok (n == n') w := run_equalIn_int w 9998 2 .i64 .i64 n n' Try.underlying2
  have hb : (Op.equalIn 9999 42 (.agg (av F)) (.agg (av F'))).run Try.prog w = .ok (sameB F F') w := run_sameP2 9997 F F' w
  have hw : (Op.equalIn 9999 42 (.agg (av G)) (.agg (av G'))).run Try.prog w = .ok (sameB G G') w := run_sameP2 9997 G G' w
  unfold eqDB
  rcases h1 : n == n' with _ | _
  · rw [h1] at hi
    simp [Program.fieldsOf, Try.underlying44, Op.eqFields, part_n, hi]
  · rw [h1] at hi
    rcases h2 : sameB F F' with _ | _
    · rw [h2] at hb
      simp [Program.fieldsOf, Try.underlying44, Op.eqFields, part_n, part_b, hi, hb]
    · rw [h2] at hb
      rcases h3 : sameB G G' with _ | _
      · rw [h3] at hw
        simp [Program.fieldsOf, Try.underlying44, Op.eqFields, part_n, part_b, part_w, hi, hb, hw]
      · rw [h3] at hw
        simp [Program.fieldsOf, Try.underlying44, Op.eqFields, part_n, part_b, part_w, hi, hb, hw]
@[go_sem] theorem guardD : Try.prog.eqGuardType Try.prog.depth 44 = false := by kernel_rfl
@[go_sem ↓] theorem run_eqlD (n : Int) (F G : Nat → Nat) (n' : Int) (F' G' : Nat → Nat) (w : World) : (binOp .eql 44 (.agg (dv n F G)) (.agg (dv n' F' G'))).run Try.prog w = .ok (.bool (eqDB n F G n' F' G')) w := by
  rw [run_eql_struct, run_sameD]; rfl
@[go_sem ↓] theorem run_neqD (n : Int) (F G : Nat → Nat) (n' : Int) (F' G' : Nat → Nat) (w : World) : (binOp .neq 44 (.agg (dv n F G)) (.agg (dv n' F' G'))).run Try.prog w = .ok (.bool (!eqDB n F G n' F' G')) w := by
  rw [run_neq_struct, run_sameD]; rfl
end Go.Proofs.Ytlmhnimpglookaa

namespace Go.Proofs.Ytlmhnimpglookaa
open Go.RowKit

/-- from the form of one dessin back by a naming of the other one -/
def isoP (first : Nat → Nat) (k : Nat) (s : Nat → Nat) : Nat → Nat := thenF first (backF s k) k
/-- all isomorphisms -/
noncomputable def isoL (f g : Nat → Nat) (m : Nat) (f' g' : Nat → Nat) (k : Nat) : List (Nat → Nat) := (lstT (formK f' g' k) (namF f' g' k) k (formK f g m 0)).map (isoP (namF f g m 0) k)
theorem isoL_len (f g : Nat → Nat) (m : Nat) (f' g' : Nat → Nat) (k : Nat) : (isoL f g m f' g' k).length ≤ k := by unfold isoL; rw [List.length_map]; exact lstT_len _ _ _ _
theorem upon_appPl {o : Oper} {a : Act} {w0 w : World} {L : List Part} (H : Holds w0 w L) (k : Nat) {v : Value} {l : List (Nat → Nat)} (hk : L[k]? = some (pPl v l))
    (g : Nat) (p : Nat → Nat) (t : TypeId) (hc : w.heap[g]? = some (.cells (av p) t (0, 0))) (hb : l.length ≤ 100000) {C : World → Prop} {R : Value → World → Prop}
    (h : ∀ v' w', Holds w0 w' (L.set k (pPl v' (l ++ [p]))) → C w' ∧ R v' w') (s x : Operand)
    (ho : o.op = .call { callee := .builtin .append, args := #[s, x], argTypes := #[86, 86] })
    (hs : a.eval s = v) (hx : a.eval x = .slice (some ⟨g, 0, none⟩) 1 1) : Rd.uponE Try.prog C R w ((execOp a.eval o).run Try.prog w) := by
  obtain ⟨v', w', h1, h2⟩ := run_appPl H k hk g p t hc hb s x ho hs hx
  rw [h1]
  exact h v' w' h2

-- left out here: loop.example/g01200/impl.isomorphisms
end Go.Proofs.Ytlmhnimpglookaa

namespace Go.Proofs.Ytlmhnimpglookaa
open Go.RowKit

@[irreducible] def gv (p : Nat → Nat) (y : Int) : Array Value := row 17 fun i => if i = 16 then .int .i64 y else .int .u8 (p i)
theorem gv_size (p : Nat → Nat) (y : Int) : (gv p y).size = 17 := by unfold gv; exact row_size _ _
theorem gv_cases (p : Nat → Nat) (y : Int) (i : Nat) : (gv p y)[i]? = if i < 17 then some (if i = 16 then .int .i64 y else .int .u8 (p i)) else none := by
  unfold gv
  by_cases c : i < 17
  · rw [row_get _ _ c, if_pos c]
  · rw [row_none _ _ c, if_neg c]
theorem gv_len (p : Nat → Nat) (y : Int) : (gv p y).toList.length = 17 := by rw [Array.length_toList, gv_size]
theorem gv_cells (p : Nat → Nat) (y : Int) : (gv p y).all (·.oneCell') = true := by
  unfold gv row
  simp [Value.oneCell']
  intro x _
  by_cases c : x = 16
  · rw [if_pos c]
  · rw [if_neg c]
theorem gv_level (p : Nat → Nat) (y : Int) : (gv p y)[16]? = some (.int .i64 y) := by rw [gv_cases]; rfl
theorem gv_places (p : Nat → Nat) (y : Int) : (gv p y).extract 0 16 = av p := by
  apply Array.ext_getElem?
  intro i
  rw [Array.getElem?_extract, av_cases, gv_cases, gv_size]
  by_cases c : i < 16
  · rw [if_pos (by omega), if_pos (by omega), if_neg (by omega), if_pos c, Nat.zero_add]
  · rw [if_neg (by omega), if_neg c]
theorem gv_zero : gv (fun _ => 0) 0 = #[.int .u8 0, .int .u8 0, .int .u8 0, .int .u8 0, .int .u8 0, .int .u8 0, .int .u8 0, .int .u8 0, .int .u8 0, .int .u8 0, .int .u8 0, .int .u8 0, .int .u8 0, .int .u8 0, .int .u8 0, .int .u8 0, .int .i64 0] := by unfold gv row; rfl

def grB (l : List ((Nat → Nat) × Nat)) : List Value := l.flatMap fun q => (gv q.1 q.2).toList
theorem grB_cons (q : (Nat → Nat) × Nat) (l : List ((Nat → Nat) × Nat)) : grB (q :: l) = (gv q.1 q.2).toList ++ grB l := rfl
theorem grB_length (l : List ((Nat → Nat) × Nat)) : (grB l).length = l.length * 17 := by
  induction l with
  | nil => rfl
  | cons p l ih => rw [grB_cons, List.length_append, ih, gv_len, List.length_cons, Nat.succ_mul]; omega
theorem grB_append (l l' : List ((Nat → Nat) × Nat)) : grB (l ++ l') = grB l ++ grB l' := by unfold grB; simp
theorem grB_one {l : List ((Nat → Nat) × Nat)} : ∀ u ∈ grB l, u.oneCell' = true := by
  intro u hu
  unfold grB at hu
  obtain ⟨p, _, hp⟩ := List.mem_flatMap.1 hu
  have := Array.all_eq_true_iff_forall_mem.1 (gv_cells p.1 p.2) u (by simpa using hp)
  exact this
theorem grB_at {l : List ((Nat → Nat) × Nat)} {k : Nat} (hk : k < l.length) {i : Nat} (hi : i < 17) : (grB l)[k * 17 + i]? = (gv l[k].1 l[k].2)[i]? := by
  induction l generalizing k with
  | nil => simp at hk
  | cons p l ih =>
    rw [grB_cons]
    rcases k with _ | k
    · rw [Nat.zero_mul, Nat.zero_add, List.getElem?_append_left (by rw [gv_len]; exact hi), Array.getElem?_toList]; rfl
    · rw [List.getElem?_append_right (by rw [gv_len]; omega), gv_len, show (k + 1) * 17 + i - 17 = k * 17 + i by omega]
      exact ih (k := k) (by simpa using hk)
theorem grB_ext {l : List ((Nat → Nat) × Nat)} {cur : Array Value} (h : cur.toList.take (l.length * 17) = grB l) {k : Nat} (hk : k < l.length) : cur.extract (k * 17) (k * 17 + 17) = gv l[k].1 l[k].2 := by
  have hlen : l.length * 17 ≤ cur.size := by
    have h1 := congrArg List.length h
    rw [grB_length, List.length_take] at h1
    have h2 : cur.toList.length = cur.size := Array.length_toList
    rw [← h2, ← h1]
    exact Nat.min_le_right _ _
  have hk16 : k * 17 + 17 ≤ l.length * 17 := by omega
  apply Array.ext_getElem?
  intro i
  rw [Array.getElem?_extract]
  by_cases c : i < 17
  · rw [if_pos (by omega)]
    have h1 := grB_at hk c
    rw [← h, List.getElem?_take_of_lt (by omega), Array.getElem?_toList] at h1
    exact h1
  · rw [if_neg (by omega), Array.getElem?_eq_none (by rw [gv_size]; omega)]
theorem infoGr : (Try.prog.info? 122).map (fun i => (i.zero, i.size, i.bytes)) = some (some (.agg #[.int .u8 0, .int .u8 0, .int .u8 0, .int .u8 0, .int .u8 0, .int .u8 0, .int .u8 0, .int .u8 0, .int .u8 0, .int .u8 0, .int .u8 0, .int .u8 0, .int .u8 0, .int .u8 0, .int .u8 0, .int .u8 0, .int .i64 0]), 17, 24) := by kernel_rfl
/-- a row of grains, its part -/
def pGr (v : Value) (l : List ((Nat → Nat) × Nat)) : Part := pRow v 122 17 l.length (grB l)
theorem Holds.grForm {w0 w : World} {L : List Part} (h : Holds w0 w L) (i : Nat) {v : Value} {l : List ((Nat → Nat) × Nat)} (hi : L[i]? = some (pGr v l)) : ∃ A c, v = .slice A l.length c := own_slice (h.row i hi)

set_option maxRecDepth 1000000 in
theorem builtGr (p : Nat → Nat) (y : Int) : Try.prog.built 122 [(0, .agg (av p)), (1, .int .i64 y)] = some (gv p y) := by
  have hu : Try.prog.underlying 122 = some (.struct _) := Try.underlying122
  have hz : (Try.prog.info? 122).map (·.zero) = some (some (.agg (gv (fun _ => 0) 0))) := by rw [gv_zero]; kernel_rfl
  unfold Program.built
  rcases hi : Try.prog.info? 122 with _ | it
  · rw [hi] at hz; cases hz
  · rw [hi] at hz
    have hz' : it.zero = some (.agg (gv (fun _ => 0) 0)) := by simpa using hz
    rw [hu]
    simp only [hz']
    generalize he : List.mapM (fun (f : Field) => Option.map (fun i => (f.offset, i.size)) (Try.prog.info? f.type)) _ = z
    have hz2 : z = some [(0, 16), (16, 1)] := he.symm.trans (by kernel_rfl)
    subst hz2
    simp only [Instr.fill, Value.cells, List.getElem?_toArray, List.getElem?_cons_zero, List.getElem?_cons_succ, av_size, splice_eq, splice_size, gv_size]
    rw [if_neg (by simp), if_neg (by simp)]
    congr 1
    apply Array.ext_getElem?
    intro i
    have l1 : (av p).toList.length = 16 := by simpa using av_size p
    rw [foldset, foldset, gv_cases, gv_cases, splice_size, gv_size, l1, Array.getElem?_toList, Array.getElem?_toList, av_cases]
    simp only [List.length_cons, List.length_nil, Nat.zero_add, Nat.add_zero, Nat.sub_zero]
    by_cases h0 : i = 16
    · subst h0; simp
    · by_cases h1 : i < 16
      · rw [if_neg (by omega), if_pos (by omega), if_pos (by omega), if_pos (by omega), if_neg h0]
      · rw [if_neg (by omega), if_neg (by omega), if_neg (by omega), if_neg (by omega)]
/-- what the operation 'build a grain' does -/
def buildGr (ps : Array (Nat × Value)) : Sem Next := do pure (.value (← Instr.build 122 ps))
@[go_sem ↓] theorem exec_buildGr (ρ : Operand → Value) (dst : Option Tmp) (parts : Array (Nat × Operand)) (ty : TypeId) (pos : String) (after : Array Edge) (guard : Option (Nat × Bool)) :
    execOp ρ { dst, op := .build 122 parts, type := ty, pos, after, guard } = buildGr (parts.map fun (i, x) => (i, ρ x)) := rfl
@[go_sem] theorem run_buildGr (p : Nat → Nat) (y : Int) (w : World) : (buildGr #[(0, .agg (av p)), (1, .int .i64 y)]).run Try.prog w = .ok (.value (.agg (gv p y))) w := by
  simp only [buildGr, Sem.run_bind, run_build (P := Try.prog) w 122 #[(0, .agg (av p)), (1, .int .i64 y)] _ (builtGr p y), Result.andThen_ok, Sem.run_pure]
/-- one grain laid for an append -/
def buildSlGr (n : Nat) (ps : Array (Nat × Value)) : Sem Next := do pure (.value (← Instr.buildSlice 123 n ps))
@[go_sem ↓] theorem exec_buildSlGr (ρ : Operand → Value) (dst : Option Tmp) (n : Nat) (parts : Array (Nat × Operand)) (ty : TypeId) (pos : String) (after : Array Edge) (guard : Option (Nat × Bool)) :
    execOp ρ { dst, op := .buildSlice 123 n parts, type := ty, pos, after, guard } = buildSlGr n (parts.map fun (i, x) => (i, ρ x)) := rfl
theorem fillGr (p : Nat → Nat) (y : Int) (cs : Array Value) (hcs : cs.size = 17) : Instr.fill (fun i => some (i * 17, 17)) cs [(0, .agg (gv p y))] = some (gv p y) := by
  simp only [Instr.fill, Value.cells, gv_size, hcs, splice_eq]
  rw [if_neg (by simp)]
  congr 1
  apply Array.ext_getElem?
  intro i
  rw [foldset, hcs, gv_len, Array.getElem?_toList]
  by_cases c : i < 17
  · rw [if_pos (by omega)]; congr 1
  · rw [if_neg (by omega), Array.getElem?_eq_none (by rw [hcs]; omega), Array.getElem?_eq_none (by rw [gv_size]; omega)]
@[go_sem] theorem run_bslGr (p : Nat → Nat) (y : Int) (w : World) : (buildSlGr 1 #[(0, .agg (gv p y))]).run Try.prog w = .ok (.value (.slice (some ⟨w.heap.size, 0, none⟩) 1 1)) (w.alloc (.cells (gv p y) 122)) := by
  obtain ⟨i0, hi, hz0, hz1, _⟩ := info_parts infoGr
  have hsz : ¬ (1 * i0.size > 2 ^ 24) := by rw [hz1]; decide
  have hnz : ¬ (1 * i0.size = 0) := by rw [hz1]; decide
  have hff : ∀ cs : Array Value, cs.size = 17 → Instr.fill (fun i => some (i * i0.size, i0.size)) cs [(0, .agg (gv p y))] = some (gv p y) := fun cs h => by rw [hz1]; exact fillGr p y cs h
  simp only [buildSlGr, Instr.buildSlice, run_underlying Try.underlying123, sizeOf, typeInfo, hi, zeroValue, hz0, Sem.run_bind, Sem.run_pure, Result.andThen_ok, run_program, hsz, hnz, if_false]
  rw [hff _ (by simp [hz1])]
  rfl
theorem run_appGr {o : Oper} {a : Act} {w0 w : World} {L : List Part} (H : Holds w0 w L) (k : Nat) {v : Value} {l : List ((Nat → Nat) × Nat)} (hk : L[k]? = some (pGr v l))
    (g : Nat) (q : (Nat → Nat) × Nat) (t : TypeId) (hc : w.heap[g]? = some (.cells (gv q.1 q.2) t (0, 0))) (hb : l.length ≤ 1000000) (s x : Operand)
    (ho : o.op = .call { callee := .builtin .append, args := #[s, x], argTypes := #[123, 123] })
    (hs : a.eval s = v) (hx : a.eval x = .slice (some ⟨g, 0, none⟩) 1 1) :
    ∃ v' w', (execOp a.eval o).run Try.prog w = .ok (.value v') w' ∧ Holds w0 w' (L.set k (pGr v' (l ++ [q]))) := by
  obtain ⟨i0, hi, hz0, hz1, hz2⟩ := info_parts infoGr
  obtain ⟨v', w', h1, h2, _⟩ := run_appH (P := Try.prog) (w := w) 123 o.type 122 i0 _ 17 24 Try.underlying123 hi hz0 hz1 hz2 rfl (by decide) v l.length (grB l) H k hk ⟨g, 0, none⟩ 1 1 (gv q.1 q.2).toList
    (by rw [gv_len]) (fun j u hu => by
      have : ((⟨g, 0, none⟩ : Addr).add j) = ⟨g, j, none⟩ := by simp [Addr.add]; exact Eq.symm
      rw [this, cell_of_cells, cellsOf_heap hc]
      simpa using hu) (fun u hu => grB_one (l := [q]) u (by unfold grB; simpa using hu)) (by unfold maxLen; omega) (by omega)
  refine ⟨v', w', exec_append ho hs hx h1, ?_⟩
  unfold pGr at *
  have e : grB (l ++ [q]) = grB l ++ (gv q.1 q.2).toList := by rw [grB_append]; unfold grB; simp
  rw [List.length_append, e]
  exact h2
theorem upon_appGr {o : Oper} {a : Act} {w0 w : World} {L : List Part} (H : Holds w0 w L) (k : Nat) {v : Value} {l : List ((Nat → Nat) × Nat)} (hk : L[k]? = some (pGr v l))
    (g : Nat) (q : (Nat → Nat) × Nat) (t : TypeId) (hc : w.heap[g]? = some (.cells (gv q.1 q.2) t (0, 0))) (hb : l.length ≤ 1000000) {C : World → Prop} {R : Value → World → Prop}
    (h : ∀ v' w', Holds w0 w' (L.set k (pGr v' (l ++ [q]))) → C w' ∧ R v' w') (s x : Operand)
    (ho : o.op = .call { callee := .builtin .append, args := #[s, x], argTypes := #[123, 123] })
    (hs : a.eval s = v) (hx : a.eval x = .slice (some ⟨g, 0, none⟩) 1 1) : Rd.uponE Try.prog C R w ((execOp a.eval o).run Try.prog w) := by
  obtain ⟨v', w', h1, h2⟩ := run_appGr H k hk g q t hc hb s x ho hs hx
  rw [h1]
  exact h v' w' h2
/-- a row's list, appended as a whole (append(waiting, made...)) -/
theorem appGrs {ops : Array Oper} {rest : List Oper} {o : Oper} {a : Act} {Q : Exit → Act → World → Prop} {w0 w : World} {L : List Part} (H : Holds w0 w L) (k : Nat) {v : Value} {l l2 : List ((Nat → Nat) × Nat)} (hk : L[k]? = some (pGr v l))
    (g c : Nat) (hn : ∀ j u, (grB l2)[j]? = some u → w.cell? ⟨g, j, none⟩ = some u) (hb : l.length + l2.length ≤ 1000000)
    (hgd : o.guard = none) (s x : Operand)
    (ho : o.op = .call { callee := .builtin .append, args := #[s, x], argTypes := #[123, 123] })
    (hs : a.eval s = v) (hx : a.eval x = .slice (some ⟨g, 0, none⟩) l2.length c)
    (h : ∀ v' w', Holds w0 w' (L.set k (pGr v' (l ++ l2))) → wpList Try.prog ops Q rest (a.put o.dst v') w') : wpList Try.prog ops Q (o :: rest) a w := by
  obtain ⟨i0, hi, hz0, hz1, hz2⟩ := info_parts infoGr
  refine appH (P := Try.prog) hgd s x 123 ho 122 i0 _ 17 24 Try.underlying123 hi hz0 hz1 hz2 rfl (by decide) v l.length (grB l) hs H k hk ⟨g, 0, none⟩ l2.length c (grB l2) hx
    (grB_length l2) (fun j u hu => ?_) (fun u hu => grB_one u hu) (by unfold maxLen; omega) (by omega) fun v' w' h1 => h v' w' ?_
  · have : ((⟨g, 0, none⟩ : Addr).add j) = ⟨g, j, none⟩ := by simp [Addr.add]; exact Eq.symm
    rw [this]
    exact hn j u hu
  · unfold pGr at *
    rw [List.length_append, grB_append]
    exact h1
end Go.Proofs.Ytlmhnimpglookaa

namespace Go.Proofs.Ytlmhnimpglookaa

/-- equal on the first n numbers -/
def EqN (n : Nat) (p q : Nat → Nat) : Prop := ∀ x, x < n → p x = q x
theorem EqN.symm {n : Nat} {p q : Nat → Nat} (h : EqN n p q) : EqN n q p := fun x hx => (h x hx).symm
theorem EqN.trans {n : Nat} {p q r : Nat → Nat} (h : EqN n p q) (k : EqN n q r) : EqN n p r := fun x hx => (h x hx).trans (k x hx)
/-- all products of some permutations -/
inductive Gen (n : Nat) (S : (Nat → Nat) → Prop) : (Nat → Nat) → Prop
  | one {p : Nat → Nat} : EqN n p (fun x => x) → Gen n S p
  | mul {p s r : Nat → Nat} : Gen n S p → S s → (∀ x, x < n → r x = s (p x)) → Gen n S r
section
variable {n : Nat} {S T : (Nat → Nat) → Prop}
theorem Gen.ext {p q : Nat → Nat} (h : Gen n S p) (e : EqN n p q) : Gen n S q := by
  cases h with
  | one h => exact .one (e.symm.trans h)
  | mul h1 h2 h3 => exact .mul h1 h2 fun x hx => (e x hx).symm.trans (h3 x hx)
theorem Gen.of {s : Nat → Nat} (h : S s) : Gen n S s := .mul (.one fun _ _ => rfl) h fun _ _ => rfl
theorem Gen.bij (hS : ∀ s, S s → Bij s n) {p : Nat → Nat} (h : Gen n S p) : Bij p n := by
  induction h with
  | one h => exact ⟨fun x hx => by rw [h x hx]; exact hx, fun x y hx hy e => by rw [h x hx, h y hy] at e; exact e⟩
  | mul h1 h2 h3 ih =>
    have hs := hS _ h2
    exact ⟨fun x hx => by rw [h3 x hx]; exact hs.1 _ (ih.1 x hx), fun x y hx hy e => by
      rw [h3 x hx, h3 y hy] at e
      exact ih.2 x y hx hy (hs.2 _ _ (ih.1 x hx) (ih.1 y hy) e)⟩
theorem Gen.prod (hS : ∀ s, S s → Bij s n) {p q r : Nat → Nat} (hp : Gen n S p) (hq : Gen n S q) (hr : ∀ x, x < n → r x = q (p x)) : Gen n S r := by
  have hb := hp.bij hS
  induction hq generalizing r with
  | one h => exact hp.ext fun x hx => by rw [hr x hx, h _ (hb.1 x hx)]
  | mul h1 h2 h3 ih => exact .mul (ih (r := fun x => _) fun x _ => rfl) h2 fun x hx => by rw [hr x hx, h3 _ (hb.1 x hx)]
theorem Gen.it (hS : ∀ s, S s → Bij s n) {p : Nat → Nat} (hp : Gen n S p) (k : Nat) : Gen n S (it p k) := by
  induction k with
  | zero => exact .one fun _ _ => rfl
  | succ k ih => exact ih.prod hS hp fun _ _ => rfl
theorem Gen.inv (hn : n ≤ 16) (hS : ∀ s, S s → Bij s n) {p q : Nat → Nat} (hp : Gen n S p) (hq : ∀ x, x < n → q (p x) = x) : Gen n S q := by
  have hb := hp.bij hS
  have hL := lcms_pos hb hn
  refine (hp.it hS (lcms (lens p n) - 1)).ext fun y hy => ?_
  have h1 := hb.it_lt (lcms (lens p n) - 1) hy
  have h2 : p (Proofs.Ytlmhnimpglookaa.it p (lcms (lens p n) - 1) y) = y := by
    have h3 : Proofs.Ytlmhnimpglookaa.it p (lcms (lens p n) - 1 + 1) y = y := by rw [Nat.sub_add_cancel hL]; exact order_all hb hn hy
    exact h3
  have := hq _ h1
  rw [h2] at this
  exact this.symm
theorem Gen.sub (hT : ∀ s, T s → Bij s n) (h : ∀ s, S s → Gen n T s) {p : Nat → Nat} (hp : Gen n S p) : Gen n T p := by
  induction hp with
  | one h => exact .one h
  | mul _ h2 h3 ih => exact ih.prod hT (h _ h2) h3
theorem Gen.mono (h : ∀ s, S s → T s) {p : Nat → Nat} (hp : Gen n S p) : Gen n T p := by
  induction hp with
  | one h => exact .one h
  | mul _ h2 h3 ih => exact .mul ih (h _ h2) h3
theorem Gen.fix {k : Nat} (hS : ∀ s, S s → ∀ x, x < k → s x = x) (hk : k ≤ n) {p : Nat → Nat} (hp : Gen n S p) : ∀ x, x < k → p x = x := by
  induction hp with
  | one h => exact fun x hx => h x (by omega)
  | mul _ h2 h3 ih => exact fun x hx => by rw [h3 x (by omega), ih x hx, hS _ h2 x hx]
end
/-- products of one way a level, from level k on -/
inductive In (n : Nat) (U : Nat → List (Nat → Nat)) : Nat → (Nat → Nat) → Prop
  | done {p : Nat → Nat} : EqN n p (fun x => x) → In n U n p
  | step {k : Nat} {u h p : Nat → Nat} : k < n → u ∈ U k → In n U (k + 1) h → (∀ x, x < n → p x = u (h x)) → In n U k p
section
variable {n : Nat} {U V M : Nat → List (Nat → Nat)}
theorem In.ext {k : Nat} {p q : Nat → Nat} (h : In n U k p) (e : EqN n p q) : In n U k q := by
  cases h with
  | done h => exact .done (e.symm.trans h)
  | step h1 h2 h3 h4 => exact .step h1 h2 h3 fun x hx => (e x hx).symm.trans (h4 x hx)
theorem In.mono {k : Nat} {p : Nat → Nat} (h : In n U k p) (hs : ∀ j, k ≤ j → ∀ u ∈ U j, u ∈ V j) : In n V k p := by
  induction h with
  | done h => exact .done h
  | step h1 h2 _ h4 ih => exact .step h1 (hs _ (Nat.le_refl _) _ h2) (ih fun j hj => hs j (by omega)) h4
theorem In.le {k : Nat} {p : Nat → Nat} (h : In n U k p) : k ≤ n := by cases h <;> omega
/-- the makers of a level, none at n -/
def Mk (n : Nat) (M : Nat → List (Nat → Nat)) (k : Nat) : (Nat → Nat) → Prop := fun s => k < n ∧ s ∈ M k
/-- levels from k0 on: their ways and makers keep what they must, and all products of ways and makers are products of ways -/
structure Comp (n : Nat) (U M : Nat → List (Nat → Nat)) (k0 : Nat) : Prop where
  way : ∀ k, k0 ≤ k → k < n → ∀ u ∈ U k, Bij u n ∧ (∀ x, x < k → u x = x) ∧ Gen n (Mk n M k) u
  one : ∀ k, k0 ≤ k → k < n → ∃ u ∈ U k, EqN n u (fun x => x)
  mks : ∀ k, k0 ≤ k → k < n → ∀ s ∈ M k, Bij s n ∧ ∀ x, x < k → s x = x
  down : ∀ k, k0 ≤ k → k + 1 < n → ∀ s ∈ M (k + 1), Gen n (Mk n M k) s
  prod : ∀ k, k0 ≤ k → k < n → ∀ u ∈ U k, ∀ s ∈ M k, In n U k (fun x => s (u x))
theorem Comp.up {k0 k1 : Nat} (h : Comp n U M k0) (hk : k0 ≤ k1) : Comp n U M k1 where
  way k hk1 := h.way k (by omega)
  one k hk1 := h.one k (by omega)
  mks k hk1 := h.mks k (by omega)
  down k hk1 := h.down k (by omega)
  prod k hk1 := h.prod k (by omega)
theorem Comp.bij {k0 : Nat} (h : Comp n U M k0) {k : Nat} (hk : k0 ≤ k) : ∀ s, Mk n M k s → Bij s n := fun s hs => (h.mks k hk hs.1 s hs.2).1
theorem Comp.genUp {k0 : Nat} (h : Comp n U M k0) {k : Nat} (hk : k0 ≤ k) {p : Nat → Nat} (hp : Gen n (Mk n M (k + 1)) p) : Gen n (Mk n M k) p :=
  hp.sub (h.bij hk) fun s hs => h.down k hk hs.1 s hs.2
/-- Schreier's lemma: what the makers of a level make are the products of ways from there on -/
theorem Comp.iff {k0 : Nat} (h : Comp n U M k0) : ∀ j k, k0 ≤ k → k + j = n → ∀ p, In n U k p ↔ Gen n (Mk n M k) p := by
  intro j
  induction j with
  | zero =>
    intro k hk hj p
    obtain rfl : k = n := by omega
    constructor
    · intro hi
      cases hi with
      | done e => exact .one e
      | step h1 _ _ _ => omega
    · intro hg
      cases hg with
      | one e => exact .done e
      | mul _ h2 _ => exact absurd h2.1 (by omega)
  | succ j ih =>
    intro k hk hj p
    have ih' := ih (k + 1) (by omega) (by omega)
    have hb := h.bij hk
    have hkn : k < n := by omega
    constructor
    · intro hi
      cases hi with
      | done _ => omega
      | step h1 h2 h3 h4 => exact (h.genUp hk ((ih' _).1 h3)).prod hb (h.way k hk h1 _ h2).2.2 h4
    · intro hg
      induction hg with
      | one e =>
        obtain ⟨u, hu, eu⟩ := h.one k hk hkn
        exact .step hkn hu ((ih' (fun x => x)).2 (.one fun _ _ => rfl)) fun x hx => by rw [e x hx, eu x hx]
      | @mul p s r h1 h2 h3 ihp =>
        cases ihp with
        | done _ => omega
        | @step _ u hh _ g1 g2 g3 g4 =>
          have hs := h.prod k hk hkn u g2 s h2.2
          cases hs with
          | done _ => omega
          | @step _ u' h' _ e1 e2 e3 e4 =>
            have hg1 := (ih' _).1 g3
            have hg2 := (ih' _).1 e3
            have hbh := hg1.bij (fun s hs => h.bij (by omega) s hs)
            have hbh' := hg2.bij (fun s hs => h.bij (by omega) s hs)
            refine .step hkn e2 ((ih' (fun x => h' (hh x))).2 (hg1.prod (fun s hs => h.bij (by omega) s hs) hg2 fun _ _ => rfl)) fun x hx => ?_
            have h5 := e4 (hh x) (hbh.1 x hx)
            rw [h3 x hx, g4 x hx]
            exact h5
theorem Comp.inGen {k0 k : Nat} (h : Comp n U M k0) (hk : k0 ≤ k) (hn : k ≤ n) (p : Nat → Nat) : In n U k p ↔ Gen n (Mk n M k) p := h.iff (n - k) k hk (by omega) p
theorem In.fix (hw : ∀ k, k < n → ∀ u ∈ U k, ∀ x, x < k → u x = x) {k : Nat} {p : Nat → Nat} (h : In n U k p) : ∀ x, x < k → p x = x := by
  induction h with
  | done h => exact fun x hx => h x hx
  | step h1 h2 _ h4 ih => exact fun x hx => by rw [h4 x (by omega), ih x (by omega), hw _ h1 _ h2 x hx]
theorem In.bij (hb : ∀ k, k < n → ∀ u ∈ U k, Bij u n) {k : Nat} {p : Nat → Nat} (h : In n U k p) : Bij p n := by
  induction h with
  | done h => exact Bij.congr (p := fun x => x) ⟨fun x hx => hx, fun x y _ _ e => e⟩ h.symm
  | step h1 h2 _ h4 ih => exact (ih.comp (hb _ h1 _ h2)).congr fun x hx => (h4 x hx).symm
/-- the images at the levels, each once -/
def Dist (n : Nat) (U : Nat → List (Nat → Nat)) : Prop := ∀ k, k < n → ((U k).map fun u => u k).Nodup
theorem same_of_nodup {l : List (Nat → Nat)} {k : Nat} (h : (l.map fun u => u k).Nodup) {u v : Nat → Nat} (hu : u ∈ l) (hv : v ∈ l) (e : u k = v k) : u = v := by
  induction l with
  | nil => cases hu
  | cons a l ih =>
    rw [List.map_cons, List.nodup_cons] at h
    rcases List.mem_cons.1 hu with e1 | hu'
    · rcases List.mem_cons.1 hv with e2 | hv'
      · rw [e1, e2]
      · exact (h.1 (List.mem_map.2 ⟨v, hv', by rw [← e, e1]⟩)).elim
    · rcases List.mem_cons.1 hv with e2 | hv'
      · exact (h.1 (List.mem_map.2 ⟨u, hu', by rw [e, e2]⟩)).elim
      · exact ih h.2 hu' hv'
/-- what keeps the numbers below a level is a product from there on -/
theorem In.from (hd : Dist n U) (hb : ∀ k, k < n → ∀ u ∈ U k, Bij u n) (hw : ∀ k, k < n → ∀ u ∈ U k, ∀ x, x < k → u x = x) (ho : ∀ k, k < n → ∃ u ∈ U k, EqN n u (fun x => x)) : ∀ (j k0 k1 : Nat), k0 + j = k1 → ∀ {p : Nat → Nat}, In n U k0 p → k1 ≤ n → (∀ x, x < k1 → p x = x) → In n U k1 p := by
  intro j
  induction j with
  | zero => intro k0 k1 e p hp _ _; obtain rfl : k0 = k1 := by omega
            exact hp
  | succ j ih =>
    intro k0 k1 e p hp hn hx
    cases hp with
    | done _ => omega
    | @step _ u h _ h1 h2 h3 h4 =>
      have hfix := h3.fix hw
      have hlt := (h3.bij hb).1
      obtain ⟨v, hv, ev⟩ := ho k0 h1
      have e1 : u k0 = v k0 := by
        have h5 := h4 k0 h1
        rw [hx k0 (by omega), hfix k0 (by omega)] at h5
        rw [ev k0 h1]; exact h5.symm
      obtain rfl := same_of_nodup (hd k0 h1) h2 hv e1
      exact ih (k0 + 1) k1 (by omega) (h3.ext fun x hx' => by rw [h4 x hx', ev _ (hlt x hx')]) hn hx
/-- where the permutations that keep the numbers below k lead k -/
def Orb (G : (Nat → Nat) → Prop) (k y : Nat) : Prop := ∃ p, G p ∧ (∀ x, x < k → p x = x) ∧ p k = y
open Classical in
noncomputable def orbN (n : Nat) (G : (Nat → Nat) → Prop) (k : Nat) : Nat := ((List.range n).filter fun y => decide (Orb G k y)).length
noncomputable def ordT (n : Nat) (G : (Nat → Nat) → Prop) : Nat → Nat
  | 0 => 1
  | k + 1 => ordT n G k * orbN n G k
theorem Comp.orb (h : Comp n U M 0) (hd : Dist n U) {G : (Nat → Nat) → Prop} (hG : ∀ p, G p ↔ Gen n (Mk n M 0) p) {k : Nat} (hk : k < n) (y : Nat) : Orb G k y ↔ ∃ u ∈ U k, u k = y := by
  have hb : ∀ k, k < n → ∀ u ∈ U k, Bij u n := fun k hk u hu => (h.way k (Nat.zero_le _) hk u hu).1
  have hw : ∀ k, k < n → ∀ u ∈ U k, ∀ x, x < k → u x = x := fun k hk u hu => (h.way k (Nat.zero_le _) hk u hu).2.1
  have ho : ∀ k, k < n → ∃ u ∈ U k, EqN n u (fun x => x) := fun k hk => h.one k (Nat.zero_le _) hk
  have down : ∀ j, j ≤ n → ∀ p, Gen n (Mk n M j) p → Gen n (Mk n M 0) p := by
    intro j
    induction j with
    | zero => exact fun _ _ h => h
    | succ j ih => exact fun hj p hp => ih (by omega) p (h.genUp (Nat.zero_le _) hp)
  constructor
  · rintro ⟨p, hp, hx, rfl⟩
    have h0 := (h.inGen (Nat.zero_le _) (Nat.zero_le _) p).2 ((hG p).1 hp)
    have h1 := h0.from hd hb hw ho k 0 k (by omega) (by omega) hx
    cases h1 with
    | done _ => omega
    | @step _ u h' _ g1 g2 g3 g4 => exact ⟨u, g2, by rw [g4 k hk, g3.fix hw k (by omega)]⟩
  · rintro ⟨u, hu, rfl⟩
    exact ⟨u, (hG u).2 (down k (by omega) u (h.way k (Nat.zero_le _) hk u hu).2.2), hw k hk u hu, rfl⟩
open Classical in
theorem Comp.orbN (h : Comp n U M 0) (hd : Dist n U) {G : (Nat → Nat) → Prop} (hG : ∀ p, G p ↔ Gen n (Mk n M 0) p) {k : Nat} (hk : k < n) : (U k).length = orbN n G k := by
  have hb : ∀ u ∈ U k, u k < n := fun u hu => (h.way k (Nat.zero_le _) hk u hu).1.1 k hk
  unfold Proofs.Ytlmhnimpglookaa.orbN
  have e : ((U k).map fun u => u k).length = (U k).length := List.length_map _
  rw [← e]
  refine List.Perm.length_eq ?_
  refine (List.perm_ext_iff_of_nodup (hd k hk) (List.Pairwise.filter _ List.nodup_range)).2 fun y => ?_
  rw [List.mem_map, List.mem_filter, List.mem_range, decide_eq_true_eq, h.orb hd hG hk]
  constructor
  · rintro ⟨u, hu, rfl⟩; exact ⟨hb u hu, u, hu, rfl⟩
  · rintro ⟨_, u, hu, e⟩; exact ⟨u, hu, e⟩
/-- the product of the numbers of ways -/
def wayN (U : Nat → List (Nat → Nat)) : Nat → Nat
  | 0 => 1
  | k + 1 => wayN U k * (U k).length
theorem Comp.order (h : Comp n U M 0) (hd : Dist n U) {G : (Nat → Nat) → Prop} (hG : ∀ p, G p ↔ Gen n (Mk n M 0) p) : ∀ k, k ≤ n → wayN U k = ordT n G k := by
  intro k
  induction k with
  | zero => intro _; rfl
  | succ k ih => intro hk; rw [wayN, ordT, ih (by omega), h.orbN hd hG (by omega)]
theorem orbN_le (G : (Nat → Nat) → Prop) (k : Nat) : Proofs.Ytlmhnimpglookaa.orbN n G k ≤ n := by
  unfold Proofs.Ytlmhnimpglookaa.orbN
  have := List.length_filter_le (fun y => @decide (Orb G k y) (Classical.propDecidable _)) (List.range n)
  simpa using this
end
end Go.Proofs.Ytlmhnimpglookaa

namespace Go.Proofs.Ytlmhnimpglookaa

/-- ways, makers and waiting grains: G, all that may be made; Q, what must be made in the end -/
structure SInv (n : Nat) (G Q : (Nat → Nat) → Prop) (U M : Nat → List (Nat → Nat)) (W : List ((Nat → Nat) × Nat)) : Prop where
  way : ∀ k, k < n → ∀ u ∈ U k, PermN u n ∧ (∀ x, x < k → u x = x) ∧ Gen n (Mk n M k) u
  one : ∀ k, k < n → ∃ u ∈ U k, EqN n u (fun x => x)
  mks : ∀ k, k < n → ∀ s ∈ M k, PermN s n ∧ ∀ x, x < k → s x = x
  down : ∀ k, k + 1 < n → ∀ s ∈ M (k + 1), Gen n (Mk n M k) s
  dist : Dist n U
  prod : ∀ k, k < n → ∀ u ∈ U k, ∀ s ∈ M k, In n U k (fun x => s (u x)) ∨ ∃ w ∈ W, w.2 = k + 1 ∧ EqN n w.1 (fun x => s (u x))
  grain : ∀ w ∈ W, PermN w.1 n ∧ w.2 ≤ n ∧ (w.2 = 0 → G w.1) ∧ ∀ k, w.2 = k + 1 → (∀ x, x < k → w.1 x = x) ∧ Gen n (Mk n M k) w.1
  top : ∀ s ∈ M 0, G s
  goal : ∀ g, Q g → In n U 0 g ∨ ∃ w ∈ W, w.2 = 0 ∧ EqN n w.1 g
section
variable {n : Nat} {G Q : (Nat → Nat) → Prop} {U M : Nat → List (Nat → Nat)} {W : List ((Nat → Nat) × Nat)}
theorem SInv.wb (h : SInv n G Q U M W) : ∀ k, k < n → ∀ u ∈ U k, Bij u n := fun k hk u hu => (h.way k hk u hu).1.2.2.1
theorem SInv.wf (h : SInv n G Q U M W) : ∀ k, k < n → ∀ u ∈ U k, ∀ x, x < k → u x = x := fun k hk u hu => (h.way k hk u hu).2.1
theorem SInv.mb (h : SInv n G Q U M W) (k : Nat) : ∀ s, Mk n M k s → Bij s n := fun s hs => (h.mks k hs.1 s hs.2).1.2.2.1
theorem SInv.comp (h : SInv n G Q U M []) : Comp n U M 0 where
  way k _ hk u hu := ⟨h.wb k hk u hu, h.wf k hk u hu, (h.way k hk u hu).2.2⟩
  one k _ hk := h.one k hk
  mks k _ hk s hs := ⟨(h.mks k hk s hs).1.2.2.1, (h.mks k hk s hs).2⟩
  down k _ hk := h.down k hk
  prod k _ hk u hu s hs := by
    rcases h.prod k hk u hu s hs with c | ⟨w, hw, _⟩
    · exact c
    · cases hw
/-- the group that the levels tell in the end -/
theorem SInv.group {S : (Nat → Nat) → Prop} (h : SInv n (Gen n S) S U M []) (hS : ∀ s, S s → Bij s n) (p : Nat → Nat) : Gen n S p ↔ Gen n (Mk n M 0) p := by
  have hc := h.comp
  constructor
  · intro hp
    refine hp.sub (h.mb 0) fun s hs => ?_
    rcases h.goal s hs with c | ⟨w, hw, _⟩
    · exact (hc.inGen (Nat.le_refl _) (Nat.zero_le _) s).1 c
    · cases hw
  · intro hp
    exact hp.sub hS fun s hs => h.top s hs.2
/-- the levels below one that a permutation keeps are passed -/
theorem SInv.from (h : SInv n G Q U M W) {k : Nat} (hk : k ≤ n) {p : Nat → Nat} (hp : In n U 0 p) (hx : ∀ x, x < k → p x = x) : In n U k p := hp.from h.dist h.wb h.wf h.one k 0 k (by omega) hk hx

/-- what is sifted from a level on -/
def sift (U : Nat → List (Nat → Nat)) (n : Nat) : Nat → (Nat → Nat) → (Nat → Nat) × Nat
  | 0, p => (p, n)
  | j + 1, p => match (U (n - (j + 1))).find? (fun u => u (n - (j + 1)) == p (n - (j + 1))) with
    | some u => sift U n j (thenF p (backF u n) n)
    | none => (p, n - (j + 1))
theorem SInv.sift (h : SInv n G Q U M W) (hn : n ≤ 16) : ∀ (j : Nat), j ≤ n → ∀ p, PermN p n → (∀ x, x < n - j → p x = x) →
    PermN (sift U n j p).1 n ∧ n - j ≤ (sift U n j p).2 ∧ (sift U n j p).2 ≤ n ∧ (∀ x, x < (sift U n j p).2 → (sift U n j p).1 x = x) ∧
    ((sift U n j p).2 < n → ∀ u ∈ U (sift U n j p).2, u (sift U n j p).2 ≠ (sift U n j p).1 (sift U n j p).2) ∧
    (∀ V : Nat → List (Nat → Nat), (∀ k, ∀ u ∈ U k, u ∈ V k) → In n V (sift U n j p).2 (sift U n j p).1 → In n V (n - j) p) ∧
    (∀ (T : (Nat → Nat) → Prop) (l : Nat), (∀ s, T s → Bij s n) → (∀ x, x < l → x < n → p x = x) → (∀ k, l ≤ k → k < n → ∀ u ∈ U k, Gen n T u) → Gen n T p → Gen n T (sift U n j p).1) ∧
    (∀ l, l ≤ n → (∀ x, x < l → p x = x) → l ≤ (sift U n j p).2) := by
  intro j
  induction j with
  | zero =>
    intro _ p hp hx
    refine ⟨hp, by simp [Proofs.Ytlmhnimpglookaa.sift], Nat.le_refl _, fun x h' => hx x (by rw [Nat.sub_zero]; exact h'), fun h' => absurd h' (Nat.lt_irrefl _), fun V _ hi => by simpa [Proofs.Ytlmhnimpglookaa.sift] using hi, fun T l _ _ _ hg => hg, fun l hl _ => hl⟩
  | succ j ih =>
    intro hj p hp hx
    rw [Proofs.Ytlmhnimpglookaa.sift]
    obtain ⟨x0, hx0⟩ : ∃ x0, x0 = n - (j + 1) := ⟨_, rfl⟩
    rw [← hx0] at hx ⊢
    have hx0n : x0 < n := by omega
    rcases hf : (U x0).find? (fun u => u x0 == p x0) with _ | u
    · simp only [hf]
      refine ⟨hp, Nat.le_refl _, by omega, hx, fun _ u hu e => ?_, fun V _ hi => hi, fun T l _ _ _ hg => hg, fun l hl hlx => ?_⟩
      · have := List.find?_eq_none.1 hf u hu
        simp [e] at this
      · rcases Nat.lt_or_ge x0 l with c | c
        · obtain ⟨v, hv, ev⟩ := h.one x0 hx0n
          have := List.find?_eq_none.1 hf v hv
          simp [ev x0 hx0n, hlx x0 c] at this
        · exact c
    · simp only [hf]
      have hu := List.mem_of_find?_eq_some hf
      have he : u x0 = p x0 := by simpa using List.find?_some hf
      obtain ⟨hpu, hfu, hgu⟩ := h.way x0 hx0n u hu
      have hb := hpu.2.2.1
      have hbp := hp.2.2.1
      have hpb := backF_perm hpu
      have hq := thenF_perm hp hpb
      -- the way undone
      have key : ∀ x, x < n → u (thenF p (backF u n) n x) = p x := fun x hx' => by
        rw [thenF_at hx']
        obtain ⟨z, hz, ez⟩ := hb.onto (hbp.1 x hx')
        rw [← ez, backF_at hb hz]
      have hfix : ∀ x, x < n - j → thenF p (backF u n) n x = x := fun x hx' => by
        have hxn : x < n := by omega
        refine hb.2 _ _ (hq.2.2.1.1 x hxn) hxn ?_
        rw [key x hxn]
        rcases Nat.lt_or_ge x x0 with c | c
        · rw [hx x c, hfu x c]
        · obtain rfl : x = x0 := by omega
          exact he.symm
      obtain ⟨i1, i2, i3, i4, i5, i6, i7, i8⟩ := ih (by omega) _ hq hfix
      refine ⟨i1, by omega, i3, i4, i5, fun V hV hi => ?_, fun T l hT hl hw hg => ?_, fun l hl hlx => ?_⟩
      · have := i6 V hV hi
        rw [show n - j = x0 + 1 by omega] at this
        exact .step hx0n (hV _ _ hu) this fun x hx' => (key x hx').symm
      · rcases Nat.lt_or_ge x0 l with c | c
        · -- a way that changes nothing
          obtain ⟨v, hv, ev⟩ := h.one x0 hx0n
          have e1 : u x0 = v x0 := by rw [he, hl x0 c hx0n, ev x0 hx0n]
          obtain rfl := same_of_nodup (h.dist x0 hx0n) hu hv e1
          have e2 : EqN n p (thenF p (backF u n) n) := fun x hx' => by
            rw [← key x hx', ev _ (hq.2.2.1.1 x hx')]
          exact i7 T l hT (fun x h1 h2 => by rw [← e2 x h2]; exact hl x h1 h2) hw (hg.ext e2)
        · have hgu2 := hw x0 c hx0n u hu
          have hinv : Gen n T (backF u n) := hgu2.inv hn hT fun x hx' => backF_at hb hx'
          have hg2 : Gen n T (thenF p (backF u n) n) := hg.prod hT hinv fun x hx' => thenF_at hx'
          refine i7 T (min l (n - j)) hT (fun x h1 h2 => hfix x (by omega)) (fun k h1 h2 u hu => ?_) hg2
          exact hw k (by omega) h2 u hu
      · rcases Nat.lt_or_ge x0 l with c | c
        · obtain ⟨v, hv, ev⟩ := h.one x0 hx0n
          have e1 : u x0 = v x0 := by rw [he, hlx x0 c, ev x0 hx0n]
          obtain rfl := same_of_nodup (h.dist x0 hx0n) hu hv e1
          exact i8 l hl fun x hx' => by
            have e2 : thenF p (backF u n) n x = p x := by
              rw [← key x (by omega), ev _ (hq.2.2.1.1 x (by omega))]
            rw [e2]; exact hlx x hx'
        · omega
/-- a grain that is sifted away -/
theorem SInv.away (h : SInv n G Q U M W) (hn : n ≤ 16) {W0 : List ((Nat → Nat) × Nat)} {p : Nat → Nat} {l : Nat} (hW : ∀ w, w ∈ W ↔ w ∈ W0 ∨ w = (p, l)) (hs : (Proofs.Ytlmhnimpglookaa.sift U n n p).2 = n) : SInv n G Q U M W0 := by
  have hg := h.grain (p, l) ((hW _).2 (.inr rfl))
  obtain ⟨s1, _, _, s4, _, s6, _, _⟩ := h.sift hn n (Nat.le_refl _) p hg.1 (fun x hx => by omega)
  have hin : In n U 0 p := by
    have := s6 U (fun _ _ hu => hu) (by rw [hs]; exact .done fun x hx => s4 x (by omega))
    rwa [Nat.sub_self] at this
  refine ⟨h.way, h.one, h.mks, h.down, h.dist, fun k hk u hu s hs' => ?_, fun w hw => h.grain w ((hW w).2 (.inl hw)), h.top, fun g hg' => ?_⟩
  · rcases h.prod k hk u hu s hs' with c | ⟨w, hw, e1, e2⟩
    · exact .inl c
    · rcases (hW w).1 hw with c | rfl
      · exact .inr ⟨w, c, e1, e2⟩
      · exact .inl ((h.from (by omega) hin ((hg.2.2.2 k e1).1)).ext e2)
  · rcases h.goal g hg' with c | ⟨w, hw, e1, e2⟩
    · exact .inl c
    · rcases (hW w).1 hw with c | rfl
      · exact .inr ⟨w, c, e1, e2⟩
      · exact .inl (hin.ext e2)
/-- what is left of a grain becomes a maker of the levels from its own one on, and a way -/
theorem SInv.keep {S : (Nat → Nat) → Prop} (hS : ∀ s, S s → Bij s n) (h : SInv n (Gen n S) Q U M W) (hn : n ≤ 16) {W0 W1 : List ((Nat → Nat) × Nat)} {p r : Nat → Nat} {l y : Nat} {U1 M1 : Nat → List (Nat → Nat)} (hW : ∀ w, w ∈ W ↔ w ∈ W0 ∨ w = (p, l))
    (hs : Proofs.Ytlmhnimpglookaa.sift U n n p = (r, y)) (hy : y < n)
    (hU : ∀ k, U1 k = if k = y then U k ++ [r] else U k) (hM : ∀ k, M1 k = if l ≤ k ∧ k ≤ y then M k ++ [r] else M k)
    (hW1 : ∀ w, w ∈ W1 ↔ w ∈ W0 ∨ (∃ x u, l ≤ x ∧ x ≤ y ∧ u ∈ U x ∧ w = (thenF u r n, x + 1)) ∨ ∃ s, s ∈ M1 y ∧ w = (thenF r s n, y + 1)) : SInv n (Gen n S) Q U1 M1 W1 := by
  have hg := h.grain (p, l) ((hW _).2 (.inr rfl))
  obtain ⟨s1, _, _, s4, s5, s6, s7, s8⟩ := h.sift hn n (Nat.le_refl _) p hg.1 (fun x hx => by omega)
  rw [hs] at s1 s4 s5 s6 s7 s8
  simp only at s1 s4 s5 s6 s7 s8
  have s5 := s5 hy
  have hUs : ∀ k, ∀ u ∈ U k, u ∈ U1 k := fun k u hu => by
    rw [hU]; split
    · exact List.mem_append_left _ hu
    · exact hu
  have hMs : ∀ k, ∀ u ∈ M k, u ∈ M1 k := fun k u hu => by
    rw [hM]; split
    · exact List.mem_append_left _ hu
    · exact hu
  have hMm : ∀ k p, Gen n (Mk n M k) p → Gen n (Mk n M1 k) p := fun k p hp => hp.mono fun s hs => ⟨hs.1, hMs k s hs.2⟩
  have hrU : r ∈ U1 y := by rw [hU, if_pos rfl]; simp
  have hInr : In n U1 y r := .step hy hrU ((In.done fun _ _ => rfl : In n U1 n (fun x => x)) |> fun hd => by
    -- nothing is left behind the way
    have ones : ∀ j k, k + j = n → y < k → In n U1 k (fun x => x) := by
      intro j
      induction j with
      | zero => intro k e _; obtain rfl : k = n := by omega
                exact hd
      | succ j ih =>
        intro k e hk
        obtain ⟨u, hu, eu⟩ := h.one k (by omega)
        exact .step (by omega) (hUs k u hu) (ih (k + 1) (by omega) (by omega)) fun x hx => (eu x hx).symm
    exact ones (n - (y + 1)) (y + 1) (by omega) (by omega)) fun _ _ => rfl
  have hInp : In n U1 0 p := by
    have := s6 U1 hUs hInr
    rwa [Nat.sub_self] at this
  -- the levels below the grain's own one are passed
  have hly : l ≤ y + 1 := by
    rcases Nat.eq_zero_or_pos l with c | c
    · omega
    · obtain ⟨k, rfl⟩ : ∃ k, l = k + 1 := ⟨l - 1, by omega⟩
      have := s8 k (by have := hg.2.1; simp only at this; omega) (hg.2.2.2 k rfl).1
      omega
  have lift : ∀ j k, k + j ≤ n → ∀ q, Gen n (Mk n M (k + j)) q → Gen n (Mk n M k) q := by
    intro j
    induction j with
    | zero => exact fun _ _ _ hq => hq
    | succ j ih =>
      intro k hk q hq
      refine ih k (by omega) q (hq.sub (h.mb _) fun s hs => ?_)
      exact h.down (k + j) hs.1 s hs.2
  have genr : ∀ k, k < n → (∀ x, x < k → p x = x) → Gen n (Mk n M k) p → Gen n (Mk n M k) r := fun k hk hx hp =>
    s7 (Mk n M k) k (h.mb k) (fun x hx' _ => hx x hx') (fun k' h1 h2 u hu => by
      have := lift (k' - k) k (by omega) u (by rw [show k + (k' - k) = k' by omega]; exact (h.way k' h2 u hu).2.2)
      exact this) hp
  have rM : ∀ k, l ≤ k → k ≤ y → r ∈ M1 k := fun k h1 h2 => by rw [hM, if_pos ⟨h1, h2⟩]; simp
  have genY : Gen n (Mk n M1 y) r := by
    rcases Nat.lt_or_ge y l with c | c
    · obtain rfl : l = y + 1 := by omega
      have := hg.2.2.2 y rfl
      exact hMm y r (genr y hy this.1 this.2)
    · exact .of ⟨hy, rM y c (Nat.le_refl _)⟩
  have memU : ∀ k u, u ∈ U1 k → u ∈ U k ∨ (k = y ∧ u = r) := fun k u hu => by
    rw [hU] at hu
    split at hu
    · rename_i e
      rcases List.mem_append.1 hu with c | c
      · exact .inl c
      · exact .inr ⟨e, by simpa using c⟩
    · exact .inl hu
  have memM : ∀ k u, u ∈ M1 k → u ∈ M k ∨ (l ≤ k ∧ k ≤ y ∧ u = r) := fun k u hu => by
    rw [hM] at hu
    split at hu
    · rename_i e
      rcases List.mem_append.1 hu with c | c
      · exact .inl c
      · exact .inr ⟨e.1, e.2, by simpa using c⟩
    · exact .inl hu
  have way1 : ∀ k, k < n → ∀ u ∈ U1 k, PermN u n ∧ (∀ x, x < k → u x = x) ∧ Gen n (Mk n M1 k) u := fun k hk u hu => by
    rcases memU k u hu with c | ⟨rfl, rfl⟩
    · obtain ⟨a1, a2, a3⟩ := h.way k hk u c
      exact ⟨a1, a2, hMm k u a3⟩
    · exact ⟨s1, s4, genY⟩
  have one1 : ∀ k, k < n → ∃ u ∈ U1 k, EqN n u (fun x => x) := fun k hk => by
    obtain ⟨u, hu, e⟩ := h.one k hk
    exact ⟨u, hUs k u hu, e⟩
  have mks1 : ∀ k, k < n → ∀ s ∈ M1 k, PermN s n ∧ ∀ x, x < k → s x = x := fun k hk s hs => by
    rcases memM k s hs with c | ⟨h1, h2, rfl⟩
    · exact h.mks k hk s c
    · exact ⟨s1, fun x hx => s4 x (by omega)⟩
  have dist1 : Dist n U1 := fun k hk => by
    rw [hU]
    split
    · rename_i e
      subst e
      rw [List.map_append, List.nodup_append]
      refine ⟨h.dist k hk, by simp, fun a ha b hb e => ?_⟩
      obtain ⟨u, hu, rfl⟩ := List.mem_map.1 ha
      simp at hb
      exact s5 u hu (by rw [e, hb])
    · exact h.dist k hk
  have from1 : ∀ k, k ≤ n → ∀ q, In n U1 0 q → (∀ x, x < k → q x = x) → In n U1 k q := fun k hk q hq hx =>
    hq.from dist1 (fun k hk u hu => (way1 k hk u hu).1.2.2.1) (fun k hk u hu => (way1 k hk u hu).2.1) one1 k 0 k (by omega) hk hx
  refine ⟨way1, one1, mks1, fun k hk s hs => ?_, dist1, fun k hk u hu s hsM => ?_, fun w hw => ?_, fun s hs => ?_, fun g hg' => ?_⟩
  · rcases memM (k + 1) s hs with c | ⟨h1, h2, rfl⟩
    · exact hMm k s (h.down k hk s c)
    · rcases Nat.lt_or_ge k l with c | c
      · obtain rfl : l = k + 1 := by omega
        have := hg.2.2.2 k rfl
        exact hMm k s (genr k (by omega) this.1 this.2)
      · exact .of ⟨by omega, rM k c (by omega)⟩
  · rcases memU k u hu with cu | ⟨rfl, rfl⟩
    · rcases memM k s hsM with cs | ⟨h1, h2, rfl⟩
      · rcases h.prod k hk u cu s cs with c | ⟨w, hw, e1, e2⟩
        · exact .inl (c.mono fun j _ u hu => hUs j u hu)
        · rcases (hW w).1 hw with c | rfl
          · exact .inr ⟨w, (hW1 w).2 (.inl c), e1, e2⟩
          · exact .inl ((from1 k (by omega) p hInp (hg.2.2.2 k e1).1).ext e2)
      · exact .inr ⟨_, (hW1 _).2 (.inr (.inl ⟨k, u, h1, h2, cu, rfl⟩)), rfl, fun x hx => thenF_at hx⟩
    · exact .inr ⟨_, (hW1 _).2 (.inr (.inr ⟨s, hsM, rfl⟩)), rfl, fun x hx => thenF_at hx⟩
  · rcases (hW1 w).1 hw with c | ⟨x, u, h1, h2, hu, rfl⟩ | ⟨s, hs, rfl⟩
    · obtain ⟨g1, g2, g3, g4⟩ := h.grain w ((hW w).2 (.inl c))
      exact ⟨g1, g2, g3, fun k e => ⟨(g4 k e).1, hMm k _ (g4 k e).2⟩⟩
    · obtain ⟨a1, a2, a3⟩ := h.way x (by omega) u hu
      refine ⟨thenF_perm a1 s1, by simp only; omega, fun e => absurd e (by simp), fun k e => ?_⟩
      obtain rfl : x = k := by simp only at e; omega
      refine ⟨fun z hz => ?_, (hMm x u a3).prod (fun s hs => (mks1 x hs.1 s hs.2).1.2.2.1) (.of ⟨by omega, rM x h1 h2⟩) fun z hz => thenF_at hz⟩
      show thenF u r n z = z
      rw [thenF_at (by omega), a2 z hz, s4 z (by omega)]
    · obtain ⟨a1, a2⟩ := mks1 y hy s hs
      refine ⟨thenF_perm s1 a1, by simp only; omega, fun e => absurd e (by simp), fun k e => ?_⟩
      obtain rfl : y = k := by simp only at e; omega
      refine ⟨fun z hz => ?_, genY.prod (fun s hs => (mks1 y hs.1 s hs.2).1.2.2.1) (.of ⟨hy, hs⟩) fun z hz => thenF_at hz⟩
      show thenF r s n z = z
      rw [thenF_at (by omega), s4 z hz, a2 z hz]
  · rcases memM 0 s hs with c | ⟨h1, h2, rfl⟩
    · exact h.top s c
    · obtain rfl : l = 0 := by omega
      refine s7 S 0 hS (fun x hx _ => absurd hx (by omega)) (fun k _ hk u hu => ?_) (hg.2.2.1 rfl)
      have := lift k 0 (by omega) u (by rw [Nat.zero_add]; exact (h.way k hk u hu).2.2)
      exact this.sub hS fun s hs => h.top s hs.2
  · rcases h.goal g hg' with c | ⟨w, hw, e1, e2⟩
    · exact .inl (c.mono fun j _ u hu => hUs j u hu)
    · rcases (hW w).1 hw with c | rfl
      · exact .inr ⟨w, (hW1 w).2 (.inl c), e1, e2⟩
      · exact .inl (hInp.ext e2)
end
end Go.Proofs.Ytlmhnimpglookaa

namespace Go.Proofs.Ytlmhnimpglookaa
open Go.RowKit

/-- the block of a sieve: the number of darts, then a row of ways and a row of makers for each level -/
@[irreducible] def sv (n : Nat) (vs : Nat → Value) : Array Value := row 33 fun i => if i = 0 then .int .i64 n else vs (i - 1)
theorem sv_size (n : Nat) (vs : Nat → Value) : (sv n vs).size = 33 := by unfold sv; exact row_size _ _
theorem sv_n (n : Nat) (vs : Nat → Value) : (sv n vs)[0]? = some (.int .i64 n) := by unfold sv; rw [row_get _ _ (by omega)]; rfl
theorem sv_at (n : Nat) (vs : Nat → Value) {i : Nat} (hi : i < 32) : (sv n vs)[1 + i]? = some (vs i) := by
  unfold sv
  rw [row_get _ _ (by omega), if_neg (by omega), show 1 + i - 1 = i by omega]
def vset (vs : Nat → Value) (i : Nat) (v : Value) : Nat → Value := fun j => if j = i then v else vs j
theorem sv_set (n : Nat) (vs : Nat → Value) (i : Nat) (v : Value) : (sv n vs).setIfInBounds (1 + i) v = sv n (vset vs i v) := by
  unfold sv
  rw [row_set]
  apply row_congr
  intro j _
  unfold vset
  by_cases c : j = 1 + i
  · subst c; rw [if_pos rfl, if_neg (by omega), if_pos (by omega)]
  · rw [if_neg c]
    by_cases d : j = 0
    · rw [if_pos d, if_pos d]
    · rw [if_neg d, if_neg d, if_neg (by omega)]
theorem sv_zero (n : Nat) : sv n (fun _ => .slice none 0 0) = #[.int .i64 (n : Int), .slice none 0 0, .slice none 0 0, .slice none 0 0, .slice none 0 0, .slice none 0 0, .slice none 0 0, .slice none 0 0, .slice none 0 0, .slice none 0 0, .slice none 0 0, .slice none 0 0, .slice none 0 0, .slice none 0 0, .slice none 0 0, .slice none 0 0, .slice none 0 0, .slice none 0 0, .slice none 0 0, .slice none 0 0, .slice none 0 0, .slice none 0 0, .slice none 0 0, .slice none 0 0, .slice none 0 0, .slice none 0 0, .slice none 0 0, .slice none 0 0, .slice none 0 0, .slice none 0 0, .slice none 0 0, .slice none 0 0, .slice none 0 0] := by unfold sv row; rfl
def rset (R : Nat → List (Nat → Nat)) (i : Nat) (l : List (Nat → Nat)) : Nat → List (Nat → Nat) := fun j => if j = i then l else R j
/-- the rows of a sieve, a part each -/
def svRows (vs : Nat → Value) (R : Nat → List (Nat → Nat)) : List Part := (List.range 32).map fun i => pPl (vs i) (R i)
theorem svRows_length (vs : Nat → Value) (R : Nat → List (Nat → Nat)) : (svRows vs R).length = 32 := by unfold svRows; simp
theorem svRows_at (vs : Nat → Value) (R : Nat → List (Nat → Nat)) {i : Nat} (hi : i < 32) : (svRows vs R)[i]? = some (pPl (vs i) (R i)) := by unfold svRows; simp [hi]
theorem svRows_set (vs : Nat → Value) (R : Nat → List (Nat → Nat)) (i : Nat) (v : Value) (l : List (Nat → Nat)) : (svRows vs R).set i (pPl v l) = svRows (vset vs i v) (rset R i l) := by
  apply List.ext_getElem?
  intro j
  rw [List.getElem?_set, svRows_length]
  rcases Nat.lt_or_ge j 32 with c | c
  · rw [svRows_at _ _ c, svRows_at _ _ c]
    unfold vset rset
    by_cases e : i = j
    · subst e; simp [c]
    · rw [if_neg e, if_neg (fun h => e h.symm), if_neg (fun h => e h.symm)]
  · have h1 : ∀ vs R, (svRows vs R)[j]? = none := fun vs R => List.getElem?_eq_none (by rw [svRows_length]; exact c)
    rw [h1, h1]
    by_cases e : i = j
    · subst e; rw [if_pos rfl, if_neg (by omega)]
    · rw [if_neg e]
theorem set_perm {α : Type _} : ∀ (l : List α) (i : Nat) (a : α), i < l.length → (a :: l.eraseIdx i).Perm (l.set i a) := by
  intro l
  induction l with
  | nil => intro i a h; simp at h
  | cons b l ih =>
    intro i a h
    cases i with
    | zero => exact .refl _
    | succ i => exact (List.Perm.swap b a _).trans ((ih i a (by simpa using h)).cons b)
/-- a part takes the place of another one -/
theorem Holds.into {w0 w : World} {L : List Part} {a : Part} (h : Holds w0 w (a :: L)) (i : Nat) (hi : i < L.length) : Holds w0 w (L.set i a) :=
  (h.sub (List.Sublist.cons_cons a (List.eraseIdx_sublist L i))).perm (set_perm L i a hi)
/-- a part seen in another way -/
theorem Holds.conv {w0 w : World} {L : List Part} (h : Holds w0 w L) (i : Nat) {a : Part} (hi : L[i]? = some a) (a' : Part) (ha : a'.ok w) (ho : ∀ g, a'.own g → a.own g) : Holds w0 w (L.set i a') :=
  h.turn i hi a' ha rfl rfl rfl (Nat.le_refl _) (fun _ _ _ => rfl) fun g hg => .inl (ho g hg)
theorem one_row {w : World} {g : Nat} {p : Nat → Nat} (h : (pBlk g (av p) 42).ok w) : (pPl (.slice (some ⟨g, 0, none⟩) 1 1) [p]).ok w := by
  refine ⟨by rw [plB_length], .inr ⟨g, 1, av p, rfl, Nat.zero_le _, h, Nat.le_refl _, by unfold maxLen; omega, av_size p, ?_⟩⟩
  rw [show [p].length * 16 = (av p).toList.length by rw [av_len]; rfl, List.take_length]
  unfold plB; simp
/-- the rows after so many darts -/
def R0 (m x : Nat) : Nat → List (Nat → Nat) := fun i => if i % 2 = 0 ∧ i / 2 < x then [sameF m] else []
theorem R0_step (m x : Nat) : rset (R0 m x) (x * 2) [sameF m] = R0 m (x + 1) := by
  funext j
  unfold rset R0
  by_cases c : j = x * 2
  · subst c; rw [if_pos rfl, if_pos (by omega)]
  · rw [if_neg c]
    by_cases d : j % 2 = 0 ∧ j / 2 < x
    · rw [if_pos d, if_pos (by omega)]
    · rw [if_neg d, if_neg (by omega)]
theorem Holds.nils (w0 : World) : ∀ (k : Nat) {w : World} {L : List Part}, Holds w0 w L → Holds w0 w (L ++ List.replicate k (pPl (.slice none 0 0) [])) := by
  intro k
  induction k with
  | zero => intro w L h; simpa using h
  | succ k ih =>
    intro w L h
    rw [List.replicate_succ]
    have h1 : Holds w0 w (pPl (.slice none 0 0) [] :: L) := h.nilRow 42 16
    have h2 := ih h1
    exact h2.perm (by
      rw [List.cons_append]
      exact List.perm_middle.symm)
theorem svRows_nil : svRows (fun _ => .slice none 0 0) (fun _ => []) = List.replicate 32 (pPl (.slice none 0 0) []) := by
  apply List.ext_getElem?
  intro i
  rcases Nat.lt_or_ge i 32 with c | c
  · rw [svRows_at _ _ c, List.getElem?_replicate, if_pos c]
  · rw [List.getElem?_eq_none (by rw [svRows_length]; exact c), List.getElem?_replicate, if_neg (by omega)]

set_option maxRecDepth 100000 in
set_option maxHeartbeats 2000000 in
theorem emptySieve_any (m : Nat) (hm : m ≤ 16) (w : World) :
    Calls Try.prog 86 #[.int .i64 m] w fun e w' => ∃ g vs, e = .returned (.pointer (some ⟨g, 0, none⟩)) ∧ Holds w w' (pBlk g (sv m vs) 102 :: svRows vs (R0 m m)) := by
  have C1 := hide fun w => stay_any m hm w
  have hz := sv_zero m
  have HZ := hide hz; clear hz
  have HH : Holds w (w.alloc (.cells (sv m fun _ => .slice none 0 0) 102)) (pBlk w.heap.size (sv m fun _ => .slice none 0 0) 102 :: svRows (fun _ => .slice none 0 0) (fun _ => [])) := by
    rw [svRows_nil]
    exact ((Holds.start w).blk _ _ _ rfl).nils w 32
  go_enter Try.func86, Try.ntmps86
  go_wp2
  try rw [← HZ.out]
  generalize w.alloc (.cells (sv m fun _ => .slice none 0 0) 102) = w1 at *
  have hr0 : R0 m 0 = fun _ => [] := by funext i; unfold R0; rw [if_neg (by omega)]
  rw [← hr0] at HH
  generalize w.heap.size = g at *
  go_loopw [9] (fun t wr => ∃ (x : Nat) (vs : Nat → Value), x ≤ m ∧ t = .int .i64 x ∧ Holds w wr (pBlk g (sv m vs) 102 :: svRows vs (R0 m x))) (fun t _ => m - (intOf t).toNat)
  case atStart => exact ⟨0, _, by omega, rfl, HH⟩
  case round =>
    clear HH
    obtain ⟨x, vs, hx, rfl, hH⟩ := hrel
    by_cases hxm : x < m
    · have hx16 : (x : Int) < 16 := by omega
      have hxm' : (x : Int) < m := by omega
      go_wp2
      refine Rd.region_P (w0 := w) (svRows vs (R0 m x)) (pBlk g (sv m vs) 102 :: svRows vs (R0 m x)) [4, 9] (.q 0 <| .q 1 <| .q 2 <| .q 3 <| .q 5 <| .q 6 <| .s1 4 <| .q 7 <| .q 8 <| .s1 9 .fin) hH (.cons _ (.refl _)) (by kernel_rfl) (by kernel_rfl) (by kernel_rfl) ?_
      iterate 3
        apply Rd.v_q
        · simp only [List.getElem?_toArray, List.getElem?_cons_zero, List.getElem?_cons_succ]; exact rfl
        · rfl
        · go_simp
        · intro wx hx
          unfold atG
          go_simp
          simp only [uponG]
          exact ⟨by trivial, rfl⟩
      iterate 1
        apply Rd.v_q
        · simp only [List.getElem?_toArray, List.getElem?_cons_zero, List.getElem?_cons_succ]; exact rfl
        · rfl
        · go_simp
        · intro wx hx
          unfold atG
          go_simp
          simp only [uponG]
          exact ⟨by trivial, C1.out wx⟩
      iterate 2
        apply Rd.v_q
        · simp only [List.getElem?_toArray, List.getElem?_cons_zero, List.getElem?_cons_succ]; exact rfl
        · rfl
        · go_simp
        · intro wx hx
          unfold atG
          go_simp
          simp only [uponG]
          exact ⟨by trivial, rfl⟩
      refine Rd.v_build (av (sameF m)) 42 1 (by simp only [List.getElem?_toArray, List.getElem?_cons_zero, List.getElem?_cons_succ]; exact rfl) rfl (by go_simp) (fun wx hx hD => by go_simp) fun gq => ?_
      iterate 2
        apply Rd.v_q
        · simp only [List.getElem?_toArray, List.getElem?_cons_zero, List.getElem?_cons_succ]; exact rfl
        · rfl
        · go_simp
        · intro wx hx
          unfold atG
          go_simp
          simp only [uponG]
          exact ⟨by trivial, rfl⟩
      refine Rd.v_s (Rd.rHolds w fun _ => pBlk gq (av (sameF m)) 42 :: pBlk g (sv m (vset vs (x * 2) (.slice (some ⟨gq, 0, none⟩) 1 1))) 102 :: svRows vs (R0 m x)) Rd.rHolds_stable (by simp only [List.getElem?_toArray, List.getElem?_cons_zero, List.getElem?_cons_succ]; exact rfl) rfl (by go_simp) (fun wx hx hD => ?_) ?_
      · have c0 := hD.cell 1 rfl (sv_at m vs (i := x * 2) (by omega))
        have f0 := hD.frozen 1 rfl (1 + x * 2)
        go_simp
        simp only [Rd.uponE]
        have h2 := hD.set 1 rfl (1 + x * 2) (.slice (some ⟨gq, 0, none⟩) 1 1)
        rw [sv_set] at h2
        exact ⟨h2.tail.tail, h2⟩
      rintro vn -
      rintro w6 - hx6
      clear hH
      have hx7 : Holds w w6 (pBlk gq (av (sameF m)) 42 :: pBlk g (sv m (vset vs (x * 2) (.slice (some ⟨gq, 0, none⟩) 1 1))) 102 :: svRows vs (R0 m x)) := hx6
      have h8 := hx7.conv 0 rfl (pPl (.slice (some ⟨gq, 0, none⟩) 1 1) [sameF m]) (one_row (hx7.at 0 rfl)) (fun k hk => by simpa [pPl, pRow, Value.ownBlock, pBlk, eq_comm] using hk)
      have h9 : Holds w w6 (pBlk g (sv m (vset vs (x * 2) (.slice (some ⟨gq, 0, none⟩) 1 1))) 102 :: svRows (vset vs (x * 2) (.slice (some ⟨gq, 0, none⟩) 1 1)) (R0 m (x + 1))) := by
        rw [← R0_step, ← svRows_set]
        exact Holds.into (L := pBlk g (sv m (vset vs (x * 2) (.slice (some ⟨gq, 0, none⟩) 1 1))) 102 :: svRows vs (R0 m x)) h8 (x * 2 + 1) (by rw [List.length_cons, svRows_length]; omega)
      clear h8 hx7 hx6
      go_simp
      go_wp2
      go_roundw
      case rel => exact ⟨x + 1, _, by omega, by go_num, h9⟩
      case measure => simp [intOf]; omega
    · obtain rfl : x = m := by omega
      clear hxm hx
      go_wp2
      go_ret
      exact ⟨g, vs, rfl, hH⟩
end Go.Proofs.Ytlmhnimpglookaa

namespace Go.Proofs.Ytlmhnimpglookaa
open Go.RowKit

/-- a sieve that lies at a block -/
def SvAt (w : World) (g m : Nat) (vs : Nat → Value) (R : Nat → List (Nat → Nat)) : Prop := (pBlk g (sv m vs) 102).ok w ∧ ∀ i, i < 32 → (pPl (vs i) (R i)).ok w
theorem SvAt.below {w w' : World} {g m : Nat} {vs : Nat → Value} {R : Nat → List (Nat → Nat)} (h : SvAt w g m vs R) (hb : Below w.heap.size w w') : SvAt w' g m vs R :=
  ⟨(pBlk g (sv m vs) 102).keep _ _ h.1 fun k hk => hb.block k ((pBlk g (sv m vs) 102).lt _ _ h.1 hk), fun i hi => (pPl (vs i) (R i)).keep _ _ (h.2 i hi) fun k hk => hb.block k ((pPl (vs i) (R i)).lt _ _ (h.2 i hi) hk)⟩
theorem SvAt.cell {w : World} {g m : Nat} {vs : Nat → Value} {R : Nat → List (Nat → Nat)} (h : SvAt w g m vs R) {i : Nat} {v : Value} (hv : (sv m vs)[i]? = some v) : w.cell? ⟨g, i, none⟩ = some v := by
  rw [cell_of_cells, cellsOf_heap h.1]; exact hv
theorem SvAt.form {w : World} {g m : Nat} {vs : Nat → Value} {R : Nat → List (Nat → Nat)} (h : SvAt w g m vs R) {i : Nat} (hi : i < 32) : ∃ A c, vs i = .slice A (R i).length c := own_slice (h.2 i hi)
theorem SvAt.load {w : World} {g m : Nat} {vs : Nat → Value} {R : Nat → List (Nat → Nat)} (h : SvAt w g m vs R) {i : Nat} (hi : i < 32) {k : Nat} (hk : k < (R i).length) :
    ∃ q c, vs i = .slice (some ⟨q, 0, none⟩) (R i).length c ∧ q < w.heap.size ∧ (loadT 42 (.pointer (some ⟨q, k * 16, none⟩))).run Try.prog w = .ok (.value (.agg (av (R i)[k]))) w := by
  obtain ⟨q, c, h1, _, h2, h3⟩ := row_extract (h.2 i hi) hk
  exact ⟨q, c, h1, h2, run_loadR h3⟩
theorem find_at {l : List (Nat → Nat)} {f : (Nat → Nat) → Bool} : ∀ {j : Nat} (hj : j < l.length), (∀ i (hi : i < l.length), i < j → f l[i] = false) → f l[j] = true → l.find? f = some l[j] := by
  induction l with
  | nil => intro j hj; simp at hj
  | cons a l ih =>
    intro j hj h1 h2
    rcases j with _ | j
    · rw [List.find?_cons]
      simp only [List.getElem_cons_zero] at h2 ⊢
      rw [h2]
    · have h0 := h1 0 (by simp) (by omega)
      simp only [List.getElem_cons_zero] at h0
      rw [List.find?_cons, h0]
      simp only [List.getElem_cons_succ] at h2 ⊢
      exact ih (by simpa using hj) (fun i hi hij => by have := h1 (i + 1) (by simpa using hi) (by omega); simpa using this) h2
theorem find_no {l : List (Nat → Nat)} {f : (Nat → Nat) → Bool} (h : ∀ i (hi : i < l.length), f l[i] = false) : l.find? f = none := by
  rw [List.find?_eq_none]
  intro a ha
  obtain ⟨i, hi, rfl⟩ := List.getElem_of_mem ha
  rw [h i hi]; simp
theorem sift_some {U : Nat → List (Nat → Nat)} {m x : Nat} {q u : Nat → Nat} (hx : x < m) (h : (U x).find? (fun u => u x == q x) = some u) : sift U m (m - x) q = sift U m (m - (x + 1)) (thenF q (backF u m) m) := by
  obtain ⟨j, hj⟩ : ∃ j, m - x = j + 1 := ⟨m - x - 1, by omega⟩
  rw [hj, sift, show m - (j + 1) = x by omega, h]
  simp only
  rw [show m - (x + 1) = j by omega]
theorem sift_none {U : Nat → List (Nat → Nat)} {m x : Nat} {q : Nat → Nat} (hx : x < m) (h : (U x).find? (fun u => u x == q x) = none) : sift U m (m - x) q = (q, x) := by
  obtain ⟨j, hj⟩ : ∃ j, m - x = j + 1 := ⟨m - x - 1, by omega⟩
  rw [hj, sift, show m - (j + 1) = x by omega, h]

set_option maxRecDepth 100000 in
set_option maxHeartbeats 2000000 in
theorem sift_any (m : Nat) (hm : m ≤ 16) (g : Nat) (vs : Nat → Value) (R : Nat → List (Nat → Nat)) (hU : ∀ k, k < m → ∀ u ∈ R (k * 2), PermN u m) (hRl : ∀ i, (R i).length ≤ 100000) (p : Nat → Nat) (hp : PermN p m) (w : World) (hS : SvAt w g m vs R) :
    Calls Try.prog 90 #[.pointer (some ⟨g, 0, none⟩), .agg (av p)] w fun e w' => e = .returned (.tuple #[.agg (av (sift (fun k => R (k * 2)) m m p).1), .int .i64 (sift (fun k => R (k * 2)) m m p).2]) ∧ Below w.heap.size w w' := by
  have HS := hide hS; clear hS
  have HU := hide hU; clear hU
  have hgs : g < w.heap.size := lt_of_some HS.out.1
  have HH := ((Holds.start w).blk (av p) 42 w.heap.size rfl).blk (av fun _ => 0) 42 (w.heap.size + 1) (by simp)
  obtain ⟨RES, hRES⟩ : ∃ RES, RES = sift (fun k => R (k * 2)) m m p := ⟨_, rfl⟩
  rw [← hRES]
  have HR := hide hRES; clear hRES
  have n0 : ((w.alloc (.cells (av p) 42)).alloc (.cells (av fun _ => 0) 42)).cell? ⟨g, 0, none⟩ = some (.int .i64 m) := (HS.out.below (below2 w _ _)).cell (sv_n m vs)
  go_enter Try.func90, Try.ntmps90
  go_wp2
  try rw [← av_zero]
  go_step3
  go_wp2
  try rw [← av_zero]
  go_step3
  go_wp2
  try rw [← av_zero]
  clear n0
  generalize (w.alloc (.cells (av p) 42)).alloc (.cells (av fun _ => 0) 42) = w1 at *
  go_loopw [13] (fun t wr => ∃ (x : Nat) (q : Nat → Nat), x ≤ m ∧ t = .int .i64 x ∧ PermN q m ∧ RES = sift (fun k => R (k * 2)) m (m - x) q ∧ Holds w wr [pBlk (w.heap.size + 1) (av fun _ => 0) 42, pBlk w.heap.size (av q) 42]) (fun t _ => m - (intOf t).toNat)
  case atStart => exact ⟨0, p, by omega, rfl, hp, by rw [HR.out]; rfl, HH⟩
  case round =>
    clear HH HR hp
    obtain ⟨x, q, hx, rfl, hq, hres, hH⟩ := hrel
    have HRES := hide hres; clear hres
    have HQ := hide hq; clear hq
    have hSr := HS.out.below hH.low
    by_cases hxm : x < m
    · have hx16 : (x : Int) < 16 := by omega
      have hxm' : (x : Int) < m := by omega
      obtain ⟨A, c, hv⟩ := hSr.form (i := x * 2) (by omega)
      have x1 := hSr.cell (sv_at m vs (i := x * 2) (by omega))
      rw [hv] at x1
      have HV := hide hv; clear hv
      have hrl := hRl (x * 2)
      have hqx : q x < 16 := by have := HQ.out.2.2.1.1 x hxm; omega
      clear hSr
      go_wp2
      clear x1
      go_loopw [24] (fun t wr => ∃ j : Nat, j ≤ (R (x * 2)).length ∧ t = .int .i64 j ∧ (∀ i (hi : i < (R (x * 2)).length), i < j → (((R (x * 2))[i] x) == q x) = false) ∧ Holds w wr [pBlk (w.heap.size + 1) (av fun _ => 0) 42, pBlk w.heap.size (av q) 42]) (fun t _ => (R (x * 2)).length - (intOf t).toNat)
      case atStart => exact ⟨0, by omega, rfl, fun i _ h => absurd h (by omega), hH⟩
      case round =>
        clear hH
        obtain ⟨j, hj, rfl, hno, hH⟩ := hrel
        have HNO := hide hno; clear hno
        have hSr := HS.out.below hH.low
        by_cases hjl : j < (R (x * 2)).length
        · obtain ⟨q0, c0, hv2, hq0, hld⟩ := hSr.load (i := x * 2) (by omega) hjl
          rw [HV.out] at hv2
          injection hv2 with hv2 e1 e2
          subst hv2
          clear e1 e2
          have hpu := HU.out x hxm _ (List.getElem_mem hjl)
          have hfa := find_at (f := fun u => u x == q x) hjl (fun i hi hij => HNO.out i hi hij)
          obtain ⟨u, hu⟩ : ∃ u, u = (R (x * 2))[j] := ⟨_, rfl⟩
          rw [← hu] at hld hpu hfa
          have HUU := hide hu; clear hu
          have HFA := hide hfa; clear hfa
          have HPU := hide hpu; clear hpu
          have hjl' : (j : Int) < (R (x * 2)).length := by omega
          have H1 := hH.blk (av u) 42 wr.heap.size rfl
          clear hSr hH
          go_wp2
          clear hld
          generalize wr.alloc (.cells (av u) 42) = w2 at *
          generalize wr.heap.size = G4 at *
          have y1 := H1.cell 0 rfl (av_get u (i := x) (by omega))
          have y2 := H1.cell 2 rfl (av_get q (i := x) (by omega))
          go_quiet (fail)
          have H2 := H1.drewN nq
          clear y1 y2 H1
          generalize w2.drewN nq = w3 at *
          rcases hb : (u x == q x) with _ | _
          · have hbi : (((u x : Nat) : Int) == ((q x : Nat) : Int)) = false := by
              rw [beq_eq_false_iff_ne] at hb ⊢; omega
            go_wp2
            go_roundw
            case rel => exact ⟨j + 1, by omega, by go_num, fun i hi hij => by
              rcases Nat.lt_or_ge i j with d | d
              · exact HNO.out i hi d
              · obtain rfl : i = j := by omega
                rw [← HUU.out]; exact hb, H2.tail⟩
            case measure => simp [intOf]; omega
          · have hbi : (((u x : Nat) : Int) == ((q x : Nat) : Int)) = true := by
              rw [beq_iff_eq] at hb ⊢; omega
            have hss := sift_some (U := fun k => R (k * 2)) hxm (HFA.out hb)
            have HSS := hide hss; clear hss
            have CU := hide fun w => undo_any u m hm (fun i hi => HPU.out.lt i (by omega)) w
            have CF := hide fun w => follow_any q (backF u m) m hm (fun i hi => HQ.out.lt i (by omega)) w
            have hq2 : PermN (thenF q (backF u m) m) m := thenF_perm HQ.out (backF_perm HPU.out)
            have HQ2 := hide hq2; clear hq2
            have nS : ∀ wx, Holds w wx [pBlk G4 (av u) 42, pBlk (w.heap.size + 1) (av fun _ => 0) 42, pBlk w.heap.size (av q) 42] → wx.cell? ⟨g, 0, none⟩ = some (.int .i64 m) := fun wx hx => (HS.out.below hx.low).cell (sv_n m vs)
            have NS := hide nS; clear nS
            go_wp2
            refine region_tail (fun wx => Holds w wx _) 12 (by kernel_rfl) (by kernel_rfl) H2.drew ?_
            simp only [List.take_succ_cons, List.take_zero, List.drop_succ_cons, List.drop_zero]
            iterate 6
              apply q_step
              · go_simp
              · intro wx hx
                have q1 := hx.cells 2 rfl
                have q2 := hx.cells 0 rfl
                have q3 := NS.out wx hx
                go_simp
                try exact rfl
            iterate 1
              apply q_step
              · go_simp
              · intro wx hx
                have q1 := hx.cells 2 rfl
                have q2 := hx.cells 0 rfl
                have q3 := NS.out wx hx
                go_simp
                exact Calls.mono (CU.out wx) fun e w' h => ⟨h.1, hx.call h.2⟩
            iterate 4
              apply q_step
              · go_simp
              · intro wx hx
                have q1 := hx.cells 2 rfl
                have q2 := hx.cells 0 rfl
                have q3 := NS.out wx hx
                go_simp
                try exact rfl
            iterate 1
              apply q_step
              · go_simp
              · intro wx hx
                have q1 := hx.cells 2 rfl
                have q2 := hx.cells 0 rfl
                have q3 := NS.out wx hx
                go_simp
                exact Calls.mono (CF.out wx) fun e w' h => ⟨h.1, hx.call h.2⟩
            refine wpQuiet_nil ?_
            intro w4 H4
            have rr := H4.rowOk 2 rfl (av_size _)
            have H5 := H4.setRow 2 rfl (av (thenF q (backF u m) m))
            go_wp2
            go_roundw
            case rel => exact ⟨x + 1, thenF q (backF u m) m, by omega, by go_num, HQ2.out, by rw [HRES.out, HSS.out], Holds.tail H5⟩
            case measure => simp [intOf]; omega
        · obtain rfl : j = (R (x * 2)).length := by omega
          have hsn := sift_none (U := fun k => R (k * 2)) hxm (find_no fun i hi => HNO.out i hi hi)
          have HSN := hide hsn; clear hsn
          clear hjl hj hSr
          have cc := hH.cells 1 rfl
          have rr := hH.rowOk 0 rfl (av_size _)
          have H5 := hH.setRow 0 rfl (av q)
          have hres : RES = (q, x) := by rw [HRES.out, HSN.out]
          go_wp2
          try rw [Exit.noGoto_ret]
          exact res_agg2 (p := 4) (t := 5) (g := w.heap.size + 1) (v := .int .i64 x) aggP (av_size _) rfl rfl rfl rfl (H5.at 0 rfl) ⟨by rw [hres], H5.low⟩
    · obtain ⟨X, hX⟩ : ∃ X, X = m := ⟨_, rfl⟩
      obtain rfl : X = x := by omega
      have hres : RES = (q, m) := by rw [HRES.out, hX, Nat.sub_self]; rfl
      rw [hX]
      clear hxm hx hX
      have cc := hH.cells 1 rfl
      have rr := hH.rowOk 0 rfl (av_size _)
      have n1 := hSr.cell (sv_n m vs)
      have nS : ∀ wx, Holds w wx [pBlk w.heap.size (av q) 42] → wx.cell? ⟨g, 0, none⟩ = some (.int .i64 m) := fun wx hx => (HS.out.below hx.low).cell (sv_n m vs)
      have NS := hide nS; clear nS cc rr n1 hSr
      go_wp2
      refine Rd.region_P (w0 := w) [pBlk w.heap.size (av q) 42] [pBlk (w.heap.size + 1) (av fun _ => 0) 42, pBlk w.heap.size (av q) 42] [5] (.q 0 <| .q 1 <| .q 2 <| .q 3 <| .q 4 <| .s1 5 <| .q 6 .fin) hH (.cons _ (.refl _)) (by kernel_rfl) (by kernel_rfl) (by kernel_rfl) ?_
      iterate 5
        apply Rd.v_q
        · simp only [List.getElem?_toArray, List.getElem?_cons_zero, List.getElem?_cons_succ]; exact rfl
        · rfl
        · go_simp
        · intro wx hx
          have q1 := hx.cells 0 rfl
          have q3 := NS.out wx hx
          unfold atG
          go_simp
          simp only [uponG]
          exact ⟨by trivial, rfl⟩
      refine Rd.v_s (Rd.rHolds w fun _ => [pBlk (w.heap.size + 1) (av q) 42, pBlk w.heap.size (av q) 42]) Rd.rHolds_stable (by simp only [List.getElem?_toArray, List.getElem?_cons_zero, List.getElem?_cons_succ]; exact rfl) rfl (by go_simp) (fun wx hx hD => ?_) ?_
      · have rr := hD.rowOk 0 rfl (av_size _)
        go_simp
        simp only [Rd.uponE]
        have h2 := hD.setRow 0 rfl (av q)
        exact ⟨h2.tail, h2⟩
      rintro vn -
      iterate 1
        apply Rd.v_q
        · simp only [List.getElem?_toArray, List.getElem?_cons_zero, List.getElem?_cons_succ]; exact rfl
        · rfl
        · go_simp
        · intro wx hx
          unfold atG
          go_simp
          simp only [uponG]
          exact ⟨by trivial, rfl⟩
      rintro w4 - hx
      clear hH
      have hx2 : Holds w w4 [pBlk (w.heap.size + 1) (av q) 42, pBlk w.heap.size (av q) 42] := hx
      go_simp
      go_wp2
      try rw [Exit.noGoto_ret]
      exact res_agg2 (p := 4) (t := 5) (g := w.heap.size + 1) (v := .int .i64 m) aggP (av_size _) rfl rfl rfl rfl (hx2.at 0 rfl) ⟨by rw [hres], hx2.low⟩
end Go.Proofs.Ytlmhnimpglookaa

namespace Go.Proofs.Ytlmhnimpglookaa
open Go.RowKit

/-- the products of ways and makers, as grains of a level -/
def prodL (W M : List (Nat → Nat)) (m y : Nat) : List ((Nat → Nat) × Nat) := W.flatMap fun u => M.map fun k => (thenF u k m, y)
theorem prodL_len (W M : List (Nat → Nat)) (m y : Nat) : (prodL W M m y).length = W.length * M.length := by
  induction W with
  | nil => simp [prodL]
  | cons u W ih =>
    have e : prodL (u :: W) M m y = (M.map fun k => (thenF u k m, y)) ++ prodL W M m y := rfl
    rw [e, List.length_append, ih, List.length_map, List.length_cons, Nat.succ_mul]; omega
theorem prodL_step (W M : List (Nat → Nat)) (m y : Nat) {x : Nat} (hx : x < W.length) : prodL (W.take (x + 1)) M m y = prodL (W.take x) M m y ++ M.map fun k => (thenF W[x] k m, y) := by
  have : W.take (x + 1) = W.take x ++ [W[x]] := by rw [List.take_add_one, List.getElem?_eq_getElem hx]; rfl
  rw [this]
  unfold prodL
  rw [List.flatMap_append]
  simp
theorem plOk_below {w w' : World} {v : Value} {l : List (Nat → Nat)} (h : (pPl v l).ok w) (hb : Below w.heap.size w w') : (pPl v l).ok w' := (pPl v l).keep _ _ h fun k hk => hb.block k ((pPl v l).lt _ _ h hk)
theorem plOk_load {w : World} {v : Value} {l : List (Nat → Nat)} (h : (pPl v l).ok w) {k : Nat} (hk : k < l.length) :
    ∃ q c, v = .slice (some ⟨q, 0, none⟩) l.length c ∧ q < w.heap.size ∧ (loadT 42 (.pointer (some ⟨q, k * 16, none⟩))).run Try.prog w = .ok (.value (.agg (av l[k]))) w := by
  obtain ⟨q, c, h1, _, h2, h3⟩ := row_extract h hk
  exact ⟨q, c, h1, h2, run_loadR h3⟩

set_option maxRecDepth 1000000 in
set_option maxHeartbeats 2000000 in
theorem products_any (m : Nat) (hm : m ≤ 16) (g : Nat) (vs : Nat → Value) (vw vm : Value) (W M : List (Nat → Nat)) (y : Nat) (hy : y ≤ 16) (hWp : ∀ u ∈ W, ∀ i, i < m → u i < 16) (hWM : W.length * M.length ≤ 1000000) (hWl : W.length ≤ 1000000) (hMl : M.length ≤ 1000000) (w : World)
    (hS : (pBlk g (sv m vs) 102).ok w) (hvw : (pPl vw W).ok w) (hvm : (pPl vm M).ok w) :
    Calls Try.prog 108 #[.pointer (some ⟨g, 0, none⟩), vw, vm, .int .i64 y] w fun e w' => ∃ v, e = .returned v ∧ Holds w w' [pGr v (prodL W M m (y + 1))] := by
  obtain ⟨AW, cw, rfl⟩ := own_slice hvw
  obtain ⟨AM, cm, rfl⟩ := own_slice hvm
  have HS := hide hS; clear hS
  have HVW := hide hvw; clear hvw
  have HVM := hide hvm; clear hvm
  have HWP := hide hWp; clear hWp
  have hgs : g < w.heap.size := lt_of_some HS.out
  have nS : ∀ wx, Below w.heap.size w wx → wx.cell? ⟨g, 0, none⟩ = some (.int .i64 m) := fun wx hb => by
    have := (pBlk g (sv m vs) 102).keep _ _ HS.out fun k hk => hb.block k ((pBlk g (sv m vs) 102).lt _ _ HS.out hk)
    rw [cell_of_cells, cellsOf_heap this]; exact sv_n m vs
  have NS0 := hide nS; clear nS
  have HH := (Holds.start w).nilRow 122 17
  go_enter Try.func108, Try.ntmps108
  go_wp2
  go_loopw [9, 16] (fun v t wr => ∃ x : Nat, x ≤ W.length ∧ t = .int .i64 x ∧ Holds w wr [pGr v (prodL (W.take x) M m (y + 1))]) (fun _ t _ => W.length - (intOf t).toNat)
  case atStart => exact ⟨0, by omega, rfl, HH⟩
  case round =>
    clear HH
    obtain ⟨x, hx, rfl, hH⟩ := hrel
    by_cases hxl : x < W.length
    · obtain ⟨q0, c0, e0, hq0, lk⟩ := plOk_load (plOk_below HVW.out hH.low) hxl
      injection e0 with e0 e1 e2
      subst e0
      clear e1 e2
      have hu16 := HWP.out _ (List.getElem_mem hxl)
      have hst := prodL_step W M m (y + 1) hxl
      have hlen := prodL_len (W.take x) M m (y + 1)
      have hlx : x * M.length + M.length ≤ W.length * M.length := by
        have := Nat.mul_le_mul_right M.length (show x + 1 ≤ W.length by omega)
        rw [Nat.succ_mul] at this; omega
      rw [List.length_take, Nat.min_eq_left hx] at hlen
      obtain ⟨u, hu⟩ : ∃ u, u = W[x] := ⟨_, rfl⟩
      rw [← hu] at hu16 hst lk
      clear hu
      obtain ⟨P0, hP0⟩ : ∃ P0, P0 = prodL (W.take x) M m (y + 1) := ⟨_, rfl⟩
      rw [← hP0] at hst hlen hH
      clear hP0
      have HST := hide hst; clear hst
      have HU := hide hu16; clear hu16
      have hxl' : (x : Int) < W.length := by omega
      have H1 := hH.blk (av u) 42 wr.heap.size rfl
      clear hH
      go_wp2
      clear lk
      generalize wr.alloc (.cells (av u) 42) = w1 at *
      generalize wr.heap.size = G1 at *
      go_loopw [9, 22] (fun v t wr => ∃ j : Nat, j ≤ M.length ∧ t = .int .i64 j ∧ Holds w wr [pBlk G1 (av u) 42, pGr v (P0 ++ (M.take j).map fun k => (thenF u k m, y + 1))]) (fun _ t _ => M.length - (intOf t).toNat)
      case atStart => exact ⟨0, by omega, rfl, by rw [List.take_zero, List.map_nil, List.append_nil]; exact H1⟩
      case round =>
        clear H1
        obtain ⟨j, hj, rfl, hH⟩ := hrel
        by_cases hjl : j < M.length
        · obtain ⟨q1, c1, e0, hq1, lk⟩ := plOk_load (plOk_below HVM.out hH.low) hjl
          injection e0 with e0 e1 e2
          subst e0
          clear e1 e2
          have htk : (M.take (j + 1)).map (fun k => (thenF u k m, y + 1)) = (M.take j).map (fun k => (thenF u k m, y + 1)) ++ [(thenF u M[j] m, y + 1)] := by rw [List.take_add_one, List.getElem?_eq_getElem hjl, List.map_append]; rfl
          have hL1 : (P0 ++ (M.take j).map (fun k => (thenF u k m, y + 1))).length ≤ 1000000 := by rw [List.length_append, List.length_map, List.length_take]; omega
          obtain ⟨k, hk⟩ : ∃ k, k = M[j] := ⟨_, rfl⟩
          rw [← hk] at htk lk
          clear hk
          have CF := hide fun w => follow_any u k m hm HU.out w
          obtain ⟨L1, hL⟩ : ∃ L1, L1 = P0 ++ (M.take j).map (fun k => (thenF u k m, y + 1)) := ⟨_, rfl⟩
          have hL2 : P0 ++ (M.take (j + 1)).map (fun k => (thenF u k m, y + 1)) = L1 ++ [(thenF u k m, y + 1)] := by rw [htk, hL, List.append_assoc]
          rw [← hL] at hL1 hH
          clear hL htk
          have HL2 := hide hL2; clear hL2
          obtain ⟨A', c', rfl⟩ := hH.grForm 1 rfl
          have hjl' : (j : Int) < M.length := by omega
          have hwr : IntKind.i64.wrap ((y : Int) + 1) = (y : Int) + 1 := by rw [IntKind.wrap_i64]; omega
          have H2 := hH.blk (av k) 42 wr.heap.size rfl
          clear hH
          go_wp2
          clear lk
          generalize wr.alloc (.cells (av k) 42) = w2 at *
          generalize wr.heap.size = G2 at *
          generalize thenF u k m = r at *
          have NS := hide fun wx (hx : Holds w wx [pBlk G2 (av k) 42, pBlk G1 (av u) 42]) => NS0.out wx hx.low
          refine Rd.region_P (w0 := w) [pBlk G2 (av k) 42, pBlk G1 (av u) 42] [pBlk G2 (av k) 42, pBlk G1 (av u) 42, pGr (.slice A' L1.length c') L1] [11, 12] (.q 0 <| .q 1 <| .q 2 <| .q 3 <| .q 4 <| .q 5 <| .q 6 <| .q 7 <| .q 8 <| .q 9 <| .q 10 <| .s1 11 <| .s1 12 <| .q 13 .fin) H2 (.cons_cons _ (.cons_cons _ (.cons _ (.refl _)))) (by kernel_rfl) (by kernel_rfl) (by kernel_rfl) ?_
          iterate 7
            apply Rd.v_q
            · simp only [List.getElem?_toArray, List.getElem?_cons_zero, List.getElem?_cons_succ]; exact rfl
            · rfl
            · go_simp
            · intro wx hx
              have q0 := hx.cells 0 rfl
              have q1 := hx.cells 1 rfl
              have q3 := NS.out wx hx
              unfold atG
              go_simp
              simp only [uponG]
              exact ⟨by trivial, rfl⟩
          iterate 1
            apply Rd.v_q
            · simp only [List.getElem?_toArray, List.getElem?_cons_zero, List.getElem?_cons_succ]; exact rfl
            · rfl
            · go_simp
            · intro wx hx
              have q0 := hx.cells 0 rfl
              have q1 := hx.cells 1 rfl
              have q3 := NS.out wx hx
              unfold atG
              go_simp
              simp only [uponG]
              exact ⟨by trivial, CF.out wx⟩
          iterate 3
            apply Rd.v_q
            · simp only [List.getElem?_toArray, List.getElem?_cons_zero, List.getElem?_cons_succ]; exact rfl
            · rfl
            · go_simp
            · intro wx hx
              have q0 := hx.cells 0 rfl
              have q1 := hx.cells 1 rfl
              have q3 := NS.out wx hx
              unfold atG
              go_simp
              simp only [uponG]
              exact ⟨by trivial, rfl⟩
          refine Rd.v_build (gv r ((y + 1 : Nat) : Int)) 122 1 (by simp only [List.getElem?_toArray, List.getElem?_cons_zero, List.getElem?_cons_succ]; exact rfl) rfl (by go_simp) (fun wx hx hD => by go_simp; try rw [hwr]) fun gq => ?_
          refine Rd.v_s (fun z wx => Holds w wx [pBlk G1 (av u) 42, pGr z (L1 ++ [(r, y + 1)])]) (fun z _ _ h hb => h.call hb) (by simp only [List.getElem?_toArray, List.getElem?_cons_zero, List.getElem?_cons_succ]; exact rfl) rfl (by go_simp) (fun wx hx hD => ?_) ?_
          · exact upon_appGr hD 3 rfl gq (r, y + 1) 122 (hD.at 0 rfl) (by omega) (fun v' w' h2 => ⟨h2.sub (.cons _ (.cons_cons _ (.cons_cons _ (.cons _ (.refl _))))), h2.sub (.cons _ (.cons _ (.refl _)))⟩) _ _ rfl (by go_simp) (by go_simp)
          rintro v' -
          iterate 1
            apply Rd.v_q
            · simp only [List.getElem?_toArray, List.getElem?_cons_zero, List.getElem?_cons_succ]; exact rfl
            · rfl
            · go_simp
            · intro wx hx
              have q0 := hx.cells 0 rfl
              have q1 := hx.cells 1 rfl
              have q3 := NS.out wx hx
              unfold atG
              go_simp
              simp only [uponG]
              exact ⟨by trivial, rfl⟩
          rintro w6 - hx6
          clear H2
          go_simp
          go_wp2
          go_roundw
          case rel => exact ⟨j + 1, by omega, by go_num, by rw [HL2.out]; exact hx6⟩
          case measure => simp [intOf]; omega
        · obtain rfl : j = M.length := by omega
          clear hjl hj
          rw [List.take_length, ← HST.out] at hH
          go_wp2
          go_roundw
          case rel => exact ⟨x + 1, by omega, by go_num, hH.tail⟩
          case measure => simp [intOf]; omega
    · obtain rfl : x = W.length := by omega
      clear hxl hx
      rw [List.take_length] at hH
      go_wp2
      go_ret
      exact ⟨_, rfl, hH⟩
end Go.Proofs.Ytlmhnimpglookaa

namespace Go.Proofs.Ytlmhnimpglookaa

section
variable {R : Nat → List (Nat → Nat)} {r : Nat → Nat} {m l x y : Nat}
theorem prodL_mem {W M : List (Nat → Nat)} {w : (Nat → Nat) × Nat} : w ∈ prodL W M m y ↔ ∃ u ∈ W, ∃ s ∈ M, w = (thenF u s m, y) := by
  unfold prodL
  rw [List.mem_flatMap]
  constructor
  · rintro ⟨u, hu, hw⟩
    obtain ⟨s, hs, rfl⟩ := List.mem_map.1 hw
    exact ⟨u, hu, s, hs, rfl⟩
  · rintro ⟨u, hu, s, hs, rfl⟩
    exact ⟨u, hu, List.mem_map.2 ⟨s, hs, rfl⟩⟩
/-- the number of ways -/
def totN (R : Nat → List (Nat → Nat)) : Nat → Nat
  | 0 => 0
  | k + 1 => totN R k + (R (k * 2)).length
theorem totN_mono (R : Nat → List (Nat → Nat)) (x : Nat) : ∀ j, totN R x ≤ totN R (x + j)
  | 0 => Nat.le_refl _
  | j + 1 => Nat.le_trans (totN_mono R x j) (by rw [← Nat.add_assoc, totN]; omega)
theorem totN_le {b : Nat} (h : ∀ k, k < m → (R (k * 2)).length ≤ b) : ∀ x, x ≤ m → totN R x ≤ x * b
  | 0, _ => by simp [totN]
  | x + 1, hx => by
    have := totN_le h x (by omega)
    have := h x (by omega)
    rw [totN, Nat.succ_mul]; omega
/-- makers of the levels from l on, below x -/
def mkR (R : Nat → List (Nat → Nat)) (r : Nat → Nat) (l x : Nat) : Nat → List (Nat → Nat) := fun i => if i % 2 = 1 ∧ l ≤ i / 2 ∧ i / 2 < x then R i ++ [r] else R i
theorem mkR_zero : mkR R r l l = R := by funext i; unfold mkR; rw [if_neg (by omega)]
theorem mkR_own : mkR R r l x (x * 2 + 1) = R (x * 2 + 1) := by unfold mkR; rw [if_neg (by omega)]
theorem mkR_way (k : Nat) : mkR R r l x (k * 2) = R (k * 2) := by unfold mkR; rw [if_neg (by omega)]
theorem mkR_step (hl : l ≤ x) : rset (mkR R r l x) (x * 2 + 1) (R (x * 2 + 1) ++ [r]) = mkR R r l (x + 1) := by
  funext j
  unfold rset mkR
  by_cases c : j = x * 2 + 1
  · subst c; rw [if_pos rfl, if_pos (by omega)]
  · rw [if_neg c]
    by_cases d : j % 2 = 1 ∧ l ≤ j / 2 ∧ j / 2 < x
    · rw [if_pos d, if_pos (by omega)]
    · rw [if_neg d, if_neg (by omega)]
def adR (R : Nat → List (Nat → Nat)) (r : Nat → Nat) (l y : Nat) : Nat → List (Nat → Nat) := rset (mkR R r l (y + 1)) (y * 2) (R (y * 2) ++ [r])
theorem adR_way (k : Nat) : adR R r l y (k * 2) = if k = y then R (k * 2) ++ [r] else R (k * 2) := by
  unfold adR rset
  by_cases c : k = y
  · subst c; rw [if_pos rfl, if_pos rfl]
  · rw [if_neg (by omega), if_neg c, mkR_way]
theorem adR_mk (k : Nat) : adR R r l y (k * 2 + 1) = if l ≤ k ∧ k ≤ y then R (k * 2 + 1) ++ [r] else R (k * 2 + 1) := by
  unfold adR rset mkR
  rw [if_neg (by omega)]
  by_cases c : l ≤ k ∧ k ≤ y
  · rw [if_pos c, if_pos (by omega)]
  · rw [if_neg c, if_neg (by omega)]
theorem adR_tot : ∀ x, totN (adR R r l y) x = totN R x + if y < x then 1 else 0
  | 0 => by simp [totN]
  | x + 1 => by
    rw [totN, totN, adR_tot x, adR_way]
    by_cases c : x = y
    · subst c; rw [if_pos rfl, if_neg (show ¬ x < x by omega), if_pos (show x < x + 1 by omega), List.length_append, List.length_singleton]; omega
    · rw [if_neg c]
      by_cases d : y < x
      · rw [if_pos d, if_pos (show y < x + 1 by omega)]; omega
      · rw [if_neg d, if_neg (show ¬ y < x + 1 by omega)]; omega
theorem adR_len {b : Nat} (h : ∀ i, (R i).length ≤ b) (i : Nat) : (adR R r l y i).length ≤ b + 1 := by
  have := h i
  have h2 := h (y * 2)
  unfold adR rset mkR
  split
  · rename_i e; subst e; rw [List.length_append, List.length_singleton]; omega
  · split
    · rw [List.length_append, List.length_singleton]; omega
    · omega
/-- the grains of the levels from l on -/
def grL (R : Nat → List (Nat → Nat)) (r : Nat → Nat) (m l : Nat) : Nat → List ((Nat → Nat) × Nat)
  | 0 => []
  | j + 1 => grL R r m l j ++ prodL (R ((l + j) * 2)) [r] m (l + j + 1)
theorem grL_len : ∀ j, totN R l + (grL R r m l j).length = totN R (l + j)
  | 0 => by simp [grL]
  | j + 1 => by
    have := grL_len j
    rw [grL, List.length_append, prodL_len, ← Nat.add_assoc l j 1, totN, List.length_singleton]; omega
theorem grL_mem {w : (Nat → Nat) × Nat} : ∀ j, w ∈ grL R r m l j ↔ ∃ x u, l ≤ x ∧ x < l + j ∧ u ∈ R (x * 2) ∧ w = (thenF u r m, x + 1)
  | 0 => by
    constructor
    · intro h; cases h
    · rintro ⟨x, u, h1, h2, _⟩; omega
  | j + 1 => by
    rw [grL, List.mem_append, grL_mem j, prodL_mem]
    constructor
    · rintro (⟨x, u, h1, h2, h3, h4⟩ | ⟨u, hu, s, hs, rfl⟩)
      · exact ⟨x, u, h1, by omega, h3, h4⟩
      · rw [List.mem_singleton] at hs; subst hs
        exact ⟨l + j, u, by omega, by omega, hu, rfl⟩
    · rintro ⟨x, u, h1, h2, h3, h4⟩
      by_cases c : x = l + j
      · subst c; exact .inr ⟨u, h3, r, by simp, h4⟩
      · exact .inl ⟨x, u, h1, by omega, h3, h4⟩
end
def Uf (R : Nat → List (Nat → Nat)) : Nat → List (Nat → Nat) := fun k => R (k * 2)
def Mf (R : Nat → List (Nat → Nat)) : Nat → List (Nat → Nat) := fun k => R (k * 2 + 1)
section
variable {m : Nat} {G Q S : (Nat → Nat) → Prop} {R : Nat → List (Nat → Nat)} {W : List ((Nat → Nat) × Nat)}
theorem SInv.len {U M : Nat → List (Nat → Nat)} (h : SInv m G Q U M W) {k : Nat} (hk : k < m) : (U k).length ≤ m := by
  have h1 := nodup_le ((U k).map fun u => u k) (List.range m) (h.dist k hk) fun x hx => by
    obtain ⟨u, hu, rfl⟩ := List.mem_map.1 hx
    exact List.mem_range.2 ((h.way k hk u hu).1.2.2.1.1 k hk)
  rwa [List.length_map, List.length_range] at h1
theorem SInv.tot (h : SInv m G Q (Uf R) (Mf R) W) (hm : m ≤ 16) : totN R m ≤ 256 := by
  have := totN_le (R := R) (b := 16) (fun k hk => Nat.le_trans (h.len hk) hm) m (Nat.le_refl _)
  have : m * 16 ≤ 16 * 16 := Nat.mul_le_mul_right _ hm
  omega
/-- what is told of a grain that is sifted -/
theorem SInv.sifted {W0 : List ((Nat → Nat) × Nat)} {q r : Nat → Nat} {l y : Nat} (h : SInv m G Q (Uf R) (Mf R) (W0 ++ [(q, l)])) (hm : m ≤ 16) (hs : Proofs.Ytlmhnimpglookaa.sift (Uf R) m m q = (r, y)) : PermN q m ∧ PermN r m ∧ y ≤ m ∧ l ≤ y + 1 ∧ l ≤ m := by
  have hg := h.grain (q, l) (by simp)
  obtain ⟨s1, _, s3, _, _, _, _, s8⟩ := h.sift hm m (Nat.le_refl _) q hg.1 (fun x hx => by omega)
  rw [hs] at s1 s3 s8
  refine ⟨hg.1, s1, s3, ?_, hg.2.1⟩
  rcases Nat.eq_zero_or_pos l with c | c
  · omega
  · obtain ⟨k, rfl⟩ : ∃ k, l = k + 1 := ⟨l - 1, by omega⟩
    have := s8 k (by have := hg.2.1; simp only at this; omega) (hg.2.2.2 k rfl).1
    simp only at this
    omega
theorem add_keep (hS : ∀ s, S s → Bij s m) {W0 : List ((Nat → Nat) × Nat)} {q r : Nat → Nat} {l y : Nat} (h : SInv m (Gen m S) Q (Uf R) (Mf R) (W0 ++ [(q, l)])) (hm : m ≤ 16) (hs : Proofs.Ytlmhnimpglookaa.sift (Uf R) m m q = (r, y)) (hy : y < m) :
    SInv m (Gen m S) Q (Uf (adR R r l y)) (Mf (adR R r l y)) (W0 ++ grL R r m l (y + 1 - l) ++ prodL [r] (adR R r l y (y * 2 + 1)) m (y + 1)) := by
  have hl := (h.sifted hm hs).2.2.2.1
  refine h.keep hS hm (W0 := W0) (fun w => by simp) hs hy (fun k => adR_way k) (fun k => adR_mk k) fun w => ?_
  rw [List.mem_append, List.mem_append, grL_mem, prodL_mem]
  constructor
  · rintro ((c | ⟨x, u, h1, h2, h3, h4⟩) | ⟨u, hu, s, hs, rfl⟩)
    · exact .inl c
    · exact .inr (.inl ⟨x, u, h1, by omega, h3, h4⟩)
    · rw [List.mem_singleton] at hu; subst hu
      exact .inr (.inr ⟨s, hs, rfl⟩)
  · rintro (c | ⟨x, u, h1, h2, h3, h4⟩ | ⟨s, hs, h4⟩)
    · exact .inl (.inl c)
    · exact .inl (.inr ⟨x, u, h1, by omega, h3, h4⟩)
    · exact .inr ⟨r, by simp, s, hs, h4⟩
theorem add_away {W0 : List ((Nat → Nat) × Nat)} {q : Nat → Nat} {l : Nat} (h : SInv m G Q (Uf R) (Mf R) (W0 ++ [(q, l)])) (hm : m ≤ 16) (hs : (Proofs.Ytlmhnimpglookaa.sift (Uf R) m m q).2 = m) : SInv m G Q (Uf R) (Mf R) W0 :=
  h.away hm (W0 := W0) (p := q) (l := l) (fun w => by simp) hs
theorem add_start {U M : Nat → List (Nat → Nat)} (h : SInv m G Q U M []) {p : Nat → Nat} (hp : PermN p m) (hG : G p) : SInv m G (fun q => Q q ∨ q = p) U M [(p, 0)] where
  way := h.way
  one := h.one
  mks := h.mks
  down := h.down
  dist := h.dist
  prod k hk u hu s hs := by
    rcases h.prod k hk u hu s hs with c | ⟨w, hw, _⟩
    · exact .inl c
    · cases hw
  grain w hw := by
    rw [List.mem_singleton] at hw; subst hw
    exact ⟨hp, Nat.zero_le _, fun _ => hG, fun k e => absurd e (by simp)⟩
  top := h.top
  goal g hg := by
    rcases hg with c | rfl
    · rcases h.goal g c with d | ⟨w, hw, _⟩
      · exact .inl d
      · cases hw
    · exact .inr ⟨_, List.mem_singleton.2 rfl, rfl, fun _ _ => rfl⟩
end
end Go.Proofs.Ytlmhnimpglookaa

namespace Go.Proofs.Ytlmhnimpglookaa
open Go.RowKit

theorem aggG : AggT 122 17 := ⟨⟨_, Try.underlying122, rfl⟩, by kernel_rfl⟩
def Is17 (c : Array Value) : Prop := c.size = 17
@[go_sem] theorem is17_gv (p : Nat → Nat) (y : Int) : Is17 (gv p y) ↔ True := ⟨fun _ => trivial, fun _ => gv_size p y⟩
@[go_sem] theorem is17_lit (x0 x1 x2 x3 x4 x5 x6 x7 x8 x9 x10 x11 x12 x13 x14 x15 x16 : Value) : Is17 #[x0, x1, x2, x3, x4, x5, x6, x7, x8, x9, x10, x11, x12, x13, x14, x15, x16] ↔ True := ⟨fun _ => trivial, fun _ => rfl⟩
@[go_sem] theorem ones_gv (p : Nat → Nat) (y : Int) : Ones (gv p y) ↔ True := ⟨fun _ => trivial, fun _ => gv_cells p y⟩
@[go_sem] theorem rowOk_at17 {w : World} {g : Nat} {c : Array Value} {t : TypeId} (h : g = w.heap.size) (hc : Is17 c) : rowOk (w.alloc (.cells c t)) g 17 ↔ True := ⟨fun _ => trivial, fun _ => ⟨c, t, heap_at _ _ _ h, hc⟩⟩
section
variable (ρ : Operand → Value) (dst : Option Tmp) (x y : Operand) (ty : TypeId) (pos : String) (after : Array Edge) (guard : Option (Nat × Bool))
@[go_sem ↓] theorem exec_loadG : execOp ρ { dst, op := .load 122 x, type := ty, pos, after, guard } = loadT 122 (ρ x) := rfl
@[go_sem ↓] theorem exec_storeG : execOp ρ { dst, op := .store 122 x y, type := ty, pos, after, guard } = storeT 122 (ρ x) (ρ y) := rfl
end
@[go_sem] theorem run_storeG {w : World} {g : Nat} {cs : Array Value} (h : rowOk w g 17) (hs : Is17 cs) (hc : Ones cs) :
    (storeT 122 (.pointer (some ⟨g, 0, none⟩)) (.agg cs)).run Try.prog w = .ok .skip (w.setRow g cs) := run_storeT aggG h hs hc
/-- the permutation of a grain -/
theorem run_loadGp {w : World} {g : Nat} {p : Nat → Nat} {y : Int} (h : cellsOf w g = gv p y) : (loadT 42 (.pointer (some ⟨g, 0, none⟩))).run Try.prog w = .ok (.value (.agg (av p))) w :=
  run_load_mid aggP (by rw [h, Nat.zero_add]; exact gv_places p y) (av_size _)
theorem one_grain {w : World} {g : Nat} {p : Nat → Nat} {y : Nat} (h : (pBlk g (gv p y) 122).ok w) : (pGr (.slice (some ⟨g, 0, none⟩) 1 1) [(p, y)]).ok w := by
  refine ⟨by rw [grB_length], .inr ⟨g, 1, gv p y, rfl, Nat.zero_le _, h, Nat.le_refl _, by unfold maxLen; omega, gv_size p y, ?_⟩⟩
  rw [show [(p, y)].length * 17 = (gv p y).toList.length by rw [gv_len]; rfl, List.take_length]
  unfold grB; simp
/-- the last grain of a row, and the row without it -/
theorem gr_last {w : World} {v : Value} {W0 : List ((Nat → Nat) × Nat)} {q : Nat → Nat} {l : Nat} (h : (pGr v (W0 ++ [(q, l)])).ok w) :
    ∃ g c, v = .slice (some ⟨g, 0, none⟩) (W0.length + 1) c ∧ W0.length + 1 ≤ c ∧ g < w.heap.size ∧ (loadT 122 (.pointer (some ⟨g, W0.length * 17, none⟩))).run Try.prog w = .ok (.value (.agg (gv q l))) w ∧
      (pGr (.slice (some ⟨g, 0, none⟩) W0.length c) W0).ok w := by
  have hl : (W0 ++ [(q, l)]).length = W0.length + 1 := by simp
  rcases h.2 with ⟨_, e⟩ | ⟨g, cap, cur, rfl, hB, hh, h1, h2, h3, h4⟩
  · omega
  · refine ⟨g, cap, by rw [hl], by omega, lt_of_some hh, ?_, by rw [grB_length], .inr ⟨g, cap, cur, rfl, hB, hh, by omega, h2, h3, ?_⟩⟩
    · have := grB_ext h4 (k := W0.length) (by omega)
      rw [List.getElem_append_right (Nat.le_refl _)] at this
      simp only [Nat.sub_self, List.getElem_cons_zero] at this
      exact run_load_mid aggG (by rw [cellsOf_heap hh]; exact this) (gv_size _ _)
    · have h5 := congrArg (List.take (W0.length * 17)) h4
      rw [List.take_take, hl, Nat.min_eq_left (by omega), grB_append, List.take_append_of_le_length (by rw [grB_length]; exact Nat.le_refl _)] at h5
      exact h5.trans (List.take_of_length_le (by rw [grB_length]; exact Nat.le_refl _))
theorem set_same {α : Type _} {l : List α} {i : Nat} {a : α} (h : l[i]? = some a) : l.set i a = l := by
  apply List.ext_getElem?
  intro j
  rw [List.getElem?_set]
  split
  · rename_i e; subst e
    obtain ⟨h1, h2⟩ := List.getElem?_eq_some_iff.1 h
    rw [if_pos h1, h]
  · rfl
theorem run_append_none {w : World} (t ty e : TypeId) (i : TypeInfo) (ht : Try.prog.underlying t = some (.slice e)) (hi : Try.prog.info? e = some i) (A : Option Addr) (n c : Nat) (h : n ≤ c) :
    (Builtin.append_ #[t, t] ty #[.slice A n c, .slice none 0 0]).run Try.prog w = .ok (.slice A n c) w := by
  cases A <;> simp [Builtin.append_, run_underlying ht, sizeOf, typeInfo, hi, Builtin.lenOf, Builtin.firstCells, h, storeCells]
theorem run_appGrs {o : Oper} {a : Act} {w0 w : World} {L : List Part} (H : Holds w0 w L) (k : Nat) {v : Value} {l : List ((Nat → Nat) × Nat)} (hk : L[k]? = some (pGr v l))
    {u : Value} {l2 : List ((Nat → Nat) × Nat)} (hu : (pGr u l2).ok w) (hb : l.length + l2.length ≤ 1000000) (s x : Operand)
    (ho : o.op = .call { callee := .builtin .append, args := #[s, x], argTypes := #[123, 123] })
    (hs : a.eval s = v) (hx : a.eval x = u) :
    ∃ v' w', (execOp a.eval o).run Try.prog w = .ok (.value v') w' ∧ Holds w0 w' (L.set k (pGr v' (l ++ l2))) := by
  obtain ⟨i0, hi, hz0, hz1, hz2⟩ := info_parts infoGr
  rcases hu.2 with ⟨rfl, e⟩ | ⟨g, cap, cur, rfl, hB, hh, h1, h2, h3, h4⟩
  · have e2 : l2 = [] := List.eq_nil_of_length_eq_zero e
    subst e2
    have hv : ∃ A c, v = .slice A l.length c ∧ l.length ≤ c := by
      rcases (H.row k hk).2 with ⟨rfl, e⟩ | ⟨g, cap, cur, rfl, _, _, h1, _⟩
      · exact ⟨none, 0, by rw [e], by omega⟩
      · exact ⟨_, cap, rfl, h1⟩
    obtain ⟨A, c, rfl, hc⟩ := hv
    refine ⟨_, w, exec_append ho hs hx (run_append_none _ _ _ i0 Try.underlying123 hi A l.length c hc), ?_⟩
    rw [List.append_nil, set_same hk]
    exact H
  · obtain ⟨v', w', r1, r2, _⟩ := run_appH (P := Try.prog) (w := w) 123 o.type 122 i0 _ 17 24 Try.underlying123 hi hz0 hz1 hz2 rfl (by decide) v l.length (grB l) H k hk ⟨g, 0, none⟩ l2.length cap (grB l2)
      (grB_length l2) (fun j u hu => by
        have : ((⟨g, 0, none⟩ : Addr).add j) = ⟨g, j, none⟩ := by simp [Addr.add]; exact Eq.symm
        have hj : j < l2.length * 17 := by
          rcases Nat.lt_or_ge j (l2.length * 17) with c | c
          · exact c
          · rw [List.getElem?_eq_none (by rw [grB_length]; exact c)] at hu; cases hu
        rw [this, cell_of_cells, cellsOf_heap hh, ← Array.getElem?_toList]
        rw [← h4, List.getElem?_take_of_lt hj] at hu
        exact hu) (fun u hu => grB_one u hu) (by unfold maxLen; omega) (by omega)
    refine ⟨v', w', exec_append ho hs hx r1, ?_⟩
    unfold pGr at *
    rw [List.length_append, grB_append]
    exact r2
theorem upon_appGrs {o : Oper} {a : Act} {w0 w : World} {L : List Part} (H : Holds w0 w L) (k : Nat) {v : Value} {l : List ((Nat → Nat) × Nat)} (hk : L[k]? = some (pGr v l))
    {u : Value} {l2 : List ((Nat → Nat) × Nat)} (hu : (pGr u l2).ok w) (hb : l.length + l2.length ≤ 1000000) {C : World → Prop} {R : Value → World → Prop}
    (h : ∀ v' w', Holds w0 w' (L.set k (pGr v' (l ++ l2))) → C w' ∧ R v' w') (s x : Operand)
    (ho : o.op = .call { callee := .builtin .append, args := #[s, x], argTypes := #[123, 123] })
    (hs : a.eval s = v) (hx : a.eval x = u) : Rd.uponE Try.prog C R w ((execOp a.eval o).run Try.prog w) := by
  obtain ⟨v', w', h1, h2⟩ := run_appGrs H k hk hu hb s x ho hs hx
  rw [h1]
  exact h v' w' h2
end Go.Proofs.Ytlmhnimpglookaa
