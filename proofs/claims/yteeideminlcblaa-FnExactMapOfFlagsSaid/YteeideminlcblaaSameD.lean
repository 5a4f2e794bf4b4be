/- '==' of two dessins -/
import Derived.Test.YteeideminlcblaaSame
import Derived.Test.YteeideminlcblaaDes
import Derived.Laws.StructEq
namespace Go.Proofs.Yteeideminlcblaa
open Go.RowKit

theorem run_items2 (d : Nat) (f g : Nat → Nat) (w : World) : ∀ is : List Nat, (∀ i ∈ is, i < 16) →
    (Op.eqItems (d + 1) 5 1 (av f) (av g) is).run Try.prog w = .ok (is.all fun i => ((f i : Nat) : Int) == ((g i : Nat) : Int)) w
  | [], _ => by simp [Op.eqItems]
  | i :: is, h => by
    have hi := h i (by simp)
    have ih := run_items2 d f g w is fun j hj => h j (by simp [hj])
    have h1 := run_part_plain w plain8 (av_get f hi)
    have h2 := run_part_plain w plain8 (av_get g hi)
    have h3 := run_equalIn_int w d 5 .u8 .u8 (f i) (g i) Try.underlying5
    simp only [Op.eqItems, Nat.mul_one, Sem.run_bind, h1, h2, h3, Result.andThen_ok, List.all_cons]
    rcases hb : (((f i : Nat) : Int) == ((g i : Nat) : Int)) with _ | _
    · simp
    · simp [ih]
theorem run_sameP2 (d : Nat) (f g : Nat → Nat) (w : World) : (Op.equalIn (d + 2) 34 (.agg (av f)) (.agg (av g))).run Try.prog w = .ok (sameB f g) w := by
  obtain ⟨i0, hi, _⟩ := info_parts info8
  have h := run_equalIn_array w (d + 1) (av f) (av g) Try.underlying34 hi
  rw [cells8] at h
  rw [h, run_items2 d f g w _ (by simp)]
  unfold sameB; rfl
theorem info64D : (Try.prog.info? 2).map (·.size) = some 1 := by kernel_rfl
theorem infoPD : (Try.prog.info? 34).map (·.size) = some 16 := by kernel_rfl
theorem part_n (n : Int) (F G : Nat → Nat) (w : World) : (part 2 (dv n F G) 0).run Try.prog w = .ok (.int .i64 n) w :=
  run_part_plain w (by kernel_rfl) (dv_n n F G)
theorem part_b (n : Int) (F G : Nat → Nat) (w : World) : (part 34 (dv n F G) 1).run Try.prog w = .ok (.agg (av F)) w := by
  rcases hi : Try.prog.info? 34 with _ | i
  · have := infoPD; rw [hi] at this; cases this
  · have hsz : i.size = 16 := by have := infoPD; rw [hi] at this; simpa using this
    have hag : (isAgg 34).run Try.prog w = .ok true w := by simp [isAgg, run_underlying Try.underlying34]
    have e := blackOf_dv n F G
    unfold blackOf at e
    simp [part, hag, sizeOf, typeInfo, hi, hsz, e]
theorem part_w (n : Int) (F G : Nat → Nat) (w : World) : (part 34 (dv n F G) 17).run Try.prog w = .ok (.agg (av G)) w := by
  rcases hi : Try.prog.info? 34 with _ | i
  · have := infoPD; rw [hi] at this; cases this
  · have hsz : i.size = 16 := by have := infoPD; rw [hi] at this; simpa using this
    have hag : (isAgg 34).run Try.prog w = .ok true w := by simp [isAgg, run_underlying Try.underlying34]
    have e := whiteOf_dv n F G
    unfold whiteOf at e
    simp [part, hag, sizeOf, typeInfo, hi, hsz, e]
@[irreducible] def eqDB (n : Int) (F G : Nat → Nat) (n' : Int) (F' G' : Nat → Nat) : Bool := (n == n') && (sameB F F' && sameB G G')
theorem eqDB_iff (n : Int) (F G : Nat → Nat) (n' : Int) (F' G' : Nat → Nat) : eqDB n F G n' F' G' = true ↔ dv n F G = dv n' F' G' := by
  unfold eqDB
  rw [Bool.and_eq_true, Bool.and_eq_true, beq_iff_eq, sameB_iff, sameB_iff]
  constructor
  · rintro ⟨rfl, h1, h2⟩
    unfold dv
    apply row_congr
    intro i hi
    by_cases c : i = 0
    · rw [if_pos c, if_pos c]
    · rw [if_neg c, if_neg c]
      by_cases d : i < 17
      · rw [if_pos d, if_pos d, h1 (i - 1) (by omega)]
      · rw [if_neg d, if_neg d, h2 (i - 17) (by omega)]
  · intro h
    have hn : (dv n F G)[0]? = (dv n' F' G')[0]? := by rw [h]
    rw [dv_n, dv_n] at hn
    refine ⟨by simpa using hn, fun i hi => ?_, fun i hi => ?_⟩
    · have hb : (dv n F G)[1 + i]? = (dv n' F' G')[1 + i]? := by rw [h]
      rw [dv_b _ _ _ hi, dv_b _ _ _ hi] at hb
      simp at hb; omega
    · have hb : (dv n F G)[17 + i]? = (dv n' F' G')[17 + i]? := by rw [h]
      rw [dv_w _ _ _ hi, dv_w _ _ _ hi] at hb
      simp at hb; omega
theorem run_sameD (n : Int) (F G : Nat → Nat) (n' : Int) (F' G' : Nat → Nat) (w : World) : (Op.equalIn 10000 36 (.agg (dv n F G)) (.agg (dv n' F' G'))).run Try.prog w = .ok (eqDB n F G n' F' G') w := by
  have ht : Try.prog.underlying 36 = some (.struct (Try.prog.fieldsOf 36)) := by kernel_rfl
  have hp : Try.prog.stoodInHeld 36 = false := by kernel_rfl
  rw [run_equalIn_struct w 9999 36 _ _ ht hp]
  have hi : (Op.equalIn 9999 2 (.int .i64 n) (.int .i64 n')).run Try.prog w = .ok (n == n') w := run_equalIn_int w 9998 2 .i64 .i64 n n' Try.underlying2
  have hb : (Op.equalIn 9999 34 (.agg (av F)) (.agg (av F'))).run Try.prog w = .ok (sameB F F') w := run_sameP2 9997 F F' w
  have hw : (Op.equalIn 9999 34 (.agg (av G)) (.agg (av G'))).run Try.prog w = .ok (sameB G G') w := run_sameP2 9997 G G' w
  unfold eqDB
  rcases h1 : n == n' with _ | _
  · rw [h1] at hi
    simp [Program.fieldsOf, Try.underlying36, Op.eqFields, part_n, hi]
  · rw [h1] at hi
    rcases h2 : sameB F F' with _ | _
    · rw [h2] at hb
      simp [Program.fieldsOf, Try.underlying36, Op.eqFields, part_n, part_b, hi, hb]
    · rw [h2] at hb
      rcases h3 : sameB G G' with _ | _
      · rw [h3] at hw
        simp [Program.fieldsOf, Try.underlying36, Op.eqFields, part_n, part_b, part_w, hi, hb, hw]
      · rw [h3] at hw
        simp [Program.fieldsOf, Try.underlying36, Op.eqFields, part_n, part_b, part_w, hi, hb, hw]
@[go_sem] theorem guardD : Try.prog.eqGuardType Try.prog.depth 36 = false := by kernel_rfl
@[go_sem ↓] theorem run_eqlD (n : Int) (F G : Nat → Nat) (n' : Int) (F' G' : Nat → Nat) (w : World) : (binOp .eql 36 (.agg (dv n F G)) (.agg (dv n' F' G'))).run Try.prog w = .ok (.bool (eqDB n F G n' F' G')) w := by
  rw [run_eql_struct, run_sameD]; rfl
@[go_sem ↓] theorem run_neqD (n : Int) (F G : Nat → Nat) (n' : Int) (F' G' : Nat → Nat) (w : World) : (binOp .neq 36 (.agg (dv n F G)) (.agg (dv n' F' G'))).run Try.prog w = .ok (.bool (!eqDB n F G n' F' G')) w := by
  rw [run_neq_struct, run_sameD]; rfl
end Go.Proofs.Yteeideminlcblaa
