/- '==' of two arrays of 16 bytes -/
import Derived.Test.YteeideminlcblaaAgg
import Derived.ChangeKeysEq
namespace Go.Proofs.Yteeideminlcblaa
open Go.RowKit

theorem info8 : (Try.prog.info? 5).map (fun i => (i.zero, i.size, i.bytes)) = some (some (.int .u8 0), 1, 1) := by kernel_rfl
theorem plain8 : Try.prog.plainKey 5 = true := by kernel_rfl
theorem cells8 : Try.prog.cellsOf 5 = 1 := by kernel_rfl
@[go_sem] theorem guardP : Try.prog.eqGuardType Try.prog.depth 34 = false := by kernel_rfl
@[irreducible] def sameB (f g : Nat → Nat) : Bool := (List.range 16).all fun i => ((f i : Nat) : Int) == ((g i : Nat) : Int)
theorem sameB_iff (f g : Nat → Nat) : sameB f g = true ↔ ∀ i, i < 16 → f i = g i := by unfold sameB; simp [Int.ofNat_inj]
theorem run_items (f g : Nat → Nat) (w : World) : ∀ is : List Nat, (∀ i ∈ is, i < 16) →
    (Op.eqItems 9999 5 1 (av f) (av g) is).run Try.prog w = .ok (is.all fun i => ((f i : Nat) : Int) == ((g i : Nat) : Int)) w
  | [], _ => by simp [Op.eqItems]
  | i :: is, h => by
    have hi := h i (by simp)
    have ih := run_items f g w is fun j hj => h j (by simp [hj])
    have h1 := run_part_plain w plain8 (av_get f hi)
    have h2 := run_part_plain w plain8 (av_get g hi)
    have h3 := run_equalIn_int w 9998 5 .u8 .u8 (f i) (g i) Try.underlying5
    simp only [Op.eqItems, Nat.mul_one, Sem.run_bind, h1, h2, h3, Result.andThen_ok, List.all_cons]
    rcases hb : (((f i : Nat) : Int) == ((g i : Nat) : Int)) with _ | _
    · simp
    · simp [ih]
@[go_sem] theorem run_sameP (f g : Nat → Nat) (w : World) : (Op.equalIn 10000 34 (.agg (av f)) (.agg (av g))).run Try.prog w = .ok (sameB f g) w := by
  obtain ⟨i0, hi, _⟩ := info_parts info8
  have h := run_equalIn_array w 9999 (av f) (av g) Try.underlying34 hi
  rw [cells8] at h
  rw [h, run_items f g w _ (by simp)]
  unfold sameB; rfl

end Go.Proofs.Yteeideminlcblaa
