/- Two permutations in one array. -/
import Derived.Test.YtmapjjfefjoemaaTrio
import Derived.Test.YtmapjjfefjoemaaMake
namespace Go.Proofs.Ytmapjjfefjoemaa
open Go.RowKit

def pick2 (f g : Nat → Nat) (k : Nat) : Nat → Nat := if k = 0 then f else g
@[irreducible] def tw9 (f g : Nat → Nat) : Array Value := row 32 fun i => if i < 16 then .int .u8 (f i) else .int .u8 (g (i - 16))
theorem tw9_size (f g : Nat → Nat) : (tw9 f g).size = 32 := by unfold tw9; exact row_size _ _
theorem tw9_cases (f g : Nat → Nat) (i : Nat) : (tw9 f g)[i]? = if i < 32 then some (if i < 16 then .int .u8 (f i) else .int .u8 (g (i - 16))) else none := by
  unfold tw9
  by_cases c : i < 32
  · rw [row_get _ _ c, if_pos c]
  · rw [row_none _ _ c, if_neg c]
theorem tw9_part (f g : Nat → Nat) {k : Nat} (hk : k < 2) : (tw9 f g).extract (k * 16) (k * 16 + 16) = av (pick2 f g k) := by
  apply Array.ext_getElem?
  intro i
  rw [Array.getElem?_extract, tw9_cases, av_cases, tw9_size]
  by_cases c : i < 16
  · rw [if_pos (by omega), if_pos (by omega), if_pos c]
    unfold pick2
    have : k = 0 ∨ k = 1 := by omega
    rcases this with rfl | rfl
    · simp [c]
    · have h1 : ¬ 16 + i < 16 := by omega
      have h3 : 16 + i - 16 = i := by omega
      simp [h1, h3]
  · rw [if_neg (by omega), if_neg c]
def idxW (v i : Value) : Sem Next := do pure (.value (← Instr.index 111 v i))
theorem run_idx2 (f g : Nat → Nat) {k : Nat} (hk : k < 2) (w : World) : (Instr.index 111 (.agg (tw9 f g)) (.int .i64 k)).run Try.prog w = .ok (.agg (av (pick2 f g k))) w := by
  obtain ⟨d, hd, hd'⟩ := aggP.und
  have hz : Try.prog.cellsOf 29 = 16 := by kernel_rfl
  have hn : (Try.prog.info? 29).map (·.size) = some 16 := infoP
  rcases hi : Try.prog.info? 29 with _ | it
  · rw [hi] at hn; cases hn
  · have hb : (0 : Int) ≤ (k : Int) ∧ (k : Int) < ((2 : Nat) : Int) := by omega
    have ha : (isAgg 29).run Try.prog w = .ok true w := by
      cases d <;> first | (simp at hd'; done) | simp [isAgg, run_underlying hd]
    have hz' : (sizeOf 29).run Try.prog w = .ok 16 w := by rw [run_sizeOf w hi, hz]
    simp only [Instr.index, asIntOf, run_underlying Try.underlying111, Sem.run_bind, Sem.run_pure, Result.andThen_ok]
    rw [if_pos hb]
    simp only [part, Sem.run_bind, hz', ha, Result.andThen_ok, if_true, Sem.run_pure, Int.toNat_natCast, tw9_part f g hk]
@[go_sem ↓] theorem exec_idxW (ρ : Operand → Value) (dst : Option Tmp) (x y : Operand) (ty : TypeId) (pos : String) (after : Array Edge) (guard : Option (Nat × Bool)) :
    execOp ρ { dst, op := .index 111 x y, type := ty, pos, after, guard } = idxW (ρ x) (ρ y) := rfl
@[go_sem] theorem run_idxW (f g : Nat → Nat) {k : Nat} (hk : k < 2) (w : World) : (idxW (.agg (tw9 f g)) (.int .i64 k)).run Try.prog w = .ok (.value (.agg (av (pick2 f g k)))) w := by
  simp only [idxW, Sem.run_bind, run_idx2 f g hk w, Result.andThen_ok, Sem.run_pure]
set_option maxRecDepth 100000 in
theorem builtW (f g : Nat → Nat) : Try.prog.built 111 [(0, .agg (av f)), (1, .agg (av g))] = some (tw9 f g) := by
  have h := built_arr (P := Try.prog) (T := 111) (E := 29) (n := 2) (s := 16) (N := 32) Try.underlying111 (by kernel_rfl) infoP [(0, .agg (av f)), (1, .agg (av g))]
    (by simp [Fits, Value.cells, av_size]) (by simp [flatC, Value.cells, av_size])
  rw [h]
  congr 1
  apply Array.ext_getElem?
  intro i
  rw [tw9_cases]
  have l1 : (av f).toList.length = 16 := by simpa using av_size f
  have l2 : (av g).toList.length = 16 := by simpa using av_size g
  simp only [flatC, List.flatMap_cons, List.flatMap_nil, List.append_nil, Value.cells, List.getElem?_toArray]
  by_cases h1 : i < 16
  · rw [List.getElem?_append_left (by omega), Array.getElem?_toList, av_cases, if_pos h1, if_pos (by omega), if_pos h1]
  · rw [List.getElem?_append_right (by omega), l1, Array.getElem?_toList, av_cases]
    by_cases h2 : i < 32
    · rw [if_pos (by omega), if_pos h2, if_neg h1]
    · rw [if_neg (by omega), if_neg h2]
def buildW (ps : Array (Nat × Value)) : Sem Next := do pure (.value (← Instr.build 111 ps))
@[go_sem ↓] theorem exec_buildW (ρ : Operand → Value) (dst : Option Tmp) (parts : Array (Nat × Operand)) (ty : TypeId) (pos : String) (after : Array Edge) (guard : Option (Nat × Bool)) :
    execOp ρ { dst, op := .build 111 parts, type := ty, pos, after, guard } = buildW (parts.map fun (i, x) => (i, ρ x)) := rfl
@[go_sem] theorem run_buildW (f g : Nat → Nat) (w : World) : (buildW #[(0, .agg (av f)), (1, .agg (av g))]).run Try.prog w = .ok (.value (.agg (tw9 f g))) w := by
  simp only [buildW, Sem.run_bind, run_build (P := Try.prog) w 111 #[(0, .agg (av f)), (1, .agg (av g))] _ (builtW f g), Result.andThen_ok, Sem.run_pure]
end Go.Proofs.Ytmapjjfefjoemaa
