/- Three permutations in one array; impl.turnsOf. -/
import Derived.Test.YtmapjjfefjoemaaPF
import Derived.Test.YtmapjjfefjoemaaBld
namespace Go.Proofs.Ytmapjjfefjoemaa
open Go.RowKit

def pick3 (f g h : Nat → Nat) (k : Nat) : Nat → Nat := if k = 0 then f else if k = 1 then g else h
@[irreducible] def tv (f g h : Nat → Nat) : Array Value := row 48 fun i => if i < 16 then .int .u8 (f i) else if i < 32 then .int .u8 (g (i - 16)) else .int .u8 (h (i - 32))
theorem tv_size (f g h : Nat → Nat) : (tv f g h).size = 48 := by unfold tv; exact row_size _ _
theorem tv_cases (f g h : Nat → Nat) (i : Nat) : (tv f g h)[i]? = if i < 48 then some (if i < 16 then .int .u8 (f i) else if i < 32 then .int .u8 (g (i - 16)) else .int .u8 (h (i - 32))) else none := by
  unfold tv
  by_cases c : i < 48
  · rw [row_get _ _ c, if_pos c]
  · rw [row_none _ _ c, if_neg c]
theorem tv_cells (f g h : Nat → Nat) : (tv f g h).all (·.oneCell') = true := by
  unfold tv row
  simp only [List.all_toArray, List.all_map, List.all_eq_true, Function.comp]
  intro i _
  split
  · rfl
  · split <;> rfl
theorem tv_part (f g h : Nat → Nat) {k : Nat} (hk : k < 3) : (tv f g h).extract (k * 16) (k * 16 + 16) = av (pick3 f g h k) := by
  apply Array.ext_getElem?
  intro i
  rw [Array.getElem?_extract, tv_cases, av_cases, tv_size]
  by_cases c : i < 16
  · rw [if_pos (by omega), if_pos (by omega), if_pos c]
    unfold pick3
    have : k = 0 ∨ k = 1 ∨ k = 2 := by omega
    rcases this with rfl | rfl | rfl
    · simp [c]
    · have h1 : ¬ 16 + i < 16 := by omega
      have h2 : 16 + i < 32 := by omega
      have h3 : 16 + i - 16 = i := by omega
      simp [h1, h2, h3]
    · have h1 : ¬ 32 + i < 16 := by omega
      have h2 : ¬ 32 + i < 32 := by omega
      have h3 : 32 + i - 32 = i := by omega
      simp [h1, h2, h3]
  · rw [if_neg (by omega), if_neg c]
theorem aggT : AggT 64 48 := ⟨⟨_, Try.underlying64, rfl⟩, by kernel_rfl⟩
def Is48 (c : Array Value) : Prop := c.size = 48
@[go_sem] theorem is48_tv (f g h : Nat → Nat) : Is48 (tv f g h) ↔ True := ⟨fun _ => trivial, fun _ => tv_size f g h⟩
@[go_sem] theorem ones_tv (f g h : Nat → Nat) : Ones (tv f g h) ↔ True := ⟨fun _ => trivial, fun _ => tv_cells f g h⟩

/-- an entry of it by value -/
def idxT (v i : Value) : Sem Next := do pure (.value (← Instr.index 64 v i))
theorem run_idx3 (f g h : Nat → Nat) {k : Nat} (hk : k < 3) (w : World) : (Instr.index 64 (.agg (tv f g h)) (.int .i64 k)).run Try.prog w = .ok (.agg (av (pick3 f g h k))) w := by
  obtain ⟨d, hd, hd'⟩ := aggP.und
  have hz : Try.prog.cellsOf 29 = 16 := by kernel_rfl
  have hn : (Try.prog.info? 29).map (·.size) = some 16 := infoP
  rcases hi : Try.prog.info? 29 with _ | it
  · rw [hi] at hn; cases hn
  · have hb : (0 : Int) ≤ (k : Int) ∧ (k : Int) < ((3 : Nat) : Int) := by omega
    have ha : (isAgg 29).run Try.prog w = .ok true w := by
      cases d <;> first | (simp at hd'; done) | simp [isAgg, run_underlying hd]
    have hz' : (sizeOf 29).run Try.prog w = .ok 16 w := by rw [run_sizeOf w hi, hz]
    simp only [Instr.index, asIntOf, run_underlying Try.underlying64, Sem.run_bind, Sem.run_pure, Result.andThen_ok]
    rw [if_pos hb]
    simp only [part, Sem.run_bind, hz', ha, Result.andThen_ok, if_true, Sem.run_pure, Int.toNat_natCast, tv_part f g h hk]
section
variable (ρ : Operand → Value) (dst : Option Tmp) (x y : Operand) (ty : TypeId) (pos : String) (after : Array Edge) (guard : Option (Nat × Bool))
@[go_sem ↓] theorem exec_idxT : execOp ρ { dst, op := .index 64 x y, type := ty, pos, after, guard } = idxT (ρ x) (ρ y) := rfl
@[go_sem ↓] theorem exec_storeT : execOp ρ { dst, op := .store 64 x y, type := ty, pos, after, guard } = storeT 64 (ρ x) (ρ y) := rfl
end
@[go_sem] theorem run_idxT (f g h : Nat → Nat) {k : Nat} (hk : k < 3) (w : World) : (idxT (.agg (tv f g h)) (.int .i64 k)).run Try.prog w = .ok (.value (.agg (av (pick3 f g h k)))) w := by
  simp only [idxT, Sem.run_bind, run_idx3 f g h hk w, Result.andThen_ok, Sem.run_pure]
@[go_sem] theorem run_storeT3 {w : World} {g : Nat} {cs : Array Value} (h : rowOk w g 48) (hs : Is48 cs) (hc : Ones cs) :
    (storeT 64 (.pointer (some ⟨g, 0, none⟩)) (.agg cs)).run Try.prog w = .ok .skip (w.setRow g cs) := run_storeT aggT h hs hc

set_option maxRecDepth 100000 in
theorem builtT (f g h : Nat → Nat) : Try.prog.built 64 [(0, .agg (av f)), (1, .agg (av g)), (2, .agg (av h))] = some (tv f g h) := by
  have hu := Try.underlying64
  have hz : (Try.prog.info? 64).map (·.zero) = some (some (.agg (tv (fun _ => 0) (fun _ => 0) (fun _ => 0)))) := by unfold tv row; kernel_rfl
  have hn : (Try.prog.info? 29).map (·.size) = some 16 := infoP
  unfold Program.built
  rcases hi : Try.prog.info? 64 with _ | it
  · rw [hi] at hz; cases hz
  · rcases hj : Try.prog.info? 29 with _ | ip
    · rw [hj] at hn; cases hn
    · rw [hi] at hz
      rw [hj] at hn
      have hz' : it.zero = some (.agg (tv (fun _ => 0) (fun _ => 0) (fun _ => 0))) := by simpa using hz
      have hn' : ip.size = 16 := by simpa using hn
      rw [hu]
      simp only [hz', hj, hn', Instr.fill, Value.cells, Nat.zero_mul, Nat.one_mul, av_size, splice_eq, splice_size, tv_size]
      rw [if_neg (by simp), if_neg (by simp), if_neg (by simp)]
      congr 1
      apply Array.ext_getElem?
      intro i
      have l1 : (av f).toList.length = 16 := by simpa using av_size f
      have l2 : (av g).toList.length = 16 := by simpa using av_size g
      have l3 : (av h).toList.length = 16 := by simpa using av_size h
      rw [foldset, foldset, foldset, tv_cases, tv_cases, splice_size, splice_size, tv_size, l1, l2, l3, Array.getElem?_toList, Array.getElem?_toList, Array.getElem?_toList, av_cases, av_cases, av_cases]
      by_cases h1 : i < 16
      · rw [if_neg (by omega), if_neg (by omega), if_pos (by omega), if_pos (by omega), if_pos (by omega), if_pos h1]; simp
      · by_cases h2 : i < 32
        · rw [if_neg (by omega), if_pos (by omega), if_pos (by omega), if_pos (by omega), if_neg h1, if_pos h2]
        · by_cases h3 : i < 48
          · rw [if_pos (by omega), if_pos (by omega), if_pos h3, if_neg h1, if_neg h2]
          · rw [if_neg (by omega), if_neg (by omega), if_neg (by omega), if_neg h3, if_neg h3]
def buildT (ps : Array (Nat × Value)) : Sem Next := do pure (.value (← Instr.build 64 ps))
@[go_sem ↓] theorem exec_buildT (ρ : Operand → Value) (dst : Option Tmp) (parts : Array (Nat × Operand)) (ty : TypeId) (pos : String) (after : Array Edge) (guard : Option (Nat × Bool)) :
    execOp ρ { dst, op := .build 64 parts, type := ty, pos, after, guard } = buildT (parts.map fun (i, x) => (i, ρ x)) := rfl
@[go_sem] theorem run_buildT (f g h : Nat → Nat) (w : World) : (buildT #[(0, .agg (av f)), (1, .agg (av g)), (2, .agg (av h))]).run Try.prog w = .ok (.value (.agg (tv f g h))) w := by
  simp only [buildT, Sem.run_bind, run_build (P := Try.prog) w 64 #[(0, .agg (av f)), (1, .agg (av g)), (2, .agg (av h))] _ (builtT f g h), Result.andThen_ok, Sem.run_pure]

set_option maxRecDepth 100000 in
set_option maxHeartbeats 1000000 in
theorem turnsOf_any (f g : Nat → Nat) (m : Nat) (hd : DesN f g m) (w : World) :
    Calls Try.prog 54 #[.agg (dv m f g)] w fun e w' => e = .returned (.agg (tv f g (faceF f g m))) ∧ Below w.heap.size w w' := by
  have C1 := hide fun w => face_any f g m hd.le hd.bf.1 hd.bg.1 w
  generalize faceF f g m = F at *
  clear hd
  have hn := dv_n m f g
  go_enter Try.func54, Try.ntmps54
  go_wp2
  generalize hW : (w.alloc (.cells (dv m f g) 31)).alloc _ = W
  have c0 : cellsOf W w.heap.size = dv m f g := by rw [← hW]; exact cellsOf_heap (heap1 rfl)
  have r1 : rowOk W (w.heap.size + 1) 48 := by rw [← hW]; exact ⟨_, _, heap_at _ _ _ (by simp), by simp⟩
  have b0 : Below w.heap.size w W := by rw [← hW]; exact below2 _ _ _
  have l0 : w.heap.size < W.heap.size := by rw [← hW]; simp <;> omega
  clear hW
  refine region_tail (Grown W) 7 (by kernel_rfl) (by kernel_rfl) (Grown.drew W) ?_
  simp only [List.take_succ_cons, List.take_zero, List.drop_succ_cons, List.drop_zero]
  iterate 7
    apply q_step
    · go_simp
    · intro wx hx
      have e0 := hx.cells c0 l0
      have n0 : wx.cell? ⟨w.heap.size, 0, none⟩ = some (.int .i64 m) := by rw [cell_of_cells, e0]; exact hn
      first
        | (go_simp; exact rfl)
        | (go_simp; go_at_call 70; exact Calls.mono (C1.out wx) fun e w' h => ⟨h.1, hx.call h.2⟩)
  refine wpQuiet_nil ?_
  intro w1 hx
  have r2 := hx.row r1
  have b2 : Below w.heap.size w w1 := b0.trans (Below.mono hx b0.size)
  clear c0 r1 b0 l0 hx
  go_wp2
  obtain ⟨t, ht, _⟩ := r2.heap
  exact res_agg (p := 2) (g := w.heap.size + 1) aggT (tv_size f g F) rfl rfl rfl (setRow_heap _ _ _ _ t (0, 0) ht) ⟨rfl, below_setRow b2 (by omega) _⟩
end Go.Proofs.Ytmapjjfefjoemaa
