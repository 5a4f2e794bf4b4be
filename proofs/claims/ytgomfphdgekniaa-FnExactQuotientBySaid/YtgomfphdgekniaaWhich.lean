/- the number of each dart's cycle: impl.cycleNumbers, spec.l01Which -/
import Derived.Test.YtgomfphdgekniaaHS3
import Derived.Test.YtgomfphdgekniaaSBlk
import Derived.Test.YtgomfphdgekniaaCellR
import Derived.Test.YtgomfphdgekniaaCnt
import Derived.Test.YtgomfphdgekniaaSCyc
namespace Go.Proofs.Ytgomfphdgekniaa
open Go.RowKit

theorem aggZ : AggT 61 16 := ⟨⟨_, Try.underlying61, rfl⟩, by kernel_rfl⟩
theorem zv_cells (f : Nat → Nat) : (zv f).all (·.oneCell') = true := by unfold zv row; simp [Value.oneCell']
@[go_sem] theorem is16_zv (f : Nat → Nat) : Is16 (zv f) ↔ True := ⟨fun _ => trivial, fun _ => zv_size f⟩
@[go_sem] theorem ones_zv (f : Nat → Nat) : Ones (zv f) ↔ True := ⟨fun _ => trivial, fun _ => zv_cells f⟩
section
variable (ρ : Operand → Value) (dst : Option Tmp) (x y : Operand) (ty : TypeId) (pos : String) (after : Array Edge) (guard : Option (Nat × Bool)) {w : World} {g : Nat} {cs : Array Value}
@[go_sem ↓] theorem exec_loadZ : execOp ρ { dst, op := .load 61 x, type := ty, pos, after, guard } = loadT 61 (ρ x) := rfl
@[go_sem ↓] theorem exec_storeZ : execOp ρ { dst, op := .store 61 x y, type := ty, pos, after, guard } = storeT 61 (ρ x) (ρ y) := rfl
@[go_sem] theorem run_loadZ (h : Is16 (cellsOf w g)) : (loadT 61 (.pointer (some ⟨g, 0, none⟩))).run Try.prog w = .ok (.value (.agg (cellsOf w g))) w := run_loadT aggZ h (by decide)
@[go_sem] theorem run_storeZ (h : rowOk w g 16) (hs : Is16 cs) (hc : Ones cs) : (storeT 61 (.pointer (some ⟨g, 0, none⟩)) (.agg cs)).run Try.prog w = .ok .skip (w.setRow g cs) := run_storeT aggZ h hs hc
end
/-- numbers laid down along one cycle, along all of them -/
def numA (c : List Nat) (i : Nat) : Nat → (Nat → Nat) → Nat → Nat
  | 0, h => h
  | j + 1, h => fset (numA c i j h) (c.getD j 0) i
def numT (cs : List (List Nat)) : Nat → Nat → Nat
  | 0 => fun _ => 0
  | i + 1 => numA (cs.getD i []) i (cs.getD i []).length (numT cs i)
def whichF (p : Nat → Nat) (m : Nat) : Nat → Nat := numT (cycs p m) (cycs p m).length
theorem cyc_lt {p : Nat → Nat} {m x : Nat} {c : List Nat} (hp : PermN p m) (h1 : c ∈ cycs p m) (h2 : x ∈ c) : x < m :=
  List.mem_range.1 ((cycs_flat hp.2.2.1 hp.2.1).subset (List.mem_flatten.2 ⟨c, h1, h2⟩))

set_option maxRecDepth 100000 in
set_option maxHeartbeats 1000000 in
theorem cycleNumbers_any (p : Nat → Nat) (m : Nat) (hp : PermN p m) (w : World) :
    Calls Try.prog 54 #[.agg (av p), .int .i64 m] w fun e w' => e = .returned (.agg (zv (whichF p m))) ∧ Below w.heap.size w w' := by
  have C1 := hide fun w => cycleList_any p m hp w
  have hbd := hide fun (x : Nat) (c : List Nat) (h1 : c ∈ cycs p m) (h2 : x ∈ c) => cyc_lt hp h1 h2
  have hcl := hide fun (c : List Nat) (h1 : c ∈ cycs p m) => (lens_pos hp.2.2.1 hp.2.1 (List.mem_map.2 ⟨c, h1, rfl⟩)).2
  have hle := cycs_le hp
  have hm := hp.2.1
  have hw : whichF p m = numT (cycs p m) (cycs p m).length := rfl
  rw [hw]
  clear hp hw
  generalize cycs p m = cs at *
  have HH0 := (((Holds.start w).blk (av p) 28 w.heap.size rfl).blk (zv fun _ => 0) 61 (w.heap.size + 1) (by simp)).blk (zv fun _ => 0) 61 (w.heap.size + 1 + 1) (by simp)
  go_enter Try.func54, Try.ntmps54
  go_wp2_with fail
  try rw [← zv_zero]
  refine (C1.out _).mono ?_
  rintro e w1 ⟨v, rfl, hb, ho⟩
  obtain ⟨A, c, vs, rfl, hv⟩ := own2_form ho
  have HLV := hide hv.len
  have HH1 := HH0.joinL (Holds.ofOwn2 hb hv)
  clear hb ho hv HH0
  go_wp2
  go_loopw [14] (fun t wr => ∃ i : Nat, i ≤ cs.length ∧ t = .int .i64 i ∧ Holds w wr (pBlk (w.heap.size + 1 + 1) (zv (numT cs i)) 61 :: pBlk (w.heap.size + 1) (zv fun _ => 0) 61 :: pBlk w.heap.size (av p) 28 :: pVals (.slice A cs.length c) vs :: rowsP vs cs)) (fun t _ => cs.length - (intOf t).toNat)
  case atStart => exact ⟨0, by omega, rfl, HH1⟩
  case round =>
    clear HH1
    obtain ⟨i, hi, rfl, hH⟩ := hrel
    by_cases hil : i < cs.length
    · have hil' : (i : Int) < cs.length := by omega
      obtain ⟨g0, c0, A', c', e0, hvi, x1, hpart⟩ := hH.rowAt HLV.out 3 rfl (fun _ => rfl) hil
      injection e0 with e0 e0a e0b
      subst e0
      clear e0a e0b
      have HX := hide hvi; clear hvi
      have hs : numT cs (i + 1) = numA cs[i] i cs[i].length (numT cs i) := by
        show numA (cs.getD i []) i (cs.getD i []).length (numT cs i) = _
        rw [List.getD_eq_getElem?_getD, List.getElem?_eq_getElem hil]; rfl
      have hmem := List.getElem_mem hil
      have hbi := fun x hx => hbd.out x _ hmem hx
      have hcil := hcl.out _ hmem
      generalize numT cs i = h0 at *
      generalize cs[i] = ci at *
      have HS := hide hs; clear hs
      have HBI := hide hbi; clear hbi hmem
      have hpt : ∀ h : Nat → Nat, (pBlk (w.heap.size + 1 + 1) (zv h) 61 :: pBlk (w.heap.size + 1) (zv fun _ => 0) 61 :: pBlk w.heap.size (av p) 28 :: pVals (.slice (some ⟨g0, 0, none⟩) cs.length c) vs :: rowsP vs cs)[i + (3 + 1)]? = some (pInts (.slice A' ci.length c') ci) := fun h => hpart
      have HPT := hide hpt; clear hpt hpart
      go_wp2
      clear x1
      go_loopw [21] (fun t wr => ∃ j : Nat, j ≤ ci.length ∧ t = .int .i64 j ∧ Holds w wr (pBlk (w.heap.size + 1 + 1) (zv (numA ci i j h0)) 61 :: pBlk (w.heap.size + 1) (zv fun _ => 0) 61 :: pBlk w.heap.size (av p) 28 :: pVals (.slice (some ⟨g0, 0, none⟩) cs.length c) vs :: rowsP vs cs)) (fun t _ => ci.length - (intOf t).toNat)
      case atStart => exact ⟨0, by omega, rfl, hH⟩
      case round =>
        clear hH
        obtain ⟨j, hj, rfl, hH⟩ := hrel
        have hpart := HPT.out (numA ci i j h0)
        by_cases hjl : j < ci.length
        · obtain ⟨g2, c2, e2, _, y1, _⟩ := hH.ints (i + 4) hpart hjl
          injection e2 with e2 e2a e2b
          subst e2
          clear e2a e2b
          have hst : numA ci i (j + 1) h0 = fset (numA ci i j h0) (ci.getD j 0) i := rfl
          have hgd : ci.getD j 0 = ci[j] := by rw [List.getD_eq_getElem?_getD, List.getElem?_eq_getElem hjl]; rfl
          rw [hgd] at hst
          have hx := HBI.out _ (List.getElem_mem hjl)
          generalize ci[j] = x at *
          have hx16 : (x : Int) < 16 := by omega
          have HST := hide hst; clear hst hgd
          have z0 := hH.cell 0 rfl (zv_get (numA ci i j h0) (i := x) (by omega))
          have z1 := hH.frozen 0 rfl x
          have hP := hH.set 0 rfl x (.int .i64 (i : Nat))
          rw [zv_set, ← HST.out] at hP
          go_wp2
          go_roundw
          case rel => exact ⟨j + 1, by omega, by go_num, hP⟩
          case measure => simp [intOf]; omega
        · obtain rfl : j = ci.length := by omega

          clear hj hjl hpart
          go_wp2
          go_roundw
          case rel => exact ⟨i + 1, by omega, by go_num, by rw [HS.out]; exact hH⟩
          case measure => simp [intOf]; omega
    · obtain rfl : i = cs.length := by omega
      have cc := hH.cells 0 rfl
      have rr := hH.rowOk 1 rfl (zv_size _)
      clear hi hil
      go_wp2
      have H2 := hH.setRow 1 rfl (zv (numT cs cs.length))
      exact res_agg (p := 4) (g := (w.heap.size + 1)) aggZ (zv_size _) rfl rfl rfl (H2.at 1 rfl) ⟨rfl, H2.low⟩


set_option maxRecDepth 100000 in
set_option maxHeartbeats 1000000 in
theorem sWhich_any (p : Nat → Nat) (m : Nat) (hp : PermN p m) (w : World) :
    Calls Try.prog 51 #[.agg (av p), .int .i64 m] w fun e w' => e = .returned (.agg (zv (whichF p m))) ∧ Below w.heap.size w w' := by
  have C1 := hide fun w => sCycles_any p m hp w
  have hbd := hide fun (x : Nat) (c : List Nat) (h1 : c ∈ cycs p m) (h2 : x ∈ c) => cyc_lt hp h1 h2
  have hcl := hide fun (c : List Nat) (h1 : c ∈ cycs p m) => (lens_pos hp.2.2.1 hp.2.1 (List.mem_map.2 ⟨c, h1, rfl⟩)).2
  have hle := cycs_le hp
  have hm := hp.2.1
  have hw : whichF p m = numT (cycs p m) (cycs p m).length := rfl
  rw [hw]
  clear hp hw
  generalize cycs p m = cs at *
  have HH0 := ((Holds.start w).blk (av p) 28 w.heap.size rfl).blk (zv fun _ => 0) 61 (w.heap.size + 1) (by simp)
  go_enter Try.func51, Try.ntmps51
  go_wp2_with fail
  try rw [← zv_zero]
  refine (C1.out _).mono ?_
  rintro e w1 ⟨v, rfl, hb, ho⟩
  obtain ⟨A, c, vs, rfl, hv⟩ := own2_form ho
  have HLV := hide hv.len
  have HH1 := (HH0.joinL (Holds.ofOwn2 hb hv)).blk (zv fun _ => 0) 61 w1.heap.size rfl
  clear hb ho hv HH0
  go_wp2
  try rw [← zv_zero]
  generalize w1.alloc (.cells (zv fun _ => 0) 61) = w2 at *
  generalize w1.heap.size = G5 at *
  go_loopw [7] (fun t wr => ∃ i : Nat, i ≤ cs.length ∧ t = .int .i64 i ∧ Holds w wr (pBlk G5 (zv (numT cs i)) 61 :: pBlk (w.heap.size + 1) (zv fun _ => 0) 61 :: pBlk w.heap.size (av p) 28 :: pVals (.slice A cs.length c) vs :: rowsP vs cs)) (fun t _ => cs.length - (intOf t).toNat)
  case atStart => exact ⟨0, by omega, rfl, HH1⟩
  case round =>
    clear HH1
    obtain ⟨i, hi, rfl, hH⟩ := hrel
    by_cases hil : i < cs.length
    · have hil' : (i : Int) < cs.length := by omega
      obtain ⟨g0, c0, A', c', e0, hvi, x1, hpart⟩ := hH.rowAt HLV.out 3 rfl (fun _ => rfl) hil
      injection e0 with e0 e0a e0b
      subst e0
      clear e0a e0b
      have HX := hide hvi; clear hvi
      have hs : numT cs (i + 1) = numA cs[i] i cs[i].length (numT cs i) := by
        show numA (cs.getD i []) i (cs.getD i []).length (numT cs i) = _
        rw [List.getD_eq_getElem?_getD, List.getElem?_eq_getElem hil]; rfl
      have hmem := List.getElem_mem hil
      have hbi := fun x hx => hbd.out x _ hmem hx
      have hcil := hcl.out _ hmem
      generalize numT cs i = h0 at *
      generalize cs[i] = ci at *
      have HS := hide hs; clear hs
      have HBI := hide hbi; clear hbi hmem
      have hpt : ∀ h : Nat → Nat, (pBlk G5 (zv h) 61 :: pBlk (w.heap.size + 1) (zv fun _ => 0) 61 :: pBlk w.heap.size (av p) 28 :: pVals (.slice (some ⟨g0, 0, none⟩) cs.length c) vs :: rowsP vs cs)[i + (3 + 1)]? = some (pInts (.slice A' ci.length c') ci) := fun h => hpart
      have HPT := hide hpt; clear hpt hpart
      go_wp2
      clear x1
      go_loopw [8] (fun t wr => ∃ j : Nat, j ≤ ci.length ∧ t = .int .i64 j ∧ Holds w wr (pBlk G5 (zv (numA ci i j h0)) 61 :: pBlk (w.heap.size + 1) (zv fun _ => 0) 61 :: pBlk w.heap.size (av p) 28 :: pVals (.slice (some ⟨g0, 0, none⟩) cs.length c) vs :: rowsP vs cs)) (fun t _ => ci.length - (intOf t).toNat)
      case atStart => exact ⟨0, by omega, rfl, hH⟩
      case round =>
        clear hH
        obtain ⟨j, hj, rfl, hH⟩ := hrel
        have hpart := HPT.out (numA ci i j h0)
        by_cases hjl : j < ci.length
        · obtain ⟨g2, c2, e2, _, y1, _⟩ := hH.ints (i + 4) hpart hjl
          injection e2 with e2 e2a e2b
          subst e2
          clear e2a e2b
          have x1 := hH.cellV 3 rfl HLV.out HX.out
          have hst : numA ci i (j + 1) h0 = fset (numA ci i j h0) (ci.getD j 0) i := rfl
          have hgd : ci.getD j 0 = ci[j] := by rw [List.getD_eq_getElem?_getD, List.getElem?_eq_getElem hjl]; rfl
          rw [hgd] at hst
          have hx := HBI.out _ (List.getElem_mem hjl)
          generalize ci[j] = x at *
          have hx16 : (x : Int) < 16 := by omega
          have HST := hide hst; clear hst hgd
          have z0 := hH.cell 0 rfl (zv_get (numA ci i j h0) (i := x) (by omega))
          have z1 := hH.frozen 0 rfl x
          have hP := hH.set 0 rfl x (.int .i64 (i : Nat))
          rw [zv_set, ← HST.out] at hP
          go_wp2
          go_roundw
          case rel => exact ⟨j + 1, by omega, by go_num, hP⟩
          case measure => simp [intOf]; omega
        · obtain rfl : j = ci.length := by omega
          have x1 := hH.cellV 3 rfl HLV.out HX.out
          clear hj hjl hpart
          go_wp2
          go_roundw
          case rel => exact ⟨i + 1, by omega, by go_num, by rw [HS.out]; exact hH⟩
          case measure => simp [intOf]; omega
    · obtain rfl : i = cs.length := by omega
      have cc := hH.cells 0 rfl
      have rr := hH.rowOk 1 rfl (zv_size _)
      clear hi hil
      go_wp2
      have H2 := hH.setRow 1 rfl (zv (numT cs cs.length))
      exact res_agg (p := 4) (g := (w.heap.size + 1)) aggZ (zv_size _) rfl rfl rfl (H2.at 1 rfl) ⟨rfl, H2.low⟩

end Go.Proofs.Ytgomfphdgekniaa
