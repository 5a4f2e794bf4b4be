/- Texts put together: Which, Prj, Same, SameD, Bld, Ren, QuoM, RegD, QuoP -/
import Derived.Test.YtgomfphdgekniaaQdLawIncidencesOf
import Derived.Test.YtgomfphdgekniaaChecked
import Derived.WalkKit
import Derived.WalkSpells
import Derived.WalkLawsBesides
import Derived.Deep.LoopGhost
import Derived.Deep.OwnRows
import Derived.Laws.Rows
import Derived.Laws.Tables
import Derived.Laws.CopyOwn
import Derived.ProofKit
import Derived.OpenShut
import Derived.ShutString
import Derived.ChangeOld
import Derived.Below
import Derived.Laws.OwnMore
import Derived.BigQuiet
import Derived.Deep.QuietTactic
import Derived.RegionTactic
import Derived.Deep.RegionWith
import Derived.Laws.CopyRow
import Derived.Deep.MidRow
import Derived.Deep.Quiet
import Derived.StillTail
import Derived.OwnWalk
import Derived.ChangeSlices
import Derived.ChangeKeysEq
import Derived.StillTailTactics
import Derived.Deep.RegionHeld3
import Derived.Laws.Cover3
import Derived.IntWalk
import Derived.Laws.StructEq
namespace Go.Proofs.Ytgomfphdgekniaa
open Go.RowKit

theorem aggZ : AggT 61 16 := ⟨⟨_, Try.underlying61, rfl⟩, by kernel_rfl⟩
theorem zv_cells (f : Nat → Nat) : (zv f).all (·.oneCell') = true := by unfold zv row; simp [Value.oneCell']
@[go_sem] theorem is16_zv (f : Nat → Nat) : Is16 (zv f) ↔ True := ⟨fun _ => trivial, fun _ => zv_size f⟩
@[go_sem] theorem ones_zv (f : Nat → Nat) : Ones (zv f) ↔ True := ⟨fun _ => trivial, fun _ => zv_cells f⟩
section
variable (ρ : Operand → Value) (dst : Option Tmp) (x y : Operand) (ty : TypeId) (pos : String) (after : Array Edge) (guard : Option (Nat × Bool)) {w : World} {g : Nat} {cs : Array Value}
@[go_sem ↓] theorem exec_loadZ : execOp ρ { dst, op := .load 61 x, type := ty, pos, after, guard } = loadT 61 (ρ x) := rfl
@[go_sem ↓] theorem exec_storeZ : execOp ρ { dst, op := .store 61 x y, type := ty, pos, after, guard } = storeT 61 (ρ x) (ρ y) := rfl
@[go_sem] theorem run_loadZ (h : Is16 (cellsOf w g)) : (loadT 61 (.pointer (some ⟨g, 0, none⟩))).run Try.prog w = .ok (.value (.agg (cellsOf w g))) w := run_loadT aggZ h (by decide)
@[go_sem] theorem run_storeZ (h : rowOk w g 16) (hs : Is16 cs) (hc : Ones cs) : (storeT 61 (.pointer (some ⟨g, 0, none⟩)) (.agg cs)).run Try.prog w = .ok .skip (w.setRow g cs) := run_storeT aggZ h hs hc
end
/-- numbers laid down along one cycle, along all of them -/
def numA (c : List Nat) (i : Nat) : Nat → (Nat → Nat) → Nat → Nat
  | 0, h => h
  | j + 1, h => fset (numA c i j h) (c.getD j 0) i
def numT (cs : List (List Nat)) : Nat → Nat → Nat
  | 0 => fun _ => 0
  | i + 1 => numA (cs.getD i []) i (cs.getD i []).length (numT cs i)
def whichF (p : Nat → Nat) (m : Nat) : Nat → Nat := numT (cycs p m) (cycs p m).length
theorem cyc_lt {p : Nat → Nat} {m x : Nat} {c : List Nat} (hp : PermN p m) (h1 : c ∈ cycs p m) (h2 : x ∈ c) : x < m :=
  List.mem_range.1 ((cycs_flat hp.2.2.1 hp.2.1).subset (List.mem_flatten.2 ⟨c, h1, h2⟩))

set_option maxRecDepth 100000 in
set_option maxHeartbeats 1000000 in
theorem cycleNumbers_any (p : Nat → Nat) (m : Nat) (hp : PermN p m) (w : World) :
    Calls Try.prog 54 #[.agg (av p), .int .i64 m] w fun e w' => e = .returned (.agg (zv (whichF p m))) ∧ Below w.heap.size w w' := by
  have C1 := hide fun w => cycleList_any p m hp w
  have hbd := hide fun (x : Nat) (c : List Nat) (h1 : c ∈ cycs p m) (h2 : x ∈ c) => cyc_lt hp h1 h2
  have hcl := hide fun (c : List Nat) (h1 : c ∈ cycs p m) => (lens_pos hp.2.2.1 hp.2.1 (List.mem_map.2 ⟨c, h1, rfl⟩)).2
  have hle := cycs_le hp
  have hm := hp.2.1
  have hw : whichF p m = numT (cycs p m) (cycs p m).length := rfl
  rw [hw]
  clear hp hw
  generalize cycs p m = cs at *
  have HH0 := (((Holds.start w).blk (av p) 28 w.heap.size rfl).blk (zv fun _ => 0) 61 (w.heap.size + 1) (by simp)).blk (zv fun _ => 0) 61 (w.heap.size + 1 + 1) (by simp)
  go_enter Try.func54, Try.ntmps54
  go_wp2_with fail
  try rw [← zv_zero]
  refine (C1.out _).mono ?_
  rintro e w1 ⟨v, rfl, hb, ho⟩
  obtain ⟨A, c, vs, rfl, hv⟩ := own2_form ho
  have HLV := hide hv.len
  have HH1 := HH0.joinL (Holds.ofOwn2 hb hv)
  clear hb ho hv HH0
  go_wp2
  go_loopw [14] (fun t wr => ∃ i : Nat, i ≤ cs.length ∧ t = .int .i64 i ∧ Holds w wr (pBlk (w.heap.size + 1 + 1) (zv (numT cs i)) 61 :: pBlk (w.heap.size + 1) (zv fun _ => 0) 61 :: pBlk w.heap.size (av p) 28 :: pVals (.slice A cs.length c) vs :: rowsP vs cs)) (fun t _ => cs.length - (intOf t).toNat)
  case atStart => exact ⟨0, by omega, rfl, HH1⟩
  case round =>
    clear HH1
    obtain ⟨i, hi, rfl, hH⟩ := hrel
    by_cases hil : i < cs.length
    · have hil' : (i : Int) < cs.length := by omega
      obtain ⟨g0, c0, A', c', e0, hvi, x1, hpart⟩ := hH.rowAt HLV.out 3 rfl (fun _ => rfl) hil
      injection e0 with e0 e0a e0b
      subst e0
      clear e0a e0b
      have HX := hide hvi; clear hvi
      have hs : numT cs (i + 1) = numA cs[i] i cs[i].length (numT cs i) := by
        show numA (cs.getD i []) i (cs.getD i []).length (numT cs i) = _
        rw [List.getD_eq_getElem?_getD, List.getElem?_eq_getElem hil]; rfl
      have hmem := List.getElem_mem hil
      have hbi := fun x hx => hbd.out x _ hmem hx
      have hcil := hcl.out _ hmem
      generalize numT cs i = h0 at *
      generalize cs[i] = ci at *
      have HS := hide hs; clear hs
      have HBI := hide hbi; clear hbi hmem
      have hpt : ∀ h : Nat → Nat, (pBlk (w.heap.size + 1 + 1) (zv h) 61 :: pBlk (w.heap.size + 1) (zv fun _ => 0) 61 :: pBlk w.heap.size (av p) 28 :: pVals (.slice (some ⟨g0, 0, none⟩) cs.length c) vs :: rowsP vs cs)[i + (3 + 1)]? = some (pInts (.slice A' ci.length c') ci) := fun h => hpart
      have HPT := hide hpt; clear hpt hpart
      go_wp2
      clear x1
      go_loopw [21] (fun t wr => ∃ j : Nat, j ≤ ci.length ∧ t = .int .i64 j ∧ Holds w wr (pBlk (w.heap.size + 1 + 1) (zv (numA ci i j h0)) 61 :: pBlk (w.heap.size + 1) (zv fun _ => 0) 61 :: pBlk w.heap.size (av p) 28 :: pVals (.slice (some ⟨g0, 0, none⟩) cs.length c) vs :: rowsP vs cs)) (fun t _ => ci.length - (intOf t).toNat)
      case atStart => exact ⟨0, by omega, rfl, hH⟩
      case round =>
        clear hH
        obtain ⟨j, hj, rfl, hH⟩ := hrel
        have hpart := HPT.out (numA ci i j h0)
        by_cases hjl : j < ci.length
        · obtain ⟨g2, c2, e2, _, y1, _⟩ := hH.ints (i + 4) hpart hjl
          injection e2 with e2 e2a e2b
          subst e2
          clear e2a e2b
          have hst : numA ci i (j + 1) h0 = fset (numA ci i j h0) (ci.getD j 0) i := rfl
          have hgd : ci.getD j 0 = ci[j] := by rw [List.getD_eq_getElem?_getD, List.getElem?_eq_getElem hjl]; rfl
          rw [hgd] at hst
          have hx := HBI.out _ (List.getElem_mem hjl)
          generalize ci[j] = x at *
          have hx16 : (x : Int) < 16 := by omega
          have HST := hide hst; clear hst hgd
          have z0 := hH.cell 0 rfl (zv_get (numA ci i j h0) (i := x) (by omega))
          have z1 := hH.frozen 0 rfl x
          have hP := hH.set 0 rfl x (.int .i64 (i : Nat))
          rw [zv_set, ← HST.out] at hP
          go_wp2
          go_roundw
          case rel => exact ⟨j + 1, by omega, by go_num, hP⟩
          case measure => simp [intOf]; omega
        · obtain rfl : j = ci.length := by omega

          clear hj hjl hpart
          go_wp2
          go_roundw
          case rel => exact ⟨i + 1, by omega, by go_num, by rw [HS.out]; exact hH⟩
          case measure => simp [intOf]; omega
    · obtain rfl : i = cs.length := by omega
      have cc := hH.cells 0 rfl
      have rr := hH.rowOk 1 rfl (zv_size _)
      clear hi hil
      go_wp2
      have H2 := hH.setRow 1 rfl (zv (numT cs cs.length))
      exact res_agg (p := 4) (g := (w.heap.size + 1)) aggZ (zv_size _) rfl rfl rfl (H2.at 1 rfl) ⟨rfl, H2.low⟩


set_option maxRecDepth 100000 in
set_option maxHeartbeats 1000000 in
theorem sWhich_any (p : Nat → Nat) (m : Nat) (hp : PermN p m) (w : World) :
    Calls Try.prog 51 #[.agg (av p), .int .i64 m] w fun e w' => e = .returned (.agg (zv (whichF p m))) ∧ Below w.heap.size w w' := by
  have C1 := hide fun w => sCycles_any p m hp w
  have hbd := hide fun (x : Nat) (c : List Nat) (h1 : c ∈ cycs p m) (h2 : x ∈ c) => cyc_lt hp h1 h2
  have hcl := hide fun (c : List Nat) (h1 : c ∈ cycs p m) => (lens_pos hp.2.2.1 hp.2.1 (List.mem_map.2 ⟨c, h1, rfl⟩)).2
  have hle := cycs_le hp
  have hm := hp.2.1
  have hw : whichF p m = numT (cycs p m) (cycs p m).length := rfl
  rw [hw]
  clear hp hw
  generalize cycs p m = cs at *
  have HH0 := ((Holds.start w).blk (av p) 28 w.heap.size rfl).blk (zv fun _ => 0) 61 (w.heap.size + 1) (by simp)
  go_enter Try.func51, Try.ntmps51
  go_wp2_with fail
  try rw [← zv_zero]
  refine (C1.out _).mono ?_
  rintro e w1 ⟨v, rfl, hb, ho⟩
  obtain ⟨A, c, vs, rfl, hv⟩ := own2_form ho
  have HLV := hide hv.len
  have HH1 := (HH0.joinL (Holds.ofOwn2 hb hv)).blk (zv fun _ => 0) 61 w1.heap.size rfl
  clear hb ho hv HH0
  go_wp2
  try rw [← zv_zero]
  generalize w1.alloc (.cells (zv fun _ => 0) 61) = w2 at *
  generalize w1.heap.size = G5 at *
  go_loopw [7] (fun t wr => ∃ i : Nat, i ≤ cs.length ∧ t = .int .i64 i ∧ Holds w wr (pBlk G5 (zv (numT cs i)) 61 :: pBlk (w.heap.size + 1) (zv fun _ => 0) 61 :: pBlk w.heap.size (av p) 28 :: pVals (.slice A cs.length c) vs :: rowsP vs cs)) (fun t _ => cs.length - (intOf t).toNat)
  case atStart => exact ⟨0, by omega, rfl, HH1⟩
  case round =>
    clear HH1
    obtain ⟨i, hi, rfl, hH⟩ := hrel
    by_cases hil : i < cs.length
    · have hil' : (i : Int) < cs.length := by omega
      obtain ⟨g0, c0, A', c', e0, hvi, x1, hpart⟩ := hH.rowAt HLV.out 3 rfl (fun _ => rfl) hil
      injection e0 with e0 e0a e0b
      subst e0
      clear e0a e0b
      have HX := hide hvi; clear hvi
      have hs : numT cs (i + 1) = numA cs[i] i cs[i].length (numT cs i) := by
        show numA (cs.getD i []) i (cs.getD i []).length (numT cs i) = _
        rw [List.getD_eq_getElem?_getD, List.getElem?_eq_getElem hil]; rfl
      have hmem := List.getElem_mem hil
      have hbi := fun x hx => hbd.out x _ hmem hx
      have hcil := hcl.out _ hmem
      generalize numT cs i = h0 at *
      generalize cs[i] = ci at *
      have HS := hide hs; clear hs
      have HBI := hide hbi; clear hbi hmem
      have hpt : ∀ h : Nat → Nat, (pBlk G5 (zv h) 61 :: pBlk (w.heap.size + 1) (zv fun _ => 0) 61 :: pBlk w.heap.size (av p) 28 :: pVals (.slice (some ⟨g0, 0, none⟩) cs.length c) vs :: rowsP vs cs)[i + (3 + 1)]? = some (pInts (.slice A' ci.length c') ci) := fun h => hpart
      have HPT := hide hpt; clear hpt hpart
      go_wp2
      clear x1
      go_loopw [8] (fun t wr => ∃ j : Nat, j ≤ ci.length ∧ t = .int .i64 j ∧ Holds w wr (pBlk G5 (zv (numA ci i j h0)) 61 :: pBlk (w.heap.size + 1) (zv fun _ => 0) 61 :: pBlk w.heap.size (av p) 28 :: pVals (.slice (some ⟨g0, 0, none⟩) cs.length c) vs :: rowsP vs cs)) (fun t _ => ci.length - (intOf t).toNat)
      case atStart => exact ⟨0, by omega, rfl, hH⟩
      case round =>
        clear hH
        obtain ⟨j, hj, rfl, hH⟩ := hrel
        have hpart := HPT.out (numA ci i j h0)
        by_cases hjl : j < ci.length
        · obtain ⟨g2, c2, e2, _, y1, _⟩ := hH.ints (i + 4) hpart hjl
          injection e2 with e2 e2a e2b
          subst e2
          clear e2a e2b
          have x1 := hH.cellV 3 rfl HLV.out HX.out
          have hst : numA ci i (j + 1) h0 = fset (numA ci i j h0) (ci.getD j 0) i := rfl
          have hgd : ci.getD j 0 = ci[j] := by rw [List.getD_eq_getElem?_getD, List.getElem?_eq_getElem hjl]; rfl
          rw [hgd] at hst
          have hx := HBI.out _ (List.getElem_mem hjl)
          generalize ci[j] = x at *
          have hx16 : (x : Int) < 16 := by omega
          have HST := hide hst; clear hst hgd
          have z0 := hH.cell 0 rfl (zv_get (numA ci i j h0) (i := x) (by omega))
          have z1 := hH.frozen 0 rfl x
          have hP := hH.set 0 rfl x (.int .i64 (i : Nat))
          rw [zv_set, ← HST.out] at hP
          go_wp2
          go_roundw
          case rel => exact ⟨j + 1, by omega, by go_num, hP⟩
          case measure => simp [intOf]; omega
        · obtain rfl : j = ci.length := by omega
          have x1 := hH.cellV 3 rfl HLV.out HX.out
          clear hj hjl hpart
          go_wp2
          go_roundw
          case rel => exact ⟨i + 1, by omega, by go_num, by rw [HS.out]; exact hH⟩
          case measure => simp [intOf]; omega
    · obtain rfl : i = cs.length := by omega
      have cc := hH.cells 0 rfl
      have rr := hH.rowOk 1 rfl (zv_size _)
      clear hi hil
      go_wp2
      have H2 := hH.setRow 1 rfl (zv (numT cs cs.length))
      exact res_agg (p := 4) (g := (w.heap.size + 1)) aggZ (zv_size _) rfl rfl rfl (H2.at 1 rfl) ⟨rfl, H2.low⟩

end Go.Proofs.Ytgomfphdgekniaa

namespace Go.Proofs.Ytgomfphdgekniaa
open Go.RowKit

/-- a list of numbers wherever it lies -/
def RdI (w : World) (v : Value) (l : List Nat) : Prop := w.ownsRow 0 2 1 v l.length (nums l)
theorem RdI.below {C : Nat} {w w' : World} {v : Value} {l : List Nat} (h : RdI w v l) (hb : Below C w w') (hC : w.heap.size ≤ C) : RdI w' v l := World.ownsRow.kept h (grown_of_below (hb.mono hC) none) (Classical.em _)
theorem RdI.form {w : World} {v : Value} {l : List Nat} (h : RdI w v l) : ∃ A c, v = .slice A l.length c := own_slice h
theorem RdI.at {w : World} {A : Option Addr} {n c k : Nat} {l : List Nat} (h : RdI w (.slice A n c) l) (hk : k < l.length) :
    ∃ g, A = some ⟨g, 0, none⟩ ∧ g < w.heap.size ∧ w.cell? ⟨g, k, none⟩ = some (.int .i64 ((l.getD k 0 : Nat) : Int)) := by
  obtain ⟨g, c, h1, h2, h3, h4, h5, h6, h7⟩ := row_at h (by omega : 0 < l.length)
  injection h1 with e1 e2 e3
  have a1 := h6 _ _ (nums_at hk)
  have hg : l.getD k 0 = l[k] := by rw [List.getD_eq_getElem?_getD, List.getElem?_eq_getElem hk]; rfl
  rw [hg]
  exact ⟨g, e1, h3, a1⟩
theorem Holds.rdI {w0 w : World} {L : List Part} (h : Holds w0 w L) (i : Nat) {v : Value} {l : List Nat} (hi : L[i]? = some (pInts v l)) : RdI w v l := row_low (h.row i hi) (Nat.zero_le _)
/-- the greatest of the first k + 1 numbers -/
def maxU (l : List Nat) : Nat → Nat
  | 0 => l.getD 0 0
  | k + 1 => max (maxU l k) (l.getD (k + 1) 0)
theorem maxU_step (l : List Nat) {j : Nat} (h : 1 ≤ j) : max (maxU l (j - 1)) (l.getD j 0) = maxU l j := by
  obtain ⟨k, rfl⟩ : ∃ k, j = k + 1 := ⟨j - 1, by omega⟩
  rfl
theorem maxU_ge (l : List Nat) : ∀ k i, i ≤ k → l.getD i 0 ≤ maxU l k := by
  intro k
  induction k with
  | zero => intro i hi; obtain rfl : i = 0 := by omega
            exact Nat.le_refl _
  | succ k ih =>
    intro i hi
    rw [maxU]
    rcases Nat.lt_or_ge k i with c | c
    · obtain rfl : i = k + 1 := by omega
      omega
    · have := ih i c; omega
theorem maxU_at (l : List Nat) : ∀ k, ∃ i, i ≤ k ∧ maxU l k = l.getD i 0 := by
  intro k
  induction k with
  | zero => exact ⟨0, Nat.le_refl _, rfl⟩
  | succ k ih =>
    obtain ⟨i, hi, e⟩ := ih
    rw [maxU]
    rcases Nat.lt_or_ge (maxU l k) (l.getD (k + 1) 0) with c | c
    · exact ⟨k + 1, Nat.le_refl _, by omega⟩
    · exact ⟨i, by omega, by omega⟩

set_option maxRecDepth 100000 in
set_option maxHeartbeats 1000000 in
theorem max_any (l : List Nat) (h0 : 0 < l.length) (hl : l.length ≤ 1000000) (v : Value) (w : World) (hv : RdI w v l) :
    Calls Try.prog 93 #[v] w fun e w' => e = .returned (.int .i64 (maxU l (l.length - 1))) ∧ w' = w := by
  obtain ⟨A, c, rfl⟩ := hv.form
  have HV := hide hv; clear hv
  obtain ⟨q0, hA, _, x0⟩ := HV.out.at h0
  subst hA
  have hm0 : maxU l 0 = l.getD 0 0 := rfl
  rw [← hm0] at x0
  have HM := hide fun (j : Nat) (hj : 1 ≤ j) => maxU_step l hj
  clear hm0
  have hlt : decide ((l.length : Int) < 1) = false := by rw [decide_eq_false_iff_not]; omega
  go_enter Try.func93, Try.ntmps93
  go_wp2
  clear x0 hlt
  go_loopw [3, 4] (fun m t wr => ∃ j : Nat, 1 ≤ j ∧ j ≤ l.length ∧ t = .int .i64 j ∧ m = .int .i64 (maxU l (j - 1)) ∧ wr = w) (fun _ t _ => l.length - (intOf t).toNat)
  case atStart => exact ⟨1, by omega, by omega, rfl, rfl, rfl⟩
  case round =>
    obtain ⟨j, hj1, hj, rfl, rfl, hw⟩ := hrel
    obtain rfl : wr = w := hw
    by_cases hjl : j < l.length
    · obtain ⟨q, hq, _, x1⟩ := HV.out.at hjl
      injection hq with hq
      injection hq with hq
      subst hq
      have hmx := HM.out j hj1
      generalize l.getD j 0 = b at *
      generalize maxU l (j - 1) = a at *
      have hmi : (if a < b then (b : Int) else (a : Int)) = (maxU l j : Int) := by split <;> omega
      generalize hMM : maxU l j = M at *
      have HMM := hide hMM; clear hMM hmx
      have hj' : (j : Int) < l.length := by omega
      go_wp2
      go_roundw
      case rel => exact ⟨j + 1, by omega, by omega, by go_num, by rw [Nat.add_sub_cancel, HMM.out, ← hmi], by trivial⟩
      case measure => simp [intOf]; omega
    · obtain rfl : j = l.length := by omega
      clear hj hjl hj1
      go_wp2
      go_ret
      exact ⟨rfl, rfl⟩
/-- a quotient's places: what so many darts tell -/
def prjT (ns : List Nat) (f : Nat → Nat) : Nat → Nat → Nat
  | 0 => fun _ => 0
  | k + 1 => fset (prjT ns f k) (ns.getD k 0) (ns.getD (f k) 0)

set_option maxRecDepth 100000 in
set_option maxHeartbeats 1000000 in
theorem project_any (f g : Nat → Nat) (m : Nat) (hf : PermN f m) (hg : PermN g m) (ns : List Nat) (hl : ns.length = m) (hlt : ∀ k, ns.getD k 0 < 16) (v : Value) (w : World) (hv : RdI w v ns) :
    Calls Try.prog 61 #[.agg (dv m f g), v] w fun e w' => e = .returned (.agg (dv ((maxU ns (m - 1) + 1 : Nat) : Int) (prjT ns f m) (prjT ns g m))) ∧ Below w.heap.size w w' := by
  have hm := hf.2.1
  have h0 := hf.1
  subst hl
  have C1 := hide fun w (hv : RdI w v ns) => max_any ns h0 (by omega) v w hv
  obtain ⟨A, c, rfl⟩ := hv.form
  have HV := hide hv; clear hv
  have LF := hide hf.2.2.1.1
  have LG := hide hg.2.2.1.1
  have HL := hide hlt; clear hf hg hlt
  have TF := hide fun k => (show fset (prjT ns f k) (ns.getD k 0) (ns.getD (f k) 0) = prjT ns f (k + 1) from rfl)
  have TG := hide fun k => (show fset (prjT ns g k) (ns.getD k 0) (ns.getD (g k) 0) = prjT ns g (k + 1) from rfl)
  have T0 := hide (And.intro (show prjT ns f 0 = fun _ => 0 from rfl) (show prjT ns g 0 = fun _ => 0 from rfl))
  generalize prjT ns f = pf at *
  generalize prjT ns g = pg at *
  have hmx16 : maxU ns (ns.length - 1) < 16 := by
    obtain ⟨i, _, e⟩ := maxU_at ns (ns.length - 1)
    rw [e]; exact HL.out i
  generalize maxU ns (ns.length - 1) = M at *
  have HH := ((Holds.start w).blk (dv ns.length f g) 30 w.heap.size rfl).blk (dv 0 (fun _ => 0) (fun _ => 0)) 30 (w.heap.size + 1) (by simp)
  have HH2 := HH.blk (dv ((M + 1 : Nat) : Int) (fun _ => 0) (fun _ => 0)) 30 (w.heap.size + 1 + 1) (by simp)
  clear HH
  have hM1 := hide (show ((M : Int) + 1) = ((M + 1 : Nat) : Int) by omega)
  have hM16 : (M : Int) < 16 := by omega
  go_enter Try.func61, Try.ntmps61
  go_wp2_with fail
  rw [← dv_zero]
  refine (C1.out _ (HV.out.below ((below2 w _ _)) (Nat.le_refl _))).mono ?_
  rintro e w' ⟨rfl, rfl⟩
  have hz := dv_lit ((M : Int) + 1)
  have HZ := hide hz; clear hz
  have ho := (ones_dv ((M : Int) + 1) (fun _ => 0) (fun _ => 0)).2 trivial
  rw [HZ.out] at ho
  go_wp2
  (try rw [← HZ.out]); rw [hM1.out]
  clear ho
  generalize ((w.alloc (.cells (dv ns.length f g) 30)).alloc (.cells (dv 0 (fun _ => 0) (fun _ => 0)) 30)).alloc (.cells (dv ((M + 1 : Nat) : Int) (fun _ => 0) (fun _ => 0)) 30) = W at *
  go_loopw [14] (fun t wr => ∃ k : Nat, k ≤ ns.length ∧ t = .int .i64 k ∧ Holds w wr [pBlk (w.heap.size + 1 + 1) (dv ((M + 1 : Nat) : Int) (pf k) (pg k)) 30, pBlk (w.heap.size + 1) (dv 0 (fun _ => 0) (fun _ => 0)) 30, pBlk w.heap.size (dv ns.length f g) 30]) (fun t _ => ns.length - (intOf t).toNat)
  case atStart => exact ⟨0, by omega, rfl, by rw [T0.out.1, T0.out.2]; exact HH2⟩
  case round =>
    clear HH2
    obtain ⟨k, hk, rfl, hH⟩ := hrel
    have hR := HV.out.below hH.low (Nat.le_refl _)
    by_cases hkl : k < ns.length
    · have hf16 := LF.out k hkl
      have hg16 := LG.out k hkl
      obtain ⟨q, rfl, hq, x1⟩ := hR.at hkl
      have hqs : q < w.heap.size := by
        obtain ⟨q', e, h1, _⟩ := HV.out.at hkl
        injection e with e
        injection e with e
        subst e
        exact h1
      obtain ⟨q2, e2, _, x2⟩ := hR.at hf16
      injection e2 with e2
      injection e2 with e2
      subst e2
      have hq2 : q ≠ w.heap.size + 1 + 1 := by omega
      have hk16 : ns.getD k 0 < 16 := HL.out k
      have hv16 : ns.getD (f k) 0 < 16 := HL.out _
      have hw16 : ns.getD (g k) 0 < 16 := HL.out _
      have tf := TF.out k
      have tg := TG.out k
      have hP := (hH.set 0 rfl (1 + ns.getD k 0) (.int .u8 (ns.getD (f k) 0 : Nat)))
      have hQ := hP.set 0 rfl (17 + ns.getD k 0) (.int .u8 (ns.getD (g k) 0 : Nat))
      rw [dv_setb _ _ _ _ hk16, dv_setw _ _ _ _ hk16, tf, tg] at hQ
      have y1 : (wr.setCell ⟨(w.heap.size + 1 + 1), 1 + ns.getD k 0, none⟩ (.int .u8 (ns.getD (f k) 0 : Nat))).cell? ⟨q, k, none⟩ = some (.int .i64 (ns.getD k 0 : Nat)) := by
        rw [cell_of_cells, cellsOf_setCell_ne hq2, ← cell_of_cells]; exact x1
      have hR2 : RdI (wr.setCell ⟨(w.heap.size + 1 + 1), 1 + ns.getD k 0, none⟩ (.int .u8 (ns.getD (f k) 0 : Nat))) (.slice (some ⟨q, 0, none⟩) ns.length c) ns := HV.out.below hP.low (Nat.le_refl _)
      obtain ⟨q2, e2, _, y2⟩ := hR2.at hg16
      injection e2 with e2
      injection e2 with e2
      subst e2
      have z1 : wr.cell? ⟨w.heap.size, 1 + k, none⟩ = some (.int .u8 (f k)) := hH.cell 2 rfl (dv_b _ _ _ (by omega))
      have z2 : (wr.setCell ⟨(w.heap.size + 1 + 1), 1 + ns.getD k 0, none⟩ (.int .u8 (ns.getD (f k) 0 : Nat))).cell? ⟨w.heap.size, 17 + k, none⟩ = some (.int .u8 (g k)) := hP.cell 2 rfl (dv_w _ _ _ (by omega))
      have u1 := hH.cell 0 rfl (dv_b ((M + 1 : Nat) : Int) (pf k) (pg k) hk16)
      have u2 := hH.frozen 0 rfl (1 + ns.getD k 0)
      have u3 := hP.cell 0 rfl (j := 17 + ns.getD k 0) (v := .int .u8 (pg k (ns.getD k 0))) (by rw [dv_setb _ _ _ _ hk16]; exact dv_w _ _ _ hk16)
      have u4 := hP.frozen 0 rfl (17 + ns.getD k 0)
      have HQ := hide hQ
      clear hR hR2 hP hH tf tg hQ
      generalize ns.getD (f k) 0 = v1 at *
      generalize ns.getD (g k) 0 = v2 at *
      generalize ns.getD k 0 = v0 at *
      have a0 : (v0 : Int) < 16 := by omega
      have a1 : (v1 : Int) < 256 := by omega
      have a2 : (v2 : Int) < 256 := by omega
      have a3 : (k : Int) < 16 := by omega
      have hfl : ((f k : Nat) : Int) < ns.length := by omega
      have hgl : ((g k : Nat) : Int) < ns.length := by omega
      go_wp2
      go_roundw
      case rel => exact ⟨k + 1, by omega, by go_num, HQ.out⟩
      case measure => simp [intOf]; omega
    · obtain rfl : k = ns.length := by omega
      have cc := hH.cells 0 rfl
      have rr := hH.rowOk 1 rfl (dv_size _ _ _)
      have H2 := hH.setRow 1 rfl (dv ((M + 1 : Nat) : Int) (pf ns.length) (pg ns.length))
      rw [← hM1.out] at H2 cc ⊢
      clear hk hkl
      go_wp2
      exact res_agg (p := 4) (g := w.heap.size + 1) aggD (dv_size _ _ _) rfl rfl rfl (H2.at 1 rfl) ⟨rfl, H2.low⟩
end Go.Proofs.Ytgomfphdgekniaa

namespace Go.Proofs.Ytgomfphdgekniaa
open Go.RowKit

theorem info8 : (Try.prog.info? 5).map (fun i => (i.zero, i.size, i.bytes)) = some (some (.int .u8 0), 1, 1) := by kernel_rfl
theorem plain8 : Try.prog.plainKey 5 = true := by kernel_rfl
theorem cells8 : Try.prog.cellsOf 5 = 1 := by kernel_rfl
@[go_sem] theorem guardP : Try.prog.eqGuardType Try.prog.depth 28 = false := by kernel_rfl
@[irreducible] def sameB (f g : Nat → Nat) : Bool := (List.range 16).all fun i => ((f i : Nat) : Int) == ((g i : Nat) : Int)
theorem sameB_iff (f g : Nat → Nat) : sameB f g = true ↔ ∀ i, i < 16 → f i = g i := by unfold sameB; simp [Int.ofNat_inj]
theorem run_items (f g : Nat → Nat) (w : World) : ∀ is : List Nat, (∀ i ∈ is, i < 16) →
    (Op.eqItems 9999 5 1 (av f) (av g) is).run Try.prog w = .ok (is.all fun i => ((f i : Nat) : Int) == ((g i : Nat) : Int)) w
  | [], _ => by simp [Op.eqItems]
  | i :: is, h => by
    have hi := h i (by simp)
    have ih := run_items f g w is fun j hj => h j (by simp [hj])
    have h1 := run_part_plain w plain8 (av_get f hi)
    have h2 := run_part_plain w plain8 (av_get g hi)
    have h3 := run_equalIn_int w 9998 5 .u8 .u8 (f i) (g i) Try.underlying5
    simp only [Op.eqItems, Nat.mul_one, Sem.run_bind, h1, h2, h3, Result.andThen_ok, List.all_cons]
    rcases hb : (((f i : Nat) : Int) == ((g i : Nat) : Int)) with _ | _
    · simp
    · simp [ih]
@[go_sem] theorem run_sameP (f g : Nat → Nat) (w : World) : (Op.equalIn 10000 28 (.agg (av f)) (.agg (av g))).run Try.prog w = .ok (sameB f g) w := by
  obtain ⟨i0, hi, _⟩ := info_parts info8
  have h := run_equalIn_array w 9999 (av f) (av g) Try.underlying28 hi
  rw [cells8] at h
  rw [h, run_items f g w _ (by simp)]
  unfold sameB; rfl

end Go.Proofs.Ytgomfphdgekniaa

namespace Go.Proofs.Ytgomfphdgekniaa
open Go.RowKit

theorem run_items2 (d : Nat) (f g : Nat → Nat) (w : World) : ∀ is : List Nat, (∀ i ∈ is, i < 16) →
    (Op.eqItems (d + 1) 5 1 (av f) (av g) is).run Try.prog w = .ok (is.all fun i => ((f i : Nat) : Int) == ((g i : Nat) : Int)) w
  | [], _ => by simp [Op.eqItems]
  | i :: is, h => by
    have hi := h i (by simp)
    have ih := run_items2 d f g w is fun j hj => h j (by simp [hj])
    have h1 := run_part_plain w plain8 (av_get f hi)
    have h2 := run_part_plain w plain8 (av_get g hi)
    have h3 := run_equalIn_int w d 5 .u8 .u8 (f i) (g i) Try.underlying5
    simp only [Op.eqItems, Nat.mul_one, Sem.run_bind, h1, h2, h3, Result.andThen_ok, List.all_cons]
    rcases hb : (((f i : Nat) : Int) == ((g i : Nat) : Int)) with _ | _
    · simp
    · simp [ih]
theorem run_sameP2 (d : Nat) (f g : Nat → Nat) (w : World) : (Op.equalIn (d + 2) 28 (.agg (av f)) (.agg (av g))).run Try.prog w = .ok (sameB f g) w := by
  obtain ⟨i0, hi, _⟩ := info_parts info8
  have h := run_equalIn_array w (d + 1) (av f) (av g) Try.underlying28 hi
  rw [cells8] at h
  rw [h, run_items2 d f g w _ (by simp)]
  unfold sameB; rfl
theorem info64D : (Try.prog.info? 2).map (·.size) = some 1 := by kernel_rfl
theorem infoPD : (Try.prog.info? 28).map (·.size) = some 16 := by kernel_rfl
theorem part_n (n : Int) (F G : Nat → Nat) (w : World) : (part 2 (dv n F G) 0).run Try.prog w = .ok (.int .i64 n) w :=
  run_part_plain w (by kernel_rfl) (dv_n n F G)
theorem part_b (n : Int) (F G : Nat → Nat) (w : World) : (part 28 (dv n F G) 1).run Try.prog w = .ok (.agg (av F)) w := by
  rcases hi : Try.prog.info? 28 with _ | i
  · have := infoPD; rw [hi] at this; cases this
  · have hsz : i.size = 16 := by have := infoPD; rw [hi] at this; simpa using this
    have hag : (isAgg 28).run Try.prog w = .ok true w := by simp [isAgg, run_underlying Try.underlying28]
    have e := blackOf_dv n F G
    unfold blackOf at e
    simp [part, hag, sizeOf, typeInfo, hi, hsz, e]
theorem part_w (n : Int) (F G : Nat → Nat) (w : World) : (part 28 (dv n F G) 17).run Try.prog w = .ok (.agg (av G)) w := by
  rcases hi : Try.prog.info? 28 with _ | i
  · have := infoPD; rw [hi] at this; cases this
  · have hsz : i.size = 16 := by have := infoPD; rw [hi] at this; simpa using this
    have hag : (isAgg 28).run Try.prog w = .ok true w := by simp [isAgg, run_underlying Try.underlying28]
    have e := whiteOf_dv n F G
    unfold whiteOf at e
    simp [part, hag, sizeOf, typeInfo, hi, hsz, e]
@[irreducible] def eqDB (n : Int) (F G : Nat → Nat) (n' : Int) (F' G' : Nat → Nat) : Bool := (n == n') && (sameB F F' && sameB G G')
theorem eqDB_iff (n : Int) (F G : Nat → Nat) (n' : Int) (F' G' : Nat → Nat) : eqDB n F G n' F' G' = true ↔ dv n F G = dv n' F' G' := by
  unfold eqDB
  rw [Bool.and_eq_true, Bool.and_eq_true, beq_iff_eq, sameB_iff, sameB_iff]
  constructor
  · rintro ⟨rfl, h1, h2⟩
    unfold dv
    apply row_congr
    intro i hi
    by_cases c : i = 0
    · rw [if_pos c, if_pos c]
    · rw [if_neg c, if_neg c]
      by_cases d : i < 17
      · rw [if_pos d, if_pos d, h1 (i - 1) (by omega)]
      · rw [if_neg d, if_neg d, h2 (i - 17) (by omega)]
  · intro h
    have hn : (dv n F G)[0]? = (dv n' F' G')[0]? := by rw [h]
    rw [dv_n, dv_n] at hn
    refine ⟨by simpa using hn, fun i hi => ?_, fun i hi => ?_⟩
    · have hb : (dv n F G)[1 + i]? = (dv n' F' G')[1 + i]? := by rw [h]
      rw [dv_b _ _ _ hi, dv_b _ _ _ hi] at hb
      simp at hb; omega
    · have hb : (dv n F G)[17 + i]? = (dv n' F' G')[17 + i]? := by rw [h]
      rw [dv_w _ _ _ hi, dv_w _ _ _ hi] at hb
      simp at hb; omega
theorem run_sameD (n : Int) (F G : Nat → Nat) (n' : Int) (F' G' : Nat → Nat) (w : World) : (Op.equalIn 10000 30 (.agg (dv n F G)) (.agg (dv n' F' G'))).run Try.prog w = .ok (eqDB n F G n' F' G') w := by
  have ht : Try.prog.underlying 30 = some (.struct (Try.prog.fieldsOf 30)) := by kernel_rfl
  have hp : Try.prog.stoodInHeld 30 = false := by kernel_rfl
  rw [run_equalIn_struct w 9999 30 _ _ ht hp]
  have hi : (Op.equalIn 9999 2 (.int .i64 n) (.int .i64 n')).run Try.prog w = .ok (n == n') w := run_equalIn_int w 9998 2 .i64 .i64 n n' Try.underlying2
  have hb : (Op.equalIn 9999 28 (.agg (av F)) (.agg (av F'))).run Try.prog w = .ok (sameB F F') w := run_sameP2 9997 F F' w
  have hw : (Op.equalIn 9999 28 (.agg (av G)) (.agg (av G'))).run Try.prog w = .ok (sameB G G') w := run_sameP2 9997 G G' w
  unfold eqDB
  rcases h1 : n == n' with _ | _
  · rw [h1] at hi
    simp [Program.fieldsOf, Try.underlying30, Op.eqFields, part_n, hi]
  · rw [h1] at hi
    rcases h2 : sameB F F' with _ | _
    · rw [h2] at hb
      simp [Program.fieldsOf, Try.underlying30, Op.eqFields, part_n, part_b, hi, hb]
    · rw [h2] at hb
      rcases h3 : sameB G G' with _ | _
      · rw [h3] at hw
        simp [Program.fieldsOf, Try.underlying30, Op.eqFields, part_n, part_b, part_w, hi, hb, hw]
      · rw [h3] at hw
        simp [Program.fieldsOf, Try.underlying30, Op.eqFields, part_n, part_b, part_w, hi, hb, hw]
@[go_sem] theorem guardD : Try.prog.eqGuardType Try.prog.depth 30 = false := by kernel_rfl
@[go_sem ↓] theorem run_eqlD (n : Int) (F G : Nat → Nat) (n' : Int) (F' G' : Nat → Nat) (w : World) : (binOp .eql 30 (.agg (dv n F G)) (.agg (dv n' F' G'))).run Try.prog w = .ok (.bool (eqDB n F G n' F' G')) w := by
  rw [run_eql_struct, run_sameD]; rfl
@[go_sem ↓] theorem run_neqD (n : Int) (F G : Nat → Nat) (n' : Int) (F' G' : Nat → Nat) (w : World) : (binOp .neq 30 (.agg (dv n F G)) (.agg (dv n' F' G'))).run Try.prog w = .ok (.bool (!eqDB n F G n' F' G')) w := by
  rw [run_neq_struct, run_sameD]; rfl
end Go.Proofs.Ytgomfphdgekniaa

namespace Go.Proofs.Ytgomfphdgekniaa
open Go.RowKit

theorem foldset (off : Nat) : ∀ (l : List Value) (k : Nat) (cs : Array Value) (i : Nat),
    ((l.zipIdx k).foldl (fun cs (p : Value × Nat) => cs.setIfInBounds (off + p.2) p.1) cs)[i]? = if off + k ≤ i ∧ i < off + k + l.length ∧ i < cs.size then l[i - (off + k)]? else cs[i]? := by
  intro l
  induction l with
  | nil => intro k cs i; simp; omega
  | cons x l ih =>
    intro k cs i
    rw [List.zipIdx_cons, List.foldl_cons, ih]
    simp only [Array.size_setIfInBounds, List.length_cons, Array.getElem?_setIfInBounds]
    by_cases h : off + k = i
    · subst h
      rw [if_neg (by omega), if_pos rfl]
      by_cases h2 : off + k < cs.size
      · rw [if_pos h2, if_pos ⟨by omega, by omega, h2⟩]; simp
      · rw [if_neg h2, if_neg (by omega), Array.getElem?_eq_none (by omega)]
    · rw [if_neg h]
      by_cases h2 : off + k ≤ i ∧ i < off + k + (l.length + 1) ∧ i < cs.size
      · rw [if_pos h2, if_pos (by omega), show i - (off + k) = (i - (off + (k + 1))) + 1 from by omega, List.getElem?_cons_succ]
      · rw [if_neg h2, if_neg (by omega)]

theorem splice_eq (off : Nat) (cs c : Array Value) : Array.foldl (fun cs (x : Value × Nat) => cs.setIfInBounds (off + x.snd) x.fst) cs c.zipIdx = (c.toList.zipIdx 0).foldl (fun cs (p : Value × Nat) => cs.setIfInBounds (off + p.2) p.1) cs := by
  rw [← Array.foldl_toList, Array.toList_zipIdx]
theorem splice_size (off : Nat) : ∀ (l : List Value) (k : Nat) (cs : Array Value), ((l.zipIdx k).foldl (fun cs (p : Value × Nat) => cs.setIfInBounds (off + p.2) p.1) cs).size = cs.size := by
  intro l
  induction l with
  | nil => intro k cs; rfl
  | cons x l ih => intro k cs; rw [List.zipIdx_cons, List.foldl_cons, ih, Array.size_setIfInBounds]

set_option maxRecDepth 100000 in
theorem builtD (n : Int) (f g : Nat → Nat) : Try.prog.built 30 [(0, .int .i64 n), (1, .agg (av f)), (2, .agg (av g))] = some (dv n f g) := by
  have hu : Try.prog.underlying 30 = some (.struct _) := Try.underlying30
  have hz : (Try.prog.info? 30).map (·.zero) = some (some (.agg (dv 0 (fun _ => 0) (fun _ => 0)))) := by rw [dv_zero]; kernel_rfl
  unfold Program.built
  rcases hi : Try.prog.info? 30 with _ | it
  · rw [hi] at hz; cases hz
  · rw [hi] at hz
    have hz' : it.zero = some (.agg (dv 0 (fun _ => 0) (fun _ => 0))) := by simpa using hz
    rw [hu]
    simp only [hz']
    generalize he : List.mapM (fun (f : Field) => Option.map (fun i => (f.offset, i.size)) (Try.prog.info? f.type)) _ = z
    have hz2 : z = some [(0, 1), (1, 16), (17, 16)] := he.symm.trans (by kernel_rfl)
    subst hz2
    simp only [Instr.fill, Value.cells, List.getElem?_toArray, List.getElem?_cons_zero, List.getElem?_cons_succ, av_size, splice_eq, splice_size, dv_size]
    rw [if_neg (by simp), if_neg (by simp), if_neg (by simp)]
    congr 1
    apply Array.ext_getElem?
    intro i
    have l1 : (av f).toList.length = 16 := by simpa using av_size f
    have l2 : (av g).toList.length = 16 := by simpa using av_size g
    rw [foldset, foldset, foldset, get_cases, get_cases, splice_size, splice_size, dv_size, l1, l2, Array.getElem?_toList, Array.getElem?_toList, av_cases, av_cases]
    simp only [List.length_cons, List.length_nil, Nat.zero_add, Nat.add_zero, Nat.sub_zero]
    by_cases h0 : i = 0
    · subst h0; simp
    · by_cases h1 : i < 17
      · rw [if_neg (by omega), if_pos (by omega), if_pos (by omega), if_pos (by omega), if_neg h0, if_pos h1]
      · by_cases h2 : i < 33
        · rw [if_pos (by omega), if_pos (by omega), if_pos h2, if_neg h0, if_neg h1]
        · rw [if_neg (by omega), if_neg (by omega), if_neg (by omega), if_neg h2, if_neg h2]
theorem builtD0 : Try.prog.built 30 [] = some (dv 0 (fun _ => 0) (fun _ => 0)) := by rw [dv_zero]; kernel_rfl

/-- what the operation 'build a dessin' does -/
def buildD (ps : Array (Nat × Value)) : Sem Next := do pure (.value (← Instr.build 30 ps))
@[go_sem ↓] theorem exec_buildD (ρ : Operand → Value) (dst : Option Tmp) (parts : Array (Nat × Operand)) (ty : TypeId) (pos : String) (after : Array Edge) (guard : Option (Nat × Bool)) :
    execOp ρ { dst, op := .build 30 parts, type := ty, pos, after, guard } = buildD (parts.map fun (i, x) => (i, ρ x)) := rfl
@[go_sem] theorem run_buildD (n : Int) (f g : Nat → Nat) (w : World) : (buildD #[(0, .int .i64 n), (1, .agg (av f)), (2, .agg (av g))]).run Try.prog w = .ok (.value (.agg (dv n f g))) w := by
  simp only [buildD, Sem.run_bind, run_build (P := Try.prog) w 30 #[(0, .int .i64 n), (1, .agg (av f)), (2, .agg (av g))] _ (builtD n f g), Result.andThen_ok, Sem.run_pure]
@[go_sem] theorem run_buildD0 (w : World) : (buildD #[]).run Try.prog w = .ok (.value (.agg (dv 0 (fun _ => 0) (fun _ => 0)))) w := by
  simp only [buildD, Sem.run_bind, run_build (P := Try.prog) w 30 #[] _ builtD0, Result.andThen_ok, Sem.run_pure]
set_option maxRecDepth 100000 in
theorem builtD1 (n : Int) : Try.prog.built 30 [(0, .int .i64 n)] = some (dv n (fun _ => 0) (fun _ => 0)) := by
  have hu : Try.prog.underlying 30 = some (.struct _) := Try.underlying30
  have hz : (Try.prog.info? 30).map (·.zero) = some (some (.agg (dv 0 (fun _ => 0) (fun _ => 0)))) := by rw [dv_zero]; kernel_rfl
  unfold Program.built
  rcases hi : Try.prog.info? 30 with _ | it
  · rw [hi] at hz; cases hz
  · rw [hi] at hz
    have hz' : it.zero = some (.agg (dv 0 (fun _ => 0) (fun _ => 0))) := by simpa using hz
    rw [hu]
    simp only [hz']
    generalize he : List.mapM (fun (f : Field) => Option.map (fun i => (f.offset, i.size)) (Try.prog.info? f.type)) _ = z
    have hz2 : z = some [(0, 1), (1, 16), (17, 16)] := he.symm.trans (by kernel_rfl)
    subst hz2
    simp only [Instr.fill, Value.cells, List.getElem?_toArray, List.getElem?_cons_zero, splice_eq, dv_size]
    rw [if_neg (by simp)]
    congr 1
    apply Array.ext_getElem?
    intro i
    rw [foldset, get_cases, get_cases, dv_size]
    by_cases h0 : i = 0
    · subst h0; simp
    · rw [if_neg (by simp; omega)]
      by_cases h2 : i < 33
      · rw [if_pos h2, if_pos h2, if_neg h0, if_neg h0]
      · rw [if_neg h2, if_neg h2]
@[go_sem] theorem run_buildD1 (n : Int) (w : World) : (buildD #[(0, .int .i64 n)]).run Try.prog w = .ok (.value (.agg (dv n (fun _ => 0) (fun _ => 0)))) w := by
  simp only [buildD, Sem.run_bind, run_build (P := Try.prog) w 30 #[(0, .int .i64 n)] _ (builtD1 n), Result.andThen_ok, Sem.run_pure]
end Go.Proofs.Ytgomfphdgekniaa

namespace Go.Proofs.Ytgomfphdgekniaa
open Go.RowKit

def renF (p f : Nat → Nat) (m : Nat) : Nat → Nat := thenF (thenF (backF p m) f m) p m
def renTo (p f : Nat → Nat) : Nat → Nat → Nat
  | 0 => fun _ => 0
  | k + 1 => fset (renTo p f k) (p k) (p (f k))
theorem renTo_at {p f : Nat → Nat} {n : Nat} (h : Bij p n) : ∀ k, k ≤ n → ∀ x, x < k → renTo p f k (p x) = p (f x) := by
  intro k
  induction k with
  | zero => intro _ x hx; omega
  | succ k ih =>
    intro hk x hx
    show fset (renTo p f k) (p k) (p (f k)) (p x) = p (f x)
    unfold fset
    by_cases c : p x = p k
    · rw [if_pos c, h.2 x k (by omega) (by omega) c]
    · rw [if_neg c]
      by_cases d : x = k
      · subst d; exact absurd rfl c
      · exact ih (by omega) x (by omega)
theorem renTo_none {p f : Nat → Nat} {y : Nat} : ∀ k, (∀ x, x < k → p x ≠ y) → renTo p f k y = 0 := by
  intro k
  induction k with
  | zero => intro _; rfl
  | succ k ih =>
    intro h
    show fset (renTo p f k) (p k) (p (f k)) y = 0
    unfold fset
    rw [if_neg (fun e => h k (by omega) e.symm)]
    exact ih fun x hx => h x (by omega)
theorem renF_at {p f : Nat → Nat} {m x : Nat} (h : Bij p m) (hx : x < m) : renF p f m (p x) = p (f x) := by
  unfold renF
  rw [thenF_at (h.1 x hx), thenF_at (h.1 x hx), backF_at h hx]
theorem renTo_eq {p f : Nat → Nat} {m : Nat} (h : Bij p m) : renTo p f m = renF p f m := by
  funext y
  rcases Nat.lt_or_ge y m with c | c
  · obtain ⟨x, hx, rfl⟩ := h.onto c
    rw [renTo_at h m (Nat.le_refl m) x hx, renF_at h hx]
  · rw [renTo_none m fun x hx e => by have := h.1 x hx; omega]
    unfold renF
    rw [thenF_out c]
theorem renF_perm {p f : Nat → Nat} {m : Nat} (hp : PermN p m) (hf : PermN f m) : PermN (renF p f m) m := thenF_perm (thenF_perm (backF_perm hp) hf) hp

set_option maxRecDepth 100000 in
set_option maxHeartbeats 1000000 in
theorem rename_any (f g p : Nat → Nat) (m : Nat) (hf : PermN f m) (hg : PermN g m) (hp : PermN p m) (w : World) :
    Calls Try.prog 59 #[.agg (dv m f g), .agg (av p)] w fun e w' => e = .returned (.agg (dv m (renF p f m) (renF p g m))) ∧ Below w.heap.size w w' := by
  have lt : ∀ {q : Nat → Nat}, PermN q m → ∀ i, i < m → q i < 16 := fun h i hi => h.lt i (by have := h.2.1; omega)
  have C0 := hide fun w => undo_any p m hp.2.1 (lt hp) w
  have C1 := hide fun w => follow_any (backF p m) f m hp.2.1 (lt (backF_perm hp)) w
  have C2 := hide fun w => follow_any (thenF (backF p m) f m) p m hp.2.1 (lt (thenF_perm (backF_perm hp) hf)) w
  have C3 := hide fun w => follow_any (backF p m) g m hp.2.1 (lt (backF_perm hp)) w
  have C4 := hide fun w => follow_any (thenF (backF p m) g m) p m hp.2.1 (lt (thenF_perm (backF_perm hp) hg)) w
  have e1 : renF p f m = thenF (thenF (backF p m) f m) p m := rfl
  have e2 : renF p g m = thenF (thenF (backF p m) g m) p m := rfl
  rw [e1, e2]
  generalize thenF (thenF (backF p m) f m) p m = F at *
  generalize thenF (thenF (backF p m) g m) p m = G at *
  generalize thenF (backF p m) f m = F1 at *
  generalize thenF (backF p m) g m = G1 at *
  generalize backF p m = B at *
  clear hf hg hp e1 e2 lt
  have hn := dv_n m f g
  go_enter Try.func59, Try.ntmps59
  go_wp2_with fail
  rw [← dv_zero]
  refine (C0.out _).mono ?_
  rintro e w1 ⟨rfl, hb⟩
  have c1 : cellsOf w1 w.heap.size = dv m f g := (below_cells hb (by simp <;> omega)).trans (cellsOf_heap (heap2 rfl))
  have d1 : cellsOf w1 (w.heap.size + 1) = av p := (below_cells hb (by simp <;> omega)).trans (cellsOf_heap (heap1 (by simp)))
  have r1 : rowOk w1 (w.heap.size + 2) 33 := (below_row hb (by simp)).2 ⟨_, _, heap_at _ _ _ (by simp), dv_size _ _ _⟩
  have b1 := (below3 w (.cells (dv m f g) 30) (.cells (av p) 28) (.cells (dv 0 (fun _ => 0) (fun _ => 0)) 30)).trans (hb.mono (by simp <;> omega))
  have l2 := r1.lt
  clear hb
  go_wp2
  generalize hW : w1.alloc _ = W
  have c0 : cellsOf W w.heap.size = dv m f g := by rw [← hW, cellsOf_past (by omega)]; exact c1
  have d0 : cellsOf W (w.heap.size + 1) = av p := by rw [← hW, cellsOf_past (by omega)]; exact d1
  have x0 : cellsOf W w1.heap.size = av B := by rw [← hW]; exact cellsOf_heap (heap_at _ _ _ rfl)
  have r0 : rowOk W (w.heap.size + 2) 33 := by rw [← hW]; exact (rowOk_past l2).2 r1
  have b0 : Below w.heap.size w W := by rw [← hW]; exact b1.alloc (by omega) _
  have l0 : w1.heap.size < W.heap.size := by rw [← hW]; simp
  clear hW c1 d1 r1 b1
  refine region_tail (Grown W) 23 (by kernel_rfl) (by kernel_rfl) (Grown.drew W) ?_
  simp only [List.take_succ_cons, List.take_zero, List.drop_succ_cons, List.drop_zero]
  apply q_step
  · go_simp
  · intro wx hx
    have e0 := hx.cells c0 (by omega)
    have y0 := hx.cells d0 (by omega)
    have z0 := hx.cells x0 l0
    have n0 : wx.cell? ⟨w.heap.size, 0, none⟩ = some (.int .i64 m) := by rw [cell_of_cells, e0]; exact hn
    go_simp
    exact rfl
  apply q_step
  · go_simp
  · intro wx hx
    have e0 := hx.cells c0 (by omega)
    have y0 := hx.cells d0 (by omega)
    have z0 := hx.cells x0 l0
    have n0 : wx.cell? ⟨w.heap.size, 0, none⟩ = some (.int .i64 m) := by rw [cell_of_cells, e0]; exact hn
    go_simp
    exact rfl
  apply q_step
  · go_simp
  · intro wx hx
    have e0 := hx.cells c0 (by omega)
    have y0 := hx.cells d0 (by omega)
    have z0 := hx.cells x0 l0
    have n0 : wx.cell? ⟨w.heap.size, 0, none⟩ = some (.int .i64 m) := by rw [cell_of_cells, e0]; exact hn
    go_simp
    exact rfl
  apply q_step
  · go_simp
  · intro wx hx
    have e0 := hx.cells c0 (by omega)
    have y0 := hx.cells d0 (by omega)
    have z0 := hx.cells x0 l0
    have n0 : wx.cell? ⟨w.heap.size, 0, none⟩ = some (.int .i64 m) := by rw [cell_of_cells, e0]; exact hn
    go_simp
    exact rfl
  apply q_step
  · go_simp
  · intro wx hx
    have e0 := hx.cells c0 (by omega)
    have y0 := hx.cells d0 (by omega)
    have z0 := hx.cells x0 l0
    have n0 : wx.cell? ⟨w.heap.size, 0, none⟩ = some (.int .i64 m) := by rw [cell_of_cells, e0]; exact hn
    go_simp
    exact rfl
  apply q_step
  · go_simp
  · intro wx hx
    have e0 := hx.cells c0 (by omega)
    have y0 := hx.cells d0 (by omega)
    have z0 := hx.cells x0 l0
    have n0 : wx.cell? ⟨w.heap.size, 0, none⟩ = some (.int .i64 m) := by rw [cell_of_cells, e0]; exact hn
    go_simp
    exact rfl
  apply q_step
  · go_simp
  · intro wx hx
    have e0 := hx.cells c0 (by omega)
    have y0 := hx.cells d0 (by omega)
    have z0 := hx.cells x0 l0
    have n0 : wx.cell? ⟨w.heap.size, 0, none⟩ = some (.int .i64 m) := by rw [cell_of_cells, e0]; exact hn
    go_simp
    exact rfl
  apply q_step
  · go_simp
  · intro wx hx
    have e0 := hx.cells c0 (by omega)
    have y0 := hx.cells d0 (by omega)
    have z0 := hx.cells x0 l0
    have n0 : wx.cell? ⟨w.heap.size, 0, none⟩ = some (.int .i64 m) := by rw [cell_of_cells, e0]; exact hn
    go_simp
    go_at_call 92
    exact Calls.mono (C1.out wx) fun e w' h => ⟨h.1, hx.call h.2⟩
  apply q_step
  · go_simp
  · intro wx hx
    have e0 := hx.cells c0 (by omega)
    have y0 := hx.cells d0 (by omega)
    have z0 := hx.cells x0 l0
    have n0 : wx.cell? ⟨w.heap.size, 0, none⟩ = some (.int .i64 m) := by rw [cell_of_cells, e0]; exact hn
    go_simp
    exact rfl
  apply q_step
  · go_simp
  · intro wx hx
    have e0 := hx.cells c0 (by omega)
    have y0 := hx.cells d0 (by omega)
    have z0 := hx.cells x0 l0
    have n0 : wx.cell? ⟨w.heap.size, 0, none⟩ = some (.int .i64 m) := by rw [cell_of_cells, e0]; exact hn
    go_simp
    exact rfl
  apply q_step
  · go_simp
  · intro wx hx
    have e0 := hx.cells c0 (by omega)
    have y0 := hx.cells d0 (by omega)
    have z0 := hx.cells x0 l0
    have n0 : wx.cell? ⟨w.heap.size, 0, none⟩ = some (.int .i64 m) := by rw [cell_of_cells, e0]; exact hn
    go_simp
    exact rfl
  apply q_step
  · go_simp
  · intro wx hx
    have e0 := hx.cells c0 (by omega)
    have y0 := hx.cells d0 (by omega)
    have z0 := hx.cells x0 l0
    have n0 : wx.cell? ⟨w.heap.size, 0, none⟩ = some (.int .i64 m) := by rw [cell_of_cells, e0]; exact hn
    go_simp
    go_at_call 92
    exact Calls.mono (C2.out wx) fun e w' h => ⟨h.1, hx.call h.2⟩
  apply q_step
  · go_simp
  · intro wx hx
    have e0 := hx.cells c0 (by omega)
    have y0 := hx.cells d0 (by omega)
    have z0 := hx.cells x0 l0
    have n0 : wx.cell? ⟨w.heap.size, 0, none⟩ = some (.int .i64 m) := by rw [cell_of_cells, e0]; exact hn
    go_simp
    exact rfl
  apply q_step
  · go_simp
  · intro wx hx
    have e0 := hx.cells c0 (by omega)
    have y0 := hx.cells d0 (by omega)
    have z0 := hx.cells x0 l0
    have n0 : wx.cell? ⟨w.heap.size, 0, none⟩ = some (.int .i64 m) := by rw [cell_of_cells, e0]; exact hn
    go_simp
    exact rfl
  apply q_step
  · go_simp
  · intro wx hx
    have e0 := hx.cells c0 (by omega)
    have y0 := hx.cells d0 (by omega)
    have z0 := hx.cells x0 l0
    have n0 : wx.cell? ⟨w.heap.size, 0, none⟩ = some (.int .i64 m) := by rw [cell_of_cells, e0]; exact hn
    go_simp
    exact rfl
  apply q_step
  · go_simp
  · intro wx hx
    have e0 := hx.cells c0 (by omega)
    have y0 := hx.cells d0 (by omega)
    have z0 := hx.cells x0 l0
    have n0 : wx.cell? ⟨w.heap.size, 0, none⟩ = some (.int .i64 m) := by rw [cell_of_cells, e0]; exact hn
    go_simp
    exact rfl
  apply q_step
  · go_simp
  · intro wx hx
    have e0 := hx.cells c0 (by omega)
    have y0 := hx.cells d0 (by omega)
    have z0 := hx.cells x0 l0
    have n0 : wx.cell? ⟨w.heap.size, 0, none⟩ = some (.int .i64 m) := by rw [cell_of_cells, e0]; exact hn
    go_simp
    exact rfl
  apply q_step
  · go_simp
  · intro wx hx
    have e0 := hx.cells c0 (by omega)
    have y0 := hx.cells d0 (by omega)
    have z0 := hx.cells x0 l0
    have n0 : wx.cell? ⟨w.heap.size, 0, none⟩ = some (.int .i64 m) := by rw [cell_of_cells, e0]; exact hn
    go_simp
    go_at_call 92
    exact Calls.mono (C3.out wx) fun e w' h => ⟨h.1, hx.call h.2⟩
  apply q_step
  · go_simp
  · intro wx hx
    have e0 := hx.cells c0 (by omega)
    have y0 := hx.cells d0 (by omega)
    have z0 := hx.cells x0 l0
    have n0 : wx.cell? ⟨w.heap.size, 0, none⟩ = some (.int .i64 m) := by rw [cell_of_cells, e0]; exact hn
    go_simp
    exact rfl
  apply q_step
  · go_simp
  · intro wx hx
    have e0 := hx.cells c0 (by omega)
    have y0 := hx.cells d0 (by omega)
    have z0 := hx.cells x0 l0
    have n0 : wx.cell? ⟨w.heap.size, 0, none⟩ = some (.int .i64 m) := by rw [cell_of_cells, e0]; exact hn
    go_simp
    exact rfl
  apply q_step
  · go_simp
  · intro wx hx
    have e0 := hx.cells c0 (by omega)
    have y0 := hx.cells d0 (by omega)
    have z0 := hx.cells x0 l0
    have n0 : wx.cell? ⟨w.heap.size, 0, none⟩ = some (.int .i64 m) := by rw [cell_of_cells, e0]; exact hn
    go_simp
    exact rfl
  apply q_step
  · go_simp
  · intro wx hx
    have e0 := hx.cells c0 (by omega)
    have y0 := hx.cells d0 (by omega)
    have z0 := hx.cells x0 l0
    have n0 : wx.cell? ⟨w.heap.size, 0, none⟩ = some (.int .i64 m) := by rw [cell_of_cells, e0]; exact hn
    go_simp
    go_at_call 92
    exact Calls.mono (C4.out wx) fun e w' h => ⟨h.1, hx.call h.2⟩
  apply q_step
  · go_simp
  · intro wx hx
    have e0 := hx.cells c0 (by omega)
    have y0 := hx.cells d0 (by omega)
    have z0 := hx.cells x0 l0
    have n0 : wx.cell? ⟨w.heap.size, 0, none⟩ = some (.int .i64 m) := by rw [cell_of_cells, e0]; exact hn
    go_simp
    exact rfl
  refine wpQuiet_nil ?_
  intro w2 hx
  have r2 := hx.row r0
  have b2 : Below w.heap.size w w2 := b0.trans (Below.mono hx b0.size)
  clear c0 d0 x0 r0 b0 l0 l2 hx
  go_wp2
  obtain ⟨t, ht, _⟩ := r2.heap
  exact res_agg (p := 4) (g := w.heap.size + 2) aggD (dv_size _ _ _) rfl rfl rfl (setRow_heap _ _ _ _ t (0, 0) ht) ⟨rfl, below_setRow b2 (by omega) _⟩

set_option maxRecDepth 100000 in
set_option maxHeartbeats 1000000 in
theorem sRename_any (f g p : Nat → Nat) (m : Nat) (hf : PermN f m) (hg : PermN g m) (hp : PermN p m) (w : World) :
    Calls Try.prog 57 #[.agg (dv m f g), .agg (av p)] w fun e w' => e = .returned (.agg (dv m (renF p f m) (renF p g m))) ∧ Below w.heap.size w w' := by
  rw [← renTo_eq hp.2.2.1, ← renTo_eq hp.2.2.1]
  have hm := hp.2.1
  have lf := hide hf.2.2.1.1
  have lg := hide hg.2.2.1.1
  have lp := hide hp.2.2.1.1
  clear hf hg hp
  have hn := dv_n m f g
  go_enter Try.func57, Try.ntmps57
  go_wp2
  rw [← dv_zero]
  generalize hW : ((w.alloc (.cells (dv m f g) 30)).alloc (.cells (av p) 28)).alloc (.cells (dv 0 (fun _ => 0) (fun _ => 0)) 30) = W
  have c0 : cellsOf W w.heap.size = dv m f g := by rw [← hW]; exact cellsOf_heap (heap2 rfl)
  have d0 : cellsOf W (w.heap.size + 1) = av p := by rw [← hW]; exact cellsOf_heap (heap1 (by simp))
  have r0 : rowOk W (w.heap.size + 2) 33 := by rw [← hW]; exact ⟨_, _, heap_at _ _ _ (by simp), dv_size _ _ _⟩
  have b0 : Below w.heap.size w W := by rw [← hW]; exact below3 _ _ _ _
  have s0 : W.heap.size = w.heap.size + 3 := by rw [← hW]; simp
  clear hW
  go_loopw [6] (fun x wr => ∃ k : Nat, k ≤ m ∧ x = .int .i64 k ∧ Below (w.heap.size + 1 + 1 + 1) W wr ∧ cellsOf wr (w.heap.size + 1 + 1 + 1) = dv m (renTo p f k) (renTo p g k) ∧ rowOk wr (w.heap.size + 1 + 1 + 1) 33) (fun x _ => m - (intOf x).toNat)
  case atStart => exact ⟨0, by omega, rfl, (below1 W _).mono (by omega), cellsOf_heap (heap_at _ _ _ (by omega)), ⟨_, _, heap_at _ _ _ (by omega), dv_size _ _ _⟩⟩
  case round =>
    obtain ⟨k, hk, rfl, hbw, hc, hr⟩ := hrel
    have c1 := (below_cells hbw (by omega)).trans c0
    have n0 : wr.cell? ⟨w.heap.size, 0, none⟩ = some (.int .i64 m) := by rw [cell_of_cells, c1]; exact hn
    by_cases hlt : k < m
    · have d1 := (below_cells hbw (by omega)).trans d0
      have a16 := lp.out k hlt
      have b16 := lf.out k hlt
      have d16 := lg.out k hlt
      have c16 := lp.out _ b16
      have e16 := lp.out _ d16
      have x1 : wr.cell? ⟨w.heap.size + 1, k, none⟩ = some (.int .u8 (p k)) := by rw [cell_of_cells, d1, av_get _ (by omega)]
      have x2 : wr.cell? ⟨w.heap.size, 1 + k, none⟩ = some (.int .u8 (f k)) := by rw [cell_of_cells, c1, dv_b _ _ _ (by omega)]
      have x3 : wr.cell? ⟨w.heap.size + 1, f k, none⟩ = some (.int .u8 (p (f k))) := by rw [cell_of_cells, d1, av_get _ (by omega)]
      have x4 : wr.cell? ⟨w.heap.size, 17 + k, none⟩ = some (.int .u8 (g k)) := by rw [cell_of_cells, c1, dv_w _ _ _ (by omega)]
      have x5 : wr.cell? ⟨w.heap.size + 1, g k, none⟩ = some (.int .u8 (p (g k))) := by rw [cell_of_cells, d1, av_get _ (by omega)]
      have x6 : wr.cell? ⟨w.heap.size + 1 + 1 + 1, 1 + p k, none⟩ = some (.int .u8 (renTo p f k (p k))) := by rw [cell_of_cells, hc, dv_b _ _ _ (by omega)]
      have x7 : wr.cell? ⟨w.heap.size + 1 + 1 + 1, 17 + p k, none⟩ = some (.int .u8 (renTo p g k (p k))) := by rw [cell_of_cells, hc, dv_w _ _ _ (by omega)]
      have f1 : wr.frozen? ⟨w.heap.size + 1 + 1 + 1, 1 + p k, none⟩ = false := hr.frozen
      have f2 : wr.frozen? ⟨w.heap.size + 1 + 1 + 1, 17 + p k, none⟩ = false := hr.frozen
      have t1 : fset (renTo p f k) (p k) (p (f k)) = renTo p f (k + 1) := rfl
      have t2 : fset (renTo p g k) (p k) (p (g k)) = renTo p g (k + 1) := rfl
      have T := hide (And.intro t1 t2); clear t1 t2
      have HC := hide hc; clear hc
      have hbb := fun a v b u => below_setCell (below_setCell hbw (Nat.le_refl _) a v) (Nat.le_refl _) b u
      have B3 := hide hbb; clear hbb
      have r3 := fun a (v : Value) b (u : Value) => rowOk_setCell (g' := w.heap.size + 1 + 1 + 1) (i := b) (v := u) (rowOk_setCell (g' := w.heap.size + 1 + 1 + 1) (i := a) (v := v) hr)
      have R3 := hide r3; clear r3
      generalize renTo p f k (p k) = y6 at *
      generalize renTo p g k (p k) = y7 at *
      generalize p (f k) = z1 at *
      generalize p (g k) = z2 at *
      generalize f k = z3 at *
      generalize g k = z4 at *
      generalize p k = z5 at *
      clear c1 d1 hbw hr
      go_wp2
      go_region
      all_goals go_wp2
      all_goals go_region
      all_goals go_wp2
      all_goals go_roundw
      case rel =>
        refine ⟨k + 1, by omega, by go_num, (B3.out _ _ _ _).drew.drew, ?_, rowOk_drew.2 (rowOk_drew.2 (R3.out _ _ _ _))⟩
        simp only [cellsOf_drew]
        rw [cellsOf_setCell, cellsOf_setCell, HC.out, dv_setb _ _ _ _ (by omega), dv_setw _ _ _ _ (by omega), T.out.1, T.out.2]
      case measure => simp [intOf]; omega
    · obtain rfl : k = m := by omega
      have r1 : rowOk wr (w.heap.size + 2) 33 := (below_row hbw (by omega)).2 r0
      have b1 : Below w.heap.size w wr := b0.trans (hbw.mono (by omega))
      clear hbw c1 hk
      go_wp2
      obtain ⟨t, ht, _⟩ := r1.heap
      exact res_agg (p := 4) (g := w.heap.size + 2) aggD (dv_size _ _ _) rfl rfl rfl (setRow_heap _ _ _ _ t (0, 0) ht) ⟨rfl, below_setRow b1 (by omega) _⟩

noncomputable def renB (n : Int) (f g p : Nat → Nat) : Bool := desB n f g && permB p n
noncomputable def renR (n : Int) (f g p : Nat → Nat) : Value := if renB n f g p = true then .tuple #[.agg (dv n (renF p f n.toNat) (renF p g n.toNat)), .int .i64 0] else .tuple #[.agg (dv 0 (fun _ => 0) (fun _ => 0)), .int .i64 1]
theorem renR_eq (n : Int) (f g p : Nat → Nat) : ∃ (a : Int) (r s : Nat → Nat) (c : Int), renR n f g p = .tuple #[.agg (dv a r s), .int .i64 c] := by
  unfold renR; split
  · exact ⟨_, _, _, _, rfl⟩
  · exact ⟨_, _, _, _, rfl⟩

-- left out here: loop.example/g01200/impl.RenameDessin
-- left out here: loop.example/g01200/spec.RenameDessin
end Go.Proofs.Ytgomfphdgekniaa

namespace Go.Proofs.Ytgomfphdgekniaa
open Go.RowKit

theorem numA_at (c : List Nat) (i : Nat) (h : Nat → Nat) (x : Nat) : ∀ j, j ≤ c.length → numA c i j h x = if x ∈ c.take j then i else h x := by
  intro j
  induction j with
  | zero => intro _; simp [numA]
  | succ j ih =>
    intro hj
    have hg : c.getD j 0 = c[j] := by rw [List.getD_eq_getElem?_getD, List.getElem?_eq_getElem (by omega)]; rfl
    have hm : x ∈ c.take (j + 1) ↔ x ∈ c.take j ∨ x = c[j] := by rw [List.take_succ_eq_append_getElem (by omega), List.mem_append, List.mem_singleton]
    rw [numA, hg]
    unfold fset
    by_cases e : x = c[j]
    · rw [if_pos e, if_pos (hm.2 (.inr e))]
    · rw [if_neg e, ih (by omega)]
      by_cases d : x ∈ c.take j
      · rw [if_pos d, if_pos (hm.2 (.inl d))]
      · rw [if_neg d, if_neg fun h => (hm.1 h).elim d e]
theorem numT_at {cs : List (List Nat)} (hn : cs.flatten.Nodup) : ∀ K, K ≤ cs.length → ∀ i (hi : i < K) (hic : i < cs.length) x, x ∈ cs[i] → numT cs K x = i := by
  intro K
  induction K with
  | zero => intro _ i hi; omega
  | succ K ih =>
    intro hK i hi hic x hx
    have hg : cs.getD K [] = cs[K] := by rw [List.getD_eq_getElem?_getD, List.getElem?_eq_getElem (by omega)]; rfl
    rw [numT, hg, numA_at _ _ _ _ _ (Nat.le_refl _), List.take_length]
    rcases Nat.lt_or_ge i K with c | c
    · rw [if_neg, ih (by omega) i c hic x hx]
      intro hx2
      have h1 := (List.pairwise_flatten.1 hn).2
      have := List.pairwise_iff_getElem.1 h1 i K hic (by omega) c
      exact this x hx x hx2 rfl
    · obtain rfl : i = K := by omega
      rw [if_pos hx]
section
variable {p : Nat → Nat} {m : Nat}
theorem cycs_nodup (hp : PermN p m) : (cycs p m).flatten.Nodup := (cycs_flat hp.2.2.1 hp.2.1).symm.nodup (List.nodup_range)
theorem which_at (hp : PermN p m) {i : Nat} (hi : i < (cycs p m).length) {x : Nat} (hx : x ∈ (cycs p m)[i]) : whichF p m x = i :=
  numT_at (cycs_nodup hp) _ (Nat.le_refl _) i hi hi x hx
theorem which_mem (hp : PermN p m) {x : Nat} (hx : x < m) : ∃ (i : Nat) (hi : i < (cycs p m).length), x ∈ (cycs p m)[i] ∧ whichF p m x = i := by
  have h1 : x ∈ (cycs p m).flatten := (cycs_flat hp.2.2.1 hp.2.1).symm.subset (List.mem_range.2 hx)
  obtain ⟨c, hc, hxc⟩ := List.mem_flatten.1 h1
  obtain ⟨i, hi, rfl⟩ := List.getElem_of_mem hc
  exact ⟨i, hi, hxc, which_at hp hi hxc⟩
theorem which_lt (hp : PermN p m) {x : Nat} (hx : x < m) : whichF p m x < (cycs p m).length := by
  obtain ⟨i, hi, _, e⟩ := which_mem hp hx
  omega
theorem it_comm {f : Nat → Nat} (hb : Bij p m) (hc : ∀ x, x < m → f (p x) = p (f x)) (k : Nat) {x : Nat} (hx : x < m) : f (it p k x) = it p k (f x) := by
  induction k with
  | zero => rfl
  | succ k ih =>
    show f (p (it p k x)) = p (it p k (f x))
    rw [hc _ (hb.it_lt k hx), ih]
theorem which_same (hp : PermN p m) {f : Nat → Nat} (hf : ∀ x, x < m → f x < m) (hc : ∀ x, x < m → f (p x) = p (f x)) {x y : Nat} (hx : x < m) (hy : y < m) (e : whichF p m x = whichF p m y) : whichF p m (f x) = whichF p m (f y) := by
  have hb := hp.2.2.1
  obtain ⟨i, hi, hxi, e1⟩ := which_mem hp hx
  obtain ⟨j, hj, hyj, e2⟩ := which_mem hp hy
  obtain rfl : i = j := by omega
  obtain ⟨z, hz, hcz⟩ := cycs_mem hb hp.2.1 (List.getElem_mem hi)
  rw [hcz] at hxi hyj
  have r1 := (mem_orbit hb hz).1 hxi
  have r2 := (mem_orbit hb hz).1 hyj
  obtain ⟨k, hk⟩ := (R.symm hb hz r1).trans r2
  obtain ⟨i', hi', hm, e3⟩ := which_mem hp (hf x hx)
  obtain ⟨z', hz', hcz'⟩ := cycs_mem hb hp.2.1 (List.getElem_mem hi')
  have hm2 := hm
  rw [hcz'] at hm2
  have r3 := (mem_orbit hb hz').1 hm2
  have r4 : R p z' (f y) := r3.trans ⟨k, by rw [← it_comm hb hc k hx, hk]⟩
  have hm3 := (mem_orbit hb hz').2 r4
  rw [← hcz'] at hm3
  rw [e3, which_at hp hi' hm3]
/-- what renames a dessin to itself -/
theorem ren_comm {f : Nat → Nat} (hp : PermN p m) (h : ∀ i, i < 16 → renF p f m i = f i) : ∀ x, x < m → f (p x) = p (f x) := fun x hx => by
  have h1 := h (p x) (hp.lt x (by have := hp.2.1; omega))
  rw [renF_at hp.2.2.1 hx] at h1
  exact h1.symm
theorem eqDB_parts {n n' : Int} {F G F' G' : Nat → Nat} (h : eqDB n F G n' F' G' = true) : (∀ i, i < 16 → F i = F' i) ∧ ∀ i, i < 16 → G i = G' i := by
  have e := (eqDB_iff n F G n' F' G').1 h
  refine ⟨fun i hi => ?_, fun i hi => ?_⟩
  · have h1 : (dv n F G)[1 + i]? = (dv n' F' G')[1 + i]? := by rw [e]
    rw [dv_b _ _ _ hi, dv_b _ _ _ hi] at h1
    simp at h1; omega
  · have h1 : (dv n F G)[17 + i]? = (dv n' F' G')[17 + i]? := by rw [e]
    rw [dv_w _ _ _ hi, dv_w _ _ _ hi] at h1
    simp at h1; omega
/-- the numbers of the cycles, as a list -/
def whL (p : Nat → Nat) (m : Nat) : List Nat := (List.range m).map (whichF p m)
theorem whL_length (p : Nat → Nat) (m : Nat) : (whL p m).length = m := by unfold whL; simp
theorem whL_at {k : Nat} (hk : k < m) : (whL p m).getD k 0 = whichF p m k := by unfold whL; simp [List.getD_eq_getElem?_getD, hk]
theorem whL_out {k : Nat} (hk : m ≤ k) : (whL p m).getD k 0 = 0 := by unfold whL; simp [List.getD_eq_getElem?_getD, hk]
theorem whL_lt (hp : PermN p m) (k : Nat) : (whL p m).getD k 0 < 16 := by
  rcases Nat.lt_or_ge k m with c | c
  · rw [whL_at c]
    have := which_lt hp c
    have := cycs_le hp
    have := hp.2.1
    omega
  · rw [whL_out c]; omega
theorem prj_at {ns : List Nat} {f : Nat → Nat} {m : Nat} (hc : ∀ i j, i < m → j < m → ns.getD i 0 = ns.getD j 0 → ns.getD (f i) 0 = ns.getD (f j) 0) : ∀ k, k ≤ m → ∀ j, j < k → prjT ns f k (ns.getD j 0) = ns.getD (f j) 0 := by
  intro k
  induction k with
  | zero => intro _ j hj; omega
  | succ k ih =>
    intro hk j hj
    rw [prjT]
    unfold fset
    by_cases e : ns.getD j 0 = ns.getD k 0
    · rw [if_pos e]; exact (hc j k (by omega) (by omega) e).symm
    · rw [if_neg e]
      rcases Nat.lt_or_ge j k with d | d
      · exact ih (by omega) j d
      · obtain rfl : j = k := by omega
        exact absurd rfl e
theorem prj_none {ns : List Nat} {f : Nat → Nat} {y : Nat} : ∀ k, (∀ j, j < k → ns.getD j 0 ≠ y) → prjT ns f k y = 0 := by
  intro k
  induction k with
  | zero => intro _; rfl
  | succ k ih =>
    intro h
    rw [prjT]
    unfold fset
    rw [if_neg (fun e => h k (by omega) e.symm), ih fun j hj => h j (by omega)]
/-- the quotient's places -/
def quoF (p : Nat → Nat) (m : Nat) (f : Nat → Nat) : Nat → Nat := upto (fun k => whichF p m (f (((cycs p m).getD k []).getD 0 0))) (cycs p m).length
theorem cyc_head (hp : PermN p m) {k : Nat} (hk : k < (cycs p m).length) : ((cycs p m).getD k []).getD 0 0 < m ∧ whichF p m (((cycs p m).getD k []).getD 0 0) = k ∧ 0 < ((cycs p m)[k]).length ∧ ((cycs p m).getD k []).getD 0 0 ∈ (cycs p m)[k] := by
  have hg : (cycs p m).getD k [] = (cycs p m)[k] := by rw [List.getD_eq_getElem?_getD, List.getElem?_eq_getElem hk]; rfl
  have hl := (lens_pos hp.2.2.1 hp.2.1 (List.mem_map.2 ⟨_, List.getElem_mem hk, rfl⟩)).1
  have hm : ((cycs p m)[k]).getD 0 0 ∈ (cycs p m)[k] := by
    rw [List.getD_eq_getElem?_getD, List.getElem?_eq_getElem (by omega)]; exact List.getElem_mem _
  rw [hg]
  exact ⟨cyc_lt hp (List.getElem_mem hk) hm, which_at hp hk hm, hl, hm⟩
theorem prj_quo (hp : PermN p m) {f : Nat → Nat} (hf : ∀ x, x < m → f x < m) (hc : ∀ x, x < m → f (p x) = p (f x)) : prjT (whL p m) f m = quoF p m f := by
  have hcc : ∀ i j, i < m → j < m → (whL p m).getD i 0 = (whL p m).getD j 0 → (whL p m).getD (f i) 0 = (whL p m).getD (f j) 0 := fun i j hi hj e => by
    rw [whL_at hi, whL_at hj] at e
    rw [whL_at (hf i hi), whL_at (hf j hj)]
    exact which_same hp hf hc hi hj e
  funext y
  unfold quoF upto
  by_cases hy : y < (cycs p m).length
  · rw [if_pos hy]
    show _ = whichF p m (f (((cycs p m).getD y []).getD 0 0))
    obtain ⟨h1, h2, _, _⟩ := cyc_head hp hy
    generalize ((cycs p m).getD y []).getD 0 0 = z at *
    have h3 := prj_at hcc m (Nat.le_refl _) z h1
    rw [whL_at h1, h2, whL_at (hf z h1)] at h3
    exact h3
  · rw [if_neg hy]
    refine prj_none m fun j hj => ?_
    rw [whL_at hj]
    have := which_lt hp hj
    omega
theorem max_quo (hp : PermN p m) : maxU (whL p m) (m - 1) + 1 = (cycs p m).length := by
  have h1 := hp.1
  obtain ⟨i, hi, e⟩ := maxU_at (whL p m) (m - 1)
  have h2 := which_lt hp (x := i) (by omega)
  rw [whL_at (by omega)] at e
  have h0 : 0 < (cycs p m).length := by omega
  obtain ⟨h3, h4, _, _⟩ := cyc_head hp (k := (cycs p m).length - 1) (by omega)
  generalize ((cycs p m).getD ((cycs p m).length - 1) []).getD 0 0 = z at *
  have h5 := maxU_ge (whL p m) (m - 1) z (by omega)
  rw [whL_at h3, h4] at h5
  omega
end
/-- the answer -/
noncomputable def quoOk (n : Int) (f g p : Nat → Nat) : Nat := if desB n f g = true ∧ permB p n = true then if eqDB n (renF p f n.toNat) (renF p g n.toNat) n f g = true then 0 else 5 else 1
noncomputable def quoA (n : Int) (f g p : Nat → Nat) : Array Value := if quoOk n f g p = 0 then dv (cycs p n.toNat).length (quoF p n.toNat f) (quoF p n.toNat g) else dv 0 (fun _ => 0) (fun _ => 0)
noncomputable def quoL (n : Int) (f g p : Nat → Nat) : List Nat := if quoOk n f g p = 0 then whL p n.toNat else []
end Go.Proofs.Ytgomfphdgekniaa

namespace Go.Proofs.Ytgomfphdgekniaa.Rd
open Go.RowKit

section
variable (P : Program) (md : Region.Mode) (ops : Array Oper) (C : World → Prop) (E : Nat → Bool) (K : Act → World → Prop)

def uponE (R : Value → World → Prop) (w : World) : Result Next → Prop
  | .ok (.value u) w' => C w' ∧ R u w'
  | .ok .skip w' => C w' ∧ R undef w'
  | .ok (.enter f args) w' => w' = w ∧ Calls P f args w (fun e w'' => ∃ v, e = .returned v ∧ C w'' ∧ R v w'')
  | _ => False

/-- one operation, and what follows -/
def opV (i : Nat) (N : Act → (World → Prop) → Prop) (a : Act) (D : World → Prop) : Prop :=
  match ops[i]? with
  | none => N a D
  | some o =>
    if Region.wanted o (yielded ops a.tmps) then
      if E i = true then ∃ R : Value → World → Prop, (∀ v, Stable (R v)) ∧ (∀ w, C w → D w → uponE P C R w ((execOp a.eval o).run P w)) ∧ ∀ v, (∃ w, C w ∧ R v w) → N (a.put o.dst v) (R v)
      else ∃ v, (∀ w, C w → atG P o a w v) ∧ N (a.put o.dst v) D
    else N (a.put o.dst undef) D

theorem opV_mono {i : Nat} {N N' : Act → (World → Prop) → Prop} {a : Act} {D : World → Prop} (h : ∀ a D, N a D → N' a D) (hh : opV P ops C E i N a D) : opV P ops C E i N' a D := by
  unfold opV at *
  split
  · rename_i ho; simp only [ho] at hh; exact h _ _ hh
  · rename_i o ho
    simp only [ho] at hh
    split
    · rename_i hw
      rw [if_pos hw] at hh
      split
      · rename_i hR; rw [if_pos hR] at hh; obtain ⟨R, h0, h1, h2⟩ := hh; exact ⟨R, h0, h1, fun v hv => h _ _ (h2 v hv)⟩
      · rename_i hR
        rw [if_neg hR] at hh
        obtain ⟨v, h1, h2⟩ := hh; exact ⟨v, h1, h _ _ h2⟩
    · rename_i hw; rw [if_neg hw] at hh; exact h _ _ hh

/-- whatever order is picked -/
def anyV : Nat → Array Bool → Act → (World → Prop) → Prop
  | 0, done, a, D => Region.ready md ops done = [] ∧ ∀ w, C w → D w → K a w
  | f + 1, done, a, D => (Region.ready md ops done = [] → ∀ w, C w → D w → K a w) ∧ ∀ i ∈ Region.ready md ops done, opV P ops C E i (anyV f (done.setIfInBounds i true)) a D

theorem op_sound (hC : ∀ w w', C w → Below w.heap.size w w' → C w') {i : Nat} {N : Act → (World → Prop) → Prop} {K' : Act → World → Prop} {Q : Exit → Act → World → Prop} {a : Act} {D : World → Prop} {w : World} (hD : Stable D) (hw : C w) (hDw : D w)
    (hN : ∀ a D w, Stable D → C w → D w → N a D → K' a w) (h : opV P ops C E i N a D) : wpOp P ops Q i K' a w := by
  unfold opV at h
  unfold wpOp
  split
  · rename_i ho; simp only [ho] at h; exact hN _ _ _ hD hw hDw h
  · rename_i o ho
    simp only [ho] at h
    split
    · rename_i hwa
      rw [if_pos hwa] at h
      refine .inl ?_
      unfold Oper.wp
      rcases hEi : E i with _ | _
      · rw [if_neg (by simp [hEi])] at h
        obtain ⟨v, h1, h2⟩ := h
        have h3 := h1 w hw
        unfold atG at h3
        generalize (execOp a.eval o).run P w = r at *
        cases r with
        | ok n w' =>
          cases n <;> simp only [uponG] at h3 <;> simp only [Oper.upon]
          case value u => obtain ⟨e1, e2⟩ := h3; rw [e1, e2]; exact hN _ _ _ hD hw hDw h2
          case skip => obtain ⟨e1, e2⟩ := h3; rw [e1, ← e2]; exact hN _ _ _ hD hw hDw h2
          case enter f args => obtain ⟨e1, hc⟩ := h3; rw [e1]; exact hc.mono fun e w'' ⟨he, hb⟩ => by subst he; exact hN _ _ _ hD (hC _ _ hw hb) (hD _ _ hDw hb) h2
        | halt x w' => simp only [uponG] at h3
      · rw [if_pos hEi] at h
        obtain ⟨R, hE, h⟩ := h
        have h3 := h.1 w hw hDw
        generalize (execOp a.eval o).run P w = r at *
        cases r with
        | ok n w' =>
          cases n <;> simp only [uponE] at h3 <;> simp only [Oper.upon]
          case value u => exact hN _ _ _ (hE u) h3.1 h3.2 (h.2 u ⟨_, h3⟩)
          case skip => exact hN _ _ _ (hE undef) h3.1 h3.2 (h.2 undef ⟨_, h3⟩)
          case enter f args =>
            obtain ⟨e1, hc⟩ := h3
            rw [e1]
            refine hc.mono ?_
            rintro e w'' ⟨v, he, hb, hr⟩
            subst he
            exact hN _ _ _ (hE v) hb hr (h.2 v ⟨_, hb, hr⟩)
        | halt x w' => simp only [uponE] at h3
    · rename_i hwa; rw [if_neg hwa] at h; exact hN _ _ _ hD hw hDw h

theorem anyV_any (hC : ∀ w w', C w → Below w.heap.size w w' → C w') {Q : Exit → Act → World → Prop} (hQ : ∀ a w, K a w → Q .normal a w) (f : Nat) : ∀ (done : Array Bool) (a : Act) (D : World → Prop) (w : World), Stable D → C w → D w →
    anyV P md ops C E K f done a D → wpAny P md ops Q f done a w := by
  induction f with
  | zero => intro done a D w _ hw hDw h; exact ⟨h.1, hQ _ _ (h.2 w hw hDw)⟩
  | succ f ih =>
    intro done a D w hD hw hDw h
    exact ⟨fun e => hQ _ _ (h.1 e w hw hDw), fun i hi => op_sound P ops C E hC hD hw hDw (fun a' D' w' h1 h2 h3 h4 => ih _ a' D' w' h1 h2 h3 h4) (h.2 i hi)⟩

def YieldsG (o : Oper) (v : Value) (a : Act) : Prop :=
  (Region.wanted o (yielded ops a.tmps) = true ∧ ∀ w, C w → atG P o a w v) ∨ (Region.wanted o (yielded ops a.tmps) = false ∧ v = undef)

theorem YieldsG.op {i : Nat} {o : Oper} {v : Value} {a : Act} {D : World → Prop} (hi : ops[i]? = some o) (hE : E i = false) (hy : YieldsG P ops C o v a) {N : Act → (World → Prop) → Prop} (h : N (a.put o.dst v) D) : opV P ops C E i N a D := by
  unfold opV
  simp only [hi, hE, Bool.false_eq_true, if_false]
  rcases hy with ⟨hw, hv⟩ | ⟨hw, rfl⟩
  · rw [if_pos hw]; exact ⟨v, hv, h⟩
  · rw [if_neg (by simp [hw])]; exact h

theorem yieldsG_of {i : Nat} {o : Oper} {a : Act} {D : World → Prop} {N : Act → (World → Prop) → Prop} (hi : ops[i]? = some o) (hE : E i = false) (h : opV P ops C E i N a D) : ∃ v, YieldsG P ops C o v a ∧ N (a.put o.dst v) D := by
  unfold opV at h
  simp only [hi, hE, Bool.false_eq_true, if_false] at h
  by_cases hw : Region.wanted o (yielded ops a.tmps) = true
  · rw [if_pos hw] at h
    obtain ⟨v, h1, h2⟩ := h
    exact ⟨v, .inl ⟨hw, h1⟩, h2⟩
  · rw [if_neg hw] at h
    exact ⟨undef, .inr ⟨by simpa using hw, rfl⟩, h⟩

theorem opV_put {j : Nat} {oi oj : Oper} {v : Value} (hj : ops[j]? = some oj) (hap : oi.apart ops oj = true) (hsi : ∀ cs b, oi.op ≠ .select cs b) (hsj : ∀ cs b, oj.op ≠ .select cs b)
    {N : Act → (World → Prop) → Prop} {a : Act} {D : World → Prop} (hy : YieldsG P ops C oi v a) (h : opV P ops C E j N (a.put oi.dst v) D) :
    opV P ops C E j (fun a' D' => YieldsG P ops C oi v a' ∧ N (a'.put oi.dst v) D') a D := by
  obtain ⟨h1, h2, h3⟩ := Oper.apart_spec hap
  have keep : ∀ u, YieldsG P ops C oi v (a.put oj.dst u) := fun u => by
    have e1 := execOp_put oi hsi a oj.dst u h3
    have e2 := wanted_put oi a oj.dst u h3
    unfold YieldsG atG at *
    rw [e1, e2]; exact hy
  unfold opV at *
  simp only [hj] at *
  rw [wanted_put oj a oi.dst v h1, execOp_put oj hsj a oi.dst v h1] at h
  have ep : ∀ u, (a.put oj.dst u).put oi.dst v = (a.put oi.dst v).put oj.dst u := fun u => (Act.put_comm a v u h2).symm
  by_cases hw : Region.wanted oj (yielded ops a.tmps) = true
  · rw [if_pos hw] at h ⊢
    rcases hE : E j with _ | _
    · simp only [hE, Bool.false_eq_true, if_false] at h ⊢
      obtain ⟨u, k1, k2⟩ := h
      refine ⟨u, fun w hg => ?_, keep _, by rw [ep]; exact k2⟩
      have := k1 w hg
      unfold atG at *
      rwa [execOp_put oj hsj a oi.dst v h1] at this
    · simp only [hE, if_true] at h ⊢
      obtain ⟨R, h0, h⟩ := h
      exact ⟨R, h0, h.1, fun u hu => ⟨keep _, by rw [ep]; exact h.2 u hu⟩⟩
  · rw [if_neg hw] at h ⊢
    exact ⟨keep _, by rw [ep]; exact h⟩

theorem anyV_first {i : Nat} {o : Oper} {v : Value} (hi : ops[i]? = some o) (hE : E i = false) (hsel : ∀ (j : Nat) (o : Oper) cs b, ops[j]? = some o → o.op ≠ .select cs b) (f : Nat) :
    ∀ (done : Array Bool) (a : Act) (D : World → Prop),
      (∀ j oj, ops[j]? = some oj → j ≠ i → done.getD j true = false → (∀ e ∈ oj.after, Region.binds md e = true → e.on ≠ i) → o.apart ops oj = true) →
      i ∈ Region.ready md ops done → YieldsG P ops C o v a →
      anyV P md ops C E K f (done.setIfInBounds i true) (a.put o.dst v) D → anyV P md ops C E K (f + 1) done a D := by
  induction f with
  | zero =>
    intro done a D _ hr hy H
    refine ⟨fun e => (by rw [e] at hr; cases hr), fun j hj => ?_⟩
    by_cases e : j = i
    · subst e; exact hy.op P ops C E hi hE H
    · have := ready_mono hj e
      rw [H.1] at this; cases this
  | succ f ih =>
    intro done a D hfree hr hy H
    refine ⟨fun e => (by rw [e] at hr; cases hr), fun j hj => ?_⟩
    by_cases e : j = i
    · subst e; exact hy.op P ops C E hi hE H
    · obtain ⟨hjun, oj, hoj, hall⟩ := mem_ready.1 hj
      have hun := (mem_ready.1 hr).1
      have hno : ∀ e ∈ oj.after, Region.binds md e = true → e.on ≠ i := fun e he hb h => by
        have := hall e he hb
        rw [h, getD_both hun] at this
        cases this
      refine opV_mono P ops C E (fun a' D' h3 => ih (done.setIfInBounds j true) a' D' (fun k' ok hk hki hk' hnk => hfree k' ok hk hki ?_ hnk) (ready_mono hr (Ne.symm e)) h3.1 ?_)
        (opV_put P ops C E hoj (hfree j oj hoj e hjun hno) (fun cs b => hsel i o cs b hi) (fun cs b => hsel j oj cs b hoj) hy (H.2 j (ready_mono hj e)))
      · by_cases e' : j = k'
        · subst e'; exact hjun
        · rw [getD_set_ne true e'] at hk'; exact hk'
      · rw [Array.setIfInBounds_comm _ _ e]; exact h3.2

def walkV : Plan → Act → (World → Prop) → Prop
  | .fin, a, D => ∀ w, C w → D w → K a w
  | .q k p, a, D => opV P ops C E k (walkV p) a D
  | .s1 k p, a, D => opV P ops C E k (walkV p) a D
  | .s2 k1 p1 k2 p2, a, D => opV P ops C E k1 (walkV p1) a D ∧ opV P ops C E k2 (walkV p2) a D
  | .s3 k1 p1 k2 p2 k3 p3, a, D => opV P ops C E k1 (walkV p1) a D ∧ opV P ops C E k2 (walkV p2) a D ∧ opV P ops C E k3 (walkV p3) a D

theorem anyV_walk (hsel : Region.noSelect ops = true) (sp : List Nat) (hsp : ∀ k, sp.contains k = false → E k = false) (p : Plan) :
    ∀ (f : Nat) (done : Array Bool) (a : Act) (D : World → Prop), planB md ops sp f p done = true → walkV P ops C E K p a D → anyV P md ops C E K f done a D := by
  induction p with
  | fin =>
    intro f done a D hB h
    cases f with
    | zero => exact ⟨by simpa [planB] using hB, h⟩
    | succ f =>
      have e : Region.ready md ops done = [] := by simpa [planB] using hB
      exact ⟨fun _ => h, fun i hi => by rw [e] at hi; cases hi⟩
  | q k p ih =>
    intro f done a D hB h
    cases f with
    | zero => simp [planB] at hB
    | succ f =>
      simp only [planB, Bool.and_eq_true, decide_eq_true_eq, Bool.not_eq_true'] at hB
      obtain ⟨hc, ⟨hr, hfree⟩, hk, hB'⟩ := hB
      have hE := hsp k hc
      have hi : ops[k]? = some ops[k] := Array.getElem?_eq_getElem hk
      obtain ⟨v, hy, hK⟩ := yieldsG_of P ops C E hi hE h
      exact anyV_first P md ops C E K hi hE (Region.noSelect_spec hsel) f done a D (Region.free_spec hi hfree) (by simpa using hr) hy (ih _ _ _ _ hB' hK)
  | s1 k p ih =>
    intro f done a D hB h
    cases f with
    | zero => simp [planB] at hB
    | succ f =>
      simp only [planB, Bool.and_eq_true, decide_eq_true_eq] at hB
      obtain ⟨hr, hB'⟩ := hB
      refine ⟨fun e => (by rw [hr] at e; cases e), fun i hi => ?_⟩
      rw [hr] at hi
      obtain rfl : i = k := by simpa using hi
      exact opV_mono P ops C E (fun a' D' h' => ih _ _ _ _ hB' h') h
  | s2 k1 p1 k2 p2 ih1 ih2 =>
    intro f done a D hB h
    cases f with
    | zero => simp [planB] at hB
    | succ f =>
      simp only [planB, Bool.and_eq_true, decide_eq_true_eq] at hB
      obtain ⟨hr, hB1, hB2⟩ := hB
      refine ⟨fun e => (by rw [hr] at e; cases e), fun i hi => ?_⟩
      rw [hr] at hi
      simp only [List.mem_cons, List.not_mem_nil, or_false] at hi
      rcases hi with rfl | rfl
      · exact opV_mono P ops C E (fun a' D' h' => ih1 _ _ _ _ hB1 h') h.1
      · exact opV_mono P ops C E (fun a' D' h' => ih2 _ _ _ _ hB2 h') h.2
  | s3 k1 p1 k2 p2 k3 p3 ih1 ih2 ih3 =>
    intro f done a D hB h
    cases f with
    | zero => simp [planB] at hB
    | succ f =>
      simp only [planB, Bool.and_eq_true, decide_eq_true_eq] at hB
      obtain ⟨hr, hB1, hB2, hB3⟩ := hB
      refine ⟨fun e => (by rw [hr] at e; cases e), fun i hi => ?_⟩
      rw [hr] at hi
      simp only [List.mem_cons, List.not_mem_nil, or_false] at hi
      rcases hi with rfl | rfl | rfl
      · exact opV_mono P ops C E (fun a' D' h' => ih1 _ _ _ _ hB1 h') h.1
      · exact opV_mono P ops C E (fun a' D' h' => ih2 _ _ _ _ hB2 h') h.2.1
      · exact opV_mono P ops C E (fun a' D' h' => ih3 _ _ _ _ hB3 h') h.2.2
end

/-- a region by parts of memory: w0, L what the class holds; L1 what stands at the start beside it -/
theorem region_P {P : Program} {id : Nat} {Q : Exit → Act → World → Prop} {a : Act} {w w0 : World} {l : List Oper} (L : List Part) (L1 : List Part) (sp : List Nat) (p : Plan) (H : Holds w0 w L1) (hL : L.Sublist L1)
    (hm : P.follows .mixedOrders = true)
    (hsel : Region.noSelect l.toArray = true) (hB : planB .any l.toArray sp l.toArray.size p (Array.replicate l.toArray.size false) = true) 
    (h : walkV P l.toArray (fun wx => Holds w0 wx L) (fun k => sp.contains k) (fun a' w' => Q .normal a' w') p a (fun wx => Holds w0 wx L1)) : (Code.region id l.toArray true).wp P Q a w := by
  refine wp_region_any hm ?_
  exact anyV_any (Q := Q) P .any l.toArray (fun wx => Holds w0 wx L) (fun k => sp.contains k) (fun a' w' => Q .normal a' w') (fun _ _ h hb => h.call hb) (fun _ _ h => h) _ _ _ _ w.drew (fun _ _ h hb => h.call hb) (H.drew.sub hL) H.drew
    (anyV_walk P .any l.toArray (fun wx => Holds w0 wx L) (fun k => sp.contains k) (fun a' w' => Q .normal a' w') hsel sp (fun _ h => h) p _ _ a _ hB h)

section
variable {P : Program} {ops : Array Oper} {C : World → Prop} {E : Nat → Bool} {k : Nat} {a : Act} {D : World → Prop} {N : Act → (World → Prop) → Prop}
theorem v_q {o : Oper} (ho : ops[k]? = some o) (hE : E k = false) (hw : Region.wanted o (yielded ops a.tmps) = true) {v : Value} (h1 : ∀ w, C w → atG P o a w v) (h2 : N (a.put o.dst v) D) : opV P ops C E k N a D := by
  unfold opV
  simp only [ho, hE, Bool.false_eq_true, if_false]
  rw [if_pos hw]
  exact ⟨v, h1, h2⟩
theorem v_s {o : Oper} (R : Value → World → Prop) (hR : ∀ v, Stable (R v)) (ho : ops[k]? = some o) (hE : E k = true) (hw : Region.wanted o (yielded ops a.tmps) = true) (h1 : ∀ w, C w → D w → uponE P C R w ((execOp a.eval o).run P w))
    (h2 : ∀ v, (∃ w, C w ∧ R v w) → N (a.put o.dst v) (R v)) : opV P ops C E k N a D := by
  unfold opV
  simp only [ho, hE, if_true]
  rw [if_pos hw]
  exact ⟨R, hR, h1, h2⟩
end
/-- a list of cells laid for an append -/
def rBuild (w0 : World) (cells : Array Value) (t : TypeId) (k : Nat) (L : List Part) : Value → World → Prop := fun v w => ∃ g, v = .slice (some ⟨g, 0, none⟩) k k ∧ Holds w0 w (pBlk g cells t :: L)
theorem rBuild_stable {w0 : World} {cells : Array Value} {t : TypeId} {k : Nat} {L : List Part} (v : Value) : Stable (rBuild w0 cells t k L v) := fun _ _ ⟨g, e, h⟩ hb => ⟨g, e, h.call hb⟩
/-- a new block -/
def rBox (w0 : World) (cells : Array Value) (t : TypeId) (L : List Part) : Value → World → Prop := fun v w => ∃ g, v = .pointer (some ⟨g, 0, none⟩) ∧ Holds w0 w (pBlk g cells t :: L)
theorem rBox_stable {w0 : World} {cells : Array Value} {t : TypeId} {L : List Part} (v : Value) : Stable (rBox w0 cells t L v) := fun _ _ ⟨g, e, h⟩ hb => ⟨g, e, h.call hb⟩
/-- a relation of one value that is told by parts -/
def rHolds (w0 : World) (L : Value → List Part) : Value → World → Prop := fun v w => Holds w0 w (L v)
theorem rHolds_stable {w0 : World} {L : Value → List Part} (v : Value) : Stable (rHolds w0 L v) := fun _ _ h hb => h.call hb
/-- what is told of a pointer's block, of a slice's block -/
def rPtr (w0 : World) (cells : Array Value) (t : TypeId) (L : List Part) : Value → World → Prop
  | .pointer (some ⟨g, 0, none⟩) => fun w => Holds w0 w (pBlk g cells t :: L)
  | _ => fun _ => False
def rSl (w0 : World) (cells : Array Value) (t : TypeId) (L : List Part) : Value → World → Prop
  | .slice (some ⟨g, 0, none⟩) _ _ => fun w => Holds w0 w (pBlk g cells t :: L)
  | _ => fun _ => False
theorem rPtr_stable {w0 : World} {cells : Array Value} {t : TypeId} {L : List Part} (v : Value) : Stable (rPtr w0 cells t L v) := by
  unfold rPtr
  split
  · exact fun _ _ h hb => h.call hb
  · exact fun _ _ h _ => h
theorem rSl_stable {w0 : World} {cells : Array Value} {t : TypeId} {L : List Part} (v : Value) : Stable (rSl w0 cells t L v) := by
  unfold rSl
  split
  · exact fun _ _ h hb => h.call hb
  · exact fun _ _ h _ => h
section
variable {P : Program} {ops : Array Oper} {E : Nat → Bool} {k : Nat} {a : Act} {N : Act → (World → Prop) → Prop} {w0 : World} {L L1 : List Part}
/-- a new block -/
theorem v_box {o : Oper} (cells : Array Value) (t : TypeId) (ho : ops[k]? = some o) (hE : E k = true) (hw : Region.wanted o (yielded ops a.tmps) = true)
    (h1 : ∀ w, Holds w0 w L → Holds w0 w L1 → (execOp a.eval o).run P w = .ok (.value (.pointer (some ⟨w.heap.size, 0, none⟩))) (w.alloc (.cells cells t)))
    (h2 : ∀ g, N (a.put o.dst (.pointer (some ⟨g, 0, none⟩))) (fun wx => Holds w0 wx (pBlk g cells t :: L1))) : opV P ops (fun wx => Holds w0 wx L) E k N a (fun wx => Holds w0 wx L1) := by
  refine v_s (rPtr w0 cells t L1) rPtr_stable ho hE hw (fun w hx hD => ?_) fun v hv => ?_
  · rw [h1 w hx hD]
    exact ⟨hx.alloc _, hD.blk _ _ _ rfl⟩
  · obtain ⟨w, _, hr⟩ := hv
    unfold rPtr at hr
    split at hr
    · exact h2 _
    · exact hr.elim
/-- a list of cells laid for an append -/
theorem v_build {o : Oper} (cells : Array Value) (t : TypeId) (n : Nat) (ho : ops[k]? = some o) (hE : E k = true) (hw : Region.wanted o (yielded ops a.tmps) = true)
    (h1 : ∀ w, Holds w0 w L → Holds w0 w L1 → (execOp a.eval o).run P w = .ok (.value (.slice (some ⟨w.heap.size, 0, none⟩) n n)) (w.alloc (.cells cells t)))
    (h2 : ∀ g, N (a.put o.dst (.slice (some ⟨g, 0, none⟩) n n)) (fun wx => Holds w0 wx (pBlk g cells t :: L1))) : opV P ops (fun wx => Holds w0 wx L) E k N a (fun wx => Holds w0 wx L1) := by
  refine v_s (fun v w => ∃ g, v = .slice (some ⟨g, 0, none⟩) n n ∧ rSl w0 cells t L1 v w) (fun v _ _ ⟨g, e, h⟩ hb => ⟨g, e, rSl_stable v _ _ h hb⟩) ho hE hw (fun w hx hD => ?_) fun v hv => ?_
  · rw [h1 w hx hD]
    exact ⟨hx.alloc _, _, rfl, hD.blk _ _ _ rfl⟩
  · obtain ⟨w, _, g, rfl, hr⟩ := hv
    have := h2 g
    refine cast (congrArg (N _) ?_) this
    funext wx
    refine propext ⟨fun h => ⟨g, rfl, h⟩, fun ⟨_, _, h⟩ => h⟩
end
end Go.Proofs.Ytgomfphdgekniaa.Rd

namespace Go.Proofs.Ytgomfphdgekniaa
open Go.RowKit

/-- three results: a whole value out of its cell, two slots -/
theorem res_agg3 {fn : Func} {p t s : Tmp} {T U : TypeId} {n : Nat} {cs : Array Value} {v u : Value} {R : Ending → World → Prop} {a : Act} {w : World} {g : Nat} (hT : AggT T n) (hs : cs.size = n) (h : fn.results = #[.cell p T, .tmp t, .tmp s])
    (hp : a.tmps.getD p undef = .pointer (some ⟨g, 0, none⟩)) (hv : a.tmps.getD t undef = v) (hu : a.tmps.getD s undef = u) (hd : a.defers = []) (hg : w.heap[g]? = some (.cells cs U (0, 0))) (hR : R (.returned (.tuple #[.agg cs, v, u])) w) : bodyPost Try.prog fn R .ret a w := by
  obtain ⟨d, h1, h2⟩ := hT.und
  have hl := run_loadVar_row (P := Try.prog) w g U T cs (0, 0) d hg h1 (by cases d <;> first | rfl | simp at h2) (by rw [hs]; exact hT.siz)
  refine bodyPost_ret (v := .tuple #[.agg cs, v, u]) ?_ hd hR
  have hp' : a.tmps[p]?.getD undef = .pointer (some ⟨g, 0, none⟩) := by simpa using hp
  have hv' : a.tmps[t]?.getD undef = v := by simpa using hv
  have hu' : a.tmps[s]?.getD undef = u := by simpa using hu
  simp [results, h, hp', hv', hu', asAddr, hl]

set_option maxRecDepth 100000 in
set_option maxHeartbeats 1000000 in
theorem clone_any (g n c : Nat) (ns : List Nat) (hn : ns.length = n) (hb : n ≤ 1000000) (w : World) (hc : ∀ (j : Nat) (u : Value), (nums ns)[j]? = some u → w.cell? ⟨g, j, none⟩ = some u) :
    Calls Try.prog 60 #[.slice (some ⟨g, 0, none⟩) n c] w fun e w' => ∃ v, e = .returned v ∧ Below w.heap.size w w' ∧ Own1 w.heap.size w' v ns := by
  have hc2 : ∀ (j : Nat) (u : Value), (nums ns)[j]? = some u → (w.alloc (.cells #[] 2)).cell? ((⟨g, 0, none⟩ : Addr).add j) = some u := fun j u h => by
    have e : ((⟨g, 0, none⟩ : Addr).add j) = ⟨g, j, none⟩ := by simp [Addr.add]; exact Eq.symm
    rw [e]
    have h1 := hc j u h
    have hlt : g < w.heap.size := by
      rcases Nat.lt_or_ge g w.heap.size with d | d
      · exact d
      · unfold World.cell? at h1
        rw [show w.heap[(⟨g, j, none⟩ : Addr).block]? = none from Array.getElem?_eq_none d] at h1
        simp at h1
    rw [cell_of_cells] at h1 ⊢
    rw [cellsOf_past hlt]
    exact h1
  have HC := hide hc2; clear hc hc2
  have H1 := (Holds.start w).rowNew #[] 2 1 0 w.heap.size rfl rfl (by unfold maxLen; omega)
  obtain ⟨i0, hi, hz0, hz1, hz2⟩ := info_parts info64
  have I0 := hide (And.intro hi (And.intro hz0 (And.intro hz1 hz2))); clear hi hz0 hz1 hz2
  go_enter Try.func60, Try.ntmps60
  have qe : ∀ (w : World), (binOp .eql 35 (.slice (some ⟨g, 0, none⟩) n c) (.slice none 0 0)).run Try.prog w = .ok (.bool false) w := fun w => Lib.run_eql_slice_nil w _ _ (some ⟨g, 0, none⟩) n c 0 0 Try.underlying35
  go_wp2_with (at_builtin; refine appH (P := Try.prog) rfl _ _ 35 rfl 2 i0 (.int .i64 0) 1 8 Try.underlying35 I0.out.1 I0.out.2.1 I0.out.2.2.1 I0.out.2.2.2 rfl (by decide) _ _ _ rfl H1 0 rfl ⟨g, 0, none⟩ n c (nums ns) rfl (by rw [nums_length]; omega) HC.out nums_one (by unfold maxLen; omega) (by omega) ?_)
  intro v' w' H2
  go_wp2
  go_ret
  have h3 := H2.row 0 rfl
  refine ⟨v', rfl, H2.low, ?_⟩
  unfold Own1
  rw [hn]
  simpa using h3

set_option maxRecDepth 100000 in
set_option maxHeartbeats 2000000 in
theorem quotientBy_any (n : Int) (f g : Nat → Nat) (hf : ∀ i, f i < 256) (hg : ∀ i, g i < 256) (p : Nat → Nat) (hp : ∀ i, p i < 256) (w : World) :
    Calls Try.prog 23 #[.agg (dv n f g), .agg (av p)] w fun e w' => ∃ v, e = .returned (.tuple #[.agg (quoA n f g p), v, .int .i64 (quoOk n f g p : Nat)]) ∧ Below w.heap.size w w' ∧ Own1 w.heap.size w' v (quoL n f g p) := by
  have C1 := hide fun w => isDessin_any n f g hf hg w
  have C2 := hide fun w => isPerm_any p hp n w
  clear hf hg hp
  rcases h1 : desB n f g with _ | _
  · rw [h1] at C1
    have ha : quoOk n f g p = 1 := by unfold quoOk; rw [if_neg (by simp [h1])]
    have hb1 : quoA n f g p = dv 0 (fun _ => 0) (fun _ => 0) := by unfold quoA; rw [if_neg (by omega)]
    have hb2 : quoL n f g p = [] := by unfold quoL; rw [if_neg (by omega)]
    rw [ha, hb1, hb2]
    clear h1 ha hb1 hb2
    have HH0 := ((((Holds.start w).blk (dv n f g) 30 w.heap.size rfl).blk (av p) 28 (w.heap.size + 1) (by simp)).blk (dv 0 (fun _ => 0) (fun _ => 0)) 30 (w.heap.size + 1 + 1) (by simp))
    have hn := dv_n n f g
    go_enter Try.func23, Try.ntmps23
    go_wp2_with fail
    try rw [← dv_zero]
    refine (C1.out _).mono ?_
    rintro e w1 ⟨rfl, hb⟩
    have HH1 := HH0.call hb
    clear hb HH0
    have r1 := HH1.rowOk 0 rfl (dv_size _ _ _)
    have H2 := HH1.setRow 0 rfl (dv 0 (fun _ => 0) (fun _ => 0))
    go_wp2
    exact res_agg3 (p := 4) (t := 5) (s := 6) (g := (w.heap.size + 1 + 1)) (v := .slice none 0 0) (u := .int .i64 1) aggD (dv_size _ _ _) rfl rfl rfl rfl rfl (H2.at 0 rfl) ⟨_, rfl, H2.low, Own1.nil _ _⟩

  rw [h1] at C1
  rcases h2 : permB p n with _ | _
  · rw [h2] at C2
    have ha : quoOk n f g p = 1 := by unfold quoOk; rw [if_neg (by simp [h2])]
    have hb1 : quoA n f g p = dv 0 (fun _ => 0) (fun _ => 0) := by unfold quoA; rw [if_neg (by omega)]
    have hb2 : quoL n f g p = [] := by unfold quoL; rw [if_neg (by omega)]
    rw [ha, hb1, hb2]
    clear h1 h2 ha hb1 hb2
    have HH0 := ((((Holds.start w).blk (dv n f g) 30 w.heap.size rfl).blk (av p) 28 (w.heap.size + 1) (by simp)).blk (dv 0 (fun _ => 0) (fun _ => 0)) 30 (w.heap.size + 1 + 1) (by simp))
    have hn := dv_n n f g
    go_enter Try.func23, Try.ntmps23
    go_wp2_with fail
    try rw [← dv_zero]
    refine (C1.out _).mono ?_
    rintro e w1 ⟨rfl, hb⟩
    have HH1 := HH0.call hb
    clear hb HH0
    have c1 := HH1.cells 2 rfl
    have d1 := HH1.cells 1 rfl
    have r1 := HH1.rowOk 0 rfl (dv_size _ _ _)
    have n1 := HH1.cell 2 rfl hn
    go_wp2_with fail
    try rw [← dv_zero]
    refine (C2.out _).mono ?_
    rintro e w2 ⟨rfl, hb⟩
    have HH2 := HH1.call hb
    clear hb HH1
    have r2 := HH2.rowOk 0 rfl (dv_size _ _ _)
    clear c1 d1 r1 n1
    have H2 := HH2.setRow 0 rfl (dv 0 (fun _ => 0) (fun _ => 0))
    go_wp2
    exact res_agg3 (p := 4) (t := 5) (s := 6) (g := (w.heap.size + 1 + 1)) (v := .slice none 0 0) (u := .int .i64 1) aggD (dv_size _ _ _) rfl rfl rfl rfl rfl (H2.at 0 rfl) ⟨_, rfl, H2.low, Own1.nil _ _⟩

  rw [h2] at C2
  obtain ⟨m, rfl, hd⟩ := desB_true h1
  obtain ⟨m', e, hpm⟩ := permB_true h2
  obtain rfl : m = m' := by omega
  clear e
  have hm := hd.le
  have C3 := hide fun w => rename_any f g p m hd.black hd.white hpm w
  have HH0 := ((((Holds.start w).blk (dv m f g) 30 w.heap.size rfl).blk (av p) 28 (w.heap.size + 1) (by simp)).blk (dv 0 (fun _ => 0) (fun _ => 0)) 30 (w.heap.size + 1 + 1) (by simp))
  have hn := dv_n m f g
  go_enter Try.func23, Try.ntmps23
  go_wp2_with fail
  try rw [← dv_zero]
  refine (C1.out _).mono ?_
  rintro e w1 ⟨rfl, hb⟩
  have HH1 := HH0.call hb
  clear hb HH0
  have c1 := HH1.cells 2 rfl
  have d1 := HH1.cells 1 rfl
  have r1 := HH1.rowOk 0 rfl (dv_size _ _ _)
  have n1 := HH1.cell 2 rfl hn
  go_wp2_with fail
  try rw [← dv_zero]
  refine (C2.out _).mono ?_
  rintro e w2 ⟨rfl, hb⟩
  have HH2 := HH1.call hb
  clear hb HH1
  have c2 := HH2.cells 2 rfl
  have d2 := HH2.cells 1 rfl
  have r2 := HH2.rowOk 0 rfl (dv_size _ _ _)
  have n2 := HH2.cell 2 rfl hn
  clear c1 d1 r1 n1
  have ha0 : quoOk m f g p = if eqDB m (renF p f m) (renF p g m) m f g = true then 0 else 5 := by unfold quoOk; rw [if_pos ⟨h1, h2⟩, Int.toNat_natCast]
  have hpar := fun h => eqDB_parts (n := (m : Int)) (n' := (m : Int)) (F := renF p f m) (G := renF p g m) (F' := f) (G' := g) h
  have HPAR := hide hpar; clear hpar
  have HA0 := hide ha0; clear ha0 h1 h2
  go_wp2
  refine Rd.region_P (w0 := w) [pBlk (w.heap.size + 1 + 1) (dv 0 (fun _ => 0) (fun _ => 0)) 30, pBlk (w.heap.size + 1) (av p) 28, pBlk w.heap.size (dv m f g) 30] [pBlk (w.heap.size + 1 + 1) (dv 0 (fun _ => 0) (fun _ => 0)) 30, pBlk (w.heap.size + 1) (av p) 28, pBlk w.heap.size (dv m f g) 30] [] (.q 0 <| .q 1 <| .q 2 <| .q 3 <| .q 4 .fin) HH2 (.refl _) (by kernel_rfl) (by kernel_rfl) (by kernel_rfl) ?_
  iterate 2
    apply Rd.v_q
    · simp only [List.getElem?_toArray, List.getElem?_cons_zero, List.getElem?_cons_succ]; exact rfl
    · rfl
    · go_simp
    · intro wx hx
      have q1 := hx.cells 2 rfl
      have q2 := hx.cells 1 rfl
      unfold atG
      go_simp
      simp only [uponG]
      exact ⟨by trivial, rfl⟩
  iterate 1
    apply Rd.v_q
    · simp only [List.getElem?_toArray, List.getElem?_cons_zero, List.getElem?_cons_succ]; exact rfl
    · rfl
    · go_simp
    · intro wx hx
      have q1 := hx.cells 2 rfl
      have q2 := hx.cells 1 rfl
      unfold atG
      go_simp
      simp only [uponG]
      exact ⟨by trivial, C3.out wx⟩
  iterate 2
    apply Rd.v_q
    · simp only [List.getElem?_toArray, List.getElem?_cons_zero, List.getElem?_cons_succ]; exact rfl
    · rfl
    · go_simp
    · intro wx hx
      have q1 := hx.cells 2 rfl
      have q2 := hx.cells 1 rfl
      unfold atG
      go_simp
      simp only [uponG]
      exact ⟨by trivial, rfl⟩
  rintro w3 - HH3
  clear HH2 c2 d2 r2 n2
  rcases hq : eqDB m (renF p f m) (renF p g m) m f g with _ | _
  · have ha : quoOk m f g p = 5 := by rw [HA0.out, if_neg (by simp [hq])]
    have hb1 : quoA m f g p = dv 0 (fun _ => 0) (fun _ => 0) := by unfold quoA; rw [if_neg (by omega)]
    have hb2 : quoL m f g p = [] := by unfold quoL; rw [if_neg (by omega)]
    have HANS := hide (And.intro ha (And.intro hb1 hb2)); clear ha hb1 hb2
    clear hd hpm HPAR HA0 hm
    have r3 := HH3.rowOk 0 rfl (dv_size _ _ _)
    go_simp
    have H2 := HH3.setRow 0 rfl (dv 0 (fun _ => 0) (fun _ => 0))
    go_wp2
    exact res_agg3 (p := 4) (t := 5) (s := 6) (g := (w.heap.size + 1 + 1)) (v := .slice none 0 0) (u := .int .i64 5) aggD (dv_size _ _ _) rfl rfl rfl rfl rfl (H2.at 0 rfl) ⟨_, by rw [HANS.out.1, HANS.out.2.1]; rfl, H2.low, by rw [HANS.out.2.2]; exact Own1.nil _ _⟩
  have ha : quoOk m f g p = 0 := by rw [HA0.out, if_pos hq]
  obtain ⟨e1, e2⟩ := HPAR.out hq
  have c1 := ren_comm (f := f) hpm e1
  have c2 := ren_comm (f := g) hpm e2
  have hb1 : quoA m f g p = dv (cycs p m).length (quoF p m f) (quoF p m g) := by unfold quoA; rw [if_pos ha, Int.toNat_natCast]
  have hb2 : quoL m f g p = whL p m := by unfold quoL; rw [if_pos ha, Int.toNat_natCast]
  have c4 := fun v w (hv : RdI w v (whL p m)) => project_any f g m hd.black hd.white (whL p m) (whL_length p m) (whL_lt hpm) v w hv
  rw [prj_quo hpm hd.bf.1 c1, prj_quo hpm hd.bg.1 c2, max_quo hpm, ← hb1] at c4
  rw [← hb2] at c4
  have hwl := whL_length p m
  have hnz : ∀ (j : Nat) (u : Value), (nums (whL p m))[j]? = some u → (zv (whichF p m))[j]? = some u := fun j u h => by
    have hj : j < m := by
      have := (List.getElem?_eq_some_iff.1 h).1
      rwa [nums_length, hwl] at this
    rw [zv_get _ (by omega)]
    rw [nums_at (by rw [hwl]; exact hj)] at h
    have h5 := whL_at (p := p) (m := m) hj
    rw [List.getD_eq_getElem?_getD, List.getElem?_eq_getElem (by rw [hwl]; exact hj)] at h5
    rw [← h, ← h5]; rfl
  rw [← hb2] at hnz hwl
  have C3' := hide fun w => cycleNumbers_any p m hpm w
  have C4 := hide c4; clear c4
  have HNZ := hide hnz; clear hnz hb1 hb2 e1 e2 c1 c2
  have HAA := hide ha; clear ha hq HA0 HPAR C3 hd hpm
  generalize whichF p m = h at *
  obtain ⟨Q, hQ⟩ : ∃ Q, Q = quoA m f g p := ⟨_, rfl⟩
  obtain ⟨NS, hNS⟩ : ∃ NS, NS = quoL m f g p := ⟨_, rfl⟩
  rw [← hNS] at C4 HNZ hwl
  rw [← hQ] at C4
  have HQQ := hide (And.intro hQ hNS); clear hQ hNS
  have c3 := HH3.cells 2 rfl
  have d3 := HH3.cells 1 rfl
  have n3 := HH3.cell 2 rfl hn
  go_simp
  go_wp2_with fail
  refine (C3'.out _).mono ?_
  rintro e w4 ⟨rfl, hb⟩
  have HH4 := (HH3.call hb).blk (zv h) 61 w4.heap.size rfl
  clear hb HH3 c3 d3 n3
  have n4 := HH4.cell 3 rfl hn
  have z4 := HH4.cells 0 rfl
  have C5 := hide fun w hc => clone_any w4.heap.size m 16 NS hwl (by omega) w hc
  have hm16 : (m : Int) ≤ 16 := by omega
  go_wp2_with fail
  try rw [← zv_zero]
  refine (C5.out _ (fun j u hj => by rw [cell_of_cells, z4]; exact HNZ.out j u hj)).mono ?_
  rintro e w5 ⟨v, rfl, hb, ho⟩
  have HH5 := HH4.newRow hb ho
  clear hb ho HH4 n4 z4
  have c5 := HH5.cells 4 rfl
  have hrd : RdI w5 v NS := row_low (HH5.row 0 rfl) (Nat.zero_le _)
  have HRD := hide hrd; clear hrd
  go_wp2_with fail
  refine (C4.out _ _ HRD.out).mono ?_
  rintro e w6 ⟨rfl, hb⟩
  have HH6 := HH5.call hb
  have r6 := HH6.rowOk 2 rfl (dv_size _ _ _)
  clear hb HH5 c5
  have hQs : Q.size = 33 ∧ Q.all (·.oneCell') = true := by
    rw [HQQ.out.1]
    unfold quoA
    split
    · exact ⟨dv_size _ _ _, dv_cells _ _ _⟩
    · exact ⟨dv_size _ _ _, dv_cells _ _ _⟩
  have i33 : Is33 Q := hQs.1
  have ones : Ones Q := hQs.2
  have HQS := hide hQs; clear hQs
  have H7 := HH6.setRow 2 rfl Q
  go_wp2
  exact res_agg3 (p := 4) (t := 5) (s := 6) (g := (w.heap.size + 1 + 1)) (v := v) (u := .int .i64 0) aggD HQS.out.1 rfl rfl rfl rfl rfl (H7.at 2 rfl) ⟨v, by rw [HAA.out, ← HQQ.out.1]; rfl, H7.low, by rw [← HQQ.out.2]; exact H7.row 0 rfl⟩
end Go.Proofs.Ytgomfphdgekniaa
