/- Texts put together: QuoS, Map, Map2, Pk, IncP -/
import Derived.Test.YtgomfphdgekniaaQeLawIncidencesOf
import Derived.Test.YtgomfphdgekniaaChecked
import Derived.WalkKit
import Derived.WalkSpells
import Derived.WalkLawsBesides
import Derived.Deep.LoopGhost
import Derived.Deep.OwnRows
import Derived.Laws.Rows
import Derived.Laws.Tables
import Derived.Laws.CopyOwn
import Derived.ProofKit
import Derived.OpenShut
import Derived.ShutString
import Derived.ChangeOld
import Derived.Below
import Derived.Laws.OwnMore
import Derived.BigQuiet
import Derived.Deep.QuietTactic
import Derived.RegionTactic
import Derived.Deep.RegionWith
import Derived.Laws.CopyRow
import Derived.Deep.MidRow
import Derived.Deep.Quiet
import Derived.StillTail
import Derived.OwnWalk
import Derived.ChangeSlices
import Derived.ChangeKeysEq
import Derived.StillTailTactics
import Derived.Deep.RegionHeld3
import Derived.Laws.Cover3
import Derived.IntWalk
import Derived.Laws.StructEq
import Derived.Maps.Keyed
import Derived.DeepKeys4
import Derived.Maps.Own
import Derived.Carry
namespace Go.Proofs.Ytgomfphdgekniaa
open Go.RowKit

def wl (h : Nat → Nat) (m : Nat) : List Nat := (List.range m).map h
theorem wl_length (h : Nat → Nat) (m : Nat) : (wl h m).length = m := by unfold wl; simp
theorem wl_at (h : Nat → Nat) {m k : Nat} (hk : k < m) : (nums (wl h m))[k]? = some (.int .i64 (h k : Nat)) := by unfold nums wl; simp [hk]
theorem wl_set (h : Nat → Nat) (m x v : Nat) : (nums (wl h m)).set x (.int .i64 (v : Nat)) = nums (wl (fset h x v) m) := by
  apply List.ext_getElem?
  intro i
  rw [List.getElem?_set, nums_length, wl_length]
  rcases Nat.lt_or_ge i m with c | c
  · rw [wl_at _ c]
    by_cases e : x = i
    · subst e; rw [if_pos rfl, if_pos c, wl_at _ c]; unfold fset; rw [if_pos rfl]
    · rw [if_neg e, wl_at _ c]; unfold fset; rw [if_neg (fun h => e h.symm)]
  · have h1 : ∀ h' : Nat → Nat, (nums (wl h' m))[i]? = none := fun h' => List.getElem?_eq_none (by rw [nums_length, wl_length]; omega)
    rw [h1, h1]
    by_cases e : x = i
    · subst e; rw [if_pos rfl, if_neg (by omega)]
    · rw [if_neg e]
theorem wl_zero (m : Nat) : List.replicate m (Value.int .i64 0) = nums (wl (fun _ => 0) m) := by
  unfold nums wl
  apply List.ext_getElem?
  intro i
  rcases Nat.lt_or_ge i m with c | c
  · simp [c]
  · rw [List.getElem?_eq_none (by simpa using c), List.getElem?_eq_none (by simpa using c)]
namespace Rd
/-- uponE behind a name that nothing unfolds -/
@[irreducible] def uponI (P : Program) (C : World → Prop) (R : Value → World → Prop) (w : World) (r : Result Next) : Prop := uponE P C R w r
theorem uponI_eq {P : Program} {C : World → Prop} {R : Value → World → Prop} {w : World} {r : Result Next} : uponI P C R w r = uponE P C R w r := by unfold uponI; rfl
theorem v_sI {P : Program} {ops : Array Oper} {C : World → Prop} {E : Nat → Bool} {k : Nat} {a : Act} {D : World → Prop} {N : Act → (World → Prop) → Prop} {o : Oper} (R : Value → World → Prop) (hR : ∀ v, Stable (R v)) (ho : ops[k]? = some o) (hE : E k = true) (hw : Region.wanted o (yielded ops a.tmps) = true) (h1 : ∀ w, C w → D w → uponI P C R w ((execOp a.eval o).run P w))
    (h2 : ∀ v, (∃ w, C w ∧ R v w) → N (a.put o.dst v) (R v)) : opV P ops C E k N a D :=
  v_s R hR ho hE hw (fun w hc hd => by have := h1 w hc hd; rwa [uponI_eq] at this) h2
/-- make([]T, n) in a region -/
theorem upon_make {P : Program} {C : World → Prop} {R : Value → World → Prop} {o : Oper} {a : Act} {w0 w : World} {L : List Part} (H : Holds w0 w L) (t : TypeId) (x y : Operand) (ho : o.op = .makeSlice t x y) (e : TypeId) (i : TypeInfo) (z : Value) (bytes : Nat) (ht : P.underlying t = some (.slice e)) (hi : P.info? e = some i) (hz : i.zero = some z)
    (hsize : i.size = 1) (hby : i.bytes = bytes) (hzs : z.cells = #[z]) (n : Nat) (kx ky : IntKind) (hx : a.eval x = .int kx (n : Int)) (hy : a.eval y = .int ky (n : Int)) (hn : n ≤ 1000000) (hb : bytes ≤ 64)
    (h : ∀ w', Holds w0 w' (pRow (.slice (some ⟨w.heap.size, 0, none⟩) n n) e 1 n (List.replicate n z) :: L) → C w' ∧ R (.slice (some ⟨w.heap.size, 0, none⟩) n n) w') : uponI P C R w ((execOp a.eval o).run P w) := by
  rw [uponI_eq]
  have h1 : bytes * n ≤ 64 * 1000000 := Nat.mul_le_mul hb hn
  obtain ⟨w', hr, ho', hg⟩ := run_makeSlice_full (P := P) w w.heap.size t e i z 1 ht hi hz hsize kx ky n (by omega) (by rw [hby]; omega) (by unfold maxLen; omega) (Nat.le_refl _)
  rw [hzs, Nat.mul_one, toList_madeCells_one] at ho'
  unfold execOp
  simp only [ho, hx, hy, Sem.run_bind, Sem.run_pure, Result.andThen_ok, hr]
  exact h w' (H.newRow ⟨hg.os, hg.tape, hg.output, hg.size, fun g hl => hg.block g hl (by simp)⟩ ho')
/-- a list of lists that a call has handed back, and what lies beside it; a list that make has laid -/
def rVals (w0 : World) (n : Nat) (F : Value → List Value → List Part) : Value → World → Prop := fun v w => ∃ A c vs, v = .slice A n c ∧ vs.length = n ∧ Holds w0 w (F v vs)
theorem rVals_stable {w0 : World} {n : Nat} {F : Value → List Value → List Part} (v : Value) : Stable (rVals w0 n F v) := fun _ _ ⟨A, c, vs, e, hl, h⟩ hb => ⟨A, c, vs, e, hl, h.call hb⟩
theorem rVals_out {w0 : World} {n : Nat} {F : Value → List Value → List Part} {v : Value} {w : World} (h : rVals w0 n F v w) : ∃ vs, vs.length = n ∧ Holds w0 w (F v vs) := by
  obtain ⟨A, c, vs, _, hl, h⟩ := h
  exact ⟨vs, hl, h⟩
theorem rVals_elim {w0 : World} {n : Nat} {F : Value → List Value → List Part} {v : Value} {w : World} (h : rVals w0 n F v w) {Q : Prop} (k : ∀ vs, vs.length = n → Holds w0 w (F v vs) → Q) : Q := by
  obtain ⟨A, c, vs, _, hl, h⟩ := h
  exact k vs hl h
theorem rVals_form {w0 : World} {n : Nat} {F : Value → List Value → List Part} {v : Value} {w : World} (h : rVals w0 n F v w) : ∃ A c, v = .slice A n c := by
  obtain ⟨A, c, vs, e, _⟩ := h
  exact ⟨A, c, e⟩
def rMade (w0 : World) (n m : Nat) (F : Nat → List Value → List Part) : Value → World → Prop := fun u w => ∃ gt vs, u = .slice (some ⟨gt, 0, none⟩) m m ∧ vs.length = n ∧ Holds w0 w (F gt vs)
theorem rMade_form {w0 : World} {n m : Nat} {F : Nat → List Value → List Part} {v : Value} {w : World} (h : rMade w0 n m F v w) : ∃ gt, v = .slice (some ⟨gt, 0, none⟩) m m := by
  obtain ⟨A, vs, e, _⟩ := h
  exact ⟨A, e⟩
theorem rMade_elim {w0 : World} {n m gt : Nat} {F : Nat → List Value → List Part} {w : World} (h : rMade w0 n m F (.slice (some ⟨gt, 0, none⟩) m m) w) {Q : Prop} (k : ∀ vs, vs.length = n → Holds w0 w (F gt vs) → Q) : Q := by
  obtain ⟨A, vs, e, hl, h⟩ := h
  injection e with e
  injection e with e
  injection e with e
  subst e
  exact k vs hl h
theorem rMade_out {w0 : World} {n m gt : Nat} {F : Nat → List Value → List Part} {w : World} (h : rMade w0 n m F (.slice (some ⟨gt, 0, none⟩) m m) w) : ∃ vs, vs.length = n ∧ Holds w0 w (F gt vs) := by
  obtain ⟨A, vs, e, hl, h⟩ := h
  injection e with e
  injection e with e
  injection e with e
  subst e
  exact ⟨vs, hl, h⟩
theorem rMade_stable {w0 : World} {n m : Nat} {F : Nat → List Value → List Part} (v : Value) : Stable (rMade w0 n m F v) := fun _ _ ⟨A, vs, e, hl, h⟩ hb => ⟨A, vs, e, hl, h.call hb⟩
theorem upon_makeV {P : Program} {C : World → Prop} {R : Value → World → Prop} {o : Oper} {a : Act} {w0 w : World} {k : Nat} {F : Value → List Value → List Part} {v : Value} (H : rVals w0 k F v w) (t : TypeId) (x y : Operand) (ho : o.op = .makeSlice t x y) (e : TypeId) (i : TypeInfo) (z : Value) (bytes : Nat) (ht : P.underlying t = some (.slice e)) (hi : P.info? e = some i) (hz : i.zero = some z)
    (hsize : i.size = 1) (hby : i.bytes = bytes) (hzs : z.cells = #[z]) (n : Nat) (kx ky : IntKind) (hx : a.eval x = .int kx (n : Int)) (hy : a.eval y = .int ky (n : Int)) (hn : n ≤ 1000000) (hb : bytes ≤ 64)
    (h : ∀ vs w', vs.length = k → Holds w0 w' (pRow (.slice (some ⟨w.heap.size, 0, none⟩) n n) e 1 n (List.replicate n z) :: F v vs) → C w' ∧ R (.slice (some ⟨w.heap.size, 0, none⟩) n n) w') : uponI P C R w ((execOp a.eval o).run P w) := by
  obtain ⟨A, c, vs, _, hl, H⟩ := H
  exact upon_make H t x y ho e i z bytes ht hi hz hsize hby hzs n kx ky hx hy hn hb fun w' hw' => h vs w' hl hw'
end Rd

set_option maxRecDepth 100000 in
set_option maxHeartbeats 2000000 in
theorem sQuotientBy_any (n : Int) (f g : Nat → Nat) (hf : ∀ i, f i < 256) (hg : ∀ i, g i < 256) (p : Nat → Nat) (hp : ∀ i, p i < 256) (w : World) :
    Calls Try.prog 21 #[.agg (dv n f g), .agg (av p)] w fun e w' => ∃ v, e = .returned (.tuple #[.agg (quoA n f g p), v, .int .i64 (quoOk n f g p : Nat)]) ∧ Below w.heap.size w w' ∧ Own1 w.heap.size w' v (quoL n f g p) := by
  have C1 := hide fun w => sIs_any n f g hf hg w
  have C2 := hide fun w => sPerm_any p hp n w
  clear hf hg hp
  rcases h1 : desB n f g with _ | _
  · rw [h1] at C1
    have ha : quoOk n f g p = 1 := by unfold quoOk; rw [if_neg (by simp [h1])]
    have hb1 : quoA n f g p = dv 0 (fun _ => 0) (fun _ => 0) := by unfold quoA; rw [if_neg (by omega)]
    have hb2 : quoL n f g p = [] := by unfold quoL; rw [if_neg (by omega)]
    rw [ha, hb1, hb2]
    clear h1 ha hb1 hb2
    have HH0 := ((((Holds.start w).blk (dv n f g) 30 w.heap.size rfl).blk (av p) 28 (w.heap.size + 1) (by simp)).blk (dv 0 (fun _ => 0) (fun _ => 0)) 30 (w.heap.size + 1 + 1) (by simp))
    have hn := dv_n n f g
    go_enter Try.func21, Try.ntmps21
    go_wp2_with fail
    try rw [← dv_zero]
    refine (C1.out _).mono ?_
    rintro e w1 ⟨rfl, hb⟩
    have HH1 := HH0.call hb
    clear hb HH0
    have r1 := HH1.rowOk 0 rfl (dv_size _ _ _)
    have H2 := HH1.setRow 0 rfl (dv 0 (fun _ => 0) (fun _ => 0))
    go_wp2
    exact res_agg3 (p := 4) (t := 5) (s := 6) (g := (w.heap.size + 1 + 1)) (v := .slice none 0 0) (u := .int .i64 1) aggD (dv_size _ _ _) rfl rfl rfl rfl rfl (H2.at 0 rfl) ⟨_, rfl, H2.low, Own1.nil _ _⟩

  rw [h1] at C1
  rcases h2 : permB p n with _ | _
  · rw [h2] at C2
    have ha : quoOk n f g p = 1 := by unfold quoOk; rw [if_neg (by simp [h2])]
    have hb1 : quoA n f g p = dv 0 (fun _ => 0) (fun _ => 0) := by unfold quoA; rw [if_neg (by omega)]
    have hb2 : quoL n f g p = [] := by unfold quoL; rw [if_neg (by omega)]
    rw [ha, hb1, hb2]
    clear h1 h2 ha hb1 hb2
    have HH0 := ((((Holds.start w).blk (dv n f g) 30 w.heap.size rfl).blk (av p) 28 (w.heap.size + 1) (by simp)).blk (dv 0 (fun _ => 0) (fun _ => 0)) 30 (w.heap.size + 1 + 1) (by simp))
    have hn := dv_n n f g
    go_enter Try.func21, Try.ntmps21
    go_wp2_with fail
    try rw [← dv_zero]
    refine (C1.out _).mono ?_
    rintro e w1 ⟨rfl, hb⟩
    have HH1 := HH0.call hb
    clear hb HH0
    have c1 := HH1.cells 2 rfl
    have d1 := HH1.cells 1 rfl
    have r1 := HH1.rowOk 0 rfl (dv_size _ _ _)
    have n1 := HH1.cell 2 rfl hn
    go_wp2_with fail
    try rw [← dv_zero]
    refine (C2.out _).mono ?_
    rintro e w2 ⟨rfl, hb⟩
    have HH2 := HH1.call hb
    clear hb HH1
    have r2 := HH2.rowOk 0 rfl (dv_size _ _ _)
    clear c1 d1 r1 n1
    have H2 := HH2.setRow 0 rfl (dv 0 (fun _ => 0) (fun _ => 0))
    go_wp2
    exact res_agg3 (p := 4) (t := 5) (s := 6) (g := (w.heap.size + 1 + 1)) (v := .slice none 0 0) (u := .int .i64 1) aggD (dv_size _ _ _) rfl rfl rfl rfl rfl (H2.at 0 rfl) ⟨_, rfl, H2.low, Own1.nil _ _⟩

  rw [h2] at C2
  obtain ⟨m, rfl, hd⟩ := desB_true h1
  obtain ⟨m', e, hpm⟩ := permB_true h2
  obtain rfl : m = m' := by omega
  clear e
  have hm := hd.le
  have C3 := hide fun w => sRename_any f g p m hd.black hd.white hpm w
  have HH0 := ((((Holds.start w).blk (dv m f g) 30 w.heap.size rfl).blk (av p) 28 (w.heap.size + 1) (by simp)).blk (dv 0 (fun _ => 0) (fun _ => 0)) 30 (w.heap.size + 1 + 1) (by simp))
  have hn := dv_n m f g
  go_enter Try.func21, Try.ntmps21
  go_wp2_with fail
  try rw [← dv_zero]
  refine (C1.out _).mono ?_
  rintro e w1 ⟨rfl, hb⟩
  have HH1 := HH0.call hb
  clear hb HH0
  have c1 := HH1.cells 2 rfl
  have d1 := HH1.cells 1 rfl
  have r1 := HH1.rowOk 0 rfl (dv_size _ _ _)
  have n1 := HH1.cell 2 rfl hn
  go_wp2_with fail
  try rw [← dv_zero]
  refine (C2.out _).mono ?_
  rintro e w2 ⟨rfl, hb⟩
  have HH2 := HH1.call hb
  clear hb HH1
  have c2 := HH2.cells 2 rfl
  have d2 := HH2.cells 1 rfl
  have r2 := HH2.rowOk 0 rfl (dv_size _ _ _)
  have n2 := HH2.cell 2 rfl hn
  clear c1 d1 r1 n1
  have ha0 : quoOk m f g p = if eqDB m (renF p f m) (renF p g m) m f g = true then 0 else 5 := by unfold quoOk; rw [if_pos ⟨h1, h2⟩, Int.toNat_natCast]
  have HA0 := hide ha0; clear ha0 h1 h2
  go_wp2
  refine Rd.region_P (w0 := w) [pBlk (w.heap.size + 1 + 1) (dv 0 (fun _ => 0) (fun _ => 0)) 30, pBlk (w.heap.size + 1) (av p) 28, pBlk w.heap.size (dv m f g) 30] [pBlk (w.heap.size + 1 + 1) (dv 0 (fun _ => 0) (fun _ => 0)) 30, pBlk (w.heap.size + 1) (av p) 28, pBlk w.heap.size (dv m f g) 30] [] (.q 0 <| .q 1 <| .q 2 <| .q 3 <| .q 4 <| .q 5 .fin) HH2 (.refl _) (by kernel_rfl) (by kernel_rfl) (by kernel_rfl) ?_
  iterate 2
    apply Rd.v_q
    · simp only [List.getElem?_toArray, List.getElem?_cons_zero, List.getElem?_cons_succ]; exact rfl
    · rfl
    · go_simp
    · intro wx hx
      have q1 := hx.cells 2 rfl
      have q2 := hx.cells 1 rfl
      unfold atG
      go_simp
      simp only [uponG]
      exact ⟨by trivial, rfl⟩
  iterate 1
    apply Rd.v_q
    · simp only [List.getElem?_toArray, List.getElem?_cons_zero, List.getElem?_cons_succ]; exact rfl
    · rfl
    · go_simp
    · intro wx hx
      have q1 := hx.cells 2 rfl
      have q2 := hx.cells 1 rfl
      unfold atG
      go_simp
      simp only [uponG]
      exact ⟨by trivial, C3.out wx⟩
  iterate 3
    apply Rd.v_q
    · simp only [List.getElem?_toArray, List.getElem?_cons_zero, List.getElem?_cons_succ]; exact rfl
    · rfl
    · go_simp
    · intro wx hx
      have q1 := hx.cells 2 rfl
      have q2 := hx.cells 1 rfl
      unfold atG
      go_simp
      simp only [uponG]
      exact ⟨by trivial, rfl⟩
  rintro w3 - HH3
  clear HH2 c2 d2 r2 n2
  rcases hq : eqDB m (renF p f m) (renF p g m) m f g with _ | _
  · have ha : quoOk m f g p = 5 := by rw [HA0.out, if_neg (by simp [hq])]
    have hb1 : quoA m f g p = dv 0 (fun _ => 0) (fun _ => 0) := by unfold quoA; rw [if_neg (by omega)]
    have hb2 : quoL m f g p = [] := by unfold quoL; rw [if_neg (by omega)]
    have HANS := hide (And.intro ha (And.intro hb1 hb2)); clear ha hb1 hb2
    clear hd hpm HA0 hm
    have r3 := HH3.rowOk 0 rfl (dv_size _ _ _)
    go_simp
    have H2 := HH3.setRow 0 rfl (dv 0 (fun _ => 0) (fun _ => 0))
    go_wp2
    exact res_agg3 (p := 4) (t := 5) (s := 6) (g := (w.heap.size + 1 + 1)) (v := .slice none 0 0) (u := .int .i64 5) aggD (dv_size _ _ _) rfl rfl rfl rfl rfl (H2.at 0 rfl) ⟨_, by rw [HANS.out.1, HANS.out.2.1]; rfl, H2.low, by rw [HANS.out.2.2]; exact Own1.nil _ _⟩
  have ha : quoOk m f g p = 0 := by rw [HA0.out, if_pos hq]
  have hb1 : quoA m f g p = dv (cycs p m).length (quoF p m f) (quoF p m g) := by unfold quoA; rw [if_pos ha, Int.toNat_natCast]
  have hb2 : quoL m f g p = wl (whichF p m) m := by unfold quoL; rw [if_pos ha, Int.toNat_natCast]; rfl
  have hqf : ∀ f, quoF p m f = upto (fun k => whichF p m (f (((cycs p m).getD k []).getD 0 0))) (cycs p m).length := fun f => rfl
  have hwt : whichF p m = numT (cycs p m) (cycs p m).length := rfl
  have hle := cycs_le hpm
  have hbd := hide fun (x : Nat) (c : List Nat) (h1 : c ∈ cycs p m) (h2 : x ∈ c) => cyc_lt hpm h1 h2
  have hcl := hide fun (c : List Nat) (h1 : c ∈ cycs p m) => lens_pos hpm.2.2.1 hpm.2.1 (List.mem_map.2 ⟨c, h1, rfl⟩)
  have hwlt := hide fun (x : Nat) (hx : x < m) => which_lt hpm hx
  have LF := hide hd.bf.1
  have LG := hide hd.bg.1
  have C4 := hide fun w => sCycles_any p m hpm w
  rw [hqf, hqf] at hb1
  have HANS := hide (And.intro ha (And.intro hb1 hb2)); clear ha hb1 hb2 hqf
  have HWT := hide hwt; clear hwt hq HA0 C3 hd hpm
  generalize whichF p m = h at *
  generalize cycs p m = cs at *
  obtain ⟨i0, hi, hz0, hz1, hz2⟩ := info_parts info64
  have I0 := hide (And.intro hi (And.intro hz0 (And.intro hz1 hz2))); clear hi hz0 hz1 hz2
  go_simp
  go_wp2
  refine Rd.region_P (w0 := w) [pBlk (w.heap.size + 1 + 1) (dv 0 (fun _ => 0) (fun _ => 0)) 30, pBlk (w.heap.size + 1) (av p) 28, pBlk w.heap.size (dv m f g) 30] [pBlk (w.heap.size + 1 + 1) (dv 0 (fun _ => 0) (fun _ => 0)) 30, pBlk (w.heap.size + 1) (av p) 28, pBlk w.heap.size (dv m f g) 30] [3, 6] (.q 0 <| .q 1 <| .q 2 <| .q 4 <| .q 5 <| .s2 3 (.q 7 <| .s1 6 <| .q 8 .fin) 6 (.s1 3 <| .q 7 <| .q 8 .fin)) HH3 (.refl _) (by kernel_rfl) (by kernel_rfl) (by kernel_rfl) ?_
  iterate 5
    apply Rd.v_q
    · simp only [List.getElem?_toArray, List.getElem?_cons_zero, List.getElem?_cons_succ]; exact rfl
    · rfl
    · go_simp
    · intro wx hx
      have q1 := hx.cells 2 rfl
      have q2 := hx.cells 1 rfl
      have q3 := hx.cell 2 rfl hn
      unfold atG
      go_simp
      simp only [uponG]
      exact ⟨by trivial, rfl⟩
  refine ⟨?_, ?_⟩
  refine Rd.v_sI (Rd.rVals w cs.length fun v vs => pBlk (w.heap.size + 1 + 1) (dv 0 (fun _ => 0) (fun _ => 0)) 30 :: pBlk (w.heap.size + 1) (av p) 28 :: pBlk w.heap.size (dv m f g) 30 :: pVals v vs :: rowsP vs cs) Rd.rVals_stable (by simp only [List.getElem?_toArray, List.getElem?_cons_zero, List.getElem?_cons_succ]; exact rfl) rfl (by go_simp) (fun wx hx hD => ?_) ?_
  · go_simp
    simp only [Rd.uponI_eq, Rd.uponE]
    refine ⟨by trivial, (C4.out wx).mono ?_⟩
    rintro e wy ⟨v, rfl, hb, ho⟩
    obtain ⟨A, c, vs, rfl, hv⟩ := own2_form ho
    have hj := hx.joinL (Holds.ofOwn2 hb hv)
    exact ⟨_, rfl, hx.call hb, A, c, vs, rfl, hv.len, hj⟩
  rintro v ⟨_, _, hv⟩
  obtain ⟨A, c, rfl⟩ := Rd.rVals_form hv
  clear hv
  iterate 1
    apply Rd.v_q
    · simp only [List.getElem?_toArray, List.getElem?_cons_zero, List.getElem?_cons_succ]; exact rfl
    · rfl
    · go_simp
    · intro wx hx
      unfold atG
      go_simp
      simp only [uponG]
      exact ⟨by trivial, rfl⟩
  refine Rd.v_sI (Rd.rMade w cs.length m fun gt vs => (pRow (.slice (some ⟨gt, 0, none⟩) m m) 2 1 m (nums (wl (fun _ => 0) m)) :: pBlk (w.heap.size + 1 + 1) (dv 0 (fun _ => 0) (fun _ => 0)) 30 :: pBlk (w.heap.size + 1) (av p) 28 :: pBlk w.heap.size (dv m f g) 30 :: pVals (.slice A cs.length c) vs :: rowsP vs cs)) Rd.rMade_stable (by simp only [List.getElem?_toArray, List.getElem?_cons_zero, List.getElem?_cons_succ]; exact rfl) rfl (by go_simp) (fun wx hx hD => ?_) ?_
  · apply Rd.upon_makeV hD (t := 35) (e := 2) (i := i0) (z := .int .i64 0) (bytes := 8) (n := m) (kx := .i64) (ky := .i64)
    case ho => exact rfl
    case ht => exact Try.underlying35
    case hi => exact I0.out.1
    case hz => exact I0.out.2.1
    case hsize => exact I0.out.2.2.1
    case hby => exact I0.out.2.2.2
    case hzs => exact rfl
    case hx => go_simp
    case hy => go_simp
    case hn => omega
    case hb => decide
    intro vs w' hl hw'
    rw [wl_zero] at hw'
    refine ⟨hw'.sub ?_, wx.heap.size, vs, rfl, hl, hw'⟩
    exact .cons _ (.cons_cons _ (.cons_cons _ (.cons_cons _ (List.nil_sublist _))))
  rintro u ⟨_, _, hv⟩
  obtain ⟨gt, rfl⟩ := Rd.rMade_form hv
  clear hv
  iterate 1
    apply Rd.v_q
    · simp only [List.getElem?_toArray, List.getElem?_cons_zero, List.getElem?_cons_succ]; exact rfl
    · rfl
    · go_simp
    · intro wx hx
      unfold atG
      go_simp
      simp only [uponG]
      exact ⟨by trivial, rfl⟩
  rintro w4 - hv
  obtain ⟨vs, HLV, HH4⟩ := Rd.rMade_out hv
  clear hv
  rotate_left
  refine Rd.v_sI (Rd.rMade w 0 m fun gt _ => (pRow (.slice (some ⟨gt, 0, none⟩) m m) 2 1 m (nums (wl (fun _ => 0) m)) :: pBlk (w.heap.size + 1 + 1) (dv 0 (fun _ => 0) (fun _ => 0)) 30 :: pBlk (w.heap.size + 1) (av p) 28 :: pBlk w.heap.size (dv m f g) 30 :: [])) Rd.rMade_stable (by simp only [List.getElem?_toArray, List.getElem?_cons_zero, List.getElem?_cons_succ]; exact rfl) rfl (by go_simp) (fun wx hx hD => ?_) ?_
  · apply Rd.upon_make hD (t := 35) (e := 2) (i := i0) (z := .int .i64 0) (bytes := 8) (n := m) (kx := .i64) (ky := .i64)
    case ho => exact rfl
    case ht => exact Try.underlying35
    case hi => exact I0.out.1
    case hz => exact I0.out.2.1
    case hsize => exact I0.out.2.2.1
    case hby => exact I0.out.2.2.2
    case hzs => exact rfl
    case hx => go_simp
    case hy => go_simp
    case hn => omega
    case hb => decide
    intro w' hw'
    rw [wl_zero] at hw'
    exact ⟨hw'.tail, wx.heap.size, [], rfl, rfl, hw'⟩
  rintro u ⟨_, _, hv⟩
  obtain ⟨gt, rfl⟩ := Rd.rMade_form hv
  clear hv
  refine Rd.v_sI (Rd.rVals w cs.length fun v vs => (pRow (.slice (some ⟨gt, 0, none⟩) m m) 2 1 m (nums (wl (fun _ => 0) m)) :: pBlk (w.heap.size + 1 + 1) (dv 0 (fun _ => 0) (fun _ => 0)) 30 :: pBlk (w.heap.size + 1) (av p) 28 :: pBlk w.heap.size (dv m f g) 30 :: pVals v vs :: rowsP vs cs)) Rd.rVals_stable (by simp only [List.getElem?_toArray, List.getElem?_cons_zero, List.getElem?_cons_succ]; exact rfl) rfl (by go_simp) (fun wx hx hD => ?_) ?_
  · go_simp
    simp only [Rd.uponI_eq, Rd.uponE]
    refine Rd.rMade_elim hD fun _ _ hD => ?_
    refine ⟨by trivial, (C4.out wx).mono ?_⟩
    rintro e wy ⟨v, rfl, hb, ho⟩
    obtain ⟨A, c, vs, rfl, hv⟩ := own2_form ho
    have hj := hD.joinL (Holds.ofOwn2 hb hv)
    exact ⟨_, rfl, hx.call hb, A, c, vs, rfl, hv.len, hj⟩
  rintro v ⟨_, _, hv⟩
  obtain ⟨A, c, rfl⟩ := Rd.rVals_form hv
  clear hv
  iterate 2
    apply Rd.v_q
    · simp only [List.getElem?_toArray, List.getElem?_cons_zero, List.getElem?_cons_succ]; exact rfl
    · rfl
    · go_simp
    · intro wx hx
      unfold atG
      go_simp
      simp only [uponG]
      exact ⟨by trivial, rfl⟩
  rintro w4 - hv
  obtain ⟨vs, HLV, HH4⟩ := Rd.rVals_out hv
  clear hv
  all_goals
    replace HLV := hide HLV
    clear HH3
    go_wp2
    go_loopw [9] (fun t wr => ∃ i : Nat, i ≤ cs.length ∧ t = .int .i64 i ∧ Holds w wr (pRow (.slice (some ⟨gt, 0, none⟩) m m) 2 1 m (nums (wl (numT cs i) m)) :: pBlk (w.heap.size + 1 + 1) (dv 0 (fun _ => 0) (fun _ => 0)) 30 :: pBlk (w.heap.size + 1) (av p) 28 :: pBlk w.heap.size (dv m f g) 30 :: pVals (.slice A cs.length c) vs :: rowsP vs cs)) (fun t _ => cs.length - (intOf t).toNat)
    case atStart => exact ⟨0, by omega, rfl, HH4⟩
    case round =>
      clear HH4
      obtain ⟨i, hi, rfl, hH⟩ := hrel
      by_cases hil : i < cs.length
      · have hil' : (i : Int) < cs.length := by omega
        obtain ⟨g0, c0, A', c', e0, hvi, x1, hpart⟩ := hH.rowAt HLV.out 4 rfl (fun _ => rfl) hil
        injection e0 with e0 e0a e0b
        subst e0
        clear e0a e0b
        have HX := hide hvi; clear hvi
        have hs : numT cs (i + 1) = numA cs[i] i cs[i].length (numT cs i) := by
          show numA (cs.getD i []) i (cs.getD i []).length (numT cs i) = _
          rw [List.getD_eq_getElem?_getD, List.getElem?_eq_getElem hil]; rfl
        have hmem := List.getElem_mem hil
        have hbi := fun x hx => hbd.out x _ hmem hx
        have hcil := (hcl.out _ hmem).2
        generalize numT cs i = h0 at *
        generalize cs[i] = ci at *
        have HS := hide hs; clear hs
        have HBI := hide hbi; clear hbi hmem
        have hpt : ∀ h : Nat → Nat, (pRow (.slice (some ⟨gt, 0, none⟩) m m) 2 1 m (nums (wl h m)) :: pBlk (w.heap.size + 1 + 1) (dv 0 (fun _ => 0) (fun _ => 0)) 30 :: pBlk (w.heap.size + 1) (av p) 28 :: pBlk w.heap.size (dv m f g) 30 :: pVals (.slice (some ⟨g0, 0, none⟩) cs.length c) vs :: rowsP vs cs)[i + (4 + 1)]? = some (pInts (.slice A' ci.length c') ci) := fun h => hpart
        have HPT := hide hpt; clear hpt hpart
        go_wp2
        clear x1
        go_loopw [10] (fun t wr => ∃ j : Nat, j ≤ ci.length ∧ t = .int .i64 j ∧ Holds w wr (pRow (.slice (some ⟨gt, 0, none⟩) m m) 2 1 m (nums (wl (numA ci i j h0) m)) :: pBlk (w.heap.size + 1 + 1) (dv 0 (fun _ => 0) (fun _ => 0)) 30 :: pBlk (w.heap.size + 1) (av p) 28 :: pBlk w.heap.size (dv m f g) 30 :: pVals (.slice (some ⟨g0, 0, none⟩) cs.length c) vs :: rowsP vs cs)) (fun t _ => ci.length - (intOf t).toNat)
        case atStart => exact ⟨0, by omega, rfl, hH⟩
        case round =>
          clear hH
          obtain ⟨j, hj, rfl, hH⟩ := hrel
          have hpart := HPT.out (numA ci i j h0)
          have x1 := hH.cellV 4 rfl HLV.out HX.out
          by_cases hjl : j < ci.length
          · obtain ⟨g2, c2, e2, _, y1, _⟩ := hH.ints (i + 5) hpart hjl
            injection e2 with e2 e2a e2b
            subst e2
            clear e2a e2b
            have hst : numA ci i (j + 1) h0 = fset (numA ci i j h0) (ci.getD j 0) i := rfl
            have hgd : ci.getD j 0 = ci[j] := by rw [List.getD_eq_getElem?_getD, List.getElem?_eq_getElem hjl]; rfl
            rw [hgd] at hst
            have hx := HBI.out _ (List.getElem_mem hjl)
            generalize ci[j] = x at *
            have hx16 : (x : Int) < m := by omega
            have HST := hide hst; clear hst hgd
            have z0 : wr.cell? ⟨gt, x, none⟩ = some (.int .i64 (numA ci i j h0 x : Nat)) := hH.cellR 0 rfl (wl_at _ hx)
            have z1 := hH.frozenR 0 rfl (by omega) x
            have hP := hH.put 0 rfl x (.int .i64 (i : Nat))
            rw [wl_set, ← HST.out] at hP
            go_wp2
            go_roundw
            case rel => exact ⟨j + 1, by omega, by go_num, hP⟩
            case measure => simp [intOf]; omega
          · obtain rfl : j = ci.length := by omega
            clear hj hjl hpart
            go_wp2
            go_roundw
            case rel => exact ⟨i + 1, by omega, by go_num, by rw [HS.out]; exact hH⟩
            case measure => simp [intOf]; omega
      · obtain rfl : i = cs.length := by omega
        rw [← HWT.out] at hH
        clear hi hil
        have hHd := hH.blk (dv cs.length (fun _ => 0) (fun _ => 0)) 30 wr.heap.size rfl
        have hz := dv_lit ((cs.length : Nat) : Int)
        have HZ := hide hz; clear hz
        have ho := (ones_dv ((cs.length : Nat) : Int) (fun _ => 0) (fun _ => 0)).2 trivial
        rw [HZ.out] at ho
        go_wp2
        try rw [← HZ.out]
        clear hH ho
        generalize wr.alloc (.cells (dv cs.length (fun _ => 0) (fun _ => 0)) 30) = wd at *
        generalize wr.heap.size = G at *
        go_loopw [12] (fun t wr => ∃ k : Nat, k ≤ cs.length ∧ t = .int .i64 k ∧ Holds w wr (pBlk G (dv cs.length (upto (fun k => h (f ((cs.getD k []).getD 0 0))) k) (upto (fun k => h (g ((cs.getD k []).getD 0 0))) k)) 30 :: pRow (.slice (some ⟨gt, 0, none⟩) m m) 2 1 m (nums (wl h m)) :: pBlk (w.heap.size + 1 + 1) (dv 0 (fun _ => 0) (fun _ => 0)) 30 :: pBlk (w.heap.size + 1) (av p) 28 :: pBlk w.heap.size (dv m f g) 30 :: pVals (.slice A cs.length c) vs :: rowsP vs cs)) (fun t _ => cs.length - (intOf t).toNat)
        case atStart => exact ⟨0, by omega, rfl, by rw [upto_zero, upto_zero]; exact hHd⟩
        case round =>
          clear hHd
          obtain ⟨k, hk, rfl, hH⟩ := hrel
          by_cases hkl : k < cs.length
          · have hkl' : (k : Int) < cs.length := by omega
            have hk16 : k < 16 := by omega
            obtain ⟨g0, c0, A', c', e0, hvi, x1, hpart⟩ := hH.rowAt HLV.out 5 rfl (fun _ => rfl) hkl
            injection e0 with e0 e0a e0b
            subst e0
            clear e0a e0b
            have hmem := List.getElem_mem hkl
            have hc0 := (hcl.out _ hmem).1
            have hbi := fun x hx => hbd.out x _ hmem hx
            obtain ⟨g2, c2, e2, _, y1, _⟩ := hH.ints (k + 6) hpart (k := 0) (by omega)
            have hx := hbi _ (List.getElem_mem (show 0 < (cs[k]).length by omega))
            have h9 : cs.getD k [] = cs[k] := by rw [List.getD_eq_getElem?_getD, List.getElem?_eq_getElem hkl]; rfl
            have hgz : (cs.getD k []).getD 0 0 = (cs[k])[0] := by rw [h9, List.getD_eq_getElem?_getD, List.getElem?_eq_getElem (by omega)]; rfl
            obtain ⟨z, hz⟩ : ∃ z, z = (cs[k])[0] := ⟨_, rfl⟩
            rw [← hz] at hgz y1 hx
            have tf := upto_step (fun k => h (f ((cs.getD k []).getD 0 0))) k
            have tg := upto_step (fun k => h (g ((cs.getD k []).getD 0 0))) k
            rw [hgz] at tf tg
            generalize hu1 : upto (fun k => h (f ((cs.getD k []).getD 0 0))) (k + 1) = uf1 at *
            generalize hu2 : upto (fun k => h (g ((cs.getD k []).getD 0 0))) (k + 1) = ug1 at *
            have HU := hide (And.intro hu1 hu2); clear hu1 hu2
            generalize upto (fun k => h (f ((cs.getD k []).getD 0 0))) k = uf at *
            generalize upto (fun k => h (g ((cs.getD k []).getD 0 0))) k = ug at *
            clear hgz hbi hmem hz h9
            generalize hci : cs[k] = ci at *
            clear hci
            injection e2 with e2 e2a e2b
            subst e2
            clear e2a e2b
            have hfz := LF.out z hx
            have hgz := LG.out z hx
            have hv1 := hwlt.out _ hfz
            have hv2 := hwlt.out _ hgz
            have z1 : wr.cell? ⟨w.heap.size, 1 + z, none⟩ = some (.int .u8 (f z)) := hH.cell 4 rfl (dv_b _ _ _ (by omega))
            have t1 : wr.cell? ⟨gt, f z, none⟩ = some (.int .i64 (h (f z) : Nat)) := hH.cellR 1 rfl (wl_at _ hfz)
            have u1 := hH.cell 0 rfl (dv_b (cs.length : Int) uf ug hk16)
            have u2 := hH.frozen 0 rfl (1 + k)
            have hP := hH.set 0 rfl (1 + k) (.int .u8 (h (f z) : Nat))
            have hQ := hP.set 0 rfl (17 + k) (.int .u8 (h (g z) : Nat))
            have u3 := hP.cell 0 rfl (j := 17 + k) (v := .int .u8 (ug k)) (by rw [dv_setb _ _ _ _ hk16]; exact dv_w _ _ _ hk16)
            have u4 := hP.frozen 0 rfl (17 + k)
            have x2 : (wr.setCell ⟨G, 1 + k, none⟩ (.int .u8 (h (f z) : Nat))).cell? ⟨g0, k, none⟩ = some (.slice (some ⟨g2, 0, none⟩) ci.length c') := hP.cellV 5 rfl HLV.out hvi
            have y2 : (wr.setCell ⟨G, 1 + k, none⟩ (.int .u8 (h (f z) : Nat))).cell? ⟨g2, 0, none⟩ = some (.int .i64 (z : Nat)) := by
              rw [cell_of_cells, cellsOf_setCell_ne, ← cell_of_cells]
              · exact y1
              · rintro rfl
                exact hH.apart (i := k + 6) (j := 0) (by omega) hpart rfl (g := g2) rfl rfl
            have z2 : (wr.setCell ⟨G, 1 + k, none⟩ (.int .u8 (h (f z) : Nat))).cell? ⟨w.heap.size, 17 + z, none⟩ = some (.int .u8 (g z)) := hP.cell 4 rfl (dv_w _ _ _ (by omega))
            have t2 : (wr.setCell ⟨G, 1 + k, none⟩ (.int .u8 (h (f z) : Nat))).cell? ⟨gt, g z, none⟩ = some (.int .i64 (h (g z) : Nat)) := hP.cellR 1 rfl (wl_at _ hgz)
            rw [dv_setb _ _ _ _ hk16, dv_setw _ _ _ _ hk16, tf, tg] at hQ
            have HQ := hide hQ
            clear hP hH tf tg hQ hpart hvi
            generalize h (f z) = v1 at *
            generalize h (g z) = v2 at *
            have a1 : (v1 : Int) < 256 := by omega
            have a2 : (v2 : Int) < 256 := by omega
            have a3 : (k : Int) < 16 := by omega
            have a4 : (z : Int) < 16 := by omega
            have a5 : ((f z : Nat) : Int) < m := by omega
            have a6 : ((g z : Nat) : Int) < m := by omega
            go_wp2
            go_roundw
            case rel => exact ⟨k + 1, by omega, by go_num, by rw [HU.out.1, HU.out.2]; exact HQ.out⟩
            case measure => simp [intOf]; omega
          · obtain rfl : k = cs.length := by omega
            rw [← HANS.out.2.1] at hH
            have cc := hH.cells 0 rfl
            have rr := hH.rowOk 2 rfl (dv_size _ _ _)
            have hQs : (quoA m f g p).size = 33 ∧ (quoA m f g p).all (·.oneCell') = true := by
              rw [HANS.out.2.1]
              exact ⟨dv_size _ _ _, dv_cells _ _ _⟩
            have i33 : Is33 (quoA m f g p) := hQs.1
            have ones : Ones (quoA m f g p) := hQs.2
            have HQS := hide hQs; clear hQs hk hkl
            have H7 := hH.setRow 2 rfl (quoA m f g p)
            generalize hQ : quoA m f g p = Q at *
            go_wp2
            refine res_agg3 (p := 4) (t := 5) (s := 6) (g := (w.heap.size + 1 + 1)) (v := .slice (some ⟨gt, 0, none⟩) m m) (u := .int .i64 0) aggD HQS.out.1 rfl rfl rfl rfl rfl (H7.at 2 rfl) ⟨_, by rw [HANS.out.1]; rfl, H7.low, ?_⟩
            rw [HANS.out.2.2]
            have h8 := H7.row 1 rfl
            unfold Own1
            rw [wl_length]
            exact h8
end Go.Proofs.Ytgomfphdgekniaa

namespace Go.Proofs.Ytgomfphdgekniaa
open Go.RowKit
open Go.ChangeMaps Go.MapKept
open Go.Maps (Keyed)

open Classical in
/-- what entries give for a key -/
noncomputable def mlook (es : List MapEntry) (k : Value) : Option Value := (es.find? fun e => decide (e.key = k)).map (·.val)
/-- a value that can be a key -/
def IsK (P : Program) (kt : TypeId) (v : Value) : Prop := ∃ l, keyOf P kt v = some l
/-- a map of the call's own -/
structure MapOk (P : Program) (kt : TypeId) (es : List MapEntry) (clock : Nat) (M : Value → Option Value) : Prop where
  keys : ∀ e ∈ es, IsK P kt e.key
  nodup : (es.map (·.key)).Nodup
  born : ∀ e ∈ es, e.born < clock
  births : (es.map (·.born)).Nodup
  look : ∀ k, mlook es k = M k
def pMap (P : Program) (kt : TypeId) (g : Nat) (M : Value → Option Value) : Part where
  own k := k = g
  ok w := ∃ es clock, w.heap[g]? = some (.map es clock) ∧ MapOk P kt es.toList clock M
  keep _ _ := fun ⟨es, clock, h, r⟩ k => ⟨es, clock, (k g rfl).trans h, r⟩
  lt _ _ := fun ⟨_, _, h, _⟩ k => by subst k; exact lt_of_some h
open Classical in
noncomputable def mput (M : Value → Option Value) (k v : Value) : Value → Option Value := fun x => if x = k then some v else M x
theorem mput_same (M : Value → Option Value) (k v : Value) : mput M k v k = some v := by simp [mput]
theorem mput_ne (M : Value → Option Value) {k x : Value} (v : Value) (h : x ≠ k) : mput M k v x = M x := by simp [mput, h]

theorem mlook_nil (k : Value) : mlook [] k = none := rfl
theorem Holds.newMap {w0 w : World} {L : List Part} (h : Holds w0 w L) (P : Program) (kt : TypeId) (g : Nat) (hg : g = w.heap.size) : Holds w0 (w.alloc (.map #[] 0)) (pMap P kt g (fun _ => none) :: L) :=
  h.new (below1 w _) _ ⟨#[], 0, heap_at _ _ _ hg, ⟨by simp, by simp, by simp, by simp, fun k => rfl⟩⟩ fun k hk => by cases hk; omega

section
variable {P : Program} {kt : TypeId}
open Classical in
theorem mlook_at {es : List MapEntry} (hn : (es.map (·.key)).Nodup) {j : Nat} {e : MapEntry} (hj : es[j]? = some e) : mlook es e.key = some e.val := by
  unfold mlook
  have hmem := List.mem_of_getElem? hj
  rcases hf : es.find? (fun x => decide (x.key = e.key)) with _ | x
  · have := List.find?_eq_none.1 hf e hmem
    simp at this
  · have hk : x.key = e.key := by simpa using List.find?_some hf
    have hm := List.mem_of_find?_eq_some hf
    obtain ⟨i, hi⟩ := List.getElem?_of_mem hm
    have e1 : (es.map (·.key))[i]? = some x.key := by simp [hi]
    have e2 : (es.map (·.key))[j]? = some e.key := by simp [hj]
    obtain ⟨hi', e1'⟩ := List.getElem?_eq_some_iff.1 e1
    obtain ⟨hj', e2'⟩ := List.getElem?_eq_some_iff.1 e2
    have : i = j := by
      rcases Nat.lt_trichotomy i j with c | c | c
      · exact absurd (by rw [e1', e2', hk]) (List.pairwise_iff_getElem.1 hn i j hi' hj' c)
      · exact c
      · exact absurd (by rw [e1', e2', hk]) (List.pairwise_iff_getElem.1 hn j i hj' hi' c)
    subst this
    rw [hi] at hj
    cases hj
    simp only [hf, Option.map_some]
open Classical in
theorem mlook_none {es : List MapEntry} {k : Value} (h : ∀ e ∈ es, e.key ≠ k) : mlook es k = none := by
  unfold mlook
  rw [List.find?_eq_none.2 (by simpa using h)]
  rfl
/-- what the search for a key gives -/
theorem find_of (K : Keyed P kt) {es : Array MapEntry} {clock : Nat} {M : Value → Option Value} (h : MapOk P kt es.toList clock M) {k : Value} (hk : IsK P kt k) (w : World) :
    (M k = none ∧ (Instr.findKey kt k es.toList).run P w = .ok none w ∧ ∀ e ∈ es.toList, e.key ≠ k) ∨ ∃ j e, M k = some e.val ∧ (Instr.findKey kt k es.toList).run P w = .ok (some (j, e.val)) w ∧ es.toList[j]? = some e ∧ e.key = k := by
  obtain ⟨l, hl⟩ := hk
  rcases K.find w hl es.toList h.keys with ⟨h1, h2⟩ | ⟨j, e, h1, h2, h3⟩
  · exact .inl ⟨by rw [← h.look]; exact mlook_none h2, h1, h2⟩
  · refine .inr ⟨j, e, ?_, h1, h2, h3⟩
    rw [← h.look, ← h3]
    exact mlook_at h.nodup h2
/-- 'm[k]', 'v, ok := m[k]' -/
theorem run_mlook (K : Keyed P kt) {t et : TypeId} (ht : P.underlying t = some (.map kt et)) {z : Value} (hz : ∀ w, (zeroValue et).run P w = .ok z w) {w : World} {g : Nat} {M : Value → Option Value} (h : (pMap P kt g M).ok w) {k : Value} (hk : IsK P kt k) (c : Bool) :
    (Instr.lookup t (.map (some g)) k c).run P w = .ok (if c then .tuple #[(M k).getD z, .bool (M k).isSome] else (M k).getD z) w := by
  obtain ⟨es, clock, hg, hm⟩ := h
  obtain ⟨l, hl⟩ := id hk
  have hc := K.check w es.isEmpty hl
  have hgo : (getObj g).run P w = .ok (.map es clock) w := by simp [getObj, Sem.run, hg]
  rcases find_of K hm hk w with ⟨h1, h2, _⟩ | ⟨j, e, h1, h2, _, _⟩
  · cases c <;> simp [Instr.lookup, run_underlying ht, hgo, hc, h2, hz, h1]
  · cases c <;> simp [Instr.lookup, run_underlying ht, hgo, hc, h2, h1]
open Classical in
theorem mlook_push {es : List MapEntry} {e : MapEntry} (h : ∀ x ∈ es, x.key ≠ e.key) (k : Value) : mlook (es ++ [e]) k = mput (mlook es) e.key e.val k := by
  unfold mput
  by_cases c : k = e.key
  · subst c
    rw [if_pos rfl]
    unfold mlook
    rw [List.find?_append, List.find?_eq_none.2 (by simpa using h)]
    simp
  · rw [if_neg c]
    unfold mlook
    have e0 : [e].find? (fun x => decide (x.key = k)) = none := by simp [Ne.symm c]
    rw [List.find?_append, e0, Option.or_none]
open Classical in
theorem mlook_modify {es : List MapEntry} (hn : (es.map (·.key)).Nodup) {j : Nat} {e : MapEntry} (hj : es[j]? = some e) (e' : MapEntry) (he : e'.key = e.key) (k : Value) : mlook (es.set j e') k = mput (mlook es) e.key e'.val k := by
  have hn' : ((es.set j e').map (·.key)).Nodup := by
    have : (es.set j e').map (·.key) = es.map (·.key) := by
      rw [List.map_set, he]
      apply List.ext_getElem?
      intro i
      rw [List.getElem?_set]
      split
      · rename_i c; subst c
        obtain ⟨hl, rfl⟩ := List.getElem?_eq_some_iff.1 hj
        simp [hl]
      · rfl
    rw [this]; exact hn
  have hl : j < es.length := (List.getElem?_eq_some_iff.1 hj).1
  unfold mput
  by_cases c : k = e.key
  · rw [if_pos c, c, ← he]
    exact mlook_at (j := j) hn' (by simp [hl])
  · rw [if_neg c]
    rcases hf : es.find? (fun x => decide (x.key = k)) with _ | x
    · have h1 : mlook es k = none := by unfold mlook; rw [hf]; rfl
      rw [h1]
      refine mlook_none fun y hy => ?_
      rcases List.mem_or_eq_of_mem_set hy with hy | rfl
      · simpa using List.find?_eq_none.1 hf y hy
      · rw [he]; exact Ne.symm c
    · have hk : x.key = k := by simpa using List.find?_some hf
      obtain ⟨i, hi⟩ := List.getElem?_of_mem (List.mem_of_find?_eq_some hf)
      have hij : i ≠ j := fun e1 => by subst e1; rw [hi] at hj; cases hj; exact c hk.symm
      rw [← hk, mlook_at hn hi]
      exact mlook_at (j := i) hn' (by rw [List.getElem?_set, if_neg (Ne.symm hij)]; exact hi)
theorem MapOk.push {es : List MapEntry} {clock : Nat} {M : Value → Option Value} (h : MapOk P kt es clock M) {k : Value} (hk : IsK P kt k) (hn : ∀ e ∈ es, e.key ≠ k) (v : Value) : MapOk P kt (es ++ [{ key := k, val := v, born := clock }]) (clock + 1) (mput M k v) where
  keys e he := by
    rcases List.mem_append.1 he with c | c
    · exact h.keys e c
    · rw [List.mem_singleton.1 c]; exact hk
  nodup := by
    rw [List.map_append, List.nodup_append]
    exact ⟨h.nodup, by simp, fun a ha b hb e => by simp at hb; subst hb; subst e; obtain ⟨x, hx, he⟩ := List.mem_map.1 ha; exact hn x hx he⟩
  born e he := by
    rcases List.mem_append.1 he with c | c
    · have := h.born e c; omega
    · rw [List.mem_singleton.1 c]; exact Nat.lt_succ_self _
  births := by
    rw [List.map_append, List.nodup_append]
    exact ⟨h.births, by simp, fun a ha b hb e => by simp at hb; subst hb; subst e; obtain ⟨x, hx, he⟩ := List.mem_map.1 ha; have := h.born x hx; omega⟩
  look x := by
    rw [mlook_push hn]
    unfold mput
    split
    · rfl
    · exact h.look x
theorem map_set_same {α : Type} (f : MapEntry → α) {es : List MapEntry} {j : Nat} {e e' : MapEntry} (hj : es[j]? = some e) (he : f e' = f e) : (es.set j e').map f = es.map f := by
  rw [List.map_set, he]
  apply List.ext_getElem?
  intro i
  rw [List.getElem?_set]
  split
  · rename_i c; subst c
    obtain ⟨hl, rfl⟩ := List.getElem?_eq_some_iff.1 hj
    simp [hl]
  · rfl
theorem MapOk.set {es : List MapEntry} {clock : Nat} {M : Value → Option Value} (h : MapOk P kt es clock M) {j : Nat} {e : MapEntry} (hj : es[j]? = some e) (v : Value) : MapOk P kt (es.set j { e with val := v }) clock (mput M e.key v) where
  keys x hx := by
    rcases List.mem_or_eq_of_mem_set hx with c | rfl
    · exact h.keys x c
    · exact h.keys e (List.mem_of_getElem? hj)
  nodup := by rw [map_set_same (e' := { e with val := v }) (·.key) hj rfl]; exact h.nodup
  born x hx := by
    rcases List.mem_or_eq_of_mem_set hx with c | rfl
    · exact h.born x c
    · exact h.born e (List.mem_of_getElem? hj)
  births := by rw [map_set_same (e' := { e with val := v }) (·.born) hj rfl]; exact h.births
  look x := by
    rw [mlook_modify h.nodup hj { e with val := v } rfl]
    unfold mput
    split
    · rfl
    · exact h.look x
/-- 'm[k] = v' -/
theorem run_mput (K : Keyed P kt) {t et : TypeId} (ht : P.underlying t = some (.map kt et)) {w0 w : World} {L : List Part} (H : Holds w0 w L) (i : Nat) {g : Nat} {M : Value → Option Value} (hi : L[i]? = some (pMap P kt g M)) {k : Value} (hk : IsK P kt k) (v : Value) :
    ∃ w', (Instr.mapUpdate t (.map (some g)) k v).run P w = .ok () w' ∧ Holds w0 w' (L.set i (pMap P kt g (mput M k v))) ∧ w'.heap.size = w.heap.size := by
  obtain ⟨es, clock, hg, hm⟩ := H.at i hi
  obtain ⟨l, hl⟩ := id hk
  have hc := K.check w false hl
  have hgo : (getObj g).run P w = .ok (.map es clock) w := by simp [getObj, Sem.run, hg]
  have hso : ∀ o, (setObj g o).run P w = .ok () { w with heap := w.heap.setIfInBounds g o } := fun o => by simp [setObj, Sem.run, hg]
  have turned : ∀ (o : Obj) (M' : Value → Option Value), (∃ es clock, o = .map es clock ∧ MapOk P kt es.toList clock M') → Holds w0 { w with heap := w.heap.setIfInBounds g o } (L.set i (pMap P kt g M')) := by
    rintro o M' ⟨es', clock', rfl, hm'⟩
    refine H.turn i hi _ ⟨es', clock', ?_, hm'⟩ rfl rfl rfl (by simp) (fun j _ hj => ?_) fun j hj => .inl hj
    · have := lt_of_some hg
      simp [this]
    · have : g ≠ j := fun e => hj e.symm
      simp [this]
  rcases find_of K hm hk w with ⟨h1, h2, h3⟩ | ⟨j, e, h1, h2, h3, h4⟩
  · refine ⟨{ w with heap := w.heap.setIfInBounds g (.map (es.push { key := k, val := v, born := clock }) (clock + 1)) }, by simp [Instr.mapUpdate, run_underlying ht, hgo, hc, h2, hso], turned _ _ ⟨es.push { key := k, val := v, born := clock }, clock + 1, rfl, ?_⟩, by simp⟩
    rw [Array.toList_push]
    exact hm.push hk h3 v
  · have hst := K.stays w hl
    have hej : es[j]? = some e := by simpa using h3
    refine ⟨{ w with heap := w.heap.setIfInBounds g (.map (es.modify j fun e => { e with key := k, val := v }) clock) }, by simp [Instr.mapUpdate, run_underlying ht, hgo, hc, h2, hso, hej, h4, hst], turned _ _ ⟨es.modify j fun e => { e with key := k, val := v }, clock, rfl, ?_⟩, by simp⟩
    have hset : (es.modify j fun e => { e with key := k, val := v }).toList = es.toList.set j { e with val := v } := by
      apply List.ext_getElem?
      intro q
      rw [Array.getElem?_toList, Array.getElem?_modify, List.getElem?_set]
      by_cases c : j = q
      · subst c
        rw [if_pos rfl, if_pos rfl, if_pos (List.getElem?_eq_some_iff.1 h3).1, hej, ← h4]; rfl
      · rw [if_neg c, if_neg c]; simp
    rw [hset, ← h4]
    exact hm.set h3 v
/-- .. as the walk meets it -/
theorem mputH (K : Keyed P kt) {ops : Array Oper} {rest : List Oper} {o : Oper} {a : Act} {Q : Exit → Act → World → Prop} (hgd : o.guard = none) (m x y : Operand) {t et : TypeId} (ho : o.op = .mapUpdate t m x y) (ht : P.underlying t = some (.map kt et))
    {w0 w : World} {L : List Part} (H : Holds w0 w L) (i : Nat) {g : Nat} {M : Value → Option Value} (hi : L[i]? = some (pMap P kt g M)) {k v : Value} (hm : a.eval m = .map (some g)) (hx : a.eval x = k) (hy : a.eval y = v) (hk : IsK P kt k)
    (h : ∀ w', Holds w0 w' (L.set i (pMap P kt g (mput M k v))) → w'.heap.size = w.heap.size → wpList P ops Q rest (a.put o.dst undef) w') : wpList P ops Q (o :: rest) a w := by
  refine wpList_plain hgd fun _ hK => ?_
  obtain ⟨w', hr, h2, h3⟩ := run_mput K ht H i hi hk v
  unfold Oper.wp execOp
  simp only [ho, hm, hx, hy, Sem.run_bind, hr, Sem.run_pure, Result.andThen_ok]
  exact hK _ _ (h w' h2 h3)
/-- .. in a map's literal -/
theorem minsH (K : Keyed P kt) {ops : Array Oper} {rest : List Oper} {o : Oper} {a : Act} {Q : Exit → Act → World → Prop} (hgd : o.guard = none) (m x y : Operand) {t et : TypeId} (ho : o.op = .insert t m x y) (ht : P.underlying t = some (.map kt et))
    {w0 w : World} {L : List Part} (H : Holds w0 w L) (i : Nat) {g : Nat} {M : Value → Option Value} (hi : L[i]? = some (pMap P kt g M)) {k v : Value} (hm : a.eval m = .map (some g)) (hx : a.eval x = k) (hy : a.eval y = v) (hk : IsK P kt k)
    (h : ∀ w', Holds w0 w' (L.set i (pMap P kt g (mput M k v))) → w'.heap.size = w.heap.size → wpList P ops Q rest (a.put o.dst undef) w') : wpList P ops Q (o :: rest) a w := by
  refine wpList_plain hgd fun _ hK => ?_
  obtain ⟨w', hr, h2, h3⟩ := run_mput K ht H i hi hk v
  unfold Oper.wp execOp
  simp only [ho, hm, hx, hy, Sem.run_bind, hr, Sem.run_pure, Result.andThen_ok]
  exact hK _ _ (h w' h2 h3)
theorem run_mk (t : TypeId) (w : World) : (Instr.makeMap t none).run P w = .ok (.map (some w.heap.size)) (w.alloc (.map #[] 0)) := rfl
end
end Go.Proofs.Ytgomfphdgekniaa

namespace Go.Proofs.Ytgomfphdgekniaa
open Go.RowKit
open Go.ChangeMaps Go.MapKept
open Go.Maps (Keyed)

/-- a map whose entry of a key bears a stamp -/
def pMapAt (P : Program) (kt : TypeId) (g : Nat) (M : Value → Option Value) (key : Value) (s : Int) : Part where
  own k := k = g
  ok w := ∃ es clock, w.heap[g]? = some (.map es clock) ∧ MapOk P kt es.toList clock M ∧ ∃ (j : Nat) (e : MapEntry), es.toList[j]? = some e ∧ e.key = key ∧ ((e.born : Nat) : Int) = s
  keep _ _ := fun ⟨es, clock, h, r⟩ k => ⟨es, clock, (k g rfl).trans h, r⟩
  lt _ _ := fun ⟨_, _, h, _⟩ k => by subst k; exact lt_of_some h
section
variable {P : Program} {kt : TypeId}
theorem born_inj {es : List MapEntry} (hn : (es.map (·.born)).Nodup) {i j : Nat} {a b : MapEntry} (hi : es[i]? = some a) (hj : es[j]? = some b) (h : a.born = b.born) : i = j := by
  have e1 : (es.map (·.born))[i]? = some a.born := by simp [hi]
  have e2 : (es.map (·.born))[j]? = some b.born := by simp [hj]
  obtain ⟨hi', e1'⟩ := List.getElem?_eq_some_iff.1 e1
  obtain ⟨hj', e2'⟩ := List.getElem?_eq_some_iff.1 e2
  rcases Nat.lt_trichotomy i j with c | c | c
  · exact absurd (by rw [e1', e2', h]) (List.pairwise_iff_getElem.1 hn i j hi' hj' c)
  · exact c
  · exact absurd (by rw [e1', e2', h]) (List.pairwise_iff_getElem.1 hn j i hj' hi' c)
theorem set_same_val {es : List MapEntry} {j : Nat} {e : MapEntry} (h : es[j]? = some e) : es.set j { e with val := e.val } = es := by
  apply List.ext_getElem?
  intro i
  rw [List.getElem?_set]
  split
  · rename_i c; subst c
    obtain ⟨hl, rfl⟩ := List.getElem?_eq_some_iff.1 h
    simp [hl]
  · rfl
theorem run_mentry (K : Keyed P kt) {t et : TypeId} (ht : P.underlying t = some (.map kt et)) {z : Value} (hz : ∀ w, (zeroValue et).run P w = .ok z w) {w0 w : World} {L : List Part} (H : Holds w0 w L) (i : Nat) {g : Nat} {M : Value → Option Value} (hi : L[i]? = some (pMap P kt g M)) {k : Value} (hk : IsK P kt k) :
    ∃ w' s, (Instr.mapEntry t (.map (some g)) k).run P w = .ok (.tuple #[(M k).getD z, .int .i64 s]) w' ∧ Holds w0 w' (L.set i (pMapAt P kt g (mput M k ((M k).getD z)) k s)) ∧ w'.heap.size = w.heap.size := by
  obtain ⟨es, clock, hg, hm⟩ := H.at i hi
  obtain ⟨l, hl⟩ := id hk
  have hc := K.check w false hl
  have hgo : (getObj g).run P w = .ok (.map es clock) w := by simp [getObj, Sem.run, hg]
  have hso : ∀ o, (setObj g o).run P w = .ok () { w with heap := w.heap.setIfInBounds g o } := fun o => by simp [setObj, Sem.run, hg]
  have turned : ∀ (o : Obj) (M' : Value → Option Value) (s : Int), (∃ es clock, o = .map es clock ∧ MapOk P kt es.toList clock M' ∧ ∃ (j : Nat) (e : MapEntry), es.toList[j]? = some e ∧ e.key = k ∧ ((e.born : Nat) : Int) = s) → Holds w0 { w with heap := w.heap.setIfInBounds g o } (L.set i (pMapAt P kt g M' k s)) := by
    rintro o M' s ⟨es', clock', rfl, hm'⟩
    refine H.turn i hi _ ⟨es', clock', ?_, hm'⟩ rfl rfl rfl (by simp) (fun j _ hj => ?_) fun j hj => .inl hj
    · have := lt_of_some hg
      simp [this]
    · have : g ≠ j := fun e => hj e.symm
      simp [this]
  rcases find_of K hm hk w with ⟨h1, h2, h3⟩ | ⟨j, e, h1, h2, h3, h4⟩
  · rw [h1]
    refine ⟨{ w with heap := w.heap.setIfInBounds g (.map (es.push { key := k, val := z, born := clock }) (clock + 1)) }, clock, by simp [Instr.mapEntry, run_underlying ht, hgo, hc, h2, hso, hz, goInt], turned _ _ _ ⟨es.push { key := k, val := z, born := clock }, clock + 1, rfl, ?_, es.size, { key := k, val := z, born := clock }, by simp, rfl, rfl⟩, by simp⟩
    rw [Array.toList_push]
    exact hm.push hk h3 z
  · have hst := K.stays w hl
    have hej : es[j]? = some e := by simpa using h3
    have hset : (es.modify j fun e => { e with key := k }).toList = es.toList.set j { e with val := e.val } := by
      apply List.ext_getElem?
      intro q
      rw [Array.getElem?_toList, Array.getElem?_modify, List.getElem?_set]
      by_cases c : j = q
      · subst c
        rw [if_pos rfl, if_pos rfl, if_pos (List.getElem?_eq_some_iff.1 h3).1, hej, ← h4]; rfl
      · rw [if_neg c, if_neg c]; simp
    refine ⟨{ w with heap := w.heap.setIfInBounds g (.map (es.modify j fun e => { e with key := k }) clock) }, e.born, by simp [Instr.mapEntry, run_underlying ht, hgo, hc, h2, hso, hej, h4, hst, h1, goInt], turned _ _ _ ⟨es.modify j fun e => { e with key := k }, clock, rfl, ?_, j, e, ?_, h4, rfl⟩, by simp⟩
    · rw [hset, h1, ← h4]
      exact hm.set h3 e.val
    · rw [hset, set_same_val h3]; exact h3
theorem run_estore {t : TypeId} {w0 w : World} {L : List Part} (H : Holds w0 w L) (i : Nat) {g : Nat} {M : Value → Option Value} {k : Value} {s : Int} (hi : L[i]? = some (pMapAt P kt g M k s)) (v : Value) :
    ∃ w', (Instr.entryStore t (.map (some g)) (.int .i64 s) v).run P w = .ok () w' ∧ Holds w0 w' (L.set i (pMap P kt g (mput M k v))) ∧ w'.heap.size = w.heap.size := by
  obtain ⟨es, clock, hg, hm, j, e, hj, hk, hs⟩ := H.at i hi
  have hgo : (getObj g).run P w = .ok (.map es clock) w := by simp [getObj, Sem.run, hg]
  have hso : ∀ o, (setObj g o).run P w = .ok () { w with heap := w.heap.setIfInBounds g o } := fun o => by simp [setObj, Sem.run, hg]
  have hf : es.findIdx? (fun e => ((e.born : Nat) : Int) == s) = some j := by
    obtain ⟨hl, he⟩ := List.getElem?_eq_some_iff.1 hj
    have hl' : j < es.size := by simpa using hl
    have he' : es[j] = e := by simpa using he
    rw [Array.findIdx?_eq_some_iff_getElem]
    refine ⟨hl', by rw [he', hs]; simp, fun q hq => ?_⟩
    have hql : q < es.toList.length := by omega
    simp only [beq_iff_eq]
    intro c
    have hb : (es.toList[q]).born = e.born := by
      have c' : ((es.toList[q].born : Nat) : Int) = s := by simpa using c
      omega
    have := born_inj hm.births (List.getElem?_eq_getElem hql) hj hb
    omega
  refine ⟨{ w with heap := w.heap.setIfInBounds g (.map (es.modify j fun e => { e with val := v }) clock) }, by simp [Instr.entryStore, hgo, asInt, asIntOf, hf, hso], ?_, by simp⟩
  refine H.turn i hi _ ⟨es.modify j fun e => { e with val := v }, clock, ?_, ?_⟩ rfl rfl rfl (by simp) (fun q _ hq => ?_) fun q hq => .inl hq
  · have := lt_of_some hg
    simp [this]
  · have hset : (es.modify j fun e => { e with val := v }).toList = es.toList.set j { e with val := v } := by
      apply List.ext_getElem?
      intro q
      rw [Array.getElem?_toList, Array.getElem?_modify, List.getElem?_set]
      have hej : es[j]? = some e := by simpa using hj
      by_cases c : j = q
      · subst c
        rw [if_pos rfl, if_pos rfl, if_pos (List.getElem?_eq_some_iff.1 hj).1, hej]; rfl
      · rw [if_neg c, if_neg c]; simp
    rw [hset, ← hk]
    exact hm.set hj v
  · have : g ≠ q := fun e => hq e.symm
    simp [this]
/-- .. as the walk meets them -/
theorem mentH (K : Keyed P kt) {ops : Array Oper} {rest : List Oper} {o : Oper} {a : Act} {Q : Exit → Act → World → Prop} (hgd : o.guard = none) (m x : Operand) {t et : TypeId} (ho : o.op = .mapEntry t m x) (ht : P.underlying t = some (.map kt et)) {z : Value} (hz : ∀ w, (zeroValue et).run P w = .ok z w)
    {w0 w : World} {L : List Part} (H : Holds w0 w L) (i : Nat) {g : Nat} {M : Value → Option Value} (hi : L[i]? = some (pMap P kt g M)) {k : Value} (hm : a.eval m = .map (some g)) (hx : a.eval x = k) (hk : IsK P kt k)
    (h : ∀ w' s, Holds w0 w' (L.set i (pMapAt P kt g (mput M k ((M k).getD z)) k s)) → w'.heap.size = w.heap.size → wpList P ops Q rest (a.put o.dst (.tuple #[(M k).getD z, .int .i64 s])) w') : wpList P ops Q (o :: rest) a w := by
  refine wpList_plain hgd fun _ hK => ?_
  obtain ⟨w', s, hr, h2, h3⟩ := run_mentry K ht hz H i hi hk
  unfold Oper.wp execOp
  simp only [ho, hm, hx, Sem.run_bind, hr, Sem.run_pure, Result.andThen_ok]
  exact hK _ _ (h w' s h2 h3)
theorem estH {ops : Array Oper} {rest : List Oper} {o : Oper} {a : Act} {Q : Exit → Act → World → Prop} (hgd : o.guard = none) (m x y : Operand) {t : TypeId} (ho : o.op = .entryStore t m x y)
    {w0 w : World} {L : List Part} (H : Holds w0 w L) (i : Nat) {g : Nat} {M : Value → Option Value} {k v : Value} {s : Int} (hi : L[i]? = some (pMapAt P kt g M k s)) (hm : a.eval m = .map (some g)) (hx : a.eval x = .int .i64 s) (hy : a.eval y = v)
    (h : ∀ w', Holds w0 w' (L.set i (pMap P kt g (mput M k v))) → w'.heap.size = w.heap.size → wpList P ops Q rest (a.put o.dst undef) w') : wpList P ops Q (o :: rest) a w := by
  refine wpList_plain hgd fun _ hK => ?_
  obtain ⟨w', hr, h2, h3⟩ := run_estore (t := t) H i hi v
  unfold Oper.wp execOp
  simp only [ho, hm, hx, hy, Sem.run_bind, hr, Sem.run_pure, Result.andThen_ok]
  exact hK _ _ (h w' h2 h3)
theorem mput_twice (M : Value → Option Value) (k v u : Value) : mput (mput M k v) k u = mput M k u := by
  funext x
  unfold mput
  split <;> rfl
end
end Go.Proofs.Ytgomfphdgekniaa

namespace Go.Proofs.Ytgomfphdgekniaa
open Go.RowKit
open Go.Maps (Keyed)

theorem laidPk : laidOutB Try.prog = true := by kernel_rfl
theorem keyedPr : Keyed Try.prog 113 := Keyed.of_law (deep_law_laid laidPk (m := 3) (by omega) (of_decide_eq_true (by kernel_rfl)) (by kernel_rfl) (by kernel_rfl))
theorem isK_pair (a b : Nat) (ha : a < 256) (hb : b < 256) : IsK Try.prog 113 (.agg #[.int .u8 (a : Int), .int .u8 (b : Int)]) := by
  have h1 : Try.prog.keyType 113 = true := by kernel_rfl
  obtain ⟨n, hn⟩ : ∃ n, Try.prog.types.size + 1 = n + 2 := ⟨Try.prog.types.size - 1, by
    have : 1 ≤ Try.prog.types.size := of_decide_eq_true (by kernel_rfl)
    omega⟩
  have h2 : Try.prog.cellsOf 113 = 2 := by kernel_rfl
  have h3 : Try.prog.cellsOf 5 = 1 := by kernel_rfl
  unfold IsK keyOf
  rw [Try.underlying113, hn]
  have h4 : Value.formed Try.prog 113 (.agg #[.int .u8 (a : Int), .int .u8 (b : Int)]) = true := by
    unfold Value.formed
    rw [Try.underlying113]
    simp [h2]
  have w1 : (Lit.int .u8 (a : Int)).wf = true := by unfold Lit.wf; simp [IntKind.min, IntKind.max, IntKind.signed, IntKind.bits]; omega
  have w2 : (Lit.int .u8 (b : Int)).wf = true := by unfold Lit.wf; simp [IntKind.min, IntKind.max, IntKind.signed, IntKind.bits]; omega
  have k1 : ∀ x : Nat, (Lit.int .u8 (x : Int)).wf = true → Try.prog.keyLits (n + 1) 5 [.int .u8 (x : Int)] = some [.int .u8 (x : Int)] := fun x hx => by
    unfold Program.keyLits
    simp only [Try.underlying5, hx]
    simp
  have k2 : Try.prog.keyLits (n + 2) 113 [.int .u8 (a : Int), .int .u8 (b : Int)] = some [.int .u8 (a : Int), .int .u8 (b : Int)] := by
    unfold Program.keyLits
    simp only [Try.underlying113, h2]
    simp [h3, k1 a w1, k1 b w2]
  simp only [h1, h4, Bool.and_self, if_true]
  simp only [Value.cells, k2]
  exact ⟨_, rfl⟩
end Go.Proofs.Ytgomfphdgekniaa

namespace Go.Proofs.Ytgomfphdgekniaa
open Go.RowKit
open Go.Maps (Keyed)

/-- how many darts have each pair of numbers -/
def incT (hb hw : Nat → Nat) : Nat → Nat → Nat
  | 0 => fun _ => 0
  | k + 1 => fset (incT hb hw k) (16 * hb k + hw k) (incT hb hw k (16 * hb k + hw k) + 1)
theorem incT_le (hb hw : Nat → Nat) : ∀ k z, incT hb hw k z ≤ k := by
  intro k
  induction k with
  | zero => intro z; exact Nat.le_refl _
  | succ k ih =>
    intro z
    rw [incT]
    unfold fset
    split
    · have := ih (16 * hb k + hw k); omega
    · have := ih z; omega
def rowsL (h : Nat → Nat) (nb nw : Nat) : List (List Nat) := (List.range nb).map fun a => wl (fun b => h (16 * a + b)) nw
theorem rowsL_length (h : Nat → Nat) (nb nw : Nat) : (rowsL h nb nw).length = nb := by unfold rowsL; simp
theorem rowsL_succ (h : Nat → Nat) (i nw : Nat) : rowsL h (i + 1) nw = rowsL h i nw ++ [wl (fun b => h (16 * i + b)) nw] := by unfold rowsL; rw [List.range_succ, List.map_append]; rfl
theorem rowsL_at (h : Nat → Nat) {nb nw a : Nat} (ha : a < nb) : (rowsL h nb nw)[a]? = some (wl (fun b => h (16 * a + b)) nw) := by unfold rowsL; simp [ha]
theorem wl_congr {h h' : Nat → Nat} {m : Nat} (e : ∀ x, x < m → h x = h' x) : wl h m = wl h' m := by
  unfold wl
  exact List.map_congr_left fun x hx => e x (List.mem_range.1 hx)
theorem rowsL_set (h : Nat → Nat) {nb nw a b : Nat} (v : Nat) (hb : b < nw) (hw : nw ≤ 16) : (rowsL h nb nw).set a (wl (fset (fun b => h (16 * a + b)) b v) nw) = rowsL (fset h (16 * a + b) v) nb nw := by
  apply List.ext_getElem?
  intro i
  rw [List.getElem?_set, rowsL_length]
  rcases Nat.lt_or_ge i nb with c | c
  · rw [rowsL_at _ c, rowsL_at _ c]
    by_cases e : a = i
    · subst e
      rw [if_pos rfl, if_pos c]
      congr 1
      refine wl_congr fun x hx => ?_
      unfold fset
      by_cases d : x = b
      · subst d; simp
      · rw [if_neg d, if_neg (by omega)]
    · rw [if_neg e]
      congr 1
      refine wl_congr fun x hx => ?_
      unfold fset
      rw [if_neg (by omega)]
  · have n : ∀ h', (rowsL h' nb nw)[i]? = none := fun h' => List.getElem?_eq_none (by rw [rowsL_length]; exact c)
    rw [n, n]
    by_cases e : a = i
    · subst e; rw [if_pos rfl, if_neg (by omega)]
    · rw [if_neg e]
noncomputable def incC (n : Int) (f g : Nat → Nat) : Int := if desB n f g = true then 0 else 1
noncomputable def incR (n : Int) (f g : Nat → Nat) : List (List Nat) := if desB n f g = true then rowsL (incT (whichF f n.toNat) (whichF g n.toNat) n.toNat) (cycs f n.toNat).length (cycs g n.toNat).length else []
theorem incR_bound (n : Int) (f g : Nat → Nat) : total (incR n f g) ≤ 1000 ∧ (incR n f g).length ≤ 16 := by
  unfold incR
  split
  · rename_i h
    obtain ⟨m, rfl, hd⟩ := desB_true h
    rw [Int.toNat_natCast]
    have h1 := cycs_le hd.black
    have h2 := cycs_le hd.white
    have hm := hd.le
    rw [rowsL_length]
    refine ⟨?_, by omega⟩
    have key : ∀ (ls : List (List Nat)), (∀ l ∈ ls, l.length ≤ 16) → total ls ≤ 16 * ls.length := by
      intro ls
      induction ls with
      | nil => intro _; simp [total]
      | cons l ls ih =>
        intro h
        have a1 := h l (by simp)
        have a2 := ih fun x hx => h x (by simp [hx])
        unfold total at a2 ⊢
        simp only [List.map_cons, List.sum_cons, List.length_cons] at a2 ⊢
        omega
    have := key (rowsL (incT (whichF f m) (whichF g m) m) (cycs f m).length (cycs g m).length) fun l hl => by
      unfold rowsL at hl
      obtain ⟨a, _, rfl⟩ := List.mem_map.1 hl
      rw [wl_length]; omega
    rw [rowsL_length] at this
    omega
  · exact ⟨by simp [total], by simp⟩
/-- pairs of numbers as keys -/
def encM (z : Nat) : Value := .agg #[.int .i64 ((z / 16 : Nat) : Int), .int .i64 ((z % 16 : Nat) : Int)]
theorem encM_inj {y z : Nat} (h : encM y = encM z) : y = z := by
  unfold encM at h
  injection h with h
  have h' := congrArg Array.toList h
  simp at h'
  omega
theorem encM_at (a b : Nat) (hb : b < 16) : encM (16 * a + b) = (.agg #[.int .i64 (a : Nat), .int .i64 (b : Nat)]) := by
  unfold encM
  rw [show (16 * a + b) / 16 = a by omega, show (16 * a + b) % 16 = b by omega]
open Classical in
noncomputable def Mi (h : Nat → Nat) : Value → Option Value := fun v => if e : ∃ z, v = encM z ∧ 0 < h z then some (.int .i64 (h (Classical.choose e) : Nat)) else none
theorem Mi_at (h : Nat → Nat) (z : Nat) : Mi h (encM z) = if 0 < h z then some (.int .i64 (h z : Nat)) else none := by
  unfold Mi
  by_cases c : 0 < h z
  · have e : ∃ y, encM z = encM y ∧ 0 < h y := ⟨z, rfl, c⟩
    rw [dif_pos e, if_pos c]
    have := encM_inj (Classical.choose_spec e).1
    rw [← this]
  · rw [dif_neg, if_neg c]
    rintro ⟨y, e, hy⟩
    rw [encM_inj e] at c; exact c hy
theorem Mi_get (h : Nat → Nat) (z : Nat) : (Mi h (encM z)).getD (.int .i64 0) = .int .i64 (h z : Nat) := by
  rw [Mi_at]
  by_cases c : 0 < h z
  · rw [if_pos c]; rfl
  · rw [if_neg c, show h z = 0 by omega]; rfl
theorem Mi_put (h : Nat → Nat) (z : Nat) : mput (Mi h) (encM z) (.int .i64 (h z + 1 : Nat)) = Mi (fset h z (h z + 1)) := by
  funext v
  by_cases c : ∃ y, v = encM y
  · obtain ⟨y, rfl⟩ := c
    by_cases d : y = z
    · subst d
      rw [mput_same, Mi_at]
      unfold fset
      rw [if_pos rfl, if_pos (by omega)]
    · rw [mput_ne _ _ (fun e => d (encM_inj e)), Mi_at, Mi_at]
      unfold fset
      rw [if_neg d]
  · rw [mput_ne _ _ (fun e => c ⟨z, e⟩)]
    unfold Mi
    rw [dif_neg (fun ⟨y, e, _⟩ => c ⟨y, e⟩), dif_neg (fun ⟨y, e, _⟩ => c ⟨y, e⟩)]
theorem Mi_nil : (fun _ => none : Value → Option Value) = Mi fun _ => 0 := by funext v; unfold Mi; rw [dif_neg]; rintro ⟨_, _, h⟩; exact absurd h (Nat.lt_irrefl 0)
theorem keyedM : Keyed Try.prog 66 := Keyed.of_law (deep_law_laid laidPk (m := 3) (by omega) (of_decide_eq_true (by kernel_rfl)) (by kernel_rfl) (by kernel_rfl))
theorem isK_meet (a b : Nat) (ha : a < 256) (hb : b < 256) : IsK Try.prog 66 (.agg #[.int .i64 (a : Nat), .int .i64 (b : Nat)]) := by
  have h1 : Try.prog.keyType 66 = true := by kernel_rfl
  obtain ⟨n, hn⟩ : ∃ n, Try.prog.types.size + 1 = n + 2 := ⟨Try.prog.types.size - 1, by
    have : 1 ≤ Try.prog.types.size := of_decide_eq_true (by kernel_rfl)
    omega⟩
  have h2 : Try.prog.cellsOf 66 = 2 := by kernel_rfl
  have h3 : Try.prog.cellsOf 2 = 1 := by kernel_rfl
  unfold IsK keyOf
  rw [Try.underlying66, hn]
  have h4 : Value.formed Try.prog 66 (.agg #[.int .i64 (a : Nat), .int .i64 (b : Nat)]) = true := by
    unfold Value.formed
    rw [Try.underlying66]
    simp [h2]
  have w1 : (Lit.int .i64 (a : Int)).wf = true := by unfold Lit.wf; simp [IntKind.min, IntKind.max, IntKind.signed, IntKind.bits]; omega
  have w2 : (Lit.int .i64 (b : Int)).wf = true := by unfold Lit.wf; simp [IntKind.min, IntKind.max, IntKind.signed, IntKind.bits]; omega
  have k1 : ∀ x : Nat, (Lit.int .i64 (x : Int)).wf = true → Try.prog.keyLits (n + 1) 2 [.int .i64 (x : Int)] = some [.int .i64 (x : Int)] := fun x hx => by
    unfold Program.keyLits
    simp only [Try.underlying2, hx]
    simp
  have k2 : Try.prog.keyLits (n + 2) 66 [.int .i64 (a : Int), .int .i64 (b : Int)] = some [.int .i64 (a : Int), .int .i64 (b : Int)] := by
    unfold Program.keyLits
    simp only [Try.underlying66, h2]
    simp [h3, k1 a w1, k1 b w2]
  simp only [h1, h4, Bool.and_self, if_true]
  simp only [Value.cells, k2]
  exact ⟨_, rfl⟩
theorem zero64 (w : World) : (zeroValue 2).run Try.prog w = .ok (.int .i64 0) w := by
  have h : (Try.prog.info? 2).map (·.zero) = some (some (.int .i64 0)) := by kernel_rfl
  rcases hi : Try.prog.info? 2 with _ | i
  · rw [hi] at h; cases h
  · rw [hi] at h
    have hz : i.zero = some (.int .i64 0) := by simpa using h
    simp [zeroValue, typeInfo, hi, hz]
theorem pMapAt_map {P : Program} {kt : TypeId} {g : Nat} {M : Value → Option Value} {k : Value} {s : Int} {w : World} (h : (pMapAt P kt g M k s).ok w) : (pMap P kt g M).ok w := by
  obtain ⟨es, clock, h1, h2, _⟩ := h
  exact ⟨es, clock, h1, h2⟩
namespace Rd
/-- a value that is known, and parts; an entry that is taken, with its stamp -/
def rIs (w0 : World) (c : Value) (L : List Part) : Value → World → Prop := fun v w => v = c ∧ Holds w0 w L
theorem rIs_stable {w0 : World} {c : Value} {L : List Part} (v : Value) : Stable (rIs w0 c L v) := fun _ _ h hb => ⟨h.1, h.2.call hb⟩
def rEnt (w0 : World) (c : Value) (F : Int → List Part) : Value → World → Prop := fun v w => ∃ s, v = .tuple #[c, .int .i64 s] ∧ Holds w0 w (F s)
theorem rEnt_stable {w0 : World} {c : Value} {F : Int → List Part} (v : Value) : Stable (rEnt w0 c F v) := fun _ _ ⟨s, e, h⟩ hb => ⟨s, e, h.call hb⟩
theorem rEnt_form {w0 : World} {c : Value} {F : Int → List Part} {v : Value} {w : World} (h : rEnt w0 c F v w) : ∃ s, v = .tuple #[c, .int .i64 s] := by
  obtain ⟨s, e, _⟩ := h
  exact ⟨s, e⟩
theorem rEnt_out {w0 : World} {c : Value} {F : Int → List Part} {s : Int} {w : World} (h : rEnt w0 c F (.tuple #[c, .int .i64 s]) w) : Holds w0 w (F s) := by
  obtain ⟨s', e, h⟩ := h
  injection e with e
  have e2 := congrArg (fun a : Array Value => a[1]?) e
  simp at e2
  obtain rfl := e2
  exact h
theorem v_sDI {P : Program} {ops : Array Oper} {C : World → Prop} {w0 : World} {L1 : List Part} {E : Nat → Bool} {k : Nat} {a : Act} {D : World → Prop} {N : Act → (World → Prop) → Prop} {o : Oper} (hD : ∀ wx, D wx → Holds w0 wx L1) (R : Value → World → Prop) (hR : ∀ v, Stable (R v)) (ho : ops[k]? = some o) (hE : E k = true) (hw : Region.wanted o (yielded ops a.tmps) = true) (h1 : ∀ w, C w → Holds w0 w L1 → uponI P C R w ((execOp a.eval o).run P w))
    (h2 : ∀ v, (∃ w, C w ∧ R v w) → N (a.put o.dst v) (R v)) : opV P ops C E k N a D := v_sI R hR ho hE hw (fun w hc hd => h1 w hc (hD w hd)) h2
theorem region_P1 {P : Program} {id : Nat} {Q : Exit → Act → World → Prop} {a : Act} {w w0 : World} {l : List Oper} (L : List Part) (L1 : List Part) (sp : List Nat) (p : Plan) (H : Holds w0 w L1) (hL : L.Sublist L1)
    (hm : P.follows .mixedOrders = true) (hsel : Region.noSelect l.toArray = true) (hB : planB .any l.toArray sp l.toArray.size p (Array.replicate l.toArray.size false) = true)
    {α : Type} (F : α → List Part) (act : α → Act)
    (h : ∀ K : Act → World → Prop, (∀ g wx, Holds w0 wx (F g) → K (act g) wx) → walkV P l.toArray (fun wx => Holds w0 wx L) (fun k => sp.contains k) K p a (fun wx => Holds w0 wx L1))
    (key : ∀ g wx, Holds w0 wx (F g) → Q .normal (act g) wx) : (Code.region id l.toArray true).wp P Q a w :=
  region_P L L1 sp p H hL hm hsel hB (h (fun a' w' => Q .normal a' w') key)
theorem region_PQ {P : Program} {id : Nat} {Q : Exit → Act → World → Prop} {a : Act} {w w0 : World} {l : List Oper} (L : List Part) (L1 : List Part) (sp : List Nat) (p : Plan) (H : Holds w0 w L1) (hL : L.Sublist L1)
    (hm : P.follows .mixedOrders = true) (hsel : Region.noSelect l.toArray = true) (hB : planB .any l.toArray sp l.toArray.size p (Array.replicate l.toArray.size false) = true)
    {α β : Type} (F : α → β → List Part) (act : α → β → Act)
    (h : ∀ K : Act → World → Prop, (∀ g g' wx, Holds w0 wx (F g g') → K (act g g') wx) → walkV P l.toArray (fun wx => Holds w0 wx L) (fun k => sp.contains k) K p a (fun wx => Holds w0 wx L1))
    (key : ∀ g g' wx, Holds w0 wx (F g g') → Q .normal (act g g') wx) : (Code.region id l.toArray true).wp P Q a w :=
  region_P L L1 sp p H hL hm hsel hB (h (fun a' w' => Q .normal a' w') key)
end Rd
theorem fill_at {vs : List Value} {i n : Nat} (h : vs.length = i) (hi : i < n) : (vs ++ List.replicate (n - i) (.slice none 0 0 : Value))[i]? = some (.slice none 0 0) := by
  rw [List.getElem?_append_right (by omega), List.getElem?_replicate, if_pos (by omega)]
theorem fill_set {vs : List Value} {i n : Nat} {u : Value} (h : vs.length = i) (hi : i < n) : (vs ++ List.replicate (n - i) (.slice none 0 0 : Value)).set i u = (vs ++ [u]) ++ List.replicate (n - (i + 1)) (.slice none 0 0) := by
  rw [List.set_append_right _ _ (by omega), h, Nat.sub_self, show n - i = (n - (i + 1)) + 1 by omega, List.replicate_succ, List.set_cons_zero, List.append_assoc]
  rfl
theorem fill_mid {vs : List Value} {i k : Nat} {u : Value} (h : vs.length = i) : ((vs ++ [u]) ++ List.replicate k (.slice none 0 0 : Value))[i]? = some u := by
  rw [List.getElem?_append_left (by rw [List.length_append]; simp only [List.length_cons, List.length_nil]; omega), List.getElem?_append_right (by omega), h, Nat.sub_self]
  rfl
theorem infoSl2 : (Try.prog.info? 35).map (fun i => (i.zero, i.size, i.bytes)) = some (some (.slice none 0 0), 1, 24) := by kernel_rfl

set_option maxRecDepth 100000 in
set_option maxHeartbeats 4000000 in
theorem incidencesOf_any (n : Int) (f g : Nat → Nat) (hf : ∀ i, f i < 256) (hg : ∀ i, g i < 256) (w : World) :
    Calls Try.prog 17 #[.agg (dv n f g)] w fun e w' => ∃ v, e = .returned (.tuple #[v, .int .i64 (incC n f g)]) ∧ Below w.heap.size w w' ∧ Own2 w.heap.size w' v (incR n f g) := by
  have C1 := hide fun w => isDessin_any n f g hf hg w
  clear hf hg
  have HH0 := (Holds.start w).blk (dv n f g) 30 w.heap.size rfl
  rcases h1 : desB n f g with _ | _
  · rw [h1] at C1
    have hr : incR n f g = [] := by unfold incR; rw [if_neg (by simp [h1])]
    have hc : incC n f g = 1 := by unfold incC; rw [if_neg (by simp [h1])]
    rw [hr, hc]
    clear h1 hr hc
    go_enter Try.func17, Try.ntmps17
    go_wp2_with fail
    refine (C1.out _).mono ?_
    rintro e w1 ⟨rfl, hb⟩
    have HH1 := HH0.call hb
    clear hb HH0
    go_wp2
    go_ret2
    exact ⟨.slice none 0 0, rfl, HH1.low, Own2.nil _ _⟩
  rw [h1] at C1
  obtain ⟨m, rfl, hd⟩ := desB_true h1
  have hr : incR m f g = rowsL (incT (whichF f m) (whichF g m) m) (cycs f m).length (cycs g m).length := by unfold incR; rw [if_pos h1, Int.toNat_natCast]
  have hc : incC m f g = 0 := by unfold incC; rw [if_pos h1]
  rw [hr, hc]
  clear h1 hr hc
  have hm := hd.le
  have hn := dv_n m f g
  have CB := hide fun w => cycleNumbers_any f m hd.black w
  have CW := hide fun w => cycleNumbers_any g m hd.white w
  have KB := hide fun w => countCycles_any f m hd.black w
  have KW := hide fun w => countCycles_any g m hd.white w
  have LB := hide fun x (hx : x < m) => which_lt hd.black hx
  have LW := hide fun x (hx : x < m) => which_lt hd.white hx
  have hnb := cycs_le hd.black
  have hnw := cycs_le hd.white
  clear hd
  generalize whichF f m = hb at *
  generalize whichF g m = hw at *
  generalize (cycs f m).length = nb at *
  generalize (cycs g m).length = nw at *
  have HT := hide fun k => (show incT hb hw (k + 1) = fset (incT hb hw k) (16 * hb k + hw k) (incT hb hw k (16 * hb k + hw k) + 1) from rfl)
  have HT0 := hide (show incT hb hw 0 = fun _ => 0 from rfl)
  have HTL := hide fun k z => incT_le hb hw k z
  generalize incT hb hw = inc at *
  obtain ⟨i0, hi, hz0, hz1, hz2⟩ := info_parts info64
  have I0 := hide (And.intro hi (And.intro hz0 (And.intro hz1 hz2))); clear hi hz0 hz1 hz2
  obtain ⟨i2, hi, hz0, hz1, hz2⟩ := info_parts infoSl2
  have I2 := hide (And.intro hi (And.intro hz0 (And.intro hz1 hz2))); clear hi hz0 hz1 hz2
  go_enter Try.func17, Try.ntmps17
  go_wp2_with fail
  refine (C1.out _).mono ?_
  rintro e w1 ⟨rfl, hb0⟩
  have HH1 := HH0.call hb0
  clear hb0 HH0
  go_wp2
  apply Rd.region_PQ (w0 := w) ([pBlk w.heap.size (dv m f g) 30]) ([pBlk w.heap.size (dv m f g) 30]) [10, 11, 12, 13] (.q 0 <| .q 1 <| .q 2 <| .q 3 <| .q 4 <| .q 5 <| .q 6 <| .q 7 <| .q 8 <| .q 9 <| .s2 10 (.s1 11 <| .s1 12 <| .s1 13 .fin) 11 (.s1 10 <| .s1 12 <| .s1 13 .fin)) HH1 (.refl _) (by kernel_rfl) (by kernel_rfl) (by kernel_rfl) (F := fun g4 g5 => pBlk g5 (zv hw) 61 :: pBlk g4 (zv hb) 61 :: [pBlk w.heap.size (dv m f g) 30])
  case h =>
    intro K key
    iterate 4
      apply Rd.v_q
      · simp only [List.getElem?_toArray, List.getElem?_cons_zero, List.getElem?_cons_succ]; exact rfl
      · rfl
      · go_simp
      · intro wx hx
        have q1 := hx.cells 0 rfl
        have q2 := hx.cell 0 rfl hn
        unfold atG
        go_simp
        simp only [uponG]
        exact ⟨by trivial, rfl⟩
    iterate 1
      apply Rd.v_q
      · simp only [List.getElem?_toArray, List.getElem?_cons_zero, List.getElem?_cons_succ]; exact rfl
      · rfl
      · go_simp
      · intro wx hx
        have q1 := hx.cells 0 rfl
        have q2 := hx.cell 0 rfl hn
        unfold atG
        go_simp
        simp only [uponG]
        exact ⟨by trivial, CB.out wx⟩
    iterate 4
      apply Rd.v_q
      · simp only [List.getElem?_toArray, List.getElem?_cons_zero, List.getElem?_cons_succ]; exact rfl
      · rfl
      · go_simp
      · intro wx hx
        have q1 := hx.cells 0 rfl
        have q2 := hx.cell 0 rfl hn
        unfold atG
        go_simp
        simp only [uponG]
        exact ⟨by trivial, rfl⟩
    iterate 1
      apply Rd.v_q
      · simp only [List.getElem?_toArray, List.getElem?_cons_zero, List.getElem?_cons_succ]; exact rfl
      · rfl
      · go_simp
      · intro wx hx
        have q1 := hx.cells 0 rfl
        have q2 := hx.cell 0 rfl hn
        unfold atG
        go_simp
        simp only [uponG]
        exact ⟨by trivial, CW.out wx⟩
    refine ⟨?_, ?_⟩
    · refine Rd.v_box (zv fun _ => 0) 61 (by simp only [List.getElem?_toArray, List.getElem?_cons_zero, List.getElem?_cons_succ]; exact rfl) rfl (by go_simp) (fun wx hx hD => by rw [zv_zero]; go_simp) fun g4 => ?_
      refine Rd.v_box (zv fun _ => 0) 61 (by simp only [List.getElem?_toArray, List.getElem?_cons_zero, List.getElem?_cons_succ]; exact rfl) rfl (by go_simp) (fun wx hx hD => by rw [zv_zero]; go_simp) fun g5 => ?_
      refine Rd.v_s (Rd.rHolds w fun _ => pBlk g5 (zv fun _ => 0) 61 :: pBlk g4 (zv hb) 61 :: [pBlk w.heap.size (dv m f g) 30]) Rd.rHolds_stable (by simp only [List.getElem?_toArray, List.getElem?_cons_zero, List.getElem?_cons_succ]; exact rfl) rfl (by go_simp) (fun wx hx hD => ?_) ?_
      · have rr := hD.rowOk 1 rfl (zv_size _)
        go_simp
        simp only [Rd.uponE]
        have h2 := hD.setRow 1 rfl (zv hb)
        exact ⟨h2.tail.tail, h2⟩
      rintro vn -
      refine Rd.v_s (Rd.rHolds w fun _ => pBlk g5 (zv hw) 61 :: pBlk g4 (zv hb) 61 :: [pBlk w.heap.size (dv m f g) 30]) Rd.rHolds_stable (by simp only [List.getElem?_toArray, List.getElem?_cons_zero, List.getElem?_cons_succ]; exact rfl) rfl (by go_simp) (fun wx hx hD => ?_) ?_
      · have hD2 : Holds w wx (pBlk g5 (zv fun _ => 0) 61 :: pBlk g4 (zv hb) 61 :: [pBlk w.heap.size (dv m f g) 30]) := hD
        have rr := hD2.rowOk 0 rfl (zv_size _)
        go_simp
        simp only [Rd.uponE]
        have h2 := hD2.setRow 0 rfl (zv hw)
        exact ⟨h2.tail.tail, h2⟩
      rintro vn -
      rintro w' - hx
      go_simp
      exact key _ _ _ hx
    · refine Rd.v_box (zv fun _ => 0) 61 (by simp only [List.getElem?_toArray, List.getElem?_cons_zero, List.getElem?_cons_succ]; exact rfl) rfl (by go_simp) (fun wx hx hD => by rw [zv_zero]; go_simp) fun g5 => ?_
      refine Rd.v_box (zv fun _ => 0) 61 (by simp only [List.getElem?_toArray, List.getElem?_cons_zero, List.getElem?_cons_succ]; exact rfl) rfl (by go_simp) (fun wx hx hD => by rw [zv_zero]; go_simp) fun g4 => ?_
      refine Rd.v_s (Rd.rHolds w fun _ => pBlk g4 (zv hb) 61 :: pBlk g5 (zv fun _ => 0) 61 :: [pBlk w.heap.size (dv m f g) 30]) Rd.rHolds_stable (by simp only [List.getElem?_toArray, List.getElem?_cons_zero, List.getElem?_cons_succ]; exact rfl) rfl (by go_simp) (fun wx hx hD => ?_) ?_
      · have rr := hD.rowOk 0 rfl (zv_size _)
        go_simp
        simp only [Rd.uponE]
        have h2 := hD.setRow 0 rfl (zv hb)
        exact ⟨h2.tail.tail, h2⟩
      rintro vn -
      refine Rd.v_s (Rd.rHolds w fun _ => pBlk g4 (zv hb) 61 :: pBlk g5 (zv hw) 61 :: [pBlk w.heap.size (dv m f g) 30]) Rd.rHolds_stable (by simp only [List.getElem?_toArray, List.getElem?_cons_zero, List.getElem?_cons_succ]; exact rfl) rfl (by go_simp) (fun wx hx hD => ?_) ?_
      · have hD2 : Holds w wx (pBlk g4 (zv hb) 61 :: pBlk g5 (zv fun _ => 0) 61 :: [pBlk w.heap.size (dv m f g) 30]) := hD
        have rr := hD2.rowOk 1 rfl (zv_size _)
        go_simp
        simp only [Rd.uponE]
        have h2 := hD2.setRow 1 rfl (zv hw)
        exact ⟨h2.tail.tail, h2⟩
      rintro vn -
      rintro w' - hx
      go_simp
      exact key _ _ _ (Holds.perm hx (List.Perm.swap _ _ _))
  intro g4 g5 w3 H3
  clear HH1
  have mk := fun w => run_mk (P := Try.prog) 64 w
  have H4 := H3.newMap Try.prog 66 w3.heap.size rfl
  have n4 := H4.cell 3 rfl hn
  go_simp
  go_wp2
  clear mk H3 n4
  generalize w3.alloc (.map #[] 0) = w4 at *
  generalize w3.heap.size = G at *
  rw [Mi_nil] at H4
  have H5 : Holds w w4 (pMap Try.prog 66 G (Mi (inc 0)) :: pBlk g5 (zv hw) 61 :: pBlk g4 (zv hb) 61 :: pBlk w.heap.size (dv m f g) 30 :: []) := by rw [HT0.out]; exact H4
  clear H4
  go_loopw [27] (fun t wr => ∃ k : Nat, k ≤ m ∧ t = .int .i64 k ∧ Holds w wr (pMap Try.prog 66 G (Mi (inc k)) :: pBlk g5 (zv hw) 61 :: pBlk g4 (zv hb) 61 :: pBlk w.heap.size (dv m f g) 30 :: [])) (fun t _ => m - (intOf t).toNat)
  case atStart => exact ⟨0, by omega, rfl, H5⟩
  case round =>
    clear H5
    obtain ⟨k, hk, rfl, hH⟩ := hrel
    by_cases hkl : k < m
    · have hk16 : k < 16 := by omega
      have hk' : (k : Int) < 16 := by omega
      have hkm' : (k : Int) < m := by omega
      have ht := HT.out k
      have hle := HTL.out k
      have hba := LB.out k hkl
      have hwa := LW.out k hkl
      obtain ⟨a, ha⟩ : ∃ a, a = hb k := ⟨_, rfl⟩
      obtain ⟨b, hb2⟩ : ∃ b, b = hw k := ⟨_, rfl⟩
      rw [← ha, ← hb2] at ht
      rw [← ha] at hba
      rw [← hb2] at hwa
      generalize hh : inc k = h at *
      generalize hh1 : inc (k + 1) = h1 at *
      have hkk : IsK Try.prog 66 (.agg #[.int .i64 (a : Nat), .int .i64 (b : Nat)]) := isK_meet a b (by omega) (by omega)
      have hgetD : (Mi h (.agg #[.int .i64 (a : Nat), .int .i64 (b : Nat)])).getD (.int .i64 0) = .int .i64 (h (16 * a + b) : Nat) := by rw [← encM_at a b (by omega)]; exact Mi_get h _
      have hput : mput (Mi h) (.agg #[.int .i64 (a : Nat), .int .i64 (b : Nat)]) (.int .i64 (h (16 * a + b) + 1 : Nat)) = Mi h1 := by rw [← encM_at a b (by omega), Mi_put, ht]
      have hlez := hle (16 * a + b)
      have HH2 := hide (And.intro hh hh1); clear hh hh1 ht hle
      have hadd := hide (show ((h (16 * a + b) : Nat) : Int) + 1 = ((h (16 * a + b) + 1 : Nat) : Int) by omega)
      have hwr : IntKind.i64.wrap (((h (16 * a + b) : Nat) : Int) + 1) = ((h (16 * a + b) : Nat) : Int) + 1 := by rw [IntKind.wrap_i64]; omega
      have HAB := hide (And.intro ha hb2); clear ha hb2
      go_wp2
      apply Rd.region_P1 (w0 := w) (pBlk g5 (zv hw) 61 :: pBlk g4 (zv hb) 61 :: pBlk w.heap.size (dv m f g) 30 :: []) (pMap Try.prog 66 G (Mi h) :: pBlk g5 (zv hw) 61 :: pBlk g4 (zv hb) 61 :: pBlk w.heap.size (dv m f g) 30 :: []) [8, 10, 12] (.q 0 <| .q 1 <| .q 2 <| .q 3 <| .q 4 <| .q 5 <| .q 6 <| .q 7 <| .s2 8 (.q 9 <| .s1 10 <| .q 11 <| .s1 12 .fin) 10 (.q 11 <| .s1 8 <| .q 9 <| .s1 12 .fin)) hH (.cons _ (.refl _)) (by kernel_rfl) (by kernel_rfl) (by kernel_rfl) (α := Int) (F := fun _ => pMap Try.prog 66 G (Mi h1) :: pBlk g5 (zv hw) 61 :: pBlk g4 (zv hb) 61 :: pBlk w.heap.size (dv m f g) 30 :: [])
      case h =>
        intro K key
        iterate 8
          apply Rd.v_q
          · simp only [List.getElem?_toArray, List.getElem?_cons_zero, List.getElem?_cons_succ]; exact rfl
          · rfl
          · go_simp
          · intro wx hx
            have q1 := hx.cell 1 rfl (v := .int .i64 (a : Nat)) ((zv_get hb (i := k) hk16).trans (by rw [HAB.out.1]))
            have q2 := hx.cell 0 rfl (v := .int .i64 (b : Nat)) ((zv_get hw (i := k) hk16).trans (by rw [HAB.out.2]))
            unfold atG
            go_simp
            simp only [uponG]
            exact ⟨by trivial, rfl⟩
        refine ⟨?_, ?_⟩
        · refine Rd.v_sI (Rd.rIs w (.int .i64 (h (16 * a + b) : Nat)) (pMap Try.prog 66 G (Mi h) :: pBlk g5 (zv hw) 61 :: pBlk g4 (zv hb) 61 :: pBlk w.heap.size (dv m f g) 30 :: [])) Rd.rIs_stable (by simp only [List.getElem?_toArray, List.getElem?_cons_zero, List.getElem?_cons_succ]; exact rfl) rfl (by go_simp) (fun wx hx hD => ?_) ?_
          · have lk := run_mlook keyedM Try.underlying64 zero64 (Holds.at hD 0 rfl) hkk false
            rw [hgetD] at lk
            go_simp
            simp only [Rd.uponI_eq, Rd.uponE]
            exact ⟨hx, rfl, hD⟩
          rintro v ⟨_, _, hv⟩
          obtain rfl := hv.1
          clear hv
          iterate 1
            apply Rd.v_q
            · simp only [List.getElem?_toArray, List.getElem?_cons_zero, List.getElem?_cons_succ]; exact rfl
            · rfl
            · go_simp
            · intro wx hx
              unfold atG
              go_simp
              simp only [uponG]
              exact ⟨by trivial, rfl⟩
          refine Rd.v_sDI (fun wx h => h.2) (Rd.rEnt w (.int .i64 (h (16 * a + b) : Nat)) fun s => (pMapAt Try.prog 66 G (mput (Mi h) (.agg #[.int .i64 (a : Nat), .int .i64 (b : Nat)]) (.int .i64 (h (16 * a + b) : Nat))) (.agg #[.int .i64 (a : Nat), .int .i64 (b : Nat)]) s) :: pBlk g5 (zv hw) 61 :: pBlk g4 (zv hb) 61 :: pBlk w.heap.size (dv m f g) 30 :: []) Rd.rEnt_stable (by simp only [List.getElem?_toArray, List.getElem?_cons_zero, List.getElem?_cons_succ]; exact rfl) rfl (by go_simp) (fun wx hx hD => ?_) ?_
          · obtain ⟨w', s, hr, h2, _⟩ := run_mentry keyedM Try.underlying64 zero64 hD 0 rfl (k := (.agg #[.int .i64 (a : Nat), .int .i64 (b : Nat)])) hkk
            rw [hgetD] at hr h2
            go_simp
            simp only [Rd.uponI_eq, Rd.uponE]
            have h3 : Holds w w' ((pMapAt Try.prog 66 G (mput (Mi h) (.agg #[.int .i64 (a : Nat), .int .i64 (b : Nat)]) (.int .i64 (h (16 * a + b) : Nat))) (.agg #[.int .i64 (a : Nat), .int .i64 (b : Nat)]) s) :: pBlk g5 (zv hw) 61 :: pBlk g4 (zv hb) 61 :: pBlk w.heap.size (dv m f g) 30 :: []) := h2
            exact ⟨h3.tail, s, rfl, h3⟩
          rintro v ⟨_, _, hv⟩
          obtain ⟨s, rfl⟩ := Rd.rEnt_form hv
          clear hv
          iterate 1
            apply Rd.v_q
            · simp only [List.getElem?_toArray, List.getElem?_cons_zero, List.getElem?_cons_succ]; exact rfl
            · rfl
            · go_simp
            · intro wx hx
              unfold atG
              go_simp
              simp only [uponG]
              exact ⟨by trivial, rfl⟩
          refine Rd.v_sDI (fun wx h => Rd.rEnt_out h) (Rd.rHolds w fun _ => pMap Try.prog 66 G (Mi h1) :: pBlk g5 (zv hw) 61 :: pBlk g4 (zv hb) 61 :: pBlk w.heap.size (dv m f g) 30 :: []) Rd.rHolds_stable (by simp only [List.getElem?_toArray, List.getElem?_cons_zero, List.getElem?_cons_succ]; exact rfl) rfl (by go_simp) (fun wx hx hD => ?_) ?_
          · obtain ⟨w', hr, h2, _⟩ := run_estore (t := 64) hD 0 rfl (.int .i64 (((h (16 * a + b) : Nat) : Int) + 1))
            rw [mput_twice, hadd.out, hput] at h2
            go_simp
            simp only [Rd.uponI_eq, Rd.uponE]
            have h3 : Holds w w' (pMap Try.prog 66 G (Mi h1) :: pBlk g5 (zv hw) 61 :: pBlk g4 (zv hb) 61 :: pBlk w.heap.size (dv m f g) 30 :: []) := h2
            exact ⟨h3.tail, h3⟩
          rintro vn -
          rintro w' - hx
          go_simp
          exact key s _ hx
        · skip
          refine Rd.v_sDI (fun wx h => h) (Rd.rEnt w (.int .i64 (h (16 * a + b) : Nat)) fun s => (pMapAt Try.prog 66 G (mput (Mi h) (.agg #[.int .i64 (a : Nat), .int .i64 (b : Nat)]) (.int .i64 (h (16 * a + b) : Nat))) (.agg #[.int .i64 (a : Nat), .int .i64 (b : Nat)]) s) :: pBlk g5 (zv hw) 61 :: pBlk g4 (zv hb) 61 :: pBlk w.heap.size (dv m f g) 30 :: []) Rd.rEnt_stable (by simp only [List.getElem?_toArray, List.getElem?_cons_zero, List.getElem?_cons_succ]; exact rfl) rfl (by go_simp) (fun wx hx hD => ?_) ?_
          · obtain ⟨w', s, hr, h2, _⟩ := run_mentry keyedM Try.underlying64 zero64 hD 0 rfl (k := (.agg #[.int .i64 (a : Nat), .int .i64 (b : Nat)])) hkk
            rw [hgetD] at hr h2
            go_simp
            simp only [Rd.uponI_eq, Rd.uponE]
            have h3 : Holds w w' ((pMapAt Try.prog 66 G (mput (Mi h) (.agg #[.int .i64 (a : Nat), .int .i64 (b : Nat)]) (.int .i64 (h (16 * a + b) : Nat))) (.agg #[.int .i64 (a : Nat), .int .i64 (b : Nat)]) s) :: pBlk g5 (zv hw) 61 :: pBlk g4 (zv hb) 61 :: pBlk w.heap.size (dv m f g) 30 :: []) := h2
            exact ⟨h3.tail, s, rfl, h3⟩
          rintro v ⟨_, _, hv⟩
          obtain ⟨s, rfl⟩ := Rd.rEnt_form hv
          clear hv
          iterate 1
            apply Rd.v_q
            · simp only [List.getElem?_toArray, List.getElem?_cons_zero, List.getElem?_cons_succ]; exact rfl
            · rfl
            · go_simp
            · intro wx hx
              unfold atG
              go_simp
              simp only [uponG]
              exact ⟨by trivial, rfl⟩
          refine Rd.v_sDI (fun wx h => Rd.rEnt_out h) (Rd.rIs w (.int .i64 (h (16 * a + b) : Nat)) ((pMapAt Try.prog 66 G (mput (Mi h) (.agg #[.int .i64 (a : Nat), .int .i64 (b : Nat)]) (.int .i64 (h (16 * a + b) : Nat))) (.agg #[.int .i64 (a : Nat), .int .i64 (b : Nat)]) s) :: pBlk g5 (zv hw) 61 :: pBlk g4 (zv hb) 61 :: pBlk w.heap.size (dv m f g) 30 :: [])) Rd.rIs_stable (by simp only [List.getElem?_toArray, List.getElem?_cons_zero, List.getElem?_cons_succ]; exact rfl) rfl (by go_simp) (fun wx hx hD => ?_) ?_
          · have lk := run_mlook keyedM Try.underlying64 zero64 (pMapAt_map (Holds.at hD 0 rfl)) hkk false
            rw [mput_same] at lk
            go_simp
            simp only [Rd.uponI_eq, Rd.uponE]
            exact ⟨hx, rfl, hD⟩
          rintro v ⟨_, _, hv⟩
          obtain rfl := hv.1
          clear hv
          iterate 1
            apply Rd.v_q
            · simp only [List.getElem?_toArray, List.getElem?_cons_zero, List.getElem?_cons_succ]; exact rfl
            · rfl
            · go_simp
            · intro wx hx
              unfold atG
              go_simp
              simp only [uponG]
              exact ⟨by trivial, rfl⟩
          refine Rd.v_sDI (fun wx h => h.2) (Rd.rHolds w fun _ => pMap Try.prog 66 G (Mi h1) :: pBlk g5 (zv hw) 61 :: pBlk g4 (zv hb) 61 :: pBlk w.heap.size (dv m f g) 30 :: []) Rd.rHolds_stable (by simp only [List.getElem?_toArray, List.getElem?_cons_zero, List.getElem?_cons_succ]; exact rfl) rfl (by go_simp) (fun wx hx hD => ?_) ?_
          · obtain ⟨w', hr, h2, _⟩ := run_estore (t := 64) hD 0 rfl (.int .i64 (((h (16 * a + b) : Nat) : Int) + 1))
            rw [mput_twice, hadd.out, hput] at h2
            go_simp
            simp only [Rd.uponI_eq, Rd.uponE]
            have h3 : Holds w w' (pMap Try.prog 66 G (Mi h1) :: pBlk g5 (zv hw) 61 :: pBlk g4 (zv hb) 61 :: pBlk w.heap.size (dv m f g) 30 :: []) := h2
            exact ⟨h3.tail, h3⟩
          rintro vn -
          rintro w' - hx
          go_simp
          exact key s _ hx
      intro s w6 H6
      clear hH hkk hgetD
      go_simp
      go_wp2
      go_roundw
      case rel => exact ⟨k + 1, by omega, by go_num, by rw [HH2.out.2]; exact H6⟩
      case measure => simp [intOf]; omega
    · obtain ⟨K, hK⟩ : ∃ K, K = m := ⟨_, rfl⟩
      obtain rfl : K = k := by omega
      rw [hK] at hH ⊢
      clear hk hkl hK
      generalize hinc : inc m = h at *
      have HINC := hide hinc; clear hinc
      have n5 := hH.cell 3 rfl hn
      have c5 := hH.cells 3 rfl
      go_wp2_with fail
      refine (KB.out _).mono ?_
      rintro e w6 ⟨rfl, hb6⟩
      have H6 := hH.call hb6
      clear hb6 hH n5 c5
      go_wp2_with (refine makeH (P := Try.prog) rfl 25 _ _ rfl 35 i2 (.slice none 0 0 : Value) 24 Try.underlying25 I2.out.1 I2.out.2.1 I2.out.2.2.1 I2.out.2.2.2 rfl nb .i64 .i64 rfl rfl (by omega) (by decide) H6 ?_)
      intro w7 H7
      have H8 := H7.perm (List.perm_append_comm (l₁ := [_]) (l₂ := [_, _, _, _]))
      clear H7 H6
      generalize w6.heap.size = G8 at *
      have H9 : Holds w w7 (pMap Try.prog 66 G (Mi h) :: pBlk g5 (zv hw) 61 :: pBlk g4 (zv hb) 61 :: pBlk w.heap.size (dv m f g) 30 :: pRow (.slice (some ⟨G8, 0, none⟩) nb nb) 35 1 nb ([] ++ List.replicate (nb - 0) (.slice none 0 0 : Value)) :: rowsP [] (rowsL h 0 nw)) := H8
      clear H8
      go_wp2
      go_loopw [51] (fun t wr => ∃ (i : Nat) (vs : List Value), i ≤ nb ∧ t = .int .i64 i ∧ vs.length = i ∧ Holds w wr (pMap Try.prog 66 G (Mi h) :: pBlk g5 (zv hw) 61 :: pBlk g4 (zv hb) 61 :: pBlk w.heap.size (dv m f g) 30 :: pRow (.slice (some ⟨G8, 0, none⟩) nb nb) 35 1 nb (vs ++ List.replicate (nb - i) (.slice none 0 0 : Value)) :: rowsP vs (rowsL h i nw))) (fun t _ => nb - (intOf t).toNat)
      case atStart => exact ⟨0, [], by omega, rfl, rfl, H9⟩
      case round =>
        clear H9
        obtain ⟨i, vs, hi, rfl, hvs, hH⟩ := hrel
        have HVS := hide hvs; clear hvs
        by_cases hil : i < nb
        · have hil' : (i : Int) < nb := by omega
          have n5 := hH.cell 3 rfl hn
          have c5 := hH.cells 3 rfl
          go_wp2_with fail
          refine (KW.out _).mono ?_
          rintro e w8 ⟨rfl, hb8⟩
          have H8 := hH.call hb8
          clear hb8 hH n5 c5
          go_wp2_with (refine makeH (P := Try.prog) rfl 35 _ _ rfl 2 i0 (.int .i64 0) 8 Try.underlying35 I0.out.1 I0.out.2.1 I0.out.2.2.1 I0.out.2.2.2 rfl nw .i64 .i64 rfl rfl (by omega) (by decide) H8 ?_)
          intro w9 H9
          rw [wl_zero] at H9
          clear H8
          generalize w8.heap.size = gr at *
          have z0 := H9.cellR 5 rfl (fill_at HVS.out hil)
          have z1 := H9.frozenR 5 rfl (by omega) i
          have hP := H9.put 5 rfl i (.slice (some ⟨gr, 0, none⟩) nw nw)
          rw [fill_set HVS.out hil] at hP
          have hQ : Holds w (w9.setCell ⟨G8, i, none⟩ (.slice (some ⟨gr, 0, none⟩) nw nw)) (pRow (.slice (some ⟨gr, 0, none⟩) nw nw) 2 1 nw (nums (wl (upto (fun b => h (16 * i + b)) 0) nw)) :: pMap Try.prog 66 G (Mi h) :: pBlk g5 (zv hw) 61 :: pBlk g4 (zv hb) 61 :: pBlk w.heap.size (dv m f g) 30 :: pRow (.slice (some ⟨G8, 0, none⟩) nb nb) 35 1 nb ((vs ++ [(.slice (some ⟨gr, 0, none⟩) nw nw)]) ++ List.replicate (nb - (i + 1)) (.slice none 0 0 : Value)) :: rowsP vs (rowsL h i nw)) := by rw [upto_zero]; exact hP
          have y0 := hQ.cellR 5 rfl (fill_mid (u := (.slice (some ⟨gr, 0, none⟩) nw nw)) (k := nb - (i + 1)) HVS.out)
          clear hP H9
          go_wp2
          clear z0 z1 y0
          go_loopw [68] (fun t wr => ∃ j : Nat, j ≤ nw ∧ t = .int .i64 j ∧ Holds w wr (pRow (.slice (some ⟨gr, 0, none⟩) nw nw) 2 1 nw (nums (wl (upto (fun b => h (16 * i + b)) j) nw)) :: pMap Try.prog 66 G (Mi h) :: pBlk g5 (zv hw) 61 :: pBlk g4 (zv hb) 61 :: pBlk w.heap.size (dv m f g) 30 :: pRow (.slice (some ⟨G8, 0, none⟩) nb nb) 35 1 nb ((vs ++ [(.slice (some ⟨gr, 0, none⟩) nw nw)]) ++ List.replicate (nb - (i + 1)) (.slice none 0 0 : Value)) :: rowsP vs (rowsL h i nw))) (fun t _ => nw - (intOf t).toNat)
          case atStart => exact ⟨0, by omega, rfl, hQ⟩
          case round =>
            clear hQ
            obtain ⟨j, hj, rfl, hH⟩ := hrel
            by_cases hjl : j < nw
            · have hjl' : (j : Int) < nw := by omega
              have hkk : IsK Try.prog 66 (.agg #[.int .i64 (i : Nat), .int .i64 (j : Nat)]) := isK_meet i j (by omega) (by omega)
              have hgetD : (Mi h (.agg #[.int .i64 (i : Nat), .int .i64 (j : Nat)])).getD (.int .i64 0) = .int .i64 (h (16 * i + j) : Nat) := by rw [← encM_at i j (by omega)]; exact Mi_get h _
              have HK := hide (And.intro hkk hgetD); clear hkk hgetD
              have ust := upto_step (fun b => h (16 * i + b)) j
              have UST := hide ust; clear ust
              go_wp2
              refine Rd.region_P (w0 := w) (pMap Try.prog 66 G (Mi h) :: pBlk g5 (zv hw) 61 :: pBlk g4 (zv hb) 61 :: pBlk w.heap.size (dv m f g) 30 :: pRow (.slice (some ⟨G8, 0, none⟩) nb nb) 35 1 nb ((vs ++ [(.slice (some ⟨gr, 0, none⟩) nw nw)]) ++ List.replicate (nb - (i + 1)) (.slice none 0 0 : Value)) :: rowsP vs (rowsL h i nw)) (pRow (.slice (some ⟨gr, 0, none⟩) nw nw) 2 1 nw (nums (wl (upto (fun b => h (16 * i + b)) j) nw)) :: pMap Try.prog 66 G (Mi h) :: pBlk g5 (zv hw) 61 :: pBlk g4 (zv hb) 61 :: pBlk w.heap.size (dv m f g) 30 :: pRow (.slice (some ⟨G8, 0, none⟩) nb nb) 35 1 nb ((vs ++ [(.slice (some ⟨gr, 0, none⟩) nw nw)]) ++ List.replicate (nb - (i + 1)) (.slice none 0 0 : Value)) :: rowsP vs (rowsL h i nw)) [11] (.q 0 <| .q 1 <| .q 2 <| .q 3 <| .q 4 <| .q 5 <| .q 6 <| .q 7 <| .q 8 <| .q 9 <| .q 10 <| .s1 11 .fin) hH (.cons _ (.refl _)) (by kernel_rfl) (by kernel_rfl) (by kernel_rfl) ?_
              iterate 11
                apply Rd.v_q
                · simp only [List.getElem?_toArray, List.getElem?_cons_zero, List.getElem?_cons_succ]; exact rfl
                · rfl
                · go_simp
                · intro wx hx
                  have y0 := hx.cellR 4 rfl (fill_mid (u := (.slice (some ⟨gr, 0, none⟩) nw nw)) (k := nb - (i + 1)) HVS.out)
                  have lk := run_mlook keyedM Try.underlying64 zero64 (Holds.at hx 0 rfl) HK.out.1 false
                  rw [HK.out.2] at lk
                  unfold atG
                  go_simp
                  simp only [uponG]
                  exact ⟨by trivial, rfl⟩
              refine Rd.v_s (Rd.rHolds w fun _ => pRow (.slice (some ⟨gr, 0, none⟩) nw nw) 2 1 nw (nums (wl (upto (fun b => h (16 * i + b)) (j + 1)) nw)) :: pMap Try.prog 66 G (Mi h) :: pBlk g5 (zv hw) 61 :: pBlk g4 (zv hb) 61 :: pBlk w.heap.size (dv m f g) 30 :: pRow (.slice (some ⟨G8, 0, none⟩) nb nb) 35 1 nb ((vs ++ [(.slice (some ⟨gr, 0, none⟩) nw nw)]) ++ List.replicate (nb - (i + 1)) (.slice none 0 0 : Value)) :: rowsP vs (rowsL h i nw)) Rd.rHolds_stable (by simp only [List.getElem?_toArray, List.getElem?_cons_zero, List.getElem?_cons_succ]; exact rfl) rfl (by go_simp) (fun wx hx hD => ?_) ?_
              · skip
                have z0 := hD.cellR 0 rfl (wl_at (upto (fun b => h (16 * i + b)) j) hjl)
                have z1 := hD.frozenR 0 rfl (by omega) j
                go_simp
                simp only [Rd.uponE]
                have h2 := hD.put 0 rfl j (.int .i64 (h (16 * i + j) : Nat))
                rw [wl_set, UST.out] at h2
                simp only [List.append_assoc, List.cons_append, List.nil_append] at h2 ⊢
                exact ⟨h2.tail, h2⟩
              rintro vn -
              rintro w10 - hx
              clear hH
              have hx2 : Holds w w10 (pRow (.slice (some ⟨gr, 0, none⟩) nw nw) 2 1 nw (nums (wl (upto (fun b => h (16 * i + b)) (j + 1)) nw)) :: pMap Try.prog 66 G (Mi h) :: pBlk g5 (zv hw) 61 :: pBlk g4 (zv hb) 61 :: pBlk w.heap.size (dv m f g) 30 :: pRow (.slice (some ⟨G8, 0, none⟩) nb nb) 35 1 nb ((vs ++ [(.slice (some ⟨gr, 0, none⟩) nw nw)]) ++ List.replicate (nb - (i + 1)) (.slice none 0 0 : Value)) :: rowsP vs (rowsL h i nw)) := hx
              go_simp
              go_wp2
              go_roundw
              case rel => exact ⟨j + 1, by omega, by go_num, hx2⟩
              case measure => simp [intOf]; omega
            · obtain ⟨J, hJ⟩ : ∃ J, J = nw := ⟨_, rfl⟩
              obtain rfl : J = j := by omega
              rw [hJ] at hH
              have hfin : Holds w wr ([pMap Try.prog 66 G (Mi h), pBlk g5 (zv hw) 61, pBlk g4 (zv hb) 61, pBlk w.heap.size (dv m f g) 30, pRow (.slice (some ⟨G8, 0, none⟩) nb nb) 35 1 nb ((vs ++ [(.slice (some ⟨gr, 0, none⟩) nw nw)]) ++ List.replicate (nb - (i + 1)) (.slice none 0 0 : Value))] ++ rowsP (vs ++ [(.slice (some ⟨gr, 0, none⟩) nw nw)]) (rowsL h (i + 1) nw)) := by
                rw [rowsL_succ]
                refine Holds.rowEnd (A := [_, _, _, _, _]) (by rw [HVS.out, rowsL_length]) ?_
                have e : wl (upto (fun b => h (16 * i + b)) nw) nw = wl (fun b => h (16 * i + b)) nw := wl_congr fun x hx => by unfold upto; rw [if_pos hx]
                rw [e] at hH
                unfold pInts
                rw [wl_length]
                exact hH
              rw [← hJ]
              clear hJ hj hjl hH
              go_wp2
              go_roundw
              case rel => exact ⟨i + 1, vs ++ [_], by omega, by go_num, by rw [List.length_append, HVS.out]; rfl, by first | exact hfin | (rename_i hJ2; exact hfin)⟩
              case measure => simp [intOf]; omega
        · obtain rfl : i = nb := by omega
          clear hi hil
          have hown : Own2 w.heap.size wr (.slice (some ⟨G8, 0, none⟩) i i) (rowsL h i nw) := by
            refine Holds.own2 (vs := vs) (A := [pMap Try.prog 66 G (Mi h), pBlk g5 (zv hw) 61, pBlk g4 (zv hb) 61, pBlk w.heap.size (dv m f g) 30]) (by rw [HVS.out, rowsL_length]) ?_
            unfold pVals
            rw [HVS.out]
            rw [Nat.sub_self, List.replicate_zero, List.append_nil] at hH
            exact hH
          have hlow := hH.low
          clear hH
          go_wp2
          go_ret2
          exact ⟨_, rfl, hlow, by rw [HINC.out]; exact hown⟩
end Go.Proofs.Ytgomfphdgekniaa
