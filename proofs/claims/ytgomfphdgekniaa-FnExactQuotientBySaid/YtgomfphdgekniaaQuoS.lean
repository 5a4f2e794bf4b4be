/- spec.QuotientBy -/
import Derived.Test.YtgomfphdgekniaaQuoP
namespace Go.Proofs.Ytgomfphdgekniaa
open Go.RowKit

def wl (h : Nat → Nat) (m : Nat) : List Nat := (List.range m).map h
theorem wl_length (h : Nat → Nat) (m : Nat) : (wl h m).length = m := by unfold wl; simp
theorem wl_at (h : Nat → Nat) {m k : Nat} (hk : k < m) : (nums (wl h m))[k]? = some (.int .i64 (h k : Nat)) := by unfold nums wl; simp [hk]
theorem wl_set (h : Nat → Nat) (m x v : Nat) : (nums (wl h m)).set x (.int .i64 (v : Nat)) = nums (wl (fset h x v) m) := by
  apply List.ext_getElem?
  intro i
  rw [List.getElem?_set, nums_length, wl_length]
  rcases Nat.lt_or_ge i m with c | c
  · rw [wl_at _ c]
    by_cases e : x = i
    · subst e; rw [if_pos rfl, if_pos c, wl_at _ c]; unfold fset; rw [if_pos rfl]
    · rw [if_neg e, wl_at _ c]; unfold fset; rw [if_neg (fun h => e h.symm)]
  · have h1 : ∀ h' : Nat → Nat, (nums (wl h' m))[i]? = none := fun h' => List.getElem?_eq_none (by rw [nums_length, wl_length]; omega)
    rw [h1, h1]
    by_cases e : x = i
    · subst e; rw [if_pos rfl, if_neg (by omega)]
    · rw [if_neg e]
theorem wl_zero (m : Nat) : List.replicate m (Value.int .i64 0) = nums (wl (fun _ => 0) m) := by
  unfold nums wl
  apply List.ext_getElem?
  intro i
  rcases Nat.lt_or_ge i m with c | c
  · simp [c]
  · rw [List.getElem?_eq_none (by simpa using c), List.getElem?_eq_none (by simpa using c)]
namespace Rd
/-- uponE behind a name that nothing unfolds -/
@[irreducible] def uponI (P : Program) (C : World → Prop) (R : Value → World → Prop) (w : World) (r : Result Next) : Prop := uponE P C R w r
theorem uponI_eq {P : Program} {C : World → Prop} {R : Value → World → Prop} {w : World} {r : Result Next} : uponI P C R w r = uponE P C R w r := by unfold uponI; rfl
theorem v_sI {P : Program} {ops : Array Oper} {C : World → Prop} {E : Nat → Bool} {k : Nat} {a : Act} {D : World → Prop} {N : Act → (World → Prop) → Prop} {o : Oper} (R : Value → World → Prop) (hR : ∀ v, Stable (R v)) (ho : ops[k]? = some o) (hE : E k = true) (hw : Region.wanted o (yielded ops a.tmps) = true) (h1 : ∀ w, C w → D w → uponI P C R w ((execOp a.eval o).run P w))
    (h2 : ∀ v, (∃ w, C w ∧ R v w) → N (a.put o.dst v) (R v)) : opV P ops C E k N a D :=
  v_s R hR ho hE hw (fun w hc hd => by have := h1 w hc hd; rwa [uponI_eq] at this) h2
/-- make([]T, n) in a region -/
theorem upon_make {P : Program} {C : World → Prop} {R : Value → World → Prop} {o : Oper} {a : Act} {w0 w : World} {L : List Part} (H : Holds w0 w L) (t : TypeId) (x y : Operand) (ho : o.op = .makeSlice t x y) (e : TypeId) (i : TypeInfo) (z : Value) (bytes : Nat) (ht : P.underlying t = some (.slice e)) (hi : P.info? e = some i) (hz : i.zero = some z)
    (hsize : i.size = 1) (hby : i.bytes = bytes) (hzs : z.cells = #[z]) (n : Nat) (kx ky : IntKind) (hx : a.eval x = .int kx (n : Int)) (hy : a.eval y = .int ky (n : Int)) (hn : n ≤ 1000000) (hb : bytes ≤ 64)
    (h : ∀ w', Holds w0 w' (pRow (.slice (some ⟨w.heap.size, 0, none⟩) n n) e 1 n (List.replicate n z) :: L) → C w' ∧ R (.slice (some ⟨w.heap.size, 0, none⟩) n n) w') : uponI P C R w ((execOp a.eval o).run P w) := by
  rw [uponI_eq]
  have h1 : bytes * n ≤ 64 * 1000000 := Nat.mul_le_mul hb hn
  obtain ⟨w', hr, ho', hg⟩ := run_makeSlice_full (P := P) w w.heap.size t e i z 1 ht hi hz hsize kx ky n (by omega) (by rw [hby]; omega) (by unfold maxLen; omega) (Nat.le_refl _)
  rw [hzs, Nat.mul_one, toList_madeCells_one] at ho'
  unfold execOp
  simp only [ho, hx, hy, Sem.run_bind, Sem.run_pure, Result.andThen_ok, hr]
  exact h w' (H.newRow ⟨hg.os, hg.tape, hg.output, hg.size, fun g hl => hg.block g hl (by simp)⟩ ho')
/-- a list of lists that a call has handed back, and what lies beside it; a list that make has laid -/
def rVals (w0 : World) (n : Nat) (F : Value → List Value → List Part) : Value → World → Prop := fun v w => ∃ A c vs, v = .slice A n c ∧ vs.length = n ∧ Holds w0 w (F v vs)
theorem rVals_stable {w0 : World} {n : Nat} {F : Value → List Value → List Part} (v : Value) : Stable (rVals w0 n F v) := fun _ _ ⟨A, c, vs, e, hl, h⟩ hb => ⟨A, c, vs, e, hl, h.call hb⟩
theorem rVals_out {w0 : World} {n : Nat} {F : Value → List Value → List Part} {v : Value} {w : World} (h : rVals w0 n F v w) : ∃ vs, vs.length = n ∧ Holds w0 w (F v vs) := by
  obtain ⟨A, c, vs, _, hl, h⟩ := h
  exact ⟨vs, hl, h⟩
theorem rVals_elim {w0 : World} {n : Nat} {F : Value → List Value → List Part} {v : Value} {w : World} (h : rVals w0 n F v w) {Q : Prop} (k : ∀ vs, vs.length = n → Holds w0 w (F v vs) → Q) : Q := by
  obtain ⟨A, c, vs, _, hl, h⟩ := h
  exact k vs hl h
theorem rVals_form {w0 : World} {n : Nat} {F : Value → List Value → List Part} {v : Value} {w : World} (h : rVals w0 n F v w) : ∃ A c, v = .slice A n c := by
  obtain ⟨A, c, vs, e, _⟩ := h
  exact ⟨A, c, e⟩
def rMade (w0 : World) (n m : Nat) (F : Nat → List Value → List Part) : Value → World → Prop := fun u w => ∃ gt vs, u = .slice (some ⟨gt, 0, none⟩) m m ∧ vs.length = n ∧ Holds w0 w (F gt vs)
theorem rMade_form {w0 : World} {n m : Nat} {F : Nat → List Value → List Part} {v : Value} {w : World} (h : rMade w0 n m F v w) : ∃ gt, v = .slice (some ⟨gt, 0, none⟩) m m := by
  obtain ⟨A, vs, e, _⟩ := h
  exact ⟨A, e⟩
theorem rMade_elim {w0 : World} {n m gt : Nat} {F : Nat → List Value → List Part} {w : World} (h : rMade w0 n m F (.slice (some ⟨gt, 0, none⟩) m m) w) {Q : Prop} (k : ∀ vs, vs.length = n → Holds w0 w (F gt vs) → Q) : Q := by
  obtain ⟨A, vs, e, hl, h⟩ := h
  injection e with e
  injection e with e
  injection e with e
  subst e
  exact k vs hl h
theorem rMade_out {w0 : World} {n m gt : Nat} {F : Nat → List Value → List Part} {w : World} (h : rMade w0 n m F (.slice (some ⟨gt, 0, none⟩) m m) w) : ∃ vs, vs.length = n ∧ Holds w0 w (F gt vs) := by
  obtain ⟨A, vs, e, hl, h⟩ := h
  injection e with e
  injection e with e
  injection e with e
  subst e
  exact ⟨vs, hl, h⟩
theorem rMade_stable {w0 : World} {n m : Nat} {F : Nat → List Value → List Part} (v : Value) : Stable (rMade w0 n m F v) := fun _ _ ⟨A, vs, e, hl, h⟩ hb => ⟨A, vs, e, hl, h.call hb⟩
theorem upon_makeV {P : Program} {C : World → Prop} {R : Value → World → Prop} {o : Oper} {a : Act} {w0 w : World} {k : Nat} {F : Value → List Value → List Part} {v : Value} (H : rVals w0 k F v w) (t : TypeId) (x y : Operand) (ho : o.op = .makeSlice t x y) (e : TypeId) (i : TypeInfo) (z : Value) (bytes : Nat) (ht : P.underlying t = some (.slice e)) (hi : P.info? e = some i) (hz : i.zero = some z)
    (hsize : i.size = 1) (hby : i.bytes = bytes) (hzs : z.cells = #[z]) (n : Nat) (kx ky : IntKind) (hx : a.eval x = .int kx (n : Int)) (hy : a.eval y = .int ky (n : Int)) (hn : n ≤ 1000000) (hb : bytes ≤ 64)
    (h : ∀ vs w', vs.length = k → Holds w0 w' (pRow (.slice (some ⟨w.heap.size, 0, none⟩) n n) e 1 n (List.replicate n z) :: F v vs) → C w' ∧ R (.slice (some ⟨w.heap.size, 0, none⟩) n n) w') : uponI P C R w ((execOp a.eval o).run P w) := by
  obtain ⟨A, c, vs, _, hl, H⟩ := H
  exact upon_make H t x y ho e i z bytes ht hi hz hsize hby hzs n kx ky hx hy hn hb fun w' hw' => h vs w' hl hw'
end Rd

set_option maxRecDepth 100000 in
set_option maxHeartbeats 2000000 in
theorem sQuotientBy_any (n : Int) (f g : Nat → Nat) (hf : ∀ i, f i < 256) (hg : ∀ i, g i < 256) (p : Nat → Nat) (hp : ∀ i, p i < 256) (w : World) :
    Calls Try.prog 21 #[.agg (dv n f g), .agg (av p)] w fun e w' => ∃ v, e = .returned (.tuple #[.agg (quoA n f g p), v, .int .i64 (quoOk n f g p : Nat)]) ∧ Below w.heap.size w w' ∧ Own1 w.heap.size w' v (quoL n f g p) := by
  have C1 := hide fun w => sIs_any n f g hf hg w
  have C2 := hide fun w => sPerm_any p hp n w
  clear hf hg hp
  rcases h1 : desB n f g with _ | _
  · rw [h1] at C1
    have ha : quoOk n f g p = 1 := by unfold quoOk; rw [if_neg (by simp [h1])]
    have hb1 : quoA n f g p = dv 0 (fun _ => 0) (fun _ => 0) := by unfold quoA; rw [if_neg (by omega)]
    have hb2 : quoL n f g p = [] := by unfold quoL; rw [if_neg (by omega)]
    rw [ha, hb1, hb2]
    clear h1 ha hb1 hb2
    have HH0 := ((((Holds.start w).blk (dv n f g) 30 w.heap.size rfl).blk (av p) 28 (w.heap.size + 1) (by simp)).blk (dv 0 (fun _ => 0) (fun _ => 0)) 30 (w.heap.size + 1 + 1) (by simp))
    have hn := dv_n n f g
    go_enter Try.func21, Try.ntmps21
    go_wp2_with fail
    try rw [← dv_zero]
    refine (C1.out _).mono ?_
    rintro e w1 ⟨rfl, hb⟩
    have HH1 := HH0.call hb
    clear hb HH0
    have r1 := HH1.rowOk 0 rfl (dv_size _ _ _)
    have H2 := HH1.setRow 0 rfl (dv 0 (fun _ => 0) (fun _ => 0))
    go_wp2
    exact res_agg3 (p := 4) (t := 5) (s := 6) (g := (w.heap.size + 1 + 1)) (v := .slice none 0 0) (u := .int .i64 1) aggD (dv_size _ _ _) rfl rfl rfl rfl rfl (H2.at 0 rfl) ⟨_, rfl, H2.low, Own1.nil _ _⟩

  rw [h1] at C1
  rcases h2 : permB p n with _ | _
  · rw [h2] at C2
    have ha : quoOk n f g p = 1 := by unfold quoOk; rw [if_neg (by simp [h2])]
    have hb1 : quoA n f g p = dv 0 (fun _ => 0) (fun _ => 0) := by unfold quoA; rw [if_neg (by omega)]
    have hb2 : quoL n f g p = [] := by unfold quoL; rw [if_neg (by omega)]
    rw [ha, hb1, hb2]
    clear h1 h2 ha hb1 hb2
    have HH0 := ((((Holds.start w).blk (dv n f g) 30 w.heap.size rfl).blk (av p) 28 (w.heap.size + 1) (by simp)).blk (dv 0 (fun _ => 0) (fun _ => 0)) 30 (w.heap.size + 1 + 1) (by simp))
    have hn := dv_n n f g
    go_enter Try.func21, Try.ntmps21
    go_wp2_with fail
    try rw [← dv_zero]
    refine (C1.out _).mono ?_
    rintro e w1 ⟨rfl, hb⟩
    have HH1 := HH0.call hb
    clear hb HH0
    have c1 := HH1.cells 2 rfl
    have d1 := HH1.cells 1 rfl
    have r1 := HH1.rowOk 0 rfl (dv_size _ _ _)
    have n1 := HH1.cell 2 rfl hn
    go_wp2_with fail
    try rw [← dv_zero]
    refine (C2.out _).mono ?_
    rintro e w2 ⟨rfl, hb⟩
    have HH2 := HH1.call hb
    clear hb HH1
    have r2 := HH2.rowOk 0 rfl (dv_size _ _ _)
    clear c1 d1 r1 n1
    have H2 := HH2.setRow 0 rfl (dv 0 (fun _ => 0) (fun _ => 0))
    go_wp2
    exact res_agg3 (p := 4) (t := 5) (s := 6) (g := (w.heap.size + 1 + 1)) (v := .slice none 0 0) (u := .int .i64 1) aggD (dv_size _ _ _) rfl rfl rfl rfl rfl (H2.at 0 rfl) ⟨_, rfl, H2.low, Own1.nil _ _⟩

  rw [h2] at C2
  obtain ⟨m, rfl, hd⟩ := desB_true h1
  obtain ⟨m', e, hpm⟩ := permB_true h2
  obtain rfl : m = m' := by omega
  clear e
  have hm := hd.le
  have C3 := hide fun w => sRename_any f g p m hd.black hd.white hpm w
  have HH0 := ((((Holds.start w).blk (dv m f g) 30 w.heap.size rfl).blk (av p) 28 (w.heap.size + 1) (by simp)).blk (dv 0 (fun _ => 0) (fun _ => 0)) 30 (w.heap.size + 1 + 1) (by simp))
  have hn := dv_n m f g
  go_enter Try.func21, Try.ntmps21
  go_wp2_with fail
  try rw [← dv_zero]
  refine (C1.out _).mono ?_
  rintro e w1 ⟨rfl, hb⟩
  have HH1 := HH0.call hb
  clear hb HH0
  have c1 := HH1.cells 2 rfl
  have d1 := HH1.cells 1 rfl
  have r1 := HH1.rowOk 0 rfl (dv_size _ _ _)
  have n1 := HH1.cell 2 rfl hn
  go_wp2_with fail
  try rw [← dv_zero]
  refine (C2.out _).mono ?_
  rintro e w2 ⟨rfl, hb⟩
  have HH2 := HH1.call hb
  clear hb HH1
  have c2 := HH2.cells 2 rfl
  have d2 := HH2.cells 1 rfl
  have r2 := HH2.rowOk 0 rfl (dv_size _ _ _)
  have n2 := HH2.cell 2 rfl hn
  clear c1 d1 r1 n1
  have ha0 : quoOk m f g p = if eqDB m (renF p f m) (renF p g m) m f g = true then 0 else 5 := by unfold quoOk; rw [if_pos ⟨h1, h2⟩, Int.toNat_natCast]
  have HA0 := hide ha0; clear ha0 h1 h2
  go_wp2
  refine Rd.region_P (w0 := w) [pBlk (w.heap.size + 1 + 1) (dv 0 (fun _ => 0) (fun _ => 0)) 30, pBlk (w.heap.size + 1) (av p) 28, pBlk w.heap.size (dv m f g) 30] [pBlk (w.heap.size + 1 + 1) (dv 0 (fun _ => 0) (fun _ => 0)) 30, pBlk (w.heap.size + 1) (av p) 28, pBlk w.heap.size (dv m f g) 30] [] (.q 0 <| .q 1 <| .q 2 <| .q 3 <| .q 4 <| .q 5 .fin) HH2 (.refl _) (by kernel_rfl) (by kernel_rfl) (by kernel_rfl) ?_
  iterate 2
    apply Rd.v_q
    · simp only [List.getElem?_toArray, List.getElem?_cons_zero, List.getElem?_cons_succ]; exact rfl
    · rfl
    · go_simp
    · intro wx hx
      have q1 := hx.cells 2 rfl
      have q2 := hx.cells 1 rfl
      unfold atG
      go_simp
      simp only [uponG]
      exact ⟨by trivial, rfl⟩
  iterate 1
    apply Rd.v_q
    · simp only [List.getElem?_toArray, List.getElem?_cons_zero, List.getElem?_cons_succ]; exact rfl
    · rfl
    · go_simp
    · intro wx hx
      have q1 := hx.cells 2 rfl
      have q2 := hx.cells 1 rfl
      unfold atG
      go_simp
      simp only [uponG]
      exact ⟨by trivial, C3.out wx⟩
  iterate 3
    apply Rd.v_q
    · simp only [List.getElem?_toArray, List.getElem?_cons_zero, List.getElem?_cons_succ]; exact rfl
    · rfl
    · go_simp
    · intro wx hx
      have q1 := hx.cells 2 rfl
      have q2 := hx.cells 1 rfl
      unfold atG
      go_simp
      simp only [uponG]
      exact ⟨by trivial, rfl⟩
  rintro w3 - HH3
  clear HH2 c2 d2 r2 n2
  rcases hq : eqDB m (renF p f m) (renF p g m) m f g with _ | _
  · have ha : quoOk m f g p = 5 := by rw [HA0.out, if_neg (by simp [hq])]
    have hb1 : quoA m f g p = dv 0 (fun _ => 0) (fun _ => 0) := by unfold quoA; rw [if_neg (by omega)]
    have hb2 : quoL m f g p = [] := by unfold quoL; rw [if_neg (by omega)]
    have HANS := hide (And.intro ha (And.intro hb1 hb2)); clear ha hb1 hb2
    clear hd hpm HA0 hm
    have r3 := HH3.rowOk 0 rfl (dv_size _ _ _)
    go_simp
    have H2 := HH3.setRow 0 rfl (dv 0 (fun _ => 0) (fun _ => 0))
    go_wp2
    exact res_agg3 (p := 4) (t := 5) (s := 6) (g := (w.heap.size + 1 + 1)) (v := .slice none 0 0) (u := .int .i64 5) aggD (dv_size _ _ _) rfl rfl rfl rfl rfl (H2.at 0 rfl) ⟨_, by rw [HANS.out.1, HANS.out.2.1]; rfl, H2.low, by rw [HANS.out.2.2]; exact Own1.nil _ _⟩
  have ha : quoOk m f g p = 0 := by rw [HA0.out, if_pos hq]
  have hb1 : quoA m f g p = dv (cycs p m).length (quoF p m f) (quoF p m g) := by unfold quoA; rw [if_pos ha, Int.toNat_natCast]
  have hb2 : quoL m f g p = wl (whichF p m) m := by unfold quoL; rw [if_pos ha, Int.toNat_natCast]; rfl
  have hqf : ∀ f, quoF p m f = upto (fun k => whichF p m (f (((cycs p m).getD k []).getD 0 0))) (cycs p m).length := fun f => rfl
  have hwt : whichF p m = numT (cycs p m) (cycs p m).length := rfl
  have hle := cycs_le hpm
  have hbd := hide fun (x : Nat) (c : List Nat) (h1 : c ∈ cycs p m) (h2 : x ∈ c) => cyc_lt hpm h1 h2
  have hcl := hide fun (c : List Nat) (h1 : c ∈ cycs p m) => lens_pos hpm.2.2.1 hpm.2.1 (List.mem_map.2 ⟨c, h1, rfl⟩)
  have hwlt := hide fun (x : Nat) (hx : x < m) => which_lt hpm hx
  have LF := hide hd.bf.1
  have LG := hide hd.bg.1
  have C4 := hide fun w => sCycles_any p m hpm w
  rw [hqf, hqf] at hb1
  have HANS := hide (And.intro ha (And.intro hb1 hb2)); clear ha hb1 hb2 hqf
  have HWT := hide hwt; clear hwt hq HA0 C3 hd hpm
  generalize whichF p m = h at *
  generalize cycs p m = cs at *
  obtain ⟨i0, hi, hz0, hz1, hz2⟩ := info_parts info64
  have I0 := hide (And.intro hi (And.intro hz0 (And.intro hz1 hz2))); clear hi hz0 hz1 hz2
  go_simp
  go_wp2
  refine Rd.region_P (w0 := w) [pBlk (w.heap.size + 1 + 1) (dv 0 (fun _ => 0) (fun _ => 0)) 30, pBlk (w.heap.size + 1) (av p) 28, pBlk w.heap.size (dv m f g) 30] [pBlk (w.heap.size + 1 + 1) (dv 0 (fun _ => 0) (fun _ => 0)) 30, pBlk (w.heap.size + 1) (av p) 28, pBlk w.heap.size (dv m f g) 30] [3, 6] (.q 0 <| .q 1 <| .q 2 <| .q 4 <| .q 5 <| .s2 3 (.q 7 <| .s1 6 <| .q 8 .fin) 6 (.s1 3 <| .q 7 <| .q 8 .fin)) HH3 (.refl _) (by kernel_rfl) (by kernel_rfl) (by kernel_rfl) ?_
  iterate 5
    apply Rd.v_q
    · simp only [List.getElem?_toArray, List.getElem?_cons_zero, List.getElem?_cons_succ]; exact rfl
    · rfl
    · go_simp
    · intro wx hx
      have q1 := hx.cells 2 rfl
      have q2 := hx.cells 1 rfl
      have q3 := hx.cell 2 rfl hn
      unfold atG
      go_simp
      simp only [uponG]
      exact ⟨by trivial, rfl⟩
  refine ⟨?_, ?_⟩
  refine Rd.v_sI (Rd.rVals w cs.length fun v vs => pBlk (w.heap.size + 1 + 1) (dv 0 (fun _ => 0) (fun _ => 0)) 30 :: pBlk (w.heap.size + 1) (av p) 28 :: pBlk w.heap.size (dv m f g) 30 :: pVals v vs :: rowsP vs cs) Rd.rVals_stable (by simp only [List.getElem?_toArray, List.getElem?_cons_zero, List.getElem?_cons_succ]; exact rfl) rfl (by go_simp) (fun wx hx hD => ?_) ?_
  · go_simp
    simp only [Rd.uponI_eq, Rd.uponE]
    refine ⟨by trivial, (C4.out wx).mono ?_⟩
    rintro e wy ⟨v, rfl, hb, ho⟩
    obtain ⟨A, c, vs, rfl, hv⟩ := own2_form ho
    have hj := hx.joinL (Holds.ofOwn2 hb hv)
    exact ⟨_, rfl, hx.call hb, A, c, vs, rfl, hv.len, hj⟩
  rintro v ⟨_, _, hv⟩
  obtain ⟨A, c, rfl⟩ := Rd.rVals_form hv
  clear hv
  iterate 1
    apply Rd.v_q
    · simp only [List.getElem?_toArray, List.getElem?_cons_zero, List.getElem?_cons_succ]; exact rfl
    · rfl
    · go_simp
    · intro wx hx
      unfold atG
      go_simp
      simp only [uponG]
      exact ⟨by trivial, rfl⟩
  refine Rd.v_sI (Rd.rMade w cs.length m fun gt vs => (pRow (.slice (some ⟨gt, 0, none⟩) m m) 2 1 m (nums (wl (fun _ => 0) m)) :: pBlk (w.heap.size + 1 + 1) (dv 0 (fun _ => 0) (fun _ => 0)) 30 :: pBlk (w.heap.size + 1) (av p) 28 :: pBlk w.heap.size (dv m f g) 30 :: pVals (.slice A cs.length c) vs :: rowsP vs cs)) Rd.rMade_stable (by simp only [List.getElem?_toArray, List.getElem?_cons_zero, List.getElem?_cons_succ]; exact rfl) rfl (by go_simp) (fun wx hx hD => ?_) ?_
  · apply Rd.upon_makeV hD (t := 35) (e := 2) (i := i0) (z := .int .i64 0) (bytes := 8) (n := m) (kx := .i64) (ky := .i64)
    case ho => exact rfl
    case ht => exact Try.underlying35
    case hi => exact I0.out.1
    case hz => exact I0.out.2.1
    case hsize => exact I0.out.2.2.1
    case hby => exact I0.out.2.2.2
    case hzs => exact rfl
    case hx => go_simp
    case hy => go_simp
    case hn => omega
    case hb => decide
    intro vs w' hl hw'
    rw [wl_zero] at hw'
    refine ⟨hw'.sub ?_, wx.heap.size, vs, rfl, hl, hw'⟩
    exact .cons _ (.cons_cons _ (.cons_cons _ (.cons_cons _ (List.nil_sublist _))))
  rintro u ⟨_, _, hv⟩
  obtain ⟨gt, rfl⟩ := Rd.rMade_form hv
  clear hv
  iterate 1
    apply Rd.v_q
    · simp only [List.getElem?_toArray, List.getElem?_cons_zero, List.getElem?_cons_succ]; exact rfl
    · rfl
    · go_simp
    · intro wx hx
      unfold atG
      go_simp
      simp only [uponG]
      exact ⟨by trivial, rfl⟩
  rintro w4 - hv
  obtain ⟨vs, HLV, HH4⟩ := Rd.rMade_out hv
  clear hv
  rotate_left
  refine Rd.v_sI (Rd.rMade w 0 m fun gt _ => (pRow (.slice (some ⟨gt, 0, none⟩) m m) 2 1 m (nums (wl (fun _ => 0) m)) :: pBlk (w.heap.size + 1 + 1) (dv 0 (fun _ => 0) (fun _ => 0)) 30 :: pBlk (w.heap.size + 1) (av p) 28 :: pBlk w.heap.size (dv m f g) 30 :: [])) Rd.rMade_stable (by simp only [List.getElem?_toArray, List.getElem?_cons_zero, List.getElem?_cons_succ]; exact rfl) rfl (by go_simp) (fun wx hx hD => ?_) ?_
  · apply Rd.upon_make hD (t := 35) (e := 2) (i := i0) (z := .int .i64 0) (bytes := 8) (n := m) (kx := .i64) (ky := .i64)
    case ho => exact rfl
    case ht => exact Try.underlying35
    case hi => exact I0.out.1
    case hz => exact I0.out.2.1
    case hsize => exact I0.out.2.2.1
    case hby => exact I0.out.2.2.2
    case hzs => exact rfl
    case hx => go_simp
    case hy => go_simp
    case hn => omega
    case hb => decide
    intro w' hw'
    rw [wl_zero] at hw'
    exact ⟨hw'.tail, wx.heap.size, [], rfl, rfl, hw'⟩
  rintro u ⟨_, _, hv⟩
  obtain ⟨gt, rfl⟩ := Rd.rMade_form hv
  clear hv
  refine Rd.v_sI (Rd.rVals w cs.length fun v vs => (pRow (.slice (some ⟨gt, 0, none⟩) m m) 2 1 m (nums (wl (fun _ => 0) m)) :: pBlk (w.heap.size + 1 + 1) (dv 0 (fun _ => 0) (fun _ => 0)) 30 :: pBlk (w.heap.size + 1) (av p) 28 :: pBlk w.heap.size (dv m f g) 30 :: pVals v vs :: rowsP vs cs)) Rd.rVals_stable (by simp only [List.getElem?_toArray, List.getElem?_cons_zero, List.getElem?_cons_succ]; exact rfl) rfl (by go_simp) (fun wx hx hD => ?_) ?_
  · go_simp
    simp only [Rd.uponI_eq, Rd.uponE]
    refine Rd.rMade_elim hD fun _ _ hD => ?_
    refine ⟨by trivial, (C4.out wx).mono ?_⟩
    rintro e wy ⟨v, rfl, hb, ho⟩
    obtain ⟨A, c, vs, rfl, hv⟩ := own2_form ho
    have hj := hD.joinL (Holds.ofOwn2 hb hv)
    exact ⟨_, rfl, hx.call hb, A, c, vs, rfl, hv.len, hj⟩
  rintro v ⟨_, _, hv⟩
  obtain ⟨A, c, rfl⟩ := Rd.rVals_form hv
  clear hv
  iterate 2
    apply Rd.v_q
    · simp only [List.getElem?_toArray, List.getElem?_cons_zero, List.getElem?_cons_succ]; exact rfl
    · rfl
    · go_simp
    · intro wx hx
      unfold atG
      go_simp
      simp only [uponG]
      exact ⟨by trivial, rfl⟩
  rintro w4 - hv
  obtain ⟨vs, HLV, HH4⟩ := Rd.rVals_out hv
  clear hv
  all_goals
    replace HLV := hide HLV
    clear HH3
    go_wp2
    go_loopw [9] (fun t wr => ∃ i : Nat, i ≤ cs.length ∧ t = .int .i64 i ∧ Holds w wr (pRow (.slice (some ⟨gt, 0, none⟩) m m) 2 1 m (nums (wl (numT cs i) m)) :: pBlk (w.heap.size + 1 + 1) (dv 0 (fun _ => 0) (fun _ => 0)) 30 :: pBlk (w.heap.size + 1) (av p) 28 :: pBlk w.heap.size (dv m f g) 30 :: pVals (.slice A cs.length c) vs :: rowsP vs cs)) (fun t _ => cs.length - (intOf t).toNat)
    case atStart => exact ⟨0, by omega, rfl, HH4⟩
    case round =>
      clear HH4
      obtain ⟨i, hi, rfl, hH⟩ := hrel
      by_cases hil : i < cs.length
      · have hil' : (i : Int) < cs.length := by omega
        obtain ⟨g0, c0, A', c', e0, hvi, x1, hpart⟩ := hH.rowAt HLV.out 4 rfl (fun _ => rfl) hil
        injection e0 with e0 e0a e0b
        subst e0
        clear e0a e0b
        have HX := hide hvi; clear hvi
        have hs : numT cs (i + 1) = numA cs[i] i cs[i].length (numT cs i) := by
          show numA (cs.getD i []) i (cs.getD i []).length (numT cs i) = _
          rw [List.getD_eq_getElem?_getD, List.getElem?_eq_getElem hil]; rfl
        have hmem := List.getElem_mem hil
        have hbi := fun x hx => hbd.out x _ hmem hx
        have hcil := (hcl.out _ hmem).2
        generalize numT cs i = h0 at *
        generalize cs[i] = ci at *
        have HS := hide hs; clear hs
        have HBI := hide hbi; clear hbi hmem
        have hpt : ∀ h : Nat → Nat, (pRow (.slice (some ⟨gt, 0, none⟩) m m) 2 1 m (nums (wl h m)) :: pBlk (w.heap.size + 1 + 1) (dv 0 (fun _ => 0) (fun _ => 0)) 30 :: pBlk (w.heap.size + 1) (av p) 28 :: pBlk w.heap.size (dv m f g) 30 :: pVals (.slice (some ⟨g0, 0, none⟩) cs.length c) vs :: rowsP vs cs)[i + (4 + 1)]? = some (pInts (.slice A' ci.length c') ci) := fun h => hpart
        have HPT := hide hpt; clear hpt hpart
        go_wp2
        clear x1
        go_loopw [10] (fun t wr => ∃ j : Nat, j ≤ ci.length ∧ t = .int .i64 j ∧ Holds w wr (pRow (.slice (some ⟨gt, 0, none⟩) m m) 2 1 m (nums (wl (numA ci i j h0) m)) :: pBlk (w.heap.size + 1 + 1) (dv 0 (fun _ => 0) (fun _ => 0)) 30 :: pBlk (w.heap.size + 1) (av p) 28 :: pBlk w.heap.size (dv m f g) 30 :: pVals (.slice (some ⟨g0, 0, none⟩) cs.length c) vs :: rowsP vs cs)) (fun t _ => ci.length - (intOf t).toNat)
        case atStart => exact ⟨0, by omega, rfl, hH⟩
        case round =>
          clear hH
          obtain ⟨j, hj, rfl, hH⟩ := hrel
          have hpart := HPT.out (numA ci i j h0)
          have x1 := hH.cellV 4 rfl HLV.out HX.out
          by_cases hjl : j < ci.length
          · obtain ⟨g2, c2, e2, _, y1, _⟩ := hH.ints (i + 5) hpart hjl
            injection e2 with e2 e2a e2b
            subst e2
            clear e2a e2b
            have hst : numA ci i (j + 1) h0 = fset (numA ci i j h0) (ci.getD j 0) i := rfl
            have hgd : ci.getD j 0 = ci[j] := by rw [List.getD_eq_getElem?_getD, List.getElem?_eq_getElem hjl]; rfl
            rw [hgd] at hst
            have hx := HBI.out _ (List.getElem_mem hjl)
            generalize ci[j] = x at *
            have hx16 : (x : Int) < m := by omega
            have HST := hide hst; clear hst hgd
            have z0 : wr.cell? ⟨gt, x, none⟩ = some (.int .i64 (numA ci i j h0 x : Nat)) := hH.cellR 0 rfl (wl_at _ hx)
            have z1 := hH.frozenR 0 rfl (by omega) x
            have hP := hH.put 0 rfl x (.int .i64 (i : Nat))
            rw [wl_set, ← HST.out] at hP
            go_wp2
            go_roundw
            case rel => exact ⟨j + 1, by omega, by go_num, hP⟩
            case measure => simp [intOf]; omega
          · obtain rfl : j = ci.length := by omega
            clear hj hjl hpart
            go_wp2
            go_roundw
            case rel => exact ⟨i + 1, by omega, by go_num, by rw [HS.out]; exact hH⟩
            case measure => simp [intOf]; omega
      · obtain rfl : i = cs.length := by omega
        rw [← HWT.out] at hH
        clear hi hil
        have hHd := hH.blk (dv cs.length (fun _ => 0) (fun _ => 0)) 30 wr.heap.size rfl
        have hz := dv_lit ((cs.length : Nat) : Int)
        have HZ := hide hz; clear hz
        have ho := (ones_dv ((cs.length : Nat) : Int) (fun _ => 0) (fun _ => 0)).2 trivial
        rw [HZ.out] at ho
        go_wp2
        try rw [← HZ.out]
        clear hH ho
        generalize wr.alloc (.cells (dv cs.length (fun _ => 0) (fun _ => 0)) 30) = wd at *
        generalize wr.heap.size = G at *
        go_loopw [12] (fun t wr => ∃ k : Nat, k ≤ cs.length ∧ t = .int .i64 k ∧ Holds w wr (pBlk G (dv cs.length (upto (fun k => h (f ((cs.getD k []).getD 0 0))) k) (upto (fun k => h (g ((cs.getD k []).getD 0 0))) k)) 30 :: pRow (.slice (some ⟨gt, 0, none⟩) m m) 2 1 m (nums (wl h m)) :: pBlk (w.heap.size + 1 + 1) (dv 0 (fun _ => 0) (fun _ => 0)) 30 :: pBlk (w.heap.size + 1) (av p) 28 :: pBlk w.heap.size (dv m f g) 30 :: pVals (.slice A cs.length c) vs :: rowsP vs cs)) (fun t _ => cs.length - (intOf t).toNat)
        case atStart => exact ⟨0, by omega, rfl, by rw [upto_zero, upto_zero]; exact hHd⟩
        case round =>
          clear hHd
          obtain ⟨k, hk, rfl, hH⟩ := hrel
          by_cases hkl : k < cs.length
          · have hkl' : (k : Int) < cs.length := by omega
            have hk16 : k < 16 := by omega
            obtain ⟨g0, c0, A', c', e0, hvi, x1, hpart⟩ := hH.rowAt HLV.out 5 rfl (fun _ => rfl) hkl
            injection e0 with e0 e0a e0b
            subst e0
            clear e0a e0b
            have hmem := List.getElem_mem hkl
            have hc0 := (hcl.out _ hmem).1
            have hbi := fun x hx => hbd.out x _ hmem hx
            obtain ⟨g2, c2, e2, _, y1, _⟩ := hH.ints (k + 6) hpart (k := 0) (by omega)
            have hx := hbi _ (List.getElem_mem (show 0 < (cs[k]).length by omega))
            have h9 : cs.getD k [] = cs[k] := by rw [List.getD_eq_getElem?_getD, List.getElem?_eq_getElem hkl]; rfl
            have hgz : (cs.getD k []).getD 0 0 = (cs[k])[0] := by rw [h9, List.getD_eq_getElem?_getD, List.getElem?_eq_getElem (by omega)]; rfl
            obtain ⟨z, hz⟩ : ∃ z, z = (cs[k])[0] := ⟨_, rfl⟩
            rw [← hz] at hgz y1 hx
            have tf := upto_step (fun k => h (f ((cs.getD k []).getD 0 0))) k
            have tg := upto_step (fun k => h (g ((cs.getD k []).getD 0 0))) k
            rw [hgz] at tf tg
            generalize hu1 : upto (fun k => h (f ((cs.getD k []).getD 0 0))) (k + 1) = uf1 at *
            generalize hu2 : upto (fun k => h (g ((cs.getD k []).getD 0 0))) (k + 1) = ug1 at *
            have HU := hide (And.intro hu1 hu2); clear hu1 hu2
            generalize upto (fun k => h (f ((cs.getD k []).getD 0 0))) k = uf at *
            generalize upto (fun k => h (g ((cs.getD k []).getD 0 0))) k = ug at *
            clear hgz hbi hmem hz h9
            generalize hci : cs[k] = ci at *
            clear hci
            injection e2 with e2 e2a e2b
            subst e2
            clear e2a e2b
            have hfz := LF.out z hx
            have hgz := LG.out z hx
            have hv1 := hwlt.out _ hfz
            have hv2 := hwlt.out _ hgz
            have z1 : wr.cell? ⟨w.heap.size, 1 + z, none⟩ = some (.int .u8 (f z)) := hH.cell 4 rfl (dv_b _ _ _ (by omega))
            have t1 : wr.cell? ⟨gt, f z, none⟩ = some (.int .i64 (h (f z) : Nat)) := hH.cellR 1 rfl (wl_at _ hfz)
            have u1 := hH.cell 0 rfl (dv_b (cs.length : Int) uf ug hk16)
            have u2 := hH.frozen 0 rfl (1 + k)
            have hP := hH.set 0 rfl (1 + k) (.int .u8 (h (f z) : Nat))
            have hQ := hP.set 0 rfl (17 + k) (.int .u8 (h (g z) : Nat))
            have u3 := hP.cell 0 rfl (j := 17 + k) (v := .int .u8 (ug k)) (by rw [dv_setb _ _ _ _ hk16]; exact dv_w _ _ _ hk16)
            have u4 := hP.frozen 0 rfl (17 + k)
            have x2 : (wr.setCell ⟨G, 1 + k, none⟩ (.int .u8 (h (f z) : Nat))).cell? ⟨g0, k, none⟩ = some (.slice (some ⟨g2, 0, none⟩) ci.length c') := hP.cellV 5 rfl HLV.out hvi
            have y2 : (wr.setCell ⟨G, 1 + k, none⟩ (.int .u8 (h (f z) : Nat))).cell? ⟨g2, 0, none⟩ = some (.int .i64 (z : Nat)) := by
              rw [cell_of_cells, cellsOf_setCell_ne, ← cell_of_cells]
              · exact y1
              · rintro rfl
                exact hH.apart (i := k + 6) (j := 0) (by omega) hpart rfl (g := g2) rfl rfl
            have z2 : (wr.setCell ⟨G, 1 + k, none⟩ (.int .u8 (h (f z) : Nat))).cell? ⟨w.heap.size, 17 + z, none⟩ = some (.int .u8 (g z)) := hP.cell 4 rfl (dv_w _ _ _ (by omega))
            have t2 : (wr.setCell ⟨G, 1 + k, none⟩ (.int .u8 (h (f z) : Nat))).cell? ⟨gt, g z, none⟩ = some (.int .i64 (h (g z) : Nat)) := hP.cellR 1 rfl (wl_at _ hgz)
            rw [dv_setb _ _ _ _ hk16, dv_setw _ _ _ _ hk16, tf, tg] at hQ
            have HQ := hide hQ
            clear hP hH tf tg hQ hpart hvi
            generalize h (f z) = v1 at *
            generalize h (g z) = v2 at *
            have a1 : (v1 : Int) < 256 := by omega
            have a2 : (v2 : Int) < 256 := by omega
            have a3 : (k : Int) < 16 := by omega
            have a4 : (z : Int) < 16 := by omega
            have a5 : ((f z : Nat) : Int) < m := by omega
            have a6 : ((g z : Nat) : Int) < m := by omega
            go_wp2
            go_roundw
            case rel => exact ⟨k + 1, by omega, by go_num, by rw [HU.out.1, HU.out.2]; exact HQ.out⟩
            case measure => simp [intOf]; omega
          · obtain rfl : k = cs.length := by omega
            rw [← HANS.out.2.1] at hH
            have cc := hH.cells 0 rfl
            have rr := hH.rowOk 2 rfl (dv_size _ _ _)
            have hQs : (quoA m f g p).size = 33 ∧ (quoA m f g p).all (·.oneCell') = true := by
              rw [HANS.out.2.1]
              exact ⟨dv_size _ _ _, dv_cells _ _ _⟩
            have i33 : Is33 (quoA m f g p) := hQs.1
            have ones : Ones (quoA m f g p) := hQs.2
            have HQS := hide hQs; clear hQs hk hkl
            have H7 := hH.setRow 2 rfl (quoA m f g p)
            generalize hQ : quoA m f g p = Q at *
            go_wp2
            refine res_agg3 (p := 4) (t := 5) (s := 6) (g := (w.heap.size + 1 + 1)) (v := .slice (some ⟨gt, 0, none⟩) m m) (u := .int .i64 0) aggD HQS.out.1 rfl rfl rfl rfl rfl (H7.at 2 rfl) ⟨_, by rw [HANS.out.1]; rfl, H7.low, ?_⟩
            rw [HANS.out.2.2]
            have h8 := H7.row 1 rfl
            unfold Own1
            rw [wl_length]
            exact h8
end Go.Proofs.Ytgomfphdgekniaa
