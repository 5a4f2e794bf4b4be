/- slices.Max, slices.Clone at numbers; impl.project -/
import Derived.Test.YtgomfphdgekniaaWhich
import Derived.Test.YtgomfphdgekniaaCell
import Derived.Test.YtgomfphdgekniaaCycL
import Derived.Test.YtgomfphdgekniaaIsPerm
namespace Go.Proofs.Ytgomfphdgekniaa
open Go.RowKit

/-- a list of numbers wherever it lies -/
def RdI (w : World) (v : Value) (l : List Nat) : Prop := w.ownsRow 0 2 1 v l.length (nums l)
theorem RdI.below {C : Nat} {w w' : World} {v : Value} {l : List Nat} (h : RdI w v l) (hb : Below C w w') (hC : w.heap.size ≤ C) : RdI w' v l := World.ownsRow.kept h (grown_of_below (hb.mono hC) none) (Classical.em _)
theorem RdI.form {w : World} {v : Value} {l : List Nat} (h : RdI w v l) : ∃ A c, v = .slice A l.length c := own_slice h
theorem RdI.at {w : World} {A : Option Addr} {n c k : Nat} {l : List Nat} (h : RdI w (.slice A n c) l) (hk : k < l.length) :
    ∃ g, A = some ⟨g, 0, none⟩ ∧ g < w.heap.size ∧ w.cell? ⟨g, k, none⟩ = some (.int .i64 ((l.getD k 0 : Nat) : Int)) := by
  obtain ⟨g, c, h1, h2, h3, h4, h5, h6, h7⟩ := row_at h (by omega : 0 < l.length)
  injection h1 with e1 e2 e3
  have a1 := h6 _ _ (nums_at hk)
  have hg : l.getD k 0 = l[k] := by rw [List.getD_eq_getElem?_getD, List.getElem?_eq_getElem hk]; rfl
  rw [hg]
  exact ⟨g, e1, h3, a1⟩
theorem Holds.rdI {w0 w : World} {L : List Part} (h : Holds w0 w L) (i : Nat) {v : Value} {l : List Nat} (hi : L[i]? = some (pInts v l)) : RdI w v l := row_low (h.row i hi) (Nat.zero_le _)
/-- the greatest of the first k + 1 numbers -/
def maxU (l : List Nat) : Nat → Nat
  | 0 => l.getD 0 0
  | k + 1 => max (maxU l k) (l.getD (k + 1) 0)
theorem maxU_step (l : List Nat) {j : Nat} (h : 1 ≤ j) : max (maxU l (j - 1)) (l.getD j 0) = maxU l j := by
  obtain ⟨k, rfl⟩ : ∃ k, j = k + 1 := ⟨j - 1, by omega⟩
  rfl
theorem maxU_ge (l : List Nat) : ∀ k i, i ≤ k → l.getD i 0 ≤ maxU l k := by
  intro k
  induction k with
  | zero => intro i hi; obtain rfl : i = 0 := by omega
            exact Nat.le_refl _
  | succ k ih =>
    intro i hi
    rw [maxU]
    rcases Nat.lt_or_ge k i with c | c
    · obtain rfl : i = k + 1 := by omega
      omega
    · have := ih i c; omega
theorem maxU_at (l : List Nat) : ∀ k, ∃ i, i ≤ k ∧ maxU l k = l.getD i 0 := by
  intro k
  induction k with
  | zero => exact ⟨0, Nat.le_refl _, rfl⟩
  | succ k ih =>
    obtain ⟨i, hi, e⟩ := ih
    rw [maxU]
    rcases Nat.lt_or_ge (maxU l k) (l.getD (k + 1) 0) with c | c
    · exact ⟨k + 1, Nat.le_refl _, by omega⟩
    · exact ⟨i, by omega, by omega⟩

set_option maxRecDepth 100000 in
set_option maxHeartbeats 1000000 in
theorem max_any (l : List Nat) (h0 : 0 < l.length) (hl : l.length ≤ 1000000) (v : Value) (w : World) (hv : RdI w v l) :
    Calls Try.prog 93 #[v] w fun e w' => e = .returned (.int .i64 (maxU l (l.length - 1))) ∧ w' = w := by
  obtain ⟨A, c, rfl⟩ := hv.form
  have HV := hide hv; clear hv
  obtain ⟨q0, hA, _, x0⟩ := HV.out.at h0
  subst hA
  have hm0 : maxU l 0 = l.getD 0 0 := rfl
  rw [← hm0] at x0
  have HM := hide fun (j : Nat) (hj : 1 ≤ j) => maxU_step l hj
  clear hm0
  have hlt : decide ((l.length : Int) < 1) = false := by rw [decide_eq_false_iff_not]; omega
  go_enter Try.func93, Try.ntmps93
  go_wp2
  clear x0 hlt
  go_loopw [3, 4] (fun m t wr => ∃ j : Nat, 1 ≤ j ∧ j ≤ l.length ∧ t = .int .i64 j ∧ m = .int .i64 (maxU l (j - 1)) ∧ wr = w) (fun _ t _ => l.length - (intOf t).toNat)
  case atStart => exact ⟨1, by omega, by omega, rfl, rfl, rfl⟩
  case round =>
    obtain ⟨j, hj1, hj, rfl, rfl, hw⟩ := hrel
    obtain rfl : wr = w := hw
    by_cases hjl : j < l.length
    · obtain ⟨q, hq, _, x1⟩ := HV.out.at hjl
      injection hq with hq
      injection hq with hq
      subst hq
      have hmx := HM.out j hj1
      generalize l.getD j 0 = b at *
      generalize maxU l (j - 1) = a at *
      have hmi : (if a < b then (b : Int) else (a : Int)) = (maxU l j : Int) := by split <;> omega
      generalize hMM : maxU l j = M at *
      have HMM := hide hMM; clear hMM hmx
      have hj' : (j : Int) < l.length := by omega
      go_wp2
      go_roundw
      case rel => exact ⟨j + 1, by omega, by omega, by go_num, by rw [Nat.add_sub_cancel, HMM.out, ← hmi], by trivial⟩
      case measure => simp [intOf]; omega
    · obtain rfl : j = l.length := by omega
      clear hj hjl hj1
      go_wp2
      go_ret
      exact ⟨rfl, rfl⟩
/-- a quotient's places: what so many darts tell -/
def prjT (ns : List Nat) (f : Nat → Nat) : Nat → Nat → Nat
  | 0 => fun _ => 0
  | k + 1 => fset (prjT ns f k) (ns.getD k 0) (ns.getD (f k) 0)

set_option maxRecDepth 100000 in
set_option maxHeartbeats 1000000 in
theorem project_any (f g : Nat → Nat) (m : Nat) (hf : PermN f m) (hg : PermN g m) (ns : List Nat) (hl : ns.length = m) (hlt : ∀ k, ns.getD k 0 < 16) (v : Value) (w : World) (hv : RdI w v ns) :
    Calls Try.prog 61 #[.agg (dv m f g), v] w fun e w' => e = .returned (.agg (dv ((maxU ns (m - 1) + 1 : Nat) : Int) (prjT ns f m) (prjT ns g m))) ∧ Below w.heap.size w w' := by
  have hm := hf.2.1
  have h0 := hf.1
  subst hl
  have C1 := hide fun w (hv : RdI w v ns) => max_any ns h0 (by omega) v w hv
  obtain ⟨A, c, rfl⟩ := hv.form
  have HV := hide hv; clear hv
  have LF := hide hf.2.2.1.1
  have LG := hide hg.2.2.1.1
  have HL := hide hlt; clear hf hg hlt
  have TF := hide fun k => (show fset (prjT ns f k) (ns.getD k 0) (ns.getD (f k) 0) = prjT ns f (k + 1) from rfl)
  have TG := hide fun k => (show fset (prjT ns g k) (ns.getD k 0) (ns.getD (g k) 0) = prjT ns g (k + 1) from rfl)
  have T0 := hide (And.intro (show prjT ns f 0 = fun _ => 0 from rfl) (show prjT ns g 0 = fun _ => 0 from rfl))
  generalize prjT ns f = pf at *
  generalize prjT ns g = pg at *
  have hmx16 : maxU ns (ns.length - 1) < 16 := by
    obtain ⟨i, _, e⟩ := maxU_at ns (ns.length - 1)
    rw [e]; exact HL.out i
  generalize maxU ns (ns.length - 1) = M at *
  have HH := ((Holds.start w).blk (dv ns.length f g) 30 w.heap.size rfl).blk (dv 0 (fun _ => 0) (fun _ => 0)) 30 (w.heap.size + 1) (by simp)
  have HH2 := HH.blk (dv ((M + 1 : Nat) : Int) (fun _ => 0) (fun _ => 0)) 30 (w.heap.size + 1 + 1) (by simp)
  clear HH
  have hM1 := hide (show ((M : Int) + 1) = ((M + 1 : Nat) : Int) by omega)
  have hM16 : (M : Int) < 16 := by omega
  go_enter Try.func61, Try.ntmps61
  go_wp2_with fail
  rw [← dv_zero]
  refine (C1.out _ (HV.out.below ((below2 w _ _)) (Nat.le_refl _))).mono ?_
  rintro e w' ⟨rfl, rfl⟩
  have hz := dv_lit ((M : Int) + 1)
  have HZ := hide hz; clear hz
  have ho := (ones_dv ((M : Int) + 1) (fun _ => 0) (fun _ => 0)).2 trivial
  rw [HZ.out] at ho
  go_wp2
  (try rw [← HZ.out]); rw [hM1.out]
  clear ho
  generalize ((w.alloc (.cells (dv ns.length f g) 30)).alloc (.cells (dv 0 (fun _ => 0) (fun _ => 0)) 30)).alloc (.cells (dv ((M + 1 : Nat) : Int) (fun _ => 0) (fun _ => 0)) 30) = W at *
  go_loopw [14] (fun t wr => ∃ k : Nat, k ≤ ns.length ∧ t = .int .i64 k ∧ Holds w wr [pBlk (w.heap.size + 1 + 1) (dv ((M + 1 : Nat) : Int) (pf k) (pg k)) 30, pBlk (w.heap.size + 1) (dv 0 (fun _ => 0) (fun _ => 0)) 30, pBlk w.heap.size (dv ns.length f g) 30]) (fun t _ => ns.length - (intOf t).toNat)
  case atStart => exact ⟨0, by omega, rfl, by rw [T0.out.1, T0.out.2]; exact HH2⟩
  case round =>
    clear HH2
    obtain ⟨k, hk, rfl, hH⟩ := hrel
    have hR := HV.out.below hH.low (Nat.le_refl _)
    by_cases hkl : k < ns.length
    · have hf16 := LF.out k hkl
      have hg16 := LG.out k hkl
      obtain ⟨q, rfl, hq, x1⟩ := hR.at hkl
      have hqs : q < w.heap.size := by
        obtain ⟨q', e, h1, _⟩ := HV.out.at hkl
        injection e with e
        injection e with e
        subst e
        exact h1
      obtain ⟨q2, e2, _, x2⟩ := hR.at hf16
      injection e2 with e2
      injection e2 with e2
      subst e2
      have hq2 : q ≠ w.heap.size + 1 + 1 := by omega
      have hk16 : ns.getD k 0 < 16 := HL.out k
      have hv16 : ns.getD (f k) 0 < 16 := HL.out _
      have hw16 : ns.getD (g k) 0 < 16 := HL.out _
      have tf := TF.out k
      have tg := TG.out k
      have hP := (hH.set 0 rfl (1 + ns.getD k 0) (.int .u8 (ns.getD (f k) 0 : Nat)))
      have hQ := hP.set 0 rfl (17 + ns.getD k 0) (.int .u8 (ns.getD (g k) 0 : Nat))
      rw [dv_setb _ _ _ _ hk16, dv_setw _ _ _ _ hk16, tf, tg] at hQ
      have y1 : (wr.setCell ⟨(w.heap.size + 1 + 1), 1 + ns.getD k 0, none⟩ (.int .u8 (ns.getD (f k) 0 : Nat))).cell? ⟨q, k, none⟩ = some (.int .i64 (ns.getD k 0 : Nat)) := by
        rw [cell_of_cells, cellsOf_setCell_ne hq2, ← cell_of_cells]; exact x1
      have hR2 : RdI (wr.setCell ⟨(w.heap.size + 1 + 1), 1 + ns.getD k 0, none⟩ (.int .u8 (ns.getD (f k) 0 : Nat))) (.slice (some ⟨q, 0, none⟩) ns.length c) ns := HV.out.below hP.low (Nat.le_refl _)
      obtain ⟨q2, e2, _, y2⟩ := hR2.at hg16
      injection e2 with e2
      injection e2 with e2
      subst e2
      have z1 : wr.cell? ⟨w.heap.size, 1 + k, none⟩ = some (.int .u8 (f k)) := hH.cell 2 rfl (dv_b _ _ _ (by omega))
      have z2 : (wr.setCell ⟨(w.heap.size + 1 + 1), 1 + ns.getD k 0, none⟩ (.int .u8 (ns.getD (f k) 0 : Nat))).cell? ⟨w.heap.size, 17 + k, none⟩ = some (.int .u8 (g k)) := hP.cell 2 rfl (dv_w _ _ _ (by omega))
      have u1 := hH.cell 0 rfl (dv_b ((M + 1 : Nat) : Int) (pf k) (pg k) hk16)
      have u2 := hH.frozen 0 rfl (1 + ns.getD k 0)
      have u3 := hP.cell 0 rfl (j := 17 + ns.getD k 0) (v := .int .u8 (pg k (ns.getD k 0))) (by rw [dv_setb _ _ _ _ hk16]; exact dv_w _ _ _ hk16)
      have u4 := hP.frozen 0 rfl (17 + ns.getD k 0)
      have HQ := hide hQ
      clear hR hR2 hP hH tf tg hQ
      generalize ns.getD (f k) 0 = v1 at *
      generalize ns.getD (g k) 0 = v2 at *
      generalize ns.getD k 0 = v0 at *
      have a0 : (v0 : Int) < 16 := by omega
      have a1 : (v1 : Int) < 256 := by omega
      have a2 : (v2 : Int) < 256 := by omega
      have a3 : (k : Int) < 16 := by omega
      have hfl : ((f k : Nat) : Int) < ns.length := by omega
      have hgl : ((g k : Nat) : Int) < ns.length := by omega
      go_wp2
      go_roundw
      case rel => exact ⟨k + 1, by omega, by go_num, HQ.out⟩
      case measure => simp [intOf]; omega
    · obtain rfl : k = ns.length := by omega
      have cc := hH.cells 0 rfl
      have rr := hH.rowOk 1 rfl (dv_size _ _ _)
      have H2 := hH.setRow 1 rfl (dv ((M + 1 : Nat) : Int) (pf ns.length) (pg ns.length))
      rw [← hM1.out] at H2 cc ⊢
      clear hk hkl
      go_wp2
      exact res_agg (p := 4) (g := w.heap.size + 1) aggD (dv_size _ _ _) rfl rfl rfl (H2.at 1 rfl) ⟨rfl, H2.low⟩
end Go.Proofs.Ytgomfphdgekniaa
