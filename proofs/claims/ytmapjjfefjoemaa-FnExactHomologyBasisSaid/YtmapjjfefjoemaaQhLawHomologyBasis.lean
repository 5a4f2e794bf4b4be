/- Texts put together: CyoS, RegW, Reg4 -/
import Derived.Test.YtmapjjfefjoemaaQgLawHomologyBasis
import Derived.Test.YtmapjjfefjoemaaChecked
import Derived.WalkKit
import Derived.WalkSpells
import Derived.WalkLawsBesides
import Derived.Deep.LoopGhost
import Derived.Deep.OwnRows
import Derived.Laws.Rows
import Derived.Laws.Tables
import Derived.Laws.CopyOwn
import Derived.ProofKit
import Derived.OpenShut
import Derived.ShutString
import Derived.ChangeOld
import Derived.Below
import Derived.Laws.OwnMore
import Derived.BigQuiet
import Derived.Deep.QuietTactic
import Derived.OwnWalk
import Derived.ChangeSlices
import Derived.RegionTactic
import Derived.Deep.Quiet
import Derived.StillTail
import Derived.Deep.Slices
import Derived.WideShapes
import Derived.Laws.CopyRow
import Derived.Deep.MidRow
import Derived.Deep.RegionWith
import Derived.ChangeKeysEq
import Derived.StillTailTactics
import Derived.Deep.RegionHeld3
import Derived.Laws.Cover3
import Derived.IntWalk
import Derived.Laws.StructEq
import Derived.DataElems
namespace Go.Proofs.Ytmapjjfefjoemaa
open Go.RowKit

def oL9 (F : Nat → Int) (N : Nat → Bool) (m : Nat) : List Int := (List.range m).map (kno9 F N)
theorem oL9_length (F : Nat → Int) (N : Nat → Bool) (m : Nat) : (oL9 F N m).length = m := by simp [oL9]
theorem oL9_get (F : Nat → Int) (N : Nat → Bool) {m y : Nat} (h : y < m) : (oL9 F N m)[y]? = some (kno9 F N y) := by simp [oL9, h]
theorem oL9_set (F : Nat → Int) (N : Nat → Bool) (m a : Nat) : (oL9 F N m).set a (F a) = oL9 F (fun j => if j = a then true else N j) m := by
  apply List.ext_getElem
  · simp [oL9]
  · intro j h1 h2
    rw [List.getElem_set]
    simp only [oL9, List.getElem_map, List.getElem_range, kno9]
    by_cases e : a = j
    · subst e; simp
    · rw [if_neg e, if_neg (Ne.symm e)]
theorem oL9_all {F : Nat → Int} {N : Nat → Bool} {m : Nat} (h : ∀ y, y < m → N y = true) : oL9 F N m = (List.range m).map F := by
  unfold oL9
  exact List.map_congr_left fun y hy => by unfold kno9; rw [if_pos (h y (List.mem_range.1 hy))]
theorem kno9_bound {F : Nat → Int} {N : Nat → Bool} (h : ∀ y, -1 ≤ F y ∧ F y ≤ 1) (c : List Nat) : -(c.length : Int) ≤ (c.map (kno9 F N)).sum ∧ (c.map (kno9 F N)).sum ≤ c.length := by
  induction c with
  | nil => simp
  | cons y c ih =>
    have := h y
    have : -1 ≤ kno9 F N y ∧ kno9 F N y ≤ 1 := by unfold kno9; split <;> omega
    rw [List.map_cons, List.sum_cons, List.length_cons]; omega
theorem not_run9 (b : Bool) (w : World) : (Op.unary .not (.bool b)).run Try.prog w = .ok (.bool (!b)) w := rfl
set_option maxRecDepth 100000 in
set_option maxHeartbeats 4000000 in
theorem sOf_any (f g : Nat → Nat) (m : Nat) (hd : DesN f g m) (x : Nat) (hx : x < m) (hxT : x ∉ (tre9 f g m).1) (w : World) :
    Calls Try.prog 78 #[.agg (dv m f g), .agg (bv (mk9 (vb9 f m) (vw9 g m) m)), .int .i64 x] w fun e w' => ∃ u, e = .returned u ∧ Holds w w' [pZ9 u ((List.range m).map (cyo9 (vb9 f m) (vw9 g m) (tre9 f g m).1 x))] := by
  have hm := hd.le
  have hn := dv_n m f g
  obtain ⟨hTm, hTF, hTn, hTK⟩ := tre9_facts hd
  have hFc := cyo9_spec (N := 32) (fun z hz => vl9_lt hd z (by omega)) hTm hTF hTn hx hxT (hTK x hx)
  have hVT := vert9 hd hFc
  have hFb := fun y => cyo9_bound (e0 := vb9 f m) (e1 := vw9 g m) (tre9 f g m).1 x y
  have hF1 : ∀ y, y ∉ (tre9 f g m).1 → cyo9 (vb9 f m) (vw9 g m) (tre9 f g m).1 x y = if y = x then 1 else 0 := fun y hy => by unfold cyo9; rw [if_neg hy]
  obtain ⟨F, hF⟩ : ∃ F, F = cyo9 (vb9 f m) (vw9 g m) (tre9 f g m).1 x := ⟨_, rfl⟩
  rw [← hF] at hVT hFb hF1 ⊢
  have hmk : ∀ y, mk9 (vb9 f m) (vw9 g m) m y = decide (y ∈ (tre9 f g m).1) := fun y => rfl
  generalize mk9 (vb9 f m) (vw9 g m) m = T at *
  have LEAF := hide fun (N : Nat → Bool) (h1 : ∀ y, y < m → N y = false → T y = true) (h2 : cnt9 N m ≠ 0) => unk9_leaf hd (N := N) (fun y hy hN => by have := h1 y hy hN; rw [hmk] at this; simpa using this) (cnt9_pos h2)
  have HF1 : Hid (∀ y, T y = false → F y = if y = x then 1 else 0) := hide fun y hy => hF1 y (by rw [hmk] at hy; simpa using hy)
  clear hF hFc hTm hTF hTn hTK hF1
  have HXT : Hid (T x = false) := hide (by rw [hmk]; simpa using hxT)
  clear hmk hxT
  have CB := hide fun w => sCycles_any f m hd.black w
  have CW := hide fun w => sCycles_any g m hd.white w
  have hcl : ∀ c ∈ cycs f m ++ cycs g m, c.length ≤ 16 ∧ c.Nodup ∧ ∀ x ∈ c, x < m := fun c hc => by
    rcases List.mem_append.1 hc with h | h
    · exact ⟨cyc_len9 hd.black h, cyc_nodup9 hd.black h, fun x hx => cyc_lt9 hd.black h hx⟩
    · exact ⟨cyc_len9 hd.white h, cyc_nodup9 hd.white h, fun x hx => cyc_lt9 hd.white h hx⟩
  have HCL := hide hcl; clear hcl
  have LB := hide (cycs_pos9 hd.black)
  have LW := hide (cycs_pos9 hd.white)
  have kb := cycs_le hd.black
  have kw := cycs_le hd.white
  generalize cycs f m = cb at *
  generalize cycs g m = cw at *
  have KB := hide (show cb.length + cw.length ≤ 1000 by omega)
  clear kb kw hd
  have HVT := hide hVT; clear hVT
  have HFB := hide hFb; clear hFb
  obtain ⟨i0, hi, hz0, hz1, hz2⟩ := info_parts info64
  have I0 := hide (And.intro hi (And.intro hz0 (And.intro hz1 hz2))); clear hi hz0 hz1 hz2
  have HH0 := ((Holds.start w).blk (dv m f g) 31 w.heap.size rfl).blk (bv T) 85 (w.heap.size + 1) (by simp)
  have hxi : (x : Int) < m := by omega
  go_enter Try.func78, Try.ntmps78
  go_wp2_with (refine makeH (P := Try.prog) rfl 25 _ _ rfl 2 i0 (.int .i64 0) 8 Try.underlying25 I0.out.1 I0.out.2.1 I0.out.2.2.1 I0.out.2.2.2 rfl m .i64 .i64 rfl rfl (by omega) (by decide) HH0 ?_)
  intro w1 H1
  clear HH0
  have H2 := H1.blk (bv fun _ => false) 85 w1.heap.size rfl
  have cn1 := H1.cell 2 rfl hn
  have cl1 := H1.lt 2 rfl
  clear H1
  go_wp2
  rw [bv_false] at H2
  rw [← bv_false] at H2 ⊢
  generalize w1.alloc (.cells (bv fun _ => false) 85) = w2 at *
  generalize w1.heap.size = Kb9 at *
  clear cn1 cl1
  have H3 : Holds w w2 [pBlk Kb9 (bv fun j => if j < 0 then !T j else false) 85, pRow (.slice (some ⟨w.heap.size + 1 + 1, 0, none⟩) m m) 2 1 m (zc (List.replicate m 0)), pBlk (w.heap.size + 1) (bv T) 85, pBlk w.heap.size (dv m f g) 31] := by
    rw [show (fun j => if j < 0 then !T j else false) = fun _ => false from funext fun j => if_neg (by omega)]
    unfold zc; rw [List.map_replicate]; exact H2
  clear H2
  go_loopw [9] (fun t wr => ∃ k : Nat, k ≤ m ∧ t = .int .i64 k ∧ Holds w wr [pBlk Kb9 (bv fun j => if j < k then !T j else false) 85, pRow (.slice (some ⟨w.heap.size + 1 + 1, 0, none⟩) m m) 2 1 m (zc (List.replicate m 0)), pBlk (w.heap.size + 1) (bv T) 85, pBlk w.heap.size (dv m f g) 31]) (fun t _ => m - (intOf t).toNat)
  case atStart => exact ⟨0, Nat.zero_le _, rfl, H3⟩
  case round =>
    clear H3
    obtain ⟨k, hk, rfl, hH⟩ := hrel
    have cn0 := hH.cell 3 rfl hn
    by_cases hlt : k < m
    · have hki : (k : Int) < m := by omega
      have hk16 : k < 16 := by omega
      have hk16i : (k : Int) < 16 := by omega
      have z0 := hH.cell 2 rfl (bv_get T hk16)
      have z1 := hH.cell 0 rfl (bv_get (fun j => if j < k then !T j else false) hk16)
      have z2 := hH.frozen 0 rfl k
      have hP := hH.set 0 rfl k (.bool (!T k))
      simp only [List.set_cons_zero] at hP
      rw [bv9_set, show (fun j => if j = k then !T k else if j < k then !T j else false) = (fun j => if j < k + 1 then !T j else false) from funext fun j => by
        by_cases e : j = k
        · subst e; rw [if_pos rfl, if_pos (by omega)]
        · rw [if_neg e]; by_cases e2 : j < k
          · rw [if_pos e2, if_pos (by omega)]
          · rw [if_neg e2, if_neg (by omega)]] at hP
      have HQ := hide hP; clear hP hH
      generalize T k = tk at *
      simp only [Nat.lt_irrefl, if_false] at z1
      go_wp2
      go_roundw
      case rel => exact ⟨k + 1, by omega, by go_num, HQ.out⟩
      case measure => simp [intOf]; omega
    · obtain rfl : m = k := by omega
      clear hlt hk
      obtain ⟨N0, hN0⟩ : ∃ N0, N0 = (fun j => if j < m then !T j else false) := ⟨_, rfl⟩
      rw [← hN0] at hH
      have hz : (List.replicate m (0 : Int)).set x 1 = oL9 F N0 m := by
        apply List.ext_getElem
        · simp [oL9]
        · intro j h1 h2
          simp at h1
          rw [List.getElem_set]
          simp only [oL9, List.getElem_map, List.getElem_range, kno9, hN0, List.getElem_replicate, if_pos h1]
          rcases e : T j with _ | _
          · rw [HF1.out j e]
            by_cases e2 : x = j
            · subst e2; simp
            · rw [if_neg e2, if_neg (Ne.symm e2)]; simp
          · have : x ≠ j := fun h => by rw [← h, HXT.out] at e; cases e
            simp [this]
      have hNT : Hid (∀ y, y < m → N0 y = false → T y = true) := hide fun y hy h => by rw [hN0] at h; simp [hy] at h; exact h
      obtain ⟨z0, z1⟩ := hH.rowCell9 1 rfl (zc_at9 (l := List.replicate m 0) (i := x) (x := 0) (by simp [hx]))
      have hP := hH.put 1 rfl x (.int .i64 1)
      simp only [List.set_cons_succ, List.set_cons_zero] at hP
      rw [zc_set9, hz] at hP
      have HQ := hide (hP.perm (List.Perm.swap _ _ _))
      clear hz hN0 hH hP
      go_wp2
      clear z0 z1 cn0
      have H4 := HQ.out
      clear HQ
      generalize wr.setCell ⟨w.heap.size + 1 + 1, x, none⟩ (.int .i64 1) = w3 at *
      apply Rd.region_RV9 (w0 := w) [pRow (.slice (some ⟨w.heap.size + 1 + 1, 0, none⟩) m m) 2 1 m (zc (oL9 F (N0) m)), pBlk Kb9 (bv (N0)) 85, pBlk (w.heap.size + 1) (bv T) 85, pBlk w.heap.size (dv m f g) 31] [pRow (.slice (some ⟨w.heap.size + 1 + 1, 0, none⟩) m m) 2 1 m (zc (oL9 F (N0) m)), pBlk Kb9 (bv (N0)) 85, pBlk (w.heap.size + 1) (bv T) 85, pBlk w.heap.size (dv m f g) 31] [0, 5, 6, 11, 12] (.q 1 <| .q 2 <| .q 3 <| .q 4 <| .q 7 <| .q 8 <| .q 9 <| .q 10 <| .s2 0 (.s1 5 <| .s1 6 <| .s1 11 <| .s1 12 <| .q 13 .fin) 5 (.s1 0 <| .s1 6 <| .s1 11 <| .s1 12 <| .q 13 .fin)) H4 (.refl _) (by kernel_rfl) (by kernel_rfl) (by kernel_rfl) (R := Rd.rV9 w (cb.length + cw.length) fun q vs => pVals q vs :: (rowsP vs (cb ++ cw) ++ [pRow (.slice (some ⟨w.heap.size + 1 + 1, 0, none⟩) m m) 2 1 m (zc (oL9 F (N0) m)), pBlk Kb9 (bv (N0)) 85, pBlk (w.heap.size + 1) (bv T) 85, pBlk w.heap.size (dv m f g) 31]))
      case h =>
        intro K key
        iterate 8
          apply Rd.v_q
          · simp only [List.getElem?_toArray, List.getElem?_cons_zero, List.getElem?_cons_succ]; exact rfl
          · rfl
          · go_simp
          · intro wx hx
            have q1 := hx.cells 3 rfl
            have q2 := hx.cell 3 rfl hn
            unfold atG
            go_simp
            simp only [uponG]
            exact ⟨by trivial, rfl⟩
        refine ⟨?_, ?_⟩
        · skip
          refine Rd.v_build #[] 25 0 (by simp only [List.getElem?_toArray, List.getElem?_cons_zero, List.getElem?_cons_succ]; exact rfl) rfl (by go_simp) (fun wx hx hD => by go_simp) fun g0 => ?_
          refine Rd.v_s9 (Rd.rV9 w cb.length fun v vs => pBlk g0 #[] 25 :: pVals v vs :: (rowsP vs cb ++ [pRow (.slice (some ⟨w.heap.size + 1 + 1, 0, none⟩) m m) 2 1 m (zc (oL9 F (N0) m)), pBlk Kb9 (bv (N0)) 85, pBlk (w.heap.size + 1) (bv T) 85, pBlk w.heap.size (dv m f g) 31])) Rd.rV9_stable (by simp only [List.getElem?_toArray, List.getElem?_cons_zero, List.getElem?_cons_succ]; exact rfl) rfl (by go_simp) (fun wx hx hD => ?_) ?_
          · go_simp
            simp only [Rd.upon9_eq, Rd.uponE]
            refine ⟨by trivial, (CB.out wx).mono ?_⟩
            rintro e wy ⟨v, rfl, hb, ho⟩
            obtain ⟨A, c, vs, rfl, hv⟩ := own2_form ho
            have hj := hD.joinL (Holds.ofOwn2 hb hv)
            exact ⟨_, rfl, hx.call hb, A, c, vs, rfl, hv.len, hj.perm (List.Perm.cons _ List.perm_append_comm)⟩
          rintro v ⟨_, _, hv⟩
          obtain ⟨A1, c1, rfl⟩ := Rd.rV9_form hv
          clear hv
          refine Rd.v_s9 (Rd.rV9 w cb.length fun q vs => pVals q vs :: (rowsP vs cb ++ [pRow (.slice (some ⟨w.heap.size + 1 + 1, 0, none⟩) m m) 2 1 m (zc (oL9 F (N0) m)), pBlk Kb9 (bv (N0)) 85, pBlk (w.heap.size + 1) (bv T) 85, pBlk w.heap.size (dv m f g) 31])) Rd.rV9_stable (by simp only [List.getElem?_toArray, List.getElem?_cons_zero, List.getElem?_cons_succ]; exact rfl) rfl (by go_simp) (fun wx hx hD => ?_) ?_
          · refine Rd.rV9_elim hD fun vs hl hH => ?_
            have hH2 := hH.noVals9 0 rfl
            refine Rd.upon_rows9 hH2 0 1 rfl rfl (by have := LB.out; omega) (vals_one9 hl hH2 (fun a ha => List.mem_cons_of_mem _ (List.mem_cons_of_mem _ (List.mem_append_left _ ha)))) (by have := KB.out; simp; omega) (fun v' w' h2 => ?_) _ _ rfl (by go_simp) (by go_simp)
            have h3 : Holds w w' (pVals v' vs :: (rowsP vs cb ++ [pRow (.slice (some ⟨w.heap.size + 1 + 1, 0, none⟩) m m) 2 1 m (zc (oL9 F (N0) m)), pBlk Kb9 (bv (N0)) 85, pBlk (w.heap.size + 1) (bv T) 85, pBlk w.heap.size (dv m f g) 31])) := h2.sub (.cons_cons _ (.cons _ (.refl _)))
            exact ⟨h3.sub (.cons _ (List.sublist_append_right _ _)), Rd.rV9_of rfl hl h3⟩
          rintro v ⟨_, _, hv⟩
          obtain ⟨A2, c2, rfl⟩ := Rd.rV9_form hv
          clear hv
          refine Rd.v_s9 (Rd.rW9 w cw.length cb.length fun v us vs => pVals v us :: pVals (.slice A2 cb.length c2) vs :: (rowsP us cw ++ (rowsP vs cb ++ [pRow (.slice (some ⟨w.heap.size + 1 + 1, 0, none⟩) m m) 2 1 m (zc (oL9 F (N0) m)), pBlk Kb9 (bv (N0)) 85, pBlk (w.heap.size + 1) (bv T) 85, pBlk w.heap.size (dv m f g) 31]))) Rd.rW9_stable (by simp only [List.getElem?_toArray, List.getElem?_cons_zero, List.getElem?_cons_succ]; exact rfl) rfl (by go_simp) (fun wx hx hD => ?_) ?_
          · refine Rd.rV9_elim hD fun vs hl hH => ?_
            go_simp
            simp only [Rd.upon9_eq, Rd.uponE]
            refine ⟨by trivial, (CW.out wx).mono ?_⟩
            rintro e wy ⟨v, rfl, hb, ho⟩
            obtain ⟨A, c, us, rfl, hv⟩ := own2_form ho
            have hj := hH.joinL (Holds.ofOwn2 hb hv)
            exact ⟨_, rfl, hx.call hb, A, c, us, vs, rfl, hv.len, hl, hj.perm (List.perm_append_comm.trans (List.Perm.cons _ List.perm_middle))⟩
          rintro v ⟨_, _, hv⟩
          obtain ⟨A3, c3, rfl⟩ := Rd.rW9_form hv
          clear hv
          refine Rd.v_s9 (Rd.rV9 w (cb.length + cw.length) fun q vs => pVals q vs :: (rowsP vs (cb ++ cw) ++ [pRow (.slice (some ⟨w.heap.size + 1 + 1, 0, none⟩) m m) 2 1 m (zc (oL9 F (N0) m)), pBlk Kb9 (bv (N0)) 85, pBlk (w.heap.size + 1) (bv T) 85, pBlk w.heap.size (dv m f g) 31])) Rd.rV9_stable (by simp only [List.getElem?_toArray, List.getElem?_cons_zero, List.getElem?_cons_succ]; exact rfl) rfl (by go_simp) (fun wx hx hD => ?_) ?_
          · refine Rd.rW9_elim hD fun us vs hu hl hH => ?_
            refine Rd.upon_rows9 hH 1 0 rfl rfl (by have := LW.out; omega) (vals_one9 hu hH (fun a ha => List.mem_cons_of_mem _ (List.mem_cons_of_mem _ (List.mem_append_left _ ha)))) (by have := KB.out; omega) (fun v' w' h2 => ?_) _ _ rfl (by go_simp) (by go_simp)
            have h3 : Holds w w' (pVals v' (vs ++ us) :: (rowsP (vs ++ us) (cb ++ cw) ++ [pRow (.slice (some ⟨w.heap.size + 1 + 1, 0, none⟩) m m) 2 1 m (zc (oL9 F (N0) m)), pBlk Kb9 (bv (N0)) 85, pBlk (w.heap.size + 1) (bv T) 85, pBlk w.heap.size (dv m f g) 31])) := by
              rw [rowsP_append9 hl]
              refine h2.tail.perm (List.Perm.cons _ ?_)
              rw [← List.append_assoc]
              exact List.perm_append_comm.append_right _
            exact ⟨h3.sub (.cons _ (List.sublist_append_right _ _)), Rd.rV9_of rfl (by rw [List.length_append, hl, hu]) h3⟩
          rintro v -
          iterate 1
            apply Rd.v_q
            · simp only [List.getElem?_toArray, List.getElem?_cons_zero, List.getElem?_cons_succ]; exact rfl
            · rfl
            · go_simp
            · intro wx hx
              unfold atG
              go_simp
              simp only [uponG]
              exact ⟨by trivial, rfl⟩
          rintro wz - hz
          go_simp
          exact key v g0 A1 c1 A2 c2 A3 c3 _ hz
        · skip
          refine Rd.v_s9 (Rd.rV9 w cb.length fun v vs => pVals v vs :: (rowsP vs cb ++ [pRow (.slice (some ⟨w.heap.size + 1 + 1, 0, none⟩) m m) 2 1 m (zc (oL9 F (N0) m)), pBlk Kb9 (bv (N0)) 85, pBlk (w.heap.size + 1) (bv T) 85, pBlk w.heap.size (dv m f g) 31])) Rd.rV9_stable (by simp only [List.getElem?_toArray, List.getElem?_cons_zero, List.getElem?_cons_succ]; exact rfl) rfl (by go_simp) (fun wx hx hD => ?_) ?_
          · go_simp
            simp only [Rd.upon9_eq, Rd.uponE]
            refine ⟨by trivial, (CB.out wx).mono ?_⟩
            rintro e wy ⟨v, rfl, hb, ho⟩
            obtain ⟨A, c, vs, rfl, hv⟩ := own2_form ho
            have hj := hD.joinL (Holds.ofOwn2 hb hv)
            exact ⟨_, rfl, hx.call hb, A, c, vs, rfl, hv.len, hj.perm (List.perm_append_comm)⟩
          rintro v ⟨_, _, hv⟩
          obtain ⟨A1, c1, rfl⟩ := Rd.rV9_form hv
          clear hv
          refine Rd.v_s9 (Rd.rN9 w cb.length fun g0 vs => pBlk g0 #[] 25 :: pVals (.slice A1 cb.length c1) vs :: (rowsP vs cb ++ [pRow (.slice (some ⟨w.heap.size + 1 + 1, 0, none⟩) m m) 2 1 m (zc (oL9 F (N0) m)), pBlk Kb9 (bv (N0)) 85, pBlk (w.heap.size + 1) (bv T) 85, pBlk w.heap.size (dv m f g) 31])) Rd.rN9_stable (by simp only [List.getElem?_toArray, List.getElem?_cons_zero, List.getElem?_cons_succ]; exact rfl) rfl (by go_simp) (fun wx hx hD => ?_) ?_
          · refine Rd.rV9_elim hD fun vs hl hH => ?_
            go_simp
            simp only [Rd.upon9_eq, Rd.uponE]
            exact ⟨hx.alloc _, _, vs, rfl, hl, hH.blk _ _ _ rfl⟩
          rintro v0 ⟨_, _, hv⟩
          obtain ⟨g0, rfl⟩ := Rd.rN9_form hv
          clear hv
          refine Rd.v_s9 (Rd.rV9 w cb.length fun q vs => pVals q vs :: (rowsP vs cb ++ [pRow (.slice (some ⟨w.heap.size + 1 + 1, 0, none⟩) m m) 2 1 m (zc (oL9 F (N0) m)), pBlk Kb9 (bv (N0)) 85, pBlk (w.heap.size + 1) (bv T) 85, pBlk w.heap.size (dv m f g) 31])) Rd.rV9_stable (by simp only [List.getElem?_toArray, List.getElem?_cons_zero, List.getElem?_cons_succ]; exact rfl) rfl (by go_simp) (fun wx hx hD => ?_) ?_
          · refine Rd.rN9_elim hD fun vs hl hH => ?_
            have hH2 := hH.noVals9 0 rfl
            refine Rd.upon_rows9 hH2 0 1 rfl rfl (by have := LB.out; omega) (vals_one9 hl hH2 (fun a ha => List.mem_cons_of_mem _ (List.mem_cons_of_mem _ (List.mem_append_left _ ha)))) (by have := KB.out; simp; omega) (fun v' w' h2 => ?_) _ _ rfl (by go_simp) (by go_simp)
            have h3 : Holds w w' (pVals v' vs :: (rowsP vs cb ++ [pRow (.slice (some ⟨w.heap.size + 1 + 1, 0, none⟩) m m) 2 1 m (zc (oL9 F (N0) m)), pBlk Kb9 (bv (N0)) 85, pBlk (w.heap.size + 1) (bv T) 85, pBlk w.heap.size (dv m f g) 31])) := h2.sub (.cons_cons _ (.cons _ (.refl _)))
            exact ⟨h3.sub (.cons _ (List.sublist_append_right _ _)), Rd.rV9_of rfl hl h3⟩
          rintro v ⟨_, _, hv⟩
          obtain ⟨A2, c2, rfl⟩ := Rd.rV9_form hv
          clear hv
          refine Rd.v_s9 (Rd.rW9 w cw.length cb.length fun v us vs => pVals v us :: pVals (.slice A2 cb.length c2) vs :: (rowsP us cw ++ (rowsP vs cb ++ [pRow (.slice (some ⟨w.heap.size + 1 + 1, 0, none⟩) m m) 2 1 m (zc (oL9 F (N0) m)), pBlk Kb9 (bv (N0)) 85, pBlk (w.heap.size + 1) (bv T) 85, pBlk w.heap.size (dv m f g) 31]))) Rd.rW9_stable (by simp only [List.getElem?_toArray, List.getElem?_cons_zero, List.getElem?_cons_succ]; exact rfl) rfl (by go_simp) (fun wx hx hD => ?_) ?_
          · refine Rd.rV9_elim hD fun vs hl hH => ?_
            go_simp
            simp only [Rd.upon9_eq, Rd.uponE]
            refine ⟨by trivial, (CW.out wx).mono ?_⟩
            rintro e wy ⟨v, rfl, hb, ho⟩
            obtain ⟨A, c, us, rfl, hv⟩ := own2_form ho
            have hj := hH.joinL (Holds.ofOwn2 hb hv)
            exact ⟨_, rfl, hx.call hb, A, c, us, vs, rfl, hv.len, hl, hj.perm (List.perm_append_comm.trans (List.Perm.cons _ List.perm_middle))⟩
          rintro v ⟨_, _, hv⟩
          obtain ⟨A3, c3, rfl⟩ := Rd.rW9_form hv
          clear hv
          refine Rd.v_s9 (Rd.rV9 w (cb.length + cw.length) fun q vs => pVals q vs :: (rowsP vs (cb ++ cw) ++ [pRow (.slice (some ⟨w.heap.size + 1 + 1, 0, none⟩) m m) 2 1 m (zc (oL9 F (N0) m)), pBlk Kb9 (bv (N0)) 85, pBlk (w.heap.size + 1) (bv T) 85, pBlk w.heap.size (dv m f g) 31])) Rd.rV9_stable (by simp only [List.getElem?_toArray, List.getElem?_cons_zero, List.getElem?_cons_succ]; exact rfl) rfl (by go_simp) (fun wx hx hD => ?_) ?_
          · refine Rd.rW9_elim hD fun us vs hu hl hH => ?_
            refine Rd.upon_rows9 hH 1 0 rfl rfl (by have := LW.out; omega) (vals_one9 hu hH (fun a ha => List.mem_cons_of_mem _ (List.mem_cons_of_mem _ (List.mem_append_left _ ha)))) (by have := KB.out; omega) (fun v' w' h2 => ?_) _ _ rfl (by go_simp) (by go_simp)
            have h3 : Holds w w' (pVals v' (vs ++ us) :: (rowsP (vs ++ us) (cb ++ cw) ++ [pRow (.slice (some ⟨w.heap.size + 1 + 1, 0, none⟩) m m) 2 1 m (zc (oL9 F (N0) m)), pBlk Kb9 (bv (N0)) 85, pBlk (w.heap.size + 1) (bv T) 85, pBlk w.heap.size (dv m f g) 31])) := by
              rw [rowsP_append9 hl]
              refine h2.tail.perm (List.Perm.cons _ ?_)
              rw [← List.append_assoc]
              exact List.perm_append_comm.append_right _
            exact ⟨h3.sub (.cons _ (List.sublist_append_right _ _)), Rd.rV9_of rfl (by rw [List.length_append, hl, hu]) h3⟩
          rintro v -
          iterate 1
            apply Rd.v_q
            · simp only [List.getElem?_toArray, List.getElem?_cons_zero, List.getElem?_cons_succ]; exact rfl
            · rfl
            · go_simp
            · intro wx hx
              unfold atG
              go_simp
              simp only [uponG]
              exact ⟨by trivial, rfl⟩
          rintro wz - hz
          go_simp
          exact key v g0 A1 c1 A2 c2 A3 c3 _ hz
      intro q g0 A1 c1 A2 c2 A3 c3 w2 hR
      obtain ⟨A, c, vs, rfl, hvl, H1⟩ := hR
      clear H4
      have HCS := hide (show cb.length + cw.length = (cb ++ cw).length from List.length_append.symm)
      have HVL := hide (hvl.trans HCS.out)
      have hk1 := KB.out
      rw [HCS.out] at H1 hk1 ⊢
      clear hvl HCS CB CW LB LW KB
      generalize cb ++ cw = cs at *
      have H2 : Holds w w2 (pRow (.slice (some ⟨w.heap.size + 1 + 1, 0, none⟩) m m) 2 1 m (zc (oL9 F (N0) m)) :: pBlk Kb9 (bv (N0)) 85 :: pBlk (w.heap.size + 1) (bv T) 85 :: pBlk w.heap.size (dv m f g) 31 :: pVals (.slice A cs.length c) vs :: rowsP vs cs) := H1.perm ((List.Perm.cons _ List.perm_append_comm).trans ((List.perm_middle (l₁ := [pRow (.slice (some ⟨w.heap.size + 1 + 1, 0, none⟩) m m) 2 1 m (zc (oL9 F (N0) m)), pBlk Kb9 (bv (N0)) 85, pBlk (w.heap.size + 1) (bv T) 85, pBlk w.heap.size (dv m f g) 31])).symm))
      have HC0 : Hid (cnt9 N0 m + 0 ≤ m ∨ cnt9 N0 m = 0) := hide (.inl (by unfold cnt9 unk9; have := List.length_filter_le (fun y => !N0 y) (List.range m); rw [List.length_range] at this; omega))
      clear H1
      go_wp2
      go_loopw [11] (fun t wr => ∃ (r : Nat) (N : Nat → Bool), r ≤ m + 1 ∧ t = .int .i64 r ∧ Hid (∀ y, y < m → N y = false → T y = true) ∧ Hid (cnt9 N m + r ≤ m ∨ cnt9 N m = 0) ∧ Holds w wr (pRow (.slice (some ⟨w.heap.size + 1 + 1, 0, none⟩) m m) 2 1 m (zc (oL9 F (N) m)) :: pBlk Kb9 (bv (N)) 85 :: pBlk (w.heap.size + 1) (bv T) 85 :: pBlk w.heap.size (dv m f g) 31 :: pVals (.slice A cs.length c) vs :: rowsP vs cs)) (fun t _ => m + 1 - (intOf t).toNat)
      case atStart => exact ⟨0, N0, Nat.zero_le _, rfl, hNT, HC0, H2⟩
      case round =>
        clear H2 HC0 hNT
        obtain ⟨r, N, hr, rfl, hNT, hC, hH⟩ := hrel
        have cn0 := hH.cell 3 rfl hn
        by_cases hrm : r ≤ m
        · have hri : (r : Int) ≤ m := by omega
          have LF := hide fun h => LEAF.out N hNT.out h
          go_wp2
          clear cn0
          go_loopw [12] (fun t wq => ∃ (i : Nat) (M : Nat → Bool), i ≤ cs.length ∧ t = .int .i64 i ∧ Hid (∀ y, y < m → M y = false → T y = true) ∧ Hid (cnt9 M m < cnt9 N m ∨ (M = N ∧ ∀ j (hj : j < cs.length), j < i → (unk9 N cs[j]).length ≠ 1)) ∧ Holds w wq (pRow (.slice (some ⟨w.heap.size + 1 + 1, 0, none⟩) m m) 2 1 m (zc (oL9 F (M) m)) :: pBlk Kb9 (bv (M)) 85 :: pBlk (w.heap.size + 1) (bv T) 85 :: pBlk w.heap.size (dv m f g) 31 :: pVals (.slice A cs.length c) vs :: rowsP vs cs)) (fun t _ => cs.length - (intOf t).toNat)
          case atStart => exact ⟨0, N, Nat.zero_le _, rfl, hNT, hide (.inr ⟨rfl, fun j hj h => by omega⟩), hH⟩
          case round =>
            clear hH hNT
            obtain ⟨i, M, hi, rfl, hMT, hD, hH⟩ := hrel
            by_cases hil : i < cs.length
            · have hil' : (i : Int) < cs.length := by omega
              obtain ⟨g0, c0, A', c', e0, hvi, _, hpart⟩ := hH.rowAt HVL.out 4 rfl (fun _ => rfl) hil
              injection e0 with e0 e0a e0b
              subst e0
              clear e0a e0b
              have HVI := hide hvi
              have hmem := List.getElem_mem hil
              obtain ⟨hci, hcn, hcx⟩ := HCL.out _ hmem
              have hvs := HVT.out _ hmem
              have HCX := hide (And.intro hcn (And.intro hcx hvs))
              have HPT := hide hpart
              have HD1 := hide (fun (h : (unk9 M cs[i]).length ≠ 1) => (by
                rcases hD.out with k | ⟨k1, k2⟩
                · exact .inl k
                · refine .inr ⟨k1, fun j hj hji => ?_⟩
                  by_cases e : j = i
                  · subst e; rw [← k1]; exact h
                  · exact k2 j hj (by omega) : cnt9 M m < cnt9 N m ∨ (M = N ∧ ∀ j (hj : j < cs.length), j < i + 1 → (unk9 N cs[j]).length ≠ 1)))
              have HD2 := hide (show cnt9 M m ≤ cnt9 N m by rcases hD.out with k | ⟨k1, _⟩; exact Nat.le_of_lt k; rw [k1]; exact Nat.le_refl _)
              clear hvi hmem hcn hcx hvs hpart hD
              generalize cs[i] = ci at *
              go_wp2
              go_loopw [13, 14, 15, 16] (fun s u v t wx => ∃ j : Nat, j ≤ ci.length ∧ t = .int .i64 j ∧ s = .int .i64 (((ci.take j).map (kno9 F M)).sum) ∧ u = .int .i64 ((unk9 M (ci.take j)).length : Nat) ∧ v = .int .i64 (((unk9 M (ci.take j)).getLastD 0 : Nat) : Int) ∧ Holds w wx (pRow (.slice (some ⟨w.heap.size + 1 + 1, 0, none⟩) m m) 2 1 m (zc (oL9 F (M) m)) :: pBlk Kb9 (bv (M)) 85 :: pBlk (w.heap.size + 1) (bv T) 85 :: pBlk w.heap.size (dv m f g) 31 :: pVals (.slice (some ⟨g0, 0, none⟩) cs.length c) vs :: rowsP vs cs)) (fun _ _ _ t _ => ci.length - (intOf t).toNat)
              case atStart => exact ⟨0, Nat.zero_le _, rfl, by simp, by simp [unk9], by simp [unk9], hH⟩
              case round =>
                clear hH
                obtain ⟨j, hj, rfl, rfl, rfl, rfl, hH⟩ := hrel
                have hsb := kno9_bound (N := M) HFB.out (ci.take j)
                rw [List.length_take] at hsb
                have hub : (unk9 M (ci.take j)).length ≤ 16 := by unfold unk9; have := List.length_filter_le (fun y => !M y) (ci.take j); rw [List.length_take] at this; omega
                have x1 : wr.cell? ⟨g0, i, none⟩ = some (.slice A' ci.length c') := by
                  obtain ⟨g1, _, e1, _, _, _, _, h6, _⟩ := row_at (hH.row 4 rfl) (by have := HVL.out; omega)
                  injection e1 with e1
                  injection e1 with e1
                  injection e1 with e1
                  subst e1
                  exact h6 i _ HVI.out
                by_cases hjl : j < ci.length
                · have hji : (j : Int) < ci.length := by omega
                  obtain ⟨g2, c2, e2, _, y1, _⟩ := hH.ints (i + (4 + 1)) HPT.out hjl
                  injection e2 with e2 e2a e2b
                  subst e2
                  clear e2a e2b
                  have hym := HCX.out.2.1 _ (List.getElem_mem hjl)
                  have hul := unk9_last (N := M) hjl
                  have hsl : ((ci.take (j + 1)).map (kno9 F M)).sum = ((ci.take j).map (kno9 F M)).sum + kno9 F M ci[j] := by
                    rw [List.take_succ_eq_append_getElem hjl, List.map_append, List.sum_append]; simp
                  have hkb : -1 ≤ kno9 F M ci[j] ∧ kno9 F M ci[j] ≤ 1 := by have := HFB.out ci[j]; unfold kno9; split <;> omega
                  generalize ci[j] = y at *
                  have hyi : (y : Int) < m := by omega
                  have hy16 : (y : Int) < 16 := by omega
                  obtain ⟨o1, _⟩ := hH.rowCell9 0 rfl (zc_at9 (oL9_get F M hym))
                  have k1 := hH.cell 1 rfl (bv_get M (show y < 16 by omega))
                  generalize ((ci.take j).map (kno9 F M)).sum = s0 at *
                  generalize kno9 F M y = ky at *
                  have ws : wrap64 (s0 + ky) = s0 + ky := wr64 (by omega) (by omega)
                  have HSL := hide hsl; clear hsl
                  rcases hM : M y with _ | _
                  · rw [hM] at hul k1
                    rw [if_neg (by simp)] at hul
                    have HUL := hide hul; clear hul hM
                    generalize (unk9 M (ci.take j)).getLastD 0 = lst at *
                    obtain ⟨un, hun⟩ : ∃ un, un = (unk9 M (ci.take j)).length := ⟨_, rfl⟩
                    rw [← hun] at hub ⊢
                    have HUN := hide hun; clear hun
                    go_wp2
                    go_roundw
                    case rel => exact ⟨j + 1, by omega, by go_num, by rw [HSL.out], by rw [HUL.out, List.length_append, ← HUN.out]; go_num, by rw [HUL.out]; simp, hH⟩
                    case measure => simp [intOf]; omega
                  · rw [hM] at hul k1
                    rw [if_pos rfl] at hul
                    have HUL := hide hul; clear hul hM
                    generalize unk9 M (ci.take j) = ul at *
                    go_wp2
                    go_roundw
                    case rel => exact ⟨j + 1, by omega, by go_num, by rw [HSL.out], by rw [HUL.out], by rw [HUL.out], hH⟩
                    case measure => simp [intOf]; omega
                · obtain rfl : j = ci.length := by omega
                  rw [List.take_length] at hsb hub ⊢
                  have hks := kno9_sum (F := F) (N := M) (c := ci)
                  rw [HCX.out.2.2] at hks
                  by_cases hone : (unk9 M ci).length = 1
                  · obtain ⟨a, ha⟩ : ∃ a, unk9 M ci = [a] := by
                      rcases e : unk9 M ci with _ | ⟨a, _ | ⟨b, l⟩⟩
                      · rw [e] at hone; simp at hone
                      · exact ⟨a, rfl⟩
                      · rw [e] at hone; simp at hone
                    have hamem : a ∈ ci ∧ M a = false := by
                      have : a ∈ unk9 M ci := by rw [ha]; simp
                      unfold unk9 at this
                      rw [List.mem_filter] at this
                      exact ⟨this.1, by simpa using this.2⟩
                    have ham := HCX.out.2.1 a hamem.1
                    rw [ha] at hks ⊢
                    simp only [List.map_cons, List.map_nil, List.sum_cons, List.sum_nil] at hks
                    have hFa := HFB.out a
                    have hcs := cnt9_set (N := M) ham hamem.2
                    have hset := oL9_set F M m a
                    have HT2 : Hid (∀ y, y < m → (fun j => if j = a then true else M j) y = false → T y = true) := hide fun y hy h => by
                      by_cases e : y = a
                      · simp [e] at h
                      · simp [e] at h; exact hMT.out y hy h
                    have HD3 := hide (show cnt9 (fun j => if j = a then true else M j) m < cnt9 N m by have := HD2.out; omega)
                    obtain ⟨o1, o2⟩ := hH.rowCell9 0 rfl (zc_at9 (oL9_get F M ham))
                    have k1 := hH.cell 1 rfl (bv_get M (show a < 16 by omega))
                    have k2 := hH.frozen 1 rfl a
                    have n1 : Kb9 ≠ w.heap.size + 1 + 1 := fun e => hH.apart (i := 1) (j := 0) (by omega) rfl rfl (g := Kb9) rfl (by simp [pRow, Value.ownBlock, e])
                    have n2 : ¬ (w.heap.size + 1 + 1 = Kb9) := fun e => n1 e.symm
                    have hP := (hH.put 0 rfl a (.int .i64 (F a))).set 1 rfl a (.bool true)
                    simp only [List.set_cons_succ, List.set_cons_zero] at hP
                    rw [zc_set9, hset, bv9_set] at hP
                    generalize (ci.map (kno9 F M)).sum = s0 at *
                    have hs0 : s0 = - F a := by omega
                    subst hs0
                    generalize F a = fa at *
                    have wn : wrap64 (- - fa) = fa := by rw [Int.neg_neg]; exact wr64 (by omega) (by omega)
                    have wn2 : wrap64 fa = fa := wr64 (by omega) (by omega)
                    have wn3 : IntKind.i64.wrap fa = fa := wr64k (by omega) (by omega)
                    have wn4 : IntKind.i64.wrap (- - fa) = fa := by rw [Int.neg_neg]; exact wn3
                    have wn5 : - - fa = fa := Int.neg_neg fa
                    have hai : (a : Int) < m := by omega
                    have ha16 : (a : Int) < 16 := by omega
                    have HQ := hide hP
                    clear hP hH hset hcs hone ha hamem hks hjl hj hsb hub
                    simp only [List.length_cons, List.length_nil, List.getLastD, List.getLast_singleton]
                    go_wp2
                    go_roundw
                    case rel => exact ⟨i + 1, _, by omega, by go_num, HT2, hide (.inl HD3.out), HQ.out⟩
                    case measure => simp [intOf]; omega
                  · have hne : (((unk9 M ci).length : Int) == 1) = false := by simp; omega
                    have HD3 := hide (HD1.out hone)
                    have HQ := hide hH
                    clear hH hone hks hjl hj
                    generalize (unk9 M ci).length = un at *
                    generalize (unk9 M ci).getLastD 0 = lst at *
                    generalize (ci.map (kno9 F M)).sum = s0 at *
                    go_wp2
                    go_roundw
                    case rel => exact ⟨i + 1, M, by omega, by go_num, hMT, HD3, HQ.out⟩
                    case measure => simp [intOf]; omega
            · obtain rfl : i = cs.length := by omega
              have HC2 : Hid (cnt9 M m + (r + 1) ≤ m ∨ cnt9 M m = 0) := hide (by
                rcases hD.out with k | ⟨k1, k2⟩
                · rcases hC.out with k3 | k3
                  · exact .inl (by omega)
                  · omega
                · by_cases e : cnt9 N m = 0
                  · exact .inr (by rw [k1]; exact e)
                  · obtain ⟨j, hj, e2⟩ := LF.out e
                    exact absurd e2 (k2 j hj hj))
              clear hD hi hil
              go_wp2
              go_roundw
              case rel => exact ⟨r + 1, M, by omega, by go_num, hMT, HC2, hH⟩
              case measure => simp [intOf]; omega
        · obtain rfl : r = m + 1 := by omega
          have hfin : oL9 F N m = (List.range m).map F := oL9_all (cnt9_zero (by rcases hC.out with k | k; omega; exact k))
          have HQ := hide (show Holds w wr [pZ9 (.slice (some ⟨w.heap.size + 1 + 1, 0, none⟩) m m) ((List.range m).map F)] by
            have h := hH.sub (L' := [pRow (.slice (some ⟨w.heap.size + 1 + 1, 0, none⟩) m m) 2 1 m (zc (oL9 F (N) m))]) (.cons_cons _ (List.nil_sublist _))
            rw [hfin] at h
            unfold pZ9
            rw [List.length_map, List.length_range]
            exact h)
          clear hH hfin hC hrm hr
          go_wp2
          go_ret
          exact ⟨_, rfl, HQ.out⟩
end Go.Proofs.Ytmapjjfefjoemaa

namespace Go.Proofs.Ytmapjjfefjoemaa.Rd
open Go.RowKit

@[irreducible] def walkW (P : Program) (ops : Array Oper) (C : World → Prop) (E : Nat → Bool) (K : Act → World → Prop) (p : Plan) (a : Act) (D : World → Prop) : Prop := walkV P ops C E K p a D
section
variable {P : Program} {ops : Array Oper} {C : World → Prop} {E : Nat → Bool} {K : Act → World → Prop} {p : Plan} {k : Nat} {a : Act} {D : World → Prop} {o : Oper}
theorem w_in (h : walkW P ops C E K p a D) : walkV P ops C E K p a D := by unfold walkW at h; exact h
theorem w_fin (h : ∀ w, C w → D w → K a w) : walkW P ops C E K .fin a D := by unfold walkW; exact h
theorem w_q (ho : ops[k]? = some o) (hE : E k = false) (hw : Region.wanted o (yielded ops a.tmps) = true) {v : Value} (h1 : ∀ w, C w → atG P o a w v) (h2 : walkW P ops C E K p (a.put o.dst v) D) : walkW P ops C E K (.q k p) a D := by
  unfold walkW at *
  exact v_q ho hE hw h1 h2
theorem opV_skip {N : Act → (World → Prop) → Prop} (ho : ops[k]? = some o) (hw : Region.wanted o (yielded ops a.tmps) = false) (h : N (a.put o.dst undef) D) : opV P ops C E k N a D := by
  unfold opV
  simp only [ho]
  rw [if_neg (by rw [hw]; simp)]
  exact h
theorem w_skip (ho : ops[k]? = some o) (hw : Region.wanted o (yielded ops a.tmps) = false) (h : walkW P ops C E K p (a.put o.dst undef) D) : walkW P ops C E K (.q k p) a D := by
  unfold walkW at *
  exact opV_skip ho hw h
theorem w_skips (ho : ops[k]? = some o) (hw : Region.wanted o (yielded ops a.tmps) = false) (h : walkW P ops C E K p (a.put o.dst undef) D) : walkW P ops C E K (.s1 k p) a D := by
  unfold walkW at *
  exact opV_skip ho hw h
theorem w_s (R : Value → World → Prop) (hR : ∀ v, Stable (R v)) (ho : ops[k]? = some o) (hE : E k = true) (hw : Region.wanted o (yielded ops a.tmps) = true) (h1 : ∀ w, C w → D w → uponE P C R w ((execOp a.eval o).run P w))
    (h2 : ∀ v, (∃ w, C w ∧ R v w) → walkW P ops C E K p (a.put o.dst v) (R v)) : walkW P ops C E K (.s1 k p) a D := by
  unfold walkW at *
  exact v_s R hR ho hE hw h1 h2
end
section
variable {P : Program} {ops : Array Oper} {E : Nat → Bool} {K : Act → World → Prop} {p : Plan} {k : Nat} {a : Act} {w0 : World} {L L1 : List Part} {o : Oper}
theorem w_build (cells : Array Value) (t : TypeId) (n : Nat) (ho : ops[k]? = some o) (hE : E k = true) (hw : Region.wanted o (yielded ops a.tmps) = true)
    (h1 : ∀ w, Holds w0 w L → Holds w0 w L1 → (execOp a.eval o).run P w = .ok (.value (.slice (some ⟨w.heap.size, 0, none⟩) n n)) (w.alloc (.cells cells t)))
    (h2 : ∀ g, walkW P ops (fun wx => Holds w0 wx L) E K p (a.put o.dst (.slice (some ⟨g, 0, none⟩) n n)) (fun wx => Holds w0 wx (pBlk g cells t :: L1))) : walkW P ops (fun wx => Holds w0 wx L) E K (.s1 k p) a (fun wx => Holds w0 wx L1) := by
  unfold walkW at *
  exact v_build cells t n ho hE hw h1 h2
theorem region_W {P : Program} {id : Nat} {Q : Exit → Act → World → Prop} {a : Act} {w w0 : World} {l : List Oper} (L : List Part) (L1 : List Part) (sp : List Nat) (p : Plan) (H : Holds w0 w L1) (hL : L.Sublist L1)
    (hm : P.follows .mixedOrders = true)
    (hsel : Region.noSelect l.toArray = true) (hB : planB .any l.toArray sp l.toArray.size p (Array.replicate l.toArray.size false) = true) 
    (h : walkW P l.toArray (fun wx => Holds w0 wx L) (fun k => sp.contains k) (fun a' w' => Q .normal a' w') p a (fun wx => Holds w0 wx L1)) : (Code.region id l.toArray true).wp P Q a w :=
  region_P L L1 sp p H hL hm hsel hB (w_in h)
end
end Go.Proofs.Ytmapjjfefjoemaa.Rd

namespace Go.Proofs.Ytmapjjfefjoemaa.Rd
open Go.RowKit

inductive P4 where
  | fin
  | q (k : Nat) (p : P4)
  | s1 (k : Nat) (p : P4)
  | s2 (k1 : Nat) (p1 : P4) (k2 : Nat) (p2 : P4)
  | s3 (k1 : Nat) (p1 : P4) (k2 : Nat) (p2 : P4) (k3 : Nat) (p3 : P4)
  | s4 (k1 : Nat) (p1 : P4) (k2 : Nat) (p2 : P4) (k3 : Nat) (p3 : P4) (k4 : Nat) (p4 : P4)
section
variable (P : Program) (md : Region.Mode) (ops : Array Oper) (C : World → Prop) (E : Nat → Bool) (K : Act → World → Prop)
def planB4 (sp : List Nat) : Nat → P4 → Array Bool → Bool
  | _, .fin, done => (Region.ready md ops done).isEmpty
  | 0, _, _ => false
  | f + 1, .q k p, done => !sp.contains k && ((Region.ready md ops done).contains k && Region.free md ops done k && (decide (k < ops.size) && planB4 sp f p (done.setIfInBounds k true)))
  | f + 1, .s1 k p, done => decide (Region.ready md ops done = [k]) && planB4 sp f p (done.setIfInBounds k true)
  | f + 1, .s2 k1 p1 k2 p2, done => decide (Region.ready md ops done = [k1, k2]) && (planB4 sp f p1 (done.setIfInBounds k1 true) && planB4 sp f p2 (done.setIfInBounds k2 true))
  | f + 1, .s3 k1 p1 k2 p2 k3 p3, done => decide (Region.ready md ops done = [k1, k2, k3]) && (planB4 sp f p1 (done.setIfInBounds k1 true) && (planB4 sp f p2 (done.setIfInBounds k2 true) && planB4 sp f p3 (done.setIfInBounds k3 true)))
  | f + 1, .s4 k1 p1 k2 p2 k3 p3 k4 p4, done => decide (Region.ready md ops done = [k1, k2, k3, k4]) && (planB4 sp f p1 (done.setIfInBounds k1 true) && (planB4 sp f p2 (done.setIfInBounds k2 true) && (planB4 sp f p3 (done.setIfInBounds k3 true) && planB4 sp f p4 (done.setIfInBounds k4 true))))
def walk4 : P4 → Act → (World → Prop) → Prop
  | .fin, a, D => ∀ w, C w → D w → K a w
  | .q k p, a, D => opV P ops C E k (walk4 p) a D
  | .s1 k p, a, D => opV P ops C E k (walk4 p) a D
  | .s2 k1 p1 k2 p2, a, D => opV P ops C E k1 (walk4 p1) a D ∧ opV P ops C E k2 (walk4 p2) a D
  | .s3 k1 p1 k2 p2 k3 p3, a, D => opV P ops C E k1 (walk4 p1) a D ∧ opV P ops C E k2 (walk4 p2) a D ∧ opV P ops C E k3 (walk4 p3) a D
  | .s4 k1 p1 k2 p2 k3 p3 k4 p4, a, D => opV P ops C E k1 (walk4 p1) a D ∧ opV P ops C E k2 (walk4 p2) a D ∧ opV P ops C E k3 (walk4 p3) a D ∧ opV P ops C E k4 (walk4 p4) a D
theorem any_walk4 (hsel : Region.noSelect ops = true) (sp : List Nat) (hsp : ∀ k, sp.contains k = false → E k = false) (p : P4) :
    ∀ (f : Nat) (done : Array Bool) (a : Act) (D : World → Prop), planB4 md ops sp f p done = true → walk4 P ops C E K p a D → anyV P md ops C E K f done a D := by
  induction p with
  | fin =>
    intro f done a D hB h
    cases f with
    | zero => exact ⟨by simpa [planB4] using hB, h⟩
    | succ f =>
      have e : Region.ready md ops done = [] := by simpa [planB4] using hB
      exact ⟨fun _ => h, fun i hi => by rw [e] at hi; cases hi⟩
  | q k p ih =>
    intro f done a D hB h
    cases f with
    | zero => simp [planB4] at hB
    | succ f =>
      simp only [planB4, Bool.and_eq_true, decide_eq_true_eq, Bool.not_eq_true'] at hB
      obtain ⟨hc, ⟨hr, hfree⟩, hk, hB'⟩ := hB
      have hE := hsp k hc
      have hi : ops[k]? = some ops[k] := Array.getElem?_eq_getElem hk
      obtain ⟨v, hy, hK⟩ := yieldsG_of P ops C E hi hE h
      exact anyV_first P md ops C E K hi hE (Region.noSelect_spec hsel) f done a D (Region.free_spec hi hfree) (by simpa using hr) hy (ih _ _ _ _ hB' hK)
  | s1 k p ih =>
    intro f done a D hB h
    cases f with
    | zero => simp [planB4] at hB
    | succ f =>
      simp only [planB4, Bool.and_eq_true, decide_eq_true_eq] at hB
      obtain ⟨hr, hB'⟩ := hB
      refine ⟨fun e => (by rw [hr] at e; cases e), fun i hi => ?_⟩
      rw [hr] at hi
      obtain rfl : i = k := by simpa using hi
      exact opV_mono P ops C E (fun a' D' h' => ih _ _ _ _ hB' h') h
  | s2 k1 p1 k2 p2 ih1 ih2 =>
    intro f done a D hB h
    cases f with
    | zero => simp [planB4] at hB
    | succ f =>
      simp only [planB4, Bool.and_eq_true, decide_eq_true_eq] at hB
      obtain ⟨hr, hB1, hB2⟩ := hB
      refine ⟨fun e => (by rw [hr] at e; cases e), fun i hi => ?_⟩
      rw [hr] at hi
      simp only [List.mem_cons, List.not_mem_nil, or_false] at hi
      rcases hi with rfl | rfl
      · exact opV_mono P ops C E (fun a' D' h' => ih1 _ _ _ _ hB1 h') h.1
      · exact opV_mono P ops C E (fun a' D' h' => ih2 _ _ _ _ hB2 h') h.2
  | s3 k1 p1 k2 p2 k3 p3 ih1 ih2 ih3 =>
    intro f done a D hB h
    cases f with
    | zero => simp [planB4] at hB
    | succ f =>
      simp only [planB4, Bool.and_eq_true, decide_eq_true_eq] at hB
      obtain ⟨hr, hB1, hB2, hB3⟩ := hB
      refine ⟨fun e => (by rw [hr] at e; cases e), fun i hi => ?_⟩
      rw [hr] at hi
      simp only [List.mem_cons, List.not_mem_nil, or_false] at hi
      rcases hi with rfl | rfl | rfl
      · exact opV_mono P ops C E (fun a' D' h' => ih1 _ _ _ _ hB1 h') h.1
      · exact opV_mono P ops C E (fun a' D' h' => ih2 _ _ _ _ hB2 h') h.2.1
      · exact opV_mono P ops C E (fun a' D' h' => ih3 _ _ _ _ hB3 h') h.2.2
  | s4 k1 p1 k2 p2 k3 p3 k4 p4 ih1 ih2 ih3 ih4 =>
    intro f done a D hB h
    cases f with
    | zero => simp [planB4] at hB
    | succ f =>
      simp only [planB4, Bool.and_eq_true, decide_eq_true_eq] at hB
      obtain ⟨hr, hB1, hB2, hB3, hB4⟩ := hB
      refine ⟨fun e => (by rw [hr] at e; cases e), fun i hi => ?_⟩
      rw [hr] at hi
      simp only [List.mem_cons, List.not_mem_nil, or_false] at hi
      rcases hi with rfl | rfl | rfl | rfl
      · exact opV_mono P ops C E (fun a' D' h' => ih1 _ _ _ _ hB1 h') h.1
      · exact opV_mono P ops C E (fun a' D' h' => ih2 _ _ _ _ hB2 h') h.2.1
      · exact opV_mono P ops C E (fun a' D' h' => ih3 _ _ _ _ hB3 h') h.2.2.1
      · exact opV_mono P ops C E (fun a' D' h' => ih4 _ _ _ _ hB4 h') h.2.2.2
end
theorem region_4 {P : Program} {id : Nat} {Q : Exit → Act → World → Prop} {a : Act} {w w0 : World} {l : List Oper} (L : List Part) (L1 : List Part) (sp : List Nat) (p : P4) (H : Holds w0 w L1) (hL : L.Sublist L1)
    (hm : P.follows .mixedOrders = true)
    (hsel : Region.noSelect l.toArray = true) (hB : planB4 .any l.toArray sp l.toArray.size p (Array.replicate l.toArray.size false) = true)
    {α β γ δ : Type} (F : α → β → γ → δ → List Part) (act : α → β → γ → δ → Act)
    (h : ∀ K : Act → World → Prop, (∀ g1 g2 g3 g4 wx, Holds w0 wx (F g1 g2 g3 g4) → K (act g1 g2 g3 g4) wx) → walk4 P l.toArray (fun wx => Holds w0 wx L) (fun k => sp.contains k) K p a (fun wx => Holds w0 wx L1))
    (key : ∀ g1 g2 g3 g4 wx, Holds w0 wx (F g1 g2 g3 g4) → Q .normal (act g1 g2 g3 g4) wx) : (Code.region id l.toArray true).wp P Q a w := by
  refine wp_region_any hm ?_
  exact anyV_any (Q := Q) P .any l.toArray (fun wx => Holds w0 wx L) (fun k => sp.contains k) (fun a' w' => Q .normal a' w') (fun _ _ h hb => h.call hb) (fun _ _ h => h) _ _ _ _ w.drew (fun _ _ h hb => h.call hb) (H.drew.sub hL) H.drew
    (any_walk4 P .any l.toArray (fun wx => Holds w0 wx L) (fun k => sp.contains k) (fun a' w' => Q .normal a' w') hsel sp (fun _ h => h) p _ _ a _ hB (h (fun a' w' => Q .normal a' w') key))
theorem w_s9 {P : Program} {ops : Array Oper} {C : World → Prop} {E : Nat → Bool} {K : Act → World → Prop} {p : Plan} {k : Nat} {a : Act} {D : World → Prop} {o : Oper} (R : Value → World → Prop) (hR : ∀ v, Stable (R v)) (ho : ops[k]? = some o) (hE : E k = true) (hw : Region.wanted o (yielded ops a.tmps) = true) (h1 : ∀ w, C w → D w → upon9 P C R w ((execOp a.eval o).run P w))
    (h2 : ∀ v, (∃ w, C w ∧ R v w) → walkW P ops C E K p (a.put o.dst v) (R v)) : walkW P ops C E K (.s1 k p) a D :=
  w_s R hR ho hE hw (fun w hc hd => by have := h1 w hc hd; rwa [upon9_eq] at this) h2
end Go.Proofs.Ytmapjjfefjoemaa.Rd
