/- Texts put together: Hbs, Hbd, EqDs, LHbd -/
import Derived.Test.YtmapjjfefjoemaaQhLawHomologyBasis
import Derived.Test.YtmapjjfefjoemaaChecked
import Derived.WalkKit
import Derived.WalkSpells
import Derived.WalkLawsBesides
import Derived.Deep.LoopGhost
import Derived.Deep.OwnRows
import Derived.Laws.Rows
import Derived.Laws.Tables
import Derived.Laws.CopyOwn
import Derived.ProofKit
import Derived.OpenShut
import Derived.ShutString
import Derived.ChangeOld
import Derived.Below
import Derived.Laws.OwnMore
import Derived.BigQuiet
import Derived.Deep.QuietTactic
import Derived.OwnWalk
import Derived.ChangeSlices
import Derived.RegionTactic
import Derived.Deep.Quiet
import Derived.StillTail
import Derived.Deep.Slices
import Derived.WideShapes
import Derived.Laws.CopyRow
import Derived.Deep.MidRow
import Derived.Deep.RegionWith
import Derived.ChangeKeysEq
import Derived.StillTailTactics
import Derived.Deep.RegionHeld3
import Derived.Laws.Cover3
import Derived.IntWalk
import Derived.Laws.StructEq
import Derived.DataElems
namespace Go.Proofs.Ytmapjjfefjoemaa
open Go.RowKit

/-- the edges below k that are none of the tree -/
def O9 (T : Nat → Bool) (k : Nat) : List Nat := (List.range k).filter fun x => !T x
theorem O9_succ (T : Nat → Bool) (k : Nat) : O9 T (k + 1) = if T k = true then O9 T k else O9 T k ++ [k] := by
  unfold O9
  rw [List.range_succ, List.filter_append]
  rcases h : T k with _ | _ <;> simp [h]
theorem O9_end (f g : Nat → Nat) (m : Nat) : O9 (mk9 (vb9 f m) (vw9 g m) m) m = (tre9 f g m).2 := by
  have h := filter_sub9 (spl9_sub (vb9 f m) (vw9 g m) (List.range m)).2 List.nodup_range
  have h2 : (tre9 f g m).2 = (spl9 (vb9 f m) (vw9 g m) (List.range m)).2 := rfl
  rw [h2]
  refine Eq.trans ?_ h
  unfold O9 mk9
  apply List.filter_congr
  intro x hx
  have h3 := spl9_mem (vb9 f m) (vw9 g m) (List.range m) x
  have h4 := spl9_disj (vb9 f m) (vw9 g m) (l := List.range m) List.nodup_range x
  by_cases c : x ∈ (spl9 (vb9 f m) (vw9 g m) (List.range m)).1
  · have : x ∉ (spl9 (vb9 f m) (vw9 g m) (List.range m)).2 := fun h => h4 h c
    simp [c, this]
  · have := (h3.1 hx).resolve_left c
    simp [c, this]
theorem fb9_at {f g : Nat → Nat} {m x : Nat} (hx : x < m) : fb9 f g m x = whichF (faceF f g m) m x := by unfold fb9 upto; rw [if_pos hx]
theorem fw9_at {f g : Nat → Nat} {m x : Nat} (hx : x < m) : fw9 f g m x = whichF (faceF f g m) m (backF f m x) := by unfold fw9 upto; rw [if_pos hx]
set_option maxRecDepth 100000 in
set_option maxHeartbeats 3000000 in
theorem sBasis_any (f g : Nat → Nat) (m : Nat) (hd : DesN f g m) (w : World) :
    Calls Try.prog 84 #[.agg (dv m f g)] w fun e w' => ∃ v vs, e = .returned v ∧ vs.length = (hbs9 f g m).length ∧ Holds w w' (pVals v vs :: rowsZ9 vs (hbs9 f g m)) := by
  have CT := hide fun w => l09Tree_any f g m hd w
  have CF := hide fun w => sFace_any f g m hd.le hd.bf.1 hd.bg.1 w
  have CB := hide fun w => sWhich_any (faceF f g m) m hd.face w
  have CK := hide fun w => sBack_any f m hd.le (fun i hi => by have := hd.bf.1 i hi; have := hd.le; omega) w
  have CA := hide fun w => l09Alone_any 16 (by omega) w
  have LB := hide fun x (hx : x < m) => which_lt9 hd.face hx
  have LK := hide (backF_facts hd.black).2.2
  have CO := hide fun (x : Nat) (hx : x < m) (hxT : mk9 (vb9 f m) (vw9 g m) m x = false) w => (by
    have h : x ∉ (tre9 f g m).1 := by
      have e : mk9 (vb9 f m) (vw9 g m) m x = decide (x ∈ (tre9 f g m).1) := rfl
      rw [e] at hxT; simpa using hxT
    exact sOf_any f g m hd x hx h w : Calls Try.prog 78 #[.agg (dv m f g), .agg (bv (mk9 (vb9 f m) (vw9 g m) m)), .int .i64 x] w fun e w' => ∃ u, e = .returned u ∧ Holds w w' [pZ9 u (cyl9 f g m x)])
  have hE := O9_end f g m
  have hHB : hbs9 f g m = ((spl9 (fb9 f g m) (fw9 f g m) (O9 (mk9 (vb9 f m) (vw9 g m) m) m)).2).map (cyl9 f g m) := by rw [hE]; rfl
  rw [hHB]
  have HE0 : Hid (∀ x, x < m → fb9 f g m x = whichF (faceF f g m) m x) := hide fun x hx => fb9_at hx
  have HE1 : Hid (∀ x, x < m → fw9 f g m x = whichF (faceF f g m) m (backF f m x)) := hide fun x hx => fw9_at hx
  have hm := hd.le
  have hn := dv_n m f g
  clear hd hE hHB
  generalize cyl9 f g m = Y at *
  generalize mk9 (vb9 f m) (vw9 g m) m = T at *
  generalize fb9 f g m = e0 at *
  generalize fw9 f g m = e1 at *
  generalize whichF (faceF f g m) m = hb at *
  generalize faceF f g m = Fc at *
  generalize backF f m = bk at *
  have HSL := hide fun k => (show ((spl9 e0 e1 (O9 T k)).2).length ≤ k by
    have := spl9_len e0 e1 (O9 T k)
    have h2 := List.length_filter_le (fun x => !T x) (List.range k)
    rw [List.length_range] at h2
    unfold O9 at *; omega)
  have HH0 := (Holds.start w).blk (dv m f g) 31 w.heap.size rfl
  go_enter Try.func84, Try.ntmps84
  go_wp2
  apply Rd.region_4 (w0 := w) [pBlk w.heap.size (dv m f g) 31] [pBlk w.heap.size (dv m f g) 31] [12, 13, 14, 15, 16, 17, 18] (.q 0 <| .q 1 <| .q 2 <| .q 3 <| .q 4 <| .q 5 <| .q 6 <| .q 7 <| .q 8 <| .q 9 <| .q 10 <| .q 11 <| (.s4 12 (.s3 13 (.s2 14 (.s1 15 <| .s1 16 <| .s1 17 <| .s1 18 <| .q 19 .fin) 15 (.s1 14 <| .s1 16 <| .s1 17 <| .s1 18 <| .q 19 .fin)) 14 (.s2 13 (.s1 15 <| .s1 16 <| .s1 17 <| .s1 18 <| .q 19 .fin) 15 (.s1 13 <| .s1 16 <| .s1 17 <| .s1 18 <| .q 19 .fin)) 15 (.s2 13 (.s1 14 <| .s1 16 <| .s1 17 <| .s1 18 <| .q 19 .fin) 14 (.s1 13 <| .s1 16 <| .s1 17 <| .s1 18 <| .q 19 .fin))) 13 (.s3 12 (.s2 14 (.s1 15 <| .s1 16 <| .s1 17 <| .s1 18 <| .q 19 .fin) 15 (.s1 14 <| .s1 16 <| .s1 17 <| .s1 18 <| .q 19 .fin)) 14 (.s2 12 (.s1 15 <| .s1 16 <| .s1 17 <| .s1 18 <| .q 19 .fin) 15 (.s1 12 <| .s1 16 <| .s1 17 <| .s1 18 <| .q 19 .fin)) 15 (.s2 12 (.s1 14 <| .s1 16 <| .s1 17 <| .s1 18 <| .q 19 .fin) 14 (.s1 12 <| .s1 16 <| .s1 17 <| .s1 18 <| .q 19 .fin))) 14 (.s3 12 (.s2 13 (.s1 15 <| .s1 16 <| .s1 17 <| .s1 18 <| .q 19 .fin) 15 (.s1 13 <| .s1 16 <| .s1 17 <| .s1 18 <| .q 19 .fin)) 13 (.s2 12 (.s1 15 <| .s1 16 <| .s1 17 <| .s1 18 <| .q 19 .fin) 15 (.s1 12 <| .s1 16 <| .s1 17 <| .s1 18 <| .q 19 .fin)) 15 (.s2 12 (.s1 13 <| .s1 16 <| .s1 17 <| .s1 18 <| .q 19 .fin) 13 (.s1 12 <| .s1 16 <| .s1 17 <| .s1 18 <| .q 19 .fin))) 15 (.s3 12 (.s2 13 (.s1 14 <| .s1 16 <| .s1 17 <| .s1 18 <| .q 19 .fin) 14 (.s1 13 <| .s1 16 <| .s1 17 <| .s1 18 <| .q 19 .fin)) 13 (.s2 12 (.s1 14 <| .s1 16 <| .s1 17 <| .s1 18 <| .q 19 .fin) 14 (.s1 12 <| .s1 16 <| .s1 17 <| .s1 18 <| .q 19 .fin)) 14 (.s2 12 (.s1 13 <| .s1 16 <| .s1 17 <| .s1 18 <| .q 19 .fin) 13 (.s1 12 <| .s1 16 <| .s1 17 <| .s1 18 <| .q 19 .fin))))) HH0 (.refl _) (by kernel_rfl) (by kernel_rfl) (by kernel_rfl) (F := fun (cv : Value) (g3 : Nat) (g4 : Nat) (g5 : Nat) => pInts cv (List.range 16) :: pBlk g3 (bv T) 85 :: pBlk g4 (zv hb) 112 :: pBlk g5 (av bk) 29 :: [pBlk w.heap.size (dv m f g) 31])
  case h =>
    intro K key
    iterate 1
      apply Rd.v_q
      · simp only [List.getElem?_toArray, List.getElem?_cons_zero, List.getElem?_cons_succ]; exact rfl
      · rfl
      · go_simp
      · intro wx hx
        have q1 := hx.cells 0 rfl
        have q2 := hx.cell 0 rfl hn
        unfold atG
        go_simp
        simp only [uponG]
        exact ⟨by trivial, rfl⟩
    iterate 1
      apply Rd.v_q
      · simp only [List.getElem?_toArray, List.getElem?_cons_zero, List.getElem?_cons_succ]; exact rfl
      · rfl
      · go_simp
      · intro wx hx
        have q1 := hx.cells 0 rfl
        have q2 := hx.cell 0 rfl hn
        unfold atG
        go_simp
        simp only [uponG]
        exact ⟨by trivial, CT.out wx⟩
    iterate 1
      apply Rd.v_q
      · simp only [List.getElem?_toArray, List.getElem?_cons_zero, List.getElem?_cons_succ]; exact rfl
      · rfl
      · go_simp
      · intro wx hx
        have q1 := hx.cells 0 rfl
        have q2 := hx.cell 0 rfl hn
        unfold atG
        go_simp
        simp only [uponG]
        exact ⟨by trivial, rfl⟩
    iterate 1
      apply Rd.v_q
      · simp only [List.getElem?_toArray, List.getElem?_cons_zero, List.getElem?_cons_succ]; exact rfl
      · rfl
      · go_simp
      · intro wx hx
        have q1 := hx.cells 0 rfl
        have q2 := hx.cell 0 rfl hn
        unfold atG
        go_simp
        simp only [uponG]
        exact ⟨by trivial, CF.out wx⟩
    iterate 2
      apply Rd.v_q
      · simp only [List.getElem?_toArray, List.getElem?_cons_zero, List.getElem?_cons_succ]; exact rfl
      · rfl
      · go_simp
      · intro wx hx
        have q1 := hx.cells 0 rfl
        have q2 := hx.cell 0 rfl hn
        unfold atG
        go_simp
        simp only [uponG]
        exact ⟨by trivial, rfl⟩
    iterate 1
      apply Rd.v_q
      · simp only [List.getElem?_toArray, List.getElem?_cons_zero, List.getElem?_cons_succ]; exact rfl
      · rfl
      · go_simp
      · intro wx hx
        have q1 := hx.cells 0 rfl
        have q2 := hx.cell 0 rfl hn
        unfold atG
        go_simp
        simp only [uponG]
        exact ⟨by trivial, CB.out wx⟩
    iterate 4
      apply Rd.v_q
      · simp only [List.getElem?_toArray, List.getElem?_cons_zero, List.getElem?_cons_succ]; exact rfl
      · rfl
      · go_simp
      · intro wx hx
        have q1 := hx.cells 0 rfl
        have q2 := hx.cell 0 rfl hn
        unfold atG
        go_simp
        simp only [uponG]
        exact ⟨by trivial, rfl⟩
    iterate 1
      apply Rd.v_q
      · simp only [List.getElem?_toArray, List.getElem?_cons_zero, List.getElem?_cons_succ]; exact rfl
      · rfl
      · go_simp
      · intro wx hx
        have q1 := hx.cells 0 rfl
        have q2 := hx.cell 0 rfl hn
        unfold atG
        go_simp
        simp only [uponG]
        exact ⟨by trivial, CK.out wx⟩
    refine ⟨?_, ?_, ?_, ?_⟩
    · skip
      refine Rd.v_own9 (List.range 16) (by simp only [List.getElem?_toArray, List.getElem?_cons_zero, List.getElem?_cons_succ]; exact rfl) rfl (by go_simp) (fun wx hx hD => ?_) fun cv => ?_
      · go_simp
        exact Rd.upon9_call hx hD (CA.out wx)
      refine ⟨?_, ?_, ?_⟩
      · skip
        refine Rd.v_box (bv fun _ => false) 85 (by simp only [List.getElem?_toArray, List.getElem?_cons_zero, List.getElem?_cons_succ]; exact rfl) rfl (by go_simp) (fun wx hx hD => by rw [bv_false]; go_simp) fun g3 => ?_
        refine ⟨?_, ?_⟩
        · skip
          refine Rd.v_box (zv fun _ => 0) 112 (by simp only [List.getElem?_toArray, List.getElem?_cons_zero, List.getElem?_cons_succ]; exact rfl) rfl (by go_simp) (fun wx hx hD => by rw [zv_zero]; go_simp) fun g4 => ?_
          refine Rd.v_box (av fun _ => 0) 29 (by simp only [List.getElem?_toArray, List.getElem?_cons_zero, List.getElem?_cons_succ]; exact rfl) rfl (by go_simp) (fun wx hx hD => by rw [av_zero]; go_simp) fun g5 => ?_
          refine Rd.v_put 2 g3 (bv fun _ => false) (bv T) 85 rfl (.cons _ (.cons _ (.cons _ (.cons _ (.refl _))))) (by simp only [List.getElem?_toArray, List.getElem?_cons_zero, List.getElem?_cons_succ]; exact rfl) rfl (by go_simp) (fun wx hx hD => ?_) ?_
          · have rr := hD.rowOk (n := 16) 2 rfl (bv_size _)
            go_simp
          refine Rd.v_put 1 g4 (zv fun _ => 0) (zv hb) 112 rfl (.cons _ (.cons _ (.cons _ (.cons _ (.refl _))))) (by simp only [List.getElem?_toArray, List.getElem?_cons_zero, List.getElem?_cons_succ]; exact rfl) rfl (by go_simp) (fun wx hx hD => ?_) ?_
          · have rr := hD.rowOk (n := 16) 1 rfl (zv_size _)
            go_simp
          refine Rd.v_put 0 g5 (av fun _ => 0) (av bk) 29 rfl (.cons _ (.cons _ (.cons _ (.cons _ (.refl _))))) (by simp only [List.getElem?_toArray, List.getElem?_cons_zero, List.getElem?_cons_succ]; exact rfl) rfl (by go_simp) (fun wx hx hD => ?_) ?_
          · have rr := hD.rowOk (n := 16) 0 rfl (av_size _)
            go_simp
          iterate 1
            apply Rd.v_q
            · simp only [List.getElem?_toArray, List.getElem?_cons_zero, List.getElem?_cons_succ]; exact rfl
            · rfl
            · go_simp
            · intro wx hx
              unfold atG
              go_simp
              simp only [uponG]
              exact ⟨by trivial, rfl⟩
          rintro wz - hz
          go_simp
          exact key cv g3 g4 g5 _ (hz.perm ((((List.Perm.swap _ _ _).cons _).cons _).trans (((List.Perm.swap _ _ _).cons _).trans ((List.Perm.swap _ _ _).trans ((((List.Perm.swap _ _ _).cons _).cons _).trans (((List.Perm.swap _ _ _).cons _).trans ((((List.Perm.swap _ _ _).cons _).cons _))))))))
        · skip
          refine Rd.v_box (av fun _ => 0) 29 (by simp only [List.getElem?_toArray, List.getElem?_cons_zero, List.getElem?_cons_succ]; exact rfl) rfl (by go_simp) (fun wx hx hD => by rw [av_zero]; go_simp) fun g5 => ?_
          refine Rd.v_box (zv fun _ => 0) 112 (by simp only [List.getElem?_toArray, List.getElem?_cons_zero, List.getElem?_cons_succ]; exact rfl) rfl (by go_simp) (fun wx hx hD => by rw [zv_zero]; go_simp) fun g4 => ?_
          refine Rd.v_put 2 g3 (bv fun _ => false) (bv T) 85 rfl (.cons _ (.cons _ (.cons _ (.cons _ (.refl _))))) (by simp only [List.getElem?_toArray, List.getElem?_cons_zero, List.getElem?_cons_succ]; exact rfl) rfl (by go_simp) (fun wx hx hD => ?_) ?_
          · have rr := hD.rowOk (n := 16) 2 rfl (bv_size _)
            go_simp
          refine Rd.v_put 0 g4 (zv fun _ => 0) (zv hb) 112 rfl (.cons _ (.cons _ (.cons _ (.cons _ (.refl _))))) (by simp only [List.getElem?_toArray, List.getElem?_cons_zero, List.getElem?_cons_succ]; exact rfl) rfl (by go_simp) (fun wx hx hD => ?_) ?_
          · have rr := hD.rowOk (n := 16) 0 rfl (zv_size _)
            go_simp
          refine Rd.v_put 1 g5 (av fun _ => 0) (av bk) 29 rfl (.cons _ (.cons _ (.cons _ (.cons _ (.refl _))))) (by simp only [List.getElem?_toArray, List.getElem?_cons_zero, List.getElem?_cons_succ]; exact rfl) rfl (by go_simp) (fun wx hx hD => ?_) ?_
          · have rr := hD.rowOk (n := 16) 1 rfl (av_size _)
            go_simp
          iterate 1
            apply Rd.v_q
            · simp only [List.getElem?_toArray, List.getElem?_cons_zero, List.getElem?_cons_succ]; exact rfl
            · rfl
            · go_simp
            · intro wx hx
              unfold atG
              go_simp
              simp only [uponG]
              exact ⟨by trivial, rfl⟩
          rintro wz - hz
          go_simp
          exact key cv g3 g4 g5 _ (hz.perm ((((List.Perm.swap _ _ _).cons _).cons _).trans (((List.Perm.swap _ _ _).cons _).trans ((List.Perm.swap _ _ _).trans ((((List.Perm.swap _ _ _).cons _).cons _).trans (((List.Perm.swap _ _ _).cons _)))))))
      · skip
        refine Rd.v_box (zv fun _ => 0) 112 (by simp only [List.getElem?_toArray, List.getElem?_cons_zero, List.getElem?_cons_succ]; exact rfl) rfl (by go_simp) (fun wx hx hD => by rw [zv_zero]; go_simp) fun g4 => ?_
        refine ⟨?_, ?_⟩
        · skip
          refine Rd.v_box (bv fun _ => false) 85 (by simp only [List.getElem?_toArray, List.getElem?_cons_zero, List.getElem?_cons_succ]; exact rfl) rfl (by go_simp) (fun wx hx hD => by rw [bv_false]; go_simp) fun g3 => ?_
          refine Rd.v_box (av fun _ => 0) 29 (by simp only [List.getElem?_toArray, List.getElem?_cons_zero, List.getElem?_cons_succ]; exact rfl) rfl (by go_simp) (fun wx hx hD => by rw [av_zero]; go_simp) fun g5 => ?_
          refine Rd.v_put 1 g3 (bv fun _ => false) (bv T) 85 rfl (.cons _ (.cons _ (.cons _ (.cons _ (.refl _))))) (by simp only [List.getElem?_toArray, List.getElem?_cons_zero, List.getElem?_cons_succ]; exact rfl) rfl (by go_simp) (fun wx hx hD => ?_) ?_
          · have rr := hD.rowOk (n := 16) 1 rfl (bv_size _)
            go_simp
          refine Rd.v_put 2 g4 (zv fun _ => 0) (zv hb) 112 rfl (.cons _ (.cons _ (.cons _ (.cons _ (.refl _))))) (by simp only [List.getElem?_toArray, List.getElem?_cons_zero, List.getElem?_cons_succ]; exact rfl) rfl (by go_simp) (fun wx hx hD => ?_) ?_
          · have rr := hD.rowOk (n := 16) 2 rfl (zv_size _)
            go_simp
          refine Rd.v_put 0 g5 (av fun _ => 0) (av bk) 29 rfl (.cons _ (.cons _ (.cons _ (.cons _ (.refl _))))) (by simp only [List.getElem?_toArray, List.getElem?_cons_zero, List.getElem?_cons_succ]; exact rfl) rfl (by go_simp) (fun wx hx hD => ?_) ?_
          · have rr := hD.rowOk (n := 16) 0 rfl (av_size _)
            go_simp
          iterate 1
            apply Rd.v_q
            · simp only [List.getElem?_toArray, List.getElem?_cons_zero, List.getElem?_cons_succ]; exact rfl
            · rfl
            · go_simp
            · intro wx hx
              unfold atG
              go_simp
              simp only [uponG]
              exact ⟨by trivial, rfl⟩
          rintro wz - hz
          go_simp
          exact key cv g3 g4 g5 _ (hz.perm ((((List.Perm.swap _ _ _).cons _).cons _).trans (((List.Perm.swap _ _ _).cons _).trans ((List.Perm.swap _ _ _).trans (((List.Perm.swap _ _ _).cons _).trans ((((List.Perm.swap _ _ _).cons _).cons _)))))))
        · skip
          refine Rd.v_box (av fun _ => 0) 29 (by simp only [List.getElem?_toArray, List.getElem?_cons_zero, List.getElem?_cons_succ]; exact rfl) rfl (by go_simp) (fun wx hx hD => by rw [av_zero]; go_simp) fun g5 => ?_
          refine Rd.v_box (bv fun _ => false) 85 (by simp only [List.getElem?_toArray, List.getElem?_cons_zero, List.getElem?_cons_succ]; exact rfl) rfl (by go_simp) (fun wx hx hD => by rw [bv_false]; go_simp) fun g3 => ?_
          refine Rd.v_put 0 g3 (bv fun _ => false) (bv T) 85 rfl (.cons _ (.cons _ (.cons _ (.cons _ (.refl _))))) (by simp only [List.getElem?_toArray, List.getElem?_cons_zero, List.getElem?_cons_succ]; exact rfl) rfl (by go_simp) (fun wx hx hD => ?_) ?_
          · have rr := hD.rowOk (n := 16) 0 rfl (bv_size _)
            go_simp
          refine Rd.v_put 2 g4 (zv fun _ => 0) (zv hb) 112 rfl (.cons _ (.cons _ (.cons _ (.cons _ (.refl _))))) (by simp only [List.getElem?_toArray, List.getElem?_cons_zero, List.getElem?_cons_succ]; exact rfl) rfl (by go_simp) (fun wx hx hD => ?_) ?_
          · have rr := hD.rowOk (n := 16) 2 rfl (zv_size _)
            go_simp
          refine Rd.v_put 1 g5 (av fun _ => 0) (av bk) 29 rfl (.cons _ (.cons _ (.cons _ (.cons _ (.refl _))))) (by simp only [List.getElem?_toArray, List.getElem?_cons_zero, List.getElem?_cons_succ]; exact rfl) rfl (by go_simp) (fun wx hx hD => ?_) ?_
          · have rr := hD.rowOk (n := 16) 1 rfl (av_size _)
            go_simp
          iterate 1
            apply Rd.v_q
            · simp only [List.getElem?_toArray, List.getElem?_cons_zero, List.getElem?_cons_succ]; exact rfl
            · rfl
            · go_simp
            · intro wx hx
              unfold atG
              go_simp
              simp only [uponG]
              exact ⟨by trivial, rfl⟩
          rintro wz - hz
          go_simp
          exact key cv g3 g4 g5 _ (hz.perm ((((List.Perm.swap _ _ _).cons _).cons _).trans (((List.Perm.swap _ _ _).cons _).trans ((List.Perm.swap _ _ _).trans ((((List.Perm.swap _ _ _).cons _).cons _))))))
      · skip
        refine Rd.v_box (av fun _ => 0) 29 (by simp only [List.getElem?_toArray, List.getElem?_cons_zero, List.getElem?_cons_succ]; exact rfl) rfl (by go_simp) (fun wx hx hD => by rw [av_zero]; go_simp) fun g5 => ?_
        refine ⟨?_, ?_⟩
        · skip
          refine Rd.v_box (bv fun _ => false) 85 (by simp only [List.getElem?_toArray, List.getElem?_cons_zero, List.getElem?_cons_succ]; exact rfl) rfl (by go_simp) (fun wx hx hD => by rw [bv_false]; go_simp) fun g3 => ?_
          refine Rd.v_box (zv fun _ => 0) 112 (by simp only [List.getElem?_toArray, List.getElem?_cons_zero, List.getElem?_cons_succ]; exact rfl) rfl (by go_simp) (fun wx hx hD => by rw [zv_zero]; go_simp) fun g4 => ?_
          refine Rd.v_put 1 g3 (bv fun _ => false) (bv T) 85 rfl (.cons _ (.cons _ (.cons _ (.cons _ (.refl _))))) (by simp only [List.getElem?_toArray, List.getElem?_cons_zero, List.getElem?_cons_succ]; exact rfl) rfl (by go_simp) (fun wx hx hD => ?_) ?_
          · have rr := hD.rowOk (n := 16) 1 rfl (bv_size _)
            go_simp
          refine Rd.v_put 0 g4 (zv fun _ => 0) (zv hb) 112 rfl (.cons _ (.cons _ (.cons _ (.cons _ (.refl _))))) (by simp only [List.getElem?_toArray, List.getElem?_cons_zero, List.getElem?_cons_succ]; exact rfl) rfl (by go_simp) (fun wx hx hD => ?_) ?_
          · have rr := hD.rowOk (n := 16) 0 rfl (zv_size _)
            go_simp
          refine Rd.v_put 2 g5 (av fun _ => 0) (av bk) 29 rfl (.cons _ (.cons _ (.cons _ (.cons _ (.refl _))))) (by simp only [List.getElem?_toArray, List.getElem?_cons_zero, List.getElem?_cons_succ]; exact rfl) rfl (by go_simp) (fun wx hx hD => ?_) ?_
          · have rr := hD.rowOk (n := 16) 2 rfl (av_size _)
            go_simp
          iterate 1
            apply Rd.v_q
            · simp only [List.getElem?_toArray, List.getElem?_cons_zero, List.getElem?_cons_succ]; exact rfl
            · rfl
            · go_simp
            · intro wx hx
              unfold atG
              go_simp
              simp only [uponG]
              exact ⟨by trivial, rfl⟩
          rintro wz - hz
          go_simp
          exact key cv g3 g4 g5 _ (hz.perm ((((List.Perm.swap _ _ _).cons _).cons _).trans (((List.Perm.swap _ _ _).cons _).trans ((List.Perm.swap _ _ _).trans (((List.Perm.swap _ _ _).cons _))))))
        · skip
          refine Rd.v_box (zv fun _ => 0) 112 (by simp only [List.getElem?_toArray, List.getElem?_cons_zero, List.getElem?_cons_succ]; exact rfl) rfl (by go_simp) (fun wx hx hD => by rw [zv_zero]; go_simp) fun g4 => ?_
          refine Rd.v_box (bv fun _ => false) 85 (by simp only [List.getElem?_toArray, List.getElem?_cons_zero, List.getElem?_cons_succ]; exact rfl) rfl (by go_simp) (fun wx hx hD => by rw [bv_false]; go_simp) fun g3 => ?_
          refine Rd.v_put 0 g3 (bv fun _ => false) (bv T) 85 rfl (.cons _ (.cons _ (.cons _ (.cons _ (.refl _))))) (by simp only [List.getElem?_toArray, List.getElem?_cons_zero, List.getElem?_cons_succ]; exact rfl) rfl (by go_simp) (fun wx hx hD => ?_) ?_
          · have rr := hD.rowOk (n := 16) 0 rfl (bv_size _)
            go_simp
          refine Rd.v_put 1 g4 (zv fun _ => 0) (zv hb) 112 rfl (.cons _ (.cons _ (.cons _ (.cons _ (.refl _))))) (by simp only [List.getElem?_toArray, List.getElem?_cons_zero, List.getElem?_cons_succ]; exact rfl) rfl (by go_simp) (fun wx hx hD => ?_) ?_
          · have rr := hD.rowOk (n := 16) 1 rfl (zv_size _)
            go_simp
          refine Rd.v_put 2 g5 (av fun _ => 0) (av bk) 29 rfl (.cons _ (.cons _ (.cons _ (.cons _ (.refl _))))) (by simp only [List.getElem?_toArray, List.getElem?_cons_zero, List.getElem?_cons_succ]; exact rfl) rfl (by go_simp) (fun wx hx hD => ?_) ?_
          · have rr := hD.rowOk (n := 16) 2 rfl (av_size _)
            go_simp
          iterate 1
            apply Rd.v_q
            · simp only [List.getElem?_toArray, List.getElem?_cons_zero, List.getElem?_cons_succ]; exact rfl
            · rfl
            · go_simp
            · intro wx hx
              unfold atG
              go_simp
              simp only [uponG]
              exact ⟨by trivial, rfl⟩
          rintro wz - hz
          go_simp
          exact key cv g3 g4 g5 _ (hz.perm ((((List.Perm.swap _ _ _).cons _).cons _).trans (((List.Perm.swap _ _ _).cons _).trans ((List.Perm.swap _ _ _)))))
    · skip
      refine Rd.v_box (bv fun _ => false) 85 (by simp only [List.getElem?_toArray, List.getElem?_cons_zero, List.getElem?_cons_succ]; exact rfl) rfl (by go_simp) (fun wx hx hD => by rw [bv_false]; go_simp) fun g3 => ?_
      refine ⟨?_, ?_, ?_⟩
      · skip
        refine Rd.v_own9 (List.range 16) (by simp only [List.getElem?_toArray, List.getElem?_cons_zero, List.getElem?_cons_succ]; exact rfl) rfl (by go_simp) (fun wx hx hD => ?_) fun cv => ?_
        · go_simp
          exact Rd.upon9_call hx hD (CA.out wx)
        refine ⟨?_, ?_⟩
        · skip
          refine Rd.v_box (zv fun _ => 0) 112 (by simp only [List.getElem?_toArray, List.getElem?_cons_zero, List.getElem?_cons_succ]; exact rfl) rfl (by go_simp) (fun wx hx hD => by rw [zv_zero]; go_simp) fun g4 => ?_
          refine Rd.v_box (av fun _ => 0) 29 (by simp only [List.getElem?_toArray, List.getElem?_cons_zero, List.getElem?_cons_succ]; exact rfl) rfl (by go_simp) (fun wx hx hD => by rw [av_zero]; go_simp) fun g5 => ?_
          refine Rd.v_put 3 g3 (bv fun _ => false) (bv T) 85 rfl (.cons _ (.cons _ (.cons _ (.cons _ (.refl _))))) (by simp only [List.getElem?_toArray, List.getElem?_cons_zero, List.getElem?_cons_succ]; exact rfl) rfl (by go_simp) (fun wx hx hD => ?_) ?_
          · have rr := hD.rowOk (n := 16) 3 rfl (bv_size _)
            go_simp
          refine Rd.v_put 1 g4 (zv fun _ => 0) (zv hb) 112 rfl (.cons _ (.cons _ (.cons _ (.cons _ (.refl _))))) (by simp only [List.getElem?_toArray, List.getElem?_cons_zero, List.getElem?_cons_succ]; exact rfl) rfl (by go_simp) (fun wx hx hD => ?_) ?_
          · have rr := hD.rowOk (n := 16) 1 rfl (zv_size _)
            go_simp
          refine Rd.v_put 0 g5 (av fun _ => 0) (av bk) 29 rfl (.cons _ (.cons _ (.cons _ (.cons _ (.refl _))))) (by simp only [List.getElem?_toArray, List.getElem?_cons_zero, List.getElem?_cons_succ]; exact rfl) rfl (by go_simp) (fun wx hx hD => ?_) ?_
          · have rr := hD.rowOk (n := 16) 0 rfl (av_size _)
            go_simp
          iterate 1
            apply Rd.v_q
            · simp only [List.getElem?_toArray, List.getElem?_cons_zero, List.getElem?_cons_succ]; exact rfl
            · rfl
            · go_simp
            · intro wx hx
              unfold atG
              go_simp
              simp only [uponG]
              exact ⟨by trivial, rfl⟩
          rintro wz - hz
          go_simp
          exact key cv g3 g4 g5 _ (hz.perm (((List.Perm.swap _ _ _).cons _).trans ((List.Perm.swap _ _ _).trans ((((List.Perm.swap _ _ _).cons _).cons _).trans (((List.Perm.swap _ _ _).cons _).trans ((((List.Perm.swap _ _ _).cons _).cons _)))))))
        · skip
          refine Rd.v_box (av fun _ => 0) 29 (by simp only [List.getElem?_toArray, List.getElem?_cons_zero, List.getElem?_cons_succ]; exact rfl) rfl (by go_simp) (fun wx hx hD => by rw [av_zero]; go_simp) fun g5 => ?_
          refine Rd.v_box (zv fun _ => 0) 112 (by simp only [List.getElem?_toArray, List.getElem?_cons_zero, List.getElem?_cons_succ]; exact rfl) rfl (by go_simp) (fun wx hx hD => by rw [zv_zero]; go_simp) fun g4 => ?_
          refine Rd.v_put 3 g3 (bv fun _ => false) (bv T) 85 rfl (.cons _ (.cons _ (.cons _ (.cons _ (.refl _))))) (by simp only [List.getElem?_toArray, List.getElem?_cons_zero, List.getElem?_cons_succ]; exact rfl) rfl (by go_simp) (fun wx hx hD => ?_) ?_
          · have rr := hD.rowOk (n := 16) 3 rfl (bv_size _)
            go_simp
          refine Rd.v_put 0 g4 (zv fun _ => 0) (zv hb) 112 rfl (.cons _ (.cons _ (.cons _ (.cons _ (.refl _))))) (by simp only [List.getElem?_toArray, List.getElem?_cons_zero, List.getElem?_cons_succ]; exact rfl) rfl (by go_simp) (fun wx hx hD => ?_) ?_
          · have rr := hD.rowOk (n := 16) 0 rfl (zv_size _)
            go_simp
          refine Rd.v_put 1 g5 (av fun _ => 0) (av bk) 29 rfl (.cons _ (.cons _ (.cons _ (.cons _ (.refl _))))) (by simp only [List.getElem?_toArray, List.getElem?_cons_zero, List.getElem?_cons_succ]; exact rfl) rfl (by go_simp) (fun wx hx hD => ?_) ?_
          · have rr := hD.rowOk (n := 16) 1 rfl (av_size _)
            go_simp
          iterate 1
            apply Rd.v_q
            · simp only [List.getElem?_toArray, List.getElem?_cons_zero, List.getElem?_cons_succ]; exact rfl
            · rfl
            · go_simp
            · intro wx hx
              unfold atG
              go_simp
              simp only [uponG]
              exact ⟨by trivial, rfl⟩
          rintro wz - hz
          go_simp
          exact key cv g3 g4 g5 _ (hz.perm (((List.Perm.swap _ _ _).cons _).trans ((List.Perm.swap _ _ _).trans ((((List.Perm.swap _ _ _).cons _).cons _).trans (((List.Perm.swap _ _ _).cons _))))))
      · skip
        refine Rd.v_box (zv fun _ => 0) 112 (by simp only [List.getElem?_toArray, List.getElem?_cons_zero, List.getElem?_cons_succ]; exact rfl) rfl (by go_simp) (fun wx hx hD => by rw [zv_zero]; go_simp) fun g4 => ?_
        refine ⟨?_, ?_⟩
        · skip
          refine Rd.v_own9 (List.range 16) (by simp only [List.getElem?_toArray, List.getElem?_cons_zero, List.getElem?_cons_succ]; exact rfl) rfl (by go_simp) (fun wx hx hD => ?_) fun cv => ?_
          · go_simp
            exact Rd.upon9_call hx hD (CA.out wx)
          refine Rd.v_box (av fun _ => 0) 29 (by simp only [List.getElem?_toArray, List.getElem?_cons_zero, List.getElem?_cons_succ]; exact rfl) rfl (by go_simp) (fun wx hx hD => by rw [av_zero]; go_simp) fun g5 => ?_
          refine Rd.v_put 3 g3 (bv fun _ => false) (bv T) 85 rfl (.cons _ (.cons _ (.cons _ (.cons _ (.refl _))))) (by simp only [List.getElem?_toArray, List.getElem?_cons_zero, List.getElem?_cons_succ]; exact rfl) rfl (by go_simp) (fun wx hx hD => ?_) ?_
          · have rr := hD.rowOk (n := 16) 3 rfl (bv_size _)
            go_simp
          refine Rd.v_put 2 g4 (zv fun _ => 0) (zv hb) 112 rfl (.cons _ (.cons _ (.cons _ (.cons _ (.refl _))))) (by simp only [List.getElem?_toArray, List.getElem?_cons_zero, List.getElem?_cons_succ]; exact rfl) rfl (by go_simp) (fun wx hx hD => ?_) ?_
          · have rr := hD.rowOk (n := 16) 2 rfl (zv_size _)
            go_simp
          refine Rd.v_put 0 g5 (av fun _ => 0) (av bk) 29 rfl (.cons _ (.cons _ (.cons _ (.cons _ (.refl _))))) (by simp only [List.getElem?_toArray, List.getElem?_cons_zero, List.getElem?_cons_succ]; exact rfl) rfl (by go_simp) (fun wx hx hD => ?_) ?_
          · have rr := hD.rowOk (n := 16) 0 rfl (av_size _)
            go_simp
          iterate 1
            apply Rd.v_q
            · simp only [List.getElem?_toArray, List.getElem?_cons_zero, List.getElem?_cons_succ]; exact rfl
            · rfl
            · go_simp
            · intro wx hx
              unfold atG
              go_simp
              simp only [uponG]
              exact ⟨by trivial, rfl⟩
          rintro wz - hz
          go_simp
          exact key cv g3 g4 g5 _ (hz.perm ((List.Perm.swap _ _ _).trans ((((List.Perm.swap _ _ _).cons _).cons _).trans (((List.Perm.swap _ _ _).cons _).trans ((((List.Perm.swap _ _ _).cons _).cons _))))))
        · skip
          refine Rd.v_box (av fun _ => 0) 29 (by simp only [List.getElem?_toArray, List.getElem?_cons_zero, List.getElem?_cons_succ]; exact rfl) rfl (by go_simp) (fun wx hx hD => by rw [av_zero]; go_simp) fun g5 => ?_
          refine Rd.v_own9 (List.range 16) (by simp only [List.getElem?_toArray, List.getElem?_cons_zero, List.getElem?_cons_succ]; exact rfl) rfl (by go_simp) (fun wx hx hD => ?_) fun cv => ?_
          · go_simp
            exact Rd.upon9_call hx hD (CA.out wx)
          refine Rd.v_put 3 g3 (bv fun _ => false) (bv T) 85 rfl (.cons _ (.cons _ (.cons _ (.cons _ (.refl _))))) (by simp only [List.getElem?_toArray, List.getElem?_cons_zero, List.getElem?_cons_succ]; exact rfl) rfl (by go_simp) (fun wx hx hD => ?_) ?_
          · have rr := hD.rowOk (n := 16) 3 rfl (bv_size _)
            go_simp
          refine Rd.v_put 2 g4 (zv fun _ => 0) (zv hb) 112 rfl (.cons _ (.cons _ (.cons _ (.cons _ (.refl _))))) (by simp only [List.getElem?_toArray, List.getElem?_cons_zero, List.getElem?_cons_succ]; exact rfl) rfl (by go_simp) (fun wx hx hD => ?_) ?_
          · have rr := hD.rowOk (n := 16) 2 rfl (zv_size _)
            go_simp
          refine Rd.v_put 1 g5 (av fun _ => 0) (av bk) 29 rfl (.cons _ (.cons _ (.cons _ (.cons _ (.refl _))))) (by simp only [List.getElem?_toArray, List.getElem?_cons_zero, List.getElem?_cons_succ]; exact rfl) rfl (by go_simp) (fun wx hx hD => ?_) ?_
          · have rr := hD.rowOk (n := 16) 1 rfl (av_size _)
            go_simp
          iterate 1
            apply Rd.v_q
            · simp only [List.getElem?_toArray, List.getElem?_cons_zero, List.getElem?_cons_succ]; exact rfl
            · rfl
            · go_simp
            · intro wx hx
              unfold atG
              go_simp
              simp only [uponG]
              exact ⟨by trivial, rfl⟩
          rintro wz - hz
          go_simp
          exact key cv g3 g4 g5 _ (hz.perm ((((List.Perm.swap _ _ _).cons _).cons _).trans (((List.Perm.swap _ _ _).cons _).trans ((((List.Perm.swap _ _ _).cons _).cons _)))))
      · skip
        refine Rd.v_box (av fun _ => 0) 29 (by simp only [List.getElem?_toArray, List.getElem?_cons_zero, List.getElem?_cons_succ]; exact rfl) rfl (by go_simp) (fun wx hx hD => by rw [av_zero]; go_simp) fun g5 => ?_
        refine ⟨?_, ?_⟩
        · skip
          refine Rd.v_own9 (List.range 16) (by simp only [List.getElem?_toArray, List.getElem?_cons_zero, List.getElem?_cons_succ]; exact rfl) rfl (by go_simp) (fun wx hx hD => ?_) fun cv => ?_
          · go_simp
            exact Rd.upon9_call hx hD (CA.out wx)
          refine Rd.v_box (zv fun _ => 0) 112 (by simp only [List.getElem?_toArray, List.getElem?_cons_zero, List.getElem?_cons_succ]; exact rfl) rfl (by go_simp) (fun wx hx hD => by rw [zv_zero]; go_simp) fun g4 => ?_
          refine Rd.v_put 3 g3 (bv fun _ => false) (bv T) 85 rfl (.cons _ (.cons _ (.cons _ (.cons _ (.refl _))))) (by simp only [List.getElem?_toArray, List.getElem?_cons_zero, List.getElem?_cons_succ]; exact rfl) rfl (by go_simp) (fun wx hx hD => ?_) ?_
          · have rr := hD.rowOk (n := 16) 3 rfl (bv_size _)
            go_simp
          refine Rd.v_put 0 g4 (zv fun _ => 0) (zv hb) 112 rfl (.cons _ (.cons _ (.cons _ (.cons _ (.refl _))))) (by simp only [List.getElem?_toArray, List.getElem?_cons_zero, List.getElem?_cons_succ]; exact rfl) rfl (by go_simp) (fun wx hx hD => ?_) ?_
          · have rr := hD.rowOk (n := 16) 0 rfl (zv_size _)
            go_simp
          refine Rd.v_put 2 g5 (av fun _ => 0) (av bk) 29 rfl (.cons _ (.cons _ (.cons _ (.cons _ (.refl _))))) (by simp only [List.getElem?_toArray, List.getElem?_cons_zero, List.getElem?_cons_succ]; exact rfl) rfl (by go_simp) (fun wx hx hD => ?_) ?_
          · have rr := hD.rowOk (n := 16) 2 rfl (av_size _)
            go_simp
          iterate 1
            apply Rd.v_q
            · simp only [List.getElem?_toArray, List.getElem?_cons_zero, List.getElem?_cons_succ]; exact rfl
            · rfl
            · go_simp
            · intro wx hx
              unfold atG
              go_simp
              simp only [uponG]
              exact ⟨by trivial, rfl⟩
          rintro wz - hz
          go_simp
          exact key cv g3 g4 g5 _ (hz.perm ((List.Perm.swap _ _ _).trans ((((List.Perm.swap _ _ _).cons _).cons _).trans (((List.Perm.swap _ _ _).cons _)))))
        · skip
          refine Rd.v_box (zv fun _ => 0) 112 (by simp only [List.getElem?_toArray, List.getElem?_cons_zero, List.getElem?_cons_succ]; exact rfl) rfl (by go_simp) (fun wx hx hD => by rw [zv_zero]; go_simp) fun g4 => ?_
          refine Rd.v_own9 (List.range 16) (by simp only [List.getElem?_toArray, List.getElem?_cons_zero, List.getElem?_cons_succ]; exact rfl) rfl (by go_simp) (fun wx hx hD => ?_) fun cv => ?_
          · go_simp
            exact Rd.upon9_call hx hD (CA.out wx)
          refine Rd.v_put 3 g3 (bv fun _ => false) (bv T) 85 rfl (.cons _ (.cons _ (.cons _ (.cons _ (.refl _))))) (by simp only [List.getElem?_toArray, List.getElem?_cons_zero, List.getElem?_cons_succ]; exact rfl) rfl (by go_simp) (fun wx hx hD => ?_) ?_
          · have rr := hD.rowOk (n := 16) 3 rfl (bv_size _)
            go_simp
          refine Rd.v_put 1 g4 (zv fun _ => 0) (zv hb) 112 rfl (.cons _ (.cons _ (.cons _ (.cons _ (.refl _))))) (by simp only [List.getElem?_toArray, List.getElem?_cons_zero, List.getElem?_cons_succ]; exact rfl) rfl (by go_simp) (fun wx hx hD => ?_) ?_
          · have rr := hD.rowOk (n := 16) 1 rfl (zv_size _)
            go_simp
          refine Rd.v_put 2 g5 (av fun _ => 0) (av bk) 29 rfl (.cons _ (.cons _ (.cons _ (.cons _ (.refl _))))) (by simp only [List.getElem?_toArray, List.getElem?_cons_zero, List.getElem?_cons_succ]; exact rfl) rfl (by go_simp) (fun wx hx hD => ?_) ?_
          · have rr := hD.rowOk (n := 16) 2 rfl (av_size _)
            go_simp
          iterate 1
            apply Rd.v_q
            · simp only [List.getElem?_toArray, List.getElem?_cons_zero, List.getElem?_cons_succ]; exact rfl
            · rfl
            · go_simp
            · intro wx hx
              unfold atG
              go_simp
              simp only [uponG]
              exact ⟨by trivial, rfl⟩
          rintro wz - hz
          go_simp
          exact key cv g3 g4 g5 _ (hz.perm ((((List.Perm.swap _ _ _).cons _).cons _).trans (((List.Perm.swap _ _ _).cons _))))
    · skip
      refine Rd.v_box (zv fun _ => 0) 112 (by simp only [List.getElem?_toArray, List.getElem?_cons_zero, List.getElem?_cons_succ]; exact rfl) rfl (by go_simp) (fun wx hx hD => by rw [zv_zero]; go_simp) fun g4 => ?_
      refine ⟨?_, ?_, ?_⟩
      · skip
        refine Rd.v_own9 (List.range 16) (by simp only [List.getElem?_toArray, List.getElem?_cons_zero, List.getElem?_cons_succ]; exact rfl) rfl (by go_simp) (fun wx hx hD => ?_) fun cv => ?_
        · go_simp
          exact Rd.upon9_call hx hD (CA.out wx)
        refine ⟨?_, ?_⟩
        · skip
          refine Rd.v_box (bv fun _ => false) 85 (by simp only [List.getElem?_toArray, List.getElem?_cons_zero, List.getElem?_cons_succ]; exact rfl) rfl (by go_simp) (fun wx hx hD => by rw [bv_false]; go_simp) fun g3 => ?_
          refine Rd.v_box (av fun _ => 0) 29 (by simp only [List.getElem?_toArray, List.getElem?_cons_zero, List.getElem?_cons_succ]; exact rfl) rfl (by go_simp) (fun wx hx hD => by rw [av_zero]; go_simp) fun g5 => ?_
          refine Rd.v_put 1 g3 (bv fun _ => false) (bv T) 85 rfl (.cons _ (.cons _ (.cons _ (.cons _ (.refl _))))) (by simp only [List.getElem?_toArray, List.getElem?_cons_zero, List.getElem?_cons_succ]; exact rfl) rfl (by go_simp) (fun wx hx hD => ?_) ?_
          · have rr := hD.rowOk (n := 16) 1 rfl (bv_size _)
            go_simp
          refine Rd.v_put 3 g4 (zv fun _ => 0) (zv hb) 112 rfl (.cons _ (.cons _ (.cons _ (.cons _ (.refl _))))) (by simp only [List.getElem?_toArray, List.getElem?_cons_zero, List.getElem?_cons_succ]; exact rfl) rfl (by go_simp) (fun wx hx hD => ?_) ?_
          · have rr := hD.rowOk (n := 16) 3 rfl (zv_size _)
            go_simp
          refine Rd.v_put 0 g5 (av fun _ => 0) (av bk) 29 rfl (.cons _ (.cons _ (.cons _ (.cons _ (.refl _))))) (by simp only [List.getElem?_toArray, List.getElem?_cons_zero, List.getElem?_cons_succ]; exact rfl) rfl (by go_simp) (fun wx hx hD => ?_) ?_
          · have rr := hD.rowOk (n := 16) 0 rfl (av_size _)
            go_simp
          iterate 1
            apply Rd.v_q
            · simp only [List.getElem?_toArray, List.getElem?_cons_zero, List.getElem?_cons_succ]; exact rfl
            · rfl
            · go_simp
            · intro wx hx
              unfold atG
              go_simp
              simp only [uponG]
              exact ⟨by trivial, rfl⟩
          rintro wz - hz
          go_simp
          exact key cv g3 g4 g5 _ (hz.perm (((List.Perm.swap _ _ _).cons _).trans ((List.Perm.swap _ _ _).trans (((List.Perm.swap _ _ _).cons _).trans ((((List.Perm.swap _ _ _).cons _).cons _))))))
        · skip
          refine Rd.v_box (av fun _ => 0) 29 (by simp only [List.getElem?_toArray, List.getElem?_cons_zero, List.getElem?_cons_succ]; exact rfl) rfl (by go_simp) (fun wx hx hD => by rw [av_zero]; go_simp) fun g5 => ?_
          refine Rd.v_box (bv fun _ => false) 85 (by simp only [List.getElem?_toArray, List.getElem?_cons_zero, List.getElem?_cons_succ]; exact rfl) rfl (by go_simp) (fun wx hx hD => by rw [bv_false]; go_simp) fun g3 => ?_
          refine Rd.v_put 0 g3 (bv fun _ => false) (bv T) 85 rfl (.cons _ (.cons _ (.cons _ (.cons _ (.refl _))))) (by simp only [List.getElem?_toArray, List.getElem?_cons_zero, List.getElem?_cons_succ]; exact rfl) rfl (by go_simp) (fun wx hx hD => ?_) ?_
          · have rr := hD.rowOk (n := 16) 0 rfl (bv_size _)
            go_simp
          refine Rd.v_put 3 g4 (zv fun _ => 0) (zv hb) 112 rfl (.cons _ (.cons _ (.cons _ (.cons _ (.refl _))))) (by simp only [List.getElem?_toArray, List.getElem?_cons_zero, List.getElem?_cons_succ]; exact rfl) rfl (by go_simp) (fun wx hx hD => ?_) ?_
          · have rr := hD.rowOk (n := 16) 3 rfl (zv_size _)
            go_simp
          refine Rd.v_put 1 g5 (av fun _ => 0) (av bk) 29 rfl (.cons _ (.cons _ (.cons _ (.cons _ (.refl _))))) (by simp only [List.getElem?_toArray, List.getElem?_cons_zero, List.getElem?_cons_succ]; exact rfl) rfl (by go_simp) (fun wx hx hD => ?_) ?_
          · have rr := hD.rowOk (n := 16) 1 rfl (av_size _)
            go_simp
          iterate 1
            apply Rd.v_q
            · simp only [List.getElem?_toArray, List.getElem?_cons_zero, List.getElem?_cons_succ]; exact rfl
            · rfl
            · go_simp
            · intro wx hx
              unfold atG
              go_simp
              simp only [uponG]
              exact ⟨by trivial, rfl⟩
          rintro wz - hz
          go_simp
          exact key cv g3 g4 g5 _ (hz.perm (((List.Perm.swap _ _ _).cons _).trans ((List.Perm.swap _ _ _).trans ((((List.Perm.swap _ _ _).cons _).cons _)))))
      · skip
        refine Rd.v_box (bv fun _ => false) 85 (by simp only [List.getElem?_toArray, List.getElem?_cons_zero, List.getElem?_cons_succ]; exact rfl) rfl (by go_simp) (fun wx hx hD => by rw [bv_false]; go_simp) fun g3 => ?_
        refine ⟨?_, ?_⟩
        · skip
          refine Rd.v_own9 (List.range 16) (by simp only [List.getElem?_toArray, List.getElem?_cons_zero, List.getElem?_cons_succ]; exact rfl) rfl (by go_simp) (fun wx hx hD => ?_) fun cv => ?_
          · go_simp
            exact Rd.upon9_call hx hD (CA.out wx)
          refine Rd.v_box (av fun _ => 0) 29 (by simp only [List.getElem?_toArray, List.getElem?_cons_zero, List.getElem?_cons_succ]; exact rfl) rfl (by go_simp) (fun wx hx hD => by rw [av_zero]; go_simp) fun g5 => ?_
          refine Rd.v_put 2 g3 (bv fun _ => false) (bv T) 85 rfl (.cons _ (.cons _ (.cons _ (.cons _ (.refl _))))) (by simp only [List.getElem?_toArray, List.getElem?_cons_zero, List.getElem?_cons_succ]; exact rfl) rfl (by go_simp) (fun wx hx hD => ?_) ?_
          · have rr := hD.rowOk (n := 16) 2 rfl (bv_size _)
            go_simp
          refine Rd.v_put 3 g4 (zv fun _ => 0) (zv hb) 112 rfl (.cons _ (.cons _ (.cons _ (.cons _ (.refl _))))) (by simp only [List.getElem?_toArray, List.getElem?_cons_zero, List.getElem?_cons_succ]; exact rfl) rfl (by go_simp) (fun wx hx hD => ?_) ?_
          · have rr := hD.rowOk (n := 16) 3 rfl (zv_size _)
            go_simp
          refine Rd.v_put 0 g5 (av fun _ => 0) (av bk) 29 rfl (.cons _ (.cons _ (.cons _ (.cons _ (.refl _))))) (by simp only [List.getElem?_toArray, List.getElem?_cons_zero, List.getElem?_cons_succ]; exact rfl) rfl (by go_simp) (fun wx hx hD => ?_) ?_
          · have rr := hD.rowOk (n := 16) 0 rfl (av_size _)
            go_simp
          iterate 1
            apply Rd.v_q
            · simp only [List.getElem?_toArray, List.getElem?_cons_zero, List.getElem?_cons_succ]; exact rfl
            · rfl
            · go_simp
            · intro wx hx
              unfold atG
              go_simp
              simp only [uponG]
              exact ⟨by trivial, rfl⟩
          rintro wz - hz
          go_simp
          exact key cv g3 g4 g5 _ (hz.perm ((List.Perm.swap _ _ _).trans (((List.Perm.swap _ _ _).cons _).trans ((((List.Perm.swap _ _ _).cons _).cons _)))))
        · skip
          refine Rd.v_box (av fun _ => 0) 29 (by simp only [List.getElem?_toArray, List.getElem?_cons_zero, List.getElem?_cons_succ]; exact rfl) rfl (by go_simp) (fun wx hx hD => by rw [av_zero]; go_simp) fun g5 => ?_
          refine Rd.v_own9 (List.range 16) (by simp only [List.getElem?_toArray, List.getElem?_cons_zero, List.getElem?_cons_succ]; exact rfl) rfl (by go_simp) (fun wx hx hD => ?_) fun cv => ?_
          · go_simp
            exact Rd.upon9_call hx hD (CA.out wx)
          refine Rd.v_put 2 g3 (bv fun _ => false) (bv T) 85 rfl (.cons _ (.cons _ (.cons _ (.cons _ (.refl _))))) (by simp only [List.getElem?_toArray, List.getElem?_cons_zero, List.getElem?_cons_succ]; exact rfl) rfl (by go_simp) (fun wx hx hD => ?_) ?_
          · have rr := hD.rowOk (n := 16) 2 rfl (bv_size _)
            go_simp
          refine Rd.v_put 3 g4 (zv fun _ => 0) (zv hb) 112 rfl (.cons _ (.cons _ (.cons _ (.cons _ (.refl _))))) (by simp only [List.getElem?_toArray, List.getElem?_cons_zero, List.getElem?_cons_succ]; exact rfl) rfl (by go_simp) (fun wx hx hD => ?_) ?_
          · have rr := hD.rowOk (n := 16) 3 rfl (zv_size _)
            go_simp
          refine Rd.v_put 1 g5 (av fun _ => 0) (av bk) 29 rfl (.cons _ (.cons _ (.cons _ (.cons _ (.refl _))))) (by simp only [List.getElem?_toArray, List.getElem?_cons_zero, List.getElem?_cons_succ]; exact rfl) rfl (by go_simp) (fun wx hx hD => ?_) ?_
          · have rr := hD.rowOk (n := 16) 1 rfl (av_size _)
            go_simp
          iterate 1
            apply Rd.v_q
            · simp only [List.getElem?_toArray, List.getElem?_cons_zero, List.getElem?_cons_succ]; exact rfl
            · rfl
            · go_simp
            · intro wx hx
              unfold atG
              go_simp
              simp only [uponG]
              exact ⟨by trivial, rfl⟩
          rintro wz - hz
          go_simp
          exact key cv g3 g4 g5 _ (hz.perm (((List.Perm.swap _ _ _).cons _).trans ((((List.Perm.swap _ _ _).cons _).cons _))))
      · skip
        refine Rd.v_box (av fun _ => 0) 29 (by simp only [List.getElem?_toArray, List.getElem?_cons_zero, List.getElem?_cons_succ]; exact rfl) rfl (by go_simp) (fun wx hx hD => by rw [av_zero]; go_simp) fun g5 => ?_
        refine ⟨?_, ?_⟩
        · skip
          refine Rd.v_own9 (List.range 16) (by simp only [List.getElem?_toArray, List.getElem?_cons_zero, List.getElem?_cons_succ]; exact rfl) rfl (by go_simp) (fun wx hx hD => ?_) fun cv => ?_
          · go_simp
            exact Rd.upon9_call hx hD (CA.out wx)
          refine Rd.v_box (bv fun _ => false) 85 (by simp only [List.getElem?_toArray, List.getElem?_cons_zero, List.getElem?_cons_succ]; exact rfl) rfl (by go_simp) (fun wx hx hD => by rw [bv_false]; go_simp) fun g3 => ?_
          refine Rd.v_put 0 g3 (bv fun _ => false) (bv T) 85 rfl (.cons _ (.cons _ (.cons _ (.cons _ (.refl _))))) (by simp only [List.getElem?_toArray, List.getElem?_cons_zero, List.getElem?_cons_succ]; exact rfl) rfl (by go_simp) (fun wx hx hD => ?_) ?_
          · have rr := hD.rowOk (n := 16) 0 rfl (bv_size _)
            go_simp
          refine Rd.v_put 3 g4 (zv fun _ => 0) (zv hb) 112 rfl (.cons _ (.cons _ (.cons _ (.cons _ (.refl _))))) (by simp only [List.getElem?_toArray, List.getElem?_cons_zero, List.getElem?_cons_succ]; exact rfl) rfl (by go_simp) (fun wx hx hD => ?_) ?_
          · have rr := hD.rowOk (n := 16) 3 rfl (zv_size _)
            go_simp
          refine Rd.v_put 2 g5 (av fun _ => 0) (av bk) 29 rfl (.cons _ (.cons _ (.cons _ (.cons _ (.refl _))))) (by simp only [List.getElem?_toArray, List.getElem?_cons_zero, List.getElem?_cons_succ]; exact rfl) rfl (by go_simp) (fun wx hx hD => ?_) ?_
          · have rr := hD.rowOk (n := 16) 2 rfl (av_size _)
            go_simp
          iterate 1
            apply Rd.v_q
            · simp only [List.getElem?_toArray, List.getElem?_cons_zero, List.getElem?_cons_succ]; exact rfl
            · rfl
            · go_simp
            · intro wx hx
              unfold atG
              go_simp
              simp only [uponG]
              exact ⟨by trivial, rfl⟩
          rintro wz - hz
          go_simp
          exact key cv g3 g4 g5 _ (hz.perm ((List.Perm.swap _ _ _).trans ((((List.Perm.swap _ _ _).cons _).cons _))))
        · skip
          refine Rd.v_box (bv fun _ => false) 85 (by simp only [List.getElem?_toArray, List.getElem?_cons_zero, List.getElem?_cons_succ]; exact rfl) rfl (by go_simp) (fun wx hx hD => by rw [bv_false]; go_simp) fun g3 => ?_
          refine Rd.v_own9 (List.range 16) (by simp only [List.getElem?_toArray, List.getElem?_cons_zero, List.getElem?_cons_succ]; exact rfl) rfl (by go_simp) (fun wx hx hD => ?_) fun cv => ?_
          · go_simp
            exact Rd.upon9_call hx hD (CA.out wx)
          refine Rd.v_put 1 g3 (bv fun _ => false) (bv T) 85 rfl (.cons _ (.cons _ (.cons _ (.cons _ (.refl _))))) (by simp only [List.getElem?_toArray, List.getElem?_cons_zero, List.getElem?_cons_succ]; exact rfl) rfl (by go_simp) (fun wx hx hD => ?_) ?_
          · have rr := hD.rowOk (n := 16) 1 rfl (bv_size _)
            go_simp
          refine Rd.v_put 3 g4 (zv fun _ => 0) (zv hb) 112 rfl (.cons _ (.cons _ (.cons _ (.cons _ (.refl _))))) (by simp only [List.getElem?_toArray, List.getElem?_cons_zero, List.getElem?_cons_succ]; exact rfl) rfl (by go_simp) (fun wx hx hD => ?_) ?_
          · have rr := hD.rowOk (n := 16) 3 rfl (zv_size _)
            go_simp
          refine Rd.v_put 2 g5 (av fun _ => 0) (av bk) 29 rfl (.cons _ (.cons _ (.cons _ (.cons _ (.refl _))))) (by simp only [List.getElem?_toArray, List.getElem?_cons_zero, List.getElem?_cons_succ]; exact rfl) rfl (by go_simp) (fun wx hx hD => ?_) ?_
          · have rr := hD.rowOk (n := 16) 2 rfl (av_size _)
            go_simp
          iterate 1
            apply Rd.v_q
            · simp only [List.getElem?_toArray, List.getElem?_cons_zero, List.getElem?_cons_succ]; exact rfl
            · rfl
            · go_simp
            · intro wx hx
              unfold atG
              go_simp
              simp only [uponG]
              exact ⟨by trivial, rfl⟩
          rintro wz - hz
          go_simp
          exact key cv g3 g4 g5 _ (hz.perm ((((List.Perm.swap _ _ _).cons _).cons _)))
    · skip
      refine Rd.v_box (av fun _ => 0) 29 (by simp only [List.getElem?_toArray, List.getElem?_cons_zero, List.getElem?_cons_succ]; exact rfl) rfl (by go_simp) (fun wx hx hD => by rw [av_zero]; go_simp) fun g5 => ?_
      refine ⟨?_, ?_, ?_⟩
      · skip
        refine Rd.v_own9 (List.range 16) (by simp only [List.getElem?_toArray, List.getElem?_cons_zero, List.getElem?_cons_succ]; exact rfl) rfl (by go_simp) (fun wx hx hD => ?_) fun cv => ?_
        · go_simp
          exact Rd.upon9_call hx hD (CA.out wx)
        refine ⟨?_, ?_⟩
        · skip
          refine Rd.v_box (bv fun _ => false) 85 (by simp only [List.getElem?_toArray, List.getElem?_cons_zero, List.getElem?_cons_succ]; exact rfl) rfl (by go_simp) (fun wx hx hD => by rw [bv_false]; go_simp) fun g3 => ?_
          refine Rd.v_box (zv fun _ => 0) 112 (by simp only [List.getElem?_toArray, List.getElem?_cons_zero, List.getElem?_cons_succ]; exact rfl) rfl (by go_simp) (fun wx hx hD => by rw [zv_zero]; go_simp) fun g4 => ?_
          refine Rd.v_put 1 g3 (bv fun _ => false) (bv T) 85 rfl (.cons _ (.cons _ (.cons _ (.cons _ (.refl _))))) (by simp only [List.getElem?_toArray, List.getElem?_cons_zero, List.getElem?_cons_succ]; exact rfl) rfl (by go_simp) (fun wx hx hD => ?_) ?_
          · have rr := hD.rowOk (n := 16) 1 rfl (bv_size _)
            go_simp
          refine Rd.v_put 0 g4 (zv fun _ => 0) (zv hb) 112 rfl (.cons _ (.cons _ (.cons _ (.cons _ (.refl _))))) (by simp only [List.getElem?_toArray, List.getElem?_cons_zero, List.getElem?_cons_succ]; exact rfl) rfl (by go_simp) (fun wx hx hD => ?_) ?_
          · have rr := hD.rowOk (n := 16) 0 rfl (zv_size _)
            go_simp
          refine Rd.v_put 3 g5 (av fun _ => 0) (av bk) 29 rfl (.cons _ (.cons _ (.cons _ (.cons _ (.refl _))))) (by simp only [List.getElem?_toArray, List.getElem?_cons_zero, List.getElem?_cons_succ]; exact rfl) rfl (by go_simp) (fun wx hx hD => ?_) ?_
          · have rr := hD.rowOk (n := 16) 3 rfl (av_size _)
            go_simp
          iterate 1
            apply Rd.v_q
            · simp only [List.getElem?_toArray, List.getElem?_cons_zero, List.getElem?_cons_succ]; exact rfl
            · rfl
            · go_simp
            · intro wx hx
              unfold atG
              go_simp
              simp only [uponG]
              exact ⟨by trivial, rfl⟩
          rintro wz - hz
          go_simp
          exact key cv g3 g4 g5 _ (hz.perm (((List.Perm.swap _ _ _).cons _).trans ((List.Perm.swap _ _ _).trans (((List.Perm.swap _ _ _).cons _)))))
        · skip
          refine Rd.v_box (zv fun _ => 0) 112 (by simp only [List.getElem?_toArray, List.getElem?_cons_zero, List.getElem?_cons_succ]; exact rfl) rfl (by go_simp) (fun wx hx hD => by rw [zv_zero]; go_simp) fun g4 => ?_
          refine Rd.v_box (bv fun _ => false) 85 (by simp only [List.getElem?_toArray, List.getElem?_cons_zero, List.getElem?_cons_succ]; exact rfl) rfl (by go_simp) (fun wx hx hD => by rw [bv_false]; go_simp) fun g3 => ?_
          refine Rd.v_put 0 g3 (bv fun _ => false) (bv T) 85 rfl (.cons _ (.cons _ (.cons _ (.cons _ (.refl _))))) (by simp only [List.getElem?_toArray, List.getElem?_cons_zero, List.getElem?_cons_succ]; exact rfl) rfl (by go_simp) (fun wx hx hD => ?_) ?_
          · have rr := hD.rowOk (n := 16) 0 rfl (bv_size _)
            go_simp
          refine Rd.v_put 1 g4 (zv fun _ => 0) (zv hb) 112 rfl (.cons _ (.cons _ (.cons _ (.cons _ (.refl _))))) (by simp only [List.getElem?_toArray, List.getElem?_cons_zero, List.getElem?_cons_succ]; exact rfl) rfl (by go_simp) (fun wx hx hD => ?_) ?_
          · have rr := hD.rowOk (n := 16) 1 rfl (zv_size _)
            go_simp
          refine Rd.v_put 3 g5 (av fun _ => 0) (av bk) 29 rfl (.cons _ (.cons _ (.cons _ (.cons _ (.refl _))))) (by simp only [List.getElem?_toArray, List.getElem?_cons_zero, List.getElem?_cons_succ]; exact rfl) rfl (by go_simp) (fun wx hx hD => ?_) ?_
          · have rr := hD.rowOk (n := 16) 3 rfl (av_size _)
            go_simp
          iterate 1
            apply Rd.v_q
            · simp only [List.getElem?_toArray, List.getElem?_cons_zero, List.getElem?_cons_succ]; exact rfl
            · rfl
            · go_simp
            · intro wx hx
              unfold atG
              go_simp
              simp only [uponG]
              exact ⟨by trivial, rfl⟩
          rintro wz - hz
          go_simp
          exact key cv g3 g4 g5 _ (hz.perm (((List.Perm.swap _ _ _).cons _).trans ((List.Perm.swap _ _ _))))
      · skip
        refine Rd.v_box (bv fun _ => false) 85 (by simp only [List.getElem?_toArray, List.getElem?_cons_zero, List.getElem?_cons_succ]; exact rfl) rfl (by go_simp) (fun wx hx hD => by rw [bv_false]; go_simp) fun g3 => ?_
        refine ⟨?_, ?_⟩
        · skip
          refine Rd.v_own9 (List.range 16) (by simp only [List.getElem?_toArray, List.getElem?_cons_zero, List.getElem?_cons_succ]; exact rfl) rfl (by go_simp) (fun wx hx hD => ?_) fun cv => ?_
          · go_simp
            exact Rd.upon9_call hx hD (CA.out wx)
          refine Rd.v_box (zv fun _ => 0) 112 (by simp only [List.getElem?_toArray, List.getElem?_cons_zero, List.getElem?_cons_succ]; exact rfl) rfl (by go_simp) (fun wx hx hD => by rw [zv_zero]; go_simp) fun g4 => ?_
          refine Rd.v_put 2 g3 (bv fun _ => false) (bv T) 85 rfl (.cons _ (.cons _ (.cons _ (.cons _ (.refl _))))) (by simp only [List.getElem?_toArray, List.getElem?_cons_zero, List.getElem?_cons_succ]; exact rfl) rfl (by go_simp) (fun wx hx hD => ?_) ?_
          · have rr := hD.rowOk (n := 16) 2 rfl (bv_size _)
            go_simp
          refine Rd.v_put 0 g4 (zv fun _ => 0) (zv hb) 112 rfl (.cons _ (.cons _ (.cons _ (.cons _ (.refl _))))) (by simp only [List.getElem?_toArray, List.getElem?_cons_zero, List.getElem?_cons_succ]; exact rfl) rfl (by go_simp) (fun wx hx hD => ?_) ?_
          · have rr := hD.rowOk (n := 16) 0 rfl (zv_size _)
            go_simp
          refine Rd.v_put 3 g5 (av fun _ => 0) (av bk) 29 rfl (.cons _ (.cons _ (.cons _ (.cons _ (.refl _))))) (by simp only [List.getElem?_toArray, List.getElem?_cons_zero, List.getElem?_cons_succ]; exact rfl) rfl (by go_simp) (fun wx hx hD => ?_) ?_
          · have rr := hD.rowOk (n := 16) 3 rfl (av_size _)
            go_simp
          iterate 1
            apply Rd.v_q
            · simp only [List.getElem?_toArray, List.getElem?_cons_zero, List.getElem?_cons_succ]; exact rfl
            · rfl
            · go_simp
            · intro wx hx
              unfold atG
              go_simp
              simp only [uponG]
              exact ⟨by trivial, rfl⟩
          rintro wz - hz
          go_simp
          exact key cv g3 g4 g5 _ (hz.perm ((List.Perm.swap _ _ _).trans (((List.Perm.swap _ _ _).cons _))))
        · skip
          refine Rd.v_box (zv fun _ => 0) 112 (by simp only [List.getElem?_toArray, List.getElem?_cons_zero, List.getElem?_cons_succ]; exact rfl) rfl (by go_simp) (fun wx hx hD => by rw [zv_zero]; go_simp) fun g4 => ?_
          refine Rd.v_own9 (List.range 16) (by simp only [List.getElem?_toArray, List.getElem?_cons_zero, List.getElem?_cons_succ]; exact rfl) rfl (by go_simp) (fun wx hx hD => ?_) fun cv => ?_
          · go_simp
            exact Rd.upon9_call hx hD (CA.out wx)
          refine Rd.v_put 2 g3 (bv fun _ => false) (bv T) 85 rfl (.cons _ (.cons _ (.cons _ (.cons _ (.refl _))))) (by simp only [List.getElem?_toArray, List.getElem?_cons_zero, List.getElem?_cons_succ]; exact rfl) rfl (by go_simp) (fun wx hx hD => ?_) ?_
          · have rr := hD.rowOk (n := 16) 2 rfl (bv_size _)
            go_simp
          refine Rd.v_put 1 g4 (zv fun _ => 0) (zv hb) 112 rfl (.cons _ (.cons _ (.cons _ (.cons _ (.refl _))))) (by simp only [List.getElem?_toArray, List.getElem?_cons_zero, List.getElem?_cons_succ]; exact rfl) rfl (by go_simp) (fun wx hx hD => ?_) ?_
          · have rr := hD.rowOk (n := 16) 1 rfl (zv_size _)
            go_simp
          refine Rd.v_put 3 g5 (av fun _ => 0) (av bk) 29 rfl (.cons _ (.cons _ (.cons _ (.cons _ (.refl _))))) (by simp only [List.getElem?_toArray, List.getElem?_cons_zero, List.getElem?_cons_succ]; exact rfl) rfl (by go_simp) (fun wx hx hD => ?_) ?_
          · have rr := hD.rowOk (n := 16) 3 rfl (av_size _)
            go_simp
          iterate 1
            apply Rd.v_q
            · simp only [List.getElem?_toArray, List.getElem?_cons_zero, List.getElem?_cons_succ]; exact rfl
            · rfl
            · go_simp
            · intro wx hx
              unfold atG
              go_simp
              simp only [uponG]
              exact ⟨by trivial, rfl⟩
          rintro wz - hz
          go_simp
          exact key cv g3 g4 g5 _ (hz.perm (((List.Perm.swap _ _ _).cons _)))
      · skip
        refine Rd.v_box (zv fun _ => 0) 112 (by simp only [List.getElem?_toArray, List.getElem?_cons_zero, List.getElem?_cons_succ]; exact rfl) rfl (by go_simp) (fun wx hx hD => by rw [zv_zero]; go_simp) fun g4 => ?_
        refine ⟨?_, ?_⟩
        · skip
          refine Rd.v_own9 (List.range 16) (by simp only [List.getElem?_toArray, List.getElem?_cons_zero, List.getElem?_cons_succ]; exact rfl) rfl (by go_simp) (fun wx hx hD => ?_) fun cv => ?_
          · go_simp
            exact Rd.upon9_call hx hD (CA.out wx)
          refine Rd.v_box (bv fun _ => false) 85 (by simp only [List.getElem?_toArray, List.getElem?_cons_zero, List.getElem?_cons_succ]; exact rfl) rfl (by go_simp) (fun wx hx hD => by rw [bv_false]; go_simp) fun g3 => ?_
          refine Rd.v_put 0 g3 (bv fun _ => false) (bv T) 85 rfl (.cons _ (.cons _ (.cons _ (.cons _ (.refl _))))) (by simp only [List.getElem?_toArray, List.getElem?_cons_zero, List.getElem?_cons_succ]; exact rfl) rfl (by go_simp) (fun wx hx hD => ?_) ?_
          · have rr := hD.rowOk (n := 16) 0 rfl (bv_size _)
            go_simp
          refine Rd.v_put 2 g4 (zv fun _ => 0) (zv hb) 112 rfl (.cons _ (.cons _ (.cons _ (.cons _ (.refl _))))) (by simp only [List.getElem?_toArray, List.getElem?_cons_zero, List.getElem?_cons_succ]; exact rfl) rfl (by go_simp) (fun wx hx hD => ?_) ?_
          · have rr := hD.rowOk (n := 16) 2 rfl (zv_size _)
            go_simp
          refine Rd.v_put 3 g5 (av fun _ => 0) (av bk) 29 rfl (.cons _ (.cons _ (.cons _ (.cons _ (.refl _))))) (by simp only [List.getElem?_toArray, List.getElem?_cons_zero, List.getElem?_cons_succ]; exact rfl) rfl (by go_simp) (fun wx hx hD => ?_) ?_
          · have rr := hD.rowOk (n := 16) 3 rfl (av_size _)
            go_simp
          iterate 1
            apply Rd.v_q
            · simp only [List.getElem?_toArray, List.getElem?_cons_zero, List.getElem?_cons_succ]; exact rfl
            · rfl
            · go_simp
            · intro wx hx
              unfold atG
              go_simp
              simp only [uponG]
              exact ⟨by trivial, rfl⟩
          rintro wz - hz
          go_simp
          exact key cv g3 g4 g5 _ (hz.perm ((List.Perm.swap _ _ _)))
        · skip
          refine Rd.v_box (bv fun _ => false) 85 (by simp only [List.getElem?_toArray, List.getElem?_cons_zero, List.getElem?_cons_succ]; exact rfl) rfl (by go_simp) (fun wx hx hD => by rw [bv_false]; go_simp) fun g3 => ?_
          refine Rd.v_own9 (List.range 16) (by simp only [List.getElem?_toArray, List.getElem?_cons_zero, List.getElem?_cons_succ]; exact rfl) rfl (by go_simp) (fun wx hx hD => ?_) fun cv => ?_
          · go_simp
            exact Rd.upon9_call hx hD (CA.out wx)
          refine Rd.v_put 1 g3 (bv fun _ => false) (bv T) 85 rfl (.cons _ (.cons _ (.cons _ (.cons _ (.refl _))))) (by simp only [List.getElem?_toArray, List.getElem?_cons_zero, List.getElem?_cons_succ]; exact rfl) rfl (by go_simp) (fun wx hx hD => ?_) ?_
          · have rr := hD.rowOk (n := 16) 1 rfl (bv_size _)
            go_simp
          refine Rd.v_put 2 g4 (zv fun _ => 0) (zv hb) 112 rfl (.cons _ (.cons _ (.cons _ (.cons _ (.refl _))))) (by simp only [List.getElem?_toArray, List.getElem?_cons_zero, List.getElem?_cons_succ]; exact rfl) rfl (by go_simp) (fun wx hx hD => ?_) ?_
          · have rr := hD.rowOk (n := 16) 2 rfl (zv_size _)
            go_simp
          refine Rd.v_put 3 g5 (av fun _ => 0) (av bk) 29 rfl (.cons _ (.cons _ (.cons _ (.cons _ (.refl _))))) (by simp only [List.getElem?_toArray, List.getElem?_cons_zero, List.getElem?_cons_succ]; exact rfl) rfl (by go_simp) (fun wx hx hD => ?_) ?_
          · have rr := hD.rowOk (n := 16) 3 rfl (av_size _)
            go_simp
          iterate 1
            apply Rd.v_q
            · simp only [List.getElem?_toArray, List.getElem?_cons_zero, List.getElem?_cons_succ]; exact rfl
            · rfl
            · go_simp
            · intro wx hx
              unfold atG
              go_simp
              simp only [uponG]
              exact ⟨by trivial, rfl⟩
          rintro wz - hz
          go_simp
          exact key cv g3 g4 g5 _ hz
  intro cv g3 g4 g5 w2 H2
  clear HH0
  have H3 := H2.blk #[] 25 w2.heap.size rfl
  clear H2
  go_wp2
  generalize w2.alloc (.cells #[] 25) = w3 at *
  have H3' := H3.noVals9 0 rfl
  simp only [List.set_cons_zero] at H3'
  have H4 : Holds w w3 (pInts cv (cl9 (pcs9 e0 e1 (O9 T 0)) 16) :: pVals (.slice (some ⟨w2.heap.size, 0, none⟩) 0 0) ([] : List Value) :: pBlk g3 (bv T) 85 :: pBlk g4 (zv hb) 112 :: pBlk g5 (av bk) 29 :: pBlk w.heap.size (dv m f g) 31 :: rowsZ9 ([] : List Value) (((spl9 e0 e1 (O9 T 0)).2).map Y)) := by
    have e : cl9 (pcs9 e0 e1 (O9 T 0)) 16 = List.range 16 := cl9_id 16
    rw [e]
    exact H3'.perm (List.Perm.swap _ _ _)
  clear H3 H3'
  generalize w2.heap.size = G0 at *
  go_loopw [7, 8] (fun q t wr => ∃ (k : Nat) (vs : List Value), k ≤ m ∧ t = .int .i64 k ∧ Hid (vs.length = ((spl9 e0 e1 (O9 T k)).2).length) ∧ Holds w wr (pInts cv (cl9 (pcs9 e0 e1 (O9 T k)) 16) :: pVals (q) vs :: pBlk g3 (bv T) 85 :: pBlk g4 (zv hb) 112 :: pBlk g5 (av bk) 29 :: pBlk w.heap.size (dv m f g) 31 :: rowsZ9 vs (((spl9 e0 e1 (O9 T k)).2).map Y))) (fun _ t _ => m - (intOf t).toNat)
  case atStart => exact ⟨0, [], Nat.zero_le _, rfl, hide rfl, H4⟩
  case round =>
    clear H4
    obtain ⟨k, vs, hk, rfl, HVS, hH⟩ := hrel
    have cn0 := hH.cell 5 rfl hn
    have hsl := HSL.out k
    by_cases hlt : k < m
    · have hki : (k : Int) < m := by omega
      have hk16 : k < 16 := by omega
      have hk16i : (k : Int) < 16 := by omega
      have ho := O9_succ T k
      rcases hT : T k with _ | _
      rotate_left
      · rw [if_pos hT] at ho
        have HO := hide ho; clear ho
        have z0 := bv_get T hk16
        rw [hT] at z0
        have z1 := hH.cell 2 rfl z0
        clear z0 hT
        go_wp2
        go_quiet (fail)
        have HQ := hide (hH.drewN nq)
        clear hH z1 cn0
        generalize wr.drewN nq = wz at *
        go_wp2
        go_roundw
        case rel => exact ⟨k + 1, vs, by omega, by go_num, hide (by rw [HO.out]; exact HVS.out), by rw [HO.out]; exact HQ.out⟩
        case measure => simp [intOf]; omega
      · have COX := hide fun w => CO.out k hlt hT w
        rw [if_neg (by simp [hT])] at ho
        have ZT := bv_get T hk16
        rw [hT] at ZT
        have ZT := hide ZT
        have lb := LB.out k hlt
        have lk := LK.out k hlt
        have lb2 := LB.out _ lk
        have hps : pcs9 e0 e1 (O9 T (k + 1)) = joi9 (pcs9 e0 e1 (O9 T k)) (hb k) (hb (bk k)) := by
          rw [ho, pcs9_snoc, ← HE0.out k hlt, ← HE1.out k hlt]; rfl
        have hss : spl9 e0 e1 (O9 T (k + 1)) = if pcs9 e0 e1 (O9 T k) (hb k) = pcs9 e0 e1 (O9 T k) (hb (bk k)) then ((spl9 e0 e1 (O9 T k)).1, (spl9 e0 e1 (O9 T k)).2 ++ [k]) else ((spl9 e0 e1 (O9 T k)).1 ++ [k], (spl9 e0 e1 (O9 T k)).2) := by
          rw [ho, spl9_snoc, spl9_pcs e0 e1 (O9 T k), ← HE0.out k hlt, ← HE1.out k hlt]; rfl
        have ZB := hide (av_get bk hk16)
        clear ho hT
        generalize pcs9 e0 e1 (O9 T k) = h at *
        generalize bk k = y at *
        have hy16 : y < 16 := by omega
        have hy16i : (y : Int) < 16 := by omega
        have HPS := hide hps; clear hps
        obtain ⟨A0, c0, rfl⟩ := hH.valsForm 1 rfl
        obtain ⟨nv, hnv⟩ : ∃ nv, nv = vs.length := ⟨_, rfl⟩
        rw [← hnv] at hH ⊢
        have HNV := hide hnv; clear hnv
        have CJ := hide fun wx (H : Holds w wx (pInts cv (cl9 (h) 16) :: pVals (.slice A0 nv c0) vs :: pBlk g3 (bv T) 85 :: pBlk g4 (zv hb) 112 :: pBlk g5 (av bk) 29 :: pBlk w.heap.size (dv m f g) 31 :: rowsZ9 vs (((spl9 e0 e1 (O9 T k)).2).map Y))) => l09Join_any h 16 (hb k) (hb y) (by omega) (by omega) (by omega) cv w wx _ H
        by_cases he : h (hb k) = h (hb y)
        · rw [if_pos he] at hss
          rw [show decide (h (hb k) ≠ h (hb y)) = false by simp [he]] at CJ
          have HSS := hide hss; clear hss he
          go_wp2
          clear cn0
          refine Rd.region_W (w0 := w) [pBlk g3 (bv T) 85, pBlk g4 (zv hb) 112, pBlk g5 (av bk) 29] (pInts cv (cl9 (h) 16) :: pVals (.slice A0 nv c0) vs :: pBlk g3 (bv T) 85 :: pBlk g4 (zv hb) 112 :: pBlk g5 (av bk) 29 :: pBlk w.heap.size (dv m f g) 31 :: rowsZ9 vs (((spl9 e0 e1 (O9 T k)).2).map Y)) [14] (.q 0 <| .q 1 <| .q 2 <| .q 3 <| .q 4 <| .q 5 <| .q 6 <| .q 7 <| .q 8 <| .q 9 <| .q 10 <| .q 11 <| .q 12 <| .q 13 <| .s1 14 <| .q 15 <| .q 16 .fin) hH (.cons _ (.cons _ (.cons_cons _ (.cons_cons _ (.cons_cons _ (List.nil_sublist _)))))) (by kernel_rfl) (by kernel_rfl) (by kernel_rfl) ?_
          iterate 14
            apply Rd.w_q
            · simp only [List.getElem?_toArray, List.getElem?_cons_zero, List.getElem?_cons_succ]; exact rfl
            · rfl
            · go_simp
            · intro wx hx
              have q0 := hx.cell 0 rfl ZT.out
              have q1 := hx.cell 1 rfl (zv_get hb hk16)
              have q2 := hx.cell 2 rfl ZB.out
              have q3 := hx.cell 1 rfl (zv_get hb hy16)
              unfold atG
              go_simp
              simp only [uponG]
              exact ⟨by trivial, rfl⟩
          refine Rd.w_s9 (fun u wx => u = .bool false ∧ Holds w wx (pInts cv (cl9 (joi9 h (hb k) (hb y)) 16) :: pVals (.slice A0 nv c0) vs :: pBlk g3 (bv T) 85 :: pBlk g4 (zv hb) 112 :: pBlk g5 (av bk) 29 :: pBlk w.heap.size (dv m f g) 31 :: rowsZ9 vs (((spl9 e0 e1 (O9 T k)).2).map Y))) (fun _ _ _ h hb => ⟨h.1, h.2.call hb⟩) (by simp only [List.getElem?_toArray, List.getElem?_cons_zero, List.getElem?_cons_succ]; exact rfl) rfl (by go_simp) (fun wx hx hD => ?_) ?_
          · go_simp
            simp only [Rd.upon9_eq, Rd.uponE]
            refine ⟨by trivial, (CJ.out wx hD).mono ?_⟩
            rintro e wy ⟨rfl, hy⟩
            exact ⟨_, rfl, hy.sub (.cons _ (.cons _ (.cons_cons _ (.cons_cons _ (.cons_cons _ (List.nil_sublist _)))))), rfl, hy⟩
          rintro v ⟨_, _, rfl, _⟩
          iterate 2
            apply Rd.w_q
            · simp only [List.getElem?_toArray, List.getElem?_cons_zero, List.getElem?_cons_succ]; exact rfl
            · rfl
            · go_simp
            · intro wx hx
              unfold atG
              go_simp
              simp only [uponG]
              exact ⟨by trivial, rfl⟩
          refine Rd.w_fin ?_
          rintro wz - hz
          have HQ := hide hz.2
          clear hz hH
          go_simp
          have hH2 := HQ.out
          have cd := hH2.cells 5 rfl
          have ct := hH2.cells 2 rfl
          go_wp2_with fail
          refine (COX.out _).mono ?_
          rintro e w5 ⟨u, rfl, hk⟩
          have H6 := (hH2.joinL hk).perm List.perm_append_comm
          have H6' : Holds w w5 (pZ9 u (Y k) :: pInts cv (cl9 (joi9 h (hb k) (hb y)) 16) :: pVals (.slice A0 nv c0) vs :: pBlk g3 (bv T) 85 :: pBlk g4 (zv hb) 112 :: pBlk g5 (av bk) 29 :: pBlk w.heap.size (dv m f g) 31 :: rowsZ9 vs (((spl9 e0 e1 (O9 T k)).2).map Y)) := H6
          have ho := valsZ_one9 0 H6' rfl
          have HBV := hide (show vs.length ≤ 1000000 by have := HVS.out; omega)
          clear hk hH2 H6 cd ct HQ
          have hvu : ∃ A c, u = .slice A (Y k).length c := own_slice (H6'.row 0 rfl)
          obtain ⟨Au, cu, rfl⟩ := hvu
          have HOO := hide ho; clear ho
          go_wp2_with (at_builtin; refine appRow (H6'.alloc _) 2 rfl w5.heap.size (.slice Au (Y k).length cu) HOO.out 25 ?_ HBV.out rfl _ _ rfl rfl rfl ?_)
          · exact heap_at _ _ _ rfl
          intro v' w' h1
          have h2 : Holds w w' (pZ9 (.slice Au (Y k).length cu) (Y k) :: ([pInts cv (cl9 (joi9 h (hb k) (hb y)) 16), pVals v' (vs ++ [.slice Au (Y k).length cu]), pBlk g3 (bv T) 85, pBlk g4 (zv hb) 112, pBlk g5 (av bk) 29, pBlk w.heap.size (dv m f g) 31] ++ rowsZ9 vs (((spl9 e0 e1 (O9 T k)).2).map Y))) := h1
          have h3 := h2.rowEndZ9 (by rw [List.length_map, HVS.out])
          have HQ := hide h3
          clear H6' h1 h2 h3
          have HRR : Hid (((spl9 e0 e1 (O9 T k)).2).map Y ++ [Y k] = ((spl9 e0 e1 (O9 T (k + 1))).2).map Y) := hide (by rw [HSS.out]; simp)
          go_wp2
          go_roundw
          case rel => exact ⟨k + 1, vs ++ [_], by omega, by go_num, hide (by rw [HSS.out, List.length_append, HVS.out]; simp), by rw [HPS.out, ← HRR.out]; exact HQ.out⟩
          case measure => simp [intOf]; omega
        · rw [if_neg he] at hss
          rw [show decide (h (hb k) ≠ h (hb y)) = true by simp [he]] at CJ
          have HSS := hide hss; clear hss he
          go_wp2
          clear cn0
          refine Rd.region_W (w0 := w) [pBlk g3 (bv T) 85, pBlk g4 (zv hb) 112, pBlk g5 (av bk) 29] (pInts cv (cl9 (h) 16) :: pVals (.slice A0 nv c0) vs :: pBlk g3 (bv T) 85 :: pBlk g4 (zv hb) 112 :: pBlk g5 (av bk) 29 :: pBlk w.heap.size (dv m f g) 31 :: rowsZ9 vs (((spl9 e0 e1 (O9 T k)).2).map Y)) [14] (.q 0 <| .q 1 <| .q 2 <| .q 3 <| .q 4 <| .q 5 <| .q 6 <| .q 7 <| .q 8 <| .q 9 <| .q 10 <| .q 11 <| .q 12 <| .q 13 <| .s1 14 <| .q 15 <| .q 16 .fin) hH (.cons _ (.cons _ (.cons_cons _ (.cons_cons _ (.cons_cons _ (List.nil_sublist _)))))) (by kernel_rfl) (by kernel_rfl) (by kernel_rfl) ?_
          iterate 14
            apply Rd.w_q
            · simp only [List.getElem?_toArray, List.getElem?_cons_zero, List.getElem?_cons_succ]; exact rfl
            · rfl
            · go_simp
            · intro wx hx
              have q0 := hx.cell 0 rfl ZT.out
              have q1 := hx.cell 1 rfl (zv_get hb hk16)
              have q2 := hx.cell 2 rfl ZB.out
              have q3 := hx.cell 1 rfl (zv_get hb hy16)
              unfold atG
              go_simp
              simp only [uponG]
              exact ⟨by trivial, rfl⟩
          refine Rd.w_s9 (fun u wx => u = .bool true ∧ Holds w wx (pInts cv (cl9 (joi9 h (hb k) (hb y)) 16) :: pVals (.slice A0 nv c0) vs :: pBlk g3 (bv T) 85 :: pBlk g4 (zv hb) 112 :: pBlk g5 (av bk) 29 :: pBlk w.heap.size (dv m f g) 31 :: rowsZ9 vs (((spl9 e0 e1 (O9 T k)).2).map Y))) (fun _ _ _ h hb => ⟨h.1, h.2.call hb⟩) (by simp only [List.getElem?_toArray, List.getElem?_cons_zero, List.getElem?_cons_succ]; exact rfl) rfl (by go_simp) (fun wx hx hD => ?_) ?_
          · go_simp
            simp only [Rd.upon9_eq, Rd.uponE]
            refine ⟨by trivial, (CJ.out wx hD).mono ?_⟩
            rintro e wy ⟨rfl, hy⟩
            exact ⟨_, rfl, hy.sub (.cons _ (.cons _ (.cons_cons _ (.cons_cons _ (.cons_cons _ (List.nil_sublist _)))))), rfl, hy⟩
          rintro v ⟨_, _, rfl, _⟩
          iterate 2
            apply Rd.w_q
            · simp only [List.getElem?_toArray, List.getElem?_cons_zero, List.getElem?_cons_succ]; exact rfl
            · rfl
            · go_simp
            · intro wx hx
              unfold atG
              go_simp
              simp only [uponG]
              exact ⟨by trivial, rfl⟩
          refine Rd.w_fin ?_
          rintro wz - hz
          have HQ := hide hz.2
          clear hz hH
          go_simp
          go_wp2
          go_roundw
          case rel => exact ⟨k + 1, vs, by omega, by go_num, hide (by rw [HSS.out]; exact HVS.out), by rw [HPS.out, HSS.out]; exact HQ.out⟩
          case measure => simp [intOf]; omega
    · obtain rfl : m = k := by omega
      have HQ := hide (hH.tail.perm (((List.Perm.swap _ _ _).trans (List.Perm.cons _ ((List.Perm.swap _ _ _).trans (List.Perm.cons _ ((List.Perm.swap _ _ _).trans (List.Perm.cons _ (List.Perm.swap _ _ _)))))))) |>.tail.tail.tail.tail)
      have HLN := hide (show vs.length = (((spl9 e0 e1 (O9 T m)).2).map Y).length by rw [List.length_map]; exact HVS.out)
      clear hlt hk hH
      go_wp2
      go_ret
      exact ⟨_, vs, rfl, HLN.out, HQ.out⟩
end Go.Proofs.Ytmapjjfefjoemaa

namespace Go.Proofs.Ytmapjjfefjoemaa
open Go.RowKit

open Classical in
noncomputable def hbL9 (n : Int) (f g : Nat → Nat) : List (List Int) := if desB n f g = true then hbs9 f g n.toNat else []
theorem hb9_bound (n : Int) (f g : Nat → Nat) : totZ (hbL9 n f g) ≤ 1000000 ∧ (hbL9 n f g).length ≤ 1000000 := by
  unfold hbL9
  split
  · rename_i h
    obtain ⟨m, rfl, hd⟩ := desB_true h
    rw [Int.toNat_natCast]
    have h1 := (lef9_facts (f := f) (g := g) (m := m)).2
    have hm := hd.le
    unfold hbs9 totZ
    rw [List.length_map]
    refine ⟨?_, by omega⟩
    have : ∀ l : List Nat, (((l.map (cyl9 f g m)).map List.length).sum) = l.length * m := by
      intro l
      induction l with
      | nil => simp
      | cons x l ih => rw [List.map_cons, List.map_cons, List.sum_cons, ih, List.length_cons, Nat.add_mul]; unfold cyl9; simp; omega
    rw [this]
    have : (lef9 f g m).length * m ≤ 16 * 16 := Nat.mul_le_mul (by omega) hm
    omega
  · simp [totZ]
set_option maxRecDepth 100000 in
set_option maxHeartbeats 2000000 in
theorem homologyBasisD_any (n : Int) (f g : Nat → Nat) (hf : ∀ i, f i < 256) (hg : ∀ i, g i < 256) (w : World) :
    Calls Try.prog 45 #[.agg (dv n f g)] w fun e w' => ∃ v, e = .returned (.tuple #[v, .int .i64 (teC9 n f g)]) ∧ Below w.heap.size w w' ∧ Own2Z w.heap.size w' v (hbL9 n f g) := by
  have C1 := hide fun w => isDessin_any n f g hf hg w
  clear hf hg
  have HH0 := (Holds.start w).blk (dv n f g) 31 w.heap.size rfl
  rcases h1 : desB n f g with _ | _
  · rw [h1] at C1
    rw [show hbL9 n f g = [] from if_neg (by simp [h1]), show teC9 n f g = 1 from if_neg (by simp [h1])]
    clear h1
    go_enter Try.func45, Try.ntmps45
    go_wp2_with fail
    refine (C1.out _).mono ?_
    rintro e w1 ⟨rfl, hb⟩
    have HH1 := HH0.call hb
    go_wp2
    go_ret2
    exact ⟨.slice none 0 0, rfl, HH1.low, Own2Z.nil _ _⟩
  rw [h1] at C1
  rw [show hbL9 n f g = hbs9 f g n.toNat from if_pos h1, show teC9 n f g = 0 from if_pos h1]
  obtain ⟨m, rfl, hd⟩ := desB_true h1
  rw [Int.toNat_natCast]
  have C2 := hide fun w => homologyBasis_any f g m hd w
  generalize hbs9 f g m = T at *
  clear h1 hd
  go_enter Try.func45, Try.ntmps45
  go_wp2_with fail
  refine (C1.out _).mono ?_
  rintro e w1 ⟨rfl, hb⟩
  have HH1 := HH0.call hb
  have cd1 := HH1.cells 0 rfl
  clear hb HH0
  go_wp2_with fail
  refine (C2.out _).mono ?_
  rintro e w2 ⟨v, vs, rfl, hl, hk⟩
  have lo := (HH1.joinL hk).low
  have ho := (hk.own2z9 hl).mono (show w.heap.size ≤ w1.heap.size from HH1.size)
  have HO := hide ho
  clear hk HH1 cd1 ho
  go_wp2
  go_ret2
  exact ⟨_, rfl, lo, vs, HO.out⟩
set_option maxRecDepth 100000 in
set_option maxHeartbeats 2000000 in
theorem sHomologyBasisD_any (n : Int) (f g : Nat → Nat) (hf : ∀ i, f i < 256) (hg : ∀ i, g i < 256) (w : World) :
    Calls Try.prog 44 #[.agg (dv n f g)] w fun e w' => ∃ v, e = .returned (.tuple #[v, .int .i64 (teC9 n f g)]) ∧ Below w.heap.size w w' ∧ Own2Z w.heap.size w' v (hbL9 n f g) := by
  have C1 := hide fun w => sIs_any n f g hf hg w
  clear hf hg
  have HH0 := (Holds.start w).blk (dv n f g) 31 w.heap.size rfl
  rcases h1 : desB n f g with _ | _
  · rw [h1] at C1
    rw [show hbL9 n f g = [] from if_neg (by simp [h1]), show teC9 n f g = 1 from if_neg (by simp [h1])]
    clear h1
    go_enter Try.func44, Try.ntmps44
    go_wp2_with fail
    refine (C1.out _).mono ?_
    rintro e w1 ⟨rfl, hb⟩
    have HH1 := HH0.call hb
    go_wp2
    go_ret2
    exact ⟨.slice none 0 0, rfl, HH1.low, Own2Z.nil _ _⟩
  rw [h1] at C1
  rw [show hbL9 n f g = hbs9 f g n.toNat from if_pos h1, show teC9 n f g = 0 from if_pos h1]
  obtain ⟨m, rfl, hd⟩ := desB_true h1
  rw [Int.toNat_natCast]
  have C2 := hide fun w => sBasis_any f g m hd w
  generalize hbs9 f g m = T at *
  clear h1 hd
  go_enter Try.func44, Try.ntmps44
  go_wp2_with fail
  refine (C1.out _).mono ?_
  rintro e w1 ⟨rfl, hb⟩
  have HH1 := HH0.call hb
  have cd1 := HH1.cells 0 rfl
  clear hb HH0
  go_wp2_with fail
  refine (C2.out _).mono ?_
  rintro e w2 ⟨v, vs, rfl, hl, hk⟩
  have lo := (HH1.joinL hk).low
  have ho := (hk.own2z9 hl).mono (show w.heap.size ≤ w1.heap.size from HH1.size)
  have HO := hide ho
  clear hk HH1 cd1 ho
  go_wp2
  go_ret2
  exact ⟨_, rfl, lo, vs, HO.out⟩
end Go.Proofs.Ytmapjjfefjoemaa

namespace Go.Proofs.Ytmapjjfefjoemaa
open Go.RowKit

set_option maxRecDepth 100000 in
set_option maxHeartbeats 400000 in
theorem eqDessin_same (n : Int) (f g : Nat → Nat) (w : World) : Calls Try.prog 28 #[.agg (dv n f g), .agg (dv n f g)] w fun e w' => e = .returned (.bool true) ∧ Below w.heap.size w w' := by
  have hn := dv_n n f g
  have hne : (n != n) = false := by simp
  go_enter Try.func28, Try.ntmps28
  go_wp2_with fail
  refine (eqPlaces_same f _).mono ?_
  rintro e w1 ⟨rfl, h1⟩
  have c0 : cellsOf w1 w.heap.size = dv n f g := (below_cells h1 (by simp <;> omega)).trans (cellsOf_heap (heap1 rfl))
  have c1 : cellsOf w1 (w.heap.size + 1) = dv n f g := (below_cells h1 (by simp <;> omega)).trans (cellsOf_heap (heap_at _ _ _ (by simp)))
  have b1 := (below2 w (.cells (dv n f g) 31) (.cells (dv n f g) 31)).trans (h1.mono (by simp <;> omega))
  have l1 := h1.size
  clear h1
  go_wp2_with fail
  refine (eqPlaces_same g _).mono ?_
  rintro e w2 ⟨rfl, h2⟩
  have b2 := b1.trans (h2.mono (by simp at l1; omega))
  clear b1 h2 c0 c1
  go_wp2
  go_ret
  exact ⟨rfl, b2⟩

end Go.Proofs.Ytmapjjfefjoemaa

namespace Go.Proofs.Ytmapjjfefjoemaa
open Go.RowKit

set_option maxRecDepth 100000 in
set_option maxHeartbeats 4000000 in
theorem fnExactHomologyBasis_walk (n0 : Int) (f0 g0 : Nat → Nat) (_hn0 : -9223372036854775808 ≤ n0 ∧ n0 ≤ 9223372036854775807) (hf0 : ∀ i, f0 i < 256) (hg0 : ∀ i, g0 i < 256) (w : World) :
    Calls Try.prog 13 #[.agg (dv n0 f0 g0)] w fun e w' => e = .returned (.bool true) ∧ Below w.heap.size w w' := by
  clear _hn0
  have c1 := fun (wx : World) => homologyBasisD_any n0 f0 g0 hf0 hg0 wx
  have c2 := fun (wx : World) => sHomologyBasisD_any n0 f0 g0 hf0 hg0 wx
  clear hf0 hg0
  obtain ⟨hT, hL⟩ := hb9_bound n0 f0 g0
  generalize hbL9 n0 f0 g0 = L at *
  generalize teC9 n0 f0 g0 = c at *
  have hne : (c != c) = false := by simp
  have hnt : (((1 + totZ L : Nat) : Int) != ((1 + totZ L : Nat) : Int)) = false := by simp
  have hneg : decide (((1 + totZ L : Nat) : Int) < 0) = false := decide_eq_false (by omega)
  have C1 := hide c1; clear c1
  have C2 := hide c2; clear c2
  have H0 := (Holds.start w).blk (dv n0 f0 g0) 24 w.heap.size rfl
  go_enter Try.func13, Try.ntmps13
  go_wp2_with fail
  refine (toDessin_any n0 f0 g0 _).mono ?_
  rintro e w1 ⟨rfl, hb⟩
  have H1 := H0.call hb
  clear hb H0
  go_wp2_with fail
  refine (C2.out _).mono ?_
  rintro e w2 ⟨_, rfl, hb, o9⟩
  obtain ⟨Ap0, cp0, vsp0, rfl, ho⟩ := own2Z_form o9
  have H2 := H1.newZZ hb ho
  clear hb ho o9 H1
  have qD := H2.cells 1 rfl
  have rD := H2.lt 1 rfl
  go_wp2_with fail
  refine (toDessin_any n0 f0 g0 _).mono ?_
  rintro e w3 ⟨rfl, hb⟩
  clear qD rD
  have H3 := H2.call hb
  clear hb H2
  go_wp2_with fail
  refine (C1.out _).mono ?_
  rintro e w4 ⟨_, rfl, hb, o9⟩
  obtain ⟨Ap1, cp1, vsp1, rfl, ho⟩ := own2Z_form o9
  have H4 := H3.newZZ hb ho
  clear hb ho o9 H3
  go_wp2_with fail
  refine (eqZZ_same L Ap1 Ap0 cp1 cp0 _ _ vsp1 vsp0 (by omega) (by omega) _ (show Own2z 0 _ _ _ L from H4.at 0 rfl) (show Own2z 0 _ _ _ L from H4.at 1 rfl)).mono ?_
  rintro e w5 ⟨rfl, hb⟩
  have H5 := H4.call hb
  clear hb H4
  go_wp2_with fail
  refine (markZZ_any L Ap1 cp1 1 vsp1 (by omega) (by omega) (by omega) _ (show Own2z 0 _ _ _ L from H5.at 0 rfl)).mono ?_
  rintro e w6 ⟨rfl, hg, ho⟩
  have H6 := H5.turnZZ 0 rfl hg ho
  clear hg ho H5
  go_wp2_with fail
  refine (heldZZ_any L Ap1 cp1 1 vsp1 (by omega) (by omega) (by omega) _ (show Own2z 0 _ _ _ (mkZ 1 L) from H6.at 0 rfl)).mono ?_
  rintro e w7 ⟨rfl, hb⟩
  have H7 := H6.call hb
  clear hb H6
  have qD := H7.cells 2 rfl
  have rD := H7.lt 2 rfl
  go_wp2_with fail
  refine (toDessin_any n0 f0 g0 _).mono ?_
  rintro e w8 ⟨rfl, hb⟩
  clear qD rD
  have H8 := H7.call hb
  clear hb H7
  go_wp2_with fail
  refine (C1.out _).mono ?_
  rintro e w9 ⟨_, rfl, hb, o9⟩
  obtain ⟨Ap2, cp2, vsp2, rfl, ho⟩ := own2Z_form o9
  have H9 := H8.newZZ hb ho
  clear hb ho o9 H8
  go_wp2_with fail
  refine (eqZZ_same L Ap2 Ap0 cp2 cp0 _ _ vsp2 vsp0 (by omega) (by omega) _ (show Own2z 0 _ _ _ L from H9.at 0 rfl) (show Own2z 0 _ _ _ L from H9.at 2 rfl)).mono ?_
  rintro e w10 ⟨rfl, hb⟩
  have H10 := H9.call hb
  clear hb H9
  go_wp2_with fail
  refine (heldZZ_any L Ap1 cp1 1 vsp1 (by omega) (by omega) (by omega) _ (show Own2z 0 _ _ _ (mkZ 1 L) from H10.at 1 rfl)).mono ?_
  rintro e w11 ⟨rfl, hb⟩
  have H11 := H10.call hb
  clear hb H10
  go_wp2
  go_ret
  exact ⟨rfl, H11.low⟩
end Go.Proofs.Ytmapjjfefjoemaa

