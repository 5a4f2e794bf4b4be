/- Texts put together: Trt, Trd, CyoP, RegW, Reg4, Bfn, Csm, Flk, Hbp -/
import Derived.Test.YtmapjjfefjoemaaQfLawIsUnbranched
import Derived.Test.YtmapjjfefjoemaaChecked
import Derived.WalkKit
import Derived.WalkSpells
import Derived.WalkLawsBesides
import Derived.Deep.LoopGhost
import Derived.Deep.OwnRows
import Derived.Laws.Rows
import Derived.Laws.Tables
import Derived.Laws.CopyOwn
import Derived.ProofKit
import Derived.OpenShut
import Derived.ShutString
import Derived.ChangeOld
import Derived.Below
import Derived.Laws.OwnMore
import Derived.BigQuiet
import Derived.Deep.QuietTactic
import Derived.OwnWalk
import Derived.ChangeSlices
import Derived.RegionTactic
import Derived.Deep.Quiet
import Derived.StillTail
import Derived.Deep.Slices
import Derived.WideShapes
import Derived.Laws.CopyRow
import Derived.Deep.MidRow
import Derived.Deep.RegionWith
import Derived.ChangeKeysEq
import Derived.StillTailTactics
import Derived.Deep.RegionHeld3
import Derived.DataElems
import Derived.Laws.Cover3
import Derived.IntWalk
import Derived.Laws.StructEq
namespace Go.Proofs.Ytmapjjfefjoemaa
open Go.RowKit

/-- the marks of the tree edges among the first k edges -/
def mk9 (e0 e1 : Nat → Nat) (k : Nat) : Nat → Bool := fun x => decide (x ∈ (spl9 e0 e1 (List.range k)).1)
theorem bv9_set (f : Nat → Bool) (i : Nat) (b : Bool) : (bv f).setIfInBounds i (.bool b) = bv (fun j => if j = i then b else f j) := by
  unfold bv
  rw [row_set]
  apply row_congr
  intro j _
  by_cases c : j = i
  · simp [c]
  · simp [c]
theorem mk9_zero (e0 e1 : Nat → Nat) : mk9 e0 e1 0 = fun _ => false := by funext x; simp [mk9, spl9]
theorem mk9_step (e0 e1 : Nat → Nat) (k : Nat) : (fun j => if j = k then decide (pcs9 e0 e1 (List.range k) (e0 k) ≠ pcs9 e0 e1 (List.range k) (e1 k)) else mk9 e0 e1 k j) = mk9 e0 e1 (k + 1) := by
  funext j
  have hm : k ∉ (spl9 e0 e1 (List.range k)).1 := fun h => by
    have := (spl9_mem e0 e1 (List.range k) k).2 (.inl h)
    simp at this
  unfold mk9
  rw [spl9_pcs, List.range_succ, spl9_snoc]
  unfold spst9
  by_cases c : j = k
  · subst c
    rw [if_pos rfl]
    split
    · rename_i h; simp [h, hm]
    · rename_i h; simp [h]
  · rw [if_neg c]
    split
    · rfl
    · simp [c]
set_option maxRecDepth 100000 in
set_option maxHeartbeats 4000000 in
theorem l09Tree_any (f g : Nat → Nat) (m : Nat) (hd : DesN f g m) (w : World) :
    Calls Try.prog 76 #[.agg (dv m f g)] w fun e w' => e = .returned (.agg (bv (mk9 (vb9 f m) (vw9 g m) m))) ∧ Below w.heap.size w w' := by
  have CB := hide fun w => sWhich_any f m hd.black w
  have CW := hide fun w => sWhich_any g m hd.white w
  have CA := hide fun w => l09Alone_any 32 (by omega) w
  have LB := hide fun x (hx : x < m) => which_lt9 hd.black hx
  have LW := hide fun x (hx : x < m) => which_lt9 hd.white hx
  have HE0 : Hid (∀ x, x < m → vb9 f m x = whichF f m x) := hide fun x hx => by unfold vb9 upto; rw [if_pos hx]
  have HE1 : Hid (∀ x, x < m → vw9 g m x = 16 + whichF g m x) := hide fun x hx => by unfold vw9 upto; rw [if_pos hx]
  have hm := hd.le
  have hn := dv_n m f g
  clear hd
  generalize vb9 f m = e0 at *
  generalize vw9 g m = e1 at *
  generalize whichF f m = hb at *
  generalize whichF g m = hw at *
  have HH0 := ((Holds.start w).blk (dv m f g) 31 w.heap.size rfl).blk (bv fun _ => false) 85 (w.heap.size + 1) (by simp)
  go_enter Try.func76, Try.ntmps76
  go_wp2
  rw [bv_false] at HH0
  rw [← bv_false] at HH0 ⊢
  apply Rd.region_R3 (w0 := w) [pBlk (w.heap.size + 1) (bv fun _ => false) 85, pBlk w.heap.size (dv m f g) 31] [pBlk (w.heap.size + 1) (bv fun _ => false) 85, pBlk w.heap.size (dv m f g) 31] [11, 12, 13, 14, 15, 16] (.q 0 <| .q 1 <| .q 2 <| .q 3 <| .q 4 <| .q 5 <| .q 6 <| .q 7 <| .q 8 <| .q 9 <| .q 10 <| (.s3 11 (.s2 12 (.s1 13 <| .s1 14 <| .s1 15 <| .s1 16 .fin) 13 (.s1 12 <| .s1 14 <| .s1 15 <| .s1 16 .fin)) 12 (.s2 11 (.s1 13 <| .s1 14 <| .s1 15 <| .s1 16 .fin) 13 (.s1 11 <| .s1 14 <| .s1 15 <| .s1 16 .fin)) 13 (.s2 11 (.s1 12 <| .s1 14 <| .s1 15 <| .s1 16 .fin) 12 (.s1 11 <| .s1 14 <| .s1 15 <| .s1 16 .fin)))) HH0 (.refl _) (by kernel_rfl) (by kernel_rfl) (by kernel_rfl) (F := fun (g3 : Nat) (g4 : Nat) (g5 : Nat) => pBlk g3 (zv hb) 112 :: pBlk g4 (zv hw) 112 :: pBlk g5 (bv fun _ => false) 85 :: [pBlk (w.heap.size + 1) (bv fun _ => false) 85, pBlk w.heap.size (dv m f g) 31])
  case h =>
    intro K key
    iterate 4
      apply Rd.v_q
      · simp only [List.getElem?_toArray, List.getElem?_cons_zero, List.getElem?_cons_succ]; exact rfl
      · rfl
      · go_simp
      · intro wx hx
        have q1 := hx.cells 1 rfl
        have q2 := hx.cell 1 rfl hn
        unfold atG
        go_simp
        simp only [uponG]
        exact ⟨by trivial, rfl⟩
    iterate 1
      apply Rd.v_q
      · simp only [List.getElem?_toArray, List.getElem?_cons_zero, List.getElem?_cons_succ]; exact rfl
      · rfl
      · go_simp
      · intro wx hx
        have q1 := hx.cells 1 rfl
        have q2 := hx.cell 1 rfl hn
        unfold atG
        go_simp
        simp only [uponG]
        exact ⟨by trivial, CB.out wx⟩
    iterate 4
      apply Rd.v_q
      · simp only [List.getElem?_toArray, List.getElem?_cons_zero, List.getElem?_cons_succ]; exact rfl
      · rfl
      · go_simp
      · intro wx hx
        have q1 := hx.cells 1 rfl
        have q2 := hx.cell 1 rfl hn
        unfold atG
        go_simp
        simp only [uponG]
        exact ⟨by trivial, rfl⟩
    iterate 1
      apply Rd.v_q
      · simp only [List.getElem?_toArray, List.getElem?_cons_zero, List.getElem?_cons_succ]; exact rfl
      · rfl
      · go_simp
      · intro wx hx
        have q1 := hx.cells 1 rfl
        have q2 := hx.cell 1 rfl hn
        unfold atG
        go_simp
        simp only [uponG]
        exact ⟨by trivial, CW.out wx⟩
    iterate 1
      apply Rd.v_q
      · simp only [List.getElem?_toArray, List.getElem?_cons_zero, List.getElem?_cons_succ]; exact rfl
      · rfl
      · go_simp
      · intro wx hx
        have q1 := hx.cells 1 rfl
        have q2 := hx.cell 1 rfl hn
        unfold atG
        go_simp
        simp only [uponG]
        exact ⟨by trivial, rfl⟩
    refine ⟨?_, ?_, ?_⟩
    · skip
      refine Rd.v_box (zv fun _ => 0) 112 (by simp only [List.getElem?_toArray, List.getElem?_cons_zero, List.getElem?_cons_succ]; exact rfl) rfl (by go_simp) (fun wx hx hD => by rw [zv_zero]; go_simp) fun g3 => ?_
      refine ⟨?_, ?_⟩
      · skip
        refine Rd.v_box (zv fun _ => 0) 112 (by simp only [List.getElem?_toArray, List.getElem?_cons_zero, List.getElem?_cons_succ]; exact rfl) rfl (by go_simp) (fun wx hx hD => by rw [zv_zero]; go_simp) fun g4 => ?_
        refine Rd.v_box (bv fun _ => false) 85 (by simp only [List.getElem?_toArray, List.getElem?_cons_zero, List.getElem?_cons_succ]; exact rfl) rfl (by go_simp) (fun wx hx hD => by rw [bv_false]; go_simp) fun g5 => ?_
        refine Rd.v_put 2 g3 (zv fun _ => 0) (zv hb) 112 rfl (.cons _ (.cons _ (.cons _ (.refl _)))) (by simp only [List.getElem?_toArray, List.getElem?_cons_zero, List.getElem?_cons_succ]; exact rfl) rfl (by go_simp) (fun wx hx hD => ?_) ?_
        · have rr := hD.rowOk (n := 16) 2 rfl (zv_size _)
          go_simp
        refine Rd.v_put 1 g4 (zv fun _ => 0) (zv hw) 112 rfl (.cons _ (.cons _ (.cons _ (.refl _)))) (by simp only [List.getElem?_toArray, List.getElem?_cons_zero, List.getElem?_cons_succ]; exact rfl) rfl (by go_simp) (fun wx hx hD => ?_) ?_
        · have rr := hD.rowOk (n := 16) 1 rfl (zv_size _)
          go_simp
        refine Rd.v_put 0 g5 (bv fun _ => false) (bv fun _ => false) 85 rfl (.cons _ (.cons _ (.cons _ (.refl _)))) (by simp only [List.getElem?_toArray, List.getElem?_cons_zero, List.getElem?_cons_succ]; exact rfl) rfl (by go_simp) (fun wx hx hD => ?_) ?_
        · have rr := hD.rowOk (n := 16) 0 rfl (bv_size _)
          rw [bv_false]; go_simp
        rintro wz - hz
        go_simp
        exact key g3 g4 g5 _ (hz.perm (((List.Perm.swap _ _ _).cons _).trans ((List.Perm.swap _ _ _).trans (((List.Perm.swap _ _ _).cons _)))))
      · skip
        refine Rd.v_box (bv fun _ => false) 85 (by simp only [List.getElem?_toArray, List.getElem?_cons_zero, List.getElem?_cons_succ]; exact rfl) rfl (by go_simp) (fun wx hx hD => by rw [bv_false]; go_simp) fun g5 => ?_
        refine Rd.v_box (zv fun _ => 0) 112 (by simp only [List.getElem?_toArray, List.getElem?_cons_zero, List.getElem?_cons_succ]; exact rfl) rfl (by go_simp) (fun wx hx hD => by rw [zv_zero]; go_simp) fun g4 => ?_
        refine Rd.v_put 2 g3 (zv fun _ => 0) (zv hb) 112 rfl (.cons _ (.cons _ (.cons _ (.refl _)))) (by simp only [List.getElem?_toArray, List.getElem?_cons_zero, List.getElem?_cons_succ]; exact rfl) rfl (by go_simp) (fun wx hx hD => ?_) ?_
        · have rr := hD.rowOk (n := 16) 2 rfl (zv_size _)
          go_simp
        refine Rd.v_put 0 g4 (zv fun _ => 0) (zv hw) 112 rfl (.cons _ (.cons _ (.cons _ (.refl _)))) (by simp only [List.getElem?_toArray, List.getElem?_cons_zero, List.getElem?_cons_succ]; exact rfl) rfl (by go_simp) (fun wx hx hD => ?_) ?_
        · have rr := hD.rowOk (n := 16) 0 rfl (zv_size _)
          go_simp
        refine Rd.v_put 1 g5 (bv fun _ => false) (bv fun _ => false) 85 rfl (.cons _ (.cons _ (.cons _ (.refl _)))) (by simp only [List.getElem?_toArray, List.getElem?_cons_zero, List.getElem?_cons_succ]; exact rfl) rfl (by go_simp) (fun wx hx hD => ?_) ?_
        · have rr := hD.rowOk (n := 16) 1 rfl (bv_size _)
          rw [bv_false]; go_simp
        rintro wz - hz
        go_simp
        exact key g3 g4 g5 _ (hz.perm (((List.Perm.swap _ _ _).cons _).trans ((List.Perm.swap _ _ _))))
    · skip
      refine Rd.v_box (zv fun _ => 0) 112 (by simp only [List.getElem?_toArray, List.getElem?_cons_zero, List.getElem?_cons_succ]; exact rfl) rfl (by go_simp) (fun wx hx hD => by rw [zv_zero]; go_simp) fun g4 => ?_
      refine ⟨?_, ?_⟩
      · skip
        refine Rd.v_box (zv fun _ => 0) 112 (by simp only [List.getElem?_toArray, List.getElem?_cons_zero, List.getElem?_cons_succ]; exact rfl) rfl (by go_simp) (fun wx hx hD => by rw [zv_zero]; go_simp) fun g3 => ?_
        refine Rd.v_box (bv fun _ => false) 85 (by simp only [List.getElem?_toArray, List.getElem?_cons_zero, List.getElem?_cons_succ]; exact rfl) rfl (by go_simp) (fun wx hx hD => by rw [bv_false]; go_simp) fun g5 => ?_
        refine Rd.v_put 1 g3 (zv fun _ => 0) (zv hb) 112 rfl (.cons _ (.cons _ (.cons _ (.refl _)))) (by simp only [List.getElem?_toArray, List.getElem?_cons_zero, List.getElem?_cons_succ]; exact rfl) rfl (by go_simp) (fun wx hx hD => ?_) ?_
        · have rr := hD.rowOk (n := 16) 1 rfl (zv_size _)
          go_simp
        refine Rd.v_put 2 g4 (zv fun _ => 0) (zv hw) 112 rfl (.cons _ (.cons _ (.cons _ (.refl _)))) (by simp only [List.getElem?_toArray, List.getElem?_cons_zero, List.getElem?_cons_succ]; exact rfl) rfl (by go_simp) (fun wx hx hD => ?_) ?_
        · have rr := hD.rowOk (n := 16) 2 rfl (zv_size _)
          go_simp
        refine Rd.v_put 0 g5 (bv fun _ => false) (bv fun _ => false) 85 rfl (.cons _ (.cons _ (.cons _ (.refl _)))) (by simp only [List.getElem?_toArray, List.getElem?_cons_zero, List.getElem?_cons_succ]; exact rfl) rfl (by go_simp) (fun wx hx hD => ?_) ?_
        · have rr := hD.rowOk (n := 16) 0 rfl (bv_size _)
          rw [bv_false]; go_simp
        rintro wz - hz
        go_simp
        exact key g3 g4 g5 _ (hz.perm ((List.Perm.swap _ _ _).trans (((List.Perm.swap _ _ _).cons _))))
      · skip
        refine Rd.v_box (bv fun _ => false) 85 (by simp only [List.getElem?_toArray, List.getElem?_cons_zero, List.getElem?_cons_succ]; exact rfl) rfl (by go_simp) (fun wx hx hD => by rw [bv_false]; go_simp) fun g5 => ?_
        refine Rd.v_box (zv fun _ => 0) 112 (by simp only [List.getElem?_toArray, List.getElem?_cons_zero, List.getElem?_cons_succ]; exact rfl) rfl (by go_simp) (fun wx hx hD => by rw [zv_zero]; go_simp) fun g3 => ?_
        refine Rd.v_put 0 g3 (zv fun _ => 0) (zv hb) 112 rfl (.cons _ (.cons _ (.cons _ (.refl _)))) (by simp only [List.getElem?_toArray, List.getElem?_cons_zero, List.getElem?_cons_succ]; exact rfl) rfl (by go_simp) (fun wx hx hD => ?_) ?_
        · have rr := hD.rowOk (n := 16) 0 rfl (zv_size _)
          go_simp
        refine Rd.v_put 2 g4 (zv fun _ => 0) (zv hw) 112 rfl (.cons _ (.cons _ (.cons _ (.refl _)))) (by simp only [List.getElem?_toArray, List.getElem?_cons_zero, List.getElem?_cons_succ]; exact rfl) rfl (by go_simp) (fun wx hx hD => ?_) ?_
        · have rr := hD.rowOk (n := 16) 2 rfl (zv_size _)
          go_simp
        refine Rd.v_put 1 g5 (bv fun _ => false) (bv fun _ => false) 85 rfl (.cons _ (.cons _ (.cons _ (.refl _)))) (by simp only [List.getElem?_toArray, List.getElem?_cons_zero, List.getElem?_cons_succ]; exact rfl) rfl (by go_simp) (fun wx hx hD => ?_) ?_
        · have rr := hD.rowOk (n := 16) 1 rfl (bv_size _)
          rw [bv_false]; go_simp
        rintro wz - hz
        go_simp
        exact key g3 g4 g5 _ (hz.perm (((List.Perm.swap _ _ _).cons _)))
    · skip
      refine Rd.v_box (bv fun _ => false) 85 (by simp only [List.getElem?_toArray, List.getElem?_cons_zero, List.getElem?_cons_succ]; exact rfl) rfl (by go_simp) (fun wx hx hD => by rw [bv_false]; go_simp) fun g5 => ?_
      refine ⟨?_, ?_⟩
      · skip
        refine Rd.v_box (zv fun _ => 0) 112 (by simp only [List.getElem?_toArray, List.getElem?_cons_zero, List.getElem?_cons_succ]; exact rfl) rfl (by go_simp) (fun wx hx hD => by rw [zv_zero]; go_simp) fun g3 => ?_
        refine Rd.v_box (zv fun _ => 0) 112 (by simp only [List.getElem?_toArray, List.getElem?_cons_zero, List.getElem?_cons_succ]; exact rfl) rfl (by go_simp) (fun wx hx hD => by rw [zv_zero]; go_simp) fun g4 => ?_
        refine Rd.v_put 1 g3 (zv fun _ => 0) (zv hb) 112 rfl (.cons _ (.cons _ (.cons _ (.refl _)))) (by simp only [List.getElem?_toArray, List.getElem?_cons_zero, List.getElem?_cons_succ]; exact rfl) rfl (by go_simp) (fun wx hx hD => ?_) ?_
        · have rr := hD.rowOk (n := 16) 1 rfl (zv_size _)
          go_simp
        refine Rd.v_put 0 g4 (zv fun _ => 0) (zv hw) 112 rfl (.cons _ (.cons _ (.cons _ (.refl _)))) (by simp only [List.getElem?_toArray, List.getElem?_cons_zero, List.getElem?_cons_succ]; exact rfl) rfl (by go_simp) (fun wx hx hD => ?_) ?_
        · have rr := hD.rowOk (n := 16) 0 rfl (zv_size _)
          go_simp
        refine Rd.v_put 2 g5 (bv fun _ => false) (bv fun _ => false) 85 rfl (.cons _ (.cons _ (.cons _ (.refl _)))) (by simp only [List.getElem?_toArray, List.getElem?_cons_zero, List.getElem?_cons_succ]; exact rfl) rfl (by go_simp) (fun wx hx hD => ?_) ?_
        · have rr := hD.rowOk (n := 16) 2 rfl (bv_size _)
          rw [bv_false]; go_simp
        rintro wz - hz
        go_simp
        exact key g3 g4 g5 _ (hz.perm ((List.Perm.swap _ _ _)))
      · skip
        refine Rd.v_box (zv fun _ => 0) 112 (by simp only [List.getElem?_toArray, List.getElem?_cons_zero, List.getElem?_cons_succ]; exact rfl) rfl (by go_simp) (fun wx hx hD => by rw [zv_zero]; go_simp) fun g4 => ?_
        refine Rd.v_box (zv fun _ => 0) 112 (by simp only [List.getElem?_toArray, List.getElem?_cons_zero, List.getElem?_cons_succ]; exact rfl) rfl (by go_simp) (fun wx hx hD => by rw [zv_zero]; go_simp) fun g3 => ?_
        refine Rd.v_put 0 g3 (zv fun _ => 0) (zv hb) 112 rfl (.cons _ (.cons _ (.cons _ (.refl _)))) (by simp only [List.getElem?_toArray, List.getElem?_cons_zero, List.getElem?_cons_succ]; exact rfl) rfl (by go_simp) (fun wx hx hD => ?_) ?_
        · have rr := hD.rowOk (n := 16) 0 rfl (zv_size _)
          go_simp
        refine Rd.v_put 1 g4 (zv fun _ => 0) (zv hw) 112 rfl (.cons _ (.cons _ (.cons _ (.refl _)))) (by simp only [List.getElem?_toArray, List.getElem?_cons_zero, List.getElem?_cons_succ]; exact rfl) rfl (by go_simp) (fun wx hx hD => ?_) ?_
        · have rr := hD.rowOk (n := 16) 1 rfl (zv_size _)
          go_simp
        refine Rd.v_put 2 g5 (bv fun _ => false) (bv fun _ => false) 85 rfl (.cons _ (.cons _ (.cons _ (.refl _)))) (by simp only [List.getElem?_toArray, List.getElem?_cons_zero, List.getElem?_cons_succ]; exact rfl) rfl (by go_simp) (fun wx hx hD => ?_) ?_
        · have rr := hD.rowOk (n := 16) 2 rfl (bv_size _)
          rw [bv_false]; go_simp
        rintro wz - hz
        go_simp
        exact key g3 g4 g5 _ hz
  intro g3 g4 g5 w2 H2
  clear HH0
  go_wp2_with fail
  refine (CA.out _).mono ?_
  rintro e w3 ⟨cv, rfl, hcv⟩
  have H3 := (H2.joinL hcv).perm List.perm_append_comm
  clear hcv H2
  have H4 : Holds w w3 [pInts cv (cl9 (pcs9 e0 e1 (List.range 0)) 32), pBlk g3 (zv hb) 112, pBlk g4 (zv hw) 112, pBlk g5 (bv (mk9 e0 e1 0)) 85, pBlk (w.heap.size + 1) (bv fun _ => false) 85, pBlk w.heap.size (dv m f g) 31] := by
    rw [mk9_zero]
    have e : cl9 (pcs9 e0 e1 (List.range 0)) 32 = List.range 32 := cl9_id 32
    rw [e]
    exact H3
  clear H3
  go_wp2
  go_loopw [7] (fun t wr => ∃ k : Nat, k ≤ m ∧ t = .int .i64 k ∧ Holds w wr [pInts cv (cl9 (pcs9 e0 e1 (List.range k)) 32), pBlk g3 (zv hb) 112, pBlk g4 (zv hw) 112, pBlk g5 (bv (mk9 e0 e1 k)) 85, pBlk (w.heap.size + 1) (bv fun _ => false) 85, pBlk w.heap.size (dv m f g) 31]) (fun t _ => m - (intOf t).toNat)
  case atStart => exact ⟨0, Nat.zero_le _, rfl, H4⟩
  case round =>
    clear H4
    obtain ⟨k, hk, rfl, hH⟩ := hrel
    have cn0 := hH.cell 5 rfl hn
    by_cases hlt : k < m
    · have hki : (k : Int) < m := by omega
      have hk16 : k < 16 := by omega
      have hk16i : (k : Int) < 16 := by omega
      have lb := LB.out k hlt
      have lw := LW.out k hlt
      have hst := mk9_step e0 e1 k
      have hps : pcs9 e0 e1 (List.range (k + 1)) = joi9 (pcs9 e0 e1 (List.range k)) (hb k) (16 + hw k) := by
        rw [List.range_succ, pcs9_snoc, ← HE0.out k hlt, ← HE1.out k hlt]; rfl
      rw [HE0.out k hlt, HE1.out k hlt] at hst
      generalize pcs9 e0 e1 (List.range k) = h at *
      have HST := hide (And.intro hst hps); clear hst hps
      have CJ := hide fun wx (H : Holds w wx [pInts cv (cl9 h 32), pBlk g3 (zv hb) 112, pBlk g4 (zv hw) 112, pBlk g5 (bv (mk9 e0 e1 k)) 85, pBlk (w.heap.size + 1) (bv fun _ => false) 85, pBlk w.heap.size (dv m f g) 31]) => l09Join_any h 32 (hb k) (16 + hw k) (by omega) (by omega) (by omega) cv w wx _ H
      have wk : IntKind.i64.wrap (16 + (hw k : Int)) = 16 + (hw k : Int) := wr64k (by omega) (by omega)
      have HC1 := hide (show ((16 + hw k : Nat) : Int) = 16 + (hw k : Int) by omega)
      rw [HC1.out] at CJ
      generalize decide (h (hb k) ≠ h (16 + hw k)) = B at *
      go_wp2
      clear cn0
      refine Rd.region_P (w0 := w) [pBlk g3 (zv hb) 112, pBlk g4 (zv hw) 112, pBlk (w.heap.size + 1) (bv fun _ => false) 85, pBlk w.heap.size (dv m f g) 31] [pInts cv (cl9 h 32), pBlk g3 (zv hb) 112, pBlk g4 (zv hw) 112, pBlk g5 (bv (mk9 e0 e1 k)) 85, pBlk (w.heap.size + 1) (bv fun _ => false) 85, pBlk w.heap.size (dv m f g) 31] [9, 11] (.q 0 <| .q 1 <| .q 2 <| .q 3 <| .q 4 <| .q 5 <| .q 6 <| .q 7 <| .q 8 <| .s1 9 <| .q 10 <| .s1 11 .fin) hH (.cons _ (.cons_cons _ (.cons_cons _ (.cons _ (.refl _))))) (by kernel_rfl) (by kernel_rfl) (by kernel_rfl) ?_
      iterate 9
        apply Rd.v_q
        · simp only [List.getElem?_toArray, List.getElem?_cons_zero, List.getElem?_cons_succ]; exact rfl
        · rfl
        · go_simp
        · intro wx hx
          have q1 := hx.cell 0 rfl (zv_get hb hk16)
          have q2 := hx.cell 1 rfl (zv_get hw hk16)
          unfold atG
          go_simp
          simp only [uponG]
          exact ⟨by trivial, rfl⟩
      refine Rd.v_s9 (fun u wx => u = .bool B ∧ Holds w wx [pInts cv (cl9 (joi9 h (hb k) (16 + hw k)) 32), pBlk g3 (zv hb) 112, pBlk g4 (zv hw) 112, pBlk g5 (bv (mk9 e0 e1 k)) 85, pBlk (w.heap.size + 1) (bv fun _ => false) 85, pBlk w.heap.size (dv m f g) 31]) (fun _ _ _ h hb => ⟨h.1, h.2.call hb⟩) (by simp only [List.getElem?_toArray, List.getElem?_cons_zero, List.getElem?_cons_succ]; exact rfl) rfl (by go_simp) (fun wx hx hD => ?_) ?_
      · go_simp
        simp only [Rd.upon9_eq, Rd.uponE]
        refine ⟨by trivial, (CJ.out wx hD).mono ?_⟩
        rintro e wy ⟨rfl, hy⟩
        exact ⟨_, rfl, hy.sub (.cons _ (.cons_cons _ (.cons_cons _ (.cons _ (.refl _))))), rfl, hy⟩
      rintro v ⟨_, _, rfl, _⟩
      iterate 1
        apply Rd.v_q
        · simp only [List.getElem?_toArray, List.getElem?_cons_zero, List.getElem?_cons_succ]; exact rfl
        · rfl
        · go_simp
        · intro wx hx
          unfold atG
          go_simp
          simp only [uponG]
          exact ⟨by trivial, rfl⟩
      refine Rd.v_s9 (fun u wx => u = undef ∧ Holds w wx [pInts cv (cl9 (joi9 h (hb k) (16 + hw k)) 32), pBlk g3 (zv hb) 112, pBlk g4 (zv hw) 112, pBlk g5 (bv (mk9 e0 e1 (k + 1))) 85, pBlk (w.heap.size + 1) (bv fun _ => false) 85, pBlk w.heap.size (dv m f g) 31]) (fun _ _ _ h hb => ⟨h.1, h.2.call hb⟩) (by simp only [List.getElem?_toArray, List.getElem?_cons_zero, List.getElem?_cons_succ]; exact rfl) rfl (by go_simp) (fun wx hx hD => ?_) ?_
      · have hD2 := hD.2
        have z0 := hD2.cell 3 rfl (bv_get (mk9 e0 e1 k) hk16)
        have z1 := hD2.frozen 3 rfl k
        have hP := hD2.set 3 rfl k (.bool B)
        simp only [List.set_cons_succ, List.set_cons_zero] at hP
        rw [bv9_set, HST.out.1] at hP
        have HQ := hide hP
        clear hP hD2 hD hx
        go_simp
        simp only [Rd.upon9_eq, Rd.uponE]
        exact ⟨HQ.out.sub (.cons _ (.cons_cons _ (.cons_cons _ (.cons _ (.refl _))))), by trivial, HQ.out⟩
      rintro v ⟨_, _, rfl, _⟩
      rintro wz - hz
      have HQ := hide hz.2
      clear hz hH
      go_simp
      go_wp2
      go_roundw
      case rel => exact ⟨k + 1, by omega, by go_num, by rw [HST.out.2]; exact HQ.out⟩
      case measure => simp [intOf]; omega
    · obtain rfl : m = k := by omega
      have cc := hH.cells 3 rfl
      have rr := hH.rowOk 4 rfl (bv_size _)
      have HQ := hide hH
      clear hk hlt hH
      go_wp2
      have H2 := HQ.out.setRow 4 rfl (bv (mk9 e0 e1 m))
      exact res_agg (p := 2) (g := (w.heap.size + 1)) aggB (bv_size _) rfl rfl rfl (H2.at 4 rfl) ⟨rfl, H2.low⟩
end Go.Proofs.Ytmapjjfefjoemaa

namespace Go.Proofs.Ytmapjjfefjoemaa
open Go.RowKit

theorem spl9_sub (e0 e1 : Nat → Nat) (l : List Nat) : (spl9 e0 e1 l).1.Sublist l ∧ (spl9 e0 e1 l).2.Sublist l := by
  induction l using snocInd9 with
  | h0 => exact ⟨.slnil, .slnil⟩
  | hs l x ih =>
    rw [spl9_snoc]; unfold spst9
    split
    · exact ⟨ih.1.trans (List.sublist_append_left _ _), ih.2.append (.refl _)⟩
    · exact ⟨ih.1.append (.refl _), ih.2.trans (List.sublist_append_left _ _)⟩
theorem filter_sub9 : ∀ {l r : List Nat}, l.Sublist r → r.Nodup → r.filter (fun x => decide (x ∈ l)) = l
  | _, _, .slnil, _ => rfl
  | l, _, @List.Sublist.cons _ _ r x h, hn => by
    have hn' := List.nodup_cons.1 hn
    have hx : x ∉ l := fun hx => hn'.1 (h.subset hx)
    rw [List.filter_cons, if_neg (by simpa using hx)]
    exact filter_sub9 h hn'.2
  | _, _, @List.Sublist.cons_cons _ l r x h, hn => by
    have hn' := List.nodup_cons.1 hn
    have ih := filter_sub9 h hn'.2
    rw [List.filter_cons, if_pos (by simp)]
    congr 1
    refine Eq.trans ?_ ih
    apply List.filter_congr
    intro y hy
    have : y ≠ x := fun e => hn'.1 (e ▸ hy)
    simp [this]
theorem tre9_filter (f g : Nat → Nat) (m : Nat) : (List.range m).filter (mk9 (vb9 f m) (vw9 g m) m) = (tre9 f g m).1 := by
  unfold mk9 tre9
  exact filter_sub9 (spl9_sub _ _ _).1 List.nodup_range
theorem filter_succ9 (p : Nat → Bool) (k : Nat) : (List.range (k + 1)).filter p = if p k = true then (List.range k).filter p ++ [k] else (List.range k).filter p := by
  rw [List.range_succ, List.filter_append]
  split
  · rename_i h; simp [h]
  · rename_i h; simp [h]
set_option maxRecDepth 100000 in
set_option maxHeartbeats 2000000 in
theorem sTreeEdges_any (n : Int) (f g : Nat → Nat) (hf : ∀ i, f i < 256) (hg : ∀ i, g i < 256) (w : World) :
    Calls Try.prog 36 #[.agg (dv n f g)] w fun e w' => ∃ v, e = .returned (.tuple #[v, .int .i64 (teC9 n f g)]) ∧ Below w.heap.size w w' ∧ OwnZ w.heap.size w' v (teL9 n f g) := by
  have C1 := hide fun w => sIs_any n f g hf hg w
  clear hf hg
  have HH0 := (Holds.start w).blk (dv n f g) 31 w.heap.size rfl
  rcases h1 : desB n f g with _ | _
  · rw [h1] at C1
    rw [show teL9 n f g = [] from if_neg (by simp [h1]), show teC9 n f g = 1 from if_neg (by simp [h1])]
    clear h1
    go_enter Try.func36, Try.ntmps36
    go_wp2_with fail
    refine (C1.out _).mono ?_
    rintro e w1 ⟨rfl, hb⟩
    have HH1 := HH0.call hb
    go_wp2
    go_ret2
    exact ⟨.slice none 0 0, rfl, HH1.low, World.ownsRow_nil _ _ _ _⟩
  rw [h1] at C1
  rw [show teL9 n f g = zs9 (tre9 f g n.toNat).1 from if_pos h1, show teC9 n f g = 0 from if_pos h1]
  obtain ⟨m, rfl, hd⟩ := desB_true h1
  rw [Int.toNat_natCast, ← tre9_filter]
  have C2 := hide fun w => l09Tree_any f g m hd w
  have hm := hd.le
  have hn := dv_n m f g
  generalize mk9 (vb9 f m) (vw9 g m) m = T at *
  have HF := hide fun k => filter_succ9 T k
  have HL := hide fun k => (List.length_filter_le T (List.range k))
  clear h1 hd
  go_enter Try.func36, Try.ntmps36
  go_wp2_with fail
  refine (C1.out _).mono ?_
  rintro e w1 ⟨rfl, hb⟩
  have HH1 := HH0.call hb
  have cd1 := HH1.cells 0 rfl
  clear hb HH0
  go_wp2_with fail
  refine (C2.out _).mono ?_
  rintro e w2 ⟨rfl, hb⟩
  have H2 := HH1.call hb
  clear hb HH1 cd1
  have H3 := (H2.rowNew #[] 2 1 0 w2.heap.size rfl rfl (by decide)).blk (bv T) 85 (w2.heap.size + 1) (by simp)
  have cn2 := H2.lt 0 rfl
  go_wp2
  generalize (w2.alloc (.cells #[] 2)).alloc (.cells (bv T) 85) = w3 at *
  have H4 : Holds w w3 [pInts (.slice (some ⟨w2.heap.size, 0, none⟩) 0 0) ((List.range 0).filter T), pBlk (w2.heap.size + 1) (bv T) 85, pBlk w.heap.size (dv m f g) 31] := H3.perm (List.Perm.swap _ _ _)
  clear H3 H2 cn2
  generalize w2.heap.size = G at *
  go_loopw [5, 6] (fun q t wr => ∃ k : Nat, k ≤ m ∧ t = .int .i64 k ∧ Holds w wr [pInts q ((List.range k).filter T), pBlk (G + 1) (bv T) 85, pBlk w.heap.size (dv m f g) 31]) (fun _ t _ => m - (intOf t).toNat)
  case atStart => exact ⟨0, Nat.zero_le _, rfl, H4⟩
  case round =>
    clear H4
    obtain ⟨k, hk, rfl, hH⟩ := hrel
    have cn0 := hH.cell 2 rfl hn
    by_cases hlt : k < m
    · have hki : (k : Int) < m := by omega
      have hk16 : k < 16 := by omega
      have hk16i : (k : Int) < 16 := by omega
      have z0 := hH.cell 1 rfl (bv_get T hk16)
      have hln := HL.out k
      rw [List.length_range] at hln
      have hf := HF.out k
      rcases hT : T k with _ | _
      · rw [hT] at z0 hf
        rw [if_neg (by simp)] at hf
        have HF2 := hide hf; clear hf
        have HQ := hide hH
        clear hH hT
        go_wp2
        go_roundw
        case rel => exact ⟨k + 1, by omega, by go_num, by rw [HF2.out]; exact HQ.out⟩
        case measure => simp [intOf]; omega
      · rw [hT] at z0 hf
        rw [if_pos rfl] at hf
        have HF2 := hide hf; clear hf
        obtain ⟨A, c, rfl⟩ := hH.intsForm 0 rfl
        generalize (List.range k).filter T = l at *
        go_wp2_with (at_builtin; refine appI (hH.alloc _) 0 rfl wr.heap.size [k] 2 ?_ ?_ rfl _ _ rfl rfl rfl ?_)
        · exact heap_at _ _ _ rfl
        · simp only [List.length_cons, List.length_nil]; omega
        intro v' w' h1
        have HQ := hide h1
        clear hH h1 hT cn0 z0
        go_wp2
        go_roundw
        case rel => exact ⟨k + 1, by omega, by go_num, by rw [HF2.out]; exact HQ.out⟩
        case measure => simp [intOf]; omega
    · obtain rfl : m = k := by omega
      have HQ := hide hH
      clear hk hlt hH
      go_wp2
      go_ret2
      exact ⟨_, rfl, HQ.out.low, (HQ.out.own1 0 rfl).z⟩
theorem te9_bound (n : Int) (f g : Nat → Nat) : (teL9 n f g).length ≤ 1000000 := by
  unfold teL9
  split
  · rename_i h
    obtain ⟨m, rfl, hd⟩ := desB_true h
    rw [Int.toNat_natCast, zs9_length]
    have := tre9_len f g m
    have := hd.le
    omega
  · simp
end Go.Proofs.Ytmapjjfefjoemaa

namespace Go.Proofs.Ytmapjjfefjoemaa
open Go.RowKit

def buildSS9 (n : Nat) (ps : Array (Nat × Value)) : Sem Next := do pure (.value (← Instr.buildSlice 26 n ps))
theorem exec_buildSS9 (ρ : Operand → Value) (dst : Option Tmp) (n : Nat) (parts : Array (Nat × Operand)) (ty : TypeId) (pos : String) (after : Array Edge) (guard : Option (Nat × Bool)) :
    execOp ρ { dst, op := .buildSlice 26 n parts, type := ty, pos, after, guard } = buildSS9 n (parts.map fun (i, x) => (i, ρ x)) := rfl
theorem run_buildSS9 (u v : Value) (hu : u.cells = #[u]) (hv : v.cells = #[v]) (w : World) : (buildSS9 2 #[(0, u), (1, v)]).run Try.prog w = .ok (.value (.slice (some ⟨w.heap.size, 0, none⟩) 2 2)) (w.alloc (.cells #[u, v] 25)) := by
  have h := run_buildSl (P := Try.prog) (T := 26) (E := 25) (s := 1) (n := 2) Try.underlying26 (by kernel_rfl) (by kernel_rfl) #[(0, u), (1, v)] (by simp [Fits, hu, hv]) (by simp [flatC, hu, hv]) (by decide) (by decide) w
  simp only [buildSS9, Sem.run_bind, h, Result.andThen_ok, Sem.run_pure]
  simp [flatC, hu, hv]
/-- the numbers that are told already -/
def cuz9 (F : Nat → Int) (x : Nat) (T : List Nat) (k m : Nat) : List Int := (List.range m).map fun y => if y = x ∨ y ∈ T.take k then F y else 0
theorem cuz9_length (F : Nat → Int) (x : Nat) (T : List Nat) (k m : Nat) : (cuz9 F x T k m).length = m := by simp [cuz9]
theorem cuz9_get (F : Nat → Int) (x : Nat) (T : List Nat) (k : Nat) {m y : Nat} (h : y < m) : (cuz9 F x T k m)[y]? = some (if y = x ∨ y ∈ T.take k then F y else 0) := by simp [cuz9, h]
theorem cuz9_zero {F : Nat → Int} {x m : Nat} {T : List Nat} (h : F x = 1) : (List.replicate m (0 : Int)).set x 1 = cuz9 F x T 0 m := by
  apply List.ext_getElem
  · simp [cuz9]
  · intro i h1 h2
    rw [List.getElem_set]
    simp only [cuz9, List.getElem_map, List.getElem_range, List.take_zero, List.not_mem_nil, or_false, List.getElem_replicate]
    by_cases e : x = i
    · subst e; simp [h]
    · rw [if_neg e, if_neg (Ne.symm e)]
theorem cuz9_step {F : Nat → Int} {x m i : Nat} {T : List Nat} (h : i < T.length) : (cuz9 F x T i m).set T[i] (F T[i]) = cuz9 F x T (i + 1) m := by
  apply List.ext_getElem
  · simp [cuz9]
  · intro j h1 h2
    rw [List.getElem_set]
    simp only [cuz9, List.getElem_map, List.getElem_range]
    have hm : j ∈ T.take (i + 1) ↔ j ∈ T.take i ∨ j = T[i] := by rw [List.take_succ_eq_append_getElem h, List.mem_append, List.mem_singleton]
    simp only [hm]
    by_cases e : T[i] = j
    · subst e; simp
    · rw [if_neg e]
      have : (j = x ∨ j ∈ T.take i ∨ j = T[i]) ↔ (j = x ∨ j ∈ T.take i) := by
        constructor
        · rintro (h | h | h)
          · exact .inl h
          · exact .inr h
          · exact absurd h.symm e
        · rintro (h | h)
          · exact .inl h
          · exact .inr (.inl h)
      simp only [this]
theorem rst9_take {T : List Nat} (hn : T.Nodup) {i : Nat} (h : i < T.length) : T.take i ++ T.drop (i + 1) = rst9 T T[i] := by
  have e : T = T.take i ++ T[i] :: T.drop (i + 1) := by rw [← List.drop_eq_getElem_cons h, List.take_append_drop]
  generalize hy : T[i] = y at *
  generalize T.take i = A at *
  generalize T.drop (i + 1) = B at *
  subst e
  have hn2 := List.nodup_append.1 hn
  have hnB := List.nodup_cons.1 hn2.2.1
  have hA : ∀ z ∈ A, z ≠ y := fun z hz e => hn2.2.2 z hz y (by simp) e
  unfold rst9
  rw [List.filter_append, List.filter_cons, if_neg (by simp), List.filter_eq_self.2 (fun z hz => by simpa using hA z hz), List.filter_eq_self.2 (fun z hz => by have : z ≠ y := fun e => hnB.1 (by rw [← e]; exact hz); simpa using this)]
theorem zc_set9 (l : List Int) (i : Nat) (x : Int) : (zc l).set i (.int .i64 x) = zc (l.set i x) := by unfold zc; rw [List.map_set]
theorem zc_at9 {l : List Int} {i : Nat} {x : Int} (h : l[i]? = some x) : (zc l)[i]? = some (.int .i64 x) := by rw [zc_get, h]; rfl
theorem zs9_take (l : List Nat) (k : Nat) : (zs9 l).take k = zs9 (l.take k) := by unfold zs9; rw [List.map_take]
theorem zs9_drop (l : List Nat) (k : Nat) : (zs9 l).drop k = zs9 (l.drop k) := by unfold zs9; rw [List.map_drop]
theorem zs9_append (a b : List Nat) : zs9 (a ++ b) = zs9 a ++ zs9 b := by unfold zs9; rw [List.map_append]
set_option maxRecDepth 100000 in
set_option maxHeartbeats 4000000 in
theorem cycleOfEdge_any (f g : Nat → Nat) (m : Nat) (hd : DesN f g m) (x : Nat) (hx : x < m) (A : Option Addr) (c : Nat) (hxT : x ∉ (tre9 f g m).1) (hcap : (tre9 f g m).1.length ≤ c) (w : World) (hv : RdZ w (.slice A (tre9 f g m).1.length c) (zs9 (tre9 f g m).1)) :
    Calls Try.prog 80 #[.agg (dv m f g), .slice A (tre9 f g m).1.length c, .int .i64 x] w fun e w' => ∃ u, e = .returned u ∧ Holds w w' [pZ9 u ((List.range m).map (cyo9 (vb9 f m) (vw9 g m) (tre9 f g m).1 x))] := by
  have CV := hide fun w => vertexLinks_any f g m hd w
  have hE := hide (vl9_lt hd)
  have hm := hd.le
  have hn := dv_n m f g
  have htl := tre9_len f g m
  have hTm : ∀ z ∈ (tre9 f g m).1, z < m := fun z hz => List.mem_range.1 ((spl9_mem (vb9 f m) (vw9 g m) (List.range m) z).2 (.inl hz))
  have hTn : (tre9 f g m).1.Nodup := (spl9_sub _ _ _).1.nodup List.nodup_range
  have CPP := hide fun v l hl hn w hv => pieces_any (vb9 f m) (vw9 g m) (vl9_lt hd) v l hl hn w hv
  generalize (tre9 f g m).1 = T at *
  generalize vb9 f m = e0 at *
  generalize vw9 g m = e1 at *
  clear hd
  obtain ⟨F, hF⟩ : ∃ F, F = cyo9 e0 e1 T x := ⟨_, rfl⟩
  rw [← hF]
  have hFx : F x = 1 := by rw [hF]; simp [cyo9]
  have HFY : Hid (∀ y ∈ T, F y = ind9 (pcs9 e0 e1 (rst9 T y) (e1 x)) (pcs9 e0 e1 (rst9 T y) (e0 y)) - ind9 (pcs9 e0 e1 (rst9 T y) (e0 x)) (pcs9 e0 e1 (rst9 T y) (e0 y))) := hide fun y hy => by
    have hne : y ≠ x := fun e => hxT (by rw [← e]; exact hy)
    rw [hF]; unfold cyo9; rw [if_neg hne, if_pos hy]
  have HEND : Hid (cuz9 F x T T.length m = (List.range m).map F) := hide (by
    unfold cuz9
    refine List.map_congr_left fun y hy => ?_
    rw [List.take_length]
    split
    · rfl
    · rename_i h
      have h1 : y ≠ x := fun e => h (.inl e)
      have h2 : y ∉ T := fun e => h (.inr e)
      rw [hF]; unfold cyo9; rw [if_neg h1, if_neg h2])
  clear hF
  have HFX := hide hFx; clear hFx
  have HXT := hide hxT; clear hxT
  have HTM := hide hTm; clear hTm
  have HTN := hide hTn; clear hTn
  have HV := hide hv; clear hv
  have HCAP := hide hcap
  have htc : T.length ≤ 16 := by omega
  clear htl
  have HZ0 := hide (cuz9_zero (F := F) (x := x) (m := m) (T := T) HFX.out)
  have CC := hide fun (i : Nat) (hi : i < T.length) w g8 (h : RdZ2 w (.slice (some ⟨g8, 0, none⟩) 2 2) [(zs9 T).take i, (zs9 T).drop (i + 1)]) => (by
    have h1 := concat_any9 (.slice (some ⟨g8, 0, none⟩) 2 2) [(zs9 T).take i, (zs9 T).drop (i + 1)] (by simp [totZ, zs9_length]; omega) (by simp) w h
    have e : flat9 [(zs9 T).take i, (zs9 T).drop (i + 1)] = zs9 (rst9 T T[i]) := by
      rw [← rst9_take HTN.out hi, zs9_append, ← zs9_take, ← zs9_drop]; simp [flat9]
    rw [e] at h1
    exact h1 : Calls Try.prog 56 #[.slice (some ⟨g8, 0, none⟩) 2 2] w fun e w' => ∃ u, e = .returned u ∧ Holds w w' [pZ9 u (zs9 (rst9 T T[i]))])
  obtain ⟨i0, hi, hz0, hz1, hz2⟩ := info_parts info64
  have I0 := hide (And.intro hi (And.intro hz0 (And.intro hz1 hz2))); clear hi hz0 hz1 hz2
  have HH0 := (Holds.start w).blk (dv m f g) 31 w.heap.size rfl
  have hxi : (x : Int) < m := by omega
  go_enter Try.func80, Try.ntmps80
  go_wp2_with fail
  refine (CV.out _).mono ?_
  rintro e w1 ⟨rfl, hb⟩
  have H1 := HH0.call hb
  have cn1 := H1.cell 0 rfl hn
  have cl1 := H1.lt 0 rfl
  have HB := H1.blk (nv9 (lk9 e0 e1)) 118 w1.heap.size rfl
  clear hb HH0
  go_wp2_with (refine makeH (P := Try.prog) rfl 25 _ _ rfl 2 i0 (.int .i64 0) 8 Try.underlying25 I0.out.1 I0.out.2.1 I0.out.2.2.1 I0.out.2.2.2 rfl m .i64 .i64 rfl rfl (by omega) (by decide) HB ?_)
  intro w2 H2
  clear HB H1 cn1 cl1
  have H3 : Holds w w2 [pRow (.slice (some ⟨w1.heap.size + 1, 0, none⟩) m m) 2 1 m (zc (List.replicate m 0)), pBlk w1.heap.size (nv9 (lk9 e0 e1)) 118, pBlk w.heap.size (dv m f g) 31] := by
    unfold zc; rw [List.map_replicate]; exact H2
  clear H2
  obtain ⟨z0, z1⟩ := H3.rowCell9 0 rfl (zc_at9 (l := List.replicate m 0) (i := x) (x := 0) (by simp [hx]))
  have H4 := H3.put 0 rfl x (.int .i64 1)
  simp only [List.set_cons_zero] at H4
  rw [zc_set9, HZ0.out] at H4
  have H5 := hide (H4.perm (List.Perm.swap _ _ _))
  clear H3 H4
  go_wp2
  go_loopw [23] (fun t wr => ∃ i : Nat, i ≤ T.length ∧ t = .int .i64 i ∧ Holds w wr [pBlk w1.heap.size (nv9 (lk9 e0 e1)) 118, pRow (.slice (some ⟨w1.heap.size + 1, 0, none⟩) m m) 2 1 m (zc (cuz9 F x T i m)), pBlk w.heap.size (dv m f g) 31]) (fun t _ => T.length - (intOf t).toNat)
  case atStart => exact ⟨0, Nat.zero_le _, rfl, H5.out⟩
  case round =>
    clear H5 z0 z1
    obtain ⟨i, hi, rfl, hH⟩ := hrel
    by_cases hil : i < T.length
    · have hil' : i < (zs9 T).length := by rw [zs9_length]; exact hil
      obtain ⟨p0, rfl, _, d1⟩ := (HV.out.below hH.low (Nat.le_refl _)).at hil'
      rw [zs9_get hil] at d1
      have hyT := List.getElem_mem hil
      have hym := HTM.out _ hyT
      have hyx : T[i] ≠ x := fun e => HXT.out (by rw [← e]; exact hyT)
      have hFY := HFY.out _ hyT
      have hst := cuz9_step (F := F) (x := x) (m := m) hil
      have hold : (cuz9 F x T i m)[T[i]]? = some 0 := by
        rw [cuz9_get F x T i hym, if_neg]
        rintro (h | h)
        · exact hyx h
        · obtain ⟨j, hj, e⟩ := List.getElem_of_mem h
          rw [List.getElem_take] at e
          have := (List.getElem_inj HTN.out).1 e
          rw [List.length_take] at hj; omega
      have CC2 := hide fun wx g8 h => CC.out i hil wx g8 h
      have RLEN : Hid ((zs9 (rst9 T T[i])).length ≤ 1000000) := hide (by rw [zs9_length]; unfold rst9; have := List.length_filter_le (fun z => decide (z ≠ T[i])) T; omega)
      have CP := hide fun v w (hv : RdZ w v (zs9 (rst9 T (T[i]'hil)))) => CPP.out v (rst9 T (T[i]'hil)) (fun z hz => by have := HTM.out z (mem_rst9.1 hz).1; omega) (by unfold rst9; have := List.length_filter_le (fun z => decide (z ≠ T[i])) T; omega) w hv
      have HIL : Hid (i ≤ T.length) := hide hi
      have HIL1 : Hid (i + 1 ≤ T.length) := hide hil
      have SLO := hide fun w => run_slLo9 (some p0) T.length c (i + 1) HIL1.out w
      have HC1 := hide (show ((i + 1 : Nat) : Int) = (i : Int) + 1 by omega)
      rw [HC1.out] at SLO
      have S1 : Hid ((Value.slice (some p0) i c).cells = #[.slice (some p0) i c]) := hide rfl
      have S2 : Hid ((lo9 (some p0) T.length c (i + 1)).cells = #[lo9 (some p0) T.length c (i + 1)]) := hide (by obtain ⟨B, d, e⟩ := lo9_form (some p0) T.length c (i + 1); rw [e]; rfl)
      obtain ⟨hy0, hy1⟩ := hE.out T[i] (by omega)
      obtain ⟨hx0, hx1⟩ := hE.out x (by omega)
      clear CC
      generalize T[i] = y at *
      obtain ⟨s, hs⟩ : ∃ s, s = pcs9 e0 e1 (rst9 T y) := ⟨_, rfl⟩
      rw [← hs] at CP hFY
      clear hs hil'
      have CC := CC2; clear CC2
      have HST := hide hst; clear hst
      have HOLD := hide hold; clear hold
      have HFYY := hide hFY; clear hFY
      have hic : (i : Int) ≤ c := by omega
      have hic0 : (0 : Int) ≤ i := by omega
      have hyi : (y : Int) < m := by omega
      have wi : IntKind.i64.wrap ((i : Int) + 1) = (i : Int) + 1 := wr64k (by omega) (by omega)
      have hy16 : y < 16 := by omega
      have hy16i : (y : Int) < 16 := by omega
      have hx16 : x < 16 := by omega
      have hx16i : (x : Int) < 16 := by omega
      go_wp2
      clear d1
      have HHid := hide hH
      apply Rd.region_Q3 (w0 := w) [pBlk w1.heap.size (nv9 (lk9 e0 e1)) 118, pRow (.slice (some ⟨w1.heap.size + 1, 0, none⟩) m m) 2 1 m (zc (cuz9 F x T i m)), pBlk w.heap.size (dv m f g) 31] [pBlk w1.heap.size (nv9 (lk9 e0 e1)) 118, pRow (.slice (some ⟨w1.heap.size + 1, 0, none⟩) m m) 2 1 m (zc (cuz9 F x T i m)), pBlk w.heap.size (dv m f g) 31] [8, 9, 10, 11, 12] (.q 0 <| .q 1 <| .q 2 <| .q 3 <| .q 4 <| .q 5 <| .q 6 <| .q 7 <| .s2 8 (.s2 9 (.s2 10 (.s1 11 <| .s1 12 .fin) 11 (.s1 10 <| .s1 12 .fin)) 11 (.s1 9 <| .s1 10 <| .s1 12 .fin)) 11 (.s1 8 <| .s1 9 <| .s1 10 <| .s1 12 .fin)) hH (.refl _) (by kernel_rfl) (by kernel_rfl) (by kernel_rfl) (F := fun (g8 : Nat) (v : Value) (g11 : Nat) => pBlk g11 (nv9 s) 122 :: [pBlk w1.heap.size (nv9 (lk9 e0 e1)) 118, pRow (.slice (some ⟨w1.heap.size + 1, 0, none⟩) m m) 2 1 m (zc (cuz9 F x T i m)), pBlk w.heap.size (dv m f g) 31])
      case h =>
        intro K key
        iterate 3
          apply Rd.v_q
          · simp only [List.getElem?_toArray, List.getElem?_cons_zero, List.getElem?_cons_succ]; exact rfl
          · rfl
          · go_simp
          · intro wx hx
            have q1 := hx.cells 0 rfl
            unfold atG
            go_simp
            simp only [uponG]
            exact ⟨by trivial, rfl⟩
        iterate 1
          apply Rd.v_q
          · simp only [List.getElem?_toArray, List.getElem?_cons_zero, List.getElem?_cons_succ]; exact rfl
          · rfl
          · go_simp
          · intro wx hx
            have q1 := hx.cells 0 rfl
            unfold atG
            go_simp
            simp only [uponG]
            exact ⟨by trivial, rfl⟩
        iterate 4
          apply Rd.v_q
          · simp only [List.getElem?_toArray, List.getElem?_cons_zero, List.getElem?_cons_succ]; exact rfl
          · rfl
          · go_simp
          · intro wx hx
            have q1 := SLO.out wx
            unfold atG
            go_simp
            simp only [uponG]
            exact ⟨by trivial, rfl⟩
        refine ⟨?_, ?_⟩
        · skip
          refine Rd.v_build #[.slice (some p0) i c, lo9 (some p0) T.length c (i + 1)] 25 2 (by simp only [List.getElem?_toArray, List.getElem?_cons_zero, List.getElem?_cons_succ]; exact rfl) rfl (by go_simp) (fun wx hx hD => by rw [exec_buildSS9]; simp only [List.map_toArray, List.map_cons, List.map_nil]; go_simp; exact run_buildSS9 _ _ S1.out S2.out _) fun g8 => ?_
          refine ⟨?_, ?_⟩
          · skip
            refine Rd.v_ownZ9 (zs9 (rst9 T y)) (by simp only [List.getElem?_toArray, List.getElem?_cons_zero, List.getElem?_cons_succ]; exact rfl) rfl (by go_simp) (fun wx hx hD => ?_) fun v => ?_
            · go_simp
              exact Rd.upon9_callZ hx hD (CC.out wx _ (rd_two9 (hD.at 0 rfl) ((HV.out.below hx.low (Nat.le_refl _)).take9 HIL.out) ((HV.out.below hx.low (Nat.le_refl _)).drop9 HIL1.out HCAP.out)))
            refine ⟨?_, ?_⟩
            · skip
              refine Rd.v_known9 (.agg (nv9 s)) (by simp only [List.getElem?_toArray, List.getElem?_cons_zero, List.getElem?_cons_succ]; exact rfl) rfl (by go_simp) (fun wx hx hD => ?_) ?_
              · go_simp
                exact Rd.upon9_callK hx hD (CP.out _ wx (hD.rdZ9 0 rfl RLEN.out))
              refine Rd.v_box (nv9 fun _ => 0) 122 (by simp only [List.getElem?_toArray, List.getElem?_cons_zero, List.getElem?_cons_succ]; exact rfl) rfl (by go_simp) (fun wx hx hD => by rw [nv9_zero]; go_simp) fun g11 => ?_
              refine Rd.v_put 0 g11 (nv9 fun _ => 0) (nv9 s) 122 rfl (.cons _ (.cons _ (.cons _ (.refl _)))) (by simp only [List.getElem?_toArray, List.getElem?_cons_zero, List.getElem?_cons_succ]; exact rfl) rfl (by go_simp) (fun wx hx hD => ?_) ?_
              · have rr := hD.rowOk (n := 32) 0 rfl (nv9_size _)
                go_simp
              rintro wz - hz
              go_simp
              exact key g8 v g11 _ (hz.sub (.cons_cons _ (.cons _ (.cons _ (.refl _)))))
            · skip
              refine Rd.v_box (nv9 fun _ => 0) 122 (by simp only [List.getElem?_toArray, List.getElem?_cons_zero, List.getElem?_cons_succ]; exact rfl) rfl (by go_simp) (fun wx hx hD => by rw [nv9_zero]; go_simp) fun g11 => ?_
              refine Rd.v_known9 (.agg (nv9 s)) (by simp only [List.getElem?_toArray, List.getElem?_cons_zero, List.getElem?_cons_succ]; exact rfl) rfl (by go_simp) (fun wx hx hD => ?_) ?_
              · go_simp
                exact Rd.upon9_callK hx hD (CP.out _ wx (hD.rdZ9 1 rfl RLEN.out))
              refine Rd.v_put 0 g11 (nv9 fun _ => 0) (nv9 s) 122 rfl (.cons _ (.cons _ (.cons _ (.refl _)))) (by simp only [List.getElem?_toArray, List.getElem?_cons_zero, List.getElem?_cons_succ]; exact rfl) rfl (by go_simp) (fun wx hx hD => ?_) ?_
              · have rr := hD.rowOk (n := 32) 0 rfl (nv9_size _)
                go_simp
              rintro wz - hz
              go_simp
              exact key g8 v g11 _ (hz.sub (.cons_cons _ (.cons _ (.cons _ (.refl _)))))
          · skip
            refine Rd.v_box (nv9 fun _ => 0) 122 (by simp only [List.getElem?_toArray, List.getElem?_cons_zero, List.getElem?_cons_succ]; exact rfl) rfl (by go_simp) (fun wx hx hD => by rw [nv9_zero]; go_simp) fun g11 => ?_
            refine Rd.v_ownZ9 (zs9 (rst9 T y)) (by simp only [List.getElem?_toArray, List.getElem?_cons_zero, List.getElem?_cons_succ]; exact rfl) rfl (by go_simp) (fun wx hx hD => ?_) fun v => ?_
            · go_simp
              exact Rd.upon9_callZ hx hD (CC.out wx _ (rd_two9 (hD.at 1 rfl) ((HV.out.below hx.low (Nat.le_refl _)).take9 HIL.out) ((HV.out.below hx.low (Nat.le_refl _)).drop9 HIL1.out HCAP.out)))
            refine Rd.v_known9 (.agg (nv9 s)) (by simp only [List.getElem?_toArray, List.getElem?_cons_zero, List.getElem?_cons_succ]; exact rfl) rfl (by go_simp) (fun wx hx hD => ?_) ?_
            · go_simp
              exact Rd.upon9_callK hx hD (CP.out _ wx (hD.rdZ9 0 rfl RLEN.out))
            refine Rd.v_put 1 g11 (nv9 fun _ => 0) (nv9 s) 122 rfl (.cons _ (.cons _ (.cons _ (.refl _)))) (by simp only [List.getElem?_toArray, List.getElem?_cons_zero, List.getElem?_cons_succ]; exact rfl) rfl (by go_simp) (fun wx hx hD => ?_) ?_
            · have rr := hD.rowOk (n := 32) 1 rfl (nv9_size _)
              go_simp
            rintro wz - hz
            go_simp
            exact key g8 v g11 _ (hz.sub (.cons _ (.cons_cons _ (.cons _ (.refl _)))))
        · skip
          refine Rd.v_box (nv9 fun _ => 0) 122 (by simp only [List.getElem?_toArray, List.getElem?_cons_zero, List.getElem?_cons_succ]; exact rfl) rfl (by go_simp) (fun wx hx hD => by rw [nv9_zero]; go_simp) fun g11 => ?_
          refine Rd.v_build #[.slice (some p0) i c, lo9 (some p0) T.length c (i + 1)] 25 2 (by simp only [List.getElem?_toArray, List.getElem?_cons_zero, List.getElem?_cons_succ]; exact rfl) rfl (by go_simp) (fun wx hx hD => by rw [exec_buildSS9]; simp only [List.map_toArray, List.map_cons, List.map_nil]; go_simp; exact run_buildSS9 _ _ S1.out S2.out _) fun g8 => ?_
          refine Rd.v_ownZ9 (zs9 (rst9 T y)) (by simp only [List.getElem?_toArray, List.getElem?_cons_zero, List.getElem?_cons_succ]; exact rfl) rfl (by go_simp) (fun wx hx hD => ?_) fun v => ?_
          · go_simp
            exact Rd.upon9_callZ hx hD (CC.out wx _ (rd_two9 (hD.at 0 rfl) ((HV.out.below hx.low (Nat.le_refl _)).take9 HIL.out) ((HV.out.below hx.low (Nat.le_refl _)).drop9 HIL1.out HCAP.out)))
          refine Rd.v_known9 (.agg (nv9 s)) (by simp only [List.getElem?_toArray, List.getElem?_cons_zero, List.getElem?_cons_succ]; exact rfl) rfl (by go_simp) (fun wx hx hD => ?_) ?_
          · go_simp
            exact Rd.upon9_callK hx hD (CP.out _ wx (hD.rdZ9 0 rfl RLEN.out))
          refine Rd.v_put 2 g11 (nv9 fun _ => 0) (nv9 s) 122 rfl (.cons _ (.cons _ (.cons _ (.refl _)))) (by simp only [List.getElem?_toArray, List.getElem?_cons_zero, List.getElem?_cons_succ]; exact rfl) rfl (by go_simp) (fun wx hx hD => ?_) ?_
          · have rr := hD.rowOk (n := 32) 2 rfl (nv9_size _)
            go_simp
          rintro wz - hz
          go_simp
          exact key g8 v g11 _ (hz.sub (.cons _ (.cons _ (.cons_cons _ (.refl _)))))
      intro g8 vc g11 w2 H2
      have H3 := hide H2
      have l0 := H2.cell 1 rfl (nv9_e0 e0 e1 hy16)
      have l1 := H2.cell 1 rfl (nv9_e0 e0 e1 hx16)
      have l2 := H2.cell 1 rfl (nv9_e1 e0 e1 hx16)
      have s0 := H2.cell 0 rfl (nv9_get s hy0)
      have s1 := H2.cell 0 rfl (nv9_get s hx0)
      have s2 := H2.cell 0 rfl (nv9_get s hx1)
      obtain ⟨r0, r1⟩ := H2.rowCell9 2 rfl (zc_at9 HOLD.out)
      clear H2 HHid hH
      have hfin := HFYY.out
      unfold ind9 at hfin
      have q0 : ((e0 y : Nat) : Int) < 32 := by omega
      have q1 : ((e0 x : Nat) : Int) < 32 := by omega
      have q2 : ((e1 x : Nat) : Int) < 32 := by omega
      have n1 : g11 ≠ w1.heap.size + 1 := fun e => H3.out.apart (i := 0) (j := 2) (by omega) rfl rfl (g := g11) rfl (by simp [pRow, Value.ownBlock, e])
      have n2 : ¬ (w1.heap.size + 1 = g11) := fun e => n1 e.symm
      generalize e0 y = ey at *
      generalize e0 x = ex at *
      generalize e1 x = fx at *
      generalize s ey = b0 at *
      generalize s ex = b1 at *
      generalize s fx = b2 at *
      go_simp
      by_cases c1 : b1 = b0
      · have d1 : ((b1 : Int) == (b0 : Int)) = true := by rw [c1]; simp
        by_cases c2 : b2 = b0
        · have d2 : ((b2 : Int) == (b0 : Int)) = true := by rw [c2]; simp
          rw [if_pos c2] at hfin
          rw [if_pos c1] at hfin
          have HS := HST.out
          rw [hfin] at HS
          have hQ := ((H3.out.put 2 rfl y (.int .i64 (-1))).put 2 rfl y (.int .i64 0))
          simp only [List.set_cons_succ, List.set_cons_zero] at hQ
          rw [zc_set9, zc_set9, List.set_set, show (cuz9 F x T i m).set y 0 = cuz9 F x T (i + 1) m from HS] at hQ
          have HQ := hide hQ.tail
          clear hQ HS hfin c1 c2
          go_wp2
          go_roundw
          case rel => exact ⟨i + 1, by omega, by go_num, HQ.out⟩
          case measure => simp [intOf]; omega
        · have d2 : ((b2 : Int) == (b0 : Int)) = false := by simp; omega
          rw [if_neg c2] at hfin
          rw [if_pos c1] at hfin
          have HS := HST.out
          rw [hfin] at HS
          have hQ := (H3.out.put 2 rfl y (.int .i64 (-1)))
          simp only [List.set_cons_succ, List.set_cons_zero] at hQ
          rw [zc_set9, show (cuz9 F x T i m).set y (-1) = cuz9 F x T (i + 1) m from HS] at hQ
          have HQ := hide hQ.tail
          clear hQ HS hfin c1 c2
          go_wp2
          go_roundw
          case rel => exact ⟨i + 1, by omega, by go_num, HQ.out⟩
          case measure => simp [intOf]; omega
      · have d1 : ((b1 : Int) == (b0 : Int)) = false := by simp; omega
        by_cases c2 : b2 = b0
        · have d2 : ((b2 : Int) == (b0 : Int)) = true := by rw [c2]; simp
          rw [if_pos c2] at hfin
          rw [if_neg c1] at hfin
          have HS := HST.out
          rw [hfin] at HS
          have hQ := (H3.out.put 2 rfl y (.int .i64 1))
          simp only [List.set_cons_succ, List.set_cons_zero] at hQ
          rw [zc_set9, show (cuz9 F x T i m).set y 1 = cuz9 F x T (i + 1) m from HS] at hQ
          have HQ := hide hQ.tail
          clear hQ HS hfin c1 c2
          go_wp2
          go_roundw
          case rel => exact ⟨i + 1, by omega, by go_num, HQ.out⟩
          case measure => simp [intOf]; omega
        · have d2 : ((b2 : Int) == (b0 : Int)) = false := by simp; omega
          rw [if_neg c2] at hfin
          rw [if_neg c1] at hfin
          have HS := HST.out
          rw [hfin] at HS
          have hQ := H3.out
          rw [← set_same9 HOLD.out, show (cuz9 F x T i m).set y 0 = cuz9 F x T (i + 1) m from HS] at hQ
          have HQ := hide hQ.tail
          clear hQ HS hfin c1 c2
          go_wp2
          go_roundw
          case rel => exact ⟨i + 1, by omega, by go_num, HQ.out⟩
          case measure => simp [intOf]; omega
    · obtain rfl : i = T.length := by omega
      have HQ := hide (show Holds w wr [pZ9 (.slice (some ⟨w1.heap.size + 1, 0, none⟩) m m) ((List.range m).map F)] by
        have h := hH.sub (L' := [pRow (.slice (some ⟨w1.heap.size + 1, 0, none⟩) m m) 2 1 m (zc (cuz9 F x T T.length m))]) (.cons _ (.cons_cons _ (List.nil_sublist _)))
        rw [HEND.out] at h
        unfold pZ9
        rw [List.length_map, List.length_range]
        exact h)
      clear hil hi hH
      go_wp2
      go_ret
      exact ⟨_, rfl, HQ.out⟩
end Go.Proofs.Ytmapjjfefjoemaa

namespace Go.Proofs.Ytmapjjfefjoemaa.Rd
open Go.RowKit

@[irreducible] def walkW (P : Program) (ops : Array Oper) (C : World → Prop) (E : Nat → Bool) (K : Act → World → Prop) (p : Plan) (a : Act) (D : World → Prop) : Prop := walkV P ops C E K p a D
section
variable {P : Program} {ops : Array Oper} {C : World → Prop} {E : Nat → Bool} {K : Act → World → Prop} {p : Plan} {k : Nat} {a : Act} {D : World → Prop} {o : Oper}
theorem w_in (h : walkW P ops C E K p a D) : walkV P ops C E K p a D := by unfold walkW at h; exact h
theorem w_fin (h : ∀ w, C w → D w → K a w) : walkW P ops C E K .fin a D := by unfold walkW; exact h
theorem w_q (ho : ops[k]? = some o) (hE : E k = false) (hw : Region.wanted o (yielded ops a.tmps) = true) {v : Value} (h1 : ∀ w, C w → atG P o a w v) (h2 : walkW P ops C E K p (a.put o.dst v) D) : walkW P ops C E K (.q k p) a D := by
  unfold walkW at *
  exact v_q ho hE hw h1 h2
theorem opV_skip {N : Act → (World → Prop) → Prop} (ho : ops[k]? = some o) (hw : Region.wanted o (yielded ops a.tmps) = false) (h : N (a.put o.dst undef) D) : opV P ops C E k N a D := by
  unfold opV
  simp only [ho]
  rw [if_neg (by rw [hw]; simp)]
  exact h
theorem w_skip (ho : ops[k]? = some o) (hw : Region.wanted o (yielded ops a.tmps) = false) (h : walkW P ops C E K p (a.put o.dst undef) D) : walkW P ops C E K (.q k p) a D := by
  unfold walkW at *
  exact opV_skip ho hw h
theorem w_skips (ho : ops[k]? = some o) (hw : Region.wanted o (yielded ops a.tmps) = false) (h : walkW P ops C E K p (a.put o.dst undef) D) : walkW P ops C E K (.s1 k p) a D := by
  unfold walkW at *
  exact opV_skip ho hw h
theorem w_s (R : Value → World → Prop) (hR : ∀ v, Stable (R v)) (ho : ops[k]? = some o) (hE : E k = true) (hw : Region.wanted o (yielded ops a.tmps) = true) (h1 : ∀ w, C w → D w → uponE P C R w ((execOp a.eval o).run P w))
    (h2 : ∀ v, (∃ w, C w ∧ R v w) → walkW P ops C E K p (a.put o.dst v) (R v)) : walkW P ops C E K (.s1 k p) a D := by
  unfold walkW at *
  exact v_s R hR ho hE hw h1 h2
end
section
variable {P : Program} {ops : Array Oper} {E : Nat → Bool} {K : Act → World → Prop} {p : Plan} {k : Nat} {a : Act} {w0 : World} {L L1 : List Part} {o : Oper}
theorem w_build (cells : Array Value) (t : TypeId) (n : Nat) (ho : ops[k]? = some o) (hE : E k = true) (hw : Region.wanted o (yielded ops a.tmps) = true)
    (h1 : ∀ w, Holds w0 w L → Holds w0 w L1 → (execOp a.eval o).run P w = .ok (.value (.slice (some ⟨w.heap.size, 0, none⟩) n n)) (w.alloc (.cells cells t)))
    (h2 : ∀ g, walkW P ops (fun wx => Holds w0 wx L) E K p (a.put o.dst (.slice (some ⟨g, 0, none⟩) n n)) (fun wx => Holds w0 wx (pBlk g cells t :: L1))) : walkW P ops (fun wx => Holds w0 wx L) E K (.s1 k p) a (fun wx => Holds w0 wx L1) := by
  unfold walkW at *
  exact v_build cells t n ho hE hw h1 h2
theorem region_W {P : Program} {id : Nat} {Q : Exit → Act → World → Prop} {a : Act} {w w0 : World} {l : List Oper} (L : List Part) (L1 : List Part) (sp : List Nat) (p : Plan) (H : Holds w0 w L1) (hL : L.Sublist L1)
    (hm : P.follows .mixedOrders = true)
    (hsel : Region.noSelect l.toArray = true) (hB : planB .any l.toArray sp l.toArray.size p (Array.replicate l.toArray.size false) = true) 
    (h : walkW P l.toArray (fun wx => Holds w0 wx L) (fun k => sp.contains k) (fun a' w' => Q .normal a' w') p a (fun wx => Holds w0 wx L1)) : (Code.region id l.toArray true).wp P Q a w :=
  region_P L L1 sp p H hL hm hsel hB (w_in h)
end
end Go.Proofs.Ytmapjjfefjoemaa.Rd

namespace Go.Proofs.Ytmapjjfefjoemaa.Rd
open Go.RowKit

inductive P4 where
  | fin
  | q (k : Nat) (p : P4)
  | s1 (k : Nat) (p : P4)
  | s2 (k1 : Nat) (p1 : P4) (k2 : Nat) (p2 : P4)
  | s3 (k1 : Nat) (p1 : P4) (k2 : Nat) (p2 : P4) (k3 : Nat) (p3 : P4)
  | s4 (k1 : Nat) (p1 : P4) (k2 : Nat) (p2 : P4) (k3 : Nat) (p3 : P4) (k4 : Nat) (p4 : P4)
section
variable (P : Program) (md : Region.Mode) (ops : Array Oper) (C : World → Prop) (E : Nat → Bool) (K : Act → World → Prop)
def planB4 (sp : List Nat) : Nat → P4 → Array Bool → Bool
  | _, .fin, done => (Region.ready md ops done).isEmpty
  | 0, _, _ => false
  | f + 1, .q k p, done => !sp.contains k && ((Region.ready md ops done).contains k && Region.free md ops done k && (decide (k < ops.size) && planB4 sp f p (done.setIfInBounds k true)))
  | f + 1, .s1 k p, done => decide (Region.ready md ops done = [k]) && planB4 sp f p (done.setIfInBounds k true)
  | f + 1, .s2 k1 p1 k2 p2, done => decide (Region.ready md ops done = [k1, k2]) && (planB4 sp f p1 (done.setIfInBounds k1 true) && planB4 sp f p2 (done.setIfInBounds k2 true))
  | f + 1, .s3 k1 p1 k2 p2 k3 p3, done => decide (Region.ready md ops done = [k1, k2, k3]) && (planB4 sp f p1 (done.setIfInBounds k1 true) && (planB4 sp f p2 (done.setIfInBounds k2 true) && planB4 sp f p3 (done.setIfInBounds k3 true)))
  | f + 1, .s4 k1 p1 k2 p2 k3 p3 k4 p4, done => decide (Region.ready md ops done = [k1, k2, k3, k4]) && (planB4 sp f p1 (done.setIfInBounds k1 true) && (planB4 sp f p2 (done.setIfInBounds k2 true) && (planB4 sp f p3 (done.setIfInBounds k3 true) && planB4 sp f p4 (done.setIfInBounds k4 true))))
def walk4 : P4 → Act → (World → Prop) → Prop
  | .fin, a, D => ∀ w, C w → D w → K a w
  | .q k p, a, D => opV P ops C E k (walk4 p) a D
  | .s1 k p, a, D => opV P ops C E k (walk4 p) a D
  | .s2 k1 p1 k2 p2, a, D => opV P ops C E k1 (walk4 p1) a D ∧ opV P ops C E k2 (walk4 p2) a D
  | .s3 k1 p1 k2 p2 k3 p3, a, D => opV P ops C E k1 (walk4 p1) a D ∧ opV P ops C E k2 (walk4 p2) a D ∧ opV P ops C E k3 (walk4 p3) a D
  | .s4 k1 p1 k2 p2 k3 p3 k4 p4, a, D => opV P ops C E k1 (walk4 p1) a D ∧ opV P ops C E k2 (walk4 p2) a D ∧ opV P ops C E k3 (walk4 p3) a D ∧ opV P ops C E k4 (walk4 p4) a D
theorem any_walk4 (hsel : Region.noSelect ops = true) (sp : List Nat) (hsp : ∀ k, sp.contains k = false → E k = false) (p : P4) :
    ∀ (f : Nat) (done : Array Bool) (a : Act) (D : World → Prop), planB4 md ops sp f p done = true → walk4 P ops C E K p a D → anyV P md ops C E K f done a D := by
  induction p with
  | fin =>
    intro f done a D hB h
    cases f with
    | zero => exact ⟨by simpa [planB4] using hB, h⟩
    | succ f =>
      have e : Region.ready md ops done = [] := by simpa [planB4] using hB
      exact ⟨fun _ => h, fun i hi => by rw [e] at hi; cases hi⟩
  | q k p ih =>
    intro f done a D hB h
    cases f with
    | zero => simp [planB4] at hB
    | succ f =>
      simp only [planB4, Bool.and_eq_true, decide_eq_true_eq, Bool.not_eq_true'] at hB
      obtain ⟨hc, ⟨hr, hfree⟩, hk, hB'⟩ := hB
      have hE := hsp k hc
      have hi : ops[k]? = some ops[k] := Array.getElem?_eq_getElem hk
      obtain ⟨v, hy, hK⟩ := yieldsG_of P ops C E hi hE h
      exact anyV_first P md ops C E K hi hE (Region.noSelect_spec hsel) f done a D (Region.free_spec hi hfree) (by simpa using hr) hy (ih _ _ _ _ hB' hK)
  | s1 k p ih =>
    intro f done a D hB h
    cases f with
    | zero => simp [planB4] at hB
    | succ f =>
      simp only [planB4, Bool.and_eq_true, decide_eq_true_eq] at hB
      obtain ⟨hr, hB'⟩ := hB
      refine ⟨fun e => (by rw [hr] at e; cases e), fun i hi => ?_⟩
      rw [hr] at hi
      obtain rfl : i = k := by simpa using hi
      exact opV_mono P ops C E (fun a' D' h' => ih _ _ _ _ hB' h') h
  | s2 k1 p1 k2 p2 ih1 ih2 =>
    intro f done a D hB h
    cases f with
    | zero => simp [planB4] at hB
    | succ f =>
      simp only [planB4, Bool.and_eq_true, decide_eq_true_eq] at hB
      obtain ⟨hr, hB1, hB2⟩ := hB
      refine ⟨fun e => (by rw [hr] at e; cases e), fun i hi => ?_⟩
      rw [hr] at hi
      simp only [List.mem_cons, List.not_mem_nil, or_false] at hi
      rcases hi with rfl | rfl
      · exact opV_mono P ops C E (fun a' D' h' => ih1 _ _ _ _ hB1 h') h.1
      · exact opV_mono P ops C E (fun a' D' h' => ih2 _ _ _ _ hB2 h') h.2
  | s3 k1 p1 k2 p2 k3 p3 ih1 ih2 ih3 =>
    intro f done a D hB h
    cases f with
    | zero => simp [planB4] at hB
    | succ f =>
      simp only [planB4, Bool.and_eq_true, decide_eq_true_eq] at hB
      obtain ⟨hr, hB1, hB2, hB3⟩ := hB
      refine ⟨fun e => (by rw [hr] at e; cases e), fun i hi => ?_⟩
      rw [hr] at hi
      simp only [List.mem_cons, List.not_mem_nil, or_false] at hi
      rcases hi with rfl | rfl | rfl
      · exact opV_mono P ops C E (fun a' D' h' => ih1 _ _ _ _ hB1 h') h.1
      · exact opV_mono P ops C E (fun a' D' h' => ih2 _ _ _ _ hB2 h') h.2.1
      · exact opV_mono P ops C E (fun a' D' h' => ih3 _ _ _ _ hB3 h') h.2.2
  | s4 k1 p1 k2 p2 k3 p3 k4 p4 ih1 ih2 ih3 ih4 =>
    intro f done a D hB h
    cases f with
    | zero => simp [planB4] at hB
    | succ f =>
      simp only [planB4, Bool.and_eq_true, decide_eq_true_eq] at hB
      obtain ⟨hr, hB1, hB2, hB3, hB4⟩ := hB
      refine ⟨fun e => (by rw [hr] at e; cases e), fun i hi => ?_⟩
      rw [hr] at hi
      simp only [List.mem_cons, List.not_mem_nil, or_false] at hi
      rcases hi with rfl | rfl | rfl | rfl
      · exact opV_mono P ops C E (fun a' D' h' => ih1 _ _ _ _ hB1 h') h.1
      · exact opV_mono P ops C E (fun a' D' h' => ih2 _ _ _ _ hB2 h') h.2.1
      · exact opV_mono P ops C E (fun a' D' h' => ih3 _ _ _ _ hB3 h') h.2.2.1
      · exact opV_mono P ops C E (fun a' D' h' => ih4 _ _ _ _ hB4 h') h.2.2.2
end
theorem region_4 {P : Program} {id : Nat} {Q : Exit → Act → World → Prop} {a : Act} {w w0 : World} {l : List Oper} (L : List Part) (L1 : List Part) (sp : List Nat) (p : P4) (H : Holds w0 w L1) (hL : L.Sublist L1)
    (hm : P.follows .mixedOrders = true)
    (hsel : Region.noSelect l.toArray = true) (hB : planB4 .any l.toArray sp l.toArray.size p (Array.replicate l.toArray.size false) = true)
    {α β γ δ : Type} (F : α → β → γ → δ → List Part) (act : α → β → γ → δ → Act)
    (h : ∀ K : Act → World → Prop, (∀ g1 g2 g3 g4 wx, Holds w0 wx (F g1 g2 g3 g4) → K (act g1 g2 g3 g4) wx) → walk4 P l.toArray (fun wx => Holds w0 wx L) (fun k => sp.contains k) K p a (fun wx => Holds w0 wx L1))
    (key : ∀ g1 g2 g3 g4 wx, Holds w0 wx (F g1 g2 g3 g4) → Q .normal (act g1 g2 g3 g4) wx) : (Code.region id l.toArray true).wp P Q a w := by
  refine wp_region_any hm ?_
  exact anyV_any (Q := Q) P .any l.toArray (fun wx => Holds w0 wx L) (fun k => sp.contains k) (fun a' w' => Q .normal a' w') (fun _ _ h hb => h.call hb) (fun _ _ h => h) _ _ _ _ w.drew (fun _ _ h hb => h.call hb) (H.drew.sub hL) H.drew
    (any_walk4 P .any l.toArray (fun wx => Holds w0 wx L) (fun k => sp.contains k) (fun a' w' => Q .normal a' w') hsel sp (fun _ h => h) p _ _ a _ hB (h (fun a' w' => Q .normal a' w') key))
theorem w_s9 {P : Program} {ops : Array Oper} {C : World → Prop} {E : Nat → Bool} {K : Act → World → Prop} {p : Plan} {k : Nat} {a : Act} {D : World → Prop} {o : Oper} (R : Value → World → Prop) (hR : ∀ v, Stable (R v)) (ho : ops[k]? = some o) (hE : E k = true) (hw : Region.wanted o (yielded ops a.tmps) = true) (h1 : ∀ w, C w → D w → upon9 P C R w ((execOp a.eval o).run P w))
    (h2 : ∀ v, (∃ w, C w ∧ R v w) → walkW P ops C E K p (a.put o.dst v) (R v)) : walkW P ops C E K (.s1 k p) a D :=
  w_s R hR ho hE hw (fun w hc hd => by have := h1 w hc hd; rwa [upon9_eq] at this) h2
end Go.Proofs.Ytmapjjfefjoemaa.Rd

namespace Go.Proofs.Ytmapjjfefjoemaa
open Go.RowKit

/-- what is added on the way against the Face permutation -/
def bo9 (a b : List Int) (f : Nat → Nat) (x : Nat) : Int := a.getD x 0 + b.getD (f x) 0
def boz9 (a b : List Int) (f : Nat → Nat) (k m : Nat) : List Int := (List.range m).map fun x => if x < k then bo9 a b f x else 0
def both9 (a b : List Int) (f : Nat → Nat) (m : Nat) : List Int := (List.range m).map (bo9 a b f)
theorem boz9_zero (a b : List Int) (f : Nat → Nat) (m : Nat) : List.replicate m (0 : Int) = boz9 a b f 0 m := by
  apply List.ext_getElem
  · simp [boz9]
  · intro i h1 h2; simp [boz9]
theorem boz9_end (a b : List Int) (f : Nat → Nat) (m : Nat) : boz9 a b f m m = both9 a b f m := by
  unfold boz9 both9
  refine List.map_congr_left fun x hx => ?_
  rw [if_pos (List.mem_range.1 hx)]
theorem boz9_step (a b : List Int) (f : Nat → Nat) {k m : Nat} (h : k < m) : (boz9 a b f k m).set k (bo9 a b f k) = boz9 a b f (k + 1) m := by
  apply List.ext_getElem
  · simp [boz9]
  · intro i h1 h2
    rw [List.getElem_set]
    simp only [boz9, List.getElem_map, List.getElem_range]
    by_cases e : k = i
    · subst e; simp
    · rw [if_neg e]
      by_cases c : i < k
      · rw [if_pos c, if_pos (by omega)]
      · rw [if_neg c, if_neg (by omega)]
theorem both9_length (a b : List Int) (f : Nat → Nat) (m : Nat) : (both9 a b f m).length = m := by simp [both9]
theorem both9_mem {a b : List Int} {f : Nat → Nat} {m : Nat} (ha : ∀ x ∈ a, 0 ≤ x ∧ x ≤ 15) (hb : ∀ x ∈ b, 0 ≤ x ∧ x ≤ 15) : ∀ x ∈ both9 a b f m, 0 ≤ x ∧ x ≤ 30 := by
  intro x hx
  unfold both9 at hx
  obtain ⟨y, _, rfl⟩ := List.mem_map.1 hx
  have one : ∀ (l : List Int), (∀ x ∈ l, 0 ≤ x ∧ x ≤ 15) → ∀ i, 0 ≤ l.getD i 0 ∧ l.getD i 0 ≤ 15 := fun l hl i => by
    rw [List.getD_eq_getElem?_getD]
    rcases h : l[i]? with _ | z
    · simp
    · exact hl z (List.mem_of_getElem? h)
  have h1 := one a ha y
  have h2 := one b hb (f y)
  unfold bo9; omega
theorem getD9 {l : List Int} {i : Nat} (h : i < l.length) : l.getD i 0 = l[i] := by rw [List.getD_eq_getElem?_getD, List.getElem?_eq_getElem h, Option.getD_some]

set_option maxRecDepth 100000 in
set_option maxHeartbeats 2000000 in
theorem backFaceNumbers_any (f g : Nat → Nat) (m : Nat) (hm : m ≤ 16) (hf : ∀ x, x < m → f x < m) (va : Value) (a : List Int) (vb : Value) (b : List Int) (la : a.length = m) (lb : b.length = m) (sa : ∀ x ∈ a, 0 ≤ x ∧ x ≤ 15) (sb : ∀ x ∈ b, 0 ≤ x ∧ x ≤ 15) (w : World) (ha : RdZ w va a) (hb : RdZ w vb b) :
    Calls Try.prog 53 #[.agg (dv m f g), va, vb] w fun e w' => ∃ u, e = .returned u ∧ Holds w w' [pZ9 u (both9 a b f m)] := by
  have hn := dv_n m f g
  obtain ⟨A1, c1, rfl, _⟩ := ha.form
  obtain ⟨A2, c2, rfl, _⟩ := hb.form
  have HA := hide ha; clear ha
  have HB := hide hb; clear hb
  have SA := hide sa; clear sa
  have SB := hide sb; clear sb
  have HF := hide hf; clear hf
  obtain ⟨i0, hi, hz0, hz1, hz2⟩ := info_parts info64
  have I0 := hide (And.intro hi (And.intro hz0 (And.intro hz1 hz2))); clear hi hz0 hz1 hz2
  have HH0 := (Holds.start w).blk (dv m f g) 31 w.heap.size rfl
  have cn1 := HH0.cell 0 rfl hn
  have cl1 := HH0.lt 0 rfl
  have cd1 := HH0.cells 0 rfl
  go_enter Try.func53, Try.ntmps53
  go_wp2_with (refine makeH (P := Try.prog) rfl 25 _ _ rfl 2 i0 (.int .i64 0) 8 Try.underlying25 I0.out.1 I0.out.2.1 I0.out.2.2.1 I0.out.2.2.2 rfl m .i64 .i64 rfl rfl (by omega) (by decide) HH0 ?_)
  intro w2 H2
  clear HH0 cn1 cl1 cd1
  have H3 : Holds w w2 [pRow (.slice (some ⟨w.heap.size + 1, 0, none⟩) m m) 2 1 m (zc (boz9 a b f 0 m)), pBlk w.heap.size (dv m f g) 31] := by
    rw [← boz9_zero]
    unfold zc; rw [List.map_replicate]
    first | exact H2 | (simpa using H2)
  clear H2
  go_wp2
  go_loopw [14] (fun t wr => ∃ k : Nat, k ≤ m ∧ t = .int .i64 k ∧ Holds w wr [pRow (.slice (some ⟨w.heap.size + 1, 0, none⟩) m m) 2 1 m (zc (boz9 a b f k m)), pBlk w.heap.size (dv m f g) 31]) (fun t _ => m - (intOf t).toNat)
  case atStart => exact ⟨0, Nat.zero_le _, rfl, H3⟩
  case round =>
    clear H3
    obtain ⟨k, hk, rfl, hH⟩ := hrel
    by_cases hlt : k < m
    · have hki : (k : Int) < m := by omega
      have hk16 : k < 16 := by omega
      have hk16i : (k : Int) < 16 := by omega
      have hfk := HF.out k hlt
      obtain ⟨p1, rfl, _, d1⟩ := (HA.out.below hH.low (Nat.le_refl _)).at (show k < a.length by omega)
      obtain ⟨p2, rfl, _, d2⟩ := (HB.out.below hH.low (Nat.le_refl _)).at (show f k < b.length by omega)
      have hst := boz9_step a b f hlt
      have hv : bo9 a b f k = a[k] + b[f k] := by unfold bo9; rw [getD9, getD9]
      rw [hv] at hst
      have b1 := SA.out _ (List.getElem_mem (show k < a.length by omega))
      have b2 := SB.out _ (List.getElem_mem (show f k < b.length by omega))
      have D1 : Hid (∀ wx, Below w.heap.size w wx → wx.cell? (p1.add k) = some (.int .i64 (a[k]'(by omega)))) := hide fun wx h => by
        obtain ⟨q, e, _, d⟩ := (HA.out.below h (Nat.le_refl _)).at (show k < a.length by omega)
        injection e with e; subst e; exact d
      have D2 : Hid (∀ wx, Below w.heap.size w wx → wx.cell? (p2.add (f k)) = some (.int .i64 (b[f k]'(by omega)))) := hide fun wx h => by
        obtain ⟨q, e, _, d⟩ := (HB.out.below h (Nat.le_refl _)).at (show f k < b.length by omega)
        injection e with e; subst e; exact d
      generalize a[k] = x1 at *
      generalize b[f k] = x2 at *
      have wv : wrap64 (x1 + x2) = x1 + x2 := wr64 (by omega) (by omega)
      have wv2 : IntKind.i64.wrap (x1 + x2) = x1 + x2 := wr64k (by omega) (by omega)
      have hold : (boz9 a b f k m)[k]? = some 0 := by unfold boz9; simp [hlt]
      have ZF := hide (fun (h : k < 16) => dv_b (m : Int) f g h)
      have ka : (k : Int) < a.length := by omega
      have kb : ((f k : Nat) : Int) < b.length := by omega
      have HST := hide hst; clear hst hv
      have HOLD := hide hold; clear hold
      have hfi : ((f k : Nat) : Int) < m := by omega
      have zf := ZF.out hk16
      generalize f k = y at *
      go_wp2
      clear d1 d2
      have hQ := hH
      refine Rd.region_W (w0 := w) [pBlk w.heap.size (dv m f g) 31] ([pRow (.slice (some ⟨w.heap.size + 1, 0, none⟩) m m) 2 1 m (zc (boz9 a b f k m)), pBlk w.heap.size (dv m f g) 31]) [15] (.q 0 <| .q 1 <| .q 2 <| .q 3 <| .q 4 <| .q 5 <| .q 6 <| .q 7 <| .q 8 <| .q 9 <| .q 10 <| .q 11 <| .q 12 <| .q 13 <| .q 14 <| .s1 15 .fin) hH (.cons _ (.refl _)) (by kernel_rfl) (by kernel_rfl) (by kernel_rfl) ?_
      iterate 15
        apply Rd.w_q
        · simp only [List.getElem?_toArray, List.getElem?_cons_zero, List.getElem?_cons_succ]; exact rfl
        · rfl
        · go_simp
        · intro wx hx
          have q0 := hx.cell 0 rfl zf
          have q1 := D1.out wx hx.low
          have q2 := D2.out wx hx.low
          unfold atG
          go_simp
          simp only [uponG]
          exact ⟨by trivial, rfl⟩
      refine Rd.w_s9 (fun u wx => u = undef ∧ Holds w wx [pRow (.slice (some ⟨w.heap.size + 1, 0, none⟩) m m) 2 1 m (zc (boz9 a b f (k + 1) m)), pBlk w.heap.size (dv m f g) 31]) (fun _ _ _ h hb => ⟨h.1, h.2.call hb⟩) (by simp only [List.getElem?_toArray, List.getElem?_cons_zero, List.getElem?_cons_succ]; exact rfl) rfl (by go_simp) (fun wx hx hD => ?_) ?_
      · have hD2 := hD
        obtain ⟨z0, z1⟩ := hD2.rowCell9 0 rfl (zc_at9 HOLD.out)
        have hP := hD2.put 0 rfl k (.int .i64 (x1 + x2))
        simp only [List.set_cons_zero] at hP
        rw [zc_set9, HST.out] at hP
        have HQ := hide hP
        clear hP hD2 hD hx
        go_simp
        simp only [Rd.upon9_eq, Rd.uponE]
        exact ⟨HQ.out.sub (.cons _ (.refl _)), by trivial, HQ.out⟩
      rintro v ⟨_, _, rfl, _⟩
      refine Rd.w_fin ?_
      rintro wz - hz
      have HQ := hide hz.2
      clear hz hH
      go_simp
      go_wp2
      go_roundw
      case rel => exact ⟨k + 1, by omega, by go_num, HQ.out⟩
      case measure => simp [intOf]; omega
    · obtain rfl : m = k := by omega
      have HQ := hide (show Holds w wr [pZ9 (.slice (some ⟨w.heap.size + 1, 0, none⟩) m m) (both9 a b f m)] by
        have h := hH.sub (L' := [pRow (.slice (some ⟨w.heap.size + 1, 0, none⟩) m m) 2 1 m (zc (boz9 a b f m m))]) (.cons_cons _ (List.nil_sublist _))
        rw [boz9_end] at h
        unfold pZ9
        rw [both9_length]
        exact h)
      clear hlt hk hH
      go_wp2
      go_ret
      exact ⟨_, rfl, HQ.out⟩
end Go.Proofs.Ytmapjjfefjoemaa

namespace Go.Proofs.Ytmapjjfefjoemaa
open Go.RowKit

/-- the sums of the cycles, modulo k -/
def ml9 (l : List Int) (p : Nat → Nat) (m : Nat) (k : Int) : List Int := (cycs p m).map fun c => sm9 l c % k
theorem rd_lit9 {w : World} {g : Nat} {x : Int} {T : TypeId} (h : w.heap[g]? = some (.cells #[.int .i64 x] T (0, 0))) : RdZ w (.slice (some ⟨g, 0, none⟩) 1 1) [x] := by
  refine ⟨some ⟨g, 0, none⟩, 1, rfl, by simp, fun i y hy => ?_⟩
  have hi : i = 0 := by
    rcases i with _ | i
    · rfl
    · simp at hy
  subst hi
  simp at hy
  subst hy
  refine ⟨_, rfl, (Array.getElem?_eq_some_iff.1 h).1, ?_⟩
  rw [show ((⟨g, 0, none⟩ : Addr).add 0) = ⟨g, 0, none⟩ by simp [Addr.add], cell_of_cells, cellsOf_heap h]
  rfl
theorem sm9_pos {l : List Int} {K : Int} (hK : 0 ≤ K) (hs : ∀ x ∈ l, 0 ≤ x ∧ x ≤ K) (c : List Nat) : 0 ≤ sm9 l c ∧ sm9 l c ≤ K * c.length := by
  refine ⟨?_, (sm9_bound hK (fun x hx => by have := hs x hx; omega) c).2⟩
  induction c with
  | nil => simp [sm9]
  | cons x c ih =>
    have one : 0 ≤ l.getD x 0 := by
      rw [List.getD_eq_getElem?_getD]
      rcases h : l[x]? with _ | y
      · simp
      · exact (hs y (List.mem_of_getElem? h)).1
    have : sm9 l (x :: c) = l.getD x 0 + sm9 l c := rfl
    omega
set_option maxRecDepth 100000 in
set_option maxHeartbeats 2000000 in
theorem cycleSums_any (p : Nat → Nat) (m : Nat) (hp : PermN p m) (k : Int) (hk : 1 ≤ k ∧ k ≤ 16) (v : Value) (l : List Int) (hl : l.length = m) (hs : ∀ x ∈ l, 0 ≤ x ∧ x ≤ 30) (w : World) (hv : RdZ w v l) :
    Calls Try.prog 55 #[.agg (av p), .int .i64 k, v] w fun e w' => ∃ u, e = .returned u ∧ Holds w w' [pZ9 u (ml9 l p m k)] := by
  have CL := hide fun w => cycleList_any p m hp w
  have CB := hide fun c (h1 : c ∈ cycs p m) x (h2 : x ∈ c) => cyc_lt9 hp h1 h2
  have CN := hide fun c (h1 : c ∈ cycs p m) => cyc_len9 hp h1
  have hk16 := cycs_le hp
  have hm := hp.2.1
  have hML : ml9 l p m k = (cycs p m).map fun c => sm9 l c % k := rfl
  rw [hML]
  clear hML hp
  generalize cycs p m = cs at *
  have SP := hide fun c => sm9_pos (K := 30) (by omega) hs c
  have HS : Hid (∀ x ∈ l, -100000 ≤ x ∧ x ≤ 100000) := hide fun x hx => by have := hs x hx; omega
  clear hs
  have HL := hide hl
  subst hl
  have HV := hide hv
  obtain ⟨A0, c0, rfl, _⟩ := hv.form
  clear hv
  have HH0 := (Holds.start w).blk (av p) 29 w.heap.size rfl
  have cd0 := HH0.cells 0 rfl
  have lm : ((l.length : Nat) : Int) ≤ 16 := by omega
  go_enter Try.func55, Try.ntmps55
  go_wp2_with fail
  refine (CL.out _).mono ?_
  rintro e w1 ⟨v1, rfl, hb, ho⟩
  obtain ⟨A, c, vs, rfl, hvv⟩ := own2_form ho
  have HLV := hide hvv.len
  have H1 := (HH0.joinL (Holds.ofOwn2 hb hvv)).tail
  clear hb ho hvv HH0 cd0
  have H2 : Holds w w1 (pZ9 (.slice none 0 0) ((cs.take 0).map fun c => sm9 l c % k) :: pVals (.slice A cs.length c) vs :: rowsP vs cs) := H1.nilRow 2 1
  clear H1
  go_wp2
  go_loopw [7, 15] (fun q t wr => ∃ i : Nat, i ≤ cs.length ∧ t = .int .i64 i ∧ Holds w wr (pZ9 q ((cs.take i).map fun c => sm9 l c % k) :: pVals (.slice A cs.length c) vs :: rowsP vs cs)) (fun _ t _ => cs.length - (intOf t).toNat)
  case atStart => exact ⟨0, Nat.zero_le _, rfl, H2⟩
  case round =>
    clear H2
    obtain ⟨i, hi, rfl, hH⟩ := hrel
    by_cases hil : i < cs.length
    · have hil' : (i : Int) < cs.length := by omega
      obtain ⟨g0, d0, A', c', e0, hvi, x1, hpart⟩ := hH.rowAt HLV.out 1 rfl (fun _ => rfl) hil
      injection e0 with e0 e0a e0b
      subst e0
      clear e0a e0b hvi
      have hmem := List.getElem_mem hil
      have hci := CN.out _ hmem
      have RU := hide (rd_nums (hH.own1 (i + (1 + 1)) hpart) (by omega))
      have SC := hide fun (w : World) => sumAt_any (.slice A0 l.length c0) (.slice A' cs[i].length c') l cs[i] HS.out (by omega) (fun x hx => CB.out _ hmem x hx) w
      have RV := hide (HV.out.below hH.low (Nat.le_refl _))
      obtain ⟨hs0, hs1⟩ := SP.out cs[i]
      have hst : (cs.take (i + 1)).map (fun c => sm9 l c % k) = (cs.take i).map (fun c => sm9 l c % k) ++ [sm9 l cs[i] % k] := by rw [List.take_succ_eq_append_getElem hil, List.map_append]; rfl
      have HST := hide hst; clear hst
      clear hpart hmem
      have HBL : Hid (((cs.take i).map (fun c => sm9 l c % k)).length + ([sm9 l cs[i] % k] : List Int).length ≤ 100000) := hide (by simp; omega)
      generalize (cs.take i).map (fun c => sm9 l c % k) = old at *
      generalize cs[i] = ci at *
      have hsk : sm9 l ci ≤ 480 := by
        have : (ci.length : Int) ≤ 16 := by omega
        omega
      generalize sm9 l ci = s at *
      have t0 := Int.emod_nonneg s (show k ≠ 0 by omega)
      have t1 := Int.emod_lt_of_pos s (show 0 < k by omega)
      have wt : wrap64 (s % k) = s % k := wr64 (by omega) (by omega)
      have wt2 : IntKind.i64.wrap (s % k) = s % k := wr64k (by omega) (by omega)
      have k0 : ¬ (k = 0) := by omega
      go_wp2_with fail
      refine (SC.out _ RV.out RU.out).mono ?_
      rintro e w2 ⟨rfl, rfl⟩
      go_wp2_with (at_builtin; go_must (refine appZ9 (hH.alloc _) 0 (l := old) rfl (u := .slice (some ⟨wr.heap.size, 0, none⟩) 1 1) (m := [s % k]) ?_ HBL.out rfl _ _ rfl rfl rfl ?_))
      · exact rd_lit9 (heap_at _ _ _ rfl)
      intro v' w' h1
      have h2 : Holds w w' (pZ9 v' (old ++ [s % k]) :: pVals (.slice (some ⟨g0, 0, none⟩) cs.length c) vs :: rowsP vs cs) := h1
      rw [← HST.out] at h2
      have HQ := hide h2
      clear hH h1 h2 x1 t0 t1
      go_wp2
      go_roundw
      case rel => exact ⟨i + 1, by omega, by go_num, HQ.out⟩
      case measure => simp [intOf]; omega
    · obtain rfl : i = cs.length := by omega
      rw [List.take_length] at hH
      have HQ := hide (hH.sub (L' := [_]) (.cons_cons _ (List.nil_sublist _)))
      clear hil hi hH
      go_wp2
      go_ret
      exact ⟨_, rfl, HQ.out⟩
end Go.Proofs.Ytmapjjfefjoemaa

namespace Go.Proofs.Ytmapjjfefjoemaa
open Go.RowKit

/-- what is told of the darts that the first k darts are led to -/
def fup9 (b : Nat → Nat) (m : Nat) (e : Nat → Nat) (k : Nat) : Nat → Nat := fun y => if y < m ∧ b y < k then e y else 0
theorem lk9_two (e0 e1 : Nat → Nat) (y a b : Nat) : fset (fset (lk9 e0 e1) (y * 2) a) (y * 2 + 1) b = lk9 (fset e0 y a) (fset e1 y b) := by
  funext i
  simp only [fset, lk9]
  by_cases h1 : i = y * 2 + 1
  · subst h1
    rw [if_pos rfl, if_neg (by omega), if_pos (by omega)]
  · rw [if_neg h1]
    by_cases h0 : i = y * 2
    · subst h0
      rw [if_pos rfl, if_pos (by omega), if_pos (by omega)]
    · rw [if_neg h0]
      by_cases h2 : i % 2 = 0
      · rw [if_pos h2, if_pos h2, if_neg (by omega)]
      · rw [if_neg h2, if_neg h2, if_neg (by omega)]
theorem fup9_step {f b : Nat → Nat} {m k : Nat} (hb : ∀ x, x < m → b (f x) = x) (hs : ∀ y, y < m → f (b y) = y) (hf : ∀ x, x < m → f x < m) (e : Nat → Nat) (hk : k < m) : fset (fup9 b m e k) (f k) (e (f k)) = fup9 b m e (k + 1) := by
  funext y
  simp only [fset, fup9]
  by_cases h : y = f k
  · subst h; rw [if_pos rfl, if_pos ⟨hf k hk, by rw [hb k hk]; omega⟩]
  · rw [if_neg h]
    by_cases c : y < m ∧ b y < k
    · rw [if_pos c, if_pos ⟨c.1, by omega⟩]
    · rw [if_neg c, if_neg]
      rintro ⟨c1, c2⟩
      have : b y = k := by
        have : ¬ b y < k := fun c3 => c ⟨c1, c3⟩
        omega
      exact h (by rw [← this, hs y c1])
/-- the faces of the edges -/
def fb9 (f g : Nat → Nat) (m : Nat) : Nat → Nat := upto (whichF (faceF f g m) m) m
def fw9 (f g : Nat → Nat) (m : Nat) : Nat → Nat := upto (fun y => whichF (faceF f g m) m (backF f m y)) m
theorem fup9_end {b : Nat → Nat} {m : Nat} (hb : ∀ y, y < m → b y < m) (e : Nat → Nat) : fup9 b m e m = upto e m := by
  funext y
  unfold fup9 upto
  by_cases h : y < m
  · rw [if_pos ⟨h, hb y h⟩, if_pos h]
  · rw [if_neg (fun c => h c.1), if_neg h]
theorem backF_facts {f : Nat → Nat} {m : Nat} (h : PermN f m) : (∀ x, x < m → backF f m (f x) = x) ∧ (∀ y, y < m → f (backF f m y) = y) ∧ ∀ y, y < m → backF f m y < m := by
  have hp := backF_perm h
  have h1 : ∀ x, x < m → backF f m (f x) = x := fun x hx => backF_at h.2.2.1 hx
  refine ⟨h1, fun y hy => ?_, fun y hy => hp.2.2.1.1 y hy⟩
  have hb := hp.2.2.1.1 y hy
  exact hp.2.2.1.2 _ _ (h.2.2.1.1 _ hb) hy (h1 _ hb)
theorem fl9_lt {f g : Nat → Nat} {m : Nat} (hd : DesN f g m) (x : Nat) (_ : x < 16) : fb9 f g m x < 32 ∧ fw9 f g m x < 32 := by
  have hF := hd.face
  unfold fb9 fw9 upto
  constructor
  · split
    · rename_i h; have := which_lt9 hF h; omega
    · omega
  · split
    · rename_i h; have := which_lt9 hF ((backF_facts hd.black).2.2 x h); show whichF (faceF f g m) m (backF f m x) < 32; omega
    · omega
set_option maxRecDepth 100000 in
set_option maxHeartbeats 2000000 in
theorem faceLinks_any (f g : Nat → Nat) (m : Nat) (hd : DesN f g m) (w : World) :
    Calls Try.prog 111 #[.agg (dv m f g)] w fun e w' => e = .returned (.agg (nv9 (lk9 (fb9 f g m) (fw9 f g m)))) ∧ Below w.heap.size w w' := by
  have hF := hd.face
  have CF := hide fun w => face_any f g m hd.le hd.bf.1 hd.bg.1 w
  have CB := hide fun w => cycleNumbers_any (faceF f g m) m hF w
  have LB := hide fun x (hx : x < m) => which_lt9 hF hx
  obtain ⟨k1, k2, k3⟩ := backF_facts hd.black
  have hm := hd.le
  have hn := dv_n m f g
  have HFL := hide hd.bf.1
  have HST := hide fun (e : Nat → Nat) (k : Nat) (hk : k < m) => fup9_step k1 k2 hd.bf.1 e hk
  have HB1 := hide k1
  unfold fb9 fw9
  have HEND := hide fun e => fup9_end k3 e
  rw [← HEND.out, ← HEND.out]
  clear hd hF k1 k2 k3 HEND
  generalize whichF (faceF f g m) m = hb at *
  generalize faceF f g m = Fc at *
  generalize backF f m = b at *
  have HH0 := (((Holds.start w).blk (dv m f g) 31 w.heap.size rfl).blk (nv9 fun _ => 0) 118 (w.heap.size + 1) (by simp)).blk (nv9 fun _ => 0) 118 (w.heap.size + 1 + 1) (by simp)
  go_enter Try.func111, Try.ntmps111
  go_wp2
  rw [nv9_zero] at HH0
  rw [← nv9_zero] at HH0 ⊢
  apply Rd.region_R1 (w0 := w) [pBlk (w.heap.size + 1 + 1) (nv9 fun _ => 0) 118, pBlk (w.heap.size + 1) (nv9 fun _ => 0) 118, pBlk w.heap.size (dv m f g) 31] [pBlk (w.heap.size + 1 + 1) (nv9 fun _ => 0) 118, pBlk (w.heap.size + 1) (nv9 fun _ => 0) 118, pBlk w.heap.size (dv m f g) 31] [5, 6] (.q 0 <| .q 1 <| .q 2 <| .q 3 <| .q 4 <| .s1 5 <| .s1 6 .fin) HH0 (.refl _) (by kernel_rfl) (by kernel_rfl) (by kernel_rfl) (F := fun (g4 : Nat) => pBlk g4 (zv hb) 112 :: [pBlk (w.heap.size + 1 + 1) (nv9 fun _ => 0) 118, pBlk (w.heap.size + 1) (nv9 fun _ => 0) 118, pBlk w.heap.size (dv m f g) 31])
  case h =>
    intro K key
    iterate 1
      apply Rd.v_q
      · simp only [List.getElem?_toArray, List.getElem?_cons_zero, List.getElem?_cons_succ]; exact rfl
      · rfl
      · go_simp
      · intro wx hx
        have q1 := hx.cells 2 rfl
        have q2 := hx.cell 2 rfl hn
        unfold atG
        go_simp
        simp only [uponG]
        exact ⟨by trivial, rfl⟩
    iterate 1
      apply Rd.v_q
      · simp only [List.getElem?_toArray, List.getElem?_cons_zero, List.getElem?_cons_succ]; exact rfl
      · rfl
      · go_simp
      · intro wx hx
        have q1 := hx.cells 2 rfl
        have q2 := hx.cell 2 rfl hn
        unfold atG
        go_simp
        simp only [uponG]
        exact ⟨by trivial, CF.out wx⟩
    iterate 2
      apply Rd.v_q
      · simp only [List.getElem?_toArray, List.getElem?_cons_zero, List.getElem?_cons_succ]; exact rfl
      · rfl
      · go_simp
      · intro wx hx
        have q1 := hx.cells 2 rfl
        have q2 := hx.cell 2 rfl hn
        unfold atG
        go_simp
        simp only [uponG]
        exact ⟨by trivial, rfl⟩
    iterate 1
      apply Rd.v_q
      · simp only [List.getElem?_toArray, List.getElem?_cons_zero, List.getElem?_cons_succ]; exact rfl
      · rfl
      · go_simp
      · intro wx hx
        have q1 := hx.cells 2 rfl
        have q2 := hx.cell 2 rfl hn
        unfold atG
        go_simp
        simp only [uponG]
        exact ⟨by trivial, CB.out wx⟩
    refine Rd.v_box (zv fun _ => 0) 112 (by simp only [List.getElem?_toArray, List.getElem?_cons_zero, List.getElem?_cons_succ]; exact rfl) rfl (by go_simp) (fun wx hx hD => by rw [zv_zero]; go_simp) fun g4 => ?_
    refine Rd.v_put 0 g4 (zv fun _ => 0) (zv hb) 112 rfl (.cons _ (.refl _)) (by simp only [List.getElem?_toArray, List.getElem?_cons_zero, List.getElem?_cons_succ]; exact rfl) rfl (by go_simp) (fun wx hx hD => ?_) ?_
    · have rr := hD.rowOk (n := 16) 0 rfl (zv_size _)
      go_simp
    rintro wz - hz
    go_simp
    exact key _ _ hz
  intro g4 w2 H2
  clear HH0
  have c2 := H2.cell 3 rfl hn
  have HZ : Hid (nv9 (fun _ => 0) = nv9 (lk9 (fup9 b m hb 0) (fup9 b m (fun y => hb (b y)) 0))) := hide (by
    congr 1; funext i; unfold lk9 fup9; simp)
  go_wp2
  clear c2
  go_loopw [14] (fun t wr => ∃ k : Nat, k ≤ m ∧ t = .int .i64 k ∧ Holds w wr [pBlk g4 (zv hb) 112, pBlk (w.heap.size + 1 + 1) (nv9 (lk9 (fup9 b m hb k) (fup9 b m (fun y => hb (b y)) k))) 118, pBlk (w.heap.size + 1) (nv9 fun _ => 0) 118, pBlk w.heap.size (dv m f g) 31]) (fun t _ => m - (intOf t).toNat)
  case atStart => exact ⟨0, Nat.zero_le _, rfl, by rw [← HZ.out]; exact H2⟩
  case round =>
    clear H2 HZ
    obtain ⟨k, hk, rfl, hH⟩ := hrel
    by_cases hlt : k < m
    · have hki : (k : Int) < m := by omega
      have hk16 : k < 16 := by omega
      have hk16i : (k : Int) < 16 := by omega
      have hfk := HFL.out k hlt
      have hf16 : f k < 16 := by omega
      have hf16i : ((f k : Nat) : Int) < 16 := by omega
      have s0 := HST.out hb k hlt
      have s1 := HST.out (fun y => hb (b y)) k hlt
      simp only [HB1.out k hlt] at s1
      have b0 := hH.cell 3 rfl (dv_b (m : Int) f g hk16)
      have HSS := hide (And.intro s0 s1); clear s0 s1
      generalize f k = y at *
      go_wp2
      clear b0
      refine region_tail (fun wx => Holds w wx _) 8 (by kernel_rfl) (by kernel_rfl) hH.drew ?_
      simp only [List.take_succ_cons, List.take_zero, List.drop_succ_cons, List.drop_zero]
      iterate 8
        apply q_step
        · go_simp
        · intro wx hx
          have q1 := hx.cell 0 rfl (zv_get hb hk16)
          have q2 := hx.cell 0 rfl (zv_get hb hf16)
          go_simp
          try exact rfl
      refine wpQuiet_nil ?_
      intro w4 H4
      have c0 := H4.cell 1 rfl (nv9_get _ (show y * 2 < 32 by omega))
      have c1 := H4.cell 1 rfl (nv9_get _ (show y * 2 + 1 < 32 by omega))
      have f0 := H4.frozen 1 rfl (y * 2)
      have f1 := H4.frozen 1 rfl (y * 2 + 1)
      have H5 := H4.set 1 rfl (y * 2) (.int .i64 (hb y : Nat))
      have H6 := H5.set 1 rfl (y * 2 + 1) (.int .i64 (hb k : Nat))
      simp only [List.set_cons_succ, List.set_cons_zero] at H6
      rw [nv9_set, nv9_set, lk9_two, HSS.out.1, HSS.out.2] at H6
      have HQ := hide H6; clear H4 H5 H6
      go_wp2
      go_roundw
      case rel => exact ⟨k + 1, by omega, by go_num, HQ.out⟩
      case measure => simp [intOf]; omega
    · obtain rfl : m = k := by omega
      have cc := hH.cells 1 rfl
      have rr := hH.rowOk 2 rfl (nv9_size _)
      have HQ := hide hH
      clear hk hlt hH
      go_wp2
      have H2 := HQ.out.setRow 2 rfl (nv9 (lk9 (fup9 b m hb m) (fup9 b m (fun y => hb (b y)) m)))
      exact res_agg (p := 2) (g := (w.heap.size + 1)) aggL9 (nv9_size _) rfl rfl rfl (H2.at 2 rfl) ⟨rfl, H2.low⟩
end Go.Proofs.Ytmapjjfefjoemaa

namespace Go.Proofs.Ytmapjjfefjoemaa
open Go.RowKit

/-- the rows of a list of lists of whole numbers, a part each -/
def rowsZ9 : List Value → List (List Int) → List Part
  | v :: vs, l :: ls => pZ9 v l :: rowsZ9 vs ls
  | _, _ => []
theorem rowsZ9_snoc {vs : List Value} {ls : List (List Int)} (hl : vs.length = ls.length) (u : Value) (l : List Int) : rowsZ9 (vs ++ [u]) (ls ++ [l]) = rowsZ9 vs ls ++ [pZ9 u l] := by
  induction vs generalizing ls with
  | nil => cases ls with
    | nil => rfl
    | cons => simp at hl
  | cons v vs ih => cases ls with
    | nil => simp at hl
    | cons m ls => simp only [List.cons_append, rowsZ9]; rw [ih (by simpa using hl)]
theorem rowsZ9_at {vs : List Value} {ls : List (List Int)} {i : Nat} {u : Value} {l : List Int} (h1 : vs[i]? = some u) (h2 : ls[i]? = some l) : (rowsZ9 vs ls)[i]? = some (pZ9 u l) := by
  induction vs generalizing ls i with
  | nil => simp at h1
  | cons v vs ih => cases ls with
    | nil => simp at h2
    | cons m ls =>
      cases i with
      | zero => simp at h1 h2; subst h1 h2; rfl
      | succ i => simp at h1 h2; simp only [rowsZ9, List.getElem?_cons_succ]; exact ih h1 h2
theorem Holds.rowEndZ9 {w0 w : World} {u : Value} {l : List Int} {A : List Part} {vs : List Value} {ls : List (List Int)} (hl : vs.length = ls.length) (h : Holds w0 w (pZ9 u l :: (A ++ rowsZ9 vs ls))) : Holds w0 w (A ++ rowsZ9 (vs ++ [u]) (ls ++ [l])) := by
  refine h.perm ?_
  rw [rowsZ9_snoc hl, ← List.append_assoc]
  exact (List.perm_append_comm (l₁ := [pZ9 u l]) (l₂ := A ++ rowsZ9 vs ls))
theorem Holds.own2z9 {w0 w : World} {v : Value} {vs : List Value} {ls : List (List Int)} (hl : vs.length = ls.length) (h' : Holds w0 w (pVals v vs :: rowsZ9 vs ls)) : Own2z w0.heap.size w v vs ls := by
  have at_ : ∀ (i : Nat) (u : Value) (l : List Int), vs[i]? = some u → ls[i]? = some l → (pVals v vs :: rowsZ9 vs ls)[i + 1]? = some (pZ9 u l) := fun i u l h1 h2 => by rw [List.getElem?_cons_succ]; exact rowsZ9_at h1 h2
  refine ⟨hl, h'.row 0 rfl, fun i u l h1 h2 => h'.ownZ9 (i + 1) (at_ i u l h1 h2), fun i j u u' hij h1 h2 => ?_⟩
  rcases hb : u.ownBlock with _ | g
  · exact .inl rfl
  · refine .inr fun e => ?_
    have li : i < ls.length := by rw [← hl]; exact (List.getElem?_eq_some_iff.1 h1).1
    have lj : j < ls.length := by rw [← hl]; exact (List.getElem?_eq_some_iff.1 h2).1
    exact h'.apart (i := i + 1) (j := j + 1) (by omega) (at_ i u _ h1 (List.getElem?_eq_getElem li)) (at_ j u' _ h2 (List.getElem?_eq_getElem lj)) (g := g) hb e.symm
theorem valsZ_one9 {w0 w : World} {u : Value} {l : List Int} {L : List Part} (i : Nat) (h : Holds w0 w L) (hi : L[i]? = some (pZ9 u l)) : u.oneCell' = true := by
  obtain ⟨A, c, e⟩ := own_slice (h.row i hi)
  rw [e]; rfl
/-- the left edges, their cycles -/
def lef9 (f g : Nat → Nat) (m : Nat) : List Nat := (spl9 (fb9 f g m) (fw9 f g m) (tre9 f g m).2).2
def cyl9 (f g : Nat → Nat) (m x : Nat) : List Int := (List.range m).map (cyo9 (vb9 f m) (vw9 g m) (tre9 f g m).1 x)
def hbs9 (f g : Nat → Nat) (m : Nat) : List (List Int) := (lef9 f g m).map (cyl9 f g m)
theorem spl9_disj (e0 e1 : Nat → Nat) {l : List Nat} (hn : l.Nodup) : ∀ x ∈ (spl9 e0 e1 l).2, x ∉ (spl9 e0 e1 l).1 := by
  induction l using snocInd9 with
  | h0 => intro x hx; simp [spl9] at hx
  | hs l y ih =>
    have hn' := List.nodup_append.1 hn
    have ih' := ih hn'.1
    have hy : y ∉ l := fun h => hn'.2.2 y h y (by simp) rfl
    have hm := spl9_mem e0 e1 l
    rw [spl9_snoc]; unfold spst9
    split
    · intro x hx
      rcases List.mem_append.1 hx with h | h
      · exact ih' x h
      · obtain rfl : x = y := by simpa using h
        exact fun h2 => hy ((hm x).2 (.inl h2))
    · intro x hx h2
      rcases List.mem_append.1 h2 with h | h
      · exact ih' x hx h
      · obtain rfl : x = y := by simpa using h
        exact hy ((hm x).2 (.inr hx))
theorem lef9_facts {f g : Nat → Nat} {m : Nat} : (∀ x ∈ lef9 f g m, x < m ∧ x ∉ (tre9 f g m).1) ∧ (lef9 f g m).length ≤ m := by
  have h1 : ∀ x ∈ lef9 f g m, x ∈ (tre9 f g m).2 := fun x hx => (spl9_mem _ _ _ x).2 (.inr hx)
  refine ⟨fun x hx => ⟨List.mem_range.1 ((spl9_mem _ _ (List.range m) x).2 (.inr (h1 x hx))), spl9_disj _ _ List.nodup_range x (h1 x hx)⟩, ?_⟩
  have := spl9_len (fb9 f g m) (fw9 f g m) (tre9 f g m).2
  have := tre9_len f g m
  unfold lef9; omega
set_option maxRecDepth 100000 in
set_option maxHeartbeats 2000000 in
theorem homologyBasis_any (f g : Nat → Nat) (m : Nat) (hd : DesN f g m) (w : World) :
    Calls Try.prog 83 #[.agg (dv m f g)] w fun e w' => ∃ v vs, e = .returned v ∧ vs.length = (hbs9 f g m).length ∧ Holds w w' (pVals v vs :: rowsZ9 vs (hbs9 f g m)) := by
  have CS := hide fun w => splitByTree_any f g m hd w
  have CF := hide fun w => faceLinks_any f g m hd w
  have hm := hd.le
  have htl := tre9_len f g m
  obtain ⟨hlf, hll⟩ := lef9_facts (f := f) (g := g) (m := m)
  have hoth : ∀ x ∈ (tre9 f g m).2, x < 16 := fun x hx => by
    have := List.mem_range.1 ((spl9_mem (vb9 f m) (vw9 g m) (List.range m) x).2 (.inr hx)); omega
  have CP := hide fun v w hv => split_any (fb9 f g m) (fw9 f g m) (fl9_lt hd) v (tre9 f g m).2 hoth (by omega) w hv
  have CO := hide fun (x : Nat) (hx : x ∈ lef9 f g m) A c hcap w hv => cycleOfEdge_any f g m hd x (hlf x hx).1 A c (hlf x hx).2 hcap w hv
  have hHB : hbs9 f g m = (lef9 f g m).map (cyl9 f g m) := rfl
  have hlef : lef9 f g m = (spl9 (fb9 f g m) (fw9 f g m) (tre9 f g m).2).2 := rfl
  have hcy : ∀ x, (List.range m).map (cyo9 (vb9 f m) (vw9 g m) (tre9 f g m).1 x) = cyl9 f g m x := fun x => rfl
  have hlm : ∀ x ∈ lef9 f g m, x < m := fun x hx => (hlf x hx).1
  rw [hHB]
  simp only [hcy] at CO
  generalize cyl9 f g m = Y at *
  rw [← hlef] at CP
  generalize spl9 (fb9 f g m) (fw9 f g m) (tre9 f g m).2 = S at *
  generalize lef9 f g m = le at *
  generalize tre9 f g m = T at *
  generalize lk9 (fb9 f g m) (fw9 f g m) = E at *
  have HLM := hide hlm
  clear hd hlf hoth hHB hlef hcy hlm
  have HLL : Hid (le.length ≤ 16) := hide (by omega)
  have HH0 := (Holds.start w).blk (dv m f g) 31 w.heap.size rfl
  go_enter Try.func83, Try.ntmps83
  go_wp2_with fail
  refine (CS.out _).mono ?_
  rintro e w1 ⟨v1, v2, rfl, hk⟩
  have H1 := (HH0.joinL hk).perm List.perm_append_comm
  clear hk HH0
  have hform : ∃ A c, v1 = .slice A T.1.length c ∧ T.1.length ≤ c := by
    rcases (H1.row 0 rfl).2 with ⟨rfl, e⟩ | ⟨g, cap, cur, rfl, _, _, h1, _⟩
    · exact ⟨none, 0, by rw [e], by omega⟩
    · exact ⟨_, cap, rfl, h1⟩
  obtain ⟨A1, c1, rfl, hc1⟩ := hform
  have HC1 := hide hc1; clear hc1
  have cd1 := H1.cells 2 rfl
  go_wp2_with fail
  refine (CF.out _).mono ?_
  rintro e w2 ⟨rfl, hb⟩
  have H2 := H1.call hb
  clear hb H1 cd1
  have RO := hide (rd_nums (H2.own1 1 rfl) (by omega))
  go_wp2_with fail
  refine (CP.out _ _ RO.out).mono ?_
  rintro e w3 ⟨v3, v4, rfl, hk⟩
  have H3 := H2.joinL hk
  clear hk H2 RO
  have H4 : Holds w w3 [pVals (.slice none 0 0) [], pInts (.slice A1 T.1.length c1) T.1, pInts v4 le, pBlk w.heap.size (dv m f g) 31] := by
    have h := (H3.sub (L' := [pInts (.slice A1 T.1.length c1) T.1, pBlk w.heap.size (dv m f g) 31, pInts v4 le]) (.cons_cons _ (.cons _ (.cons_cons _ (.cons _ (.refl _)))))).perm ((List.Perm.swap _ _ _).cons _)
    exact h.nilRow 25 1
  clear H3
  obtain ⟨A4, c4, rfl⟩ := H4.intsForm 2 rfl
  have H5 : Holds w w3 (pVals (.slice none 0 0) [] :: pInts (.slice A1 T.1.length c1) T.1 :: pInts (.slice A4 le.length c4) le :: pBlk w.heap.size (dv m f g) 31 :: rowsZ9 [] ((le.take 0).map Y)) := H4
  clear H4
  go_wp2
  go_loopw [7, 24] (fun q t wr => ∃ (i : Nat) (vs : List Value), i ≤ le.length ∧ t = .int .i64 i ∧ Hid (vs.length = i) ∧ Holds w wr (pVals q vs :: pInts (.slice A1 T.1.length c1) T.1 :: pInts (.slice A4 le.length c4) le :: pBlk w.heap.size (dv m f g) 31 :: rowsZ9 vs ((le.take i).map Y))) (fun _ t _ => le.length - (intOf t).toNat)
  case atStart => exact ⟨0, [], Nat.zero_le _, rfl, hide rfl, H5⟩
  case round =>
    clear H5
    obtain ⟨i, vs, hi, rfl, HVS, hH⟩ := hrel
    have hll2 := HLL.out
    by_cases hil : i < le.length
    · obtain ⟨g4, d4, e4, _, y1, _⟩ := hH.ints 2 rfl hil
      injection e4 with e4 e4a e4b
      subst e4
      clear e4a e4b
      have hym := HLM.out _ (List.getElem_mem hil)
      have COX := hide fun A c hcap w hv => CO.out le[i] (List.getElem_mem hil) A c hcap w hv
      have hst : (le.take (i + 1)).map Y = (le.take i).map Y ++ [Y le[i]] := by rw [List.take_succ_eq_append_getElem hil, List.map_append]; rfl
      have HST := hide hst; clear hst
      have cd := hH.cells 3 rfl
      have RT := hide (rd_nums (hH.own1 1 rfl) (by omega))
      generalize le[i] = y at *
      obtain ⟨A0, c0, rfl⟩ := hH.valsForm 0 rfl
      obtain ⟨nv, hnv⟩ : ∃ nv, nv = vs.length := ⟨_, rfl⟩
      rw [← hnv] at hH ⊢
      have HNV := hide hnv; clear hnv
      go_wp2_with fail
      refine (COX.out _ _ HC1.out _ RT.out).mono ?_
      rintro e w5 ⟨u, rfl, hk⟩
      have H6 := (hH.joinL hk).perm List.perm_append_comm
      have H6' : Holds w w5 (pZ9 u (Y y) :: pVals (.slice A0 nv c0) vs :: pInts (.slice A1 T.1.length c1) T.1 :: pInts (.slice (some ⟨g4, 0, none⟩) le.length c4) le :: pBlk w.heap.size (dv m f g) 31 :: rowsZ9 vs ((le.take i).map Y)) := H6
      have ho := valsZ_one9 0 H6' rfl
      have HBV := hide (show vs.length ≤ 1000000 by have := HVS.out; omega)
      clear hk hH H6 cd y1
      have hvu : ∃ A c, u = .slice A (Y y).length c := own_slice (H6'.row 0 rfl)
      obtain ⟨Au, cu, rfl⟩ := hvu
      have HOO := hide ho; clear ho
      go_wp2_with (at_builtin; refine appRow (H6'.alloc _) 1 rfl w5.heap.size (.slice Au (Y y).length cu) HOO.out 25 ?_ HBV.out rfl _ _ rfl rfl rfl ?_)
      · exact heap_at _ _ _ rfl
      intro v' w' h1
      have h2 : Holds w w' (pZ9 (.slice Au (Y y).length cu) (Y y) :: ([pVals v' (vs ++ [.slice Au (Y y).length cu]), pInts (.slice A1 T.1.length c1) T.1, pInts (.slice (some ⟨g4, 0, none⟩) le.length c4) le, pBlk w.heap.size (dv m f g) 31] ++ rowsZ9 vs ((le.take i).map Y))) := by first | exact h1 | (rw [List.map_take]; exact h1)
      have h3 := h2.rowEndZ9 (by rw [List.length_map, List.length_take, HVS.out]; omega)
      rw [← HST.out] at h3
      have HQ := hide h3
      clear H6' h1 h2 h3
      go_wp2
      go_roundw
      case rel => exact ⟨i + 1, vs ++ [_], by omega, by go_num, hide (by rw [List.length_append, HVS.out]; rfl), HQ.out⟩
      case measure => simp [intOf]; omega
    · obtain rfl : i = le.length := by omega
      rw [List.take_length] at hH
      have h2 := (hH.perm ((List.Perm.swap _ _ _).trans ((List.Perm.cons _ ((List.Perm.swap _ _ _).trans (List.Perm.cons _ (List.Perm.swap _ _ _))))))).tail.tail.tail
      have HQ := hide h2
      have HLN := hide (show vs.length = (le.map Y).length by rw [List.length_map]; exact HVS.out)
      clear hil hi hH h2
      go_wp2
      go_ret
      exact ⟨_, vs, rfl, HLN.out, HQ.out⟩
end Go.Proofs.Ytmapjjfefjoemaa
