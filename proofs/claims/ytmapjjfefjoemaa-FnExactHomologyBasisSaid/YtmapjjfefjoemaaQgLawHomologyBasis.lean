/- Texts put together: Trt, Trd, CyoP, Hbp, CyqS, Cyv -/
import Derived.Test.YtmapjjfefjoemaaQfLawHomologyBasis
import Derived.Test.YtmapjjfefjoemaaChecked
import Derived.WalkKit
import Derived.WalkSpells
import Derived.WalkLawsBesides
import Derived.Deep.LoopGhost
import Derived.Deep.OwnRows
import Derived.Laws.Rows
import Derived.Laws.Tables
import Derived.Laws.CopyOwn
import Derived.ProofKit
import Derived.OpenShut
import Derived.ShutString
import Derived.ChangeOld
import Derived.Below
import Derived.Laws.OwnMore
import Derived.BigQuiet
import Derived.Deep.QuietTactic
import Derived.OwnWalk
import Derived.ChangeSlices
import Derived.RegionTactic
import Derived.Deep.Quiet
import Derived.StillTail
import Derived.Deep.Slices
import Derived.WideShapes
import Derived.Laws.CopyRow
import Derived.Deep.MidRow
import Derived.Deep.RegionWith
import Derived.ChangeKeysEq
import Derived.StillTailTactics
import Derived.Deep.RegionHeld3
import Derived.Laws.Cover3
import Derived.IntWalk
import Derived.Laws.StructEq
import Derived.DataElems
namespace Go.Proofs.Ytmapjjfefjoemaa
open Go.RowKit

/-- the marks of the tree edges among the first k edges -/
def mk9 (e0 e1 : Nat → Nat) (k : Nat) : Nat → Bool := fun x => decide (x ∈ (spl9 e0 e1 (List.range k)).1)
theorem bv9_set (f : Nat → Bool) (i : Nat) (b : Bool) : (bv f).setIfInBounds i (.bool b) = bv (fun j => if j = i then b else f j) := by
  unfold bv
  rw [row_set]
  apply row_congr
  intro j _
  by_cases c : j = i
  · simp [c]
  · simp [c]
theorem mk9_zero (e0 e1 : Nat → Nat) : mk9 e0 e1 0 = fun _ => false := by funext x; simp [mk9, spl9]
theorem mk9_step (e0 e1 : Nat → Nat) (k : Nat) : (fun j => if j = k then decide (pcs9 e0 e1 (List.range k) (e0 k) ≠ pcs9 e0 e1 (List.range k) (e1 k)) else mk9 e0 e1 k j) = mk9 e0 e1 (k + 1) := by
  funext j
  have hm : k ∉ (spl9 e0 e1 (List.range k)).1 := fun h => by
    have := (spl9_mem e0 e1 (List.range k) k).2 (.inl h)
    simp at this
  unfold mk9
  rw [spl9_pcs, List.range_succ, spl9_snoc]
  unfold spst9
  by_cases c : j = k
  · subst c
    rw [if_pos rfl]
    split
    · rename_i h; simp [h, hm]
    · rename_i h; simp [h]
  · rw [if_neg c]
    split
    · rfl
    · simp [c]
set_option maxRecDepth 100000 in
set_option maxHeartbeats 4000000 in
theorem l09Tree_any (f g : Nat → Nat) (m : Nat) (hd : DesN f g m) (w : World) :
    Calls Try.prog 76 #[.agg (dv m f g)] w fun e w' => e = .returned (.agg (bv (mk9 (vb9 f m) (vw9 g m) m))) ∧ Below w.heap.size w w' := by
  have CB := hide fun w => sWhich_any f m hd.black w
  have CW := hide fun w => sWhich_any g m hd.white w
  have CA := hide fun w => l09Alone_any 32 (by omega) w
  have LB := hide fun x (hx : x < m) => which_lt9 hd.black hx
  have LW := hide fun x (hx : x < m) => which_lt9 hd.white hx
  have HE0 : Hid (∀ x, x < m → vb9 f m x = whichF f m x) := hide fun x hx => by unfold vb9 upto; rw [if_pos hx]
  have HE1 : Hid (∀ x, x < m → vw9 g m x = 16 + whichF g m x) := hide fun x hx => by unfold vw9 upto; rw [if_pos hx]
  have hm := hd.le
  have hn := dv_n m f g
  clear hd
  generalize vb9 f m = e0 at *
  generalize vw9 g m = e1 at *
  generalize whichF f m = hb at *
  generalize whichF g m = hw at *
  have HH0 := ((Holds.start w).blk (dv m f g) 31 w.heap.size rfl).blk (bv fun _ => false) 85 (w.heap.size + 1) (by simp)
  go_enter Try.func76, Try.ntmps76
  go_wp2
  rw [bv_false] at HH0
  rw [← bv_false] at HH0 ⊢
  apply Rd.region_R3 (w0 := w) [pBlk (w.heap.size + 1) (bv fun _ => false) 85, pBlk w.heap.size (dv m f g) 31] [pBlk (w.heap.size + 1) (bv fun _ => false) 85, pBlk w.heap.size (dv m f g) 31] [11, 12, 13, 14, 15, 16] (.q 0 <| .q 1 <| .q 2 <| .q 3 <| .q 4 <| .q 5 <| .q 6 <| .q 7 <| .q 8 <| .q 9 <| .q 10 <| (.s3 11 (.s2 12 (.s1 13 <| .s1 14 <| .s1 15 <| .s1 16 .fin) 13 (.s1 12 <| .s1 14 <| .s1 15 <| .s1 16 .fin)) 12 (.s2 11 (.s1 13 <| .s1 14 <| .s1 15 <| .s1 16 .fin) 13 (.s1 11 <| .s1 14 <| .s1 15 <| .s1 16 .fin)) 13 (.s2 11 (.s1 12 <| .s1 14 <| .s1 15 <| .s1 16 .fin) 12 (.s1 11 <| .s1 14 <| .s1 15 <| .s1 16 .fin)))) HH0 (.refl _) (by kernel_rfl) (by kernel_rfl) (by kernel_rfl) (F := fun (g3 : Nat) (g4 : Nat) (g5 : Nat) => pBlk g3 (zv hb) 112 :: pBlk g4 (zv hw) 112 :: pBlk g5 (bv fun _ => false) 85 :: [pBlk (w.heap.size + 1) (bv fun _ => false) 85, pBlk w.heap.size (dv m f g) 31])
  case h =>
    intro K key
    iterate 4
      apply Rd.v_q
      · simp only [List.getElem?_toArray, List.getElem?_cons_zero, List.getElem?_cons_succ]; exact rfl
      · rfl
      · go_simp
      · intro wx hx
        have q1 := hx.cells 1 rfl
        have q2 := hx.cell 1 rfl hn
        unfold atG
        go_simp
        simp only [uponG]
        exact ⟨by trivial, rfl⟩
    iterate 1
      apply Rd.v_q
      · simp only [List.getElem?_toArray, List.getElem?_cons_zero, List.getElem?_cons_succ]; exact rfl
      · rfl
      · go_simp
      · intro wx hx
        have q1 := hx.cells 1 rfl
        have q2 := hx.cell 1 rfl hn
        unfold atG
        go_simp
        simp only [uponG]
        exact ⟨by trivial, CB.out wx⟩
    iterate 4
      apply Rd.v_q
      · simp only [List.getElem?_toArray, List.getElem?_cons_zero, List.getElem?_cons_succ]; exact rfl
      · rfl
      · go_simp
      · intro wx hx
        have q1 := hx.cells 1 rfl
        have q2 := hx.cell 1 rfl hn
        unfold atG
        go_simp
        simp only [uponG]
        exact ⟨by trivial, rfl⟩
    iterate 1
      apply Rd.v_q
      · simp only [List.getElem?_toArray, List.getElem?_cons_zero, List.getElem?_cons_succ]; exact rfl
      · rfl
      · go_simp
      · intro wx hx
        have q1 := hx.cells 1 rfl
        have q2 := hx.cell 1 rfl hn
        unfold atG
        go_simp
        simp only [uponG]
        exact ⟨by trivial, CW.out wx⟩
    iterate 1
      apply Rd.v_q
      · simp only [List.getElem?_toArray, List.getElem?_cons_zero, List.getElem?_cons_succ]; exact rfl
      · rfl
      · go_simp
      · intro wx hx
        have q1 := hx.cells 1 rfl
        have q2 := hx.cell 1 rfl hn
        unfold atG
        go_simp
        simp only [uponG]
        exact ⟨by trivial, rfl⟩
    refine ⟨?_, ?_, ?_⟩
    · skip
      refine Rd.v_box (zv fun _ => 0) 112 (by simp only [List.getElem?_toArray, List.getElem?_cons_zero, List.getElem?_cons_succ]; exact rfl) rfl (by go_simp) (fun wx hx hD => by rw [zv_zero]; go_simp) fun g3 => ?_
      refine ⟨?_, ?_⟩
      · skip
        refine Rd.v_box (zv fun _ => 0) 112 (by simp only [List.getElem?_toArray, List.getElem?_cons_zero, List.getElem?_cons_succ]; exact rfl) rfl (by go_simp) (fun wx hx hD => by rw [zv_zero]; go_simp) fun g4 => ?_
        refine Rd.v_box (bv fun _ => false) 85 (by simp only [List.getElem?_toArray, List.getElem?_cons_zero, List.getElem?_cons_succ]; exact rfl) rfl (by go_simp) (fun wx hx hD => by rw [bv_false]; go_simp) fun g5 => ?_
        refine Rd.v_put 2 g3 (zv fun _ => 0) (zv hb) 112 rfl (.cons _ (.cons _ (.cons _ (.refl _)))) (by simp only [List.getElem?_toArray, List.getElem?_cons_zero, List.getElem?_cons_succ]; exact rfl) rfl (by go_simp) (fun wx hx hD => ?_) ?_
        · have rr := hD.rowOk (n := 16) 2 rfl (zv_size _)
          go_simp
        refine Rd.v_put 1 g4 (zv fun _ => 0) (zv hw) 112 rfl (.cons _ (.cons _ (.cons _ (.refl _)))) (by simp only [List.getElem?_toArray, List.getElem?_cons_zero, List.getElem?_cons_succ]; exact rfl) rfl (by go_simp) (fun wx hx hD => ?_) ?_
        · have rr := hD.rowOk (n := 16) 1 rfl (zv_size _)
          go_simp
        refine Rd.v_put 0 g5 (bv fun _ => false) (bv fun _ => false) 85 rfl (.cons _ (.cons _ (.cons _ (.refl _)))) (by simp only [List.getElem?_toArray, List.getElem?_cons_zero, List.getElem?_cons_succ]; exact rfl) rfl (by go_simp) (fun wx hx hD => ?_) ?_
        · have rr := hD.rowOk (n := 16) 0 rfl (bv_size _)
          rw [bv_false]; go_simp
        rintro wz - hz
        go_simp
        exact key g3 g4 g5 _ (hz.perm (((List.Perm.swap _ _ _).cons _).trans ((List.Perm.swap _ _ _).trans (((List.Perm.swap _ _ _).cons _)))))
      · skip
        refine Rd.v_box (bv fun _ => false) 85 (by simp only [List.getElem?_toArray, List.getElem?_cons_zero, List.getElem?_cons_succ]; exact rfl) rfl (by go_simp) (fun wx hx hD => by rw [bv_false]; go_simp) fun g5 => ?_
        refine Rd.v_box (zv fun _ => 0) 112 (by simp only [List.getElem?_toArray, List.getElem?_cons_zero, List.getElem?_cons_succ]; exact rfl) rfl (by go_simp) (fun wx hx hD => by rw [zv_zero]; go_simp) fun g4 => ?_
        refine Rd.v_put 2 g3 (zv fun _ => 0) (zv hb) 112 rfl (.cons _ (.cons _ (.cons _ (.refl _)))) (by simp only [List.getElem?_toArray, List.getElem?_cons_zero, List.getElem?_cons_succ]; exact rfl) rfl (by go_simp) (fun wx hx hD => ?_) ?_
        · have rr := hD.rowOk (n := 16) 2 rfl (zv_size _)
          go_simp
        refine Rd.v_put 0 g4 (zv fun _ => 0) (zv hw) 112 rfl (.cons _ (.cons _ (.cons _ (.refl _)))) (by simp only [List.getElem?_toArray, List.getElem?_cons_zero, List.getElem?_cons_succ]; exact rfl) rfl (by go_simp) (fun wx hx hD => ?_) ?_
        · have rr := hD.rowOk (n := 16) 0 rfl (zv_size _)
          go_simp
        refine Rd.v_put 1 g5 (bv fun _ => false) (bv fun _ => false) 85 rfl (.cons _ (.cons _ (.cons _ (.refl _)))) (by simp only [List.getElem?_toArray, List.getElem?_cons_zero, List.getElem?_cons_succ]; exact rfl) rfl (by go_simp) (fun wx hx hD => ?_) ?_
        · have rr := hD.rowOk (n := 16) 1 rfl (bv_size _)
          rw [bv_false]; go_simp
        rintro wz - hz
        go_simp
        exact key g3 g4 g5 _ (hz.perm (((List.Perm.swap _ _ _).cons _).trans ((List.Perm.swap _ _ _))))
    · skip
      refine Rd.v_box (zv fun _ => 0) 112 (by simp only [List.getElem?_toArray, List.getElem?_cons_zero, List.getElem?_cons_succ]; exact rfl) rfl (by go_simp) (fun wx hx hD => by rw [zv_zero]; go_simp) fun g4 => ?_
      refine ⟨?_, ?_⟩
      · skip
        refine Rd.v_box (zv fun _ => 0) 112 (by simp only [List.getElem?_toArray, List.getElem?_cons_zero, List.getElem?_cons_succ]; exact rfl) rfl (by go_simp) (fun wx hx hD => by rw [zv_zero]; go_simp) fun g3 => ?_
        refine Rd.v_box (bv fun _ => false) 85 (by simp only [List.getElem?_toArray, List.getElem?_cons_zero, List.getElem?_cons_succ]; exact rfl) rfl (by go_simp) (fun wx hx hD => by rw [bv_false]; go_simp) fun g5 => ?_
        refine Rd.v_put 1 g3 (zv fun _ => 0) (zv hb) 112 rfl (.cons _ (.cons _ (.cons _ (.refl _)))) (by simp only [List.getElem?_toArray, List.getElem?_cons_zero, List.getElem?_cons_succ]; exact rfl) rfl (by go_simp) (fun wx hx hD => ?_) ?_
        · have rr := hD.rowOk (n := 16) 1 rfl (zv_size _)
          go_simp
        refine Rd.v_put 2 g4 (zv fun _ => 0) (zv hw) 112 rfl (.cons _ (.cons _ (.cons _ (.refl _)))) (by simp only [List.getElem?_toArray, List.getElem?_cons_zero, List.getElem?_cons_succ]; exact rfl) rfl (by go_simp) (fun wx hx hD => ?_) ?_
        · have rr := hD.rowOk (n := 16) 2 rfl (zv_size _)
          go_simp
        refine Rd.v_put 0 g5 (bv fun _ => false) (bv fun _ => false) 85 rfl (.cons _ (.cons _ (.cons _ (.refl _)))) (by simp only [List.getElem?_toArray, List.getElem?_cons_zero, List.getElem?_cons_succ]; exact rfl) rfl (by go_simp) (fun wx hx hD => ?_) ?_
        · have rr := hD.rowOk (n := 16) 0 rfl (bv_size _)
          rw [bv_false]; go_simp
        rintro wz - hz
        go_simp
        exact key g3 g4 g5 _ (hz.perm ((List.Perm.swap _ _ _).trans (((List.Perm.swap _ _ _).cons _))))
      · skip
        refine Rd.v_box (bv fun _ => false) 85 (by simp only [List.getElem?_toArray, List.getElem?_cons_zero, List.getElem?_cons_succ]; exact rfl) rfl (by go_simp) (fun wx hx hD => by rw [bv_false]; go_simp) fun g5 => ?_
        refine Rd.v_box (zv fun _ => 0) 112 (by simp only [List.getElem?_toArray, List.getElem?_cons_zero, List.getElem?_cons_succ]; exact rfl) rfl (by go_simp) (fun wx hx hD => by rw [zv_zero]; go_simp) fun g3 => ?_
        refine Rd.v_put 0 g3 (zv fun _ => 0) (zv hb) 112 rfl (.cons _ (.cons _ (.cons _ (.refl _)))) (by simp only [List.getElem?_toArray, List.getElem?_cons_zero, List.getElem?_cons_succ]; exact rfl) rfl (by go_simp) (fun wx hx hD => ?_) ?_
        · have rr := hD.rowOk (n := 16) 0 rfl (zv_size _)
          go_simp
        refine Rd.v_put 2 g4 (zv fun _ => 0) (zv hw) 112 rfl (.cons _ (.cons _ (.cons _ (.refl _)))) (by simp only [List.getElem?_toArray, List.getElem?_cons_zero, List.getElem?_cons_succ]; exact rfl) rfl (by go_simp) (fun wx hx hD => ?_) ?_
        · have rr := hD.rowOk (n := 16) 2 rfl (zv_size _)
          go_simp
        refine Rd.v_put 1 g5 (bv fun _ => false) (bv fun _ => false) 85 rfl (.cons _ (.cons _ (.cons _ (.refl _)))) (by simp only [List.getElem?_toArray, List.getElem?_cons_zero, List.getElem?_cons_succ]; exact rfl) rfl (by go_simp) (fun wx hx hD => ?_) ?_
        · have rr := hD.rowOk (n := 16) 1 rfl (bv_size _)
          rw [bv_false]; go_simp
        rintro wz - hz
        go_simp
        exact key g3 g4 g5 _ (hz.perm (((List.Perm.swap _ _ _).cons _)))
    · skip
      refine Rd.v_box (bv fun _ => false) 85 (by simp only [List.getElem?_toArray, List.getElem?_cons_zero, List.getElem?_cons_succ]; exact rfl) rfl (by go_simp) (fun wx hx hD => by rw [bv_false]; go_simp) fun g5 => ?_
      refine ⟨?_, ?_⟩
      · skip
        refine Rd.v_box (zv fun _ => 0) 112 (by simp only [List.getElem?_toArray, List.getElem?_cons_zero, List.getElem?_cons_succ]; exact rfl) rfl (by go_simp) (fun wx hx hD => by rw [zv_zero]; go_simp) fun g3 => ?_
        refine Rd.v_box (zv fun _ => 0) 112 (by simp only [List.getElem?_toArray, List.getElem?_cons_zero, List.getElem?_cons_succ]; exact rfl) rfl (by go_simp) (fun wx hx hD => by rw [zv_zero]; go_simp) fun g4 => ?_
        refine Rd.v_put 1 g3 (zv fun _ => 0) (zv hb) 112 rfl (.cons _ (.cons _ (.cons _ (.refl _)))) (by simp only [List.getElem?_toArray, List.getElem?_cons_zero, List.getElem?_cons_succ]; exact rfl) rfl (by go_simp) (fun wx hx hD => ?_) ?_
        · have rr := hD.rowOk (n := 16) 1 rfl (zv_size _)
          go_simp
        refine Rd.v_put 0 g4 (zv fun _ => 0) (zv hw) 112 rfl (.cons _ (.cons _ (.cons _ (.refl _)))) (by simp only [List.getElem?_toArray, List.getElem?_cons_zero, List.getElem?_cons_succ]; exact rfl) rfl (by go_simp) (fun wx hx hD => ?_) ?_
        · have rr := hD.rowOk (n := 16) 0 rfl (zv_size _)
          go_simp
        refine Rd.v_put 2 g5 (bv fun _ => false) (bv fun _ => false) 85 rfl (.cons _ (.cons _ (.cons _ (.refl _)))) (by simp only [List.getElem?_toArray, List.getElem?_cons_zero, List.getElem?_cons_succ]; exact rfl) rfl (by go_simp) (fun wx hx hD => ?_) ?_
        · have rr := hD.rowOk (n := 16) 2 rfl (bv_size _)
          rw [bv_false]; go_simp
        rintro wz - hz
        go_simp
        exact key g3 g4 g5 _ (hz.perm ((List.Perm.swap _ _ _)))
      · skip
        refine Rd.v_box (zv fun _ => 0) 112 (by simp only [List.getElem?_toArray, List.getElem?_cons_zero, List.getElem?_cons_succ]; exact rfl) rfl (by go_simp) (fun wx hx hD => by rw [zv_zero]; go_simp) fun g4 => ?_
        refine Rd.v_box (zv fun _ => 0) 112 (by simp only [List.getElem?_toArray, List.getElem?_cons_zero, List.getElem?_cons_succ]; exact rfl) rfl (by go_simp) (fun wx hx hD => by rw [zv_zero]; go_simp) fun g3 => ?_
        refine Rd.v_put 0 g3 (zv fun _ => 0) (zv hb) 112 rfl (.cons _ (.cons _ (.cons _ (.refl _)))) (by simp only [List.getElem?_toArray, List.getElem?_cons_zero, List.getElem?_cons_succ]; exact rfl) rfl (by go_simp) (fun wx hx hD => ?_) ?_
        · have rr := hD.rowOk (n := 16) 0 rfl (zv_size _)
          go_simp
        refine Rd.v_put 1 g4 (zv fun _ => 0) (zv hw) 112 rfl (.cons _ (.cons _ (.cons _ (.refl _)))) (by simp only [List.getElem?_toArray, List.getElem?_cons_zero, List.getElem?_cons_succ]; exact rfl) rfl (by go_simp) (fun wx hx hD => ?_) ?_
        · have rr := hD.rowOk (n := 16) 1 rfl (zv_size _)
          go_simp
        refine Rd.v_put 2 g5 (bv fun _ => false) (bv fun _ => false) 85 rfl (.cons _ (.cons _ (.cons _ (.refl _)))) (by simp only [List.getElem?_toArray, List.getElem?_cons_zero, List.getElem?_cons_succ]; exact rfl) rfl (by go_simp) (fun wx hx hD => ?_) ?_
        · have rr := hD.rowOk (n := 16) 2 rfl (bv_size _)
          rw [bv_false]; go_simp
        rintro wz - hz
        go_simp
        exact key g3 g4 g5 _ hz
  intro g3 g4 g5 w2 H2
  clear HH0
  go_wp2_with fail
  refine (CA.out _).mono ?_
  rintro e w3 ⟨cv, rfl, hcv⟩
  have H3 := (H2.joinL hcv).perm List.perm_append_comm
  clear hcv H2
  have H4 : Holds w w3 [pInts cv (cl9 (pcs9 e0 e1 (List.range 0)) 32), pBlk g3 (zv hb) 112, pBlk g4 (zv hw) 112, pBlk g5 (bv (mk9 e0 e1 0)) 85, pBlk (w.heap.size + 1) (bv fun _ => false) 85, pBlk w.heap.size (dv m f g) 31] := by
    rw [mk9_zero]
    have e : cl9 (pcs9 e0 e1 (List.range 0)) 32 = List.range 32 := cl9_id 32
    rw [e]
    exact H3
  clear H3
  go_wp2
  go_loopw [7] (fun t wr => ∃ k : Nat, k ≤ m ∧ t = .int .i64 k ∧ Holds w wr [pInts cv (cl9 (pcs9 e0 e1 (List.range k)) 32), pBlk g3 (zv hb) 112, pBlk g4 (zv hw) 112, pBlk g5 (bv (mk9 e0 e1 k)) 85, pBlk (w.heap.size + 1) (bv fun _ => false) 85, pBlk w.heap.size (dv m f g) 31]) (fun t _ => m - (intOf t).toNat)
  case atStart => exact ⟨0, Nat.zero_le _, rfl, H4⟩
  case round =>
    clear H4
    obtain ⟨k, hk, rfl, hH⟩ := hrel
    have cn0 := hH.cell 5 rfl hn
    by_cases hlt : k < m
    · have hki : (k : Int) < m := by omega
      have hk16 : k < 16 := by omega
      have hk16i : (k : Int) < 16 := by omega
      have lb := LB.out k hlt
      have lw := LW.out k hlt
      have hst := mk9_step e0 e1 k
      have hps : pcs9 e0 e1 (List.range (k + 1)) = joi9 (pcs9 e0 e1 (List.range k)) (hb k) (16 + hw k) := by
        rw [List.range_succ, pcs9_snoc, ← HE0.out k hlt, ← HE1.out k hlt]; rfl
      rw [HE0.out k hlt, HE1.out k hlt] at hst
      generalize pcs9 e0 e1 (List.range k) = h at *
      have HST := hide (And.intro hst hps); clear hst hps
      have CJ := hide fun wx (H : Holds w wx [pInts cv (cl9 h 32), pBlk g3 (zv hb) 112, pBlk g4 (zv hw) 112, pBlk g5 (bv (mk9 e0 e1 k)) 85, pBlk (w.heap.size + 1) (bv fun _ => false) 85, pBlk w.heap.size (dv m f g) 31]) => l09Join_any h 32 (hb k) (16 + hw k) (by omega) (by omega) (by omega) cv w wx _ H
      have wk : IntKind.i64.wrap (16 + (hw k : Int)) = 16 + (hw k : Int) := wr64k (by omega) (by omega)
      have HC1 := hide (show ((16 + hw k : Nat) : Int) = 16 + (hw k : Int) by omega)
      rw [HC1.out] at CJ
      generalize decide (h (hb k) ≠ h (16 + hw k)) = B at *
      go_wp2
      clear cn0
      refine Rd.region_P (w0 := w) [pBlk g3 (zv hb) 112, pBlk g4 (zv hw) 112, pBlk (w.heap.size + 1) (bv fun _ => false) 85, pBlk w.heap.size (dv m f g) 31] [pInts cv (cl9 h 32), pBlk g3 (zv hb) 112, pBlk g4 (zv hw) 112, pBlk g5 (bv (mk9 e0 e1 k)) 85, pBlk (w.heap.size + 1) (bv fun _ => false) 85, pBlk w.heap.size (dv m f g) 31] [9, 11] (.q 0 <| .q 1 <| .q 2 <| .q 3 <| .q 4 <| .q 5 <| .q 6 <| .q 7 <| .q 8 <| .s1 9 <| .q 10 <| .s1 11 .fin) hH (.cons _ (.cons_cons _ (.cons_cons _ (.cons _ (.refl _))))) (by kernel_rfl) (by kernel_rfl) (by kernel_rfl) ?_
      iterate 9
        apply Rd.v_q
        · simp only [List.getElem?_toArray, List.getElem?_cons_zero, List.getElem?_cons_succ]; exact rfl
        · rfl
        · go_simp
        · intro wx hx
          have q1 := hx.cell 0 rfl (zv_get hb hk16)
          have q2 := hx.cell 1 rfl (zv_get hw hk16)
          unfold atG
          go_simp
          simp only [uponG]
          exact ⟨by trivial, rfl⟩
      refine Rd.v_s9 (fun u wx => u = .bool B ∧ Holds w wx [pInts cv (cl9 (joi9 h (hb k) (16 + hw k)) 32), pBlk g3 (zv hb) 112, pBlk g4 (zv hw) 112, pBlk g5 (bv (mk9 e0 e1 k)) 85, pBlk (w.heap.size + 1) (bv fun _ => false) 85, pBlk w.heap.size (dv m f g) 31]) (fun _ _ _ h hb => ⟨h.1, h.2.call hb⟩) (by simp only [List.getElem?_toArray, List.getElem?_cons_zero, List.getElem?_cons_succ]; exact rfl) rfl (by go_simp) (fun wx hx hD => ?_) ?_
      · go_simp
        simp only [Rd.upon9_eq, Rd.uponE]
        refine ⟨by trivial, (CJ.out wx hD).mono ?_⟩
        rintro e wy ⟨rfl, hy⟩
        exact ⟨_, rfl, hy.sub (.cons _ (.cons_cons _ (.cons_cons _ (.cons _ (.refl _))))), rfl, hy⟩
      rintro v ⟨_, _, rfl, _⟩
      iterate 1
        apply Rd.v_q
        · simp only [List.getElem?_toArray, List.getElem?_cons_zero, List.getElem?_cons_succ]; exact rfl
        · rfl
        · go_simp
        · intro wx hx
          unfold atG
          go_simp
          simp only [uponG]
          exact ⟨by trivial, rfl⟩
      refine Rd.v_s9 (fun u wx => u = undef ∧ Holds w wx [pInts cv (cl9 (joi9 h (hb k) (16 + hw k)) 32), pBlk g3 (zv hb) 112, pBlk g4 (zv hw) 112, pBlk g5 (bv (mk9 e0 e1 (k + 1))) 85, pBlk (w.heap.size + 1) (bv fun _ => false) 85, pBlk w.heap.size (dv m f g) 31]) (fun _ _ _ h hb => ⟨h.1, h.2.call hb⟩) (by simp only [List.getElem?_toArray, List.getElem?_cons_zero, List.getElem?_cons_succ]; exact rfl) rfl (by go_simp) (fun wx hx hD => ?_) ?_
      · have hD2 := hD.2
        have z0 := hD2.cell 3 rfl (bv_get (mk9 e0 e1 k) hk16)
        have z1 := hD2.frozen 3 rfl k
        have hP := hD2.set 3 rfl k (.bool B)
        simp only [List.set_cons_succ, List.set_cons_zero] at hP
        rw [bv9_set, HST.out.1] at hP
        have HQ := hide hP
        clear hP hD2 hD hx
        go_simp
        simp only [Rd.upon9_eq, Rd.uponE]
        exact ⟨HQ.out.sub (.cons _ (.cons_cons _ (.cons_cons _ (.cons _ (.refl _))))), by trivial, HQ.out⟩
      rintro v ⟨_, _, rfl, _⟩
      rintro wz - hz
      have HQ := hide hz.2
      clear hz hH
      go_simp
      go_wp2
      go_roundw
      case rel => exact ⟨k + 1, by omega, by go_num, by rw [HST.out.2]; exact HQ.out⟩
      case measure => simp [intOf]; omega
    · obtain rfl : m = k := by omega
      have cc := hH.cells 3 rfl
      have rr := hH.rowOk 4 rfl (bv_size _)
      have HQ := hide hH
      clear hk hlt hH
      go_wp2
      have H2 := HQ.out.setRow 4 rfl (bv (mk9 e0 e1 m))
      exact res_agg (p := 2) (g := (w.heap.size + 1)) aggB (bv_size _) rfl rfl rfl (H2.at 4 rfl) ⟨rfl, H2.low⟩
end Go.Proofs.Ytmapjjfefjoemaa

namespace Go.Proofs.Ytmapjjfefjoemaa
open Go.RowKit

theorem spl9_sub (e0 e1 : Nat → Nat) (l : List Nat) : (spl9 e0 e1 l).1.Sublist l ∧ (spl9 e0 e1 l).2.Sublist l := by
  induction l using snocInd9 with
  | h0 => exact ⟨.slnil, .slnil⟩
  | hs l x ih =>
    rw [spl9_snoc]; unfold spst9
    split
    · exact ⟨ih.1.trans (List.sublist_append_left _ _), ih.2.append (.refl _)⟩
    · exact ⟨ih.1.append (.refl _), ih.2.trans (List.sublist_append_left _ _)⟩
theorem filter_sub9 : ∀ {l r : List Nat}, l.Sublist r → r.Nodup → r.filter (fun x => decide (x ∈ l)) = l
  | _, _, .slnil, _ => rfl
  | l, _, @List.Sublist.cons _ _ r x h, hn => by
    have hn' := List.nodup_cons.1 hn
    have hx : x ∉ l := fun hx => hn'.1 (h.subset hx)
    rw [List.filter_cons, if_neg (by simpa using hx)]
    exact filter_sub9 h hn'.2
  | _, _, @List.Sublist.cons_cons _ l r x h, hn => by
    have hn' := List.nodup_cons.1 hn
    have ih := filter_sub9 h hn'.2
    rw [List.filter_cons, if_pos (by simp)]
    congr 1
    refine Eq.trans ?_ ih
    apply List.filter_congr
    intro y hy
    have : y ≠ x := fun e => hn'.1 (e ▸ hy)
    simp [this]
theorem tre9_filter (f g : Nat → Nat) (m : Nat) : (List.range m).filter (mk9 (vb9 f m) (vw9 g m) m) = (tre9 f g m).1 := by
  unfold mk9 tre9
  exact filter_sub9 (spl9_sub _ _ _).1 List.nodup_range
theorem filter_succ9 (p : Nat → Bool) (k : Nat) : (List.range (k + 1)).filter p = if p k = true then (List.range k).filter p ++ [k] else (List.range k).filter p := by
  rw [List.range_succ, List.filter_append]
  split
  · rename_i h; simp [h]
  · rename_i h; simp [h]
set_option maxRecDepth 100000 in
set_option maxHeartbeats 2000000 in
theorem sTreeEdges_any (n : Int) (f g : Nat → Nat) (hf : ∀ i, f i < 256) (hg : ∀ i, g i < 256) (w : World) :
    Calls Try.prog 36 #[.agg (dv n f g)] w fun e w' => ∃ v, e = .returned (.tuple #[v, .int .i64 (teC9 n f g)]) ∧ Below w.heap.size w w' ∧ OwnZ w.heap.size w' v (teL9 n f g) := by
  have C1 := hide fun w => sIs_any n f g hf hg w
  clear hf hg
  have HH0 := (Holds.start w).blk (dv n f g) 31 w.heap.size rfl
  rcases h1 : desB n f g with _ | _
  · rw [h1] at C1
    rw [show teL9 n f g = [] from if_neg (by simp [h1]), show teC9 n f g = 1 from if_neg (by simp [h1])]
    clear h1
    go_enter Try.func36, Try.ntmps36
    go_wp2_with fail
    refine (C1.out _).mono ?_
    rintro e w1 ⟨rfl, hb⟩
    have HH1 := HH0.call hb
    go_wp2
    go_ret2
    exact ⟨.slice none 0 0, rfl, HH1.low, World.ownsRow_nil _ _ _ _⟩
  rw [h1] at C1
  rw [show teL9 n f g = zs9 (tre9 f g n.toNat).1 from if_pos h1, show teC9 n f g = 0 from if_pos h1]
  obtain ⟨m, rfl, hd⟩ := desB_true h1
  rw [Int.toNat_natCast, ← tre9_filter]
  have C2 := hide fun w => l09Tree_any f g m hd w
  have hm := hd.le
  have hn := dv_n m f g
  generalize mk9 (vb9 f m) (vw9 g m) m = T at *
  have HF := hide fun k => filter_succ9 T k
  have HL := hide fun k => (List.length_filter_le T (List.range k))
  clear h1 hd
  go_enter Try.func36, Try.ntmps36
  go_wp2_with fail
  refine (C1.out _).mono ?_
  rintro e w1 ⟨rfl, hb⟩
  have HH1 := HH0.call hb
  have cd1 := HH1.cells 0 rfl
  clear hb HH0
  go_wp2_with fail
  refine (C2.out _).mono ?_
  rintro e w2 ⟨rfl, hb⟩
  have H2 := HH1.call hb
  clear hb HH1 cd1
  have H3 := (H2.rowNew #[] 2 1 0 w2.heap.size rfl rfl (by decide)).blk (bv T) 85 (w2.heap.size + 1) (by simp)
  have cn2 := H2.lt 0 rfl
  go_wp2
  generalize (w2.alloc (.cells #[] 2)).alloc (.cells (bv T) 85) = w3 at *
  have H4 : Holds w w3 [pInts (.slice (some ⟨w2.heap.size, 0, none⟩) 0 0) ((List.range 0).filter T), pBlk (w2.heap.size + 1) (bv T) 85, pBlk w.heap.size (dv m f g) 31] := H3.perm (List.Perm.swap _ _ _)
  clear H3 H2 cn2
  generalize w2.heap.size = G at *
  go_loopw [5, 6] (fun q t wr => ∃ k : Nat, k ≤ m ∧ t = .int .i64 k ∧ Holds w wr [pInts q ((List.range k).filter T), pBlk (G + 1) (bv T) 85, pBlk w.heap.size (dv m f g) 31]) (fun _ t _ => m - (intOf t).toNat)
  case atStart => exact ⟨0, Nat.zero_le _, rfl, H4⟩
  case round =>
    clear H4
    obtain ⟨k, hk, rfl, hH⟩ := hrel
    have cn0 := hH.cell 2 rfl hn
    by_cases hlt : k < m
    · have hki : (k : Int) < m := by omega
      have hk16 : k < 16 := by omega
      have hk16i : (k : Int) < 16 := by omega
      have z0 := hH.cell 1 rfl (bv_get T hk16)
      have hln := HL.out k
      rw [List.length_range] at hln
      have hf := HF.out k
      rcases hT : T k with _ | _
      · rw [hT] at z0 hf
        rw [if_neg (by simp)] at hf
        have HF2 := hide hf; clear hf
        have HQ := hide hH
        clear hH hT
        go_wp2
        go_roundw
        case rel => exact ⟨k + 1, by omega, by go_num, by rw [HF2.out]; exact HQ.out⟩
        case measure => simp [intOf]; omega
      · rw [hT] at z0 hf
        rw [if_pos rfl] at hf
        have HF2 := hide hf; clear hf
        obtain ⟨A, c, rfl⟩ := hH.intsForm 0 rfl
        generalize (List.range k).filter T = l at *
        go_wp2_with (at_builtin; refine appI (hH.alloc _) 0 rfl wr.heap.size [k] 2 ?_ ?_ rfl _ _ rfl rfl rfl ?_)
        · exact heap_at _ _ _ rfl
        · simp only [List.length_cons, List.length_nil]; omega
        intro v' w' h1
        have HQ := hide h1
        clear hH h1 hT cn0 z0
        go_wp2
        go_roundw
        case rel => exact ⟨k + 1, by omega, by go_num, by rw [HF2.out]; exact HQ.out⟩
        case measure => simp [intOf]; omega
    · obtain rfl : m = k := by omega
      have HQ := hide hH
      clear hk hlt hH
      go_wp2
      go_ret2
      exact ⟨_, rfl, HQ.out.low, (HQ.out.own1 0 rfl).z⟩
theorem te9_bound (n : Int) (f g : Nat → Nat) : (teL9 n f g).length ≤ 1000000 := by
  unfold teL9
  split
  · rename_i h
    obtain ⟨m, rfl, hd⟩ := desB_true h
    rw [Int.toNat_natCast, zs9_length]
    have := tre9_len f g m
    have := hd.le
    omega
  · simp
end Go.Proofs.Ytmapjjfefjoemaa

namespace Go.Proofs.Ytmapjjfefjoemaa
open Go.RowKit

def buildSS9 (n : Nat) (ps : Array (Nat × Value)) : Sem Next := do pure (.value (← Instr.buildSlice 26 n ps))
theorem exec_buildSS9 (ρ : Operand → Value) (dst : Option Tmp) (n : Nat) (parts : Array (Nat × Operand)) (ty : TypeId) (pos : String) (after : Array Edge) (guard : Option (Nat × Bool)) :
    execOp ρ { dst, op := .buildSlice 26 n parts, type := ty, pos, after, guard } = buildSS9 n (parts.map fun (i, x) => (i, ρ x)) := rfl
theorem run_buildSS9 (u v : Value) (hu : u.cells = #[u]) (hv : v.cells = #[v]) (w : World) : (buildSS9 2 #[(0, u), (1, v)]).run Try.prog w = .ok (.value (.slice (some ⟨w.heap.size, 0, none⟩) 2 2)) (w.alloc (.cells #[u, v] 25)) := by
  have h := run_buildSl (P := Try.prog) (T := 26) (E := 25) (s := 1) (n := 2) Try.underlying26 (by kernel_rfl) (by kernel_rfl) #[(0, u), (1, v)] (by simp [Fits, hu, hv]) (by simp [flatC, hu, hv]) (by decide) (by decide) w
  simp only [buildSS9, Sem.run_bind, h, Result.andThen_ok, Sem.run_pure]
  simp [flatC, hu, hv]
/-- the numbers that are told already -/
def cuz9 (F : Nat → Int) (x : Nat) (T : List Nat) (k m : Nat) : List Int := (List.range m).map fun y => if y = x ∨ y ∈ T.take k then F y else 0
theorem cuz9_length (F : Nat → Int) (x : Nat) (T : List Nat) (k m : Nat) : (cuz9 F x T k m).length = m := by simp [cuz9]
theorem cuz9_get (F : Nat → Int) (x : Nat) (T : List Nat) (k : Nat) {m y : Nat} (h : y < m) : (cuz9 F x T k m)[y]? = some (if y = x ∨ y ∈ T.take k then F y else 0) := by simp [cuz9, h]
theorem cuz9_zero {F : Nat → Int} {x m : Nat} {T : List Nat} (h : F x = 1) : (List.replicate m (0 : Int)).set x 1 = cuz9 F x T 0 m := by
  apply List.ext_getElem
  · simp [cuz9]
  · intro i h1 h2
    rw [List.getElem_set]
    simp only [cuz9, List.getElem_map, List.getElem_range, List.take_zero, List.not_mem_nil, or_false, List.getElem_replicate]
    by_cases e : x = i
    · subst e; simp [h]
    · rw [if_neg e, if_neg (Ne.symm e)]
theorem cuz9_step {F : Nat → Int} {x m i : Nat} {T : List Nat} (h : i < T.length) : (cuz9 F x T i m).set T[i] (F T[i]) = cuz9 F x T (i + 1) m := by
  apply List.ext_getElem
  · simp [cuz9]
  · intro j h1 h2
    rw [List.getElem_set]
    simp only [cuz9, List.getElem_map, List.getElem_range]
    have hm : j ∈ T.take (i + 1) ↔ j ∈ T.take i ∨ j = T[i] := by rw [List.take_succ_eq_append_getElem h, List.mem_append, List.mem_singleton]
    simp only [hm]
    by_cases e : T[i] = j
    · subst e; simp
    · rw [if_neg e]
      have : (j = x ∨ j ∈ T.take i ∨ j = T[i]) ↔ (j = x ∨ j ∈ T.take i) := by
        constructor
        · rintro (h | h | h)
          · exact .inl h
          · exact .inr h
          · exact absurd h.symm e
        · rintro (h | h)
          · exact .inl h
          · exact .inr (.inl h)
      simp only [this]
theorem rst9_take {T : List Nat} (hn : T.Nodup) {i : Nat} (h : i < T.length) : T.take i ++ T.drop (i + 1) = rst9 T T[i] := by
  have e : T = T.take i ++ T[i] :: T.drop (i + 1) := by rw [← List.drop_eq_getElem_cons h, List.take_append_drop]
  generalize hy : T[i] = y at *
  generalize T.take i = A at *
  generalize T.drop (i + 1) = B at *
  subst e
  have hn2 := List.nodup_append.1 hn
  have hnB := List.nodup_cons.1 hn2.2.1
  have hA : ∀ z ∈ A, z ≠ y := fun z hz e => hn2.2.2 z hz y (by simp) e
  unfold rst9
  rw [List.filter_append, List.filter_cons, if_neg (by simp), List.filter_eq_self.2 (fun z hz => by simpa using hA z hz), List.filter_eq_self.2 (fun z hz => by have : z ≠ y := fun e => hnB.1 (by rw [← e]; exact hz); simpa using this)]
theorem zc_set9 (l : List Int) (i : Nat) (x : Int) : (zc l).set i (.int .i64 x) = zc (l.set i x) := by unfold zc; rw [List.map_set]
theorem zc_at9 {l : List Int} {i : Nat} {x : Int} (h : l[i]? = some x) : (zc l)[i]? = some (.int .i64 x) := by rw [zc_get, h]; rfl
theorem zs9_take (l : List Nat) (k : Nat) : (zs9 l).take k = zs9 (l.take k) := by unfold zs9; rw [List.map_take]
theorem zs9_drop (l : List Nat) (k : Nat) : (zs9 l).drop k = zs9 (l.drop k) := by unfold zs9; rw [List.map_drop]
theorem zs9_append (a b : List Nat) : zs9 (a ++ b) = zs9 a ++ zs9 b := by unfold zs9; rw [List.map_append]
set_option maxRecDepth 100000 in
set_option maxHeartbeats 4000000 in
theorem cycleOfEdge_any (f g : Nat → Nat) (m : Nat) (hd : DesN f g m) (x : Nat) (hx : x < m) (A : Option Addr) (c : Nat) (hxT : x ∉ (tre9 f g m).1) (hcap : (tre9 f g m).1.length ≤ c) (w : World) (hv : RdZ w (.slice A (tre9 f g m).1.length c) (zs9 (tre9 f g m).1)) :
    Calls Try.prog 80 #[.agg (dv m f g), .slice A (tre9 f g m).1.length c, .int .i64 x] w fun e w' => ∃ u, e = .returned u ∧ Holds w w' [pZ9 u ((List.range m).map (cyo9 (vb9 f m) (vw9 g m) (tre9 f g m).1 x))] := by
  have CV := hide fun w => vertexLinks_any f g m hd w
  have hE := hide (vl9_lt hd)
  have hm := hd.le
  have hn := dv_n m f g
  have htl := tre9_len f g m
  have hTm : ∀ z ∈ (tre9 f g m).1, z < m := fun z hz => List.mem_range.1 ((spl9_mem (vb9 f m) (vw9 g m) (List.range m) z).2 (.inl hz))
  have hTn : (tre9 f g m).1.Nodup := (spl9_sub _ _ _).1.nodup List.nodup_range
  have CPP := hide fun v l hl hn w hv => pieces_any (vb9 f m) (vw9 g m) (vl9_lt hd) v l hl hn w hv
  generalize (tre9 f g m).1 = T at *
  generalize vb9 f m = e0 at *
  generalize vw9 g m = e1 at *
  clear hd
  obtain ⟨F, hF⟩ : ∃ F, F = cyo9 e0 e1 T x := ⟨_, rfl⟩
  rw [← hF]
  have hFx : F x = 1 := by rw [hF]; simp [cyo9]
  have HFY : Hid (∀ y ∈ T, F y = ind9 (pcs9 e0 e1 (rst9 T y) (e1 x)) (pcs9 e0 e1 (rst9 T y) (e0 y)) - ind9 (pcs9 e0 e1 (rst9 T y) (e0 x)) (pcs9 e0 e1 (rst9 T y) (e0 y))) := hide fun y hy => by
    have hne : y ≠ x := fun e => hxT (by rw [← e]; exact hy)
    rw [hF]; unfold cyo9; rw [if_neg hne, if_pos hy]
  have HEND : Hid (cuz9 F x T T.length m = (List.range m).map F) := hide (by
    unfold cuz9
    refine List.map_congr_left fun y hy => ?_
    rw [List.take_length]
    split
    · rfl
    · rename_i h
      have h1 : y ≠ x := fun e => h (.inl e)
      have h2 : y ∉ T := fun e => h (.inr e)
      rw [hF]; unfold cyo9; rw [if_neg h1, if_neg h2])
  clear hF
  have HFX := hide hFx; clear hFx
  have HXT := hide hxT; clear hxT
  have HTM := hide hTm; clear hTm
  have HTN := hide hTn; clear hTn
  have HV := hide hv; clear hv
  have HCAP := hide hcap
  have htc : T.length ≤ 16 := by omega
  clear htl
  have HZ0 := hide (cuz9_zero (F := F) (x := x) (m := m) (T := T) HFX.out)
  have CC := hide fun (i : Nat) (hi : i < T.length) w g8 (h : RdZ2 w (.slice (some ⟨g8, 0, none⟩) 2 2) [(zs9 T).take i, (zs9 T).drop (i + 1)]) => (by
    have h1 := concat_any9 (.slice (some ⟨g8, 0, none⟩) 2 2) [(zs9 T).take i, (zs9 T).drop (i + 1)] (by simp [totZ, zs9_length]; omega) (by simp) w h
    have e : flat9 [(zs9 T).take i, (zs9 T).drop (i + 1)] = zs9 (rst9 T T[i]) := by
      rw [← rst9_take HTN.out hi, zs9_append, ← zs9_take, ← zs9_drop]; simp [flat9]
    rw [e] at h1
    exact h1 : Calls Try.prog 56 #[.slice (some ⟨g8, 0, none⟩) 2 2] w fun e w' => ∃ u, e = .returned u ∧ Holds w w' [pZ9 u (zs9 (rst9 T T[i]))])
  obtain ⟨i0, hi, hz0, hz1, hz2⟩ := info_parts info64
  have I0 := hide (And.intro hi (And.intro hz0 (And.intro hz1 hz2))); clear hi hz0 hz1 hz2
  have HH0 := (Holds.start w).blk (dv m f g) 31 w.heap.size rfl
  have hxi : (x : Int) < m := by omega
  go_enter Try.func80, Try.ntmps80
  go_wp2_with fail
  refine (CV.out _).mono ?_
  rintro e w1 ⟨rfl, hb⟩
  have H1 := HH0.call hb
  have cn1 := H1.cell 0 rfl hn
  have cl1 := H1.lt 0 rfl
  have HB := H1.blk (nv9 (lk9 e0 e1)) 118 w1.heap.size rfl
  clear hb HH0
  go_wp2_with (refine makeH (P := Try.prog) rfl 25 _ _ rfl 2 i0 (.int .i64 0) 8 Try.underlying25 I0.out.1 I0.out.2.1 I0.out.2.2.1 I0.out.2.2.2 rfl m .i64 .i64 rfl rfl (by omega) (by decide) HB ?_)
  intro w2 H2
  clear HB H1 cn1 cl1
  have H3 : Holds w w2 [pRow (.slice (some ⟨w1.heap.size + 1, 0, none⟩) m m) 2 1 m (zc (List.replicate m 0)), pBlk w1.heap.size (nv9 (lk9 e0 e1)) 118, pBlk w.heap.size (dv m f g) 31] := by
    unfold zc; rw [List.map_replicate]; exact H2
  clear H2
  obtain ⟨z0, z1⟩ := H3.rowCell9 0 rfl (zc_at9 (l := List.replicate m 0) (i := x) (x := 0) (by simp [hx]))
  have H4 := H3.put 0 rfl x (.int .i64 1)
  simp only [List.set_cons_zero] at H4
  rw [zc_set9, HZ0.out] at H4
  have H5 := hide (H4.perm (List.Perm.swap _ _ _))
  clear H3 H4
  go_wp2
  go_loopw [23] (fun t wr => ∃ i : Nat, i ≤ T.length ∧ t = .int .i64 i ∧ Holds w wr [pBlk w1.heap.size (nv9 (lk9 e0 e1)) 118, pRow (.slice (some ⟨w1.heap.size + 1, 0, none⟩) m m) 2 1 m (zc (cuz9 F x T i m)), pBlk w.heap.size (dv m f g) 31]) (fun t _ => T.length - (intOf t).toNat)
  case atStart => exact ⟨0, Nat.zero_le _, rfl, H5.out⟩
  case round =>
    clear H5 z0 z1
    obtain ⟨i, hi, rfl, hH⟩ := hrel
    by_cases hil : i < T.length
    · have hil' : i < (zs9 T).length := by rw [zs9_length]; exact hil
      obtain ⟨p0, rfl, _, d1⟩ := (HV.out.below hH.low (Nat.le_refl _)).at hil'
      rw [zs9_get hil] at d1
      have hyT := List.getElem_mem hil
      have hym := HTM.out _ hyT
      have hyx : T[i] ≠ x := fun e => HXT.out (by rw [← e]; exact hyT)
      have hFY := HFY.out _ hyT
      have hst := cuz9_step (F := F) (x := x) (m := m) hil
      have hold : (cuz9 F x T i m)[T[i]]? = some 0 := by
        rw [cuz9_get F x T i hym, if_neg]
        rintro (h | h)
        · exact hyx h
        · obtain ⟨j, hj, e⟩ := List.getElem_of_mem h
          rw [List.getElem_take] at e
          have := (List.getElem_inj HTN.out).1 e
          rw [List.length_take] at hj; omega
      have CC2 := hide fun wx g8 h => CC.out i hil wx g8 h
      have RLEN : Hid ((zs9 (rst9 T T[i])).length ≤ 1000000) := hide (by rw [zs9_length]; unfold rst9; have := List.length_filter_le (fun z => decide (z ≠ T[i])) T; omega)
      have CP := hide fun v w (hv : RdZ w v (zs9 (rst9 T (T[i]'hil)))) => CPP.out v (rst9 T (T[i]'hil)) (fun z hz => by have := HTM.out z (mem_rst9.1 hz).1; omega) (by unfold rst9; have := List.length_filter_le (fun z => decide (z ≠ T[i])) T; omega) w hv
      have HIL : Hid (i ≤ T.length) := hide hi
      have HIL1 : Hid (i + 1 ≤ T.length) := hide hil
      have SLO := hide fun w => run_slLo9 (some p0) T.length c (i + 1) HIL1.out w
      have HC1 := hide (show ((i + 1 : Nat) : Int) = (i : Int) + 1 by omega)
      rw [HC1.out] at SLO
      have S1 : Hid ((Value.slice (some p0) i c).cells = #[.slice (some p0) i c]) := hide rfl
      have S2 : Hid ((lo9 (some p0) T.length c (i + 1)).cells = #[lo9 (some p0) T.length c (i + 1)]) := hide (by obtain ⟨B, d, e⟩ := lo9_form (some p0) T.length c (i + 1); rw [e]; rfl)
      obtain ⟨hy0, hy1⟩ := hE.out T[i] (by omega)
      obtain ⟨hx0, hx1⟩ := hE.out x (by omega)
      clear CC
      generalize T[i] = y at *
      obtain ⟨s, hs⟩ : ∃ s, s = pcs9 e0 e1 (rst9 T y) := ⟨_, rfl⟩
      rw [← hs] at CP hFY
      clear hs hil'
      have CC := CC2; clear CC2
      have HST := hide hst; clear hst
      have HOLD := hide hold; clear hold
      have HFYY := hide hFY; clear hFY
      have hic : (i : Int) ≤ c := by omega
      have hic0 : (0 : Int) ≤ i := by omega
      have hyi : (y : Int) < m := by omega
      have wi : IntKind.i64.wrap ((i : Int) + 1) = (i : Int) + 1 := wr64k (by omega) (by omega)
      have hy16 : y < 16 := by omega
      have hy16i : (y : Int) < 16 := by omega
      have hx16 : x < 16 := by omega
      have hx16i : (x : Int) < 16 := by omega
      go_wp2
      clear d1
      have HHid := hide hH
      apply Rd.region_Q3 (w0 := w) [pBlk w1.heap.size (nv9 (lk9 e0 e1)) 118, pRow (.slice (some ⟨w1.heap.size + 1, 0, none⟩) m m) 2 1 m (zc (cuz9 F x T i m)), pBlk w.heap.size (dv m f g) 31] [pBlk w1.heap.size (nv9 (lk9 e0 e1)) 118, pRow (.slice (some ⟨w1.heap.size + 1, 0, none⟩) m m) 2 1 m (zc (cuz9 F x T i m)), pBlk w.heap.size (dv m f g) 31] [8, 9, 10, 11, 12] (.q 0 <| .q 1 <| .q 2 <| .q 3 <| .q 4 <| .q 5 <| .q 6 <| .q 7 <| .s2 8 (.s2 9 (.s2 10 (.s1 11 <| .s1 12 .fin) 11 (.s1 10 <| .s1 12 .fin)) 11 (.s1 9 <| .s1 10 <| .s1 12 .fin)) 11 (.s1 8 <| .s1 9 <| .s1 10 <| .s1 12 .fin)) hH (.refl _) (by kernel_rfl) (by kernel_rfl) (by kernel_rfl) (F := fun (g8 : Nat) (v : Value) (g11 : Nat) => pBlk g11 (nv9 s) 122 :: [pBlk w1.heap.size (nv9 (lk9 e0 e1)) 118, pRow (.slice (some ⟨w1.heap.size + 1, 0, none⟩) m m) 2 1 m (zc (cuz9 F x T i m)), pBlk w.heap.size (dv m f g) 31])
      case h =>
        intro K key
        iterate 3
          apply Rd.v_q
          · simp only [List.getElem?_toArray, List.getElem?_cons_zero, List.getElem?_cons_succ]; exact rfl
          · rfl
          · go_simp
          · intro wx hx
            have q1 := hx.cells 0 rfl
            unfold atG
            go_simp
            simp only [uponG]
            exact ⟨by trivial, rfl⟩
        iterate 1
          apply Rd.v_q
          · simp only [List.getElem?_toArray, List.getElem?_cons_zero, List.getElem?_cons_succ]; exact rfl
          · rfl
          · go_simp
          · intro wx hx
            have q1 := hx.cells 0 rfl
            unfold atG
            go_simp
            simp only [uponG]
            exact ⟨by trivial, rfl⟩
        iterate 4
          apply Rd.v_q
          · simp only [List.getElem?_toArray, List.getElem?_cons_zero, List.getElem?_cons_succ]; exact rfl
          · rfl
          · go_simp
          · intro wx hx
            have q1 := SLO.out wx
            unfold atG
            go_simp
            simp only [uponG]
            exact ⟨by trivial, rfl⟩
        refine ⟨?_, ?_⟩
        · skip
          refine Rd.v_build #[.slice (some p0) i c, lo9 (some p0) T.length c (i + 1)] 25 2 (by simp only [List.getElem?_toArray, List.getElem?_cons_zero, List.getElem?_cons_succ]; exact rfl) rfl (by go_simp) (fun wx hx hD => by rw [exec_buildSS9]; simp only [List.map_toArray, List.map_cons, List.map_nil]; go_simp; exact run_buildSS9 _ _ S1.out S2.out _) fun g8 => ?_
          refine ⟨?_, ?_⟩
          · skip
            refine Rd.v_ownZ9 (zs9 (rst9 T y)) (by simp only [List.getElem?_toArray, List.getElem?_cons_zero, List.getElem?_cons_succ]; exact rfl) rfl (by go_simp) (fun wx hx hD => ?_) fun v => ?_
            · go_simp
              exact Rd.upon9_callZ hx hD (CC.out wx _ (rd_two9 (hD.at 0 rfl) ((HV.out.below hx.low (Nat.le_refl _)).take9 HIL.out) ((HV.out.below hx.low (Nat.le_refl _)).drop9 HIL1.out HCAP.out)))
            refine ⟨?_, ?_⟩
            · skip
              refine Rd.v_known9 (.agg (nv9 s)) (by simp only [List.getElem?_toArray, List.getElem?_cons_zero, List.getElem?_cons_succ]; exact rfl) rfl (by go_simp) (fun wx hx hD => ?_) ?_
              · go_simp
                exact Rd.upon9_callK hx hD (CP.out _ wx (hD.rdZ9 0 rfl RLEN.out))
              refine Rd.v_box (nv9 fun _ => 0) 122 (by simp only [List.getElem?_toArray, List.getElem?_cons_zero, List.getElem?_cons_succ]; exact rfl) rfl (by go_simp) (fun wx hx hD => by rw [nv9_zero]; go_simp) fun g11 => ?_
              refine Rd.v_put 0 g11 (nv9 fun _ => 0) (nv9 s) 122 rfl (.cons _ (.cons _ (.cons _ (.refl _)))) (by simp only [List.getElem?_toArray, List.getElem?_cons_zero, List.getElem?_cons_succ]; exact rfl) rfl (by go_simp) (fun wx hx hD => ?_) ?_
              · have rr := hD.rowOk (n := 32) 0 rfl (nv9_size _)
                go_simp
              rintro wz - hz
              go_simp
              exact key g8 v g11 _ (hz.sub (.cons_cons _ (.cons _ (.cons _ (.refl _)))))
            · skip
              refine Rd.v_box (nv9 fun _ => 0) 122 (by simp only [List.getElem?_toArray, List.getElem?_cons_zero, List.getElem?_cons_succ]; exact rfl) rfl (by go_simp) (fun wx hx hD => by rw [nv9_zero]; go_simp) fun g11 => ?_
              refine Rd.v_known9 (.agg (nv9 s)) (by simp only [List.getElem?_toArray, List.getElem?_cons_zero, List.getElem?_cons_succ]; exact rfl) rfl (by go_simp) (fun wx hx hD => ?_) ?_
              · go_simp
                exact Rd.upon9_callK hx hD (CP.out _ wx (hD.rdZ9 1 rfl RLEN.out))
              refine Rd.v_put 0 g11 (nv9 fun _ => 0) (nv9 s) 122 rfl (.cons _ (.cons _ (.cons _ (.refl _)))) (by simp only [List.getElem?_toArray, List.getElem?_cons_zero, List.getElem?_cons_succ]; exact rfl) rfl (by go_simp) (fun wx hx hD => ?_) ?_
              · have rr := hD.rowOk (n := 32) 0 rfl (nv9_size _)
                go_simp
              rintro wz - hz
              go_simp
              exact key g8 v g11 _ (hz.sub (.cons_cons _ (.cons _ (.cons _ (.refl _)))))
          · skip
            refine Rd.v_box (nv9 fun _ => 0) 122 (by simp only [List.getElem?_toArray, List.getElem?_cons_zero, List.getElem?_cons_succ]; exact rfl) rfl (by go_simp) (fun wx hx hD => by rw [nv9_zero]; go_simp) fun g11 => ?_
            refine Rd.v_ownZ9 (zs9 (rst9 T y)) (by simp only [List.getElem?_toArray, List.getElem?_cons_zero, List.getElem?_cons_succ]; exact rfl) rfl (by go_simp) (fun wx hx hD => ?_) fun v => ?_
            · go_simp
              exact Rd.upon9_callZ hx hD (CC.out wx _ (rd_two9 (hD.at 1 rfl) ((HV.out.below hx.low (Nat.le_refl _)).take9 HIL.out) ((HV.out.below hx.low (Nat.le_refl _)).drop9 HIL1.out HCAP.out)))
            refine Rd.v_known9 (.agg (nv9 s)) (by simp only [List.getElem?_toArray, List.getElem?_cons_zero, List.getElem?_cons_succ]; exact rfl) rfl (by go_simp) (fun wx hx hD => ?_) ?_
            · go_simp
              exact Rd.upon9_callK hx hD (CP.out _ wx (hD.rdZ9 0 rfl RLEN.out))
            refine Rd.v_put 1 g11 (nv9 fun _ => 0) (nv9 s) 122 rfl (.cons _ (.cons _ (.cons _ (.refl _)))) (by simp only [List.getElem?_toArray, List.getElem?_cons_zero, List.getElem?_cons_succ]; exact rfl) rfl (by go_simp) (fun wx hx hD => ?_) ?_
            · have rr := hD.rowOk (n := 32) 1 rfl (nv9_size _)
              go_simp
            rintro wz - hz
            go_simp
            exact key g8 v g11 _ (hz.sub (.cons _ (.cons_cons _ (.cons _ (.refl _)))))
        · skip
          refine Rd.v_box (nv9 fun _ => 0) 122 (by simp only [List.getElem?_toArray, List.getElem?_cons_zero, List.getElem?_cons_succ]; exact rfl) rfl (by go_simp) (fun wx hx hD => by rw [nv9_zero]; go_simp) fun g11 => ?_
          refine Rd.v_build #[.slice (some p0) i c, lo9 (some p0) T.length c (i + 1)] 25 2 (by simp only [List.getElem?_toArray, List.getElem?_cons_zero, List.getElem?_cons_succ]; exact rfl) rfl (by go_simp) (fun wx hx hD => by rw [exec_buildSS9]; simp only [List.map_toArray, List.map_cons, List.map_nil]; go_simp; exact run_buildSS9 _ _ S1.out S2.out _) fun g8 => ?_
          refine Rd.v_ownZ9 (zs9 (rst9 T y)) (by simp only [List.getElem?_toArray, List.getElem?_cons_zero, List.getElem?_cons_succ]; exact rfl) rfl (by go_simp) (fun wx hx hD => ?_) fun v => ?_
          · go_simp
            exact Rd.upon9_callZ hx hD (CC.out wx _ (rd_two9 (hD.at 0 rfl) ((HV.out.below hx.low (Nat.le_refl _)).take9 HIL.out) ((HV.out.below hx.low (Nat.le_refl _)).drop9 HIL1.out HCAP.out)))
          refine Rd.v_known9 (.agg (nv9 s)) (by simp only [List.getElem?_toArray, List.getElem?_cons_zero, List.getElem?_cons_succ]; exact rfl) rfl (by go_simp) (fun wx hx hD => ?_) ?_
          · go_simp
            exact Rd.upon9_callK hx hD (CP.out _ wx (hD.rdZ9 0 rfl RLEN.out))
          refine Rd.v_put 2 g11 (nv9 fun _ => 0) (nv9 s) 122 rfl (.cons _ (.cons _ (.cons _ (.refl _)))) (by simp only [List.getElem?_toArray, List.getElem?_cons_zero, List.getElem?_cons_succ]; exact rfl) rfl (by go_simp) (fun wx hx hD => ?_) ?_
          · have rr := hD.rowOk (n := 32) 2 rfl (nv9_size _)
            go_simp
          rintro wz - hz
          go_simp
          exact key g8 v g11 _ (hz.sub (.cons _ (.cons _ (.cons_cons _ (.refl _)))))
      intro g8 vc g11 w2 H2
      have H3 := hide H2
      have l0 := H2.cell 1 rfl (nv9_e0 e0 e1 hy16)
      have l1 := H2.cell 1 rfl (nv9_e0 e0 e1 hx16)
      have l2 := H2.cell 1 rfl (nv9_e1 e0 e1 hx16)
      have s0 := H2.cell 0 rfl (nv9_get s hy0)
      have s1 := H2.cell 0 rfl (nv9_get s hx0)
      have s2 := H2.cell 0 rfl (nv9_get s hx1)
      obtain ⟨r0, r1⟩ := H2.rowCell9 2 rfl (zc_at9 HOLD.out)
      clear H2 HHid hH
      have hfin := HFYY.out
      unfold ind9 at hfin
      have q0 : ((e0 y : Nat) : Int) < 32 := by omega
      have q1 : ((e0 x : Nat) : Int) < 32 := by omega
      have q2 : ((e1 x : Nat) : Int) < 32 := by omega
      have n1 : g11 ≠ w1.heap.size + 1 := fun e => H3.out.apart (i := 0) (j := 2) (by omega) rfl rfl (g := g11) rfl (by simp [pRow, Value.ownBlock, e])
      have n2 : ¬ (w1.heap.size + 1 = g11) := fun e => n1 e.symm
      generalize e0 y = ey at *
      generalize e0 x = ex at *
      generalize e1 x = fx at *
      generalize s ey = b0 at *
      generalize s ex = b1 at *
      generalize s fx = b2 at *
      go_simp
      by_cases c1 : b1 = b0
      · have d1 : ((b1 : Int) == (b0 : Int)) = true := by rw [c1]; simp
        by_cases c2 : b2 = b0
        · have d2 : ((b2 : Int) == (b0 : Int)) = true := by rw [c2]; simp
          rw [if_pos c2] at hfin
          rw [if_pos c1] at hfin
          have HS := HST.out
          rw [hfin] at HS
          have hQ := ((H3.out.put 2 rfl y (.int .i64 (-1))).put 2 rfl y (.int .i64 0))
          simp only [List.set_cons_succ, List.set_cons_zero] at hQ
          rw [zc_set9, zc_set9, List.set_set, show (cuz9 F x T i m).set y 0 = cuz9 F x T (i + 1) m from HS] at hQ
          have HQ := hide hQ.tail
          clear hQ HS hfin c1 c2
          go_wp2
          go_roundw
          case rel => exact ⟨i + 1, by omega, by go_num, HQ.out⟩
          case measure => simp [intOf]; omega
        · have d2 : ((b2 : Int) == (b0 : Int)) = false := by simp; omega
          rw [if_neg c2] at hfin
          rw [if_pos c1] at hfin
          have HS := HST.out
          rw [hfin] at HS
          have hQ := (H3.out.put 2 rfl y (.int .i64 (-1)))
          simp only [List.set_cons_succ, List.set_cons_zero] at hQ
          rw [zc_set9, show (cuz9 F x T i m).set y (-1) = cuz9 F x T (i + 1) m from HS] at hQ
          have HQ := hide hQ.tail
          clear hQ HS hfin c1 c2
          go_wp2
          go_roundw
          case rel => exact ⟨i + 1, by omega, by go_num, HQ.out⟩
          case measure => simp [intOf]; omega
      · have d1 : ((b1 : Int) == (b0 : Int)) = false := by simp; omega
        by_cases c2 : b2 = b0
        · have d2 : ((b2 : Int) == (b0 : Int)) = true := by rw [c2]; simp
          rw [if_pos c2] at hfin
          rw [if_neg c1] at hfin
          have HS := HST.out
          rw [hfin] at HS
          have hQ := (H3.out.put 2 rfl y (.int .i64 1))
          simp only [List.set_cons_succ, List.set_cons_zero] at hQ
          rw [zc_set9, show (cuz9 F x T i m).set y 1 = cuz9 F x T (i + 1) m from HS] at hQ
          have HQ := hide hQ.tail
          clear hQ HS hfin c1 c2
          go_wp2
          go_roundw
          case rel => exact ⟨i + 1, by omega, by go_num, HQ.out⟩
          case measure => simp [intOf]; omega
        · have d2 : ((b2 : Int) == (b0 : Int)) = false := by simp; omega
          rw [if_neg c2] at hfin
          rw [if_neg c1] at hfin
          have HS := HST.out
          rw [hfin] at HS
          have hQ := H3.out
          rw [← set_same9 HOLD.out, show (cuz9 F x T i m).set y 0 = cuz9 F x T (i + 1) m from HS] at hQ
          have HQ := hide hQ.tail
          clear hQ HS hfin c1 c2
          go_wp2
          go_roundw
          case rel => exact ⟨i + 1, by omega, by go_num, HQ.out⟩
          case measure => simp [intOf]; omega
    · obtain rfl : i = T.length := by omega
      have HQ := hide (show Holds w wr [pZ9 (.slice (some ⟨w1.heap.size + 1, 0, none⟩) m m) ((List.range m).map F)] by
        have h := hH.sub (L' := [pRow (.slice (some ⟨w1.heap.size + 1, 0, none⟩) m m) 2 1 m (zc (cuz9 F x T T.length m))]) (.cons _ (.cons_cons _ (List.nil_sublist _)))
        rw [HEND.out] at h
        unfold pZ9
        rw [List.length_map, List.length_range]
        exact h)
      clear hil hi hH
      go_wp2
      go_ret
      exact ⟨_, rfl, HQ.out⟩
end Go.Proofs.Ytmapjjfefjoemaa

namespace Go.Proofs.Ytmapjjfefjoemaa
open Go.RowKit

/-- the rows of a list of lists of whole numbers, a part each -/
def rowsZ9 : List Value → List (List Int) → List Part
  | v :: vs, l :: ls => pZ9 v l :: rowsZ9 vs ls
  | _, _ => []
theorem rowsZ9_snoc {vs : List Value} {ls : List (List Int)} (hl : vs.length = ls.length) (u : Value) (l : List Int) : rowsZ9 (vs ++ [u]) (ls ++ [l]) = rowsZ9 vs ls ++ [pZ9 u l] := by
  induction vs generalizing ls with
  | nil => cases ls with
    | nil => rfl
    | cons => simp at hl
  | cons v vs ih => cases ls with
    | nil => simp at hl
    | cons m ls => simp only [List.cons_append, rowsZ9]; rw [ih (by simpa using hl)]
theorem rowsZ9_at {vs : List Value} {ls : List (List Int)} {i : Nat} {u : Value} {l : List Int} (h1 : vs[i]? = some u) (h2 : ls[i]? = some l) : (rowsZ9 vs ls)[i]? = some (pZ9 u l) := by
  induction vs generalizing ls i with
  | nil => simp at h1
  | cons v vs ih => cases ls with
    | nil => simp at h2
    | cons m ls =>
      cases i with
      | zero => simp at h1 h2; subst h1 h2; rfl
      | succ i => simp at h1 h2; simp only [rowsZ9, List.getElem?_cons_succ]; exact ih h1 h2
theorem Holds.rowEndZ9 {w0 w : World} {u : Value} {l : List Int} {A : List Part} {vs : List Value} {ls : List (List Int)} (hl : vs.length = ls.length) (h : Holds w0 w (pZ9 u l :: (A ++ rowsZ9 vs ls))) : Holds w0 w (A ++ rowsZ9 (vs ++ [u]) (ls ++ [l])) := by
  refine h.perm ?_
  rw [rowsZ9_snoc hl, ← List.append_assoc]
  exact (List.perm_append_comm (l₁ := [pZ9 u l]) (l₂ := A ++ rowsZ9 vs ls))
theorem Holds.own2z9 {w0 w : World} {v : Value} {vs : List Value} {ls : List (List Int)} (hl : vs.length = ls.length) (h' : Holds w0 w (pVals v vs :: rowsZ9 vs ls)) : Own2z w0.heap.size w v vs ls := by
  have at_ : ∀ (i : Nat) (u : Value) (l : List Int), vs[i]? = some u → ls[i]? = some l → (pVals v vs :: rowsZ9 vs ls)[i + 1]? = some (pZ9 u l) := fun i u l h1 h2 => by rw [List.getElem?_cons_succ]; exact rowsZ9_at h1 h2
  refine ⟨hl, h'.row 0 rfl, fun i u l h1 h2 => h'.ownZ9 (i + 1) (at_ i u l h1 h2), fun i j u u' hij h1 h2 => ?_⟩
  rcases hb : u.ownBlock with _ | g
  · exact .inl rfl
  · refine .inr fun e => ?_
    have li : i < ls.length := by rw [← hl]; exact (List.getElem?_eq_some_iff.1 h1).1
    have lj : j < ls.length := by rw [← hl]; exact (List.getElem?_eq_some_iff.1 h2).1
    exact h'.apart (i := i + 1) (j := j + 1) (by omega) (at_ i u _ h1 (List.getElem?_eq_getElem li)) (at_ j u' _ h2 (List.getElem?_eq_getElem lj)) (g := g) hb e.symm
theorem valsZ_one9 {w0 w : World} {u : Value} {l : List Int} {L : List Part} (i : Nat) (h : Holds w0 w L) (hi : L[i]? = some (pZ9 u l)) : u.oneCell' = true := by
  obtain ⟨A, c, e⟩ := own_slice (h.row i hi)
  rw [e]; rfl
/-- the left edges, their cycles -/
def lef9 (f g : Nat → Nat) (m : Nat) : List Nat := (spl9 (fb9 f g m) (fw9 f g m) (tre9 f g m).2).2
def cyl9 (f g : Nat → Nat) (m x : Nat) : List Int := (List.range m).map (cyo9 (vb9 f m) (vw9 g m) (tre9 f g m).1 x)
def hbs9 (f g : Nat → Nat) (m : Nat) : List (List Int) := (lef9 f g m).map (cyl9 f g m)
theorem spl9_disj (e0 e1 : Nat → Nat) {l : List Nat} (hn : l.Nodup) : ∀ x ∈ (spl9 e0 e1 l).2, x ∉ (spl9 e0 e1 l).1 := by
  induction l using snocInd9 with
  | h0 => intro x hx; simp [spl9] at hx
  | hs l y ih =>
    have hn' := List.nodup_append.1 hn
    have ih' := ih hn'.1
    have hy : y ∉ l := fun h => hn'.2.2 y h y (by simp) rfl
    have hm := spl9_mem e0 e1 l
    rw [spl9_snoc]; unfold spst9
    split
    · intro x hx
      rcases List.mem_append.1 hx with h | h
      · exact ih' x h
      · obtain rfl : x = y := by simpa using h
        exact fun h2 => hy ((hm x).2 (.inl h2))
    · intro x hx h2
      rcases List.mem_append.1 h2 with h | h
      · exact ih' x hx h
      · obtain rfl : x = y := by simpa using h
        exact hy ((hm x).2 (.inr hx))
theorem lef9_facts {f g : Nat → Nat} {m : Nat} : (∀ x ∈ lef9 f g m, x < m ∧ x ∉ (tre9 f g m).1) ∧ (lef9 f g m).length ≤ m := by
  have h1 : ∀ x ∈ lef9 f g m, x ∈ (tre9 f g m).2 := fun x hx => (spl9_mem _ _ _ x).2 (.inr hx)
  refine ⟨fun x hx => ⟨List.mem_range.1 ((spl9_mem _ _ (List.range m) x).2 (.inr (h1 x hx))), spl9_disj _ _ List.nodup_range x (h1 x hx)⟩, ?_⟩
  have := spl9_len (fb9 f g m) (fw9 f g m) (tre9 f g m).2
  have := tre9_len f g m
  unfold lef9; omega
set_option maxRecDepth 100000 in
set_option maxHeartbeats 2000000 in
theorem homologyBasis_any (f g : Nat → Nat) (m : Nat) (hd : DesN f g m) (w : World) :
    Calls Try.prog 83 #[.agg (dv m f g)] w fun e w' => ∃ v vs, e = .returned v ∧ vs.length = (hbs9 f g m).length ∧ Holds w w' (pVals v vs :: rowsZ9 vs (hbs9 f g m)) := by
  have CS := hide fun w => splitByTree_any f g m hd w
  have CF := hide fun w => faceLinks_any f g m hd w
  have hm := hd.le
  have htl := tre9_len f g m
  obtain ⟨hlf, hll⟩ := lef9_facts (f := f) (g := g) (m := m)
  have hoth : ∀ x ∈ (tre9 f g m).2, x < 16 := fun x hx => by
    have := List.mem_range.1 ((spl9_mem (vb9 f m) (vw9 g m) (List.range m) x).2 (.inr hx)); omega
  have CP := hide fun v w hv => split_any (fb9 f g m) (fw9 f g m) (fl9_lt hd) v (tre9 f g m).2 hoth (by omega) w hv
  have CO := hide fun (x : Nat) (hx : x ∈ lef9 f g m) A c hcap w hv => cycleOfEdge_any f g m hd x (hlf x hx).1 A c (hlf x hx).2 hcap w hv
  have hHB : hbs9 f g m = (lef9 f g m).map (cyl9 f g m) := rfl
  have hlef : lef9 f g m = (spl9 (fb9 f g m) (fw9 f g m) (tre9 f g m).2).2 := rfl
  have hcy : ∀ x, (List.range m).map (cyo9 (vb9 f m) (vw9 g m) (tre9 f g m).1 x) = cyl9 f g m x := fun x => rfl
  have hlm : ∀ x ∈ lef9 f g m, x < m := fun x hx => (hlf x hx).1
  rw [hHB]
  simp only [hcy] at CO
  generalize cyl9 f g m = Y at *
  rw [← hlef] at CP
  generalize spl9 (fb9 f g m) (fw9 f g m) (tre9 f g m).2 = S at *
  generalize lef9 f g m = le at *
  generalize tre9 f g m = T at *
  generalize lk9 (fb9 f g m) (fw9 f g m) = E at *
  have HLM := hide hlm
  clear hd hlf hoth hHB hlef hcy hlm
  have HLL : Hid (le.length ≤ 16) := hide (by omega)
  have HH0 := (Holds.start w).blk (dv m f g) 31 w.heap.size rfl
  go_enter Try.func83, Try.ntmps83
  go_wp2_with fail
  refine (CS.out _).mono ?_
  rintro e w1 ⟨v1, v2, rfl, hk⟩
  have H1 := (HH0.joinL hk).perm List.perm_append_comm
  clear hk HH0
  have hform : ∃ A c, v1 = .slice A T.1.length c ∧ T.1.length ≤ c := by
    rcases (H1.row 0 rfl).2 with ⟨rfl, e⟩ | ⟨g, cap, cur, rfl, _, _, h1, _⟩
    · exact ⟨none, 0, by rw [e], by omega⟩
    · exact ⟨_, cap, rfl, h1⟩
  obtain ⟨A1, c1, rfl, hc1⟩ := hform
  have HC1 := hide hc1; clear hc1
  have cd1 := H1.cells 2 rfl
  go_wp2_with fail
  refine (CF.out _).mono ?_
  rintro e w2 ⟨rfl, hb⟩
  have H2 := H1.call hb
  clear hb H1 cd1
  have RO := hide (rd_nums (H2.own1 1 rfl) (by omega))
  go_wp2_with fail
  refine (CP.out _ _ RO.out).mono ?_
  rintro e w3 ⟨v3, v4, rfl, hk⟩
  have H3 := H2.joinL hk
  clear hk H2 RO
  have H4 : Holds w w3 [pVals (.slice none 0 0) [], pInts (.slice A1 T.1.length c1) T.1, pInts v4 le, pBlk w.heap.size (dv m f g) 31] := by
    have h := (H3.sub (L' := [pInts (.slice A1 T.1.length c1) T.1, pBlk w.heap.size (dv m f g) 31, pInts v4 le]) (.cons_cons _ (.cons _ (.cons_cons _ (.cons _ (.refl _)))))).perm ((List.Perm.swap _ _ _).cons _)
    exact h.nilRow 25 1
  clear H3
  obtain ⟨A4, c4, rfl⟩ := H4.intsForm 2 rfl
  have H5 : Holds w w3 (pVals (.slice none 0 0) [] :: pInts (.slice A1 T.1.length c1) T.1 :: pInts (.slice A4 le.length c4) le :: pBlk w.heap.size (dv m f g) 31 :: rowsZ9 [] ((le.take 0).map Y)) := H4
  clear H4
  go_wp2
  go_loopw [7, 24] (fun q t wr => ∃ (i : Nat) (vs : List Value), i ≤ le.length ∧ t = .int .i64 i ∧ Hid (vs.length = i) ∧ Holds w wr (pVals q vs :: pInts (.slice A1 T.1.length c1) T.1 :: pInts (.slice A4 le.length c4) le :: pBlk w.heap.size (dv m f g) 31 :: rowsZ9 vs ((le.take i).map Y))) (fun _ t _ => le.length - (intOf t).toNat)
  case atStart => exact ⟨0, [], Nat.zero_le _, rfl, hide rfl, H5⟩
  case round =>
    clear H5
    obtain ⟨i, vs, hi, rfl, HVS, hH⟩ := hrel
    have hll2 := HLL.out
    by_cases hil : i < le.length
    · obtain ⟨g4, d4, e4, _, y1, _⟩ := hH.ints 2 rfl hil
      injection e4 with e4 e4a e4b
      subst e4
      clear e4a e4b
      have hym := HLM.out _ (List.getElem_mem hil)
      have COX := hide fun A c hcap w hv => CO.out le[i] (List.getElem_mem hil) A c hcap w hv
      have hst : (le.take (i + 1)).map Y = (le.take i).map Y ++ [Y le[i]] := by rw [List.take_succ_eq_append_getElem hil, List.map_append]; rfl
      have HST := hide hst; clear hst
      have cd := hH.cells 3 rfl
      have RT := hide (rd_nums (hH.own1 1 rfl) (by omega))
      generalize le[i] = y at *
      obtain ⟨A0, c0, rfl⟩ := hH.valsForm 0 rfl
      obtain ⟨nv, hnv⟩ : ∃ nv, nv = vs.length := ⟨_, rfl⟩
      rw [← hnv] at hH ⊢
      have HNV := hide hnv; clear hnv
      go_wp2_with fail
      refine (COX.out _ _ HC1.out _ RT.out).mono ?_
      rintro e w5 ⟨u, rfl, hk⟩
      have H6 := (hH.joinL hk).perm List.perm_append_comm
      have H6' : Holds w w5 (pZ9 u (Y y) :: pVals (.slice A0 nv c0) vs :: pInts (.slice A1 T.1.length c1) T.1 :: pInts (.slice (some ⟨g4, 0, none⟩) le.length c4) le :: pBlk w.heap.size (dv m f g) 31 :: rowsZ9 vs ((le.take i).map Y)) := H6
      have ho := valsZ_one9 0 H6' rfl
      have HBV := hide (show vs.length ≤ 1000000 by have := HVS.out; omega)
      clear hk hH H6 cd y1
      have hvu : ∃ A c, u = .slice A (Y y).length c := own_slice (H6'.row 0 rfl)
      obtain ⟨Au, cu, rfl⟩ := hvu
      have HOO := hide ho; clear ho
      go_wp2_with (at_builtin; refine appRow (H6'.alloc _) 1 rfl w5.heap.size (.slice Au (Y y).length cu) HOO.out 25 ?_ HBV.out rfl _ _ rfl rfl rfl ?_)
      · exact heap_at _ _ _ rfl
      intro v' w' h1
      have h2 : Holds w w' (pZ9 (.slice Au (Y y).length cu) (Y y) :: ([pVals v' (vs ++ [.slice Au (Y y).length cu]), pInts (.slice A1 T.1.length c1) T.1, pInts (.slice (some ⟨g4, 0, none⟩) le.length c4) le, pBlk w.heap.size (dv m f g) 31] ++ rowsZ9 vs ((le.take i).map Y))) := by first | exact h1 | (rw [List.map_take]; exact h1)
      have h3 := h2.rowEndZ9 (by rw [List.length_map, List.length_take, HVS.out]; omega)
      rw [← HST.out] at h3
      have HQ := hide h3
      clear H6' h1 h2 h3
      go_wp2
      go_roundw
      case rel => exact ⟨i + 1, vs ++ [_], by omega, by go_num, hide (by rw [List.length_append, HVS.out]; rfl), HQ.out⟩
      case measure => simp [intOf]; omega
    · obtain rfl : i = le.length := by omega
      rw [List.take_length] at hH
      have h2 := (hH.perm ((List.Perm.swap _ _ _).trans ((List.Perm.cons _ ((List.Perm.swap _ _ _).trans (List.Perm.cons _ (List.Perm.swap _ _ _))))))).tail.tail.tail
      have HQ := hide h2
      have HLN := hide (show vs.length = (le.map Y).length by rw [List.length_map]; exact HVS.out)
      clear hil hi hH h2
      go_wp2
      go_ret
      exact ⟨_, vs, rfl, HLN.out, HQ.out⟩
end Go.Proofs.Ytmapjjfefjoemaa

namespace Go.Proofs.Ytmapjjfefjoemaa
open Go.RowKit

theorem cycs_pos9 {p : Nat → Nat} {m : Nat} (hp : PermN p m) : 0 < (cycs p m).length := by
  have h0 := hp.1
  have hl := (cycs_flat hp.2.2.1 hp.2.1).length_eq
  rw [List.length_range] at hl
  rcases h : cycs p m with _ | ⟨c, cs⟩
  · rw [h] at hl; simp at hl; omega
  · simp
set_option maxRecDepth 100000 in
set_option maxHeartbeats 2000000 in
theorem sCycle_any (v : Value) (l : List Int) (f g : Nat → Nat) (m : Nat) (hd : DesN f g m) (hl : l.length = m) (hs : ∀ x ∈ l, -100000 ≤ x ∧ x ≤ 100000) (w : World) (hv : RdZ w v l) :
    Calls Try.prog 73 #[.agg (dv m f g), v] w fun e w' => e = .returned (.bool (cyc9 l f g m)) ∧ Below w.heap.size w w' := by
  have CB := hide fun w => sCycles_any f m hd.black w
  have CW := hide fun w => sCycles_any g m hd.white w
  have hcl : ∀ c ∈ cycs f m ++ cycs g m, c.length ≤ 16 ∧ ∀ x ∈ c, x < m := fun c hc => by
    rcases List.mem_append.1 hc with h | h
    · exact ⟨cyc_len9 hd.black h, fun x hx => cyc_lt9 hd.black h hx⟩
    · exact ⟨cyc_len9 hd.white h, fun x hx => cyc_lt9 hd.white h hx⟩
  have HCL := hide hcl; clear hcl
  have LB := hide (cycs_pos9 hd.black)
  have LW := hide (cycs_pos9 hd.white)
  have kb := cycs_le hd.black
  have kw := cycs_le hd.white
  have hm := hd.le
  obtain ⟨r, hr⟩ : ∃ r, r = cyc9 l f g m := ⟨_, rfl⟩
  rw [← hr]
  have HR := hide hr; clear hr
  unfold cyc9 at HR
  generalize cycs f m = cb at *
  generalize cycs g m = cw at *
  have KB := hide (show cb.length + cw.length ≤ 1000 by omega)
  clear kb kw
  have HS := hide hs; clear hs
  have HL := hide hl; clear hl
  have HV := hide hv
  clear hd
  obtain ⟨A0, c0, rfl, _⟩ := hv.form
  clear hv
  have HH0 := (Holds.start w).blk (dv m f g) 31 w.heap.size rfl
  have hn := dv_n m f g
  go_enter Try.func73, Try.ntmps73
  go_wp2
  apply Rd.region_RV9 (w0 := w) [pBlk w.heap.size (dv m f g) 31] [pBlk w.heap.size (dv m f g) 31] [0, 5, 6, 11, 12] (.q 1 <| .q 2 <| .q 3 <| .q 4 <| .q 7 <| .q 8 <| .q 9 <| .q 10 <| .s2 0 (.s1 5 <| .s1 6 <| .s1 11 <| .s1 12 <| .q 13 .fin) 5 (.s1 0 <| .s1 6 <| .s1 11 <| .s1 12 <| .q 13 .fin)) HH0 (.refl _) (by kernel_rfl) (by kernel_rfl) (by kernel_rfl) (R := Rd.rV9 w (cb.length + cw.length) fun q vs => pVals q vs :: (rowsP vs (cb ++ cw) ++ [pBlk w.heap.size (dv m f g) 31]))
  case h =>
    intro K key
    iterate 8
      apply Rd.v_q
      · simp only [List.getElem?_toArray, List.getElem?_cons_zero, List.getElem?_cons_succ]; exact rfl
      · rfl
      · go_simp
      · intro wx hx
        have q1 := hx.cells 0 rfl
        have q2 := hx.cell 0 rfl hn
        unfold atG
        go_simp
        simp only [uponG]
        exact ⟨by trivial, rfl⟩
    refine ⟨?_, ?_⟩
    · skip
      refine Rd.v_build #[] 25 0 (by simp only [List.getElem?_toArray, List.getElem?_cons_zero, List.getElem?_cons_succ]; exact rfl) rfl (by go_simp) (fun wx hx hD => by go_simp) fun g0 => ?_
      refine Rd.v_s9 (Rd.rV9 w cb.length fun v vs => pBlk g0 #[] 25 :: pVals v vs :: (rowsP vs cb ++ [pBlk w.heap.size (dv m f g) 31])) Rd.rV9_stable (by simp only [List.getElem?_toArray, List.getElem?_cons_zero, List.getElem?_cons_succ]; exact rfl) rfl (by go_simp) (fun wx hx hD => ?_) ?_
      · go_simp
        simp only [Rd.upon9_eq, Rd.uponE]
        refine ⟨by trivial, (CB.out wx).mono ?_⟩
        rintro e wy ⟨v, rfl, hb, ho⟩
        obtain ⟨A, c, vs, rfl, hv⟩ := own2_form ho
        have hj := hD.joinL (Holds.ofOwn2 hb hv)
        exact ⟨_, rfl, hx.call hb, A, c, vs, rfl, hv.len, hj.perm (List.Perm.cons _ List.perm_append_comm)⟩
      rintro v ⟨_, _, hv⟩
      obtain ⟨A1, c1, rfl⟩ := Rd.rV9_form hv
      clear hv
      refine Rd.v_s9 (Rd.rV9 w cb.length fun q vs => pVals q vs :: (rowsP vs cb ++ [pBlk w.heap.size (dv m f g) 31])) Rd.rV9_stable (by simp only [List.getElem?_toArray, List.getElem?_cons_zero, List.getElem?_cons_succ]; exact rfl) rfl (by go_simp) (fun wx hx hD => ?_) ?_
      · refine Rd.rV9_elim hD fun vs hl hH => ?_
        have hH2 := hH.noVals9 0 rfl
        refine Rd.upon_rows9 hH2 0 1 rfl rfl (by have := LB.out; omega) (vals_one9 hl hH2 (fun a ha => List.mem_cons_of_mem _ (List.mem_cons_of_mem _ (List.mem_append_left _ ha)))) (by have := KB.out; simp; omega) (fun v' w' h2 => ?_) _ _ rfl (by go_simp) (by go_simp)
        have h3 : Holds w w' (pVals v' vs :: (rowsP vs cb ++ [pBlk w.heap.size (dv m f g) 31])) := h2.sub (.cons_cons _ (.cons _ (.refl _)))
        exact ⟨h3.sub (.cons _ (List.sublist_append_right _ _)), Rd.rV9_of rfl hl h3⟩
      rintro v ⟨_, _, hv⟩
      obtain ⟨A2, c2, rfl⟩ := Rd.rV9_form hv
      clear hv
      refine Rd.v_s9 (Rd.rW9 w cw.length cb.length fun v us vs => pVals v us :: pVals (.slice A2 cb.length c2) vs :: (rowsP us cw ++ (rowsP vs cb ++ [pBlk w.heap.size (dv m f g) 31]))) Rd.rW9_stable (by simp only [List.getElem?_toArray, List.getElem?_cons_zero, List.getElem?_cons_succ]; exact rfl) rfl (by go_simp) (fun wx hx hD => ?_) ?_
      · refine Rd.rV9_elim hD fun vs hl hH => ?_
        go_simp
        simp only [Rd.upon9_eq, Rd.uponE]
        refine ⟨by trivial, (CW.out wx).mono ?_⟩
        rintro e wy ⟨v, rfl, hb, ho⟩
        obtain ⟨A, c, us, rfl, hv⟩ := own2_form ho
        have hj := hH.joinL (Holds.ofOwn2 hb hv)
        exact ⟨_, rfl, hx.call hb, A, c, us, vs, rfl, hv.len, hl, hj.perm (List.perm_append_comm.trans (List.Perm.cons _ List.perm_middle))⟩
      rintro v ⟨_, _, hv⟩
      obtain ⟨A3, c3, rfl⟩ := Rd.rW9_form hv
      clear hv
      refine Rd.v_s9 (Rd.rV9 w (cb.length + cw.length) fun q vs => pVals q vs :: (rowsP vs (cb ++ cw) ++ [pBlk w.heap.size (dv m f g) 31])) Rd.rV9_stable (by simp only [List.getElem?_toArray, List.getElem?_cons_zero, List.getElem?_cons_succ]; exact rfl) rfl (by go_simp) (fun wx hx hD => ?_) ?_
      · refine Rd.rW9_elim hD fun us vs hu hl hH => ?_
        refine Rd.upon_rows9 hH 1 0 rfl rfl (by have := LW.out; omega) (vals_one9 hu hH (fun a ha => List.mem_cons_of_mem _ (List.mem_cons_of_mem _ (List.mem_append_left _ ha)))) (by have := KB.out; omega) (fun v' w' h2 => ?_) _ _ rfl (by go_simp) (by go_simp)
        have h3 : Holds w w' (pVals v' (vs ++ us) :: (rowsP (vs ++ us) (cb ++ cw) ++ [pBlk w.heap.size (dv m f g) 31])) := by
          rw [rowsP_append9 hl]
          refine h2.tail.perm (List.Perm.cons _ ?_)
          rw [← List.append_assoc]
          exact List.perm_append_comm.append_right _
        exact ⟨h3.sub (.cons _ (List.sublist_append_right _ _)), Rd.rV9_of rfl (by rw [List.length_append, hl, hu]) h3⟩
      rintro v -
      iterate 1
        apply Rd.v_q
        · simp only [List.getElem?_toArray, List.getElem?_cons_zero, List.getElem?_cons_succ]; exact rfl
        · rfl
        · go_simp
        · intro wx hx
          unfold atG
          go_simp
          simp only [uponG]
          exact ⟨by trivial, rfl⟩
      rintro wz - hz
      go_simp
      exact key v g0 A1 c1 A2 c2 A3 c3 _ hz
    · skip
      refine Rd.v_s9 (Rd.rV9 w cb.length fun v vs => pVals v vs :: (rowsP vs cb ++ [pBlk w.heap.size (dv m f g) 31])) Rd.rV9_stable (by simp only [List.getElem?_toArray, List.getElem?_cons_zero, List.getElem?_cons_succ]; exact rfl) rfl (by go_simp) (fun wx hx hD => ?_) ?_
      · go_simp
        simp only [Rd.upon9_eq, Rd.uponE]
        refine ⟨by trivial, (CB.out wx).mono ?_⟩
        rintro e wy ⟨v, rfl, hb, ho⟩
        obtain ⟨A, c, vs, rfl, hv⟩ := own2_form ho
        have hj := hD.joinL (Holds.ofOwn2 hb hv)
        exact ⟨_, rfl, hx.call hb, A, c, vs, rfl, hv.len, hj.perm (List.perm_append_comm)⟩
      rintro v ⟨_, _, hv⟩
      obtain ⟨A1, c1, rfl⟩ := Rd.rV9_form hv
      clear hv
      refine Rd.v_s9 (Rd.rN9 w cb.length fun g0 vs => pBlk g0 #[] 25 :: pVals (.slice A1 cb.length c1) vs :: (rowsP vs cb ++ [pBlk w.heap.size (dv m f g) 31])) Rd.rN9_stable (by simp only [List.getElem?_toArray, List.getElem?_cons_zero, List.getElem?_cons_succ]; exact rfl) rfl (by go_simp) (fun wx hx hD => ?_) ?_
      · refine Rd.rV9_elim hD fun vs hl hH => ?_
        go_simp
        simp only [Rd.upon9_eq, Rd.uponE]
        exact ⟨hx.alloc _, _, vs, rfl, hl, hH.blk _ _ _ rfl⟩
      rintro v0 ⟨_, _, hv⟩
      obtain ⟨g0, rfl⟩ := Rd.rN9_form hv
      clear hv
      refine Rd.v_s9 (Rd.rV9 w cb.length fun q vs => pVals q vs :: (rowsP vs cb ++ [pBlk w.heap.size (dv m f g) 31])) Rd.rV9_stable (by simp only [List.getElem?_toArray, List.getElem?_cons_zero, List.getElem?_cons_succ]; exact rfl) rfl (by go_simp) (fun wx hx hD => ?_) ?_
      · refine Rd.rN9_elim hD fun vs hl hH => ?_
        have hH2 := hH.noVals9 0 rfl
        refine Rd.upon_rows9 hH2 0 1 rfl rfl (by have := LB.out; omega) (vals_one9 hl hH2 (fun a ha => List.mem_cons_of_mem _ (List.mem_cons_of_mem _ (List.mem_append_left _ ha)))) (by have := KB.out; simp; omega) (fun v' w' h2 => ?_) _ _ rfl (by go_simp) (by go_simp)
        have h3 : Holds w w' (pVals v' vs :: (rowsP vs cb ++ [pBlk w.heap.size (dv m f g) 31])) := h2.sub (.cons_cons _ (.cons _ (.refl _)))
        exact ⟨h3.sub (.cons _ (List.sublist_append_right _ _)), Rd.rV9_of rfl hl h3⟩
      rintro v ⟨_, _, hv⟩
      obtain ⟨A2, c2, rfl⟩ := Rd.rV9_form hv
      clear hv
      refine Rd.v_s9 (Rd.rW9 w cw.length cb.length fun v us vs => pVals v us :: pVals (.slice A2 cb.length c2) vs :: (rowsP us cw ++ (rowsP vs cb ++ [pBlk w.heap.size (dv m f g) 31]))) Rd.rW9_stable (by simp only [List.getElem?_toArray, List.getElem?_cons_zero, List.getElem?_cons_succ]; exact rfl) rfl (by go_simp) (fun wx hx hD => ?_) ?_
      · refine Rd.rV9_elim hD fun vs hl hH => ?_
        go_simp
        simp only [Rd.upon9_eq, Rd.uponE]
        refine ⟨by trivial, (CW.out wx).mono ?_⟩
        rintro e wy ⟨v, rfl, hb, ho⟩
        obtain ⟨A, c, us, rfl, hv⟩ := own2_form ho
        have hj := hH.joinL (Holds.ofOwn2 hb hv)
        exact ⟨_, rfl, hx.call hb, A, c, us, vs, rfl, hv.len, hl, hj.perm (List.perm_append_comm.trans (List.Perm.cons _ List.perm_middle))⟩
      rintro v ⟨_, _, hv⟩
      obtain ⟨A3, c3, rfl⟩ := Rd.rW9_form hv
      clear hv
      refine Rd.v_s9 (Rd.rV9 w (cb.length + cw.length) fun q vs => pVals q vs :: (rowsP vs (cb ++ cw) ++ [pBlk w.heap.size (dv m f g) 31])) Rd.rV9_stable (by simp only [List.getElem?_toArray, List.getElem?_cons_zero, List.getElem?_cons_succ]; exact rfl) rfl (by go_simp) (fun wx hx hD => ?_) ?_
      · refine Rd.rW9_elim hD fun us vs hu hl hH => ?_
        refine Rd.upon_rows9 hH 1 0 rfl rfl (by have := LW.out; omega) (vals_one9 hu hH (fun a ha => List.mem_cons_of_mem _ (List.mem_cons_of_mem _ (List.mem_append_left _ ha)))) (by have := KB.out; omega) (fun v' w' h2 => ?_) _ _ rfl (by go_simp) (by go_simp)
        have h3 : Holds w w' (pVals v' (vs ++ us) :: (rowsP (vs ++ us) (cb ++ cw) ++ [pBlk w.heap.size (dv m f g) 31])) := by
          rw [rowsP_append9 hl]
          refine h2.tail.perm (List.Perm.cons _ ?_)
          rw [← List.append_assoc]
          exact List.perm_append_comm.append_right _
        exact ⟨h3.sub (.cons _ (List.sublist_append_right _ _)), Rd.rV9_of rfl (by rw [List.length_append, hl, hu]) h3⟩
      rintro v -
      iterate 1
        apply Rd.v_q
        · simp only [List.getElem?_toArray, List.getElem?_cons_zero, List.getElem?_cons_succ]; exact rfl
        · rfl
        · go_simp
        · intro wx hx
          unfold atG
          go_simp
          simp only [uponG]
          exact ⟨by trivial, rfl⟩
      rintro wz - hz
      go_simp
      exact key v g0 A1 c1 A2 c2 A3 c3 _ hz
  intro q g0 A1 c1 A2 c2 A3 c3 w2 hR
  obtain ⟨A, c, vs, rfl, hvl, H1⟩ := hR
  clear HH0
  have HCS := hide (show cb.length + cw.length = (cb ++ cw).length from List.length_append.symm)
  have HCL2 := HCL
  have HVL := hide (hvl.trans HCS.out)
  have hk1 := KB.out
  rw [HCS.out] at H1 hk1 ⊢
  clear hvl HCS HCL CB CW LB LW KB
  generalize cb ++ cw = cs at *
  have H2 : Holds w w2 (pVals (.slice A cs.length c) vs :: (rowsP vs cs ++ [pBlk w.heap.size (dv m f g) 31])) := H1
  have hK : vs.length = cs.length := HVL.out
  clear H1
  have H3 : Holds w w2 (pVals (.slice A cs.length c) vs :: rowsP vs cs) := H2.sub (.cons_cons _ (List.sublist_append_left _ _))
  clear H2 hK
  go_wp2
  go_loopw [6] (fun t wq => ∃ i : Nat, i ≤ cs.length ∧ t = .int .i64 i ∧ Hid (∀ j (hj : j < cs.length), j < i → (sm9 l cs[j] != 0) = false) ∧ Holds w wq (pVals (.slice A cs.length c) vs :: rowsP vs cs)) (fun t _ => cs.length - (intOf t).toNat)
  case atStart => exact ⟨0, Nat.zero_le _, rfl, hide (fun j hj h => by omega), H3⟩
  case round =>
    clear H3
    obtain ⟨i, hi, rfl, hZ, hH⟩ := hrel
    by_cases hil : i < cs.length
    · have hil' : (i : Int) < cs.length := by omega
      obtain ⟨g0, d0, A', c', e0, hvi, x1, hpart⟩ := hH.rowAt HVL.out 0 rfl (fun _ => rfl) hil
      injection e0 with e0 e0a e0b
      subst e0
      clear e0a e0b hvi
      have hmem := List.getElem_mem hil
      obtain ⟨hci, hcx⟩ := HCL2.out _ hmem
      have HCX := hide hcx; clear hcx
      have RU := hide (rd_nums (hH.own1 (i + (0 + 1)) hpart) (by omega))
      have RV := hide (HV.out.below hH.low (Nat.le_refl _))
      have HZ1 := hide (fun (h : (sm9 l cs[i] != 0) = false) => (fun (j : Nat) (hj : j < cs.length) (h2 : j < i + 1) => (by
          by_cases e : j = i
          · subst e; exact h
          · exact hZ.out j hj (by omega) : (sm9 l cs[j] != 0) = false)))
      have HZ2 := hide (fun (h : (sm9 l cs[i] != 0) = true) => (by rw [HR.out]; exact zer9_bad hil h : r = false))
      clear hpart hmem hZ
      generalize cs[i] = ci at *
      go_wp2
      go_loopw [7, 8] (fun s t wx => ∃ j : Nat, j ≤ ci.length ∧ t = .int .i64 j ∧ s = .int .i64 (sm9 l (ci.take j)) ∧ wr = wx) (fun _ t _ => ci.length - (intOf t).toNat)
      case atStart => exact ⟨0, Nat.zero_le _, rfl, rfl, rfl⟩
      case round =>
        obtain ⟨j, hj, rfl, rfl, rfl⟩ := hrel
        by_cases hjl : j < ci.length
        · have hzs := sm9_take l ci hjl
          have hjl' : j < (zs9 ci).length := by rw [zs9_length]; exact hjl
          obtain ⟨b0, rfl, _, d1⟩ := RU.out.at hjl'
          rw [zs9_get hjl] at d1
          have hxl := HCX.out _ (List.getElem_mem hjl)
          have hxm := HL.out
          generalize ci[j] = x at *
          have hxl' : x < l.length := by omega
          obtain ⟨a0, rfl, _, d2⟩ := RV.out.at hxl'
          rw [List.getD_eq_getElem?_getD, List.getElem?_eq_getElem hxl', Option.getD_some] at hzs
          have hb := sm9_bound (K := 100000) (by omega) HS.out (ci.take j)
          have hb2 := HS.out _ (List.getElem_mem hxl')
          rw [List.length_take] at hb
          generalize l[x] = y at *
          generalize sm9 l (ci.take j) = s at *
          have ws : wrap64 (s + y) = s + y := wr64 (by omega) (by omega)
          have HZS := hide hzs; clear hzs hb hb2 hjl' hxm
          have hx' : (x : Int) < l.length := by omega
          go_wp2
          go_roundw
          case rel => exact ⟨j + 1, by omega, by go_num, by rw [HZS.out, ws], by trivial⟩
          case measure => simp [intOf]; omega
        · obtain rfl : j = ci.length := by omega
          rw [List.take_length]
          clear hjl hj
          rcases hz : (sm9 l ci != 0) with _ | _
          · have hF := hide (HZ1.out hz)
            generalize sm9 l ci = s at *
            go_wp2
            go_roundw
            case rel => exact ⟨i + 1, by omega, by go_num, hF, hH⟩
            case measure => simp [intOf]; omega
          · have hF := hide (HZ2.out hz)
            generalize sm9 l ci = s at *
            go_wp2
            go_ret
            exact ⟨by rw [hF.out]; rfl, hH.low⟩
    · obtain rfl : i = cs.length := by omega
      have hF := hide (show r = true by rw [HR.out]; exact zer9_good fun j hj => hZ.out j hj hj)
      clear hZ hi hil
      go_wp2
      go_ret
      exact ⟨by rw [hF.out]; rfl, hH.low⟩
end Go.Proofs.Ytmapjjfefjoemaa

namespace Go.Proofs.Ytmapjjfefjoemaa
open Go.RowKit

theorem vb9_at {f : Nat → Nat} {m x : Nat} (hx : x < m) : vb9 f m x = whichF f m x := by unfold vb9 upto; rw [if_pos hx]
theorem vw9_at {g : Nat → Nat} {m x : Nat} (hx : x < m) : vw9 g m x = 16 + whichF g m x := by unfold vw9 upto; rw [if_pos hx]
theorem cyc_nodup9 {p : Nat → Nat} {m : Nat} (hp : PermN p m) {c : List Nat} (hc : c ∈ cycs p m) : c.Nodup := by
  have h := cycs_nodup hp
  rw [List.nodup_iff_pairwise_ne, List.pairwise_flatten] at h
  exact List.nodup_iff_pairwise_ne.2 (h.1 c hc)
theorem sum_mem9 {m : Nat} (F : Nat → Int) : ∀ (c : List Nat), c.Nodup → (∀ x ∈ c, x < m) → (c.map F).sum = sR9 m fun z => if z ∈ c then F z else 0
  | [], _, _ => by rw [sR9_congr (G := fun _ => 0) fun z _ => by simp, sR9_zero]; rfl
  | a :: c, hn, hm => by
    have hn' := List.nodup_cons.1 hn
    rw [List.map_cons, List.sum_cons, sum_mem9 F c hn'.2 fun x hx => hm x (List.mem_cons_of_mem _ hx), ← sR9_delta m a F (hm a (by simp)), ← sR9_add]
    refine sR9_congr fun z _ => ?_
    by_cases e : a = z
    · subst e; simp [hn'.1]
    · simp [e, Ne.symm e]
/-- a chain that leaves nothing at the places sums up to nothing at the vertices -/
theorem vert9 {f g : Nat → Nat} {m : Nat} (hd : DesN f g m) {F : Nat → Int} (hF : ∀ q, bd9 (vb9 f m) (vw9 g m) m F q = 0) : ∀ c ∈ cycs f m ++ cycs g m, (c.map F).sum = 0 := by
  intro c hc
  rcases List.mem_append.1 hc with hc | hc
  · obtain ⟨i, hi, rfl⟩ := List.getElem_of_mem hc
    have hi16 : i < 16 := by have := cycs_le hd.black; have := hd.le; omega
    rw [sum_mem9 F _ (cyc_nodup9 hd.black (List.getElem_mem hi)) (fun x hx => cyc_lt9 hd.black (List.getElem_mem hi) hx)]
    refine Eq.trans ?_ (hF i)
    unfold bd9
    refine sR9_congr fun z hz => ?_
    rw [vb9_at hz, vw9_at hz]
    unfold ind9
    rw [if_neg (show ¬ 16 + whichF g m z = i by omega)]
    by_cases e : whichF f m z = i
    · obtain ⟨j, hj, hzj, ej⟩ := which_mem hd.black hz
      have : j = i := by omega
      subst this
      rw [if_pos e, if_pos hzj]; simp
    · rw [if_neg e, if_neg (fun h => e (which_at hd.black hi h))]; simp
  · obtain ⟨i, hi, rfl⟩ := List.getElem_of_mem hc
    have h0 := hF (16 + i)
    rw [sum_mem9 F _ (cyc_nodup9 hd.white (List.getElem_mem hi)) (fun x hx => cyc_lt9 hd.white (List.getElem_mem hi) hx)]
    have : (sR9 m fun z => if z ∈ (cycs g m)[i] then F z else 0) = - bd9 (vb9 f m) (vw9 g m) m F (16 + i) := by
      unfold bd9
      rw [← sR9_neg]
      refine sR9_congr fun z hz => ?_
      rw [vb9_at hz, vw9_at hz]
      unfold ind9
      have := which_lt9 hd.black hz
      rw [if_neg (show ¬ whichF f m z = 16 + i by omega)]
      by_cases e : whichF g m z = i
      · obtain ⟨j, hj, hzj, ej⟩ := which_mem hd.white hz
        have : j = i := by omega
        subst this
        rw [if_pos hzj, if_pos (show 16 + whichF g m z = 16 + j by omega)]; simp
      · rw [if_neg (fun h => e (which_at hd.white hi h)), if_neg (show ¬ 16 + whichF g m z = 16 + i by omega)]; simp
    rw [this, h0]; rfl
/-- what is not yet told of a list -/
def unk9 (N : Nat → Bool) (c : List Nat) : List Nat := c.filter fun y => !N y
theorem tre9_facts {f g : Nat → Nat} {m : Nat} (_hd : DesN f g m) : (∀ z ∈ (tre9 f g m).1, z < m) ∧ Frst9 (vb9 f m) (vw9 g m) (tre9 f g m).1 ∧ (tre9 f g m).1.Nodup ∧ ∀ x, x < m → K9 (vb9 f m) (vw9 g m) (tre9 f g m).1 (vb9 f m x) (vw9 g m x) := by
  refine ⟨fun z hz => List.mem_range.1 ((spl9_mem _ _ (List.range m) z).2 (.inl hz)), spl9_frst _, (spl9_sub _ _ _).1.nodup List.nodup_range, fun x hx => ?_⟩
  have h := K9_edge (e0 := vb9 f m) (e1 := vw9 g m) (L := List.range m) (x := x) (List.mem_range.2 hx)
  unfold K9 at *
  rw [spl9_pcs] at h
  exact h
theorem nodup_one9 {l : List Nat} {a : Nat} (hn : l.Nodup) (ha : a ∈ l) (h : ∀ x ∈ l, x = a) : l.length = 1 := by
  rcases l with _ | ⟨x, _ | ⟨y, l⟩⟩
  · cases ha
  · rfl
  · exfalso
    have h1 := h x (by simp)
    have h2 := h y (by simp)
    have := List.nodup_cons.1 hn
    exact this.1 (by rw [h1, h2]; simp)
/-- while an edge is not told, there is a vertex with one such edge alone -/
theorem unk9_leaf {f g : Nat → Nat} {m : Nat} (hd : DesN f g m) {N : Nat → Bool} (hN : ∀ y, y < m → N y = false → y ∈ (tre9 f g m).1) (hne : ∃ y, y < m ∧ N y = false) : ∃ (j : Nat) (hj : j < (cycs f m ++ cycs g m).length), (unk9 N (cycs f m ++ cycs g m)[j]).length = 1 := by
  obtain ⟨_, hF, _, _⟩ := tre9_facts hd
  obtain ⟨q, _, _, ⟨z, ⟨hz, hzN⟩, hza, huq⟩, _⟩ := leaves9 hF (fun y => y < m ∧ N y = false) (fun y hy => hN y hy.1 hy.2) hne
  have key : ∀ c ∈ cycs f m ++ cycs g m, c.Nodup → (∀ y ∈ c, y < m) → z ∈ c → (∀ y ∈ c, at9 (vb9 f m) (vw9 g m) y q) → (unk9 N c).length = 1 := by
    intro c _ hn hm hzc hc
    refine nodup_one9 (a := z) (List.filter_sublist.nodup hn) (by unfold unk9; rw [List.mem_filter]; exact ⟨hzc, by simp [hzN]⟩) fun y hy => ?_
    unfold unk9 at hy
    rw [List.mem_filter] at hy
    exact huq y ⟨hm y hy.1, by simpa using hy.2⟩ (hc y hy.1)
  rcases hza with e | e
  · rw [vb9_at hz] at e
    obtain ⟨i, hi, hzi, ei⟩ := which_mem hd.black hz
    have hmem := List.getElem_mem hi
    refine ⟨i, by rw [List.length_append]; omega, ?_⟩
    have e2 : (cycs f m ++ cycs g m)[i]'(by rw [List.length_append]; omega) = (cycs f m)[i] := List.getElem_append_left hi
    rw [e2]
    exact key _ (List.mem_append_left _ hmem) (cyc_nodup9 hd.black hmem) (fun y hy => cyc_lt9 hd.black hmem hy) hzi fun y hy => .inl (by
      rw [vb9_at (cyc_lt9 hd.black hmem hy), which_at hd.black hi hy, ← e, ei])
  · rw [vw9_at hz] at e
    obtain ⟨i, hi, hzi, ei⟩ := which_mem hd.white hz
    have hmem := List.getElem_mem hi
    refine ⟨(cycs f m).length + i, by rw [List.length_append]; omega, ?_⟩
    have e2 : (cycs f m ++ cycs g m)[(cycs f m).length + i]'(by rw [List.length_append]; omega) = (cycs g m)[i] := by
      rw [List.getElem_append_right (by omega)]; simp
    rw [e2]
    exact key _ (List.mem_append_right _ hmem) (cyc_nodup9 hd.white hmem) (fun y hy => cyc_lt9 hd.white hmem hy) hzi fun y hy => .inr (by
      rw [vw9_at (cyc_lt9 hd.white hmem hy), which_at hd.white hi hy, ← e, ei])
/-- the numbers that are told -/
def kno9 (F : Nat → Int) (N : Nat → Bool) : Nat → Int := fun y => if N y = true then F y else 0
theorem kno9_sum {F : Nat → Int} {N : Nat → Bool} : ∀ {c : List Nat}, (c.map (kno9 F N)).sum = (c.map F).sum - ((unk9 N c).map F).sum
  | [] => rfl
  | y :: c => by
    have ih := kno9_sum (F := F) (N := N) (c := c)
    simp only [List.map_cons, List.sum_cons, unk9, List.filter_cons] at *
    rcases h : N y with _ | _
    · simp only [kno9, h, Bool.not_false, if_true, Bool.false_eq_true, if_false, List.map_cons, List.sum_cons] at *; omega
    · simp only [kno9, h, Bool.not_true, if_true, Bool.false_eq_true, if_false] at *; omega
def cnt9 (N : Nat → Bool) (m : Nat) : Nat := (unk9 N (List.range m)).length
theorem cnt9_zero {N : Nat → Bool} {m : Nat} (h : cnt9 N m = 0) : ∀ y, y < m → N y = true := by
  intro y hy
  rcases e : N y with _ | _
  · have : y ∈ unk9 N (List.range m) := by unfold unk9; rw [List.mem_filter]; exact ⟨List.mem_range.2 hy, by simp [e]⟩
    unfold cnt9 at h
    rw [List.eq_nil_of_length_eq_zero h] at this
    cases this
  · rfl
theorem cnt9_pos {N : Nat → Bool} {m : Nat} (h : cnt9 N m ≠ 0) : ∃ y, y < m ∧ N y = false := by
  unfold cnt9 at h
  rcases e : unk9 N (List.range m) with _ | ⟨y, l⟩
  · rw [e] at h; exact absurd rfl h
  · have : y ∈ unk9 N (List.range m) := by rw [e]; simp
    unfold unk9 at this
    rw [List.mem_filter] at this
    exact ⟨y, List.mem_range.1 this.1, by simpa using this.2⟩
theorem cnt9_set {N : Nat → Bool} {m a : Nat} (ha : a < m) (h : N a = false) : cnt9 (fun j => if j = a then true else N j) m < cnt9 N m := by
  unfold cnt9 unk9
  have : ∀ (l : List Nat), (l.filter fun y => !(if y = a then true else N y)).length ≤ (l.filter fun y => !N y).length ∧ (a ∈ l → (l.filter fun y => !(if y = a then true else N y)).length < (l.filter fun y => !N y).length) := by
    intro l
    induction l with
    | nil => simp
    | cons y l ih =>
      by_cases e : y = a
      · subst e
        simp only [List.filter_cons, if_true, Bool.not_true, Bool.false_eq_true, if_false, h, Bool.not_false, List.length_cons]
        exact ⟨by omega, fun _ => by omega⟩
      · simp only [List.filter_cons, if_neg e]
        split
        · simp only [List.length_cons]
          refine ⟨by omega, fun hm => ?_⟩
          have := ih.2 (by simpa [Ne.symm e] using hm)
          omega
        · refine ⟨ih.1, fun hm => ih.2 (by simpa [Ne.symm e] using hm)⟩
  exact (this (List.range m)).2 (List.mem_range.2 ha)
theorem unk9_last {N : Nat → Bool} {c : List Nat} {i : Nat} (h : i < c.length) : unk9 N (c.take (i + 1)) = if N c[i] = true then unk9 N (c.take i) else unk9 N (c.take i) ++ [c[i]] := by
  unfold unk9
  rw [List.take_succ_eq_append_getElem h, List.filter_append]
  rcases e : N c[i] with _ | _ <;> simp [e]
end Go.Proofs.Ytmapjjfefjoemaa
