/- Texts put together: Fps, FpsS, LFps -/
import Derived.Test.YtpkfjdaedaplfaaQcLawPassportOfMove
import Derived.Test.YtpkfjdaedaplfaaChecked
import Derived.WalkKit
import Derived.WalkSpells
import Derived.WalkLawsBesides
import Derived.Deep.LoopGhost
import Derived.Deep.OwnRows
import Derived.Laws.Rows
import Derived.Laws.Tables
import Derived.Laws.CopyOwn
import Derived.ProofKit
import Derived.OpenShut
import Derived.ShutString
import Derived.ChangeOld
import Derived.Below
import Derived.Laws.OwnMore
import Derived.RegionTactic
import Derived.Deep.RegionWith
import Derived.BigQuiet
import Derived.Deep.QuietTactic
import Derived.OwnWalk
import Derived.ChangeSlices
import Derived.Deep.Quiet
import Derived.StillTail
import Derived.Deep.Slices
import Derived.WideShapes
import Derived.Laws.CopyRow
import Derived.Deep.MidRow
import Derived.ChangeKeysEq
import Derived.StillTailTactics
import Derived.Deep.RegionHeld3
import Derived.DataElems
import Derived.Lib.SmallJoins
import Derived.Deep.RegionLaw
import Derived.Deep.Fields
import Derived.ChangeSame
import Derived.Laws.StructEq
namespace Go.Proofs.Ytpkfjdaedaplfaa
open Go.RowKit

/-- the passport of a move -/
def pmL (k a b : Int) : List (List Int) := if k = 2 then [[max a b, min a b], 2 :: List.replicate (a + b - 2).toNat 1, [a + b]] else [[1], [1], [1]]
set_option maxRecDepth 100000 in
set_option maxHeartbeats 1000000 in
theorem oneMult_any (w : World) : Calls Try.prog 132 #[.agg #[]] w fun e w' => ∃ v, e = .returned v ∧ Below w.heap.size w w' ∧ Own2Z w.heap.size w' v [[1], [1], [1]] := by
  go_enter Try.func132, Try.ntmps132
  go_wp2
  go_ret
  refine ⟨_, rfl, ?_⟩
  have H := (((((Holds.start w).blk #[] 113 w.heap.size rfl).blk #[.int .i64 1] 2 (w.heap.size + 1) (by simp)).blk #[.int .i64 1] 2 (w.heap.size + 1 + 1) (by simp)).blk #[.int .i64 1] 2 (w.heap.size + 1 + 1 + 1) (by simp)).blk #[.slice (some ⟨w.heap.size + 1, 0, none⟩) 1 1, .slice (some ⟨w.heap.size + 1 + 1, 0, none⟩) 1 1, .slice (some ⟨w.heap.size + 1 + 1 + 1, 0, none⟩) 1 1] 79 (w.heap.size + 1 + 1 + 1 + 1) (by simp)
  have H1 := H.blkZ 1 rfl (l := [1]) rfl (by simp)
  have H2 := H1.blkZ 2 rfl (l := [1]) rfl (by simp)
  have H3 := H2.blkZ 3 rfl (l := [1]) rfl (by simp)
  have H4 := H3.perm (List.Perm.cons _ (((List.Perm.swap _ _ _).trans ((List.Perm.swap _ _ _).cons _)).trans (List.Perm.swap _ _ _)))
  exact ⟨H4.low, own2z_3 H4⟩
set_option maxRecDepth 100000 in
set_option maxHeartbeats 4000000 in
theorem powMult_any (a b : Int) (ha : 1 ≤ a ∧ a ≤ 20) (hb : 1 ≤ b ∧ b ≤ 20) (w : World) : Calls Try.prog 137 #[.agg #[.int .i64 a, .int .i64 b]] w fun e w' => ∃ v, e = .returned v ∧ Below w.heap.size w w' ∧ Own2Z w.heap.size w' v [[max a b, min a b], 2 :: List.replicate (a + b - 2).toNat 1, [a + b]] := by
  have CD := hide fun w => powDegree_any a b (by omega) w
  obtain ⟨n, hn⟩ : ∃ n : Nat, (n : Int) = a + b - 2 := ⟨(a + b - 2).toNat, by omega⟩
  have hnn : (a + b - 2).toNat = n := by omega
  rw [hnn]
  have hnl : n ≤ 100 := by omega
  clear hnn
  have CR := hide fun v w h => repeat_any 1 v n (by omega) w h
  obtain ⟨s, hs⟩ : ∃ s, a + b = s := ⟨_, rfl⟩
  rw [hs] at CD hn
  have hw : wrap64 (s - 2) = n := by rw [hn]; exact wr64 (by omega) (by omega)
  have H0 := (Holds.start w).blk #[.int .i64 a, .int .i64 b] 118 w.heap.size rfl
  rw [hs]
  obtain ⟨mx, hmx⟩ : ∃ m, (if a < b then b else a) = m := ⟨_, rfl⟩
  obtain ⟨mn, hmn⟩ : ∃ m, (if b < a then b else a) = m := ⟨_, rfl⟩
  rw [show max a b = mx by rw [← hmx]; split <;> omega, show min a b = mn by rw [← hmn]; split <;> omega]
  have FL9 : flat9 [[2], List.replicate n (1 : Int)] = 2 :: List.replicate n 1 := by unfold flat9; simp
  have FLH := hide FL9
  clear FL9 hs ha hb
  have HN := hide hn
  clear hn
  · go_enter Try.func137, Try.ntmps137
    go_wp2_with fail
    refine (CD.out _).mono ?_
    rintro e w1 ⟨rfl, hb1⟩
    have H1 := (H0.blk #[.int .i64 1] 2 (w.heap.size + 1) (by simp)).call hb1
    clear hb1 H0
    go_wp2_with fail
    refine (CR.out _ _ (rd_lit10 (H1.at 0 rfl))).mono ?_
    rintro e w2 ⟨vs, rfl, hk⟩
    have H2 : Holds w w2 [pZ9 vs (List.replicate n 1), pBlk w.heap.size #[.int .i64 a, .int .i64 b] 118] := ((H1.joinL hk).perm List.perm_append_comm).sub (.cons_cons _ (.cons _ (.refl _)))
    clear hk H1 CR
    go_wp2_with fail
    apply Rd.region_R6 (w0 := w) ([pZ9 vs (List.replicate n 1), pBlk w.heap.size #[.int .i64 a, .int .i64 b] 118]) ([pZ9 vs (List.replicate n 1), pBlk w.heap.size #[.int .i64 a, .int .i64 b] 118]) [18, 10, 14, 17, 11, 13] (.q 0 <| .q 1 <| .q 2 <| .q 3 <| .q 4 <| .q 5 <| .q 6 <| .q 7 <| .q 8 <| .q 9 <| .q 12 <| .q 15 <| .s2 10 (.s1 11 <| .s1 13 <| .s1 14 <| .q 16 <| .s1 17 <| .s1 18 <| .q 19 <| .fin) 11 (.s2 10 (.s1 13 <| .s1 14 <| .q 16 <| .s1 17 <| .s1 18 <| .q 19 <| .fin) 13 (.s2 10 (.s1 14 <| .q 16 <| .s1 17 <| .s1 18 <| .q 19 <| .fin) 14 (.q 16 <| .s2 10 (.s1 17 <| .s1 18 <| .q 19 <| .fin) 17 (.s1 10 <| .s1 18 <| .q 19 <| .fin))))) H2 (.refl _) (by kernel_rfl) (by kernel_rfl) (by kernel_rfl) (F := fun (g18 : Nat) (g10 : Nat) (v14 : Value) (g17 : Nat) (g11 : Nat) (g13 : Nat) => pBlk g18 #[.slice (some ⟨g10, 0, none⟩) 2 2, v14, .slice (some ⟨g17, 0, none⟩) 1 1] 79 :: pBlk g10 #[.int .i64 (mx), .int .i64 (mn)] 2 :: pZ9 v14 (flat9 [[2], List.replicate n 1]) :: pBlk g17 #[.int .i64 (s)] 2 :: pBlk g11 #[.int .i64 (2)] 2 :: pBlk g13 #[.slice (some ⟨g11, 0, none⟩) 1 1, vs] 79 :: [pZ9 vs (List.replicate n 1), pBlk w.heap.size #[.int .i64 a, .int .i64 b] 118])
    case h =>
      intro K key
      iterate 12
        apply Rd.v_q
        · simp only [List.getElem?_toArray, List.getElem?_cons_zero, List.getElem?_cons_succ]; exact rfl
        · rfl
        · go_simp
        · intro wx hx
          have c0 := hx.cell 1 rfl (j := 0) (v := .int .i64 a) rfl
          have c1 := hx.cell 1 rfl (j := 1) (v := .int .i64 b) rfl
          unfold atG
          go_simp
          simp only [uponG]
          exact ⟨by trivial, rfl⟩
      refine ⟨?_, ?_⟩
      · skip
        refine Rd.v_build #[.int .i64 (mx), .int .i64 (mn)] 2 2 (by simp only [List.getElem?_toArray, List.getElem?_cons_zero, List.getElem?_cons_succ]; exact rfl) rfl (by go_simp) (fun wx hx hD => by rw [exec_buildIs]; simp only [List.map_toArray, List.map_cons, List.map_nil]; go_simp; exact run_buildIs2 _ _ _) fun g10 => ?_
        refine Rd.v_build #[.int .i64 (2)] 2 1 (by simp only [List.getElem?_toArray, List.getElem?_cons_zero, List.getElem?_cons_succ]; exact rfl) rfl (by go_simp) (fun wx hx hD => by rw [exec_buildIs]; simp only [List.map_toArray, List.map_cons, List.map_nil]; go_simp; exact run_buildIs1 _ _) fun g11 => ?_
        refine Rd.v_build #[.slice (some ⟨g11, 0, none⟩) 1 1, vs] 79 2 (by simp only [List.getElem?_toArray, List.getElem?_cons_zero, List.getElem?_cons_succ]; exact rfl) rfl (by go_simp) (fun wx hx hD => by rw [exec_buildRs]; simp only [List.map_toArray, List.map_cons, List.map_nil]; go_simp; exact run_buildRs2 _ _ rfl (hD.oneZ 2 rfl) _) fun g13 => ?_
        refine Rd.v_ownZ9 (flat9 [[2], List.replicate n 1]) (by simp only [List.getElem?_toArray, List.getElem?_cons_zero, List.getElem?_cons_succ]; exact rfl) rfl (by go_simp) (fun wx hx hD => ?_) fun v14 => ?_
        · go_simp
          exact Rd.upon9_callZ hx hD (concat_any9 _ [[2], List.replicate n 1] (by unfold totZ; simp; omega) (by simp) wx (rd2_list (ls := [[2], List.replicate n 1]) (us := [.slice (some ⟨g11, 0, none⟩) 1 1, vs]) (hD.at 0 rfl) rfl (by simp) (fun i u l hu hl => by
                      match i with
                      | 0 => simp at hu hl; subst hu hl; exact rd_lit10 (hD.at 1 rfl)
                      | 1 => simp at hu hl; subst hu hl; exact hD.rdZ9 3 rfl (by simp; omega)
                      | k + 2 => simp at hu)))
        apply Rd.v_q
        · simp only [List.getElem?_toArray, List.getElem?_cons_zero, List.getElem?_cons_succ]; exact rfl
        · rfl
        · go_simp
        · intro wx hx
          unfold atG
          go_simp
          simp only [uponG]
          exact ⟨by trivial, CD.out wx⟩
        refine Rd.v_build #[.int .i64 (s)] 2 1 (by simp only [List.getElem?_toArray, List.getElem?_cons_zero, List.getElem?_cons_succ]; exact rfl) rfl (by go_simp) (fun wx hx hD => by rw [exec_buildIs]; simp only [List.map_toArray, List.map_cons, List.map_nil]; go_simp; exact run_buildIs1 _ _) fun g17 => ?_
        refine Rd.v_build #[.slice (some ⟨g10, 0, none⟩) 2 2, v14, .slice (some ⟨g17, 0, none⟩) 1 1] 79 3 (by simp only [List.getElem?_toArray, List.getElem?_cons_zero, List.getElem?_cons_succ]; exact rfl) rfl (by go_simp) (fun wx hx hD => by rw [exec_buildRs]; simp only [List.map_toArray, List.map_cons, List.map_nil]; go_simp; exact run_buildRs3 _ _ _ rfl (hD.oneZ 1 rfl) rfl _) fun g18 => ?_
        iterate 1
          apply Rd.v_q
          · simp only [List.getElem?_toArray, List.getElem?_cons_zero, List.getElem?_cons_succ]; exact rfl
          · rfl
          · go_simp
          · intro wx hx
            unfold atG
            go_simp
            simp only [uponG]
            exact ⟨by trivial, rfl⟩
        rintro wz - hz
        go_simp
        exact key g18 g10 v14 g17 g11 g13 _ (hz.perm ((((((List.Perm.swap _ _ _).cons _).cons _).cons _).cons _).trans (((((List.Perm.swap _ _ _).cons _).cons _).cons _).trans ((((List.Perm.swap _ _ _).cons _).cons _).trans (((List.Perm.swap _ _ _).cons _).trans ((((List.Perm.swap _ _ _).cons _).cons _).trans ((((((List.Perm.swap _ _ _).cons _).cons _).cons _).cons _))))))))
      · skip
        refine Rd.v_build #[.int .i64 (2)] 2 1 (by simp only [List.getElem?_toArray, List.getElem?_cons_zero, List.getElem?_cons_succ]; exact rfl) rfl (by go_simp) (fun wx hx hD => by rw [exec_buildIs]; simp only [List.map_toArray, List.map_cons, List.map_nil]; go_simp; exact run_buildIs1 _ _) fun g11 => ?_
        refine ⟨?_, ?_⟩
        · skip
          refine Rd.v_build #[.int .i64 (mx), .int .i64 (mn)] 2 2 (by simp only [List.getElem?_toArray, List.getElem?_cons_zero, List.getElem?_cons_succ]; exact rfl) rfl (by go_simp) (fun wx hx hD => by rw [exec_buildIs]; simp only [List.map_toArray, List.map_cons, List.map_nil]; go_simp; exact run_buildIs2 _ _ _) fun g10 => ?_
          refine Rd.v_build #[.slice (some ⟨g11, 0, none⟩) 1 1, vs] 79 2 (by simp only [List.getElem?_toArray, List.getElem?_cons_zero, List.getElem?_cons_succ]; exact rfl) rfl (by go_simp) (fun wx hx hD => by rw [exec_buildRs]; simp only [List.map_toArray, List.map_cons, List.map_nil]; go_simp; exact run_buildRs2 _ _ rfl (hD.oneZ 2 rfl) _) fun g13 => ?_
          refine Rd.v_ownZ9 (flat9 [[2], List.replicate n 1]) (by simp only [List.getElem?_toArray, List.getElem?_cons_zero, List.getElem?_cons_succ]; exact rfl) rfl (by go_simp) (fun wx hx hD => ?_) fun v14 => ?_
          · go_simp
            exact Rd.upon9_callZ hx hD (concat_any9 _ [[2], List.replicate n 1] (by unfold totZ; simp; omega) (by simp) wx (rd2_list (ls := [[2], List.replicate n 1]) (us := [.slice (some ⟨g11, 0, none⟩) 1 1, vs]) (hD.at 0 rfl) rfl (by simp) (fun i u l hu hl => by
                      match i with
                      | 0 => simp at hu hl; subst hu hl; exact rd_lit10 (hD.at 2 rfl)
                      | 1 => simp at hu hl; subst hu hl; exact hD.rdZ9 3 rfl (by simp; omega)
                      | k + 2 => simp at hu)))
          apply Rd.v_q
          · simp only [List.getElem?_toArray, List.getElem?_cons_zero, List.getElem?_cons_succ]; exact rfl
          · rfl
          · go_simp
          · intro wx hx
            unfold atG
            go_simp
            simp only [uponG]
            exact ⟨by trivial, CD.out wx⟩
          refine Rd.v_build #[.int .i64 (s)] 2 1 (by simp only [List.getElem?_toArray, List.getElem?_cons_zero, List.getElem?_cons_succ]; exact rfl) rfl (by go_simp) (fun wx hx hD => by rw [exec_buildIs]; simp only [List.map_toArray, List.map_cons, List.map_nil]; go_simp; exact run_buildIs1 _ _) fun g17 => ?_
          refine Rd.v_build #[.slice (some ⟨g10, 0, none⟩) 2 2, v14, .slice (some ⟨g17, 0, none⟩) 1 1] 79 3 (by simp only [List.getElem?_toArray, List.getElem?_cons_zero, List.getElem?_cons_succ]; exact rfl) rfl (by go_simp) (fun wx hx hD => by rw [exec_buildRs]; simp only [List.map_toArray, List.map_cons, List.map_nil]; go_simp; exact run_buildRs3 _ _ _ rfl (hD.oneZ 1 rfl) rfl _) fun g18 => ?_
          iterate 1
            apply Rd.v_q
            · simp only [List.getElem?_toArray, List.getElem?_cons_zero, List.getElem?_cons_succ]; exact rfl
            · rfl
            · go_simp
            · intro wx hx
              unfold atG
              go_simp
              simp only [uponG]
              exact ⟨by trivial, rfl⟩
          rintro wz - hz
          go_simp
          exact key g18 g10 v14 g17 g11 g13 _ (hz.perm (((((List.Perm.swap _ _ _).cons _).cons _).cons _).trans ((((List.Perm.swap _ _ _).cons _).cons _).trans (((List.Perm.swap _ _ _).cons _).trans ((((List.Perm.swap _ _ _).cons _).cons _).trans ((((((List.Perm.swap _ _ _).cons _).cons _).cons _).cons _)))))))
        · skip
          refine Rd.v_build #[.slice (some ⟨g11, 0, none⟩) 1 1, vs] 79 2 (by simp only [List.getElem?_toArray, List.getElem?_cons_zero, List.getElem?_cons_succ]; exact rfl) rfl (by go_simp) (fun wx hx hD => by rw [exec_buildRs]; simp only [List.map_toArray, List.map_cons, List.map_nil]; go_simp; exact run_buildRs2 _ _ rfl (hD.oneZ 1 rfl) _) fun g13 => ?_
          refine ⟨?_, ?_⟩
          · skip
            refine Rd.v_build #[.int .i64 (mx), .int .i64 (mn)] 2 2 (by simp only [List.getElem?_toArray, List.getElem?_cons_zero, List.getElem?_cons_succ]; exact rfl) rfl (by go_simp) (fun wx hx hD => by rw [exec_buildIs]; simp only [List.map_toArray, List.map_cons, List.map_nil]; go_simp; exact run_buildIs2 _ _ _) fun g10 => ?_
            refine Rd.v_ownZ9 (flat9 [[2], List.replicate n 1]) (by simp only [List.getElem?_toArray, List.getElem?_cons_zero, List.getElem?_cons_succ]; exact rfl) rfl (by go_simp) (fun wx hx hD => ?_) fun v14 => ?_
            · go_simp
              exact Rd.upon9_callZ hx hD (concat_any9 _ [[2], List.replicate n 1] (by unfold totZ; simp; omega) (by simp) wx (rd2_list (ls := [[2], List.replicate n 1]) (us := [.slice (some ⟨g11, 0, none⟩) 1 1, vs]) (hD.at 1 rfl) rfl (by simp) (fun i u l hu hl => by
                      match i with
                      | 0 => simp at hu hl; subst hu hl; exact rd_lit10 (hD.at 2 rfl)
                      | 1 => simp at hu hl; subst hu hl; exact hD.rdZ9 3 rfl (by simp; omega)
                      | k + 2 => simp at hu)))
            apply Rd.v_q
            · simp only [List.getElem?_toArray, List.getElem?_cons_zero, List.getElem?_cons_succ]; exact rfl
            · rfl
            · go_simp
            · intro wx hx
              unfold atG
              go_simp
              simp only [uponG]
              exact ⟨by trivial, CD.out wx⟩
            refine Rd.v_build #[.int .i64 (s)] 2 1 (by simp only [List.getElem?_toArray, List.getElem?_cons_zero, List.getElem?_cons_succ]; exact rfl) rfl (by go_simp) (fun wx hx hD => by rw [exec_buildIs]; simp only [List.map_toArray, List.map_cons, List.map_nil]; go_simp; exact run_buildIs1 _ _) fun g17 => ?_
            refine Rd.v_build #[.slice (some ⟨g10, 0, none⟩) 2 2, v14, .slice (some ⟨g17, 0, none⟩) 1 1] 79 3 (by simp only [List.getElem?_toArray, List.getElem?_cons_zero, List.getElem?_cons_succ]; exact rfl) rfl (by go_simp) (fun wx hx hD => by rw [exec_buildRs]; simp only [List.map_toArray, List.map_cons, List.map_nil]; go_simp; exact run_buildRs3 _ _ _ rfl (hD.oneZ 1 rfl) rfl _) fun g18 => ?_
            iterate 1
              apply Rd.v_q
              · simp only [List.getElem?_toArray, List.getElem?_cons_zero, List.getElem?_cons_succ]; exact rfl
              · rfl
              · go_simp
              · intro wx hx
                unfold atG
                go_simp
                simp only [uponG]
                exact ⟨by trivial, rfl⟩
            rintro wz - hz
            go_simp
            exact key g18 g10 v14 g17 g11 g13 _ (hz.perm ((((List.Perm.swap _ _ _).cons _).cons _).trans (((List.Perm.swap _ _ _).cons _).trans ((((List.Perm.swap _ _ _).cons _).cons _).trans ((((((List.Perm.swap _ _ _).cons _).cons _).cons _).cons _))))))
          · skip
            refine Rd.v_ownZ9 (flat9 [[2], List.replicate n 1]) (by simp only [List.getElem?_toArray, List.getElem?_cons_zero, List.getElem?_cons_succ]; exact rfl) rfl (by go_simp) (fun wx hx hD => ?_) fun v14 => ?_
            · go_simp
              exact Rd.upon9_callZ hx hD (concat_any9 _ [[2], List.replicate n 1] (by unfold totZ; simp; omega) (by simp) wx (rd2_list (ls := [[2], List.replicate n 1]) (us := [.slice (some ⟨g11, 0, none⟩) 1 1, vs]) (hD.at 0 rfl) rfl (by simp) (fun i u l hu hl => by
                      match i with
                      | 0 => simp at hu hl; subst hu hl; exact rd_lit10 (hD.at 1 rfl)
                      | 1 => simp at hu hl; subst hu hl; exact hD.rdZ9 2 rfl (by simp; omega)
                      | k + 2 => simp at hu)))
            apply Rd.v_q
            · simp only [List.getElem?_toArray, List.getElem?_cons_zero, List.getElem?_cons_succ]; exact rfl
            · rfl
            · go_simp
            · intro wx hx
              unfold atG
              go_simp
              simp only [uponG]
              exact ⟨by trivial, CD.out wx⟩
            refine ⟨?_, ?_⟩
            · skip
              refine Rd.v_build #[.int .i64 (mx), .int .i64 (mn)] 2 2 (by simp only [List.getElem?_toArray, List.getElem?_cons_zero, List.getElem?_cons_succ]; exact rfl) rfl (by go_simp) (fun wx hx hD => by rw [exec_buildIs]; simp only [List.map_toArray, List.map_cons, List.map_nil]; go_simp; exact run_buildIs2 _ _ _) fun g10 => ?_
              refine Rd.v_build #[.int .i64 (s)] 2 1 (by simp only [List.getElem?_toArray, List.getElem?_cons_zero, List.getElem?_cons_succ]; exact rfl) rfl (by go_simp) (fun wx hx hD => by rw [exec_buildIs]; simp only [List.map_toArray, List.map_cons, List.map_nil]; go_simp; exact run_buildIs1 _ _) fun g17 => ?_
              refine Rd.v_build #[.slice (some ⟨g10, 0, none⟩) 2 2, v14, .slice (some ⟨g17, 0, none⟩) 1 1] 79 3 (by simp only [List.getElem?_toArray, List.getElem?_cons_zero, List.getElem?_cons_succ]; exact rfl) rfl (by go_simp) (fun wx hx hD => by rw [exec_buildRs]; simp only [List.map_toArray, List.map_cons, List.map_nil]; go_simp; exact run_buildRs3 _ _ _ rfl (hD.oneZ 2 rfl) rfl _) fun g18 => ?_
              iterate 1
                apply Rd.v_q
                · simp only [List.getElem?_toArray, List.getElem?_cons_zero, List.getElem?_cons_succ]; exact rfl
                · rfl
                · go_simp
                · intro wx hx
                  unfold atG
                  go_simp
                  simp only [uponG]
                  exact ⟨by trivial, rfl⟩
              rintro wz - hz
              go_simp
              exact key g18 g10 v14 g17 g11 g13 _ (hz.perm (((List.Perm.swap _ _ _).cons _).trans ((((List.Perm.swap _ _ _).cons _).cons _).trans ((((((List.Perm.swap _ _ _).cons _).cons _).cons _).cons _)))))
            · skip
              refine Rd.v_build #[.int .i64 (s)] 2 1 (by simp only [List.getElem?_toArray, List.getElem?_cons_zero, List.getElem?_cons_succ]; exact rfl) rfl (by go_simp) (fun wx hx hD => by rw [exec_buildIs]; simp only [List.map_toArray, List.map_cons, List.map_nil]; go_simp; exact run_buildIs1 _ _) fun g17 => ?_
              refine Rd.v_build #[.int .i64 (mx), .int .i64 (mn)] 2 2 (by simp only [List.getElem?_toArray, List.getElem?_cons_zero, List.getElem?_cons_succ]; exact rfl) rfl (by go_simp) (fun wx hx hD => by rw [exec_buildIs]; simp only [List.map_toArray, List.map_cons, List.map_nil]; go_simp; exact run_buildIs2 _ _ _) fun g10 => ?_
              refine Rd.v_build #[.slice (some ⟨g10, 0, none⟩) 2 2, v14, .slice (some ⟨g17, 0, none⟩) 1 1] 79 3 (by simp only [List.getElem?_toArray, List.getElem?_cons_zero, List.getElem?_cons_succ]; exact rfl) rfl (by go_simp) (fun wx hx hD => by rw [exec_buildRs]; simp only [List.map_toArray, List.map_cons, List.map_nil]; go_simp; exact run_buildRs3 _ _ _ rfl (hD.oneZ 2 rfl) rfl _) fun g18 => ?_
              iterate 1
                apply Rd.v_q
                · simp only [List.getElem?_toArray, List.getElem?_cons_zero, List.getElem?_cons_succ]; exact rfl
                · rfl
                · go_simp
                · intro wx hx
                  unfold atG
                  go_simp
                  simp only [uponG]
                  exact ⟨by trivial, rfl⟩
              rintro wz - hz
              go_simp
              exact key g18 g10 v14 g17 g11 g13 _ (hz.perm ((((List.Perm.swap _ _ _).cons _).cons _).trans ((((((List.Perm.swap _ _ _).cons _).cons _).cons _).cons _))))
    case key =>
      rintro g18 g10 v14 g17 g11 g13 w5 h5
      have h6 := h5.blkZ 1 rfl (l := [mx, mn]) rfl (by simp)
      have h7 := h6.blkZ 3 rfl (l := [s]) rfl (by simp)
      have h8 := own2z_3 h7
      rw [FLH.out] at h8
      have hlo := h5.low
      clear h5 h6 h7 H2 CD
      go_wp2
      go_ret
      exact ⟨_, rfl, hlo, h8⟩
/-- a rule with these multiplicities -/
def MulV (v : Value) (ls : List (List Int)) : Prop :=
  ∃ (T : TypeId) (x : Value) (K : Nat) (r : Value), v = .iface T x ∧ (∀ (N : Nat) w, (method (N + 1) T x "loop.example/g01200/impl.multiplicities").run Try.prog w = .ok (K, r) w) ∧ (∀ (N : Nat) w, (nilAhead (N + 1) T x "loop.example/g01200/impl.multiplicities").run Try.prog w = .ok (some false) w) ∧ (∀ (a : Value) w, (callFunc K #[a]).run Try.prog w = .ok (.enter K #[a]) w) ∧
    ∀ w, Calls Try.prog K #[r] w fun e w' => ∃ v, e = .returned v ∧ Below w.heap.size w w' ∧ Own2Z w.heap.size w' v ls
set_option maxRecDepth 100000 in
theorem mul_rule {k a b : Int} (h : mvB k a b = true) : MulV (rlV k a b) (pmL k a b) := by
  have hm := mvB_true h
  by_cases h0 : k = 0
  · rw [show rlV k a b = .iface 115 (.agg #[]) from if_pos h0, show pmL k a b = [[1], [1], [1]] from if_neg (by omega)]
    exact ⟨115, .agg #[], 132, .agg #[], rfl, fun _ _ => by kernel_rfl, fun _ _ => by kernel_rfl, fun _ _ => by kernel_rfl, fun w => oneMult_any w⟩
  · by_cases h1 : k = 1
    · rw [show rlV k a b = .iface 116 (.agg #[]) from (if_neg h0).trans (if_pos h1), show pmL k a b = [[1], [1], [1]] from if_neg (by omega)]
      exact ⟨116, .agg #[], 132, .agg #[], rfl, fun _ _ => by kernel_rfl, fun _ _ => by kernel_rfl, fun _ _ => by kernel_rfl, fun w => oneMult_any w⟩
    · rw [show rlV k a b = .iface 118 (.agg #[.int .i64 a, .int .i64 b]) from (if_neg h0).trans (if_neg h1), show pmL k a b = [[max a b, min a b], 2 :: List.replicate (a + b - 2).toNat 1, [a + b]] from if_pos (by omega)]
      exact ⟨118, .agg #[.int .i64 a, .int .i64 b], 137, .agg #[.int .i64 a, .int .i64 b], rfl, fun _ _ => by kernel_rfl, fun _ _ => by kernel_rfl, fun _ _ => by kernel_rfl, fun w => powMult_any a b (by omega) (by omega) w⟩
/-- what PassportOfMove tells -/
def pmR (k a b : Int) : List (List Int) := if mvB k a b = true ∧ dg k a b ≤ 16 then pmL k a b else []
def pmC (k a b : Int) : Int := if mvB k a b = true then (if dg k a b ≤ 16 then 0 else 3) else 1
theorem own2Z_nil (B : Nat) (w : World) : Own2Z B w (.slice none 0 0) [] := ⟨[], rfl, World.ownsRow_nil _ _ _ _, fun i u l hu => by simp at hu, fun i j u u' _ hu => by simp at hu⟩
theorem pmR_size (k a b : Int) : totZ (pmR k a b) ≤ 1000000 ∧ (pmR k a b).length ≤ 1000000 := by
  unfold pmR
  split
  · rename_i h
    have hm := mvB_true h.1
    unfold pmL totZ
    split <;> simp <;> omega
  · unfold totZ; simp
set_option maxRecDepth 100000 in
set_option maxHeartbeats 2000000 in
theorem passportOfMove_any (k a b : Int) (w : World) : Calls Try.prog 52 #[.agg #[.int .i64 k, .int .i64 a, .int .i64 b]] w fun e w' => ∃ v, e = .returned (.tuple #[v, .int .i64 (pmC k a b)]) ∧ Below w.heap.size w w' ∧ Own2Z w.heap.size w' v (pmR k a b) := by
  have H0 := (Holds.start w).blk #[.int .i64 k, .int .i64 a, .int .i64 b] 38 w.heap.size rfl
  have CB := hide fun w => isMove_any k a b w
  have CL := hide fun w => ruleOf_any k a b w
  rcases hm : mvB k a b with _ | _
  · rw [show pmC k a b = 1 from if_neg (by rw [hm]; decide), show pmR k a b = [] from if_neg (by rw [hm]; simp)]
    rw [hm] at CB
    clear hm CL
    go_enter Try.func52, Try.ntmps52
    go_wp2_with fail
    refine (CB.out _).mono ?_
    rintro e w1 ⟨rfl, hb⟩
    have H1 := (H0.call hb).low
    clear hb CB H0
    go_wp2_with fail
    go_ret2
    exact ⟨_, rfl, H1, own2Z_nil _ _⟩
  rw [hm] at CB
  obtain ⟨T, x, K, r, hv, mt, nl, cl, CD⟩ := deg_rule hm
  obtain ⟨T2, x2, K2, r2, hv2, mt2, nl2, cl2, CM⟩ := mul_rule hm
  have e2 : Value.iface T x = Value.iface T2 x2 := hv.symm.trans hv2
  injection e2 with e3 e4
  subst e3 e4
  rw [hv] at CL
  have CDh := hide CD
  have CMh := hide CM
  clear CD CM hv hv2
  by_cases h16 : dg k a b ≤ 16
  · rw [show pmC k a b = 0 from (if_pos hm).trans (if_pos h16), show pmR k a b = pmL k a b from if_pos ⟨hm, h16⟩]
    have hd := decide_eq_false (show ¬ (16 < dg k a b) by omega)
    clear h16 hm
    generalize dg k a b = d at *
    generalize pmL k a b = ls at *
    go_enter Try.func52, Try.ntmps52
    go_wp2_with fail
    refine (CB.out _).mono ?_
    rintro e w1 ⟨rfl, hb⟩
    have H1 := H0.call hb
    clear hb CB H0
    have c0 := H1.cell 0 rfl (j := 0) (v := .int .i64 k) rfl
    have c1 := H1.cell 0 rfl (j := 1) (v := .int .i64 a) rfl
    have c2 := H1.cell 0 rfl (j := 2) (v := .int .i64 b) rfl
    go_wp2_with fail
    refine (CL.out _).mono ?_
    rintro e w2 ⟨rfl, hb⟩
    have H2 := H1.call hb
    clear hb H1 c0 c1 c2
    go_wp2_with fail
    refine (CDh.out _).mono ?_
    rintro e w3 ⟨rfl, hb⟩
    have H3 := H2.call hb
    clear hb H2 CDh
    have c0 := H3.cell 0 rfl (j := 0) (v := .int .i64 k) rfl
    have c1 := H3.cell 0 rfl (j := 1) (v := .int .i64 a) rfl
    have c2 := H3.cell 0 rfl (j := 2) (v := .int .i64 b) rfl
    go_wp2_with fail
    refine (CL.out _).mono ?_
    rintro e w4 ⟨rfl, hb⟩
    have H4 := H3.call hb
    clear hb H3 c0 c1 c2 CL
    go_wp2_with fail
    refine (CMh.out _).mono ?_
    rintro e w5 ⟨v, rfl, hb, ho⟩
    have H5 := (H4.call hb).low
    have ho' : Own2Z w.heap.size w5 v ls := by
      obtain ⟨vs, ho⟩ := ho
      refine ⟨vs, ho.len, row_low ho.row H4.size, fun i u l hu hl => row_low (ho.each i u l hu hl) H4.size, ho.dist⟩
    have HO := hide ho'
    clear hb ho ho' H4
    go_wp2_with fail
    go_ret2
    exact ⟨_, rfl, H5, HO.out⟩
  · rw [show pmC k a b = 3 from (if_pos hm).trans (if_neg h16), show pmR k a b = [] from if_neg (fun h => h16 h.2)]
    have hd := decide_eq_true (show 16 < dg k a b by omega)
    clear h16 hm CMh mt2 nl2 cl2
    generalize dg k a b = d at *
    go_enter Try.func52, Try.ntmps52
    go_wp2_with fail
    refine (CB.out _).mono ?_
    rintro e w1 ⟨rfl, hb⟩
    have H1 := H0.call hb
    clear hb CB H0
    have c0 := H1.cell 0 rfl (j := 0) (v := .int .i64 k) rfl
    have c1 := H1.cell 0 rfl (j := 1) (v := .int .i64 a) rfl
    have c2 := H1.cell 0 rfl (j := 2) (v := .int .i64 b) rfl
    go_wp2_with fail
    refine (CL.out _).mono ?_
    rintro e w2 ⟨rfl, hb⟩
    have H2 := H1.call hb
    clear hb H1 c0 c1 c2
    go_wp2_with fail
    refine (CDh.out _).mono ?_
    rintro e w3 ⟨rfl, hb⟩
    have H3 := (H2.call hb).low
    clear hb H2 CDh
    go_wp2_with fail
    go_ret2
    exact ⟨_, rfl, H3, own2Z_nil _ _⟩
end Go.Proofs.Ytpkfjdaedaplfaa


namespace Go.Proofs.Ytpkfjdaedaplfaa
open Go.RowKit

theorem rep_snoc (j : Nat) : (2 :: List.replicate j (1 : Int)) ++ [1] = 2 :: List.replicate (j + 1) 1 := by
  rw [List.cons_append, ← List.replicate_succ']
set_option maxRecDepth 100000 in
set_option maxHeartbeats 4000000 in
theorem sPassportOfMove_any (k a b : Int) (w : World) : Calls Try.prog 51 #[.agg #[.int .i64 k, .int .i64 a, .int .i64 b]] w fun e w' => ∃ v, e = .returned (.tuple #[v, .int .i64 (pmC k a b)]) ∧ Below w.heap.size w w' ∧ Own2Z w.heap.size w' v (pmR k a b) := by
  have H0 := (Holds.start w).blk #[.int .i64 k, .int .i64 a, .int .i64 b] 38 w.heap.size rfl
  have CB := hide fun w => l10Move_any k a b w
  rcases hm : mvB k a b with _ | _
  · rw [show pmC k a b = 1 from if_neg (by rw [hm]; decide), show pmR k a b = [] from if_neg (by rw [hm]; simp)]
    rw [hm] at CB
    clear hm
    go_enter Try.func51, Try.ntmps51
    go_wp2_with fail
    refine (CB.out _).mono ?_
    rintro e w1 ⟨rfl, hb⟩
    have H1 := (H0.call hb).low
    clear hb CB H0
    go_wp2_with fail
    go_ret2
    exact ⟨_, rfl, H1, own2Z_nil _ _⟩
  rw [hm] at CB
  have CD := hide fun w => l10Degree_any k a b hm w
  have hmt := mvB_true hm
  by_cases h16 : dg k a b ≤ 16
  · rw [show pmC k a b = 0 from (if_pos hm).trans (if_pos h16), show pmR k a b = pmL k a b from if_pos ⟨hm, h16⟩]
    have hd := decide_eq_false (show ¬ (16 < dg k a b) by omega)
    by_cases hk : k = 2
    · have hk2 := decide_eq_false (show ¬ (k < 2) by omega)
      have hpm : pmL k a b = [[max a b, min a b], 2 :: List.replicate (a + b - 2).toNat 1, [a + b]] := if_pos hk
      rw [hpm]
      have hws : wrap64 (a + b) = a + b := wr64 (by omega) (by omega)
      have hab : Hid (2 ≤ a + b ∧ a + b ≤ 40) := hide (by omega)
      clear hpm h16 hm hmt hk
      generalize dg k a b = d at *
      go_enter Try.func51, Try.ntmps51
      go_wp2_with fail
      refine (CB.out _).mono ?_
      rintro e w1 ⟨rfl, hb⟩
      have H1 := H0.call hb
      clear hb CB H0
      have c0 := H1.cell 0 rfl (j := 0) (v := .int .i64 k) rfl
      have c1 := H1.cell 0 rfl (j := 1) (v := .int .i64 a) rfl
      have c2 := H1.cell 0 rfl (j := 2) (v := .int .i64 b) rfl
      go_wp2_with fail
      refine (CD.out _).mono ?_
      rintro e w2 ⟨rfl, hb⟩
      have H2 := H1.call hb
      clear hb H1 c0 c1 c2 CD
      have c0 := H2.cell 0 rfl (j := 0) (v := .int .i64 k) rfl
      have c1 := H2.cell 0 rfl (j := 1) (v := .int .i64 a) rfl
      have c2 := H2.cell 0 rfl (j := 2) (v := .int .i64 b) rfl
      have lX := H2.lt 0 rfl
      have H3 : Holds w (w2.alloc (.cells #[.int .i64 2] 2)) [pZ9 (.slice (some ⟨w2.heap.size, 0, none⟩) 1 1) (2 :: List.replicate 0 1), pBlk w.heap.size #[.int .i64 k, .int .i64 a, .int .i64 b] 38] := (H2.blk #[.int .i64 2] 2 w2.heap.size rfl).blkZ 0 rfl (l := [2]) rfl (by simp)
      have HH3 := hide H3
      clear H3 H2
      go_wp2_with fail
      clear c0 c1 c2 lX
      have HWS := hide hws
      clear hws
      go_loopw [4, 5] (fun u t wr => ∃ j : Nat, (j : Int) ≤ a + b - 2 ∧ t = .int .i64 (a + b - j) ∧ Holds w wr [pZ9 u (2 :: List.replicate j 1), pBlk w.heap.size #[.int .i64 k, .int .i64 a, .int .i64 b] 38]) (fun _ t _ => (intOf t).toNat)
      case atStart => exact ⟨0, by have := hab.out; omega, by simp [HWS.out], HH3.out⟩
      case round =>
        clear HH3
        obtain ⟨j, hj, rfl, hH⟩ := hrel
        have hs := hab.out
        obtain ⟨t, ht⟩ : ∃ t, a + b - (j : Int) = t := ⟨_, rfl⟩
        rw [ht]
        have HT := hide ht
        by_cases hlt : 2 < t
        · have hd2 := decide_eq_true hlt
          have hw1 : wrap64 (t - 1) = t - 1 := wr64 (by omega) (by omega)
          have HL : Hid (2 < t ∧ (j : Int) + 1 ≤ a + b - 2 ∧ a + b - ((j + 1 : Nat) : Int) = t - 1 ∧ j + 2 ≤ 100) := hide (by omega)
          clear hlt ht hs hj
          have H' := hH.blk #[.int .i64 1] 2 wr.heap.size rfl
          clear hH
          go_wp2_with (at_builtin; refine appZ9 H' 1 rfl (m := [1]) (rd_lit10 (H'.at 0 rfl)) (by have := HL.out; simp; omega) rfl _ _ rfl rfl rfl ?_)
          intro v' w' h2
          have h3 := hide (show Holds w w' [pZ9 v' (2 :: List.replicate (j + 1) 1), pBlk w.heap.size #[.int .i64 k, .int .i64 a, .int .i64 b] 38] from by rw [← rep_snoc]; exact h2.tail)
          clear h2 H'
          go_wp2
          go_roundw
          case rel => exact ⟨j + 1, by have := HL.out; omega, by rw [HL.out.2.2.1]; first | rfl | rw [hw1], h3.out⟩
          case measure => have := HL.out; simp [intOf, hw1]; omega
        · have hd2 := decide_eq_false hlt
          have hjn : (a + b - 2).toNat = j := by omega
          clear hlt ht hs hj hab
          rcases Int.lt_trichotomy a b with hc | hc | hc
          · have HMX := hide (show max a b = b ∧ min a b = a by omega)
            have hc2 : ¬ (b < a) := by omega
            have HJ := hide hjn
            clear hjn
            have hws := HWS.out
            have c0 := hH.cell 1 rfl (j := 0) (v := .int .i64 k) rfl
            have c1 := hH.cell 1 rfl (j := 1) (v := .int .i64 a) rfl
            have c2 := hH.cell 1 rfl (j := 2) (v := .int .i64 b) rfl
            have lX := hH.lt 1 rfl
            obtain ⟨A4, d4, e4⟩ := own_slice (hH.ownZ9 0 rfl)
            rw [show (2 :: List.replicate j (1 : Int)).length = j + 1 by simp] at e4
            subst e4
            have H6 := (((hH.blk #[.int .i64 b, .int .i64 a] 2 wr.heap.size rfl).blk #[.int .i64 (a + b)] 2 (wr.heap.size + 1) (by simp)).blk #[.slice (some ⟨wr.heap.size, 0, none⟩) 2 2, .slice A4 (j + 1) d4, .slice (some ⟨wr.heap.size + 1, 0, none⟩) 1 1] 79 (wr.heap.size + 1 + 1) (by simp))
            have H7 := (H6.blkZ 1 rfl (l := [a + b]) rfl (by simp)).blkZ 2 rfl (l := [b, a]) rfl (by simp)
            have H8 := H7.perm (List.Perm.cons _ ((List.Perm.swap _ _ _).trans ((List.Perm.swap _ _ _).cons _)))
            have H9 := hide (And.intro H8.low (own2z_3 H8))
            clear H6 H7 H8 hH
            go_wp2
            go_ret2
            refine ⟨_, rfl, H9.out.1, ?_⟩
            rw [HMX.out.1, HMX.out.2, HJ.out]
            exact H9.out.2
          · have HMX := hide (show max a b = a ∧ min a b = a by omega)
            have hc1 : ¬ (a < b) := by omega
            have hc2 : ¬ (b < a) := by omega
            clear hc
            have HJ := hide hjn
            clear hjn
            have hws := HWS.out
            have c0 := hH.cell 1 rfl (j := 0) (v := .int .i64 k) rfl
            have c1 := hH.cell 1 rfl (j := 1) (v := .int .i64 a) rfl
            have c2 := hH.cell 1 rfl (j := 2) (v := .int .i64 b) rfl
            have lX := hH.lt 1 rfl
            obtain ⟨A4, d4, e4⟩ := own_slice (hH.ownZ9 0 rfl)
            rw [show (2 :: List.replicate j (1 : Int)).length = j + 1 by simp] at e4
            subst e4
            have H6 := (((hH.blk #[.int .i64 a, .int .i64 a] 2 wr.heap.size rfl).blk #[.int .i64 (a + b)] 2 (wr.heap.size + 1) (by simp)).blk #[.slice (some ⟨wr.heap.size, 0, none⟩) 2 2, .slice A4 (j + 1) d4, .slice (some ⟨wr.heap.size + 1, 0, none⟩) 1 1] 79 (wr.heap.size + 1 + 1) (by simp))
            have H7 := (H6.blkZ 1 rfl (l := [a + b]) rfl (by simp)).blkZ 2 rfl (l := [a, a]) rfl (by simp)
            have H8 := H7.perm (List.Perm.cons _ ((List.Perm.swap _ _ _).trans ((List.Perm.swap _ _ _).cons _)))
            have H9 := hide (And.intro H8.low (own2z_3 H8))
            clear H6 H7 H8 hH
            go_wp2
            go_ret2
            refine ⟨_, rfl, H9.out.1, ?_⟩
            rw [HMX.out.1, HMX.out.2, HJ.out]
            exact H9.out.2
          · have HMX := hide (show max a b = a ∧ min a b = b by omega)
            have hc1 : ¬ (a < b) := by omega
            have HJ := hide hjn
            clear hjn
            have hws := HWS.out
            have c0 := hH.cell 1 rfl (j := 0) (v := .int .i64 k) rfl
            have c1 := hH.cell 1 rfl (j := 1) (v := .int .i64 a) rfl
            have c2 := hH.cell 1 rfl (j := 2) (v := .int .i64 b) rfl
            have lX := hH.lt 1 rfl
            obtain ⟨A4, d4, e4⟩ := own_slice (hH.ownZ9 0 rfl)
            rw [show (2 :: List.replicate j (1 : Int)).length = j + 1 by simp] at e4
            subst e4
            have H6 := (((hH.blk #[.int .i64 a, .int .i64 b] 2 wr.heap.size rfl).blk #[.int .i64 (a + b)] 2 (wr.heap.size + 1) (by simp)).blk #[.slice (some ⟨wr.heap.size, 0, none⟩) 2 2, .slice A4 (j + 1) d4, .slice (some ⟨wr.heap.size + 1, 0, none⟩) 1 1] 79 (wr.heap.size + 1 + 1) (by simp))
            have H7 := (H6.blkZ 1 rfl (l := [a + b]) rfl (by simp)).blkZ 2 rfl (l := [a, b]) rfl (by simp)
            have H8 := H7.perm (List.Perm.cons _ ((List.Perm.swap _ _ _).trans ((List.Perm.swap _ _ _).cons _)))
            have H9 := hide (And.intro H8.low (own2z_3 H8))
            clear H6 H7 H8 hH
            go_wp2
            go_ret2
            refine ⟨_, rfl, H9.out.1, ?_⟩
            rw [HMX.out.1, HMX.out.2, HJ.out]
            exact H9.out.2
    · have hk2 := decide_eq_true (show k < 2 by omega)
      have hpm : pmL k a b = [[1], [1], [1]] := if_neg hk
      rw [hpm]
      clear hpm h16 hm hmt hk
      generalize dg k a b = d at *
      go_enter Try.func51, Try.ntmps51
      go_wp2_with fail
      refine (CB.out _).mono ?_
      rintro e w1 ⟨rfl, hb⟩
      have H1 := H0.call hb
      clear hb CB H0
      have c0 := H1.cell 0 rfl (j := 0) (v := .int .i64 k) rfl
      have c1 := H1.cell 0 rfl (j := 1) (v := .int .i64 a) rfl
      have c2 := H1.cell 0 rfl (j := 2) (v := .int .i64 b) rfl
      go_wp2_with fail
      refine (CD.out _).mono ?_
      rintro e w2 ⟨rfl, hb⟩
      have H2 := H1.call hb
      clear hb H1 c0 c1 c2 CD
      have c0 := H2.cell 0 rfl (j := 0) (v := .int .i64 k) rfl
      have H := (((H2.blk #[.int .i64 1] 2 w2.heap.size rfl).blk #[.int .i64 1] 2 (w2.heap.size + 1) (by simp)).blk #[.int .i64 1] 2 (w2.heap.size + 1 + 1) (by simp)).blk #[.slice (some ⟨w2.heap.size, 0, none⟩) 1 1, .slice (some ⟨w2.heap.size + 1, 0, none⟩) 1 1, .slice (some ⟨w2.heap.size + 1 + 1, 0, none⟩) 1 1] 79 (w2.heap.size + 1 + 1 + 1) (by simp)
      have H3 := ((H.blkZ 1 rfl (l := [1]) rfl (by simp)).blkZ 2 rfl (l := [1]) rfl (by simp)).blkZ 3 rfl (l := [1]) rfl (by simp)
      have H4 := H3.perm (List.Perm.cons _ (((List.Perm.swap _ _ _).trans ((List.Perm.swap _ _ _).cons _)).trans (List.Perm.swap _ _ _)))
      have H9 := hide (And.intro H4.low (own2z_3 H4))
      clear H H3 H4 H2
      go_wp2
      go_ret2
      exact ⟨_, rfl, H9.out.1, H9.out.2⟩
  · rw [show pmC k a b = 3 from (if_pos hm).trans (if_neg h16), show pmR k a b = [] from if_neg (fun h => h16 h.2)]
    have hd := decide_eq_true (show 16 < dg k a b by omega)
    clear h16 hm hmt
    generalize dg k a b = d at *
    go_enter Try.func51, Try.ntmps51
    go_wp2_with fail
    refine (CB.out _).mono ?_
    rintro e w1 ⟨rfl, hb⟩
    have H1 := H0.call hb
    clear hb CB H0
    have c0 := H1.cell 0 rfl (j := 0) (v := .int .i64 k) rfl
    have c1 := H1.cell 0 rfl (j := 1) (v := .int .i64 a) rfl
    have c2 := H1.cell 0 rfl (j := 2) (v := .int .i64 b) rfl
    go_wp2_with fail
    refine (CD.out _).mono ?_
    rintro e w2 ⟨rfl, hb⟩
    have H2 := (H1.call hb).low
    clear hb H1 c0 c1 c2 CD
    go_wp2_with fail
    go_ret2
    exact ⟨_, rfl, H2, own2Z_nil _ _⟩
end Go.Proofs.Ytpkfjdaedaplfaa

namespace Go.Proofs.Ytpkfjdaedaplfaa
open Go.RowKit

set_option maxRecDepth 100000 in
set_option maxHeartbeats 4000000 in
theorem fnExactPassportOfMove_walk (n0 f0 g0 : Int) (_hn0 : -9223372036854775808 ≤ n0 ∧ n0 ≤ 9223372036854775807) (hf0 : -9223372036854775808 ≤ f0 ∧ f0 ≤ 9223372036854775807) (hg0 : -9223372036854775808 ≤ g0 ∧ g0 ≤ 9223372036854775807) (w : World) :
    Calls Try.prog 14 #[.agg #[.int .i64 n0, .int .i64 f0, .int .i64 g0]] w fun e w' => e = .returned (.bool true) ∧ Below w.heap.size w w' := by
  clear _hn0
  have c1 := fun (wx : World) => passportOfMove_any n0 f0 g0 wx
  have c2 := fun (wx : World) => sPassportOfMove_any n0 f0 g0 wx
  clear hf0 hg0
  obtain ⟨hT, hL⟩ := pmR_size n0 f0 g0
  generalize pmR n0 f0 g0 = L at *
  generalize pmC n0 f0 g0 = c at *
  have hne : (c != c) = false := by simp
  have hnt : (((1 + totZ L : Nat) : Int) != ((1 + totZ L : Nat) : Int)) = false := by simp
  have hneg : decide (((1 + totZ L : Nat) : Int) < 0) = false := decide_eq_false (by omega)
  have C1 := hide c1; clear c1
  have C2 := hide c2; clear c2
  have H0 := (Holds.start w).blk #[.int .i64 n0, .int .i64 f0, .int .i64 g0] 36 w.heap.size rfl
  go_enter Try.func14, Try.ntmps14
  go_wp2_with fail
  refine (toMove_any n0 f0 g0 _).mono ?_
  rintro e w1 ⟨rfl, hb⟩
  have H1 := H0.call hb
  clear hb H0
  go_wp2_with fail
  refine (C2.out _).mono ?_
  rintro e w2 ⟨_, rfl, hb, o9⟩
  obtain ⟨Ap0, cp0, vsp0, rfl, ho⟩ := own2Z_form o9
  have H2 := H1.newZZ hb ho
  clear hb ho o9 H1
  have qD0 := H2.cell 1 rfl (j := 0) (v := .int .i64 n0) rfl
  have qD1 := H2.cell 1 rfl (j := 1) (v := .int .i64 f0) rfl
  have qD2 := H2.cell 1 rfl (j := 2) (v := .int .i64 g0) rfl
  have rD := H2.lt 1 rfl
  go_wp2_with fail
  refine (toMove_any n0 f0 g0 _).mono ?_
  rintro e w3 ⟨rfl, hb⟩
  clear qD0 qD1 qD2 rD
  have H3 := H2.call hb
  clear hb H2
  go_wp2_with fail
  refine (C1.out _).mono ?_
  rintro e w4 ⟨_, rfl, hb, o9⟩
  obtain ⟨Ap1, cp1, vsp1, rfl, ho⟩ := own2Z_form o9
  have H4 := H3.newZZ hb ho
  clear hb ho o9 H3
  go_wp2_with fail
  refine (eqZZ_same L Ap1 Ap0 cp1 cp0 _ _ vsp1 vsp0 (by omega) (by omega) _ (show Own2z 0 _ _ _ L from H4.at 0 rfl) (show Own2z 0 _ _ _ L from H4.at 1 rfl)).mono ?_
  rintro e w5 ⟨rfl, hb⟩
  have H5 := H4.call hb
  clear hb H4
  go_wp2_with fail
  refine (markZZ_any L Ap1 cp1 1 vsp1 (by omega) (by omega) (by omega) _ (show Own2z 0 _ _ _ L from H5.at 0 rfl)).mono ?_
  rintro e w6 ⟨rfl, hg, ho⟩
  have H6 := H5.turnZZ 0 rfl hg ho
  clear hg ho H5
  go_wp2_with fail
  refine (heldZZ_any L Ap1 cp1 1 vsp1 (by omega) (by omega) (by omega) _ (show Own2z 0 _ _ _ (mkZ 1 L) from H6.at 0 rfl)).mono ?_
  rintro e w7 ⟨rfl, hb⟩
  have H7 := H6.call hb
  clear hb H6
  have qD0 := H7.cell 2 rfl (j := 0) (v := .int .i64 n0) rfl
  have qD1 := H7.cell 2 rfl (j := 1) (v := .int .i64 f0) rfl
  have qD2 := H7.cell 2 rfl (j := 2) (v := .int .i64 g0) rfl
  have rD := H7.lt 2 rfl
  go_wp2_with fail
  refine (toMove_any n0 f0 g0 _).mono ?_
  rintro e w8 ⟨rfl, hb⟩
  clear qD0 qD1 qD2 rD
  have H8 := H7.call hb
  clear hb H7
  go_wp2_with fail
  refine (C1.out _).mono ?_
  rintro e w9 ⟨_, rfl, hb, o9⟩
  obtain ⟨Ap2, cp2, vsp2, rfl, ho⟩ := own2Z_form o9
  have H9 := H8.newZZ hb ho
  clear hb ho o9 H8
  go_wp2_with fail
  refine (eqZZ_same L Ap2 Ap0 cp2 cp0 _ _ vsp2 vsp0 (by omega) (by omega) _ (show Own2z 0 _ _ _ L from H9.at 0 rfl) (show Own2z 0 _ _ _ L from H9.at 2 rfl)).mono ?_
  rintro e w10 ⟨rfl, hb⟩
  have H10 := H9.call hb
  clear hb H9
  go_wp2_with fail
  refine (heldZZ_any L Ap1 cp1 1 vsp1 (by omega) (by omega) (by omega) _ (show Own2z 0 _ _ _ (mkZ 1 L) from H10.at 1 rfl)).mono ?_
  rintro e w11 ⟨rfl, hb⟩
  have H11 := H10.call hb
  clear hb H10
  go_wp2
  go_ret
  exact ⟨rfl, H11.low⟩
end Go.Proofs.Ytpkfjdaedaplfaa

