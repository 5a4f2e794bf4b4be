/- Multiplicities of moves, of the program. -/
import Derived.Test.YtpkfjdaedaplfaaMkr
import Derived.Test.YtpkfjdaedaplfaaFdm
namespace Go.Proofs.Ytpkfjdaedaplfaa
open Go.RowKit

/-- the passport of a move -/
def pmL (k a b : Int) : List (List Int) := if k = 2 then [[max a b, min a b], 2 :: List.replicate (a + b - 2).toNat 1, [a + b]] else [[1], [1], [1]]
set_option maxRecDepth 100000 in
set_option maxHeartbeats 1000000 in
theorem oneMult_any (w : World) : Calls Try.prog 132 #[.agg #[]] w fun e w' => ∃ v, e = .returned v ∧ Below w.heap.size w w' ∧ Own2Z w.heap.size w' v [[1], [1], [1]] := by
  go_enter Try.func132, Try.ntmps132
  go_wp2
  go_ret
  refine ⟨_, rfl, ?_⟩
  have H := (((((Holds.start w).blk #[] 113 w.heap.size rfl).blk #[.int .i64 1] 2 (w.heap.size + 1) (by simp)).blk #[.int .i64 1] 2 (w.heap.size + 1 + 1) (by simp)).blk #[.int .i64 1] 2 (w.heap.size + 1 + 1 + 1) (by simp)).blk #[.slice (some ⟨w.heap.size + 1, 0, none⟩) 1 1, .slice (some ⟨w.heap.size + 1 + 1, 0, none⟩) 1 1, .slice (some ⟨w.heap.size + 1 + 1 + 1, 0, none⟩) 1 1] 79 (w.heap.size + 1 + 1 + 1 + 1) (by simp)
  have H1 := H.blkZ 1 rfl (l := [1]) rfl (by simp)
  have H2 := H1.blkZ 2 rfl (l := [1]) rfl (by simp)
  have H3 := H2.blkZ 3 rfl (l := [1]) rfl (by simp)
  have H4 := H3.perm (List.Perm.cons _ (((List.Perm.swap _ _ _).trans ((List.Perm.swap _ _ _).cons _)).trans (List.Perm.swap _ _ _)))
  exact ⟨H4.low, own2z_3 H4⟩
set_option maxRecDepth 100000 in
set_option maxHeartbeats 4000000 in
theorem powMult_any (a b : Int) (ha : 1 ≤ a ∧ a ≤ 20) (hb : 1 ≤ b ∧ b ≤ 20) (w : World) : Calls Try.prog 137 #[.agg #[.int .i64 a, .int .i64 b]] w fun e w' => ∃ v, e = .returned v ∧ Below w.heap.size w w' ∧ Own2Z w.heap.size w' v [[max a b, min a b], 2 :: List.replicate (a + b - 2).toNat 1, [a + b]] := by
  have CD := hide fun w => powDegree_any a b (by omega) w
  obtain ⟨n, hn⟩ : ∃ n : Nat, (n : Int) = a + b - 2 := ⟨(a + b - 2).toNat, by omega⟩
  have hnn : (a + b - 2).toNat = n := by omega
  rw [hnn]
  have hnl : n ≤ 100 := by omega
  clear hnn
  have CR := hide fun v w h => repeat_any 1 v n (by omega) w h
  obtain ⟨s, hs⟩ : ∃ s, a + b = s := ⟨_, rfl⟩
  rw [hs] at CD hn
  have hw : wrap64 (s - 2) = n := by rw [hn]; exact wr64 (by omega) (by omega)
  have H0 := (Holds.start w).blk #[.int .i64 a, .int .i64 b] 118 w.heap.size rfl
  rw [hs]
  obtain ⟨mx, hmx⟩ : ∃ m, (if a < b then b else a) = m := ⟨_, rfl⟩
  obtain ⟨mn, hmn⟩ : ∃ m, (if b < a then b else a) = m := ⟨_, rfl⟩
  rw [show max a b = mx by rw [← hmx]; split <;> omega, show min a b = mn by rw [← hmn]; split <;> omega]
  have FL9 : flat9 [[2], List.replicate n (1 : Int)] = 2 :: List.replicate n 1 := by unfold flat9; simp
  have FLH := hide FL9
  clear FL9 hs ha hb
  have HN := hide hn
  clear hn
  · go_enter Try.func137, Try.ntmps137
    go_wp2_with fail
    refine (CD.out _).mono ?_
    rintro e w1 ⟨rfl, hb1⟩
    have H1 := (H0.blk #[.int .i64 1] 2 (w.heap.size + 1) (by simp)).call hb1
    clear hb1 H0
    go_wp2_with fail
    refine (CR.out _ _ (rd_lit10 (H1.at 0 rfl))).mono ?_
    rintro e w2 ⟨vs, rfl, hk⟩
    have H2 : Holds w w2 [pZ9 vs (List.replicate n 1), pBlk w.heap.size #[.int .i64 a, .int .i64 b] 118] := ((H1.joinL hk).perm List.perm_append_comm).sub (.cons_cons _ (.cons _ (.refl _)))
    clear hk H1 CR
    go_wp2_with fail
    apply Rd.region_R6 (w0 := w) ([pZ9 vs (List.replicate n 1), pBlk w.heap.size #[.int .i64 a, .int .i64 b] 118]) ([pZ9 vs (List.replicate n 1), pBlk w.heap.size #[.int .i64 a, .int .i64 b] 118]) [18, 10, 14, 17, 11, 13] (.q 0 <| .q 1 <| .q 2 <| .q 3 <| .q 4 <| .q 5 <| .q 6 <| .q 7 <| .q 8 <| .q 9 <| .q 12 <| .q 15 <| .s2 10 (.s1 11 <| .s1 13 <| .s1 14 <| .q 16 <| .s1 17 <| .s1 18 <| .q 19 <| .fin) 11 (.s2 10 (.s1 13 <| .s1 14 <| .q 16 <| .s1 17 <| .s1 18 <| .q 19 <| .fin) 13 (.s2 10 (.s1 14 <| .q 16 <| .s1 17 <| .s1 18 <| .q 19 <| .fin) 14 (.q 16 <| .s2 10 (.s1 17 <| .s1 18 <| .q 19 <| .fin) 17 (.s1 10 <| .s1 18 <| .q 19 <| .fin))))) H2 (.refl _) (by kernel_rfl) (by kernel_rfl) (by kernel_rfl) (F := fun (g18 : Nat) (g10 : Nat) (v14 : Value) (g17 : Nat) (g11 : Nat) (g13 : Nat) => pBlk g18 #[.slice (some ⟨g10, 0, none⟩) 2 2, v14, .slice (some ⟨g17, 0, none⟩) 1 1] 79 :: pBlk g10 #[.int .i64 (mx), .int .i64 (mn)] 2 :: pZ9 v14 (flat9 [[2], List.replicate n 1]) :: pBlk g17 #[.int .i64 (s)] 2 :: pBlk g11 #[.int .i64 (2)] 2 :: pBlk g13 #[.slice (some ⟨g11, 0, none⟩) 1 1, vs] 79 :: [pZ9 vs (List.replicate n 1), pBlk w.heap.size #[.int .i64 a, .int .i64 b] 118])
    case h =>
      intro K key
      iterate 12
        apply Rd.v_q
        · simp only [List.getElem?_toArray, List.getElem?_cons_zero, List.getElem?_cons_succ]; exact rfl
        · rfl
        · go_simp
        · intro wx hx
          have c0 := hx.cell 1 rfl (j := 0) (v := .int .i64 a) rfl
          have c1 := hx.cell 1 rfl (j := 1) (v := .int .i64 b) rfl
          unfold atG
          go_simp
          simp only [uponG]
          exact ⟨by trivial, rfl⟩
      refine ⟨?_, ?_⟩
      · skip
        refine Rd.v_build #[.int .i64 (mx), .int .i64 (mn)] 2 2 (by simp only [List.getElem?_toArray, List.getElem?_cons_zero, List.getElem?_cons_succ]; exact rfl) rfl (by go_simp) (fun wx hx hD => by rw [exec_buildIs]; simp only [List.map_toArray, List.map_cons, List.map_nil]; go_simp; exact run_buildIs2 _ _ _) fun g10 => ?_
        refine Rd.v_build #[.int .i64 (2)] 2 1 (by simp only [List.getElem?_toArray, List.getElem?_cons_zero, List.getElem?_cons_succ]; exact rfl) rfl (by go_simp) (fun wx hx hD => by rw [exec_buildIs]; simp only [List.map_toArray, List.map_cons, List.map_nil]; go_simp; exact run_buildIs1 _ _) fun g11 => ?_
        refine Rd.v_build #[.slice (some ⟨g11, 0, none⟩) 1 1, vs] 79 2 (by simp only [List.getElem?_toArray, List.getElem?_cons_zero, List.getElem?_cons_succ]; exact rfl) rfl (by go_simp) (fun wx hx hD => by rw [exec_buildRs]; simp only [List.map_toArray, List.map_cons, List.map_nil]; go_simp; exact run_buildRs2 _ _ rfl (hD.oneZ 2 rfl) _) fun g13 => ?_
        refine Rd.v_ownZ10 (flat9 [[2], List.replicate n 1]) (by simp only [List.getElem?_toArray, List.getElem?_cons_zero, List.getElem?_cons_succ]; exact rfl) rfl (by go_simp) (fun wx hx hD => ?_) fun v14 => ?_
        · go_simp
          exact Rd.upon10_callZ hx hD (concat_any9 _ [[2], List.replicate n 1] (by unfold totZ; simp; omega) (by simp) wx (rd2_list (ls := [[2], List.replicate n 1]) (us := [.slice (some ⟨g11, 0, none⟩) 1 1, vs]) (hD.at 0 rfl) rfl (by simp) (fun i u l hu hl => by
                      match i with
                      | 0 => simp at hu hl; subst hu hl; exact rd_lit10 (hD.at 1 rfl)
                      | 1 => simp at hu hl; subst hu hl; exact hD.rdZ9 3 rfl (by simp; omega)
                      | k + 2 => simp at hu)))
        apply Rd.v_q
        · simp only [List.getElem?_toArray, List.getElem?_cons_zero, List.getElem?_cons_succ]; exact rfl
        · rfl
        · go_simp
        · intro wx hx
          unfold atG
          go_simp
          simp only [uponG]
          exact ⟨by trivial, CD.out wx⟩
        refine Rd.v_build #[.int .i64 (s)] 2 1 (by simp only [List.getElem?_toArray, List.getElem?_cons_zero, List.getElem?_cons_succ]; exact rfl) rfl (by go_simp) (fun wx hx hD => by rw [exec_buildIs]; simp only [List.map_toArray, List.map_cons, List.map_nil]; go_simp; exact run_buildIs1 _ _) fun g17 => ?_
        refine Rd.v_build #[.slice (some ⟨g10, 0, none⟩) 2 2, v14, .slice (some ⟨g17, 0, none⟩) 1 1] 79 3 (by simp only [List.getElem?_toArray, List.getElem?_cons_zero, List.getElem?_cons_succ]; exact rfl) rfl (by go_simp) (fun wx hx hD => by rw [exec_buildRs]; simp only [List.map_toArray, List.map_cons, List.map_nil]; go_simp; exact run_buildRs3 _ _ _ rfl (hD.oneZ 1 rfl) rfl _) fun g18 => ?_
        iterate 1
          apply Rd.v_q
          · simp only [List.getElem?_toArray, List.getElem?_cons_zero, List.getElem?_cons_succ]; exact rfl
          · rfl
          · go_simp
          · intro wx hx
            unfold atG
            go_simp
            simp only [uponG]
            exact ⟨by trivial, rfl⟩
        rintro wz - hz
        go_simp
        exact key g18 g10 v14 g17 g11 g13 _ (hz.perm ((((((List.Perm.swap _ _ _).cons _).cons _).cons _).cons _).trans (((((List.Perm.swap _ _ _).cons _).cons _).cons _).trans ((((List.Perm.swap _ _ _).cons _).cons _).trans (((List.Perm.swap _ _ _).cons _).trans ((((List.Perm.swap _ _ _).cons _).cons _).trans ((((((List.Perm.swap _ _ _).cons _).cons _).cons _).cons _))))))))
      · skip
        refine Rd.v_build #[.int .i64 (2)] 2 1 (by simp only [List.getElem?_toArray, List.getElem?_cons_zero, List.getElem?_cons_succ]; exact rfl) rfl (by go_simp) (fun wx hx hD => by rw [exec_buildIs]; simp only [List.map_toArray, List.map_cons, List.map_nil]; go_simp; exact run_buildIs1 _ _) fun g11 => ?_
        refine ⟨?_, ?_⟩
        · skip
          refine Rd.v_build #[.int .i64 (mx), .int .i64 (mn)] 2 2 (by simp only [List.getElem?_toArray, List.getElem?_cons_zero, List.getElem?_cons_succ]; exact rfl) rfl (by go_simp) (fun wx hx hD => by rw [exec_buildIs]; simp only [List.map_toArray, List.map_cons, List.map_nil]; go_simp; exact run_buildIs2 _ _ _) fun g10 => ?_
          refine Rd.v_build #[.slice (some ⟨g11, 0, none⟩) 1 1, vs] 79 2 (by simp only [List.getElem?_toArray, List.getElem?_cons_zero, List.getElem?_cons_succ]; exact rfl) rfl (by go_simp) (fun wx hx hD => by rw [exec_buildRs]; simp only [List.map_toArray, List.map_cons, List.map_nil]; go_simp; exact run_buildRs2 _ _ rfl (hD.oneZ 2 rfl) _) fun g13 => ?_
          refine Rd.v_ownZ10 (flat9 [[2], List.replicate n 1]) (by simp only [List.getElem?_toArray, List.getElem?_cons_zero, List.getElem?_cons_succ]; exact rfl) rfl (by go_simp) (fun wx hx hD => ?_) fun v14 => ?_
          · go_simp
            exact Rd.upon10_callZ hx hD (concat_any9 _ [[2], List.replicate n 1] (by unfold totZ; simp; omega) (by simp) wx (rd2_list (ls := [[2], List.replicate n 1]) (us := [.slice (some ⟨g11, 0, none⟩) 1 1, vs]) (hD.at 0 rfl) rfl (by simp) (fun i u l hu hl => by
                      match i with
                      | 0 => simp at hu hl; subst hu hl; exact rd_lit10 (hD.at 2 rfl)
                      | 1 => simp at hu hl; subst hu hl; exact hD.rdZ9 3 rfl (by simp; omega)
                      | k + 2 => simp at hu)))
          apply Rd.v_q
          · simp only [List.getElem?_toArray, List.getElem?_cons_zero, List.getElem?_cons_succ]; exact rfl
          · rfl
          · go_simp
          · intro wx hx
            unfold atG
            go_simp
            simp only [uponG]
            exact ⟨by trivial, CD.out wx⟩
          refine Rd.v_build #[.int .i64 (s)] 2 1 (by simp only [List.getElem?_toArray, List.getElem?_cons_zero, List.getElem?_cons_succ]; exact rfl) rfl (by go_simp) (fun wx hx hD => by rw [exec_buildIs]; simp only [List.map_toArray, List.map_cons, List.map_nil]; go_simp; exact run_buildIs1 _ _) fun g17 => ?_
          refine Rd.v_build #[.slice (some ⟨g10, 0, none⟩) 2 2, v14, .slice (some ⟨g17, 0, none⟩) 1 1] 79 3 (by simp only [List.getElem?_toArray, List.getElem?_cons_zero, List.getElem?_cons_succ]; exact rfl) rfl (by go_simp) (fun wx hx hD => by rw [exec_buildRs]; simp only [List.map_toArray, List.map_cons, List.map_nil]; go_simp; exact run_buildRs3 _ _ _ rfl (hD.oneZ 1 rfl) rfl _) fun g18 => ?_
          iterate 1
            apply Rd.v_q
            · simp only [List.getElem?_toArray, List.getElem?_cons_zero, List.getElem?_cons_succ]; exact rfl
            · rfl
            · go_simp
            · intro wx hx
              unfold atG
              go_simp
              simp only [uponG]
              exact ⟨by trivial, rfl⟩
          rintro wz - hz
          go_simp
          exact key g18 g10 v14 g17 g11 g13 _ (hz.perm (((((List.Perm.swap _ _ _).cons _).cons _).cons _).trans ((((List.Perm.swap _ _ _).cons _).cons _).trans (((List.Perm.swap _ _ _).cons _).trans ((((List.Perm.swap _ _ _).cons _).cons _).trans ((((((List.Perm.swap _ _ _).cons _).cons _).cons _).cons _)))))))
        · skip
          refine Rd.v_build #[.slice (some ⟨g11, 0, none⟩) 1 1, vs] 79 2 (by simp only [List.getElem?_toArray, List.getElem?_cons_zero, List.getElem?_cons_succ]; exact rfl) rfl (by go_simp) (fun wx hx hD => by rw [exec_buildRs]; simp only [List.map_toArray, List.map_cons, List.map_nil]; go_simp; exact run_buildRs2 _ _ rfl (hD.oneZ 1 rfl) _) fun g13 => ?_
          refine ⟨?_, ?_⟩
          · skip
            refine Rd.v_build #[.int .i64 (mx), .int .i64 (mn)] 2 2 (by simp only [List.getElem?_toArray, List.getElem?_cons_zero, List.getElem?_cons_succ]; exact rfl) rfl (by go_simp) (fun wx hx hD => by rw [exec_buildIs]; simp only [List.map_toArray, List.map_cons, List.map_nil]; go_simp; exact run_buildIs2 _ _ _) fun g10 => ?_
            refine Rd.v_ownZ10 (flat9 [[2], List.replicate n 1]) (by simp only [List.getElem?_toArray, List.getElem?_cons_zero, List.getElem?_cons_succ]; exact rfl) rfl (by go_simp) (fun wx hx hD => ?_) fun v14 => ?_
            · go_simp
              exact Rd.upon10_callZ hx hD (concat_any9 _ [[2], List.replicate n 1] (by unfold totZ; simp; omega) (by simp) wx (rd2_list (ls := [[2], List.replicate n 1]) (us := [.slice (some ⟨g11, 0, none⟩) 1 1, vs]) (hD.at 1 rfl) rfl (by simp) (fun i u l hu hl => by
                      match i with
                      | 0 => simp at hu hl; subst hu hl; exact rd_lit10 (hD.at 2 rfl)
                      | 1 => simp at hu hl; subst hu hl; exact hD.rdZ9 3 rfl (by simp; omega)
                      | k + 2 => simp at hu)))
            apply Rd.v_q
            · simp only [List.getElem?_toArray, List.getElem?_cons_zero, List.getElem?_cons_succ]; exact rfl
            · rfl
            · go_simp
            · intro wx hx
              unfold atG
              go_simp
              simp only [uponG]
              exact ⟨by trivial, CD.out wx⟩
            refine Rd.v_build #[.int .i64 (s)] 2 1 (by simp only [List.getElem?_toArray, List.getElem?_cons_zero, List.getElem?_cons_succ]; exact rfl) rfl (by go_simp) (fun wx hx hD => by rw [exec_buildIs]; simp only [List.map_toArray, List.map_cons, List.map_nil]; go_simp; exact run_buildIs1 _ _) fun g17 => ?_
            refine Rd.v_build #[.slice (some ⟨g10, 0, none⟩) 2 2, v14, .slice (some ⟨g17, 0, none⟩) 1 1] 79 3 (by simp only [List.getElem?_toArray, List.getElem?_cons_zero, List.getElem?_cons_succ]; exact rfl) rfl (by go_simp) (fun wx hx hD => by rw [exec_buildRs]; simp only [List.map_toArray, List.map_cons, List.map_nil]; go_simp; exact run_buildRs3 _ _ _ rfl (hD.oneZ 1 rfl) rfl _) fun g18 => ?_
            iterate 1
              apply Rd.v_q
              · simp only [List.getElem?_toArray, List.getElem?_cons_zero, List.getElem?_cons_succ]; exact rfl
              · rfl
              · go_simp
              · intro wx hx
                unfold atG
                go_simp
                simp only [uponG]
                exact ⟨by trivial, rfl⟩
            rintro wz - hz
            go_simp
            exact key g18 g10 v14 g17 g11 g13 _ (hz.perm ((((List.Perm.swap _ _ _).cons _).cons _).trans (((List.Perm.swap _ _ _).cons _).trans ((((List.Perm.swap _ _ _).cons _).cons _).trans ((((((List.Perm.swap _ _ _).cons _).cons _).cons _).cons _))))))
          · skip
            refine Rd.v_ownZ10 (flat9 [[2], List.replicate n 1]) (by simp only [List.getElem?_toArray, List.getElem?_cons_zero, List.getElem?_cons_succ]; exact rfl) rfl (by go_simp) (fun wx hx hD => ?_) fun v14 => ?_
            · go_simp
              exact Rd.upon10_callZ hx hD (concat_any9 _ [[2], List.replicate n 1] (by unfold totZ; simp; omega) (by simp) wx (rd2_list (ls := [[2], List.replicate n 1]) (us := [.slice (some ⟨g11, 0, none⟩) 1 1, vs]) (hD.at 0 rfl) rfl (by simp) (fun i u l hu hl => by
                      match i with
                      | 0 => simp at hu hl; subst hu hl; exact rd_lit10 (hD.at 1 rfl)
                      | 1 => simp at hu hl; subst hu hl; exact hD.rdZ9 2 rfl (by simp; omega)
                      | k + 2 => simp at hu)))
            apply Rd.v_q
            · simp only [List.getElem?_toArray, List.getElem?_cons_zero, List.getElem?_cons_succ]; exact rfl
            · rfl
            · go_simp
            · intro wx hx
              unfold atG
              go_simp
              simp only [uponG]
              exact ⟨by trivial, CD.out wx⟩
            refine ⟨?_, ?_⟩
            · skip
              refine Rd.v_build #[.int .i64 (mx), .int .i64 (mn)] 2 2 (by simp only [List.getElem?_toArray, List.getElem?_cons_zero, List.getElem?_cons_succ]; exact rfl) rfl (by go_simp) (fun wx hx hD => by rw [exec_buildIs]; simp only [List.map_toArray, List.map_cons, List.map_nil]; go_simp; exact run_buildIs2 _ _ _) fun g10 => ?_
              refine Rd.v_build #[.int .i64 (s)] 2 1 (by simp only [List.getElem?_toArray, List.getElem?_cons_zero, List.getElem?_cons_succ]; exact rfl) rfl (by go_simp) (fun wx hx hD => by rw [exec_buildIs]; simp only [List.map_toArray, List.map_cons, List.map_nil]; go_simp; exact run_buildIs1 _ _) fun g17 => ?_
              refine Rd.v_build #[.slice (some ⟨g10, 0, none⟩) 2 2, v14, .slice (some ⟨g17, 0, none⟩) 1 1] 79 3 (by simp only [List.getElem?_toArray, List.getElem?_cons_zero, List.getElem?_cons_succ]; exact rfl) rfl (by go_simp) (fun wx hx hD => by rw [exec_buildRs]; simp only [List.map_toArray, List.map_cons, List.map_nil]; go_simp; exact run_buildRs3 _ _ _ rfl (hD.oneZ 2 rfl) rfl _) fun g18 => ?_
              iterate 1
                apply Rd.v_q
                · simp only [List.getElem?_toArray, List.getElem?_cons_zero, List.getElem?_cons_succ]; exact rfl
                · rfl
                · go_simp
                · intro wx hx
                  unfold atG
                  go_simp
                  simp only [uponG]
                  exact ⟨by trivial, rfl⟩
              rintro wz - hz
              go_simp
              exact key g18 g10 v14 g17 g11 g13 _ (hz.perm (((List.Perm.swap _ _ _).cons _).trans ((((List.Perm.swap _ _ _).cons _).cons _).trans ((((((List.Perm.swap _ _ _).cons _).cons _).cons _).cons _)))))
            · skip
              refine Rd.v_build #[.int .i64 (s)] 2 1 (by simp only [List.getElem?_toArray, List.getElem?_cons_zero, List.getElem?_cons_succ]; exact rfl) rfl (by go_simp) (fun wx hx hD => by rw [exec_buildIs]; simp only [List.map_toArray, List.map_cons, List.map_nil]; go_simp; exact run_buildIs1 _ _) fun g17 => ?_
              refine Rd.v_build #[.int .i64 (mx), .int .i64 (mn)] 2 2 (by simp only [List.getElem?_toArray, List.getElem?_cons_zero, List.getElem?_cons_succ]; exact rfl) rfl (by go_simp) (fun wx hx hD => by rw [exec_buildIs]; simp only [List.map_toArray, List.map_cons, List.map_nil]; go_simp; exact run_buildIs2 _ _ _) fun g10 => ?_
              refine Rd.v_build #[.slice (some ⟨g10, 0, none⟩) 2 2, v14, .slice (some ⟨g17, 0, none⟩) 1 1] 79 3 (by simp only [List.getElem?_toArray, List.getElem?_cons_zero, List.getElem?_cons_succ]; exact rfl) rfl (by go_simp) (fun wx hx hD => by rw [exec_buildRs]; simp only [List.map_toArray, List.map_cons, List.map_nil]; go_simp; exact run_buildRs3 _ _ _ rfl (hD.oneZ 2 rfl) rfl _) fun g18 => ?_
              iterate 1
                apply Rd.v_q
                · simp only [List.getElem?_toArray, List.getElem?_cons_zero, List.getElem?_cons_succ]; exact rfl
                · rfl
                · go_simp
                · intro wx hx
                  unfold atG
                  go_simp
                  simp only [uponG]
                  exact ⟨by trivial, rfl⟩
              rintro wz - hz
              go_simp
              exact key g18 g10 v14 g17 g11 g13 _ (hz.perm ((((List.Perm.swap _ _ _).cons _).cons _).trans ((((((List.Perm.swap _ _ _).cons _).cons _).cons _).cons _))))
    case key =>
      rintro g18 g10 v14 g17 g11 g13 w5 h5
      have h6 := h5.blkZ 1 rfl (l := [mx, mn]) rfl (by simp)
      have h7 := h6.blkZ 3 rfl (l := [s]) rfl (by simp)
      have h8 := own2z_3 h7
      rw [FLH.out] at h8
      have hlo := h5.low
      clear h5 h6 h7 H2 CD
      go_wp2
      go_ret
      exact ⟨_, rfl, hlo, h8⟩
/-- a rule with these multiplicities -/
def MulV (v : Value) (ls : List (List Int)) : Prop :=
  ∃ (T : TypeId) (x : Value) (K : Nat) (r : Value), v = .iface T x ∧ (∀ (N : Nat) w, (method (N + 1) T x "loop.example/g01200/impl.multiplicities").run Try.prog w = .ok (K, r) w) ∧ (∀ (N : Nat) w, (nilAhead (N + 1) T x "loop.example/g01200/impl.multiplicities").run Try.prog w = .ok (some false) w) ∧ (∀ (a : Value) w, (callFunc K #[a]).run Try.prog w = .ok (.enter K #[a]) w) ∧
    ∀ w, Calls Try.prog K #[r] w fun e w' => ∃ v, e = .returned v ∧ Below w.heap.size w w' ∧ Own2Z w.heap.size w' v ls
set_option maxRecDepth 100000 in
theorem mul_rule {k a b : Int} (h : mvB k a b = true) : MulV (rlV k a b) (pmL k a b) := by
  have hm := mvB_true h
  by_cases h0 : k = 0
  · rw [show rlV k a b = .iface 115 (.agg #[]) from if_pos h0, show pmL k a b = [[1], [1], [1]] from if_neg (by omega)]
    exact ⟨115, .agg #[], 132, .agg #[], rfl, fun _ _ => by kernel_rfl, fun _ _ => by kernel_rfl, fun _ _ => by kernel_rfl, fun w => oneMult_any w⟩
  · by_cases h1 : k = 1
    · rw [show rlV k a b = .iface 116 (.agg #[]) from (if_neg h0).trans (if_pos h1), show pmL k a b = [[1], [1], [1]] from if_neg (by omega)]
      exact ⟨116, .agg #[], 132, .agg #[], rfl, fun _ _ => by kernel_rfl, fun _ _ => by kernel_rfl, fun _ _ => by kernel_rfl, fun w => oneMult_any w⟩
    · rw [show rlV k a b = .iface 118 (.agg #[.int .i64 a, .int .i64 b]) from (if_neg h0).trans (if_neg h1), show pmL k a b = [[max a b, min a b], 2 :: List.replicate (a + b - 2).toNat 1, [a + b]] from if_pos (by omega)]
      exact ⟨118, .agg #[.int .i64 a, .int .i64 b], 137, .agg #[.int .i64 a, .int .i64 b], rfl, fun _ _ => by kernel_rfl, fun _ _ => by kernel_rfl, fun _ _ => by kernel_rfl, fun w => powMult_any a b (by omega) (by omega) w⟩
/-- what PassportOfMove tells -/
def pmR (k a b : Int) : List (List Int) := if mvB k a b = true ∧ dg k a b ≤ 16 then pmL k a b else []
def pmC (k a b : Int) : Int := if mvB k a b = true then (if dg k a b ≤ 16 then 0 else 3) else 1
theorem own2Z_nil (B : Nat) (w : World) : Own2Z B w (.slice none 0 0) [] := ⟨[], rfl, World.ownsRow_nil _ _ _ _, fun i u l hu => by simp at hu, fun i j u u' _ hu => by simp at hu⟩
theorem pmR_size (k a b : Int) : totZ (pmR k a b) ≤ 1000000 ∧ (pmR k a b).length ≤ 1000000 := by
  unfold pmR
  split
  · rename_i h
    have hm := mvB_true h.1
    unfold pmL totZ
    split <;> simp <;> omega
  · unfold totZ; simp
set_option maxRecDepth 100000 in
set_option maxHeartbeats 2000000 in
theorem passportOfMove_any (k a b : Int) (w : World) : Calls Try.prog 52 #[.agg #[.int .i64 k, .int .i64 a, .int .i64 b]] w fun e w' => ∃ v, e = .returned (.tuple #[v, .int .i64 (pmC k a b)]) ∧ Below w.heap.size w w' ∧ Own2Z w.heap.size w' v (pmR k a b) := by
  have H0 := (Holds.start w).blk #[.int .i64 k, .int .i64 a, .int .i64 b] 38 w.heap.size rfl
  have CB := hide fun w => isMove_any k a b w
  have CL := hide fun w => ruleOf_any k a b w
  rcases hm : mvB k a b with _ | _
  · rw [show pmC k a b = 1 from if_neg (by rw [hm]; decide), show pmR k a b = [] from if_neg (by rw [hm]; simp)]
    rw [hm] at CB
    clear hm CL
    go_enter Try.func52, Try.ntmps52
    go_wp2_with fail
    refine (CB.out _).mono ?_
    rintro e w1 ⟨rfl, hb⟩
    have H1 := (H0.call hb).low
    clear hb CB H0
    go_wp2_with fail
    go_ret2
    exact ⟨_, rfl, H1, own2Z_nil _ _⟩
  rw [hm] at CB
  obtain ⟨T, x, K, r, hv, mt, nl, cl, CD⟩ := deg_rule hm
  obtain ⟨T2, x2, K2, r2, hv2, mt2, nl2, cl2, CM⟩ := mul_rule hm
  have e2 : Value.iface T x = Value.iface T2 x2 := hv.symm.trans hv2
  injection e2 with e3 e4
  subst e3 e4
  rw [hv] at CL
  have CDh := hide CD
  have CMh := hide CM
  clear CD CM hv hv2
  by_cases h16 : dg k a b ≤ 16
  · rw [show pmC k a b = 0 from (if_pos hm).trans (if_pos h16), show pmR k a b = pmL k a b from if_pos ⟨hm, h16⟩]
    have hd := decide_eq_false (show ¬ (16 < dg k a b) by omega)
    clear h16 hm
    generalize dg k a b = d at *
    generalize pmL k a b = ls at *
    go_enter Try.func52, Try.ntmps52
    go_wp2_with fail
    refine (CB.out _).mono ?_
    rintro e w1 ⟨rfl, hb⟩
    have H1 := H0.call hb
    clear hb CB H0
    have c0 := H1.cell 0 rfl (j := 0) (v := .int .i64 k) rfl
    have c1 := H1.cell 0 rfl (j := 1) (v := .int .i64 a) rfl
    have c2 := H1.cell 0 rfl (j := 2) (v := .int .i64 b) rfl
    go_wp2_with fail
    refine (CL.out _).mono ?_
    rintro e w2 ⟨rfl, hb⟩
    have H2 := H1.call hb
    clear hb H1 c0 c1 c2
    go_wp2_with fail
    refine (CDh.out _).mono ?_
    rintro e w3 ⟨rfl, hb⟩
    have H3 := H2.call hb
    clear hb H2 CDh
    have c0 := H3.cell 0 rfl (j := 0) (v := .int .i64 k) rfl
    have c1 := H3.cell 0 rfl (j := 1) (v := .int .i64 a) rfl
    have c2 := H3.cell 0 rfl (j := 2) (v := .int .i64 b) rfl
    go_wp2_with fail
    refine (CL.out _).mono ?_
    rintro e w4 ⟨rfl, hb⟩
    have H4 := H3.call hb
    clear hb H3 c0 c1 c2 CL
    go_wp2_with fail
    refine (CMh.out _).mono ?_
    rintro e w5 ⟨v, rfl, hb, ho⟩
    have H5 := (H4.call hb).low
    have ho' : Own2Z w.heap.size w5 v ls := by
      obtain ⟨vs, ho⟩ := ho
      refine ⟨vs, ho.len, row_low ho.row H4.size, fun i u l hu hl => row_low (ho.each i u l hu hl) H4.size, ho.dist⟩
    have HO := hide ho'
    clear hb ho ho' H4
    go_wp2_with fail
    go_ret2
    exact ⟨_, rfl, H5, HO.out⟩
  · rw [show pmC k a b = 3 from (if_pos hm).trans (if_neg h16), show pmR k a b = [] from if_neg (fun h => h16 h.2)]
    have hd := decide_eq_true (show 16 < dg k a b by omega)
    clear h16 hm CMh mt2 nl2 cl2
    generalize dg k a b = d at *
    go_enter Try.func52, Try.ntmps52
    go_wp2_with fail
    refine (CB.out _).mono ?_
    rintro e w1 ⟨rfl, hb⟩
    have H1 := H0.call hb
    clear hb CB H0
    have c0 := H1.cell 0 rfl (j := 0) (v := .int .i64 k) rfl
    have c1 := H1.cell 0 rfl (j := 1) (v := .int .i64 a) rfl
    have c2 := H1.cell 0 rfl (j := 2) (v := .int .i64 b) rfl
    go_wp2_with fail
    refine (CL.out _).mono ?_
    rintro e w2 ⟨rfl, hb⟩
    have H2 := H1.call hb
    clear hb H1 c0 c1 c2
    go_wp2_with fail
    refine (CDh.out _).mono ?_
    rintro e w3 ⟨rfl, hb⟩
    have H3 := (H2.call hb).low
    clear hb H2 CDh
    go_wp2_with fail
    go_ret2
    exact ⟨_, rfl, H3, own2Z_nil _ _⟩
end Go.Proofs.Ytpkfjdaedaplfaa

