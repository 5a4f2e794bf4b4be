/- l07Class: the model's search for two classes -/
import Derived.Test.YteeideminlcblaaCls
import Derived.Test.YteeideminlcblaaAre
import Derived.Test.YteeideminlcblaaRegS
import Derived.Test.YteeideminlcblaaWr
import Derived.Test.YteeideminlcblaaSets
import Derived.BigQuiet
namespace Go.Proofs.Yteeideminlcblaa
open Go.RowKit

theorem Holds.oneRow {w0 w : World} {L : List Part} (h : Holds w0 w L) (i : Nat) {g : Nat} {x : Nat} (hi : L[i]? = some (pBlk g #[.int .i64 (x : Nat)] 2)) : Holds w0 w (L.set i (pInts (.slice (some ⟨g, 0, none⟩) 1 1) [x])) := by
  refine h.turn i hi _ ?_ rfl rfl rfl (Nat.le_refl _) (fun _ _ _ => rfl) fun k hk => .inl ?_
  · exact ⟨rfl, .inr ⟨g, 1, #[.int .i64 (x : Nat)], rfl, Nat.zero_le _, h.at i hi, Nat.le_refl 1, by decide, rfl, rfl⟩⟩
  · have : g = k := by simpa [pInts, pRow, Value.ownBlock] using hk
    exact this.symm

set_option maxRecDepth 100000 in
set_option maxHeartbeats 4000000 in
theorem sClass_any (n : Nat) (hn : n ≤ 32) (h0 : 0 < n) (c t s : Nat → Nat) (hps : Keeps [c, t, s] n) (w : World) :
    Calls Try.prog 64 #[.agg (fv n c t s)] w fun e w' => ∃ K : Nat → Int, e = .returned (.tuple #[.agg (iv K), .bool (orB [c, t, s])]) ∧ (∀ S, cb [c, t, s] 32 = some S → K = mc S.2) ∧ Below w.heap.size w w' := by
  have HPS := hide hps; clear hps
  have HH0 := ((Holds.start w).blk (fv n c t s) 53 w.heap.size rfl).blk (iv fun _ => 0) 84 (w.heap.size + 1) (by simp)
  go_enter Try.func64, Try.ntmps64
  go_wp2
  rw [← iv_zero]
  apply Rd.region_R3 (w0 := w) [pBlk (w.heap.size + 1) (iv fun _ => 0) 84, pBlk w.heap.size (fv n c t s) 53] [pBlk (w.heap.size + 1) (iv fun _ => 0) 84, pBlk w.heap.size (fv n c t s) 53] [1, 8, 9, 10] (.q 0 <| .q 2 <| .q 3 <| .q 4 <| .q 5 <| .q 6 <| .q 7 <| .s3 1 (.s2 8 (.s1 9 <| .s1 10 <| .q 11 <| .q 12 .fin) 9 (.s2 8 (.s1 10 <| .q 11 <| .q 12 .fin) 10 (.q 11 <| .s1 8 <| .q 12 .fin))) 8 (.s2 1 (.s1 9 <| .s1 10 <| .q 11 <| .q 12 .fin) 9 (.s2 1 (.s1 10 <| .q 11 <| .q 12 .fin) 10 (.s1 1 <| .q 11 <| .q 12 .fin))) 9 (.s3 1 (.s2 8 (.s1 10 <| .q 11 <| .q 12 .fin) 10 (.q 11 <| .s1 8 <| .q 12 .fin)) 8 (.s2 1 (.s1 10 <| .q 11 <| .q 12 .fin) 10 (.s1 1 <| .q 11 <| .q 12 .fin)) 10 (.s2 1 (.q 11 <| .s1 8 <| .q 12 .fin) 8 (.s1 1 <| .q 11 <| .q 12 .fin)))) HH0 (.refl _) (by kernel_rfl) (by kernel_rfl) (by kernel_rfl) (F := fun (g1 g8 g9 : Nat) => pBlk g1 #[.int .i64 0] 2 :: pBlk g8 (lsB [c, t, s]).toArray 48 :: pBlk g9 (iv fun _ => 0) 84 :: [pBlk (w.heap.size + 1) (iv fun _ => 0) 84, pBlk w.heap.size (fv n c t s) 53])
  case h =>
    intro K key
    iterate 1
      apply Rd.v_q
      · simp only [List.getElem?_toArray, List.getElem?_cons_zero, List.getElem?_cons_succ]; exact rfl
      · rfl
      · go_simp
      · intro wx hx
        have q0 := hx.cells 1 rfl
        unfold atG
        go_simp
        simp only [uponG]
        exact ⟨by trivial, rfl⟩
    iterate 1
      apply Rd.v_q
      · simp only [List.getElem?_toArray, List.getElem?_cons_zero, List.getElem?_cons_succ]; exact rfl
      · rfl
      · go_simp
      · intro wx hx
        have q0 := hx.cells 1 rfl
        unfold atG
        go_simp
        simp only [uponG]
        exact ⟨by trivial, rfl⟩
    iterate 1
      apply Rd.v_q
      · simp only [List.getElem?_toArray, List.getElem?_cons_zero, List.getElem?_cons_succ]; exact rfl
      · rfl
      · go_simp
      · intro wx hx
        have q0 := hx.cells 1 rfl
        unfold atG
        go_simp
        simp only [uponG]
        exact ⟨by trivial, rfl⟩
    iterate 1
      apply Rd.v_q
      · simp only [List.getElem?_toArray, List.getElem?_cons_zero, List.getElem?_cons_succ]; exact rfl
      · rfl
      · go_simp
      · intro wx hx
        have q0 := hx.cells 1 rfl
        unfold atG
        go_simp
        simp only [uponG]
        exact ⟨by trivial, rfl⟩
    iterate 1
      apply Rd.v_q
      · simp only [List.getElem?_toArray, List.getElem?_cons_zero, List.getElem?_cons_succ]; exact rfl
      · rfl
      · go_simp
      · intro wx hx
        have q0 := hx.cells 1 rfl
        unfold atG
        go_simp
        simp only [uponG]
        exact ⟨by trivial, rfl⟩
    iterate 1
      apply Rd.v_q
      · simp only [List.getElem?_toArray, List.getElem?_cons_zero, List.getElem?_cons_succ]; exact rfl
      · rfl
      · go_simp
      · intro wx hx
        have q0 := hx.cells 1 rfl
        unfold atG
        go_simp
        simp only [uponG]
        exact ⟨by trivial, rfl⟩
    iterate 1
      apply Rd.v_q
      · simp only [List.getElem?_toArray, List.getElem?_cons_zero, List.getElem?_cons_succ]; exact rfl
      · rfl
      · go_simp
      · intro wx hx
        have q0 := hx.cells 1 rfl
        unfold atG
        go_simp
        simp only [uponG]
        exact ⟨by trivial, rfl⟩
    refine ⟨?_, ?_, ?_⟩
    · refine Rd.v_build #[.int .i64 0] 2 1 (by simp only [List.getElem?_toArray, List.getElem?_cons_zero, List.getElem?_cons_succ]; exact rfl) rfl (by go_simp) (fun wx hx hD => by go_simp) fun g1 => ?_
      refine ⟨?_, ?_⟩
      · refine Rd.v_build (lsB [c, t, s]).toArray 48 3 (by simp only [List.getElem?_toArray, List.getElem?_cons_zero, List.getElem?_cons_succ]; exact rfl) rfl (by go_simp) (fun wx hx hD => by go_simp) fun g8 => ?_
        refine Rd.v_box (iv fun _ => 0) 84 (by simp only [List.getElem?_toArray, List.getElem?_cons_zero, List.getElem?_cons_succ]; exact rfl) rfl (by go_simp) (fun wx hx hD => by rw [iv_zero]; go_simp) fun g9 => ?_
        refine Rd.v_put 0 g9 (iv fun _ => 0) (iv fun _ => 0) 84 rfl (.cons _ (.cons _ (.cons _ (.refl _)))) (by simp only [List.getElem?_toArray, List.getElem?_cons_zero, List.getElem?_cons_succ]; exact rfl) rfl (by go_simp) (fun wx hx hD => ?_) ?_
        · have rr := hD.rowOk 0 rfl (iv_size _)
          rw [iv_zero]
          go_simp
        iterate 1
          apply Rd.v_q
          · simp only [List.getElem?_toArray, List.getElem?_cons_zero, List.getElem?_cons_succ]; exact rfl
          · rfl
          · go_simp
          · intro wx hx
            unfold atG
            go_simp
            simp only [uponG]
            exact ⟨by trivial, rfl⟩
        iterate 1
          apply Rd.v_q
          · simp only [List.getElem?_toArray, List.getElem?_cons_zero, List.getElem?_cons_succ]; exact rfl
          · rfl
          · go_simp
          · intro wx hx
            unfold atG
            go_simp
            simp only [uponG]
            exact ⟨by trivial, rfl⟩
        rintro w4 - hx4
        go_simp
        exact key g1 g8 g9 _ (Holds.perm (Holds.perm (Holds.perm hx4 (List.Perm.swap _ _ _)) (.cons _ (List.Perm.swap _ _ _))) (List.Perm.swap _ _ _))
      · refine Rd.v_box (iv fun _ => 0) 84 (by simp only [List.getElem?_toArray, List.getElem?_cons_zero, List.getElem?_cons_succ]; exact rfl) rfl (by go_simp) (fun wx hx hD => by rw [iv_zero]; go_simp) fun g9 => ?_
        refine ⟨?_, ?_⟩
        · refine Rd.v_build (lsB [c, t, s]).toArray 48 3 (by simp only [List.getElem?_toArray, List.getElem?_cons_zero, List.getElem?_cons_succ]; exact rfl) rfl (by go_simp) (fun wx hx hD => by go_simp) fun g8 => ?_
          refine Rd.v_put 1 g9 (iv fun _ => 0) (iv fun _ => 0) 84 rfl (.cons _ (.cons _ (.cons _ (.refl _)))) (by simp only [List.getElem?_toArray, List.getElem?_cons_zero, List.getElem?_cons_succ]; exact rfl) rfl (by go_simp) (fun wx hx hD => ?_) ?_
          · have rr := hD.rowOk 1 rfl (iv_size _)
            rw [iv_zero]
            go_simp
          iterate 1
            apply Rd.v_q
            · simp only [List.getElem?_toArray, List.getElem?_cons_zero, List.getElem?_cons_succ]; exact rfl
            · rfl
            · go_simp
            · intro wx hx
              unfold atG
              go_simp
              simp only [uponG]
              exact ⟨by trivial, rfl⟩
          iterate 1
            apply Rd.v_q
            · simp only [List.getElem?_toArray, List.getElem?_cons_zero, List.getElem?_cons_succ]; exact rfl
            · rfl
            · go_simp
            · intro wx hx
              unfold atG
              go_simp
              simp only [uponG]
              exact ⟨by trivial, rfl⟩
          rintro w4 - hx4
          go_simp
          exact key g1 g8 g9 _ (Holds.perm (Holds.perm hx4 (.cons _ (List.Perm.swap _ _ _))) (List.Perm.swap _ _ _))
        · refine Rd.v_put 0 g9 (iv fun _ => 0) (iv fun _ => 0) 84 rfl (.cons _ (.cons _ (.refl _))) (by simp only [List.getElem?_toArray, List.getElem?_cons_zero, List.getElem?_cons_succ]; exact rfl) rfl (by go_simp) (fun wx hx hD => ?_) ?_
          · have rr := hD.rowOk 0 rfl (iv_size _)
            rw [iv_zero]
            go_simp
          iterate 1
            apply Rd.v_q
            · simp only [List.getElem?_toArray, List.getElem?_cons_zero, List.getElem?_cons_succ]; exact rfl
            · rfl
            · go_simp
            · intro wx hx
              unfold atG
              go_simp
              simp only [uponG]
              exact ⟨by trivial, rfl⟩
          refine Rd.v_build (lsB [c, t, s]).toArray 48 3 (by simp only [List.getElem?_toArray, List.getElem?_cons_zero, List.getElem?_cons_succ]; exact rfl) rfl (by go_simp) (fun wx hx hD => by go_simp) fun g8 => ?_
          iterate 1
            apply Rd.v_q
            · simp only [List.getElem?_toArray, List.getElem?_cons_zero, List.getElem?_cons_succ]; exact rfl
            · rfl
            · go_simp
            · intro wx hx
              unfold atG
              go_simp
              simp only [uponG]
              exact ⟨by trivial, rfl⟩
          rintro w4 - hx4
          go_simp
          exact key g1 g8 g9 _ (Holds.perm (Holds.perm hx4 (.cons _ (List.Perm.swap _ _ _))) (List.Perm.swap _ _ _))
    · refine Rd.v_build (lsB [c, t, s]).toArray 48 3 (by simp only [List.getElem?_toArray, List.getElem?_cons_zero, List.getElem?_cons_succ]; exact rfl) rfl (by go_simp) (fun wx hx hD => by go_simp) fun g8 => ?_
      refine ⟨?_, ?_⟩
      · refine Rd.v_build #[.int .i64 0] 2 1 (by simp only [List.getElem?_toArray, List.getElem?_cons_zero, List.getElem?_cons_succ]; exact rfl) rfl (by go_simp) (fun wx hx hD => by go_simp) fun g1 => ?_
        refine Rd.v_box (iv fun _ => 0) 84 (by simp only [List.getElem?_toArray, List.getElem?_cons_zero, List.getElem?_cons_succ]; exact rfl) rfl (by go_simp) (fun wx hx hD => by rw [iv_zero]; go_simp) fun g9 => ?_
        refine Rd.v_put 0 g9 (iv fun _ => 0) (iv fun _ => 0) 84 rfl (.cons _ (.cons _ (.cons _ (.refl _)))) (by simp only [List.getElem?_toArray, List.getElem?_cons_zero, List.getElem?_cons_succ]; exact rfl) rfl (by go_simp) (fun wx hx hD => ?_) ?_
        · have rr := hD.rowOk 0 rfl (iv_size _)
          rw [iv_zero]
          go_simp
        iterate 1
          apply Rd.v_q
          · simp only [List.getElem?_toArray, List.getElem?_cons_zero, List.getElem?_cons_succ]; exact rfl
          · rfl
          · go_simp
          · intro wx hx
            unfold atG
            go_simp
            simp only [uponG]
            exact ⟨by trivial, rfl⟩
        iterate 1
          apply Rd.v_q
          · simp only [List.getElem?_toArray, List.getElem?_cons_zero, List.getElem?_cons_succ]; exact rfl
          · rfl
          · go_simp
          · intro wx hx
            unfold atG
            go_simp
            simp only [uponG]
            exact ⟨by trivial, rfl⟩
        rintro w4 - hx4
        go_simp
        exact key g1 g8 g9 _ (Holds.perm (Holds.perm hx4 (List.Perm.swap _ _ _)) (.cons _ (List.Perm.swap _ _ _)))
      · refine Rd.v_box (iv fun _ => 0) 84 (by simp only [List.getElem?_toArray, List.getElem?_cons_zero, List.getElem?_cons_succ]; exact rfl) rfl (by go_simp) (fun wx hx hD => by rw [iv_zero]; go_simp) fun g9 => ?_
        refine ⟨?_, ?_⟩
        · refine Rd.v_build #[.int .i64 0] 2 1 (by simp only [List.getElem?_toArray, List.getElem?_cons_zero, List.getElem?_cons_succ]; exact rfl) rfl (by go_simp) (fun wx hx hD => by go_simp) fun g1 => ?_
          refine Rd.v_put 1 g9 (iv fun _ => 0) (iv fun _ => 0) 84 rfl (.cons _ (.cons _ (.cons _ (.refl _)))) (by simp only [List.getElem?_toArray, List.getElem?_cons_zero, List.getElem?_cons_succ]; exact rfl) rfl (by go_simp) (fun wx hx hD => ?_) ?_
          · have rr := hD.rowOk 1 rfl (iv_size _)
            rw [iv_zero]
            go_simp
          iterate 1
            apply Rd.v_q
            · simp only [List.getElem?_toArray, List.getElem?_cons_zero, List.getElem?_cons_succ]; exact rfl
            · rfl
            · go_simp
            · intro wx hx
              unfold atG
              go_simp
              simp only [uponG]
              exact ⟨by trivial, rfl⟩
          iterate 1
            apply Rd.v_q
            · simp only [List.getElem?_toArray, List.getElem?_cons_zero, List.getElem?_cons_succ]; exact rfl
            · rfl
            · go_simp
            · intro wx hx
              unfold atG
              go_simp
              simp only [uponG]
              exact ⟨by trivial, rfl⟩
          rintro w4 - hx4
          go_simp
          exact key g1 g8 g9 _ (Holds.perm hx4 (.cons _ (List.Perm.swap _ _ _)))
        · refine Rd.v_put 0 g9 (iv fun _ => 0) (iv fun _ => 0) 84 rfl (.cons _ (.cons _ (.refl _))) (by simp only [List.getElem?_toArray, List.getElem?_cons_zero, List.getElem?_cons_succ]; exact rfl) rfl (by go_simp) (fun wx hx hD => ?_) ?_
          · have rr := hD.rowOk 0 rfl (iv_size _)
            rw [iv_zero]
            go_simp
          refine Rd.v_build #[.int .i64 0] 2 1 (by simp only [List.getElem?_toArray, List.getElem?_cons_zero, List.getElem?_cons_succ]; exact rfl) rfl (by go_simp) (fun wx hx hD => by go_simp) fun g1 => ?_
          iterate 1
            apply Rd.v_q
            · simp only [List.getElem?_toArray, List.getElem?_cons_zero, List.getElem?_cons_succ]; exact rfl
            · rfl
            · go_simp
            · intro wx hx
              unfold atG
              go_simp
              simp only [uponG]
              exact ⟨by trivial, rfl⟩
          iterate 1
            apply Rd.v_q
            · simp only [List.getElem?_toArray, List.getElem?_cons_zero, List.getElem?_cons_succ]; exact rfl
            · rfl
            · go_simp
            · intro wx hx
              unfold atG
              go_simp
              simp only [uponG]
              exact ⟨by trivial, rfl⟩
          rintro w4 - hx4
          go_simp
          exact key g1 g8 g9 _ (Holds.perm hx4 (.cons _ (List.Perm.swap _ _ _)))
    · refine Rd.v_box (iv fun _ => 0) 84 (by simp only [List.getElem?_toArray, List.getElem?_cons_zero, List.getElem?_cons_succ]; exact rfl) rfl (by go_simp) (fun wx hx hD => by rw [iv_zero]; go_simp) fun g9 => ?_
      refine ⟨?_, ?_, ?_⟩
      · refine Rd.v_build #[.int .i64 0] 2 1 (by simp only [List.getElem?_toArray, List.getElem?_cons_zero, List.getElem?_cons_succ]; exact rfl) rfl (by go_simp) (fun wx hx hD => by go_simp) fun g1 => ?_
        refine ⟨?_, ?_⟩
        · refine Rd.v_build (lsB [c, t, s]).toArray 48 3 (by simp only [List.getElem?_toArray, List.getElem?_cons_zero, List.getElem?_cons_succ]; exact rfl) rfl (by go_simp) (fun wx hx hD => by go_simp) fun g8 => ?_
          refine Rd.v_put 2 g9 (iv fun _ => 0) (iv fun _ => 0) 84 rfl (.cons _ (.cons _ (.cons _ (.refl _)))) (by simp only [List.getElem?_toArray, List.getElem?_cons_zero, List.getElem?_cons_succ]; exact rfl) rfl (by go_simp) (fun wx hx hD => ?_) ?_
          · have rr := hD.rowOk 2 rfl (iv_size _)
            rw [iv_zero]
            go_simp
          iterate 1
            apply Rd.v_q
            · simp only [List.getElem?_toArray, List.getElem?_cons_zero, List.getElem?_cons_succ]; exact rfl
            · rfl
            · go_simp
            · intro wx hx
              unfold atG
              go_simp
              simp only [uponG]
              exact ⟨by trivial, rfl⟩
          iterate 1
            apply Rd.v_q
            · simp only [List.getElem?_toArray, List.getElem?_cons_zero, List.getElem?_cons_succ]; exact rfl
            · rfl
            · go_simp
            · intro wx hx
              unfold atG
              go_simp
              simp only [uponG]
              exact ⟨by trivial, rfl⟩
          rintro w4 - hx4
          go_simp
          exact key g1 g8 g9 _ (Holds.perm hx4 (List.Perm.swap _ _ _))
        · refine Rd.v_put 1 g9 (iv fun _ => 0) (iv fun _ => 0) 84 rfl (.cons _ (.cons _ (.refl _))) (by simp only [List.getElem?_toArray, List.getElem?_cons_zero, List.getElem?_cons_succ]; exact rfl) rfl (by go_simp) (fun wx hx hD => ?_) ?_
          · have rr := hD.rowOk 1 rfl (iv_size _)
            rw [iv_zero]
            go_simp
          iterate 1
            apply Rd.v_q
            · simp only [List.getElem?_toArray, List.getElem?_cons_zero, List.getElem?_cons_succ]; exact rfl
            · rfl
            · go_simp
            · intro wx hx
              unfold atG
              go_simp
              simp only [uponG]
              exact ⟨by trivial, rfl⟩
          refine Rd.v_build (lsB [c, t, s]).toArray 48 3 (by simp only [List.getElem?_toArray, List.getElem?_cons_zero, List.getElem?_cons_succ]; exact rfl) rfl (by go_simp) (fun wx hx hD => by go_simp) fun g8 => ?_
          iterate 1
            apply Rd.v_q
            · simp only [List.getElem?_toArray, List.getElem?_cons_zero, List.getElem?_cons_succ]; exact rfl
            · rfl
            · go_simp
            · intro wx hx
              unfold atG
              go_simp
              simp only [uponG]
              exact ⟨by trivial, rfl⟩
          rintro w4 - hx4
          go_simp
          exact key g1 g8 g9 _ (Holds.perm hx4 (List.Perm.swap _ _ _))
      · refine Rd.v_build (lsB [c, t, s]).toArray 48 3 (by simp only [List.getElem?_toArray, List.getElem?_cons_zero, List.getElem?_cons_succ]; exact rfl) rfl (by go_simp) (fun wx hx hD => by go_simp) fun g8 => ?_
        refine ⟨?_, ?_⟩
        · refine Rd.v_build #[.int .i64 0] 2 1 (by simp only [List.getElem?_toArray, List.getElem?_cons_zero, List.getElem?_cons_succ]; exact rfl) rfl (by go_simp) (fun wx hx hD => by go_simp) fun g1 => ?_
          refine Rd.v_put 2 g9 (iv fun _ => 0) (iv fun _ => 0) 84 rfl (.cons _ (.cons _ (.cons _ (.refl _)))) (by simp only [List.getElem?_toArray, List.getElem?_cons_zero, List.getElem?_cons_succ]; exact rfl) rfl (by go_simp) (fun wx hx hD => ?_) ?_
          · have rr := hD.rowOk 2 rfl (iv_size _)
            rw [iv_zero]
            go_simp
          iterate 1
            apply Rd.v_q
            · simp only [List.getElem?_toArray, List.getElem?_cons_zero, List.getElem?_cons_succ]; exact rfl
            · rfl
            · go_simp
            · intro wx hx
              unfold atG
              go_simp
              simp only [uponG]
              exact ⟨by trivial, rfl⟩
          iterate 1
            apply Rd.v_q
            · simp only [List.getElem?_toArray, List.getElem?_cons_zero, List.getElem?_cons_succ]; exact rfl
            · rfl
            · go_simp
            · intro wx hx
              unfold atG
              go_simp
              simp only [uponG]
              exact ⟨by trivial, rfl⟩
          rintro w4 - hx4
          go_simp
          exact key g1 g8 g9 _ hx4
        · refine Rd.v_put 1 g9 (iv fun _ => 0) (iv fun _ => 0) 84 rfl (.cons _ (.cons _ (.refl _))) (by simp only [List.getElem?_toArray, List.getElem?_cons_zero, List.getElem?_cons_succ]; exact rfl) rfl (by go_simp) (fun wx hx hD => ?_) ?_
          · have rr := hD.rowOk 1 rfl (iv_size _)
            rw [iv_zero]
            go_simp
          refine Rd.v_build #[.int .i64 0] 2 1 (by simp only [List.getElem?_toArray, List.getElem?_cons_zero, List.getElem?_cons_succ]; exact rfl) rfl (by go_simp) (fun wx hx hD => by go_simp) fun g1 => ?_
          iterate 1
            apply Rd.v_q
            · simp only [List.getElem?_toArray, List.getElem?_cons_zero, List.getElem?_cons_succ]; exact rfl
            · rfl
            · go_simp
            · intro wx hx
              unfold atG
              go_simp
              simp only [uponG]
              exact ⟨by trivial, rfl⟩
          iterate 1
            apply Rd.v_q
            · simp only [List.getElem?_toArray, List.getElem?_cons_zero, List.getElem?_cons_succ]; exact rfl
            · rfl
            · go_simp
            · intro wx hx
              unfold atG
              go_simp
              simp only [uponG]
              exact ⟨by trivial, rfl⟩
          rintro w4 - hx4
          go_simp
          exact key g1 g8 g9 _ hx4
      · refine Rd.v_put 0 g9 (iv fun _ => 0) (iv fun _ => 0) 84 rfl (.cons _ (.refl _)) (by simp only [List.getElem?_toArray, List.getElem?_cons_zero, List.getElem?_cons_succ]; exact rfl) rfl (by go_simp) (fun wx hx hD => ?_) ?_
        · have rr := hD.rowOk 0 rfl (iv_size _)
          rw [iv_zero]
          go_simp
        refine ⟨?_, ?_⟩
        · refine Rd.v_build #[.int .i64 0] 2 1 (by simp only [List.getElem?_toArray, List.getElem?_cons_zero, List.getElem?_cons_succ]; exact rfl) rfl (by go_simp) (fun wx hx hD => by go_simp) fun g1 => ?_
          iterate 1
            apply Rd.v_q
            · simp only [List.getElem?_toArray, List.getElem?_cons_zero, List.getElem?_cons_succ]; exact rfl
            · rfl
            · go_simp
            · intro wx hx
              unfold atG
              go_simp
              simp only [uponG]
              exact ⟨by trivial, rfl⟩
          refine Rd.v_build (lsB [c, t, s]).toArray 48 3 (by simp only [List.getElem?_toArray, List.getElem?_cons_zero, List.getElem?_cons_succ]; exact rfl) rfl (by go_simp) (fun wx hx hD => by go_simp) fun g8 => ?_
          iterate 1
            apply Rd.v_q
            · simp only [List.getElem?_toArray, List.getElem?_cons_zero, List.getElem?_cons_succ]; exact rfl
            · rfl
            · go_simp
            · intro wx hx
              unfold atG
              go_simp
              simp only [uponG]
              exact ⟨by trivial, rfl⟩
          rintro w4 - hx4
          go_simp
          exact key g1 g8 g9 _ (Holds.perm hx4 (List.Perm.swap _ _ _))
        · refine Rd.v_build (lsB [c, t, s]).toArray 48 3 (by simp only [List.getElem?_toArray, List.getElem?_cons_zero, List.getElem?_cons_succ]; exact rfl) rfl (by go_simp) (fun wx hx hD => by go_simp) fun g8 => ?_
          refine Rd.v_build #[.int .i64 0] 2 1 (by simp only [List.getElem?_toArray, List.getElem?_cons_zero, List.getElem?_cons_succ]; exact rfl) rfl (by go_simp) (fun wx hx hD => by go_simp) fun g1 => ?_
          iterate 1
            apply Rd.v_q
            · simp only [List.getElem?_toArray, List.getElem?_cons_zero, List.getElem?_cons_succ]; exact rfl
            · rfl
            · go_simp
            · intro wx hx
              unfold atG
              go_simp
              simp only [uponG]
              exact ⟨by trivial, rfl⟩
          iterate 1
            apply Rd.v_q
            · simp only [List.getElem?_toArray, List.getElem?_cons_zero, List.getElem?_cons_succ]; exact rfl
            · rfl
            · go_simp
            · intro wx hx
              unfold atG
              go_simp
              simp only [uponG]
              exact ⟨by trivial, rfl⟩
          rintro w4 - hx4
          go_simp
          exact key g1 g8 g9 _ hx4
  case key =>
    intro gI gL gC w4 H4
    clear HH0
    have H5 := H4.oneRow 0 (x := 0) rfl
    have H6 := hide (show Holds w (w4.setCell ⟨gC, 0, none⟩ (.int .i64 1)) [pInts (.slice (some ⟨gI, 0, none⟩) 1 1) [0], pBlk gL (lsB [c, t, s]).toArray 48, pBlk gC (iv (mc (kset (fun _ => 0) 0 1))) 84, pBlk (w.heap.size + 1) (iv fun _ => 0) 84] from by
      have h := H5.set 2 rfl 0 (.int .i64 ((1 : Nat) : Int))
      have e : (iv fun _ => (0 : Int)).setIfInBounds 0 (.int .i64 ((1 : Nat) : Int)) = iv (mc (kset (fun _ => 0) 0 1)) := by rw [← mc_zero, mc_set]
      rw [e] at h
      exact h.sub (.cons_cons _ (.cons_cons _ (.cons_cons _ (.cons_cons _ (.cons _ (.refl _)))))))
    have c0 : w4.cell? ⟨gC, 0, none⟩ = some (.int .i64 0) := H4.cell 2 rfl (iv_get (fun _ => 0) (show 0 < 32 by omega))
    have f0 := H4.frozen 2 rfl 0
    have l0 := H4.lt 2 rfl
    clear H4 H5
    go_wp2
    clear c0 f0 l0
    go_loopw [5, 7] (fun q i wr => ∃ (k : Nat) (S : CSt), k ≤ S.1.length ∧ i = .int .i64 k ∧ cb [c, t, s] k = some S ∧ Holds w wr [pInts q S.1, pBlk gL (lsB [c, t, s]).toArray 48, pBlk gC (iv (mc S.2)) 84, pBlk (w.heap.size + 1) (iv fun _ => 0) 84]) (fun _ i _ => 33 - (intOf i).toNat)
    case atStart => exact ⟨0, ([0], kset (fun _ => 0) 0 1), Nat.zero_le _, rfl, rfl, H6.out⟩
    case round =>
      clear H6
      obtain ⟨k, S, hk, rfl, hcb, hH⟩ := hrel
      have hI := cb_inv HPS.out h0 k S hcb
      have hl := hI.length_le
      by_cases hlt : k < S.1.length
      · have hX : S.1[k]? = some S.1[k] := List.getElem?_eq_getElem hlt
        generalize S.1[k] = X at hX
        have hXm : X ∈ S.1 := List.mem_of_getElem? hX
        have hlti : (k : Int) < (S.1.length : Int) := by omega
        obtain ⟨A0, c0, rfl⟩ := hH.intsForm 0 rfl
        have HB := hide (And.intro hcb (And.intro hX (And.intro hI hXm)))
        clear hcb hX hI hXm
        go_wp2
        go_loopw [5, 8] (fun q i wr => ∃ (j : Nat) (T : CSt), j ≤ 3 ∧ i = .int .i64 j ∧ cgo [c, t, s] S X j = some T ∧ Holds w wr [pInts q T.1, pBlk gL (lsB [c, t, s]).toArray 48, pBlk gC (iv (mc T.2)) 84, pBlk (w.heap.size + 1) (iv fun _ => 0) 84]) (fun _ i _ => 3 - (intOf i).toNat)
        case atStart => exact ⟨0, S, by omega, rfl, rfl, hH⟩
        case round =>
          clear hH
          obtain ⟨j, T, hj, rfl, hT, hH⟩ := hrel
          obtain ⟨hIT, hpre⟩ := cgo_inv HPS.out HB.out.2.2.1 HB.out.2.2.2 j hj T hT
          have hXT := hpre.subset HB.out.2.2.2
          have hXn := hIT.lt X hXT
          have hTl := hIT.length_le
          have hkT : k < T.1.length := by have := hpre.length_le; omega
          have hXk : T.1[k] = X := by
            obtain ⟨t', ht⟩ := hpre
            have h1 : T.1[k]? = S.1[k]? := by rw [← ht, List.getElem?_append_left hlt]
            rw [HB.out.2.1, List.getElem?_eq_getElem hkT] at h1
            exact Option.some.inj h1
          by_cases hj3 : j < 3
          rotate_left
          · obtain rfl : j = 3 := by omega
            have HN := hide (And.intro ((cb_next HB.out.1 HB.out.2.1).trans hT) hH)
            obtain ⟨A1, c1, rfl⟩ := hH.intsForm 0 rfl
            clear hT hH hIT hpre hXT hXk hXn hj hj3
            go_wp2
            go_roundw
            case rel => exact ⟨k + 1, T, hkT, by go_num, HN.out.1, HN.out.2⟩
            case measure => simp [intOf]; omega
          have hcs : wr.cell? ⟨gL, j * 32 + X, none⟩ = some (.int .u8 (([c, t, s].getD j id X : Nat))) := hH.cell 1 rfl (by rw [List.getElem?_toArray]; exact lsB_at (by simpa using hj3) (by omega))
          obtain ⟨Y, hYe⟩ : ∃ Y, Y = [c, t, s].getD j id X := ⟨_, rfl⟩
          have hY : Y < n := by rw [hYe]; exact HPS.out j (by simpa using hj3) X hXn
          have hgo : cgo [c, t, s] S X (j + 1) = cadd T X Y := by
            show (cgo [c, t, s] S X j).bind _ = _
            rw [hT, hYe]; rfl
          rw [← hYe] at hcs
          clear hYe
          obtain ⟨g0, c1, rfl, hg0, hz1, hz2⟩ := hH.ints 0 rfl hkT
          clear hz1 hz2
          have hq0 := (hH.intsAt 0 rfl hkT).trans (by rw [hXk])
          have hx0 := (hIT.mem X).2 hXT
          have hx2 := hIT.le X
          have hy2 := hIT.le Y
          have HG := hide hgo
          clear hT hIT hpre hXT hgo
          have hji : (j : Int) < 3 := by omega
          have hYi : (Y : Int) < 32 := by omega
          have hXi : (X : Int) < 32 := by omega
          have hY32 : Y < 32 := by omega
          have hX32 : X < 32 := by omega
          have hwY : IntKind.i64.wrap (Y : Int) = Y := wr64k (by omega) (by omega)
          have hkTi : (k : Int) < T.1.length := by omega
          have HXK := hide hXk; clear hXk
          rcases (show T.2 X = 1 ∨ T.2 X = 2 by omega) with hx | hx
          · have HX := hide hx; clear hx hx0 hx2
            rcases (show T.2 Y = 0 ∨ T.2 Y = 1 ∨ T.2 Y = 2 by omega) with hy | hy | hy
            · have HY := hide hy; clear hy hy2
              go_wp2
              go_quiet (fail)
              have hHz := hH.drewN nq
              clear hq0 hcs hH
              generalize wr.drewN nq = wz at *
              clear nq
              have cY : wz.cell? ⟨gC, Y, none⟩ = some (.int .i64 (0)) := hHz.cell 2 rfl (mc_get T.2 hY32 HY.out)
              have cX : wz.cell? ⟨gC, X, none⟩ = some (.int .i64 (1)) := hHz.cell 2 rfl (mc_get T.2 hX32 HX.out)
              have cq := (hHz.intsAt 0 rfl hkT).trans (by rw [HXK.out])
              go_wp2
              go_quiet (fail)
              have hHy := hHz.drewN nq
              clear cY cX cq hHz
              generalize wz.drewN nq = wy at *
              clear nq
              have cY : wy.cell? ⟨gC, Y, none⟩ = some (.int .i64 (0)) := hHy.cell 2 rfl (mc_get T.2 hY32 HY.out)
              have cX : wy.cell? ⟨gC, X, none⟩ = some (.int .i64 (1)) := hHy.cell 2 rfl (mc_get T.2 hX32 HX.out)
              have cq := (hHy.intsAt 0 rfl hkT).trans (by rw [HXK.out])
              have f0 := hHy.frozen 2 rfl Y
              have hH2 := hHy.set 2 rfl Y (.int .i64 ((2 : Nat) : Int))
              rw [mc_set] at hH2
              have HH2 := hide (show Holds w (wy.setCell ⟨gC, Y, none⟩ (.int .i64 2)) [pInts (.slice (some ⟨g0, 0, none⟩) T.1.length c1) T.1, pBlk gL (lsB [c, t, s]).toArray 48, pBlk gC (iv (mc (kset T.2 Y 2))) 84, pBlk (w.heap.size + 1) (iv fun _ => 0) 84] from hH2)
              clear hHy hH2
              go_wp2_with (at_builtin; refine appI (HH2.out.alloc _) 0 rfl wy.heap.size [Y] 2 ?_ ?_ rfl _ _ rfl rfl rfl ?_)
              · first | exact heap_at _ _ _ (by simp) | (have hq := Array.getElem?_eq_some_iff.1 (heap_at (wy.setCell ⟨gC, Y, none⟩ (.int .i64 2)) (.cells (nums [Y]).toArray 2) wy.heap.size (by simp)); exact hq.2)
              · first | (simp only [List.length_cons, List.length_nil]; omega) | omega
              intro v' w' h1
              clear f0 cX cY cq
              go_wp2
              go_roundw
              case rel => exact ⟨j + 1, (T.1 ++ [Y], kset T.2 Y 2), by omega, by go_num, by rw [HG.out, cadd_new HY.out, HX.out], h1⟩
              case measure => simp [intOf]; omega
            · have HY := hide hy; clear hy hy2
              go_wp2
              go_quiet (fail)
              have hHz := hH.drewN nq
              clear hq0 hcs hH
              generalize wr.drewN nq = wz at *
              clear nq
              have cY : wz.cell? ⟨gC, Y, none⟩ = some (.int .i64 (1)) := hHz.cell 2 rfl (mc_get T.2 hY32 HY.out)
              have cX : wz.cell? ⟨gC, X, none⟩ = some (.int .i64 (1)) := hHz.cell 2 rfl (mc_get T.2 hX32 HX.out)
              have cq := (hHz.intsAt 0 rfl hkT).trans (by rw [HXK.out])
              go_wp2
              go_quiet (fail)
              have hHy := hHz.drewN nq
              clear cY cX cq hHz
              generalize wz.drewN nq = wy at *
              clear nq
              have hnn := cb_none (i := 32) ((cb_next HB.out.1 HB.out.2.1).trans (cgo_none (HG.out.trans (cadd_same (by rw [HY.out]; omega) (HY.out.trans HX.out.symm))) (show j + 1 ≤ 3 by omega))) (by omega)
              have hor : orB [c, t, s] = false := by unfold orB; rw [hnn]; rfl
              have q2 := hHy.cells 2 rfl
              have r3 := hHy.rowOk 3 rfl (iv_size _)
              have H2 := hide (hHy.setRow 3 rfl (iv (mc T.2)))
              have HNN := hide (And.intro hnn hor)
              clear hnn hor hHy
              go_wp2
              exact res_agg2 aggI64 (iv_size _) rfl rfl rfl rfl (H2.out.at 3 rfl) ⟨mc T.2, by rw [HNN.out.2]; rfl, fun S' e => (by rw [HNN.out.1] at e; cases e), H2.out.low⟩
            · have HY := hide hy; clear hy hy2
              go_wp2
              go_quiet (fail)
              have hHz := hH.drewN nq
              clear hq0 hcs hH
              generalize wr.drewN nq = wz at *
              clear nq
              have cY : wz.cell? ⟨gC, Y, none⟩ = some (.int .i64 (2)) := hHz.cell 2 rfl (mc_get T.2 hY32 HY.out)
              have cX : wz.cell? ⟨gC, X, none⟩ = some (.int .i64 (1)) := hHz.cell 2 rfl (mc_get T.2 hX32 HX.out)
              have cq := (hHz.intsAt 0 rfl hkT).trans (by rw [HXK.out])
              go_wp2
              go_quiet (fail)
              have hHy := hHz.drewN nq
              clear cY cX cq hHz
              generalize wz.drewN nq = wy at *
              clear nq
              have cY : wy.cell? ⟨gC, Y, none⟩ = some (.int .i64 (2)) := hHy.cell 2 rfl (mc_get T.2 hY32 HY.out)
              have cX : wy.cell? ⟨gC, X, none⟩ = some (.int .i64 (1)) := hHy.cell 2 rfl (mc_get T.2 hX32 HX.out)
              have cq := (hHy.intsAt 0 rfl hkT).trans (by rw [HXK.out])
              have HH1 := hide hHy; clear hHy
              go_wp2
              clear cY cX cq
              go_roundw
              case rel => exact ⟨j + 1, T, by omega, by go_num, by rw [HG.out, cadd_other (by rw [HY.out]; omega) (by rw [HY.out, HX.out]; omega)], HH1.out⟩
              case measure => simp [intOf]; omega
          · have HX := hide hx; clear hx hx0 hx2
            rcases (show T.2 Y = 0 ∨ T.2 Y = 1 ∨ T.2 Y = 2 by omega) with hy | hy | hy
            · have HY := hide hy; clear hy hy2
              go_wp2
              go_quiet (fail)
              have hHz := hH.drewN nq
              clear hq0 hcs hH
              generalize wr.drewN nq = wz at *
              clear nq
              have cY : wz.cell? ⟨gC, Y, none⟩ = some (.int .i64 (0)) := hHz.cell 2 rfl (mc_get T.2 hY32 HY.out)
              have cX : wz.cell? ⟨gC, X, none⟩ = some (.int .i64 (2)) := hHz.cell 2 rfl (mc_get T.2 hX32 HX.out)
              have cq := (hHz.intsAt 0 rfl hkT).trans (by rw [HXK.out])
              go_wp2
              go_quiet (fail)
              have hHy := hHz.drewN nq
              clear cY cX cq hHz
              generalize wz.drewN nq = wy at *
              clear nq
              have cY : wy.cell? ⟨gC, Y, none⟩ = some (.int .i64 (0)) := hHy.cell 2 rfl (mc_get T.2 hY32 HY.out)
              have cX : wy.cell? ⟨gC, X, none⟩ = some (.int .i64 (2)) := hHy.cell 2 rfl (mc_get T.2 hX32 HX.out)
              have cq := (hHy.intsAt 0 rfl hkT).trans (by rw [HXK.out])
              have f0 := hHy.frozen 2 rfl Y
              have hH2 := hHy.set 2 rfl Y (.int .i64 ((1 : Nat) : Int))
              rw [mc_set] at hH2
              have HH2 := hide (show Holds w (wy.setCell ⟨gC, Y, none⟩ (.int .i64 1)) [pInts (.slice (some ⟨g0, 0, none⟩) T.1.length c1) T.1, pBlk gL (lsB [c, t, s]).toArray 48, pBlk gC (iv (mc (kset T.2 Y 1))) 84, pBlk (w.heap.size + 1) (iv fun _ => 0) 84] from hH2)
              clear hHy hH2
              go_wp2_with (at_builtin; refine appI (HH2.out.alloc _) 0 rfl wy.heap.size [Y] 2 ?_ ?_ rfl _ _ rfl rfl rfl ?_)
              · first | exact heap_at _ _ _ (by simp) | (have hq := Array.getElem?_eq_some_iff.1 (heap_at (wy.setCell ⟨gC, Y, none⟩ (.int .i64 1)) (.cells (nums [Y]).toArray 2) wy.heap.size (by simp)); exact hq.2)
              · first | (simp only [List.length_cons, List.length_nil]; omega) | omega
              intro v' w' h1
              clear f0 cX cY cq
              go_wp2
              go_roundw
              case rel => exact ⟨j + 1, (T.1 ++ [Y], kset T.2 Y 1), by omega, by go_num, by rw [HG.out, cadd_new HY.out, HX.out], h1⟩
              case measure => simp [intOf]; omega
            · have HY := hide hy; clear hy hy2
              go_wp2
              go_quiet (fail)
              have hHz := hH.drewN nq
              clear hq0 hcs hH
              generalize wr.drewN nq = wz at *
              clear nq
              have cY : wz.cell? ⟨gC, Y, none⟩ = some (.int .i64 (1)) := hHz.cell 2 rfl (mc_get T.2 hY32 HY.out)
              have cX : wz.cell? ⟨gC, X, none⟩ = some (.int .i64 (2)) := hHz.cell 2 rfl (mc_get T.2 hX32 HX.out)
              have cq := (hHz.intsAt 0 rfl hkT).trans (by rw [HXK.out])
              go_wp2
              go_quiet (fail)
              have hHy := hHz.drewN nq
              clear cY cX cq hHz
              generalize wz.drewN nq = wy at *
              clear nq
              have cY : wy.cell? ⟨gC, Y, none⟩ = some (.int .i64 (1)) := hHy.cell 2 rfl (mc_get T.2 hY32 HY.out)
              have cX : wy.cell? ⟨gC, X, none⟩ = some (.int .i64 (2)) := hHy.cell 2 rfl (mc_get T.2 hX32 HX.out)
              have cq := (hHy.intsAt 0 rfl hkT).trans (by rw [HXK.out])
              have HH1 := hide hHy; clear hHy
              go_wp2
              clear cY cX cq
              go_roundw
              case rel => exact ⟨j + 1, T, by omega, by go_num, by rw [HG.out, cadd_other (by rw [HY.out]; omega) (by rw [HY.out, HX.out]; omega)], HH1.out⟩
              case measure => simp [intOf]; omega
            · have HY := hide hy; clear hy hy2
              go_wp2
              go_quiet (fail)
              have hHz := hH.drewN nq
              clear hq0 hcs hH
              generalize wr.drewN nq = wz at *
              clear nq
              have cY : wz.cell? ⟨gC, Y, none⟩ = some (.int .i64 (2)) := hHz.cell 2 rfl (mc_get T.2 hY32 HY.out)
              have cX : wz.cell? ⟨gC, X, none⟩ = some (.int .i64 (2)) := hHz.cell 2 rfl (mc_get T.2 hX32 HX.out)
              have cq := (hHz.intsAt 0 rfl hkT).trans (by rw [HXK.out])
              go_wp2
              go_quiet (fail)
              have hHy := hHz.drewN nq
              clear cY cX cq hHz
              generalize wz.drewN nq = wy at *
              clear nq
              have hnn := cb_none (i := 32) ((cb_next HB.out.1 HB.out.2.1).trans (cgo_none (HG.out.trans (cadd_same (by rw [HY.out]; omega) (HY.out.trans HX.out.symm))) (show j + 1 ≤ 3 by omega))) (by omega)
              have hor : orB [c, t, s] = false := by unfold orB; rw [hnn]; rfl
              have q2 := hHy.cells 2 rfl
              have r3 := hHy.rowOk 3 rfl (iv_size _)
              have H2 := hide (hHy.setRow 3 rfl (iv (mc T.2)))
              have HNN := hide (And.intro hnn hor)
              clear hnn hor hHy
              go_wp2
              exact res_agg2 aggI64 (iv_size _) rfl rfl rfl rfl (H2.out.at 3 rfl) ⟨mc T.2, by rw [HNN.out.2]; rfl, fun S' e => (by rw [HNN.out.1] at e; cases e), H2.out.low⟩
      · have hst := cb_stop hcb (show S.1.length ≤ k by omega) (show k ≤ 32 by omega)
        have hor : orB [c, t, s] = true := by unfold orB; rw [hst]; rfl
        obtain ⟨A, c0, rfl⟩ := hH.intsForm 0 rfl
        have hkl : S.1.length = k := by omega
        rw [hkl] at hH ⊢
        have q2 := hH.cells 2 rfl
        have r3 := hH.rowOk 3 rfl (iv_size _)
        have H2 := hide (hH.setRow 3 rfl (iv (mc S.2)))
        have HST := hide (And.intro hst hor)
        clear hI hcb hk hlt hkl hst hor hH hl
        go_wp2
        exact res_agg2 aggI64 (iv_size _) rfl rfl rfl rfl (H2.out.at 3 rfl) ⟨mc S.2, by rw [HST.out.2]; rfl, fun S' e => (by rw [HST.out.1] at e; obtain rfl := Option.some.inj e; rfl), H2.out.low⟩
end Go.Proofs.Yteeideminlcblaa

