/- EulerOfFlags of the program -/
import Derived.Test.YtcddglkecfnhmaaEufM
namespace Go.Proofs.Ytcddglkecfnhmaa
open Go.RowKit

set_option maxRecDepth 100000 in
set_option maxHeartbeats 4000000 in
theorem eulerOfFlags_any (n : Int) (c t s : Nat → Nat) (hc : ∀ i, c i < 256) (ht : ∀ i, t i < 256) (hs : ∀ i, s i < 256) (w : World) :
    Calls Try.prog 31 #[.agg (fv n c t s)] w fun e w' => e = .returned (eufR n c t s) ∧ Below w.heap.size w w' := by
  have C1 := hide fun w => areFlags_any n c t s hc ht hs w
  have HH0 := (Holds.start w).blk (fv n c t s) 27 w.heap.size rfl
  clear hc ht hs
  rcases h1 : flB n c t s with _ | _
  · rw [h1] at C1
    have hr : eufR n c t s = .tuple #[.int .i64 0, .int .i64 1] := by unfold eufR; rw [if_neg (by simp [h1])]
    rw [hr]
    clear h1 hr
    go_enter Try.func31, Try.ntmps31
    go_wp2_with fail
    refine (C1.out _).mono ?_
    rintro e w1 ⟨rfl, hb⟩
    have HH1 := HH0.call hb
    clear hb HH0
    go_wp2
    go_ret2
    exact ⟨rfl, HH1.low⟩
  rw [h1] at C1
  obtain ⟨n, rfl, hf⟩ := flB_true h1
  have hn4 := hf.1.1
  have hn32 := hf.1.2.1
  have hn := fv_n (n : Int) c t s
  have hr : eufR (n : Int) c t s = .tuple #[.int .i64 (eulF n c t s), .int .i64 0] := by unfold eufR; rw [if_pos h1, Int.toNat_natCast]
  rw [hr]
  have hec := edges_count hf
  have d1 := degL_len [t, s] n
  have d2 := degL_len [t, c] n
  have C2 := hide fun w => turn_any (n : Int) c t s w
  have C3 := hide fun w => side_any (n : Int) c t s w
  have C4 := hide fun w => corner_any (n : Int) c t s w
  have D1 := hide fun w => degrees_any n (by omega) hn32 c t s (swV t) (swV s) rfl rfl t s (lead_sw t hf.l32.2.1) (lead_sw s hf.l32.2.2) hf.k2.1 w
  have D2 := hide fun w => degrees_any n (by omega) hn32 c t s (swV c) (swV s) rfl rfl c s (lead_sw c hf.l32.1) (lead_sw s hf.l32.2.2) hf.k2.2.2.2.2 w
  have D3 := hide fun w => degrees_any n (by omega) hn32 c t s (swV t) (swV c) rfl rfl t c (lead_sw t hf.l32.2.1) (lead_sw c hf.l32.1) hf.k2.2.1 w
  obtain ⟨E, hE⟩ : ∃ E, E = eulF n c t s := ⟨_, rfl⟩
  rw [← hE]
  have hE2 : ((degL [t, s] n).length : Int) - ((degL [c, s] n).length : Int) + ((degL [t, c] n).length : Int) = E := by rw [hE]; unfold eulF; omega
  generalize degL [t, s] n = DA at *
  generalize degL [c, s] n = DB at *
  generalize degL [t, c] n = DC at *
  have ww1 : wrap64 ((DA.length : Int) - (DB.length : Int)) = (DA.length : Int) - (DB.length : Int) := wr64 (by omega) (by omega)
  have ww2 : wrap64 ((DA.length : Int) - (DB.length : Int) + (DC.length : Int)) = (DA.length : Int) - (DB.length : Int) + (DC.length : Int) := wr64 (by omega) (by omega)
  have HE := hide hE2
  clear h1 hf hr hE hE2 hec
  go_enter Try.func31, Try.ntmps31
  go_wp2_with fail
  refine (C1.out _).mono ?_
  rintro e w1 ⟨rfl, hb⟩
  have HH1 := HH0.call hb
  clear hb HH0
  go_wp2
  refine Rd.region_P (w0 := w) [pBlk w.heap.size (fv (n : Int) c t s) 27] [pBlk w.heap.size (fv (n : Int) c t s) 27] [5] (.q 0 <| .q 1 <| .q 2 <| .q 3 <| .q 4 <| .s1 5 <| .q 6 .fin) HH1 (.refl _) (by kernel_rfl) (by kernel_rfl) (by kernel_rfl) ?_
  iterate 2
    apply Rd.v_q
    · simp only [List.getElem?_toArray, List.getElem?_cons_zero, List.getElem?_cons_succ]; exact rfl
    · rfl
    · go_simp
    · intro wx hx
      have q0 := hx.cells 0 rfl
      unfold atG
      go_simp
      simp only [uponG]
      exact ⟨by trivial, rfl⟩
  iterate 1
    apply Rd.v_q
    · simp only [List.getElem?_toArray, List.getElem?_cons_zero, List.getElem?_cons_succ]; exact rfl
    · rfl
    · go_simp
    · intro wx hx
      have q0 := hx.cells 0 rfl
      unfold atG
      go_simp
      simp only [uponG]
      exact ⟨by trivial, C2.out wx⟩
  iterate 1
    apply Rd.v_q
    · simp only [List.getElem?_toArray, List.getElem?_cons_zero, List.getElem?_cons_succ]; exact rfl
    · rfl
    · go_simp
    · intro wx hx
      have q0 := hx.cells 0 rfl
      unfold atG
      go_simp
      simp only [uponG]
      exact ⟨by trivial, rfl⟩
  iterate 1
    apply Rd.v_q
    · simp only [List.getElem?_toArray, List.getElem?_cons_zero, List.getElem?_cons_succ]; exact rfl
    · rfl
    · go_simp
    · intro wx hx
      have q0 := hx.cells 0 rfl
      unfold atG
      go_simp
      simp only [uponG]
      exact ⟨by trivial, C3.out wx⟩
  refine Rd.v_s (fun v wx => Holds w wx (pInts v DA :: [pBlk w.heap.size (fv (n : Int) c t s) 27])) (fun v _ _ h hb => h.call hb) (by simp only [List.getElem?_toArray, List.getElem?_cons_zero, List.getElem?_cons_succ]; exact rfl) rfl (by go_simp) (fun wx hx hD => ?_) ?_
  · have q0 := hx.cells 0 rfl
    go_simp
    simp only [Rd.uponE]
    refine ⟨by trivial, (D1.out wx).mono ?_⟩
    rintro e w' ⟨v, rfl, hb, ho⟩
    exact ⟨v, rfl, hx.call hb, (hD.newRow hb ho).sub (L' := pInts v DA :: [pBlk w.heap.size (fv (n : Int) c t s) 27]) (.refl _)⟩
  rintro v ⟨wy, _, hv⟩
  obtain ⟨A0, k0, rfl⟩ := hv.intsForm 0 rfl
  clear hv
  iterate 1
    apply Rd.v_q
    · simp only [List.getElem?_toArray, List.getElem?_cons_zero, List.getElem?_cons_succ]; exact rfl
    · rfl
    · go_simp
    · intro wx hx
      have q0 := hx.cells 0 rfl
      unfold atG
      go_simp
      simp only [uponG]
      exact ⟨by trivial, rfl⟩
  rintro z0 - hz0
  go_simp
  go_wp2
  have hy0 := hz0.tail
  refine Rd.region_P (w0 := w) [pBlk w.heap.size (fv (n : Int) c t s) 27] [pBlk w.heap.size (fv (n : Int) c t s) 27] [5] (.q 0 <| .q 1 <| .q 2 <| .q 3 <| .q 4 <| .s1 5 <| .q 6 .fin) hy0 (.refl _) (by kernel_rfl) (by kernel_rfl) (by kernel_rfl) ?_
  iterate 2
    apply Rd.v_q
    · simp only [List.getElem?_toArray, List.getElem?_cons_zero, List.getElem?_cons_succ]; exact rfl
    · rfl
    · go_simp
    · intro wx hx
      have q0 := hx.cells 0 rfl
      unfold atG
      go_simp
      simp only [uponG]
      exact ⟨by trivial, rfl⟩
  iterate 1
    apply Rd.v_q
    · simp only [List.getElem?_toArray, List.getElem?_cons_zero, List.getElem?_cons_succ]; exact rfl
    · rfl
    · go_simp
    · intro wx hx
      have q0 := hx.cells 0 rfl
      unfold atG
      go_simp
      simp only [uponG]
      exact ⟨by trivial, C4.out wx⟩
  iterate 1
    apply Rd.v_q
    · simp only [List.getElem?_toArray, List.getElem?_cons_zero, List.getElem?_cons_succ]; exact rfl
    · rfl
    · go_simp
    · intro wx hx
      have q0 := hx.cells 0 rfl
      unfold atG
      go_simp
      simp only [uponG]
      exact ⟨by trivial, rfl⟩
  iterate 1
    apply Rd.v_q
    · simp only [List.getElem?_toArray, List.getElem?_cons_zero, List.getElem?_cons_succ]; exact rfl
    · rfl
    · go_simp
    · intro wx hx
      have q0 := hx.cells 0 rfl
      unfold atG
      go_simp
      simp only [uponG]
      exact ⟨by trivial, C3.out wx⟩
  refine Rd.v_s (fun v wx => Holds w wx (pInts v DB :: [pBlk w.heap.size (fv (n : Int) c t s) 27])) (fun v _ _ h hb => h.call hb) (by simp only [List.getElem?_toArray, List.getElem?_cons_zero, List.getElem?_cons_succ]; exact rfl) rfl (by go_simp) (fun wx hx hD => ?_) ?_
  · have q0 := hx.cells 0 rfl
    go_simp
    simp only [Rd.uponE]
    refine ⟨by trivial, (D2.out wx).mono ?_⟩
    rintro e w' ⟨v, rfl, hb, ho⟩
    exact ⟨v, rfl, hx.call hb, (hD.newRow hb ho).sub (L' := pInts v DB :: [pBlk w.heap.size (fv (n : Int) c t s) 27]) (.refl _)⟩
  rintro v ⟨wy, _, hv⟩
  obtain ⟨A1, k1, rfl⟩ := hv.intsForm 0 rfl
  clear hv
  iterate 1
    apply Rd.v_q
    · simp only [List.getElem?_toArray, List.getElem?_cons_zero, List.getElem?_cons_succ]; exact rfl
    · rfl
    · go_simp
    · intro wx hx
      have q0 := hx.cells 0 rfl
      unfold atG
      go_simp
      simp only [uponG]
      exact ⟨by trivial, rfl⟩
  rintro z1 - hz1
  go_simp
  go_wp2
  have hy1 := hz1.tail
  refine Rd.region_P (w0 := w) [pBlk w.heap.size (fv (n : Int) c t s) 27] [pBlk w.heap.size (fv (n : Int) c t s) 27] [5] (.q 0 <| .q 1 <| .q 2 <| .q 3 <| .q 4 <| .s1 5 <| .q 6 .fin) hy1 (.refl _) (by kernel_rfl) (by kernel_rfl) (by kernel_rfl) ?_
  iterate 2
    apply Rd.v_q
    · simp only [List.getElem?_toArray, List.getElem?_cons_zero, List.getElem?_cons_succ]; exact rfl
    · rfl
    · go_simp
    · intro wx hx
      have q0 := hx.cells 0 rfl
      unfold atG
      go_simp
      simp only [uponG]
      exact ⟨by trivial, rfl⟩
  iterate 1
    apply Rd.v_q
    · simp only [List.getElem?_toArray, List.getElem?_cons_zero, List.getElem?_cons_succ]; exact rfl
    · rfl
    · go_simp
    · intro wx hx
      have q0 := hx.cells 0 rfl
      unfold atG
      go_simp
      simp only [uponG]
      exact ⟨by trivial, C2.out wx⟩
  iterate 1
    apply Rd.v_q
    · simp only [List.getElem?_toArray, List.getElem?_cons_zero, List.getElem?_cons_succ]; exact rfl
    · rfl
    · go_simp
    · intro wx hx
      have q0 := hx.cells 0 rfl
      unfold atG
      go_simp
      simp only [uponG]
      exact ⟨by trivial, rfl⟩
  iterate 1
    apply Rd.v_q
    · simp only [List.getElem?_toArray, List.getElem?_cons_zero, List.getElem?_cons_succ]; exact rfl
    · rfl
    · go_simp
    · intro wx hx
      have q0 := hx.cells 0 rfl
      unfold atG
      go_simp
      simp only [uponG]
      exact ⟨by trivial, C4.out wx⟩
  refine Rd.v_s (fun v wx => Holds w wx (pInts v DC :: [pBlk w.heap.size (fv (n : Int) c t s) 27])) (fun v _ _ h hb => h.call hb) (by simp only [List.getElem?_toArray, List.getElem?_cons_zero, List.getElem?_cons_succ]; exact rfl) rfl (by go_simp) (fun wx hx hD => ?_) ?_
  · have q0 := hx.cells 0 rfl
    go_simp
    simp only [Rd.uponE]
    refine ⟨by trivial, (D3.out wx).mono ?_⟩
    rintro e w' ⟨v, rfl, hb, ho⟩
    exact ⟨v, rfl, hx.call hb, (hD.newRow hb ho).sub (L' := pInts v DC :: [pBlk w.heap.size (fv (n : Int) c t s) 27]) (.refl _)⟩
  rintro v ⟨wy, _, hv⟩
  obtain ⟨A2, k2, rfl⟩ := hv.intsForm 0 rfl
  clear hv
  iterate 1
    apply Rd.v_q
    · simp only [List.getElem?_toArray, List.getElem?_cons_zero, List.getElem?_cons_succ]; exact rfl
    · rfl
    · go_simp
    · intro wx hx
      have q0 := hx.cells 0 rfl
      unfold atG
      go_simp
      simp only [uponG]
      exact ⟨by trivial, rfl⟩
  rintro z2 - hz2
  go_simp
  go_wp2
  go_ret2
  refine ⟨?_, hz2.low⟩
  have he := HE.out
  subst he
  simp only [ww1, ww2]
  rfl

end Go.Proofs.Ytcddglkecfnhmaa
