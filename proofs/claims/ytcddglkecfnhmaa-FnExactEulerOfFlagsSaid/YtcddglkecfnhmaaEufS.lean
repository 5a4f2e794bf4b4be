/- EulerOfFlags of the model -/
import Derived.Test.YtcddglkecfnhmaaEufM
namespace Go.Proofs.Ytcddglkecfnhmaa
open Go.RowKit

set_option maxRecDepth 100000 in
set_option maxHeartbeats 4000000 in
theorem sEulerOfFlags_any (n : Int) (c t s : Nat → Nat) (hc : ∀ i, c i < 256) (ht : ∀ i, t i < 256) (hs : ∀ i, s i < 256) (w : World) :
    Calls Try.prog 30 #[.agg (fv n c t s)] w fun e w' => e = .returned (eufR n c t s) ∧ Below w.heap.size w w' := by
  have C1 := hide fun w => sAre_any n c t s hc ht hs w
  have HH0 := (Holds.start w).blk (fv n c t s) 27 w.heap.size rfl
  clear hc ht hs
  rcases h1 : flB n c t s with _ | _
  · rw [h1] at C1
    have hr : eufR n c t s = .tuple #[.int .i64 0, .int .i64 1] := by unfold eufR; rw [if_neg (by simp [h1])]
    rw [hr]
    clear h1 hr
    go_enter Try.func30, Try.ntmps30
    go_wp2_with fail
    refine (C1.out _).mono ?_
    rintro e w1 ⟨rfl, hb⟩
    have HH1 := HH0.call hb
    clear hb HH0
    go_wp2
    go_ret2
    exact ⟨rfl, HH1.low⟩
  rw [h1] at C1
  obtain ⟨n, rfl, hf⟩ := flB_true h1
  have hn4 := hf.1.1
  have hn32 := hf.1.2.1
  have hn := fv_n (n : Int) c t s
  have hr : eufR (n : Int) c t s = .tuple #[.int .i64 (eulF n c t s), .int .i64 0] := by unfold eufR; rw [if_pos h1, Int.toNat_natCast]
  rw [hr]
  have hec := edges_count hf
  have d1 := degL_len [t, s] n
  have d2 := degL_len [t, c] n
  have D1 := hide fun w => sDegrees_any n hn32 c t s s hf.k2.1 hf.u2.1 w
  have D3 := hide fun w => sDegrees_any n hn32 c t s c hf.k2.2.1 hf.u2.2.1 w
  have hE2 := eul_eq n c t s
  generalize eulF n c t s = E at *
  obtain ⟨n4, e4, hq, hq2⟩ := quo4 n
  rw [← e4] at hE2
  clear hec hr h1 hf e4
  generalize degL [t, s] n = DA at *
  generalize degL [t, c] n = DC at *
  have ww0 : wrap64 (n4 : Int) = (n4 : Int) := wr64 (by omega) (by omega)
  have ww1 : wrap64 ((DA.length : Int) + (DC.length : Int)) = (DA.length : Int) + (DC.length : Int) := wr64 (by omega) (by omega)
  have ww2 : wrap64 ((DA.length : Int) + (DC.length : Int) - (n4 : Int)) = (DA.length : Int) + (DC.length : Int) - (n4 : Int) := wr64 (by omega) (by omega)
  have wk0 : IntKind.i64.wrap (n4 : Int) = (n4 : Int) := wr64k (by omega) (by omega)
  have wk1 : IntKind.i64.wrap ((DA.length : Int) + (DC.length : Int)) = (DA.length : Int) + (DC.length : Int) := wr64k (by omega) (by omega)
  have wk2 : IntKind.i64.wrap ((DA.length : Int) + (DC.length : Int) - (n4 : Int)) = (DA.length : Int) + (DC.length : Int) - (n4 : Int) := wr64k (by omega) (by omega)
  have HE := hide hE2
  clear hE2
  go_enter Try.func30, Try.ntmps30
  go_wp2_with fail
  refine (C1.out _).mono ?_
  rintro e w1 ⟨rfl, hb⟩
  have HH1 := HH0.call hb
  clear hb HH0
  go_wp2
  refine Rd.region_P (w0 := w) [pBlk w.heap.size (fv (n : Int) c t s) 27] [pBlk w.heap.size (fv (n : Int) c t s) 27] [3, 8] (.q 0 <| .q 1 <| .q 2 <| .q 5 <| .q 6 <| .q 7 <| .q 11 <| .q 12 <| .q 13 <| .s1 3 <| .q 4 <| .s1 8 <| .q 9 <| .q 10 <| .q 14 <| .q 15 <| .q 16 .fin) HH1 (.refl _) (by kernel_rfl) (by kernel_rfl) (by kernel_rfl) ?_
  iterate 9
    apply Rd.v_q
    · simp only [List.getElem?_toArray, List.getElem?_cons_zero, List.getElem?_cons_succ]; exact rfl
    · rfl
    · go_simp
    · intro wx hx
      have q0 := hx.cells 0 rfl
      have q1 := hx.cell 0 rfl hn
      unfold atG
      go_simp
      simp only [uponG]
      exact ⟨by trivial, rfl⟩
  refine Rd.v_s (fun v wx => Holds w wx (pInts v DA :: [pBlk w.heap.size (fv (n : Int) c t s) 27])) (fun v _ _ h hb => h.call hb) (by simp only [List.getElem?_toArray, List.getElem?_cons_zero, List.getElem?_cons_succ]; exact rfl) rfl (by go_simp) (fun wx hx hD => ?_) ?_
  · have q0 := hx.cells 0 rfl
    go_simp
    simp only [Rd.uponE]
    refine ⟨by trivial, (D1.out wx).mono ?_⟩
    rintro e w' ⟨v, rfl, hb, ho⟩
    exact ⟨v, rfl, hx.call hb, (hD.newRow hb ho).sub (L' := pInts v DA :: [pBlk w.heap.size (fv (n : Int) c t s) 27]) (.refl _)⟩
  rintro v ⟨wy, _, hv⟩
  obtain ⟨A0, k0, rfl⟩ := hv.intsForm 0 rfl
  clear hv
  iterate 1
    apply Rd.v_q
    · simp only [List.getElem?_toArray, List.getElem?_cons_zero, List.getElem?_cons_succ]; exact rfl
    · rfl
    · go_simp
    · intro wx hx
      have q0 := hx.cells 0 rfl
      have q1 := hx.cell 0 rfl hn
      unfold atG
      go_simp
      simp only [uponG]
      exact ⟨by trivial, rfl⟩
  refine Rd.v_s (fun v wx => Holds w wx (pInts v DC :: [pBlk w.heap.size (fv (n : Int) c t s) 27])) (fun v _ _ h hb => h.call hb) (by simp only [List.getElem?_toArray, List.getElem?_cons_zero, List.getElem?_cons_succ]; exact rfl) rfl (by go_simp) (fun wx hx hD => ?_) ?_
  · have q0 := hx.cells 0 rfl
    go_simp
    simp only [Rd.uponE]
    refine ⟨by trivial, (D3.out wx).mono ?_⟩
    rintro e w' ⟨v, rfl, hb, ho⟩
    exact ⟨v, rfl, hx.call hb, (hD.newRow hb ho).sub (L' := pInts v DC :: [pBlk w.heap.size (fv (n : Int) c t s) 27]) (.cons_cons _ (.cons _ (.refl _)))⟩
  rintro v ⟨wy, _, hv⟩
  obtain ⟨A1, k1, rfl⟩ := hv.intsForm 0 rfl
  clear hv
  iterate 5
    apply Rd.v_q
    · simp only [List.getElem?_toArray, List.getElem?_cons_zero, List.getElem?_cons_succ]; exact rfl
    · rfl
    · go_simp
    · intro wx hx
      have q0 := hx.cells 0 rfl
      have q1 := hx.cell 0 rfl hn
      unfold atG
      go_simp
      simp only [uponG]
      exact ⟨by trivial, rfl⟩
  rintro wz - hz
  go_simp
  go_wp2
  go_ret2
  refine ⟨?_, hz.low⟩
  have he := HE.out
  subst he
  rfl

end Go.Proofs.Ytcddglkecfnhmaa
