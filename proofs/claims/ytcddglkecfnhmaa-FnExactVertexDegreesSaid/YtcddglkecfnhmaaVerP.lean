/- degrees: the program -/
import Derived.Test.YtcddglkecfnhmaaDegM
namespace Go.Proofs.Ytcddglkecfnhmaa
open Go.RowKit

set_option maxRecDepth 100000 in
set_option maxHeartbeats 4000000 in
theorem ver_any (n : Int) (c t s : Nat → Nat) (hc : ∀ i, c i < 256) (ht : ∀ i, t i < 256) (hs : ∀ i, s i < 256) (w : World) :
    Calls Try.prog 22 #[.agg (fv n c t s)] w fun e w' => ∃ v, e = .returned (.tuple #[v, .int .i64 (degC n c t s)]) ∧ Below w.heap.size w w' ∧ Own1 w.heap.size w' v (verR n c t s) := by
  have C1 := hide fun w => areFlags_any n c t s hc ht hs w
  have HH0 := (Holds.start w).blk (fv n c t s) 27 w.heap.size rfl
  clear hc ht hs
  rcases h1 : flB n c t s with _ | _
  · rw [h1] at C1
    have hr : verR n c t s = [] := by unfold verR; rw [if_neg (by simp [h1])]
    have hk : degC n c t s = 1 := by unfold degC; rw [if_neg (by simp [h1])]
    rw [hr, hk]
    clear h1 hr hk
    go_enter Try.func22, Try.ntmps22
    go_wp2_with fail
    refine (C1.out _).mono ?_
    rintro e w1 ⟨rfl, hb⟩
    have HH1 := HH0.call hb
    clear hb HH0
    go_wp2
    go_ret2
    exact ⟨.slice none 0 0, rfl, HH1.low, Own1.nil _ _⟩
  rw [h1] at C1
  obtain ⟨n, rfl, hf⟩ := flB_true h1
  have hk : degC (n : Int) c t s = 0 := by unfold degC; rw [if_pos h1]
  have hn4 := hf.1.1
  have hn32 := hf.1.2.1
  have hn := fv_n (n : Int) c t s
  have hr : verR (n : Int) c t s = degL [t, s] n := by unfold verR; rw [if_pos h1, Int.toNat_natCast]
  rw [hr, hk]
  have C2 := hide fun w => turn_any (n : Int) c t s w
  have C3 := hide fun w => side_any (n : Int) c t s w
  have C4 := hide fun w => degrees_any n (by omega) hn32 c t s (swV t) (swV s) rfl rfl t s (lead_sw t hf.l32.2.1) (lead_sw s hf.l32.2.2) hf.k2.1 w
  generalize degL [t, s] n = D at *
  clear h1 hf hr hk
  go_enter Try.func22, Try.ntmps22
  go_wp2_with fail
  refine (C1.out _).mono ?_
  rintro e w1 ⟨rfl, hb⟩
  have HH1 := HH0.call hb
  clear hb HH0
  go_wp2
  refine Rd.region_P (w0 := w) [pBlk w.heap.size (fv (n : Int) c t s) 27] [pBlk w.heap.size (fv (n : Int) c t s) 27] [5] (.q 0 <| .q 1 <| .q 2 <| .q 3 <| .q 4 <| .s1 5 <| .q 6 <| .q 7 .fin) HH1 (.refl _) (by kernel_rfl) (by kernel_rfl) (by kernel_rfl) ?_
  iterate 2
    apply Rd.v_q
    · simp only [List.getElem?_toArray, List.getElem?_cons_zero, List.getElem?_cons_succ]; exact rfl
    · rfl
    · go_simp
    · intro wx hx
      have q0 := hx.cells 0 rfl
      unfold atG
      go_simp
      simp only [uponG]
      exact ⟨by trivial, rfl⟩
  iterate 1
    apply Rd.v_q
    · simp only [List.getElem?_toArray, List.getElem?_cons_zero, List.getElem?_cons_succ]; exact rfl
    · rfl
    · go_simp
    · intro wx hx
      have q0 := hx.cells 0 rfl
      unfold atG
      go_simp
      simp only [uponG]
      exact ⟨by trivial, C2.out wx⟩
  iterate 1
    apply Rd.v_q
    · simp only [List.getElem?_toArray, List.getElem?_cons_zero, List.getElem?_cons_succ]; exact rfl
    · rfl
    · go_simp
    · intro wx hx
      have q0 := hx.cells 0 rfl
      unfold atG
      go_simp
      simp only [uponG]
      exact ⟨by trivial, rfl⟩
  iterate 1
    apply Rd.v_q
    · simp only [List.getElem?_toArray, List.getElem?_cons_zero, List.getElem?_cons_succ]; exact rfl
    · rfl
    · go_simp
    · intro wx hx
      have q0 := hx.cells 0 rfl
      unfold atG
      go_simp
      simp only [uponG]
      exact ⟨by trivial, C3.out wx⟩
  refine Rd.v_s (fun v wx => Holds w wx (pInts v D :: [pBlk w.heap.size (fv (n : Int) c t s) 27])) (fun v _ _ h hb => h.call hb) (by simp only [List.getElem?_toArray, List.getElem?_cons_zero, List.getElem?_cons_succ]; exact rfl) rfl (by go_simp) (fun wx hx hD => ?_) ?_
  · have q0 := hx.cells 0 rfl
    go_simp
    simp only [Rd.uponE]
    refine ⟨by trivial, (C4.out wx).mono ?_⟩
    rintro e w' ⟨v, rfl, hb, ho⟩
    exact ⟨v, rfl, hx.call hb, hD.newRow hb ho⟩
  rintro v -
  iterate 2
    apply Rd.v_q
    · simp only [List.getElem?_toArray, List.getElem?_cons_zero, List.getElem?_cons_succ]; exact rfl
    · rfl
    · go_simp
    · intro wx hx
      have q0 := hx.cells 0 rfl
      unfold atG
      go_simp
      simp only [uponG]
      exact ⟨by trivial, rfl⟩
  rintro wz - hz
  go_simp
  go_wp2
  go_ret2
  exact ⟨v, rfl, hz.low, hz.own1 0 rfl⟩

end Go.Proofs.Ytcddglkecfnhmaa
