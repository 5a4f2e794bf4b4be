/- IsRegularDessin of the program and of the model; the walk of FnExactIsRegularDessin -/
import Derived.Test.YtjhpkibeddnbfaaAll
import Derived.Test.YtjhpkibeddnbfaaToDs
namespace Go.Proofs.Ytjhpkibeddnbfaa
open Go.RowKit

open Classical in
noncomputable def regR (n : Int) (f g : Nat → Nat) : Value := if desB n f g = true then .tuple #[.bool ((((isoL f g n.toNat f g n.toNat).length : Nat) : Int) == n), .int .i64 0] else .tuple #[.bool false, .int .i64 1]
theorem regR_eq (n : Int) (f g : Nat → Nat) : ∃ (a : Bool) (c : Int), regR n f g = .tuple #[.bool a, .int .i64 c] := by
  unfold regR; split
  · exact ⟨_, _, rfl⟩
  · exact ⟨_, _, rfl⟩

set_option maxRecDepth 100000 in
set_option maxHeartbeats 1000000 in
theorem isRegDes_any (n : Int) (f g : Nat → Nat) (hf : ∀ i, f i < 256) (hg : ∀ i, g i < 256) (w : World) :
    Calls Try.prog 22 #[.agg (dv n f g)] w fun e w' => e = .returned (regR n f g) ∧ Below w.heap.size w w' := by
  have C1 := hide fun w => isDessin_any n f g hf hg w
  clear hf hg
  have hn := dv_n n f g
  have HH0 := (Holds.start w).blk (dv n f g) 30 w.heap.size rfl
  rcases h1 : desB n f g with _ | _
  · rw [h1] at C1
    have hr : regR n f g = .tuple #[.bool false, .int .i64 1] := by unfold regR; rw [if_neg (by simp [h1])]
    rw [hr]
    clear h1 hr
    go_enter Try.func22, Try.ntmps22
    go_wp2_with fail
    refine (C1.out _).mono ?_
    rintro e w1 ⟨rfl, hb⟩
    have HH1 := HH0.call hb
    clear hb HH0
    go_wp2
    go_ret2
    exact ⟨rfl, HH1.low⟩
  · rw [h1] at C1
    have hr : regR n f g = .tuple #[.bool ((((isoL f g n.toNat f g n.toNat).length : Nat) : Int) == n), .int .i64 0] := by unfold regR; rw [if_pos h1]
    rw [hr]
    obtain ⟨m, rfl, hd⟩ := desB_true h1
    simp only [Int.toNat_natCast]
    have C2 := hide fun (w : World) => isomorphisms_any f g m hd f g m hd w
    have hlen := isoL_len f g m f g m
    have hm := hd.le
    clear h1 hr hd
    generalize isoL f g m f g m = L at *
    go_enter Try.func22, Try.ntmps22
    go_wp2_with fail
    refine (C1.out _).mono ?_
    rintro e w1 ⟨rfl, hb⟩
    have HH1 := HH0.call hb
    clear hb HH0
    go_wp2
    refine Rd.region_P (w0 := w) [pBlk w.heap.size (dv m f g) 30] [pBlk w.heap.size (dv m f g) 30] [2] (.q 0 <| .q 1 <| .q 4 <| .q 5 <| .s1 2 <| .q 3 <| .q 6 <| .q 7 <| .q 8 .fin) HH1 (.refl _) (by kernel_rfl) (by kernel_rfl) (by kernel_rfl) ?_
    iterate 4
      apply Rd.v_q
      · simp only [List.getElem?_toArray, List.getElem?_cons_zero, List.getElem?_cons_succ]; exact rfl
      · rfl
      · go_simp
      · intro wx hx
        have q0 := hx.cells 0 rfl
        have q1 := hx.cell 0 rfl hn
        unfold atG
        go_simp
        simp only [uponG]
        exact ⟨by trivial, rfl⟩

    refine Rd.v_s (fun v wx => (∃ A c, v = .slice A L.length c) ∧ Holds w wx [pBlk w.heap.size (dv m f g) 30]) (fun v _ _ ⟨h1, h2⟩ hb => ⟨h1, h2.call hb⟩) (by simp only [List.getElem?_toArray, List.getElem?_cons_zero, List.getElem?_cons_succ]; exact rfl) rfl (by go_simp) (fun wx hx hD => ?_) ?_
    · go_simp
      simp only [Rd.uponE]
      refine ⟨by trivial, (C2.out wx).mono ?_⟩
      rintro e w' ⟨v, rfl, hb, ho⟩
      exact ⟨_, rfl, hx.call hb, own_slice ho, hx.call hb⟩
    rintro v ⟨_, _, ⟨A, c, rfl⟩, _⟩
    iterate 4
      apply Rd.v_q
      · simp only [List.getElem?_toArray, List.getElem?_cons_zero, List.getElem?_cons_succ]; exact rfl
      · rfl
      · go_simp
      · intro wx hx
        have q0 := hx.cells 0 rfl
        have q1 := hx.cell 0 rfl hn
        unfold atG
        go_simp
        simp only [uponG]
        exact ⟨by trivial, rfl⟩

    rintro w2 - ⟨_, H2⟩
    clear HH1
    go_simp
    go_wp2
    go_ret2
    exact ⟨rfl, H2.low⟩


set_option maxRecDepth 100000 in
set_option maxHeartbeats 1000000 in
theorem sIsRegDes_any (n : Int) (f g : Nat → Nat) (hf : ∀ i, f i < 256) (hg : ∀ i, g i < 256) (w : World) :
    Calls Try.prog 21 #[.agg (dv n f g)] w fun e w' => e = .returned (regR n f g) ∧ Below w.heap.size w w' := by
  have C1 := hide fun w => sIs_any n f g hf hg w
  clear hf hg
  have hn := dv_n n f g
  have HH0 := (Holds.start w).blk (dv n f g) 30 w.heap.size rfl
  rcases h1 : desB n f g with _ | _
  · rw [h1] at C1
    have hr : regR n f g = .tuple #[.bool false, .int .i64 1] := by unfold regR; rw [if_neg (by simp [h1])]
    rw [hr]
    clear h1 hr
    go_enter Try.func21, Try.ntmps21
    go_wp2_with fail
    refine (C1.out _).mono ?_
    rintro e w1 ⟨rfl, hb⟩
    have HH1 := HH0.call hb
    clear hb HH0
    go_wp2
    go_ret2
    exact ⟨rfl, HH1.low⟩
  · rw [h1] at C1
    have hr : regR n f g = .tuple #[.bool ((((isoL f g n.toNat f g n.toNat).length : Nat) : Int) == n), .int .i64 0] := by unfold regR; rw [if_pos h1]
    rw [hr]
    obtain ⟨m, rfl, hd⟩ := desB_true h1
    simp only [Int.toNat_natCast]
    have C2 := hide fun (w : World) => sAll_any f g m hd f g m hd w
    have hlen := isoL_len f g m f g m
    have hm := hd.le
    clear h1 hr hd
    generalize isoL f g m f g m = L at *
    go_enter Try.func21, Try.ntmps21
    go_wp2_with fail
    refine (C1.out _).mono ?_
    rintro e w1 ⟨rfl, hb⟩
    have HH1 := HH0.call hb
    clear hb HH0
    go_wp2
    refine Rd.region_P (w0 := w) [pBlk w.heap.size (dv m f g) 30] [pBlk w.heap.size (dv m f g) 30] [2] (.q 0 <| .q 1 <| .q 4 <| .q 5 <| .s1 2 <| .q 3 <| .q 6 <| .q 7 <| .q 8 .fin) HH1 (.refl _) (by kernel_rfl) (by kernel_rfl) (by kernel_rfl) ?_
    iterate 4
      apply Rd.v_q
      · simp only [List.getElem?_toArray, List.getElem?_cons_zero, List.getElem?_cons_succ]; exact rfl
      · rfl
      · go_simp
      · intro wx hx
        have q0 := hx.cells 0 rfl
        have q1 := hx.cell 0 rfl hn
        unfold atG
        go_simp
        simp only [uponG]
        exact ⟨by trivial, rfl⟩

    refine Rd.v_s (fun v wx => (∃ A c, v = .slice A L.length c) ∧ Holds w wx [pBlk w.heap.size (dv m f g) 30]) (fun v _ _ ⟨h1, h2⟩ hb => ⟨h1, h2.call hb⟩) (by simp only [List.getElem?_toArray, List.getElem?_cons_zero, List.getElem?_cons_succ]; exact rfl) rfl (by go_simp) (fun wx hx hD => ?_) ?_
    · go_simp
      simp only [Rd.uponE]
      refine ⟨by trivial, (C2.out wx).mono ?_⟩
      rintro e w' ⟨v, rfl, hb, ho⟩
      exact ⟨_, rfl, hx.call hb, own_slice ho, hx.call hb⟩
    rintro v ⟨_, _, ⟨A, c, rfl⟩, _⟩
    iterate 4
      apply Rd.v_q
      · simp only [List.getElem?_toArray, List.getElem?_cons_zero, List.getElem?_cons_succ]; exact rfl
      · rfl
      · go_simp
      · intro wx hx
        have q0 := hx.cells 0 rfl
        have q1 := hx.cell 0 rfl hn
        unfold atG
        go_simp
        simp only [uponG]
        exact ⟨by trivial, rfl⟩

    rintro w2 - ⟨_, H2⟩
    clear HH1
    go_simp
    go_wp2
    go_ret2
    exact ⟨rfl, H2.low⟩

set_option maxRecDepth 100000 in
set_option maxHeartbeats 1000000 in
theorem fnExactIsRegularDessin_walk (n : Int) (f g : Nat → Nat) (_hn : -9223372036854775808 ≤ n ∧ n ≤ 9223372036854775807) (hf : ∀ i, f i < 256) (hg : ∀ i, g i < 256) (w : World) :
    Calls Try.prog 5 #[.agg (dv n f g)] w fun e w' => e = .returned (.bool true) ∧ Below w.heap.size w w' := by
  clear _hn
  obtain ⟨a, c, hR⟩ := regR_eq n f g
  have c1 := fun w => isRegDes_any n f g hf hg w
  have c2 := fun w => sIsRegDes_any n f g hf hg w
  rw [hR] at c1 c2
  have C1 := hide c1; clear c1
  have C2 := hide c2; clear c2
  clear hR hf hg
  have hne : (c != c) = false := by simp
  have hna : (a != a) = false := by simp
  have HH0 := (Holds.start w).blk (dv n f g) 24 _ rfl
  go_enter Try.func5, Try.ntmps5
  go_wp2_with fail
  refine (toDessin_any n f g _).mono ?_
  rintro e w1 ⟨rfl, hb1⟩
  have HH1 := HH0.call hb1
  have cd1 := HH1.cells 0 rfl
  clear hb1
  go_wp2_with fail
  refine (C2.out _).mono ?_
  rintro e w2 ⟨rfl, hb2⟩
  have HH2 := HH1.call hb2
  have cd2 := HH2.cells 0 rfl
  clear hb2 cd1
  go_wp2_with fail
  refine (toDessin_any n f g _).mono ?_
  rintro e w3 ⟨rfl, hb3⟩
  have HH3 := HH2.call hb3
  have cd3 := HH3.cells 0 rfl
  clear hb3 cd2
  go_wp2_with fail
  refine (C1.out _).mono ?_
  rintro e w4 ⟨rfl, hb4⟩
  have HH4 := HH3.call hb4
  clear hb4 cd3
  go_wp2
  go_ret
  exact ⟨rfl, HH4.low⟩
end Go.Proofs.Ytjhpkibeddnbfaa
