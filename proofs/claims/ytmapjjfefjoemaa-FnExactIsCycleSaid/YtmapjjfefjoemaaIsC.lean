/- IsCycle of the program and of the model. -/
import Derived.Test.YtmapjjfefjoemaaCyq
import Derived.Test.YtmapjjfefjoemaaCyqS
namespace Go.Proofs.Ytmapjjfefjoemaa
open Go.RowKit

open Classical in
noncomputable def icR (n : Int) (f g : Nat → Nat) (l : List Int) : Bool := if desB n f g = true ∧ lstB l n (-1000) 1000 = true then cyc9 l f g n.toNat else false
open Classical in
noncomputable def icC (n : Int) (f g : Nat → Nat) (l : List Int) : Int := if desB n f g = true then (if lstB l n (-1000) 1000 = true then 0 else 2) else 1
set_option maxRecDepth 100000 in
set_option maxHeartbeats 1000000 in
theorem isChain_any (n : Int) (f g : Nat → Nat) (v : Value) (l : List Int) (w : World) (hv : RdZ w v l) :
    Calls Try.prog 74 #[.agg (dv n f g), v] w fun e w' => e = .returned (.bool (lstB l n (-1000) 1000)) ∧ Below w.heap.size w w' := by
  have hn := dv_n n f g
  have HH0 := (Holds.start w).blk (dv n f g) 31 w.heap.size rfl
  have HV := hide (hv.below HH0.low (Nat.le_refl _)); clear hv
  have CI := hide fun w hv => areNumbersIn_any v l n (-1000) 1000 w hv
  generalize lstB l n (-1000) 1000 = r at *
  go_enter Try.func74, Try.ntmps74
  go_wp2_with fail
  refine (CI.out _ HV.out).mono ?_
  rintro e w1 ⟨rfl, rfl⟩
  go_wp2
  go_ret
  exact ⟨rfl, HH0.low⟩
set_option maxRecDepth 100000 in
set_option maxHeartbeats 1000000 in
theorem l09Chain_any (n : Int) (f g : Nat → Nat) (v : Value) (l : List Int) (w : World) (hv : RdZ w v l) :
    Calls Try.prog 72 #[.agg (dv n f g), v] w fun e w' => e = .returned (.bool (lstB l n (-1000) 1000)) ∧ Below w.heap.size w w' := by
  have hn := dv_n n f g
  have HH0 := (Holds.start w).blk (dv n f g) 31 w.heap.size rfl
  have HV := hide (hv.below HH0.low (Nat.le_refl _)); clear hv
  have CI := hide fun w hv => l09List_any v l n (-1000) 1000 w hv
  generalize lstB l n (-1000) 1000 = r at *
  go_enter Try.func72, Try.ntmps72
  go_wp2_with fail
  refine (CI.out _ HV.out).mono ?_
  rintro e w1 ⟨rfl, rfl⟩
  go_wp2
  go_ret
  exact ⟨rfl, HH0.low⟩
set_option maxRecDepth 100000 in
set_option maxHeartbeats 1000000 in
theorem isCycleD_any (n : Int) (f g : Nat → Nat) (hf : ∀ i, f i < 256) (hg : ∀ i, g i < 256) (v : Value) (l : List Int) (w : World) (hv : RdZ w v l) :
    Calls Try.prog 35 #[.agg (dv n f g), v] w fun e w' => e = .returned (.tuple #[.bool (icR n f g l), .int .i64 (icC n f g l)]) ∧ Below w.heap.size w w' := by
  have C1 := hide fun w => isDessin_any n f g hf hg w
  clear hf hg
  have HV := hide hv; clear hv
  have HH0 := (Holds.start w).blk (dv n f g) 31 w.heap.size rfl
  rcases h1 : desB n f g with _ | _
  · rw [h1] at C1
    rw [show icR n f g l = false from if_neg (by simp [h1]), show icC n f g l = 1 from by unfold icC; rw [if_neg (by simp [h1])]]
    clear h1
    go_enter Try.func35, Try.ntmps35
    go_wp2_with fail
    refine (C1.out _).mono ?_
    rintro e w1 ⟨rfl, hb⟩
    have HH1 := HH0.call hb
    go_wp2
    go_ret2
    exact ⟨rfl, HH1.low⟩
  rw [h1] at C1
  obtain ⟨m, rfl, hd⟩ := desB_true h1
  have C2 := hide fun w hv => isChain_any (m : Int) f g v l w hv
  rcases h2 : lstB l (m : Int) (-1000) 1000 with _ | _
  · rw [h2] at C2
    rw [show icR m f g l = false from if_neg (by simp [h2]), show icC m f g l = 2 from by unfold icC; rw [if_pos h1, if_neg (by simp [h2])]]
    clear h1 h2 hd
    go_enter Try.func35, Try.ntmps35
    go_wp2_with fail
    refine (C1.out _).mono ?_
    rintro e w1 ⟨rfl, hb⟩
    have HH1 := HH0.call hb
    have cd1 := HH1.cells 0 rfl
    clear hb HH0
    go_wp2_with fail
    refine (C2.out _ (HV.out.below HH1.low (Nat.le_refl _))).mono ?_
    rintro e w2 ⟨rfl, hb⟩
    have HH2 := HH1.call hb
    clear hb HH1 cd1
    go_wp2
    go_ret2
    exact ⟨rfl, HH2.low⟩
  rw [h2] at C2
  obtain ⟨hl, hs⟩ := lstB_true h2
  have C3 := hide fun w hv => isCycle_any v l f g m hd (by omega) (fun x hx => by have := hs x hx; omega) w hv
  rw [show icR m f g l = cyc9 l f g m from by unfold icR; rw [if_pos ⟨h1, h2⟩, Int.toNat_natCast], show icC m f g l = 0 from by unfold icC; rw [if_pos h1, if_pos h2]]
  clear h1 h2 hd hl hs
  generalize cyc9 l f g m = r at *
  go_enter Try.func35, Try.ntmps35
  go_wp2_with fail
  refine (C1.out _).mono ?_
  rintro e w1 ⟨rfl, hb⟩
  have HH1 := HH0.call hb
  have cd1 := HH1.cells 0 rfl
  clear hb HH0
  go_wp2_with fail
  refine (C2.out _ (HV.out.below HH1.low (Nat.le_refl _))).mono ?_
  rintro e w2 ⟨rfl, hb⟩
  have HH2 := HH1.call hb
  have cd2 := HH2.cells 0 rfl
  clear hb HH1 cd1
  go_wp2_with fail
  refine (C3.out _ (HV.out.below HH2.low (Nat.le_refl _))).mono ?_
  rintro e w3 ⟨rfl, hb⟩
  have HH3 := HH2.call hb
  clear hb HH2 cd2
  go_wp2
  go_ret2
  exact ⟨rfl, HH3.low⟩
set_option maxRecDepth 100000 in
set_option maxHeartbeats 1000000 in
theorem sIsCycleD_any (n : Int) (f g : Nat → Nat) (hf : ∀ i, f i < 256) (hg : ∀ i, g i < 256) (v : Value) (l : List Int) (w : World) (hv : RdZ w v l) :
    Calls Try.prog 34 #[.agg (dv n f g), v] w fun e w' => e = .returned (.tuple #[.bool (icR n f g l), .int .i64 (icC n f g l)]) ∧ Below w.heap.size w w' := by
  have C1 := hide fun w => sIs_any n f g hf hg w
  clear hf hg
  have HV := hide hv; clear hv
  have HH0 := (Holds.start w).blk (dv n f g) 31 w.heap.size rfl
  rcases h1 : desB n f g with _ | _
  · rw [h1] at C1
    rw [show icR n f g l = false from if_neg (by simp [h1]), show icC n f g l = 1 from by unfold icC; rw [if_neg (by simp [h1])]]
    clear h1
    go_enter Try.func34, Try.ntmps34
    go_wp2_with fail
    refine (C1.out _).mono ?_
    rintro e w1 ⟨rfl, hb⟩
    have HH1 := HH0.call hb
    go_wp2
    go_ret2
    exact ⟨rfl, HH1.low⟩
  rw [h1] at C1
  obtain ⟨m, rfl, hd⟩ := desB_true h1
  have C2 := hide fun w hv => l09Chain_any (m : Int) f g v l w hv
  rcases h2 : lstB l (m : Int) (-1000) 1000 with _ | _
  · rw [h2] at C2
    rw [show icR m f g l = false from if_neg (by simp [h2]), show icC m f g l = 2 from by unfold icC; rw [if_pos h1, if_neg (by simp [h2])]]
    clear h1 h2 hd
    go_enter Try.func34, Try.ntmps34
    go_wp2_with fail
    refine (C1.out _).mono ?_
    rintro e w1 ⟨rfl, hb⟩
    have HH1 := HH0.call hb
    have cd1 := HH1.cells 0 rfl
    clear hb HH0
    go_wp2_with fail
    refine (C2.out _ (HV.out.below HH1.low (Nat.le_refl _))).mono ?_
    rintro e w2 ⟨rfl, hb⟩
    have HH2 := HH1.call hb
    clear hb HH1 cd1
    go_wp2
    go_ret2
    exact ⟨rfl, HH2.low⟩
  rw [h2] at C2
  obtain ⟨hl, hs⟩ := lstB_true h2
  have C3 := hide fun w hv => sCycle_any v l f g m hd (by omega) (fun x hx => by have := hs x hx; omega) w hv
  rw [show icR m f g l = cyc9 l f g m from by unfold icR; rw [if_pos ⟨h1, h2⟩, Int.toNat_natCast], show icC m f g l = 0 from by unfold icC; rw [if_pos h1, if_pos h2]]
  clear h1 h2 hd hl hs
  generalize cyc9 l f g m = r at *
  go_enter Try.func34, Try.ntmps34
  go_wp2_with fail
  refine (C1.out _).mono ?_
  rintro e w1 ⟨rfl, hb⟩
  have HH1 := HH0.call hb
  have cd1 := HH1.cells 0 rfl
  clear hb HH0
  go_wp2_with fail
  refine (C2.out _ (HV.out.below HH1.low (Nat.le_refl _))).mono ?_
  rintro e w2 ⟨rfl, hb⟩
  have HH2 := HH1.call hb
  have cd2 := HH2.cells 0 rfl
  clear hb HH1 cd1
  go_wp2_with fail
  refine (C3.out _ (HV.out.below HH2.low (Nat.le_refl _))).mono ?_
  rintro e w3 ⟨rfl, hb⟩
  have HH3 := HH2.call hb
  clear hb HH2 cd2
  go_wp2
  go_ret2
  exact ⟨rfl, HH3.low⟩
end Go.Proofs.Ytmapjjfefjoemaa
