/- IsOrientable: both functions -/
import Derived.Test.YteeideminlcblaaClsP
import Derived.Test.YteeideminlcblaaClsS
import Derived.Test.YteeideminlcblaaAreS
namespace Go.Proofs.Yteeideminlcblaa
open Go.RowKit

noncomputable def oriB (n : Int) (c t s : Nat → Nat) : Bool := flB n c t s && orB [c, t, s]
noncomputable def oriC (n : Int) (c t s : Nat → Nat) : Int := if flB n c t s = true then 0 else 1

set_option maxRecDepth 100000 in
set_option maxHeartbeats 1000000 in
theorem isOri_any (n : Int) (c t s : Nat → Nat) (hc : ∀ i, c i < 256) (ht : ∀ i, t i < 256) (hs : ∀ i, s i < 256) (w : World) :
    Calls Try.prog 32 #[.agg (fv n c t s)] w fun e w' => e = .returned (.tuple #[.bool (oriB n c t s), .int .i64 (oriC n c t s)]) ∧ Below w.heap.size w w' := by
  have C1 := hide fun w => areFlags_any n c t s hc ht hs w
  have HH0 := (Holds.start w).blk (fv n c t s) 53 w.heap.size rfl
  clear hc ht hs
  rcases h1 : flB n c t s with _ | _
  · rw [h1] at C1
    have hr : oriB n c t s = false := by unfold oriB; rw [h1]; rfl
    have hq : oriC n c t s = 1 := by unfold oriC; rw [h1]; rfl
    rw [hr, hq]
    clear h1 hr hq
    go_enter Try.func32, Try.ntmps32
    go_wp2_with fail
    refine (C1.out _).mono ?_
    rintro e w1 ⟨rfl, hb⟩
    have HH1 := HH0.call hb
    go_wp2
    go_ret2
    exact ⟨rfl, HH1.low⟩
  · rw [h1] at C1
    have hr : oriB n c t s = orB [c, t, s] := by unfold oriB; rw [h1]; rfl
    have hq : oriC n c t s = 0 := by unfold oriC; rw [h1]; rfl
    rw [hr, hq]
    clear hr hq
    obtain ⟨m, rfl, hd⟩ := flB_true h1
    obtain ⟨⟨h4, h32, -⟩, pc, pt, ps, -, -⟩ := hd
    have C2 := hide fun w => classes_any m h32 (by omega) c t s (keeps3 pc pt ps) (fun i hi => pc.lt32 h32 i hi (by omega)) (fun i hi => pt.lt32 h32 i hi (by omega)) (fun i hi => ps.lt32 h32 i hi (by omega)) w
    clear h1 h4 h32 pc pt ps
    generalize orB [c, t, s] = b at *
    go_enter Try.func32, Try.ntmps32
    go_wp2_with fail
    refine (C1.out _).mono ?_
    rintro e w1 ⟨rfl, hb⟩
    have HH1 := HH0.call hb
    have cd1 := HH1.cells 0 rfl
    clear hb HH0
    go_wp2_with fail
    refine (C2.out _).mono ?_
    rintro e w2 ⟨K, rfl, -, hb⟩
    have HH2 := HH1.call hb
    have HH3 := hide (HH2.blk (iv K) 88 w2.heap.size rfl)
    have HH4 := hide (((HH2.blk (iv fun _ => 0) 88 w2.heap.size rfl).setRow 0 rfl (iv K)).low)
    rw [iv_zero] at HH4
    clear hb HH1 cd1
    go_wp2
    go_ret2
    first | exact ⟨rfl, HH3.out.low⟩ | exact ⟨rfl, HH4.out⟩

set_option maxRecDepth 100000 in
set_option maxHeartbeats 1000000 in
theorem sIsOri_any (n : Int) (c t s : Nat → Nat) (hc : ∀ i, c i < 256) (ht : ∀ i, t i < 256) (hs : ∀ i, s i < 256) (w : World) :
    Calls Try.prog 30 #[.agg (fv n c t s)] w fun e w' => e = .returned (.tuple #[.bool (oriB n c t s), .int .i64 (oriC n c t s)]) ∧ Below w.heap.size w w' := by
  have C1 := hide fun w => sAre_any n c t s hc ht hs w
  have HH0 := (Holds.start w).blk (fv n c t s) 53 w.heap.size rfl
  clear hc ht hs
  rcases h1 : flB n c t s with _ | _
  · rw [h1] at C1
    have hr : oriB n c t s = false := by unfold oriB; rw [h1]; rfl
    have hq : oriC n c t s = 1 := by unfold oriC; rw [h1]; rfl
    rw [hr, hq]
    clear h1 hr hq
    go_enter Try.func30, Try.ntmps30
    go_wp2_with fail
    refine (C1.out _).mono ?_
    rintro e w1 ⟨rfl, hb⟩
    have HH1 := HH0.call hb
    go_wp2
    go_ret2
    exact ⟨rfl, HH1.low⟩
  · rw [h1] at C1
    have hr : oriB n c t s = orB [c, t, s] := by unfold oriB; rw [h1]; rfl
    have hq : oriC n c t s = 0 := by unfold oriC; rw [h1]; rfl
    rw [hr, hq]
    clear hr hq
    obtain ⟨m, rfl, hd⟩ := flB_true h1
    obtain ⟨⟨h4, h32, -⟩, pc, pt, ps, -, -⟩ := hd
    have C2 := hide fun w => sClass_any m h32 (by omega) c t s (keeps3 pc pt ps) w
    clear h1 h4 h32 pc pt ps
    generalize orB [c, t, s] = b at *
    go_enter Try.func30, Try.ntmps30
    go_wp2_with fail
    refine (C1.out _).mono ?_
    rintro e w1 ⟨rfl, hb⟩
    have HH1 := HH0.call hb
    have cd1 := HH1.cells 0 rfl
    clear hb HH0
    go_wp2_with fail
    refine (C2.out _).mono ?_
    rintro e w2 ⟨K, rfl, -, hb⟩
    have HH2 := HH1.call hb
    have HH3 := hide (HH2.blk (iv K) 84 w2.heap.size rfl)
    have HH4 := hide (((HH2.blk (iv fun _ => 0) 84 w2.heap.size rfl).setRow 0 rfl (iv K)).low)
    rw [iv_zero] at HH4
    clear hb HH1 cd1
    go_wp2
    go_ret2
    first | exact ⟨rfl, HH3.out.low⟩ | exact ⟨rfl, HH4.out⟩
end Go.Proofs.Yteeideminlcblaa
