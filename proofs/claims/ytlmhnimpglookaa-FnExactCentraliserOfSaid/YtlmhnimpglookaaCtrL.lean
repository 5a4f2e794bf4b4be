/- CentraliserOf of program and model -/
import Derived.Test.YtlmhnimpglookaaCtr
namespace Go.Proofs.Ytlmhnimpglookaa
open Go.RowKit
open Classical in
noncomputable def cenP (l : List Int) : Value := if isTyp l then .tuple #[.int .i64 (cenT l l.length), .int .i64 0] else .tuple #[.int .i64 0, .int .i64 1]
theorem cenP_eq (l : List Int) : ∃ (a c : Int), cenP l = .tuple #[.int .i64 a, .int .i64 c] := by
  unfold cenP; split
  · exact ⟨_, _, rfl⟩
  · exact ⟨_, _, rfl⟩
theorem cenP_yes {l : List Int} (h : isTyp l) : cenP l = .tuple #[.int .i64 (cenT l l.length), .int .i64 0] := by unfold cenP; rw [if_pos h]
theorem cenP_no {l : List Int} (h : ¬ isTyp l) : cenP l = .tuple #[.int .i64 0, .int .i64 1] := by unfold cenP; rw [if_neg h]

set_option maxRecDepth 100000 in
set_option maxHeartbeats 1000000 in
theorem centraliserOf_any (v : Value) (l : List Int) (w : World) (hv : RdZ w v l) :
    Calls Try.prog 31 #[v] w fun e w' => e = .returned (cenP l) ∧ Below w.heap.size w w' := by
  have C := hide (isType_any v l w hv)
  have C2 := hide (fun (h : isTyp l) (w' : World) (hv : RdZ w' v l) => centraliser_any v l h w' hv)
  have HV := hide hv
  obtain ⟨A, c, rfl, hlen⟩ := hv.form
  clear hv hlen
  by_cases hp : isTyp l
  · rw [cenP_yes hp]
    rw [typB_true hp] at C
    have C3 := hide (C2.out hp); clear C2 hp
    generalize cenT l l.length = T at *
    go_enter Try.func31, Try.ntmps31
    go_wp2_with fail
    refine C.out.mono ?_
    rintro e w1 ⟨rfl, hb1⟩
    have b1 : Below w.heap.size w w1 := hb1 ▸ Below.refl _ _
    have HV1 := hide (HV.out.below b1 (Nat.le_refl _)); clear hb1
    go_wp2_with fail
    refine (C3.out _ HV1.out).mono ?_
    rintro e w2 ⟨rfl, hb2⟩
    have b2 : Below w.heap.size w w2 := hb2 ▸ b1
    clear hb2 b1
    go_wp2
    go_ret2
    exact ⟨rfl, b2⟩
  · rw [cenP_no hp]
    rw [typB_false hp] at C
    clear hp
    go_enter Try.func31, Try.ntmps31
    go_wp2_with fail
    refine C.out.mono ?_
    rintro e w1 ⟨rfl, hb1⟩
    have b1 : Below w.heap.size w w1 := hb1 ▸ Below.refl _ _
    clear hb1
    go_wp2
    go_ret2
    exact ⟨rfl, b1⟩

set_option maxRecDepth 100000 in
set_option maxHeartbeats 1000000 in
theorem sCentraliserOf_any (v : Value) (l : List Int) (w : World) (hv : RdZ w v l) :
    Calls Try.prog 30 #[v] w fun e w' => e = .returned (cenP l) ∧ Below w.heap.size w w' := by
  have C := hide (l04Type_any v l w hv)
  have C2 := hide (fun (h : isTyp l) (w' : World) (hv : RdZ w' v l) => l04Centraliser_any v l h w' hv)
  have HV := hide hv
  obtain ⟨A, c, rfl, hlen⟩ := hv.form
  clear hv hlen
  by_cases hp : isTyp l
  · rw [cenP_yes hp]
    rw [typB_true hp] at C
    have C3 := hide (C2.out hp); clear C2 hp
    generalize cenT l l.length = T at *
    go_enter Try.func30, Try.ntmps30
    go_wp2_with fail
    refine C.out.mono ?_
    rintro e w1 ⟨rfl, hb1⟩
    have b1 : Below w.heap.size w w1 := hb1.low
    have HV1 := hide (HV.out.below b1 (Nat.le_refl _)); clear hb1
    go_wp2_with fail
    refine (C3.out _ HV1.out).mono ?_
    rintro e w2 ⟨rfl, hb2⟩
    have b2 : Below w.heap.size w w2 := b1.trans (hb2.low.mono b1.size)
    clear hb2 b1
    go_wp2
    go_ret2
    exact ⟨rfl, b2⟩
  · rw [cenP_no hp]
    rw [typB_false hp] at C
    clear hp
    go_enter Try.func30, Try.ntmps30
    go_wp2_with fail
    refine C.out.mono ?_
    rintro e w1 ⟨rfl, hb1⟩
    have b1 : Below w.heap.size w w1 := hb1.low
    clear hb1
    go_wp2
    go_ret2
    exact ⟨rfl, b1⟩
end Go.Proofs.Ytlmhnimpglookaa
