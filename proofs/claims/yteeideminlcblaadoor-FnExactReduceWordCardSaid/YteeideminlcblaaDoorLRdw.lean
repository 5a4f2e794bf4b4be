/- ReduceWord of program and model; the law's walk. -/
import Derived.Test.YteeideminlcblaaDoorIsW
import Derived.Test.YteeideminlcblaaDoorRdS
namespace Go.Proofs.YteeideminlcblaaDoor
open Go.RowKit

noncomputable def rdwR (s : ByteArray) : Value := if wdB s = true then .tuple #[.string (mkS (redL (lts s))), .int .i64 0] else .tuple #[.string ⟨#[]⟩, .int .i64 1]
theorem rdwR_eq (s : ByteArray) : ∃ (r : ByteArray) (c : Int), rdwR s = .tuple #[.string r, .int .i64 c] := by
  unfold rdwR; split <;> exact ⟨_, _, rfl⟩
set_option maxRecDepth 100000 in
set_option maxHeartbeats 1000000 in
theorem reduceWord_any (s : ByteArray) (hs : s.size ≤ 140737488355328) (w : World) :
    Calls Tryd.prog 11 #[.string s] w fun e w' => e = .returned (rdwR s) ∧ Below w.heap.size w w' := by
  have C1 := hide fun w => isWord_any s w
  rcases h : wdB s with _ | _
  · rw [h] at C1
    have hr : rdwR s = .tuple #[.string ⟨#[]⟩, .int .i64 1] := by unfold rdwR; rw [if_neg (by simp [h])]
    rw [hr]
    clear h hr hs
    go_enter Tryd.func11, Tryd.ntmps11
    go_wp2_with fail
    refine (C1.out _).mono ?_
    rintro e w1 ⟨rfl, h1⟩
    go_wp2
    go_ret2
    exact ⟨rfl, h1⟩
  · rw [h] at C1
    have hr : rdwR s = .tuple #[.string (mkS (redL (lts s))), .int .i64 0] := by unfold rdwR; rw [if_pos h]
    rw [hr]
    have hz := wdB_size h
    have hl := wdB_all h
    have C2 := hide fun w => reduced_any s (by omega) hl w
    clear h hr hs hz hl
    generalize mkS (redL (lts s)) = r at *
    go_enter Tryd.func11, Tryd.ntmps11
    go_wp2_with fail
    refine (C1.out _).mono ?_
    rintro e w1 ⟨rfl, h1⟩
    go_wp2_with fail
    refine (C2.out _).mono ?_
    rintro e w2 ⟨rfl, h2⟩
    have b2 := h1.trans (h2.mono h1.size)
    go_wp2
    go_ret2
    exact ⟨rfl, b2⟩
set_option maxRecDepth 100000 in
set_option maxHeartbeats 1000000 in
theorem sReduceWord_any (s : ByteArray) (hs : s.size ≤ 140737488355328) (w : World) :
    Calls Tryd.prog 10 #[.string s] w fun e w' => e = .returned (rdwR s) ∧ Below w.heap.size w w' := by
  have C1 := hide fun w => l08Word_any s hs w
  rcases h : wdB s with _ | _
  · rw [h] at C1
    have hr : rdwR s = .tuple #[.string ⟨#[]⟩, .int .i64 1] := by unfold rdwR; rw [if_neg (by simp [h])]
    rw [hr]
    clear h hr hs
    go_enter Tryd.func10, Tryd.ntmps10
    go_wp2_with fail
    refine (C1.out _).mono ?_
    rintro e w1 ⟨rfl, h1⟩
    go_wp2
    go_ret2
    exact ⟨rfl, h1⟩
  · rw [h] at C1
    have hr : rdwR s = .tuple #[.string (mkS (redL (lts s))), .int .i64 0] := by unfold rdwR; rw [if_pos h]
    rw [hr]
    have hz := wdB_size h
    have hl := wdB_all h
    have C2 := hide fun w => l08Reduce_any s (by omega) hl w
    clear h hr hs hz hl
    generalize mkS (redL (lts s)) = r at *
    go_enter Tryd.func10, Tryd.ntmps10
    go_wp2_with fail
    refine (C1.out _).mono ?_
    rintro e w1 ⟨rfl, h1⟩
    go_wp2_with fail
    refine (C2.out _).mono ?_
    rintro e w2 ⟨rfl, h2⟩
    have b2 := h1.trans (h2.mono h1.size)
    go_wp2
    go_ret2
    exact ⟨rfl, b2⟩
set_option maxRecDepth 100000 in
set_option maxHeartbeats 1000000 in
theorem fnExactReduceWord_walk (s : ByteArray) {HW : Prop} (_hw : HW) (w : World) :
    Calls Tryd.prog 4 #[.string s] w fun e w' => e = .returned (.bool true) ∧ Below w.heap.size w w' := by
  clear _hw
  by_cases hbig : (s.size : Int) > 1048576
  · have hgt : decide ((1048576 : Int) < (s.size : Int)) = true := decide_eq_true hbig
    go_enter Tryd.func4, Tryd.ntmps4
    go_wp2
    go_ret
    exact ⟨rfl, Below.refl _ _⟩
  have hgt : decide ((1048576 : Int) < (s.size : Int)) = false := decide_eq_false hbig
  have c1 := fun w => reduceWord_any s (by omega) w
  have c2 := fun w => sReduceWord_any s (by omega) w
  obtain ⟨r, c, hR⟩ := rdwR_eq s
  rw [hR] at c1 c2
  have C1 := hide c1; clear c1
  have C2 := hide c2; clear c2
  have H0 := Holds.start w
  clear hbig hR
  have hne : (c != c) = false := by simp
  have hse : (r.toList == r.toList) = true := by simp
  go_enter Tryd.func4, Tryd.ntmps4
  go_wp2_with fail
  refine (C2.out _).mono ?_
  rintro e w1 ⟨rfl, h1⟩
  have H1 := H0.call h1
  clear h1
  go_wp2_with fail
  refine (C1.out _).mono ?_
  rintro e w2 ⟨rfl, h2⟩
  have H2 := H1.call h2
  clear h2
  go_wp2
  go_ret
  exact ⟨rfl, H2.low⟩
end Go.Proofs.YteeideminlcblaaDoor
