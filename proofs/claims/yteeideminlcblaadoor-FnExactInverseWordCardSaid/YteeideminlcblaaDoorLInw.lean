/- InverseWord of program and model; the law's walk. -/
import Derived.Test.YteeideminlcblaaDoorIsW
import Derived.Test.YteeideminlcblaaDoorInw
namespace Go.Proofs.YteeideminlcblaaDoor
open Go.RowKit

noncomputable def inwR (s : ByteArray) : Value := if wdB s = true then .tuple #[.string (mkS (invW (lts s))), .int .i64 0] else .tuple #[.string ⟨#[]⟩, .int .i64 1]
theorem inwR_eq (s : ByteArray) : ∃ (r : ByteArray) (c : Int), inwR s = .tuple #[.string r, .int .i64 c] := by
  unfold inwR; split <;> exact ⟨_, _, rfl⟩
set_option maxRecDepth 100000 in
set_option maxHeartbeats 1000000 in
theorem inverseWordD_any (s : ByteArray) (hs : s.size ≤ 140737488355328) (w : World) :
    Calls Tryd.prog 13 #[.string s] w fun e w' => e = .returned (inwR s) ∧ Below w.heap.size w w' := by
  have C1 := hide fun w => isWord_any s w
  rcases h : wdB s with _ | _
  · rw [h] at C1
    have hr : inwR s = .tuple #[.string ⟨#[]⟩, .int .i64 1] := by unfold inwR; rw [if_neg (by simp [h])]
    rw [hr]
    clear h hr hs
    go_enter Tryd.func13, Tryd.ntmps13
    go_wp2_with fail
    refine (C1.out _).mono ?_
    rintro e w1 ⟨rfl, h1⟩
    go_wp2
    go_ret2
    exact ⟨rfl, h1⟩
  · rw [h] at C1
    have hr : inwR s = .tuple #[.string (mkS (invW (lts s))), .int .i64 0] := by unfold inwR; rw [if_pos h]
    rw [hr]
    have hz := wdB_size h
    have hl := wdB_all h
    have C2 := hide fun w => inverseWord_any s (by omega) hl w
    clear h hr hs hz hl
    generalize mkS (invW (lts s)) = r at *
    go_enter Tryd.func13, Tryd.ntmps13
    go_wp2_with fail
    refine (C1.out _).mono ?_
    rintro e w1 ⟨rfl, h1⟩
    go_wp2_with fail
    refine (C2.out _).mono ?_
    rintro e w2 ⟨rfl, h2⟩
    have b2 := h1.trans (h2.mono h1.size)
    go_wp2
    go_ret2
    exact ⟨rfl, b2⟩
set_option maxRecDepth 100000 in
set_option maxHeartbeats 1000000 in
theorem sInverseWord_any (s : ByteArray) (hs : s.size ≤ 140737488355328) (w : World) :
    Calls Tryd.prog 12 #[.string s] w fun e w' => e = .returned (inwR s) ∧ Below w.heap.size w w' := by
  have C1 := hide fun w => l08Word_any s hs w
  rcases h : wdB s with _ | _
  · rw [h] at C1
    have hr : inwR s = .tuple #[.string ⟨#[]⟩, .int .i64 1] := by unfold inwR; rw [if_neg (by simp [h])]
    rw [hr]
    clear h hr hs
    go_enter Tryd.func12, Tryd.ntmps12
    go_wp2_with fail
    refine (C1.out _).mono ?_
    rintro e w1 ⟨rfl, h1⟩
    go_wp2
    go_ret2
    exact ⟨rfl, h1⟩
  · rw [h] at C1
    have hr : inwR s = .tuple #[.string (mkS (invW (lts s))), .int .i64 0] := by unfold inwR; rw [if_pos h]
    rw [hr]
    have hz := wdB_size h
    have hl := wdB_all h
    have C2 := hide fun w => l08Inverse_any s (by omega) w
    clear h hr hs hz hl
    generalize mkS (invW (lts s)) = r at *
    go_enter Tryd.func12, Tryd.ntmps12
    go_wp2_with fail
    refine (C1.out _).mono ?_
    rintro e w1 ⟨rfl, h1⟩
    go_wp2_with fail
    refine (C2.out _).mono ?_
    rintro e w2 ⟨rfl, h2⟩
    have b2 := h1.trans (h2.mono h1.size)
    go_wp2
    go_ret2
    exact ⟨rfl, b2⟩
set_option maxRecDepth 100000 in
set_option maxHeartbeats 1000000 in
theorem fnExactInverseWord_walk (s : ByteArray) {HW : Prop} (_hw : HW) (w : World) :
    Calls Tryd.prog 5 #[.string s] w fun e w' => e = .returned (.bool true) ∧ Below w.heap.size w w' := by
  clear _hw
  by_cases hbig : (s.size : Int) > 1048576
  · have hgt : decide ((1048576 : Int) < (s.size : Int)) = true := decide_eq_true hbig
    go_enter Tryd.func5, Tryd.ntmps5
    go_wp2
    go_ret
    exact ⟨rfl, Below.refl _ _⟩
  have hgt : decide ((1048576 : Int) < (s.size : Int)) = false := decide_eq_false hbig
  have c1 := fun w => inverseWordD_any s (by omega) w
  have c2 := fun w => sInverseWord_any s (by omega) w
  obtain ⟨r, c, hR⟩ := inwR_eq s
  rw [hR] at c1 c2
  have C1 := hide c1; clear c1
  have C2 := hide c2; clear c2
  have H0 := Holds.start w
  clear hbig hR
  have hne : (c != c) = false := by simp
  have hse : (r.toList == r.toList) = true := by simp
  go_enter Tryd.func5, Tryd.ntmps5
  go_wp2_with fail
  refine (C2.out _).mono ?_
  rintro e w1 ⟨rfl, h1⟩
  have H1 := H0.call h1
  clear h1
  go_wp2_with fail
  refine (C1.out _).mono ?_
  rintro e w2 ⟨rfl, h2⟩
  have H2 := H1.call h2
  clear h2
  go_wp2
  go_ret
  exact ⟨rfl, H2.low⟩
end Go.Proofs.YteeideminlcblaaDoor
