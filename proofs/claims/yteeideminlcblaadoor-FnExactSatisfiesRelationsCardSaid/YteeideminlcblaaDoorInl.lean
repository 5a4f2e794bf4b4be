/- The number and the inverse of a letter. -/
import Derived.Test.YteeideminlcblaaDoorWds
import Derived.Test.YteeideminlcblaaDoorShI
namespace Go.Proofs.YteeideminlcblaaDoor
open Go.RowKit Go.Shelf

def numL (c : Nat) : Nat := if c = 120 then 0 else if c = 88 then 1 else if c = 121 then 2 else 3
theorem quiet_eq8 {P : Program} {f : FuncId} {args : Array Value} {w : World} {n : Nat} {v : Value} (h : Calls P f args (w.drewN n) fun e w' => e = .returned v ∧ w.drewN n = w') : Calls P f args (w.drewN n) fun e w'' => e = .returned v ∧ ∃ m, w'' = w.drewN m :=
  h.mono fun _ _ ⟨he, hm⟩ => ⟨he, n, hm.symm⟩
set_option maxRecDepth 100000 in
theorem letterNumber_any (c : Nat) (hc : isL c = true) (w : World) :
    Calls Tryd.prog 64 #[.int .u8 c] w fun e w' => e = .returned (.int .i64 (numL c)) ∧ w = w' := by
  have hcon := Any.strings_IndexByte shN137 ⟨#[120, 88, 121, 89]⟩ (c : Int) w
  change Calls Tryd.prog 71 _ _ (fun e w' => e = .returned (.int .i64 (Lib.indexByte [120, 88, 121, 89] ((c : Int).toNat.toUInt8))) ∧ w' = w) at hcon
  have hv : Lib.indexByte [120, 88, 121, 89] ((c : Int).toNat.toUInt8) = (numL c : Nat) := by
    rcases isL_cases hc with rfl | rfl | rfl | rfl <;> rfl
  rw [hv] at hcon
  clear hv hc
  generalize numL c = n at *
  have C := hide hcon; clear hcon
  go_enter Tryd.func64, Tryd.ntmps64
  go_wp2_with fail
  refine C.out.mono ?_
  rintro e w1 ⟨rfl, rfl⟩
  go_wp2
  go_ret
  exact ⟨rfl, rfl⟩
set_option maxRecDepth 100000 in
theorem inverseNumber_any (k j : Nat) (h : (k = 0 ∧ j = 1) ∨ (k = 1 ∧ j = 0) ∨ (k = 2 ∧ j = 3) ∨ (k = 3 ∧ j = 2)) (w : World) :
    Calls Tryd.prog 63 #[.int .i64 k] w fun e w' => e = .returned (.int .i64 j) ∧ w = w' := by
  rcases h with ⟨rfl, rfl⟩ | ⟨rfl, rfl⟩ | ⟨rfl, rfl⟩ | ⟨rfl, rfl⟩ <;>
    (go_enter Tryd.func63, Tryd.ntmps63
     go_wp2
     go_ret
     exact ⟨by first | rfl | decide | kernel_rfl, rfl⟩)
set_option maxRecDepth 100000 in
theorem inverseLetter_any (c : Nat) (hc : isL c = true) (w : World) :
    Calls Tryd.prog 47 #[.int .u8 c] w fun e w' => e = .returned (.int .u8 (invL c)) ∧ w = w' := by
  have C1 := hide fun w => letterNumber_any c hc w
  obtain ⟨j, hj⟩ : ∃ j : Nat, (numL c = 0 ∧ j = 1) ∨ (numL c = 1 ∧ j = 0) ∨ (numL c = 2 ∧ j = 3) ∨ (numL c = 3 ∧ j = 2) := by
    rcases isL_cases hc with rfl | rfl | rfl | rfl
    · exact ⟨1, .inl ⟨rfl, rfl⟩⟩
    · exact ⟨0, .inr (.inl ⟨rfl, rfl⟩)⟩
    · exact ⟨3, .inr (.inr (.inl ⟨rfl, rfl⟩))⟩
    · exact ⟨2, .inr (.inr (.inr ⟨rfl, rfl⟩))⟩
  have C2 := hide fun w => inverseNumber_any (numL c) j hj w
  have hix : ∀ wx, (Instr.index 9 (.string ⟨#[120, 88, 121, 89]⟩) (.int .i64 (j : Int))).run Tryd.prog wx = .ok (.int .u8 (invL c : Nat)) wx := fun wx => by
    rcases isL_cases hc with rfl | rfl | rfl | rfl
    all_goals (simp [numL] at hj; subst hj; rw [run_index_string wx 9 _ .i64 _ Tryd.underlying9, dif_pos (by decide)]; rfl)
  clear hc hj
  generalize numL c = n at *
  generalize invL c = v at *
  go_enter Tryd.func47, Tryd.ntmps47
  go_wp2_with fail
  refine (C1.out _).mono ?_
  rintro e w1 ⟨rfl, rfl⟩
  go_wp2_with fail
  refine (C2.out _).mono ?_
  rintro e w1 ⟨rfl, rfl⟩
  go_wp2
  go_ret
  exact ⟨rfl, rfl⟩
set_option maxRecDepth 100000 in
theorem l08Other_any (c : Nat) (w : World) :
    Calls Tryd.prog 46 #[.int .u8 c] w fun e w' => e = .returned (.int .u8 (invL c)) ∧ w = w' := by
  have h : ∀ k : Nat, ((c : Int) == (k : Int)) = decide (c = k) := fun k => by rw [Bool.eq_iff_iff, beq_iff_eq, decide_eq_true_iff]; omega
  have g1 : ((c : Int) == 120) = _ := h 120
  have g2 : ((c : Int) == 88) = _ := h 88
  have g3 : ((c : Int) == 121) = _ := h 121
  clear h
  unfold invL
  by_cases e1 : c = 120
  · rw [decide_eq_true e1] at g1
    rw [if_pos e1]
    clear g2 g3 e1
    go_enter Tryd.func46, Tryd.ntmps46
    go_wp2
    go_ret
    exact ⟨rfl, rfl⟩
  rw [decide_eq_false e1] at g1
  rw [if_neg e1]
  by_cases e2 : c = 88
  · rw [decide_eq_true e2] at g2
    rw [if_pos e2]
    clear g3 e1 e2
    go_enter Tryd.func46, Tryd.ntmps46
    go_wp2
    go_ret
    exact ⟨rfl, rfl⟩
  rw [decide_eq_false e2] at g2
  rw [if_neg e2]
  by_cases e3 : c = 121
  · rw [decide_eq_true e3] at g3
    rw [if_pos e3]
    clear e1 e2 e3
    go_enter Tryd.func46, Tryd.ntmps46
    go_wp2
    go_ret
    exact ⟨rfl, rfl⟩
  rw [decide_eq_false e3] at g3
  rw [if_neg e3]
  clear e1 e2 e3
  go_enter Tryd.func46, Tryd.ntmps46
  go_wp2
  go_ret
  exact ⟨rfl, rfl⟩
end Go.Proofs.YteeideminlcblaaDoor
