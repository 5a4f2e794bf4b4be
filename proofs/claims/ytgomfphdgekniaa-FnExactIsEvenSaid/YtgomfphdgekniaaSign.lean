/- countCycles, SignOf of the program and of the model; the walk of FnExactSignOf -/
import Derived.Test.YtgomfphdgekniaaSCyc
import Derived.Test.YtgomfphdgekniaaCnt
import Derived.Test.YtgomfphdgekniaaSPerm
import Derived.Test.YtgomfphdgekniaaToPl
namespace Go.Proofs.Ytgomfphdgekniaa
open Go.RowKit

noncomputable def signR (p : Nat → Nat) (n : Int) : Value :=
  if permB p n = true then .tuple #[.int .i64 (if (n - (cycs p n.toNat).length) % 2 = 0 then 1 else -1), .int .i64 0] else .tuple #[.int .i64 0, .int .i64 1]

set_option maxRecDepth 100000 in
set_option maxHeartbeats 400000 in
theorem signOf_any (p : Nat → Nat) (hp : ∀ i, p i < 256) (n : Int) (w : World) :
    Calls Try.prog 63 #[.agg (av p), .int .i64 n] w fun e w' => e = .returned (signR p n) ∧ Below w.heap.size w w' := by
  have C1 := hide fun w => isPerm_any p hp n w
  clear hp
  rcases h1 : permB p n with _ | _
  · rw [h1] at C1
    have hr : signR p n = .tuple #[.int .i64 0, .int .i64 1] := by unfold signR; rw [if_neg (by simp [h1])]
    rw [hr]
    clear h1 hr
    go_enter Try.func63, Try.ntmps63
    go_wp2_with fail
    refine (C1.out _).mono ?_
    rintro e w1 ⟨rfl, hb⟩
    go_wp2
    go_ret2
    exact ⟨rfl, (below1 w _).trans (hb.mono (by simp))⟩
  · rw [h1] at C1
    obtain ⟨m, rfl, hpm⟩ := permB_true h1
    have hr : signR p (m : Int) = .tuple #[.int .i64 (if ((m : Int) - (cycs p m).length) % 2 = 0 then 1 else -1), .int .i64 0] := by unfold signR; rw [if_pos h1, Int.toNat_natCast]
    rw [hr]
    clear h1 hr
    have C2 := hide fun w => countCycles_any p m hpm w
    have hle := cycs_le hpm
    have h16 := hpm.2.1
    clear hpm
    generalize (cycs p m).length = L at *
    have s : ∀ w1 : World, Below (w.alloc (.cells (av p) 28)).heap.size (w.alloc (.cells (av p) 28)) w1 → cellsOf w1 w.heap.size = av p := fun w1 h => (below_cells h (by simp)).trans (cellsOf_heap (heap_at _ _ _ rfl))
    have S := hide s; clear s
    by_cases hpar : ((m : Int) - (L : Int)) % 2 = 0
    · have hne : (((m : Int) - (L : Int)) % 2 != 0) = false := by simp [hpar]
      rw [if_pos hpar]
      clear hpar
      go_enter Try.func63, Try.ntmps63
      go_wp2_with fail
      refine (C1.out _).mono ?_
      rintro e w1 ⟨rfl, hb⟩
      have c1 := S.out _ hb
      go_wp2_with fail
      refine (C2.out _).mono ?_
      rintro e w2 ⟨rfl, hb2⟩
      have b2 := (below1 w _).trans ((hb.trans (hb2.mono hb.size)).mono (by simp))
      clear hb hb2 c1
      go_wp2
      go_ret2
      exact ⟨rfl, b2⟩
    · have hne : (((m : Int) - (L : Int)) % 2 != 0) = true := by simp [hpar]
      rw [if_neg hpar]
      clear hpar
      go_enter Try.func63, Try.ntmps63
      go_wp2_with fail
      refine (C1.out _).mono ?_
      rintro e w1 ⟨rfl, hb⟩
      have c1 := S.out _ hb
      go_wp2_with fail
      refine (C2.out _).mono ?_
      rintro e w2 ⟨rfl, hb2⟩
      have b2 := (below1 w _).trans ((hb.trans (hb2.mono hb.size)).mono (by simp))
      clear hb hb2 c1
      go_wp2
      go_ret2
      exact ⟨rfl, b2⟩

set_option maxRecDepth 100000 in
set_option maxHeartbeats 400000 in
theorem sSignOf_any (p : Nat → Nat) (hp : ∀ i, p i < 256) (n : Int) (w : World) :
    Calls Try.prog 62 #[.agg (av p), .int .i64 n] w fun e w' => e = .returned (signR p n) ∧ Below w.heap.size w w' := by
  have C1 := hide fun w => sPerm_any p hp n w
  clear hp
  rcases h1 : permB p n with _ | _
  · rw [h1] at C1
    have hr : signR p n = .tuple #[.int .i64 0, .int .i64 1] := by unfold signR; rw [if_neg (by simp [h1])]
    rw [hr]
    clear h1 hr
    go_enter Try.func62, Try.ntmps62
    go_wp2_with fail
    refine (C1.out _).mono ?_
    rintro e w1 ⟨rfl, hb⟩
    go_wp2
    go_ret2
    exact ⟨rfl, (below1 w _).trans (hb.mono (by simp))⟩
  · rw [h1] at C1
    obtain ⟨m, rfl, hpm⟩ := permB_true h1
    have hr : signR p (m : Int) = .tuple #[.int .i64 (if ((m : Int) - (cycs p m).length) % 2 = 0 then 1 else -1), .int .i64 0] := by unfold signR; rw [if_pos h1, Int.toNat_natCast]
    rw [hr]
    clear h1 hr
    obtain ⟨s, hs⟩ : ∃ s : Int, s = if ((m : Int) - (cycs p m).length) % 2 = 0 then 1 else -1 := ⟨_, rfl⟩
    rw [← hs]
    have HS := hide hs; clear hs
    have C2 := hide fun w => sCycles_any p m hpm w
    have hle := cycs_le hpm
    have h16 := hpm.2.1
    clear hpm
    have c1 : ∀ w1 : World, Below (w.alloc (.cells (av p) 28)).heap.size (w.alloc (.cells (av p) 28)) w1 → cellsOf w1 w.heap.size = av p := fun w1 h => (below_cells h (by simp)).trans (cellsOf_heap (heap_at _ _ _ rfl))
    have S := hide c1; clear c1
    go_enter Try.func62, Try.ntmps62
    go_wp2_with fail
    refine (C1.out _).mono ?_
    rintro e w1 ⟨rfl, hb⟩
    have c1 := S.out _ hb
    go_wp2_with fail
    refine (C2.out _).mono ?_
    rintro e w2 ⟨v, rfl, hb2, ho⟩
    obtain ⟨A, c, rfl⟩ := ho.form
    have b2 := (below1 w _).trans ((hb.trans (hb2.mono hb.size)).mono (by simp))
    clear hb hb2 c1 ho C2 C1
    go_wp2
    go_ret2
    have hv : 1 - 2 * (((m : Int) - ((cycs p m).length : Int)) % 2) = s := by rw [HS.out]; split <;> omega
    refine ⟨?_, b2⟩
    show Ending.returned (.tuple #[.int .i64 (1 - 2 * (((m : Int) - ((cycs p m).length : Int)) % 2)), .int .i64 0]) = _
    rw [hv]

theorem signR_eq (p : Nat → Nat) (n : Int) : ∃ a c : Int, signR p n = .tuple #[.int .i64 a, .int .i64 c] := by
  unfold signR; split
  · exact ⟨_, _, rfl⟩
  · exact ⟨_, _, rfl⟩

-- left out here: a law of another seat

end Go.Proofs.Ytgomfphdgekniaa
