/- countCycles, SignOf of the program and of the model; the walk of FnExactSignOf -/
import Derived.Test.YtlgallkddhfdaaaSCyc
import Derived.Test.YtlgallkddhfdaaaSPerm
import Derived.Test.YtlgallkddhfdaaaToPl
namespace Go.Proofs.Ytlgallkddhfdaaa
open Go.RowKit

theorem tuple2 {a b c d : Value} (h1 : a = c) (h2 : b = d) : Ending.returned (.tuple #[a, b]) = .returned (.tuple #[c, d]) := by rw [h1, h2]
theorem cycs_le {p : Nat → Nat} {m : Nat} (hp : PermN p m) : (cycs p m).length ≤ m := by
  rw [cycs_length hp.2.2.1 hp.2.1]; exact orb_le p m

set_option maxRecDepth 100000 in
set_option maxHeartbeats 400000 in
theorem countCycles_any (p : Nat → Nat) (m : Nat) (hp : PermN p m) (w : World) :
    Calls Try.prog 66 #[.agg (av p), .int .i64 m] w fun e w' => e = .returned (.int .i64 (cycs p m).length) ∧ Below w.heap.size w w' := by
  have C := hide fun w => cycleList_any p m hp w
  have hle := cycs_le hp
  have h16 := hp.2.1
  clear hp
  go_enter Try.func66, Try.ntmps66
  go_wp2_with fail
  refine (C.out _).mono ?_
  rintro e w1 ⟨v, rfl, hb, ho⟩
  obtain ⟨A, c, rfl⟩ := ho.form
  clear ho C
  go_wp2
  go_ret
  exact ⟨rfl, (below1 w _).trans (hb.mono (by simp))⟩

noncomputable def signR (p : Nat → Nat) (n : Int) : Value :=
  if permB p n = true then .tuple #[.int .i64 (if (n - (cycs p n.toNat).length) % 2 = 0 then 1 else -1), .int .i64 0] else .tuple #[.int .i64 0, .int .i64 1]

set_option maxRecDepth 100000 in
set_option maxHeartbeats 400000 in
theorem signOf_any (p : Nat → Nat) (hp : ∀ i, p i < 256) (n : Int) (w : World) :
    Calls Try.prog 31 #[.agg (av p), .int .i64 n] w fun e w' => e = .returned (signR p n) ∧ Below w.heap.size w w' := by
  have C1 := hide fun w => isPerm_any p hp n w
  clear hp
  rcases h1 : permB p n with _ | _
  · rw [h1] at C1
    have hr : signR p n = .tuple #[.int .i64 0, .int .i64 1] := by unfold signR; rw [if_neg (by simp [h1])]
    rw [hr]
    clear h1 hr
    go_enter Try.func31, Try.ntmps31
    go_wp2_with fail
    refine (C1.out _).mono ?_
    rintro e w1 ⟨rfl, hb⟩
    go_wp2
    go_ret2
    exact ⟨rfl, (below1 w _).trans (hb.mono (by simp))⟩
  · rw [h1] at C1
    obtain ⟨m, rfl, hpm⟩ := permB_true h1
    have hr : signR p (m : Int) = .tuple #[.int .i64 (if ((m : Int) - (cycs p m).length) % 2 = 0 then 1 else -1), .int .i64 0] := by unfold signR; rw [if_pos h1, Int.toNat_natCast]
    rw [hr]
    clear h1 hr
    have C2 := hide fun w => countCycles_any p m hpm w
    have hle := cycs_le hpm
    have h16 := hpm.2.1
    clear hpm
    generalize (cycs p m).length = L at *
    have s : ∀ w1 : World, Below (w.alloc (.cells (av p) 25)).heap.size (w.alloc (.cells (av p) 25)) w1 → cellsOf w1 w.heap.size = av p := fun w1 h => (below_cells h (by simp)).trans (cellsOf_heap (heap_at _ _ _ rfl))
    have S := hide s; clear s
    by_cases hpar : ((m : Int) - (L : Int)) % 2 = 0
    · have hne : (((m : Int) - (L : Int)) % 2 != 0) = false := by simp [hpar]
      rw [if_pos hpar]
      clear hpar
      go_enter Try.func31, Try.ntmps31
      go_wp2_with fail
      refine (C1.out _).mono ?_
      rintro e w1 ⟨rfl, hb⟩
      have c1 := S.out _ hb
      go_wp2_with fail
      refine (C2.out _).mono ?_
      rintro e w2 ⟨rfl, hb2⟩
      have b2 := (below1 w _).trans ((hb.trans (hb2.mono hb.size)).mono (by simp))
      clear hb hb2 c1
      go_wp2
      go_ret2
      exact ⟨rfl, b2⟩
    · have hne : (((m : Int) - (L : Int)) % 2 != 0) = true := by simp [hpar]
      rw [if_neg hpar]
      clear hpar
      go_enter Try.func31, Try.ntmps31
      go_wp2_with fail
      refine (C1.out _).mono ?_
      rintro e w1 ⟨rfl, hb⟩
      have c1 := S.out _ hb
      go_wp2_with fail
      refine (C2.out _).mono ?_
      rintro e w2 ⟨rfl, hb2⟩
      have b2 := (below1 w _).trans ((hb.trans (hb2.mono hb.size)).mono (by simp))
      clear hb hb2 c1
      go_wp2
      go_ret2
      exact ⟨rfl, b2⟩

set_option maxRecDepth 100000 in
set_option maxHeartbeats 400000 in
theorem sSignOf_any (p : Nat → Nat) (hp : ∀ i, p i < 256) (n : Int) (w : World) :
    Calls Try.prog 34 #[.agg (av p), .int .i64 n] w fun e w' => e = .returned (signR p n) ∧ Below w.heap.size w w' := by
  have C1 := hide fun w => sPerm_any p hp n w
  clear hp
  rcases h1 : permB p n with _ | _
  · rw [h1] at C1
    have hr : signR p n = .tuple #[.int .i64 0, .int .i64 1] := by unfold signR; rw [if_neg (by simp [h1])]
    rw [hr]
    clear h1 hr
    go_enter Try.func34, Try.ntmps34
    go_wp2_with fail
    refine (C1.out _).mono ?_
    rintro e w1 ⟨rfl, hb⟩
    go_wp2
    go_ret2
    exact ⟨rfl, (below1 w _).trans (hb.mono (by simp))⟩
  · rw [h1] at C1
    obtain ⟨m, rfl, hpm⟩ := permB_true h1
    have hr : signR p (m : Int) = .tuple #[.int .i64 (if ((m : Int) - (cycs p m).length) % 2 = 0 then 1 else -1), .int .i64 0] := by unfold signR; rw [if_pos h1, Int.toNat_natCast]
    rw [hr]
    clear h1 hr
    obtain ⟨s, hs⟩ : ∃ s : Int, s = if ((m : Int) - (cycs p m).length) % 2 = 0 then 1 else -1 := ⟨_, rfl⟩
    rw [← hs]
    have HS := hide hs; clear hs
    have C2 := hide fun w => sCycles_any p m hpm w
    have hle := cycs_le hpm
    have h16 := hpm.2.1
    clear hpm
    have c1 : ∀ w1 : World, Below (w.alloc (.cells (av p) 25)).heap.size (w.alloc (.cells (av p) 25)) w1 → cellsOf w1 w.heap.size = av p := fun w1 h => (below_cells h (by simp)).trans (cellsOf_heap (heap_at _ _ _ rfl))
    have S := hide c1; clear c1
    go_enter Try.func34, Try.ntmps34
    go_wp2_with fail
    refine (C1.out _).mono ?_
    rintro e w1 ⟨rfl, hb⟩
    have c1 := S.out _ hb
    go_wp2_with fail
    refine (C2.out _).mono ?_
    rintro e w2 ⟨v, rfl, hb2, ho⟩
    obtain ⟨A, c, rfl⟩ := ho.form
    have b2 := (below1 w _).trans ((hb.trans (hb2.mono hb.size)).mono (by simp))
    clear hb hb2 c1 ho C2 C1
    go_wp2
    go_ret2
    have hv : 1 - 2 * (((m : Int) - ((cycs p m).length : Int)) % 2) = s := by rw [HS.out]; split <;> omega
    refine ⟨?_, b2⟩
    show Ending.returned (.tuple #[.int .i64 (1 - 2 * (((m : Int) - ((cycs p m).length : Int)) % 2)), .int .i64 0]) = _
    rw [hv]

theorem signR_eq (p : Nat → Nat) (n : Int) : ∃ a c : Int, signR p n = .tuple #[.int .i64 a, .int .i64 c] := by
  unfold signR; split
  · exact ⟨_, _, rfl⟩
  · exact ⟨_, _, rfl⟩

set_option maxRecDepth 100000 in
set_option maxHeartbeats 400000 in
theorem fnExactSignOf_walk (f : Nat → Nat) (hf : ∀ i, f i < 256) (n : Int) (_hn : -9223372036854775808 ≤ n ∧ n ≤ 9223372036854775807) (w : World) :
    Calls Try.prog 9 #[.agg (av f), .int .i64 n] w fun e w' => e = .returned (.bool true) ∧ Below w.heap.size w w' := by
  clear _hn
  obtain ⟨a, c, hR⟩ := signR_eq f n
  have c1 := fun w => signOf_any f hf n w
  have c2 := fun w => sSignOf_any f hf n w
  rw [hR] at c1 c2
  have C1 := hide c1; clear c1
  have C2 := hide c2; clear c2
  clear hR hf
  have hne : (c != c) = false := by simp
  have hna : (a != a) = false := by simp
  go_enter Try.func9, Try.ntmps9
  go_wp2_with fail
  refine (toPlaces_any f _).mono ?_
  rintro e w1 ⟨rfl, h1⟩
  go_wp2_with fail
  refine (C2.out _).mono ?_
  rintro e w2 ⟨rfl, h2⟩
  have b2 := (below1 w (.cells (av f) 24)).trans ((h1.trans (h2.mono h1.size)).mono (by simp))
  have s2 := b2.size
  have g2 : cellsOf w2 w.heap.size = av f := (below_cells (h1.trans (h2.mono h1.size)) (by simp)).trans (cellsOf_heap (heap_at _ _ _ rfl))
  clear h1 h2
  go_wp2_with fail
  refine (toPlaces_any f _).mono ?_
  rintro e w3 ⟨rfl, h3⟩
  go_wp2_with fail
  refine (C1.out _).mono ?_
  rintro e w4 ⟨rfl, h4⟩
  have b4 := b2.trans ((h3.trans (h4.mono h3.size)).mono s2)
  clear h3 h4 b2 g2 s2
  go_wp2
  go_ret
  exact ⟨rfl, b4⟩

end Go.Proofs.Ytlgallkddhfdaaa
