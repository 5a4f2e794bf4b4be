/- OrderOf of the model; the walk of FnExactOrderOf -/
import Derived.Test.YtlgallkddhfdaaaOrd
import Derived.Test.YtlgallkddhfdaaaCom
import Derived.Test.YtlgallkddhfdaaaTyp
namespace Go.Proofs.Ytlgallkddhfdaaa
open Go.RowKit

theorem lcms_sortD (l : List Nat) : lcms (sortD l) = lcms l := by
  refine Nat.dvd_antisymm ((lcms_dvd _ _).2 fun x hx => (lcms_dvd l _).1 (Nat.dvd_refl _) x ((sortD_perm l).mem_iff.1 hx)) ((lcms_dvd _ _).2 fun x hx => (lcms_dvd (sortD l) _).1 (Nat.dvd_refl _) x ((sortD_perm l).mem_iff.2 hx))
theorem own1_form {B : Nat} {w : World} {v : Value} {l : List Nat} (h : Own1 B w v l) : ∃ A c, v = .slice A l.length c := by
  obtain ⟨A, c, e⟩ := own_slice h
  exact ⟨A, c, e⟩

set_option maxRecDepth 100000 in
set_option maxHeartbeats 400000 in
theorem sOrderOf_any (p : Nat → Nat) (hp : ∀ i, p i < 256) (n : Int) (w : World) :
    Calls Try.prog 33 #[.agg (av p), .int .i64 n] w fun e w' => e = .returned (ordR p n) ∧ Below w.heap.size w w' := by
  have C1 := hide fun w => sPerm_any p hp n w
  clear hp
  rcases h1 : permB p n with _ | _
  · rw [h1] at C1
    have hr : ordR p n = .tuple #[.int .i64 0, .int .i64 1] := by unfold ordR; rw [if_neg (by simp [h1])]
    rw [hr]
    clear h1 hr
    go_enter Try.func33, Try.ntmps33
    go_wp2_with fail
    refine (C1.out _).mono ?_
    rintro e w1 ⟨rfl, hb⟩
    go_wp2
    go_ret2
    exact ⟨rfl, (below1 w _).trans (hb.mono (by simp))⟩
  · rw [h1] at C1
    obtain ⟨m, rfl, hpm⟩ := permB_true h1
    have hr : ordR p (m : Int) = .tuple #[.int .i64 (lcms (lens p m)), .int .i64 0] := by unfold ordR; rw [if_pos h1, Int.toNat_natCast]
    rw [hr]
    clear h1 hr
    have C2 := hide fun w => sType_any p m hpm w
    have hbij := hpm.2.2.1
    have h16 := hpm.2.1
    have hs1 : ∀ l ∈ sortD (lens p m), 1 ≤ l ∧ l ≤ 16 := fun l hl => by have := lens_pos hbij h16 ((sortD_perm _).mem_iff.1 hl); omega
    have hs2 : lcms (sortD (lens p m)) ≤ 65536 := by rw [lcms_sortD]; exact lcms_le hbij h16
    have hs3 : 0 < lcms (sortD (lens p m)) := by rw [lcms_sortD]; exact lcms_pos hbij h16
    have hs4 : (sortD (lens p m)).length ≤ 16 := by rw [(sortD_perm _).length_eq]; unfold lens; rw [List.length_map]; exact cycs_len_le hbij h16 (Nat.le_refl m)
    rw [← lcms_sortD]
    generalize sortD (lens p m) = S at *
    have C3 := hide fun (A : Option Addr) (c B : Nat) (w : World) (h : Own1 B w (.slice A S.length c) S) => common_any S A c B hs1 hs2 hs3 hs4 w h
    clear hpm hbij h16 hs1 hs2 hs3
    go_enter Try.func33, Try.ntmps33
    go_wp2_with fail
    refine (C1.out _).mono ?_
    rintro e w1 ⟨rfl, hb⟩
    have c1 : cellsOf w1 w.heap.size = av p := (below_cells hb (by simp)).trans (cellsOf_heap (heap_at _ _ _ rfl))
    have b1 := (below1 w _).trans (hb.mono (by simp))
    clear hb
    go_wp2_with fail
    refine (C2.out _).mono ?_
    rintro e w2 ⟨v, rfl, hb2, ho⟩
    obtain ⟨A, c, rfl⟩ := own1_form ho
    have O := hide ho; clear ho
    have b2 := b1.trans (hb2.mono b1.size)
    clear hb2 b1 c1
    go_wp2_with fail
    refine (C3.out _ _ _ _ O.out).mono ?_
    rintro e w3 ⟨rfl, hb3⟩
    have b3 := b2.trans (hb3.mono b2.size)
    clear hb3 b2
    go_wp2
    go_ret2
    exact ⟨rfl, b3⟩

theorem ordR_eq (p : Nat → Nat) (n : Int) : ∃ a c : Int, ordR p n = .tuple #[.int .i64 a, .int .i64 c] := by
  unfold ordR; split
  · exact ⟨_, _, rfl⟩
  · exact ⟨_, _, rfl⟩

set_option maxRecDepth 100000 in
set_option maxHeartbeats 400000 in
theorem fnExactOrderOf_walk (f : Nat → Nat) (hf : ∀ i, f i < 256) (n : Int) (_hn : -9223372036854775808 ≤ n ∧ n ≤ 9223372036854775807) (w : World) :
    Calls Try.prog 10 #[.agg (av f), .int .i64 n] w fun e w' => e = .returned (.bool true) ∧ Below w.heap.size w w' := by
  clear _hn
  obtain ⟨a, c, hR⟩ := ordR_eq f n
  have c1 := fun w => orderOf_any f hf n w
  have c2 := fun w => sOrderOf_any f hf n w
  rw [hR] at c1 c2
  have C1 := hide c1; clear c1
  have C2 := hide c2; clear c2
  clear hR hf
  have hne : (c != c) = false := by simp
  have hna : (a != a) = false := by simp
  go_enter Try.func10, Try.ntmps10
  go_wp2_with fail
  refine (toPlaces_any f _).mono ?_
  rintro e w1 ⟨rfl, h1⟩
  go_wp2_with fail
  refine (C2.out _).mono ?_
  rintro e w2 ⟨rfl, h2⟩
  have b2 := (below1 w (.cells (av f) 24)).trans ((h1.trans (h2.mono h1.size)).mono (by simp))
  have s2 := b2.size
  have g2 : cellsOf w2 w.heap.size = av f := (below_cells (h1.trans (h2.mono h1.size)) (by simp)).trans (cellsOf_heap (heap_at _ _ _ rfl))
  clear h1 h2
  go_wp2_with fail
  refine (toPlaces_any f _).mono ?_
  rintro e w3 ⟨rfl, h3⟩
  go_wp2_with fail
  refine (C1.out _).mono ?_
  rintro e w4 ⟨rfl, h4⟩
  have b4 := b2.trans ((h3.trans (h4.mono h3.size)).mono s2)
  clear h3 h4 b2 g2 s2
  go_wp2
  go_ret
  exact ⟨rfl, b4⟩
end Go.Proofs.Ytlgallkddhfdaaa
