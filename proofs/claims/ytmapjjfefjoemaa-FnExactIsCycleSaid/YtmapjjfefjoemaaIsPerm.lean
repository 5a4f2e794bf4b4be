/- impl.IsPermutation -/
import Derived.Test.YtmapjjfefjoemaaBase
import Derived.Test.YtmapjjfefjoemaaPerm
import Derived.BigQuiet
import Derived.Deep.QuietTactic
namespace Go.Proofs.Ytmapjjfefjoemaa
open Go.RowKit

/-- a permutation of n numbers, as the document has it -/
def PermN (f : Nat → Nat) (n : Nat) : Prop := 1 ≤ n ∧ n ≤ 16 ∧ Bij f n ∧ ∀ i, n ≤ i → i < 16 → f i = 0
open Classical in
@[irreducible] noncomputable def permB (f : Nat → Nat) (n : Int) : Bool := decide (0 ≤ n ∧ PermN f n.toNat)
theorem permB_yes {f : Nat → Nat} {m : Nat} (h : PermN f m) : permB f (m : Int) = true := by unfold permB; simpa using h
theorem permB_no {f : Nat → Nat} {m : Nat} (h : ¬ PermN f m) : permB f (m : Int) = false := by unfold permB; simpa using h
theorem permB_out {f : Nat → Nat} {n : Int} (h : ¬ (1 ≤ n ∧ n ≤ 16)) : permB f n = false := by
  unfold permB; simp only [decide_eq_false_iff_not]
  rintro ⟨h0, h1, h2, _⟩
  omega
theorem permB_true {f : Nat → Nat} {n : Int} (h : permB f n = true) : ∃ m : Nat, n = (m : Int) ∧ PermN f m := by
  unfold permB at h; simp only [decide_eq_true_eq] at h
  exact ⟨n.toNat, by omega, h.2⟩

/-- what the first k entries have met -/
@[irreducible] def metk (f : Nat → Nat) (k : Nat) : Nat → Bool := fun y => (List.range k).any fun i => f i == y
theorem metk_iff (f : Nat → Nat) (k y : Nat) : metk f k y = true ↔ ∃ i, i < k ∧ f i = y := by unfold metk; simp
theorem metk_zero (f : Nat → Nat) : metk f 0 = fun _ => false := by unfold metk; rfl
theorem metk_step (f : Nat → Nat) (k : Nat) : mset (metk f k) (f k) = metk f (k + 1) := by
  funext y
  rw [Bool.eq_iff_iff]
  simp only [mset, Bool.or_eq_true, beq_iff_eq, metk_iff]
  constructor
  · rintro (rfl | ⟨i, hi, rfl⟩)
    · exact ⟨k, by omega, rfl⟩
    · exact ⟨i, by omega, rfl⟩
  · rintro ⟨i, hi, rfl⟩
    by_cases c : i = k
    · subst c; exact .inl rfl
    · exact .inr ⟨i, by omega, rfl⟩


theorem dart_yes (n : Int) (w : World) (h1 : 1 ≤ n) (h2 : n ≤ 16) : Calls Try.prog 88 #[.int .i64 n] w fun e w' => e = .returned (.bool true) ∧ w = w' := by
  go_enter Try.func88, Try.ntmps88
  go_wp2
  go_ret
  exact ⟨by simp, rfl⟩
theorem dart_no (n : Int) (w : World) (h : ¬ (1 ≤ n ∧ n ≤ 16)) : Calls Try.prog 88 #[.int .i64 n] w fun e w' => e = .returned (.bool false) ∧ w = w' := by
  by_cases h1 : 1 ≤ n
  · have h2 : ¬ n ≤ 16 := fun c => h ⟨h1, c⟩
    clear h
    go_enter Try.func88, Try.ntmps88
    go_wp2
    go_ret
    exact ⟨by simp, rfl⟩
  · clear h
    go_enter Try.func88, Try.ntmps88
    go_wp2
    go_ret
    exact ⟨by simp, rfl⟩

set_option maxRecDepth 100000 in
set_option maxHeartbeats 400000 in
theorem isPerm_any (f : Nat → Nat) (hf : ∀ i, f i < 256) (n : Int) (w : World) : Calls Try.prog 86 #[.agg (av f), .int .i64 n] w fun e w' => e = .returned (.bool (permB f n)) ∧ Below w.heap.size w w' := by
  by_cases hn : 1 ≤ n ∧ n ≤ 16
  · obtain ⟨m, rfl⟩ := Int.eq_ofNat_of_zero_le (show 0 ≤ n by omega)
    have hm1 : 1 ≤ m := by omega
    have hm2 : m ≤ 16 := by omega
    clear hn
    have hsl := slice_hi w.heap.size m hm2
    obtain ⟨o, ho, hsr⟩ := slice_lo w.heap.size m hm2
    have HO := hide ho; clear ho
    go_enter Try.func86, Try.ntmps86
    go_wp2_with (go_at_call 88; refine (dart_yes _ _ (by omega) (by omega)).mono ?_; rintro e w' ⟨rfl, rfl⟩)
    clear hsl
    rw [← bv_false]
    go_loopw [16] (fun i wr => ∃ k : Nat, k ≤ m ∧ i = .int .i64 k ∧ wr = (w.alloc (.cells (av f) 29)).alloc (.cells (bv (metk f k)) 85) ∧ (∀ i, i < k → f i < m) ∧ (∀ i j, i < j → j < k → f i ≠ f j))
      (fun i _ => m - (intOf i).toNat)
    case atStart => exact ⟨0, by omega, rfl, by rw [metk_zero], by omega, by omega⟩
    case round =>
      obtain ⟨k, hk, rfl, rfl, hb, hd⟩ := hrel
      have HB := hide hb; clear hb
      have HD := hide hd; clear hd
      by_cases hlt : k < m
      · have h1 := av_get f (i := k) (by omega)
        have h256 := hf k
        have HF := hide hf; clear hf
        by_cases hfm : f k < m
        · have h2 := bv_get (metk f k) (i := f k) (by omega)
          rcases hmk : metk f k (f k) with _ | _
          · rw [hmk] at h2
            have h3 := bv_set (metk f k) (f k)
            rw [metk_step] at h3
            have HM := hide hmk; clear hmk
            go_wp2
            go_roundw
            case rel =>
              refine ⟨k + 1, by omega, by go_num, rfl, fun i hi => ?_, fun i j hij hj e => ?_⟩
              · by_cases c : i = k
                · subst c; exact hfm
                · exact HB.out i (by omega)
              · by_cases c : j = k
                · subst c
                  have : metk f j (f j) = true := (metk_iff f j (f j)).2 ⟨i, hij, e⟩
                  rw [HM.out] at this; cases this
                · exact HD.out i j hij (by omega) e
            case measure => simp [intOf]; omega
          · rw [hmk] at h2
            have HM := hide hmk; clear hmk
            have hno : ¬ PermN f m := by
              rintro ⟨_, _, hbj, _⟩
              obtain ⟨i, hi, e⟩ := (metk_iff f k (f k)).1 HM.out
              have := hbj.2 i k (by omega) (by omega) e
              omega
            have HN := hide (permB_no hno); clear hno
            go_wp2
            go_ret
            exact ⟨by rw [HN.out]; rfl, ((Below.refl _ _).alloc (Nat.le_refl _) _).alloc (by simp) _⟩
        · have hno : ¬ PermN f m := by
            rintro ⟨_, _, hbj, _⟩
            exact hfm (hbj.1 k (by omega))
          have hd : decide (m ≤ f k) = true := by simp; omega
          have HN := hide (permB_no hno); clear hno
          go_wp2
          go_ret
          exact ⟨by rw [HN.out]; rfl, ((Below.refl _ _).alloc (Nat.le_refl _) _).alloc (by simp) _⟩
      · obtain rfl : k = m := by omega
        clear hlt hk
        go_wp2
        clear hsr
        go_loopw [35] (fun i wr => ∃ j : Nat, j ≤ 16 - k ∧ i = .int .i64 j ∧ wr = (w.alloc (.cells (av f) 29)).alloc (.cells (bv (metk f k)) 85) ∧ (∀ i, i < j → f (k + i) = 0))
          (fun i _ => 16 - k - (intOf i).toNat)
        case atStart => exact ⟨0, by omega, rfl, rfl, by omega⟩
        case round =>
          obtain ⟨j, hj, rfl, rfl, hz⟩ := hrel
          have HZ := hide hz; clear hz
          by_cases hlt : j < 16 - k
          · have hk16 : ¬ k = 16 := by omega
            obtain rfl : k = o := (HO.out (by omega)).symm
            have h1 := av_get f (i := k + j) (by omega)
            have h256 := hf (k + j)
            clear hf
            have hw : ((16 - k : Nat) : Int) = 16 - (k : Int) := by omega
            by_cases hf0 : f (k + j) = 0
            · have h0 : ((f (k + j) : Int) != 0) = false := by simp [hf0]
              have H0 := hide hf0; clear hf0
              go_wp2
              go_roundw
              case rel =>
                refine ⟨j + 1, by omega, by go_num, by first | rfl | trivial, fun i hi => ?_⟩
                by_cases c : i = j
                · subst c; exact H0.out
                · exact HZ.out i (by omega)
              case measure => simp [intOf]; omega
            · have h0 : ((f (k + j) : Int) != 0) = true := by simp [hf0]
              have hno : ¬ PermN f k := by
                rintro ⟨_, _, _, hz0⟩
                exact hf0 (hz0 (k + j) (by omega) (by omega))
              have HN := hide (permB_no hno); clear hno hf0
              go_wp2
              go_ret
              exact ⟨by rw [HN.out]; rfl, ((Below.refl _ _).alloc (Nat.le_refl _) _).alloc (by simp) _⟩
          · obtain rfl : j = 16 - k := by omega
            have hyes : PermN f k := by
              refine ⟨hm1, hm2, ⟨HB.out, fun x y hx hy e => ?_⟩, fun i h1 h2 => ?_⟩
              · rcases Nat.lt_trichotomy x y with c | c | c
                · exact absurd e (HD.out x y c hy)
                · exact c
                · exact absurd e.symm (HD.out y x c hx)
              · have := HZ.out (i - k) (by omega)
                rwa [show k + (i - k) = i from by omega] at this
            have HN := hide (permB_yes hyes); clear hyes
            go_wp2
            go_ret
            exact ⟨by rw [HN.out]; rfl, ((Below.refl _ _).alloc (Nat.le_refl _) _).alloc (by simp) _⟩
  · rw [permB_out hn]
    go_enter Try.func86, Try.ntmps86
    go_wp2_with (go_at_call 88; refine (dart_no _ _ hn).mono ?_; rintro e w' ⟨rfl, rfl⟩)
    go_ret
    exact ⟨rfl, (Below.refl _ _).alloc (Nat.le_refl _) _⟩

end Go.Proofs.Ytmapjjfefjoemaa
