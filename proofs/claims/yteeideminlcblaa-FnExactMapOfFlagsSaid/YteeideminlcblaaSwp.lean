/- impl.areSwaps, spec.l07Pairs, spec.l07Both -/
import Derived.Test.YteeideminlcblaaFlg
import Derived.Test.YteeideminlcblaaHS
import Derived.Test.YteeideminlcblaaWr
import Derived.Test.YteeideminlcblaaSame
namespace Go.Proofs.Yteeideminlcblaa
open Go.RowKit

/-- a list exchanges pairs of different ones of n flags, and is 0 behind -/
def prP (f : Nat → Nat) (n : Nat) : Prop := (∀ x, x < n → f x < n ∧ f x ≠ x ∧ f (f x) = x) ∧ ∀ x, n ≤ x → x < 32 → f x = 0
open Classical in
noncomputable def prB (f : Nat → Nat) (n : Nat) : Bool := decide (prP f n)
theorem prB_yes {f : Nat → Nat} {n : Nat} (h : prP f n) : prB f n = true := by unfold prB; simp [h]
theorem prB_no {f : Nat → Nat} {n : Nat} (h : ¬ prP f n) : prB f n = false := by unfold prB; simp [h]
theorem prB_iff {f : Nat → Nat} {n : Nat} : prB f n = true ↔ prP f n := by unfold prB; simp

theorem sliceQ_hi (b m : Nat) (h : m ≤ 32) (w : World) :
    (Instr.sliceAt 48 (.pointer (some ⟨b, 0, none⟩)) none (some (.int .i64 m)) none).run Try.prog w = .ok (.slice (some ⟨b, 0, none⟩) m 32) w := by
  have e : Try.prog.arrayLen 48 = 32 := by kernel_rfl
  have := run_sliceAt_array_h (P := Try.prog) w 48 ⟨b, 0, none⟩ (by kernel_rfl) .i64 m (by omega) (by rw [e]; omega)
  rw [this, e]
  simp only [go_sem]
  simp
theorem sliceQ_lo (b m : Nat) (h : m ≤ 32) : ∃ o, (m < 32 → o = m) ∧ ∀ w : World,
    (Instr.sliceAt 48 (.pointer (some ⟨b, 0, none⟩)) (some (.int .i64 m)) none none).run Try.prog w = .ok (.slice (some ⟨b, o, none⟩) (32 - m) (32 - m)) w := by
  have e : Try.prog.arrayLen 48 = 32 := by kernel_rfl
  refine ⟨if m = 32 then 0 else m, fun hlt => by rw [if_neg (by omega)], fun w => ?_⟩
  have := run_sliceAt_array_l (P := Try.prog) w 48 ⟨b, 0, none⟩ (by kernel_rfl) .i64 m (by omega) (by rw [e]; omega)
  rw [this, e]
  simp only [go_sem]
  by_cases c : m = 32
  · subst c; simp
  · simp [c]; omega

set_option maxRecDepth 100000 in
set_option maxHeartbeats 2000000 in
theorem areSwaps_any (f : Nat → Nat) (hf : ∀ i, f i < 256) (n : Nat) (hn : n ≤ 32) (w : World) :
    Calls Try.prog 92 #[.agg (qv f), .int .i64 n] w fun e w' => e = .returned (.bool (prB f n)) ∧ Below w.heap.size w w' := by
  obtain ⟨R, hR⟩ : ∃ R, R = prB f n := ⟨_, rfl⟩
  rw [← hR]
  have hyes : prP f n → R = true := fun h => by rw [hR]; exact prB_yes h
  have hno : ¬ prP f n → R = false := fun h => by rw [hR]; exact prB_no h
  have HY := hide hyes; clear hyes
  have HN := hide hno; clear hno
  clear hR
  have HH0 := (Holds.start w).blk (qv f) 48 w.heap.size rfl
  have hsl := sliceQ_hi w.heap.size n hn
  obtain ⟨o, ho, hsr⟩ := sliceQ_lo w.heap.size n hn
  have HO := hide ho; clear ho
  have HSR := hide hsr; clear hsr
  go_enter Try.func92, Try.ntmps92
  go_wp2
  clear hsl
  generalize hG : w.heap.size = G at *
  have HG := hide hG; clear hG
  go_loopw [12] (fun i wr => ∃ k : Nat, k ≤ n ∧ i = .int .i64 k ∧ Holds w wr [pBlk G (qv f) 48] ∧ ∀ x, x < k → f x < n ∧ f x ≠ x ∧ f (f x) = x) (fun i _ => n - (intOf i).toNat)
  case atStart => exact ⟨0, by omega, rfl, HH0, fun x hx => by omega⟩
  case round =>
    clear HH0
    obtain ⟨k, hk, rfl, hH, hall⟩ := hrel
    have HA := hide hall; clear hall
    by_cases hlt : k < n
    · have hlti : (k : Int) < n := by omega
      have c1 := hH.cell 0 rfl (qv_get f (i := k) (by omega))
      have h256 := hf k
      have hw : IntKind.i64.wrap ((f k : Nat) : Int) = ((f k : Nat) : Int) := wr64k (by omega) (by omega)
      by_cases h1 : f k < n
      · have d1 : decide ((n : Int) ≤ ((f k : Nat) : Int)) = false := by simp; omega
        by_cases h2 : f k = k
        · have hr := HN.out fun h => (h.1 k hlt).2.1 h2
          have d2 : (((f k : Nat) : Int) == (k : Int)) = true := by simp [h2]
          subst hr
          clear h2
          go_wp2
          go_ret
          exact ⟨rfl, hH.low⟩
        · have d2 : (((f k : Nat) : Int) == (k : Int)) = false := by simp; omega
          have c2 := hH.cell 0 rfl (qv_get f (i := f k) (by omega))
          have hi2 : ((f k : Nat) : Int) < 32 := by omega
          have h256' := hf (f k)
          have hw2 : IntKind.i64.wrap ((f (f k) : Nat) : Int) = ((f (f k) : Nat) : Int) := wr64k (by omega) (by omega)
          by_cases h3 : f (f k) = k
          · have d3 : (((f (f k) : Nat) : Int) != (k : Int)) = false := by simp [h3]
            have HT := hide (And.intro h1 (And.intro h2 h3)); clear h3
            go_wp2
            go_roundw
            case rel => exact ⟨k + 1, by omega, by go_num, hH, fun x hx => by
              by_cases c : x = k
              · subst c; exact HT.out
              · exact HA.out x (by omega)⟩
            case measure => simp [intOf]; omega
          · have d3 : (((f (f k) : Nat) : Int) != (k : Int)) = true := by simp; omega
            have hr := HN.out fun h => h3 (h.1 k hlt).2.2
            subst hr
            clear h2 h3
            go_wp2
            go_ret
            exact ⟨rfl, hH.low⟩
      · have d1 : decide ((n : Int) ≤ ((f k : Nat) : Int)) = true := by simp; omega
        have hr := HN.out fun h => h1 (h.1 k hlt).1
        subst hr
        go_wp2
        go_ret
        exact ⟨rfl, hH.low⟩
    · obtain rfl : k = n := by omega
      have hsr := HSR.out
      have hw : ((32 - k : Nat) : Int) = 32 - (k : Int) := by omega
      clear hlt hk HSR
      go_wp2
      clear hsr
      go_loopw [39] (fun i wr => ∃ j : Nat, j ≤ 32 - k ∧ i = .int .i64 j ∧ Holds w wr [pBlk G (qv f) 48] ∧ (∀ i, i < j → f (k + i) = 0)) (fun i _ => 32 - k - (intOf i).toNat)
      case atStart => exact ⟨0, by omega, rfl, hH, by omega⟩
      case round =>
        clear hH
        obtain ⟨j, hj, rfl, hH, hz⟩ := hrel
        have HZ := hide hz; clear hz
        by_cases hlt : j < 32 - k
        · have hk16 : ¬ k = 32 := by omega
          obtain rfl : k = o := (HO.out (by omega)).symm
          have c1 := hH.cell 0 rfl (qv_get f (i := k + j) (by omega))
          have hji : (j : Int) < 32 - (k : Int) := by omega
          by_cases hf0 : f (k + j) = 0
          · have d0 : ((f (k + j) : Int) != 0) = false := by simp [hf0]
            have H0 := hide hf0; clear hf0
            go_wp2
            go_roundw
            case rel =>
              refine ⟨j + 1, by omega, by go_num, hH, fun i hi => ?_⟩
              by_cases c : i = j
              · subst c; exact H0.out
              · exact HZ.out i (by omega)
            case measure => simp [intOf]; omega
          · have d0 : ((f (k + j) : Int) != 0) = true := by simp [hf0]
            have hr := HN.out fun h => hf0 (h.2 (k + j) (by omega) (by omega))
            subst hr
            clear hf0
            go_wp2
            go_ret
            exact ⟨rfl, hH.low⟩
        · obtain rfl : j = 32 - k := by omega
          have hr := HY.out ⟨HA.out, fun x h1 h2 => by
            have := HZ.out (x - k) (by omega)
            rwa [show k + (x - k) = x from by omega] at this⟩
          subst hr
          clear hlt hj
          go_wp2
          go_ret
          exact ⟨rfl, hH.low⟩

set_option maxRecDepth 100000 in
set_option maxHeartbeats 2000000 in
theorem sPairs_any (f : Nat → Nat) (hf : ∀ i, f i < 256) (n : Nat) (hn : n ≤ 32) (w : World) :
    Calls Try.prog 89 #[.agg (qv f), .int .i64 n] w fun e w' => e = .returned (.bool (prB f n)) ∧ Below w.heap.size w w' := by
  obtain ⟨R, hR⟩ : ∃ R, R = prB f n := ⟨_, rfl⟩
  rw [← hR]
  have hyes : prP f n → R = true := fun h => by rw [hR]; exact prB_yes h
  have hno : ¬ prP f n → R = false := fun h => by rw [hR]; exact prB_no h
  have HY := hide hyes; clear hyes
  have HN := hide hno; clear hno
  clear hR
  have HH0 := (Holds.start w).blk (qv f) 48 w.heap.size rfl
  go_enter Try.func89, Try.ntmps89
  go_wp2
  generalize hG : w.heap.size = G at *
  have HG := hide hG; clear hG
  go_loopw [5] (fun i wr => ∃ k : Nat, k ≤ 32 ∧ i = .int .i64 k ∧ Holds w wr [pBlk G (qv f) 48] ∧ (∀ x, x < k → x < n → f x < n ∧ f x ≠ x ∧ f (f x) = x) ∧ (∀ x, x < k → n ≤ x → f x = 0)) (fun i _ => 32 - (intOf i).toNat)
  case atStart => exact ⟨0, by omega, rfl, HH0, fun x hx => by omega, fun x hx => by omega⟩
  case round =>
    clear HH0
    obtain ⟨k, hk, rfl, hH, hall, hzer⟩ := hrel
    have HA := hide hall; clear hall
    have HZ := hide hzer; clear hzer
    by_cases hlt : k < 32
    · have hlti : (k : Int) < 32 := by omega
      have c1 := hH.cell 0 rfl (qv_get f hlt)
      have h256 := hf k
      have hw : IntKind.i64.wrap ((f k : Nat) : Int) = ((f k : Nat) : Int) := wr64k (by omega) (by omega)
      by_cases hkn : k < n
      · have d0 : decide ((n : Int) ≤ (k : Int)) = false := by simp; omega
        by_cases h1 : f k < n
        · have d1 : decide ((n : Int) ≤ ((f k : Nat) : Int)) = false := by simp; omega
          by_cases h2 : f k = k
          · have hr := HN.out fun h => (h.1 k hkn).2.1 h2
            have d2 : (((f k : Nat) : Int) == (k : Int)) = true := by simp [h2]
            subst hr
            clear h2
            go_wp2
            go_ret
            exact ⟨rfl, hH.low⟩
          · have d2 : (((f k : Nat) : Int) == (k : Int)) = false := by simp; omega
            have c2 := hH.cell 0 rfl (qv_get f (i := f k) (by omega))
            have hi2 : ((f k : Nat) : Int) < 32 := by omega
            have h256' := hf (f k)
            have hw2 : IntKind.i64.wrap ((f (f k) : Nat) : Int) = ((f (f k) : Nat) : Int) := wr64k (by omega) (by omega)
            by_cases h3 : f (f k) = k
            · have d3 : (((f (f k) : Nat) : Int) != (k : Int)) = false := by simp [h3]
              have HT := hide (And.intro h1 (And.intro h2 h3)); clear h3
              go_wp2
              go_roundw
              case rel => exact ⟨k + 1, by omega, by go_num, hH, fun x hx hxn => by
                by_cases c : x = k
                · subst c; exact HT.out
                · exact HA.out x (by omega) hxn, fun x hx hxn => HZ.out x (by omega) hxn⟩
              case measure => simp [intOf]; omega
            · have d3 : (((f (f k) : Nat) : Int) != (k : Int)) = true := by simp; omega
              have hr := HN.out fun h => h3 (h.1 k hkn).2.2
              subst hr
              clear h2 h3
              go_wp2
              go_ret
              exact ⟨rfl, hH.low⟩
        · have d1 : decide ((n : Int) ≤ ((f k : Nat) : Int)) = true := by simp; omega
          have hr := HN.out fun h => h1 (h.1 k hkn).1
          subst hr
          go_wp2
          go_ret
          exact ⟨rfl, hH.low⟩
      · have d0 : decide ((n : Int) ≤ (k : Int)) = true := by simp; omega
        by_cases hf0 : f k = 0
        · have d1 : (((f k : Nat) : Int) != 0) = false := by simp [hf0]
          have H0 := hide hf0; clear hf0
          go_wp2
          go_roundw
          case rel => exact ⟨k + 1, by omega, by go_num, hH, fun x hx hxn => HA.out x (by omega) hxn, fun x hx hxn => by
            by_cases c : x = k
            · subst c; exact H0.out
            · exact HZ.out x (by omega) hxn⟩
          case measure => simp [intOf]; omega
        · have d1 : (((f k : Nat) : Int) != 0) = true := by simp; omega
          have hr := HN.out fun h => hf0 (h.2 k (by omega) hlt)
          subst hr
          clear hf0
          go_wp2
          go_ret
          exact ⟨rfl, hH.low⟩
    · obtain rfl : k = 32 := by omega
      have hr := HY.out ⟨fun x hx => HA.out x (by omega) hx, fun x h1 h2 => HZ.out x h2 h1⟩
      subst hr
      clear hlt hk
      go_wp2
      go_ret
      exact ⟨rfl, hH.low⟩

/-- one list then another one, of n flags -/
def bothF (a b : Nat → Nat) (n : Nat) : Nat → Nat := upto (fun x => b (a x)) n
set_option maxRecDepth 100000 in
set_option maxHeartbeats 2000000 in
theorem sBoth_any (a b : Nat → Nat) (n : Nat) (hn : n ≤ 32) (ha : ∀ x, x < n → a x < 32) (w : World) :
    Calls Try.prog 90 #[.agg (qv a), .agg (qv b), .int .i64 n] w fun e w' => e = .returned (.agg (qv (bothF a b n))) ∧ Below w.heap.size w w' := by
  have HA := hide ha; clear ha
  have HH0 := ((Holds.start w).blk (qv a) 48 w.heap.size rfl).blk (qv b) 48 (w.heap.size + 1) (by simp)
  have HH1 := (HH0.blk (qv fun _ => 0) 48 (w.heap.size + 1 + 1) (by simp)).blk (qv fun _ => 0) 48 (w.heap.size + 1 + 1 + 1) (by simp)
  have HX := hide HH1; clear HH0 HH1
  go_enter Try.func90, Try.ntmps90
  go_wp2
  rw [← qv_zero]
  go_loopw [8] (fun i wr => ∃ k : Nat, k ≤ n ∧ i = .int .i64 k ∧ Holds w wr [pBlk (w.heap.size + 1 + 1 + 1) (qv (upto (fun x => b (a x)) k)) 48, pBlk (w.heap.size + 1 + 1) (qv fun _ => 0) 48, pBlk (w.heap.size + 1) (qv b) 48, pBlk w.heap.size (qv a) 48]) (fun i _ => n - (intOf i).toNat)
  case atStart => exact ⟨0, by omega, rfl, by rw [upto_zero]; exact HX.out⟩
  case round =>
    clear HX
    obtain ⟨k, hk, rfl, hH⟩ := hrel
    by_cases hlt : k < n
    · have hlti : (k : Int) < n := by omega
      have hk32 : (k : Int) < 32 := by omega
      have hak := HA.out k hlt
      have c1 := hH.cell 3 rfl (qv_get a (i := k) (by omega))
      have c2 := hH.cell 2 rfl (qv_get b hak)
      have c3 := hH.cell 0 rfl (qv_get (upto (fun x => b (a x)) k) (i := k) (by omega))
      have f3 := hH.frozen 0 rfl k
      have hs := hH.set 0 rfl k (.int .u8 (b (a k) : Nat))
      have hst := upto_step (fun x => b (a x)) k
      rw [qv_set, hst] at hs
      have HS := hide hs; clear hs hst
      generalize upto (fun x => b (a x)) k k = z0 at *
      generalize b (a k) = z1 at *
      generalize a k = z2 at *
      have hz2 : (z2 : Int) < 32 := by omega
      clear hH
      go_wp2
      go_roundw
      case rel => exact ⟨k + 1, by omega, by go_num, HS.out⟩
      case measure => simp [intOf]; omega
    · obtain rfl : k = n := by omega
      have r2 := hH.rowOk (n := 32) 1 rfl (qv_size _)
      have d2 := hH.cells 0 rfl
      have HH3 := hH.setRow 1 rfl (qv (bothF a b k))
      have hb : upto (fun x => b (a x)) k = bothF a b k := rfl
      rw [hb] at d2 hH
      clear hlt
      go_wp2
      exact res_agg (p := 6) (g := w.heap.size + 1 + 1) aggQb (qv_size _) rfl rfl rfl (HH3.at 1 rfl) ⟨rfl, HH3.low⟩
end Go.Proofs.Yteeideminlcblaa
