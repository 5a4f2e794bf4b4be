/- ChainDessin of the program and of the model; the walk of FnExactChainDessin -/
import Derived.Test.YtghdbnbejkneiaaBld
import Derived.Test.YtghdbnbejkneiaaPl1
import Derived.Test.YtghdbnbejkneiaaSPerm
import Derived.Test.YtghdbnbejkneiaaEqDs
import Derived.RegionTactic
namespace Go.Proofs.Ytghdbnbejkneiaa
open Go.RowKit

def swp (s m k : Nat) : Nat → Nat := fun i => if i < m then (if s ≤ i ∧ i < s + 2 * k then (if (i - s) % 2 = 0 then i + 1 else i - 1) else i) else 0
theorem below_setCell {B g : Nat} {w0 w : World} (h : Below B w0 w) (hg : B ≤ g) (i : Nat) (v : Value) : Below B w0 (w.setCell ⟨g, i, none⟩ v) :=
  ⟨h.os, h.tape, h.output, by have := h.size; simpa using this, fun k hk => (Below.heap_setCell w ⟨g, i, none⟩ v k (fun e => by have : k = g := e; omega)).trans (h.block k hk)⟩
theorem swp_zero (s m : Nat) : swp s m 0 = sameF m := by
  funext i
  unfold swp sameF upto
  split
  · rw [if_neg (by omega)]
  · rfl
theorem swp_at {s m k i : Nat} (h : i < m) (h2 : s + 2 * k ≤ i) : swp s m k i = i := by unfold swp; rw [if_pos h, if_neg (by omega)]
theorem swp_step {s m k : Nat} (h : s + 2 * k + 1 < m) : fset (fset (swp s m k) (s + 2 * k) (s + 2 * k + 1)) (s + 2 * k + 1) (s + 2 * k) = swp s m (k + 1) := by
  funext i
  unfold fset swp
  repeat' split
  all_goals omega
theorem swp_lt {s m k i : Nat} (hm : m ≤ 16) (hk : s + 2 * k ≤ m + 1) (hs : k ≤ (m - s) / 2) : swp s m k i < 256 := by
  unfold swp
  repeat' split
  all_goals omega
theorem dv_setb (n : Int) (f g : Nat → Nat) {i : Nat} (v : Nat) (h : i < 16) : (dv n f g).setIfInBounds (1 + i) (.int .u8 v) = dv n (fset f i v) g := by
  unfold dv
  rw [row_set]
  apply row_congr
  intro j _
  unfold fset
  by_cases c : j = 1 + i
  · rw [if_pos c, if_neg (by omega), if_pos (by omega), if_pos (by omega)]
  · rw [if_neg c]
    by_cases d : j = 0
    · rw [if_pos d, if_pos d]
    · rw [if_neg d, if_neg d]
      by_cases e : j < 17
      · rw [if_pos e, if_pos e, if_neg (by omega)]
      · rw [if_neg e, if_neg e]
theorem dv_setw (n : Int) (f g : Nat → Nat) {i : Nat} (v : Nat) (h : i < 16) : (dv n f g).setIfInBounds (17 + i) (.int .u8 v) = dv n f (fset g i v) := by
  unfold dv
  rw [row_set]
  apply row_congr
  intro j _
  unfold fset
  by_cases c : j = 17 + i
  · rw [if_pos c, if_neg (by omega), if_neg (by omega), if_pos (by omega)]
  · rw [if_neg c]
    by_cases d : j = 0
    · rw [if_pos d, if_pos d]
    · rw [if_neg d, if_neg d]
      by_cases e : j < 17
      · rw [if_pos e, if_pos e]
      · rw [if_neg e, if_neg e, if_neg (by omega)]

set_option maxRecDepth 100000 in
set_option maxHeartbeats 1000000 in
theorem swaps_any (s m : Nat) (hs : s ≤ 1) (hm1 : 1 ≤ m) (hm : m ≤ 16) (w : World) :
    Calls Try.prog 67 #[.int .i64 s, .int .i64 m] w fun e w' => e = .returned (.agg (av (swp s m ((m - s) / 2)))) ∧ Below w.heap.size w w' := by
  have C := hide fun w => stay_any m hm w
  go_enter Try.func67, Try.ntmps67
  go_wp2_with fail
  rw [← av_zero]
  refine (C.out _).mono ?_
  rintro e w1 ⟨rfl, hb⟩
  have r1 : rowOk w1 w.heap.size 16 := (below_row hb (by simp)).2 ⟨_, _, heap_at _ _ _ rfl, av_size _⟩
  have b1 := (below1 w (.cells (av fun _ => 0) 23)).trans (hb.mono (by simp))
  clear hb
  rw [← swp_zero s m]
  go_wp2
  go_loopw [6] (fun x wr => ∃ k : Nat, k ≤ (m - s) / 2 ∧ x = .int .i64 (s + 2 * k : Nat) ∧ Below w1.heap.size w1 wr ∧ cellsOf wr w1.heap.size = av (swp s m k) ∧ rowOk wr w1.heap.size 16) (fun x _ => m + 2 - (intOf x).toNat)
  case atStart => exact ⟨0, by omega, rfl, below1 _ _, cellsOf_heap (heap_at _ _ _ rfl), ⟨_, _, heap_at _ _ _ rfl, av_size _⟩⟩
  case round =>
    obtain ⟨k, hk, rfl, hbw, hc, hr⟩ := hrel
    by_cases hlt : s + 2 * k + 1 < m
    · obtain ⟨x, hx⟩ : ∃ x, x = s + 2 * k := ⟨_, rfl⟩
      have c1 : wr.cell? ⟨w1.heap.size, x, none⟩ = some (.int .u8 (x : Nat)) := by rw [cell_of_cells, hc, av_get _ (by omega), swp_at (by omega) (by omega)]
      have c2 : wr.cell? ⟨w1.heap.size, x + 1, none⟩ = some (.int .u8 ((x + 1 : Nat) : Int)) := by rw [cell_of_cells, hc, av_get _ (by omega), swp_at (by omega) (by omega)]
      have f1 : wr.frozen? ⟨w1.heap.size, x, none⟩ = false := hr.frozen
      have f2 : wr.frozen? ⟨w1.heap.size, x + 1, none⟩ = false := hr.frozen
      rw [← hx] at hlt ⊢
      have hs0 : (av (swp s m k)).setIfInBounds x (.int .u8 ((x + 1 : Nat) : Int)) = av (fset (swp s m k) x (x + 1)) := av_set _ _ _
      have hs1 : (av (fset (swp s m k) x (x + 1))).setIfInBounds (x + 1) (.int .u8 (x : Nat)) = av (swp s m (k + 1)) := by rw [av_set]; subst hx; rw [swp_step hlt]
      have HS := hide (And.intro hs0 hs1); clear hs0 hs1
      have HC := hide hc; clear hc
      have HX := hide hx; clear hx
      simp only [Int.natCast_add, Int.natCast_one] at c2
      go_wp2
      go_region
      all_goals go_wp2
      have hx' := HX.out
      refine ⟨⟨k + 1, by omega, ?_, ?_, ?_, ?_⟩, by simp [intOf]; omega⟩
      · have := HX.out
        congr 1
        omega
      · exact (below_setCell (below_setCell hbw (Nat.le_refl _) x _) (Nat.le_refl _) (x + 1) _).drew
      · rw [cellsOf_drew, cellsOf_setCell, cellsOf_setCell, HC.out, show ((x : Int) + 1) = ((x + 1 : Nat) : Int) from rfl, HS.out.1, HS.out.2]
      · exact rowOk_drew.2 (rowOk_setCell (rowOk_setCell hr))
    · obtain rfl : k = (m - s) / 2 := by omega
      have s1 := hbw.size
      have r2 : rowOk wr w.heap.size 16 := (below_row hbw r1.lt).2 r1
      have b2 := b1.trans (hbw.mono b1.size)
      have hge : decide ((s : Int) + 2 * (((m - s) / 2 : Nat) : Int) + 1 < (m : Int)) = false := by simp; omega
      have l1 := r1.lt
      generalize hK : (m - s) / 2 = K at *
      clear hlt hk hbw
      go_wp2
      obtain ⟨t, ht, _⟩ := r2.heap
      exact res_agg (p := 4) (g := w.heap.size) aggP (av_size _) rfl rfl rfl (setRow_heap _ _ _ _ t (0, 0) ht) ⟨by rw [hK], below_setRow b2 (Nat.le_refl _) _⟩

set_option maxRecDepth 100000 in
set_option maxHeartbeats 1000000 in
theorem sChain_any (m : Nat) (hm1 : 1 ≤ m) (hm : m ≤ 16) (w : World) :
    Calls Try.prog 65 #[.int .i64 m] w fun e w' => e = .returned (.agg (dv m (swp 1 m ((m - 1) / 2)) (swp 0 m (m / 2)))) ∧ Below w.heap.size w w' := by
  have C := hide fun w => sSame_any m hm w
  go_enter Try.func65, Try.ntmps65
  go_wp2_with fail
  rw [← dv_zero]
  refine (C.out _).mono ?_
  rintro e w1 ⟨rfl, hb⟩
  have b1 := (below1 w (.cells (dv 0 (fun _ => 0) (fun _ => 0)) 39)).trans (hb.mono (by simp))
  have r1 : rowOk w1 w.heap.size 33 := (below_row hb (by simp)).2 ⟨_, _, heap_at _ _ _ rfl, dv_size _ _ _⟩
  clear hb
  go_wp2_with fail
  refine (C.out _).mono ?_
  rintro e w2 ⟨rfl, hb⟩
  have b2 := b1.trans (hb.mono b1.size)
  have r2 : rowOk w2 w.heap.size 33 := (below_row hb r1.lt).2 r1
  clear hb r1
  go_wp2
  go_loopw [4] (fun x wr => ∃ i : Nat, i + 1 ≤ m ∧ x = .int .i64 i ∧ Below w2.heap.size w2 wr ∧ cellsOf wr w2.heap.size = dv m (swp 1 m (i / 2)) (swp 0 m ((i + 1) / 2)) ∧ rowOk wr w2.heap.size 33) (fun x _ => m + 2 - (intOf x).toNat)
  case atStart => exact ⟨0, by omega, rfl, below1 _ _, (cellsOf_heap (heap_at _ _ _ rfl)).trans (by rw [swp_zero, swp_zero]), ⟨_, _, heap_at _ _ _ rfl, dv_size _ _ _⟩⟩
  case round =>
    obtain ⟨i, hi, rfl, hbw, hc, hr⟩ := hrel
    by_cases hlt : i + 1 < m
    · have HC := hide hc; clear hc
      have b3 := fun a v b u => below_setCell (below_setCell hbw (Nat.le_refl _) a v) (Nat.le_refl _) b u
      have B3 := hide b3; clear b3
      have r3 := fun a (v : Value) b (u : Value) => rowOk_setCell (g' := w2.heap.size) (i := b) (v := u) (rowOk_setCell (g' := w2.heap.size) (i := a) (v := v) hr)
      have R3 := hide r3; clear r3
      by_cases hpar : (i : Int) % 2 = 0
      · have hp : (((i : Int) % 2) == 0) = true := by simp [hpar]
        have c1 : wr.cell? ⟨w2.heap.size, 17 + i, none⟩ = some (.int .u8 (swp 0 m ((i + 1) / 2) i)) := by rw [cell_of_cells, HC.out, dv_w _ _ _ (by omega)]
        have c2 : wr.cell? ⟨w2.heap.size, 17 + (i + 1), none⟩ = some (.int .u8 (swp 0 m ((i + 1) / 2) (i + 1))) := by rw [cell_of_cells, HC.out, dv_w _ _ _ (by omega)]
        have f1 : wr.frozen? ⟨w2.heap.size, 17 + i, none⟩ = false := hr.frozen
        have f2 : wr.frozen? ⟨w2.heap.size, 17 + (i + 1), none⟩ = false := hr.frozen
        have HP := hide hpar; clear hpar
        generalize swp 0 m ((i + 1) / 2) i = y1 at c1
        generalize swp 0 m ((i + 1) / 2) (i + 1) = y2 at c2
        go_wp2
        go_roundw
        case rel =>
          have hp' := HP.out
          refine ⟨i + 1, by omega, by go_num, B3.out _ _ _ _, ?_, R3.out _ _ _ _⟩
          rw [cellsOf_setCell, cellsOf_setCell, HC.out, show ((i : Int) + 1) = ((i + 1 : Nat) : Int) from rfl, dv_setw _ _ _ _ (by omega), dv_setw _ _ _ _ (by omega)]
          have h1 : (i + 1) / 2 = i / 2 := by omega
          have h2 : (i + 1 + 1) / 2 = i / 2 + 1 := by omega
          have h3 : 0 + 2 * (i / 2) = i := by omega
          have := swp_step (s := 0) (m := m) (k := i / 2) (by omega)
          rw [h3] at this
          rw [h1, h2, this]
        case measure => simp [intOf]; omega
      · have hp : (((i : Int) % 2) == 0) = false := by simp [hpar]
        have c1 : wr.cell? ⟨w2.heap.size, 1 + i, none⟩ = some (.int .u8 (swp 1 m (i / 2) i)) := by rw [cell_of_cells, HC.out, dv_b _ _ _ (by omega)]
        have c2 : wr.cell? ⟨w2.heap.size, 1 + (i + 1), none⟩ = some (.int .u8 (swp 1 m (i / 2) (i + 1))) := by rw [cell_of_cells, HC.out, dv_b _ _ _ (by omega)]
        have f1 : wr.frozen? ⟨w2.heap.size, 1 + i, none⟩ = false := hr.frozen
        have f2 : wr.frozen? ⟨w2.heap.size, 1 + (i + 1), none⟩ = false := hr.frozen
        have HP := hide hpar; clear hpar
        generalize swp 1 m (i / 2) i = y1 at c1
        generalize swp 1 m (i / 2) (i + 1) = y2 at c2
        go_wp2
        go_roundw
        case rel =>
          have hp' := HP.out
          refine ⟨i + 1, by omega, by go_num, B3.out _ _ _ _, ?_, R3.out _ _ _ _⟩
          rw [cellsOf_setCell, cellsOf_setCell, HC.out, show ((i : Int) + 1) = ((i + 1 : Nat) : Int) from rfl, dv_setb _ _ _ _ (by omega), dv_setb _ _ _ _ (by omega)]
          have h1 : (i + 1) / 2 = i / 2 + 1 := by omega
          have h2 : (i + 1 + 1) / 2 = i / 2 + 1 := by omega
          have h3 : 1 + 2 * (i / 2) = i := by omega
          have := swp_step (s := 1) (m := m) (k := i / 2) (by omega)
          rw [h3] at this
          rw [h1, h2, this]
        case measure => simp [intOf]; omega
    · have hi2 : i + 1 = m := by omega
      have q1 : (m - 1) / 2 = i / 2 := by omega
      have q2 : m / 2 = (i + 1) / 2 := by omega
      have HQ := hide (And.intro q1 q2); clear q1 q2 hi2
      have r3 : rowOk wr w.heap.size 33 := (below_row hbw r2.lt).2 r2
      have b3 := b2.trans (hbw.mono b2.size)
      have l1 := r2.lt
      clear hbw
      go_wp2
      obtain ⟨t, ht, _⟩ := r3.heap
      exact res_agg (p := 2) (g := w.heap.size) aggD (dv_size _ _ _) rfl rfl rfl (setRow_heap _ _ _ _ t (0, 0) ht) ⟨by rw [HQ.out.1, HQ.out.2], below_setRow b3 (Nat.le_refl _) _⟩

def chainR (n : Int) : Value := if 1 ≤ n ∧ n ≤ 16 then .tuple #[.agg (dv n (swp 1 n.toNat ((n.toNat - 1) / 2)) (swp 0 n.toNat (n.toNat / 2))), .int .i64 0] else .tuple #[.agg (dv 0 (fun _ => 0) (fun _ => 0)), .int .i64 2]
theorem chainR_eq (n : Int) : ∃ (m : Int) (f g : Nat → Nat) (c : Int), chainR n = .tuple #[.agg (dv m f g), .int .i64 c] := by
  unfold chainR; split
  · exact ⟨_, _, _, _, rfl⟩
  · exact ⟨_, _, _, _, rfl⟩

set_option maxRecDepth 100000 in
set_option maxHeartbeats 1000000 in
theorem chainDessin_any (n : Int) (w : World) : Calls Try.prog 39 #[.int .i64 n] w fun e w' => e = .returned (chainR n) ∧ Below w.heap.size w w' := by
  by_cases hn : 1 ≤ n ∧ n ≤ 16
  · have hr : chainR n = .tuple #[.agg (dv n (swp 1 n.toNat ((n.toNat - 1) / 2)) (swp 0 n.toNat (n.toNat / 2))), .int .i64 0] := by unfold chainR; rw [if_pos hn]
    rw [hr]
    clear hr
    obtain ⟨m, rfl⟩ := Int.eq_ofNat_of_zero_le (show 0 ≤ n by omega)
    have hm1 : 1 ≤ m := by omega
    have hm2 : m ≤ 16 := by omega
    rw [Int.toNat_natCast]
    clear hn
    have r0 : ∀ o : World, Below (w.alloc (.cells (dv 0 (fun _ => 0) (fun _ => 0)) 39)).heap.size (w.alloc (.cells (dv 0 (fun _ => 0) (fun _ => 0)) 39)) o → rowOk o w.heap.size 33 := fun o h => (below_row h (by simp)).2 ⟨_, _, heap_at _ _ _ rfl, dv_size _ _ _⟩
    have R0 := hide r0; clear r0
    go_enter Try.func39, Try.ntmps39
    go_wp2_with (go_at_call 66; refine (dart_yes _ _ (by omega) (by omega)).mono ?_; rintro e w' ⟨rfl, rfl⟩)
    rw [← dv_zero]
    refine (swaps_any 1 m (by omega) hm1 hm2 _).mono ?_
    rintro e w1 ⟨rfl, h1⟩
    go_wp2_with fail
    refine (swaps_any 0 m (by omega) hm1 hm2 _).mono ?_
    rintro e w2 ⟨rfl, h2⟩
    have b3 := h1.trans (h2.mono h1.size)
    clear h1 h2
    rw [Nat.sub_zero]
    have rr := R0.out _ b3
    go_wp2
    obtain ⟨t, ht, _⟩ := rr.heap
    exact res_agg2 (p := 2) (t := 3) (g := w.heap.size) (v := .int .i64 0) aggD (dv_size _ _ _) rfl rfl rfl rfl (setRow_heap _ _ _ _ t (0, 0) ht) ⟨rfl, below_setRow ((below1 w _).trans (b3.mono (by simp))) (Nat.le_refl _) _⟩
  · have hr : chainR n = .tuple #[.agg (dv 0 (fun _ => 0) (fun _ => 0)), .int .i64 2] := by unfold chainR; rw [if_neg hn]
    rw [hr]
    clear hr
    go_enter Try.func39, Try.ntmps39
    go_wp2_with (go_at_call 66; refine (dart_no _ _ hn).mono ?_; rintro e w' ⟨rfl, rfl⟩)
    exact res_agg2 (p := 2) (t := 3) (g := w.heap.size) (v := .int .i64 2) aggD (dv_size 0 (fun _ => 0) (fun _ => 0)) rfl rfl rfl rfl (heap_at _ _ _ rfl) ⟨rfl, below1 _ _⟩

set_option maxRecDepth 100000 in
set_option maxHeartbeats 1000000 in
theorem sChainDessin_any (n : Int) (w : World) : Calls Try.prog 38 #[.int .i64 n] w fun e w' => e = .returned (chainR n) ∧ Below w.heap.size w w' := by
  by_cases hn : 1 ≤ n ∧ n ≤ 16
  · have hr : chainR n = .tuple #[.agg (dv n (swp 1 n.toNat ((n.toNat - 1) / 2)) (swp 0 n.toNat (n.toNat / 2))), .int .i64 0] := by unfold chainR; rw [if_pos hn]
    rw [hr]
    clear hr
    obtain ⟨m, rfl⟩ := Int.eq_ofNat_of_zero_le (show 0 ≤ n by omega)
    have hm1 : 1 ≤ m := by omega
    have hm2 : m ≤ 16 := by omega
    rw [Int.toNat_natCast]
    clear hn
    have r0 : ∀ o : World, Below (w.alloc (.cells (dv 0 (fun _ => 0) (fun _ => 0)) 39)).heap.size (w.alloc (.cells (dv 0 (fun _ => 0) (fun _ => 0)) 39)) o → rowOk o w.heap.size 33 := fun o h => (below_row h (by simp)).2 ⟨_, _, heap_at _ _ _ rfl, dv_size _ _ _⟩
    have R0 := hide r0; clear r0
    go_enter Try.func38, Try.ntmps38
    go_wp2_with (go_at_call 64; refine (in_yes _ _ _ _ (by omega) (by omega)).mono ?_; rintro e w' ⟨rfl, rfl⟩)
    rw [← dv_zero]
    refine (sChain_any m hm1 hm2 _).mono ?_
    rintro e w2 ⟨rfl, b3⟩
    have rr := R0.out _ b3
    go_wp2
    obtain ⟨t, ht, _⟩ := rr.heap
    exact res_agg2 (p := 2) (t := 3) (g := w.heap.size) (v := .int .i64 0) aggD (dv_size _ _ _) rfl rfl rfl rfl (setRow_heap _ _ _ _ t (0, 0) ht) ⟨rfl, below_setRow ((below1 w _).trans (b3.mono (by simp))) (Nat.le_refl _) _⟩
  · have hr : chainR n = .tuple #[.agg (dv 0 (fun _ => 0) (fun _ => 0)), .int .i64 2] := by unfold chainR; rw [if_neg hn]
    rw [hr]
    clear hr
    go_enter Try.func38, Try.ntmps38
    go_wp2_with (go_at_call 64; refine (in_no _ _ _ _ hn).mono ?_; rintro e w' ⟨rfl, rfl⟩)
    exact res_agg2 (p := 2) (t := 3) (g := w.heap.size) (v := .int .i64 2) aggD (dv_size 0 (fun _ => 0) (fun _ => 0)) rfl rfl rfl rfl (heap_at _ _ _ rfl) ⟨rfl, below1 _ _⟩
set_option maxRecDepth 100000 in
set_option maxHeartbeats 400000 in
theorem fnExactChainDessin_walk (n : Int) (_hn : -9223372036854775808 ≤ n ∧ n ≤ 9223372036854775807) (w : World) :
    Calls Try.prog 10 #[.int .i64 n] w fun e w' => e = .returned (.bool true) ∧ Below w.heap.size w w' := by
  clear _hn
  obtain ⟨a, f, g, c, hR⟩ := chainR_eq n
  have c1 := fun w => chainDessin_any n w
  have c2 := fun w => sChainDessin_any n w
  rw [hR] at c1 c2
  have C1 := hide c1; clear c1
  have C2 := hide c2; clear c2
  clear hR
  have hne : (c != c) = false := by simp
  go_enter Try.func10, Try.ntmps10
  go_wp2_with fail
  refine (C2.out _).mono ?_
  rintro e w1 ⟨rfl, h1⟩
  go_wp2_with fail
  refine (C1.out _).mono ?_
  rintro e w2 ⟨rfl, h2⟩
  have g2 : cellsOf w2 w1.heap.size = dv a f g := (below_cells h2 (by simp)).trans (cellsOf_heap (heap_at _ _ _ rfl))
  have s2 : w1.heap.size < w2.heap.size := by have := h2.size; simp at this; omega
  have s1 := h1.size
  have b2 := (h1.alloc h1.size (.cells (dv a f g) 39)).trans (h2.mono (by simp; omega))
  clear h1 h2
  go_wp2_with fail
  refine (eqDessin_same a f g _).mono ?_
  rintro e w3 ⟨rfl, h3⟩
  have b3 := (b2.alloc (by omega) (.cells (dv a f g) 39)).trans (h3.mono (by simp; omega))
  clear h3 b2 g2
  go_wp2
  go_ret
  exact ⟨rfl, b3⟩

end Go.Proofs.Ytghdbnbejkneiaa
