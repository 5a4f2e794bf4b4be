/- Sums and products of the program; lists made and handed back. -/
import Derived.Test.YtijgcjpngpifnaaPls
namespace Go.Proofs.Ytijgcjpngpifnaa
open Go.RowKit

theorem nums_set (l : List Nat) (k x : Nat) : (nums l).set k (.int .i64 (x : Nat)) = nums (l.set k x) := by unfold nums; rw [List.map_set]
/-- the first k numbers, zeros behind them -/
def upN (l : List Nat) (k : Nat) : List Nat := l.take k ++ List.replicate (l.length - k) 0
theorem upN_length (l : List Nat) {k : Nat} (h : k ≤ l.length) : (upN l k).length = l.length := by unfold upN; simp; omega
theorem upN_set (l : List Nat) {k : Nat} (h : k < l.length) : (upN l k).set k (nth l k) = upN l (k + 1) := by
  unfold upN
  rw [List.set_append_right _ _ (by simp; omega), List.take_succ_eq_append_getElem h, nth_lt h]
  have e : k - (l.take k).length = 0 := by simp; omega
  rw [e, show l.length - k = (l.length - (k + 1)) + 1 from by omega, List.replicate_succ, List.set_cons_zero, List.append_assoc]
  rfl
theorem upN_zero (l : List Nat) : upN l 0 = List.replicate l.length 0 := by unfold upN; simp
theorem upN_all (l : List Nat) : upN l l.length = l := by unfold upN; simp
theorem nums_zero (n : Nat) : List.replicate n (Value.int .i64 0) = nums (List.replicate n 0) := by unfold nums; rw [List.map_replicate]; rfl

set_option maxRecDepth 100000 in
set_option maxHeartbeats 1000000 in
theorem polynomialOf_any (v : Value) (l : List Nat) (hl : l.length ≤ 100000) (w : World) (hv : RdN w v l) :
    Calls Try.prog 47 #[v] w fun e w' => ∃ u, e = .returned u ∧ Holds w w' [pPo u l] := by
  obtain ⟨A, c, rfl, _⟩ := hv.form
  have HV := hide hv; clear hv
  obtain ⟨i0, hi, hz0, hz1, hz2⟩ := info_parts infoRes
  have I0 := hide (And.intro hi (And.intro hz0 (And.intro hz1 hz2))); clear hi hz0 hz1 hz2
  go_enter Try.func47, Try.ntmps47
  go_wp2_with (refine makeH rfl 44 _ _ rfl 42 i0 (.int .i64 0) 8 Try.underlying44 I0.out.1 I0.out.2.1 I0.out.2.2.1 I0.out.2.2.2 rfl l.length .i64 .i64 rfl rfl (by omega) (by decide) (Holds.start w) ?_)
  intro w1 H1
  have H2 : Holds w w1 [pPo (.slice (some ⟨w.heap.size, 0, none⟩) l.length l.length) (upN l 0)] := by
    rw [upN_zero]
    refine Holds.poRow (v := .slice (some ⟨w.heap.size, 0, none⟩) l.length l.length) (e := 42) (l := List.replicate l.length 0) (L := [pRow (.slice (some ⟨w.heap.size, 0, none⟩) l.length l.length) 42 1 (List.replicate l.length 0).length (nums (List.replicate l.length 0))]) ?_ 0 rfl (by simp; omega)
    rw [← nums_zero, List.length_replicate]
    exact H1
  clear H1
  generalize hG : w.heap.size = G at *
  have HG := hide hG; clear hG
  go_wp2
  go_loopw [11] (fun t wr => ∃ k : Nat, k ≤ l.length ∧ t = .int .i64 k ∧ Holds w wr [pPo (.slice (some ⟨G, 0, none⟩) l.length l.length) (upN l k)]) (fun t _ => l.length - (intOf t).toNat)
  case atStart => exact ⟨0, Nat.zero_le _, rfl, H2⟩
  case round =>
    clear H2
    obtain ⟨k, hk, rfl, hH⟩ := hrel
    by_cases hlt : k < l.length
    · obtain ⟨a, rfl, _, c1⟩ := (HV.out.below hH.low (Nat.le_refl _)).at hlt
      obtain ⟨g', c', hA, _, _, hcell, hfr⟩ := hH.poAt 0 rfl (by rw [upN_length l hk]; omega)
      injection hA with hA _ _
      injection hA with hA
      injection hA with hA _ _
      subst hA
      have c2 := hcell k (by rw [upN_length l hk]; omega)
      have f2 := hfr k
      clear hcell hfr
      have H3 := hH.poSet 0 rfl (k := k) (by rw [upN_length l hk]; omega) (nth l k)
      rw [upN_set l hlt] at H3
      have HN := hide H3; clear H3
      generalize nth l k = x at *
      generalize nth (upN l k) k = y at *
      go_wp2
      go_roundw
      case rel => exact ⟨k + 1, by omega, by go_num, HN.out⟩
      case measure => simp [intOf]; omega
    · obtain rfl : k = l.length := by omega
      rw [upN_all] at hH
      clear hlt hk
      go_wp2
      go_ret
      exact ⟨_, rfl, hH⟩

set_option maxRecDepth 100000 in
set_option maxHeartbeats 1000000 in
theorem numbers_any (v : Value) (l : List Nat) (hl : l.length ≤ 100000) (w : World) (hv : RdN w v l) :
    Calls Try.prog 52 #[v] w fun e w' => ∃ u, e = .returned u ∧ Holds w w' [pInts u l] := by
  obtain ⟨A, c, rfl, _⟩ := hv.form
  have HV := hide hv; clear hv
  obtain ⟨i0, hi, hz0, hz1, hz2⟩ := info_parts info64
  have I0 := hide (And.intro hi (And.intro hz0 (And.intro hz1 hz2))); clear hi hz0 hz1 hz2
  go_enter Try.func52, Try.ntmps52
  go_wp2_with (refine makeH rfl 22 _ _ rfl 2 i0 (.int .i64 0) 8 Try.underlying22 I0.out.1 I0.out.2.1 I0.out.2.2.1 I0.out.2.2.2 rfl l.length .i64 .i64 rfl rfl (by omega) (by decide) (Holds.start w) ?_)
  intro w1 H1
  have H2 : Holds w w1 [pRow (.slice (some ⟨w.heap.size, 0, none⟩) l.length l.length) 2 1 l.length (nums (upN l 0))] := by
    rw [upN_zero, ← nums_zero]
    exact H1
  clear H1
  generalize hG : w.heap.size = G at *
  have HG := hide hG; clear hG
  go_wp2
  go_loopw [11] (fun t wr => ∃ k : Nat, k ≤ l.length ∧ t = .int .i64 k ∧ Holds w wr [pRow (.slice (some ⟨G, 0, none⟩) l.length l.length) 2 1 l.length (nums (upN l k))]) (fun t _ => l.length - (intOf t).toNat)
  case atStart => exact ⟨0, Nat.zero_le _, rfl, H2⟩
  case round =>
    clear H2
    obtain ⟨k, hk, rfl, hH⟩ := hrel
    by_cases hlt : k < l.length
    · obtain ⟨a, rfl, _, c1⟩ := (HV.out.below hH.low (Nat.le_refl _)).at hlt
      obtain ⟨g', c', hA, _, _, _, _, hcell, hfr⟩ := row_at (hH.row 0 rfl) (by omega)
      injection hA with hA _ _
      injection hA with hA
      injection hA with hA _ _
      subst hA
      have c2 := hcell k _ (nums_at (by rw [upN_length l hk]; omega))
      have f2 := hfr k
      clear hcell hfr
      have H3 := hH.put 0 rfl k (.int .i64 (nth l k : Nat))
      rw [nums_set, upN_set l hlt] at H3
      have HN := hide H3; clear H3
      generalize nth l k = x at *
      generalize (upN l k)[k]'_ = y at c2
      go_wp2
      go_roundw
      case rel => exact ⟨k + 1, by omega, by go_num, HN.out⟩
      case measure => simp [intOf]; omega
    · obtain rfl : k = l.length := by omega
      rw [upN_all] at hH
      clear hlt hk
      go_wp2
      go_ret
      exact ⟨_, rfl, hH⟩

set_option maxRecDepth 100000 in
set_option maxHeartbeats 1000000 in
theorem constant6_any (x : Nat) (w : World) :
    Calls Try.prog 82 #[.int .i64 (x : Nat)] w fun e w' => ∃ u, e = .returned u ∧ Holds w w' [pPo u (trimN [x])] := by
  have H1 := (Holds.start w).poNew #[.int .i64 (x : Nat)] 42 [x] (by simp) w.heap.size 1 rfl rfl (fun j hj => by obtain rfl : j = 0 := by simpa using hj
                                                                                                                 rfl)
  have C1 := hide (cut6_any (some ⟨w.heap.size, 0, none⟩) 1 [x] (by simp) (by simp) _ (H1.poRd 0 rfl))
  have H2 := H1.poCut 0 rfl (tl_le [x] 1)
  have H3 := hide H2; clear H2 H1
  go_enter Try.func82, Try.ntmps82
  go_wp2_with fail
  refine C1.out.mono ?_
  rintro e w1 ⟨rfl, rfl⟩
  go_wp2
  go_ret
  exact ⟨_, rfl, H3.out⟩

-- left out here: hH.drew
end Go.Proofs.Ytijgcjpngpifnaa
