/- Sums and products of the program; lists made and handed back. -/
import Derived.Test.YtijgcjpngpifnaaPls
namespace Go.Proofs.Ytijgcjpngpifnaa
open Go.RowKit

theorem nums_set (l : List Nat) (k x : Nat) : (nums l).set k (.int .i64 (x : Nat)) = nums (l.set k x) := by unfold nums; rw [List.map_set]
theorem one_cells (x : Nat) : ∀ j, j < [x].length → (#[Value.int .i64 (x : Nat)])[j]? = some (.int .i64 (nth [x] j : Nat)) := fun j hj => by
  obtain rfl : j = 0 := by simpa using hj
  rfl
theorem two_cells (x y : Nat) : ∀ j, j < [x, y].length → (#[Value.int .i64 (x : Nat), Value.int .i64 (y : Nat)])[j]? = some (.int .i64 (nth [x, y] j : Nat)) := fun j hj => by
  have : j = 0 ∨ j = 1 := by simp at hj; omega
  rcases this with rfl | rfl <;> rfl
/-- the first k numbers, zeros behind them -/
def upN (l : List Nat) (k : Nat) : List Nat := l.take k ++ List.replicate (l.length - k) 0
theorem upN_length (l : List Nat) {k : Nat} (h : k ≤ l.length) : (upN l k).length = l.length := by unfold upN; simp; omega
theorem upN_set (l : List Nat) {k : Nat} (h : k < l.length) : (upN l k).set k (nth l k) = upN l (k + 1) := by
  unfold upN
  rw [List.set_append_right _ _ (by simp; omega), List.take_succ_eq_append_getElem h, nth_lt h]
  have e : k - (l.take k).length = 0 := by simp; omega
  rw [e, show l.length - k = (l.length - (k + 1)) + 1 from by omega, List.replicate_succ, List.set_cons_zero, List.append_assoc]
  rfl
theorem upN_zero (l : List Nat) : upN l 0 = List.replicate l.length 0 := by unfold upN; simp
theorem upN_all (l : List Nat) : upN l l.length = l := by unfold upN; simp
theorem nums_zero (n : Nat) : List.replicate n (Value.int .i64 0) = nums (List.replicate n 0) := by unfold nums; rw [List.map_replicate]; rfl

set_option maxRecDepth 100000 in
set_option maxHeartbeats 1000000 in
theorem polynomialOf_any (v : Value) (l : List Nat) (hl : l.length ≤ 100000) (w : World) (hv : RdN w v l) :
    Calls Try.prog 47 #[v] w fun e w' => ∃ u, e = .returned u ∧ Holds w w' [pPo u l] := by
  obtain ⟨A, c, rfl, _⟩ := hv.form
  have HV := hide hv; clear hv
  obtain ⟨i0, hi, hz0, hz1, hz2⟩ := info_parts infoRes
  have I0 := hide (And.intro hi (And.intro hz0 (And.intro hz1 hz2))); clear hi hz0 hz1 hz2
  go_enter Try.func47, Try.ntmps47
  go_wp2_with (refine makeH rfl 44 _ _ rfl 42 i0 (.int .i64 0) 8 Try.underlying44 I0.out.1 I0.out.2.1 I0.out.2.2.1 I0.out.2.2.2 rfl l.length .i64 .i64 rfl rfl (by omega) (by decide) (Holds.start w) ?_)
  intro w1 H1
  have H2 : Holds w w1 [pPo (.slice (some ⟨w.heap.size, 0, none⟩) l.length l.length) (upN l 0)] := by
    rw [upN_zero]
    refine Holds.poRow (v := .slice (some ⟨w.heap.size, 0, none⟩) l.length l.length) (e := 42) (l := List.replicate l.length 0) (L := [pRow (.slice (some ⟨w.heap.size, 0, none⟩) l.length l.length) 42 1 (List.replicate l.length 0).length (nums (List.replicate l.length 0))]) ?_ 0 rfl (by simp; omega)
    rw [← nums_zero, List.length_replicate]
    exact H1
  clear H1
  generalize hG : w.heap.size = G at *
  have HG := hide hG; clear hG
  go_wp2
  go_loopw [11] (fun t wr => ∃ k : Nat, k ≤ l.length ∧ t = .int .i64 k ∧ Holds w wr [pPo (.slice (some ⟨G, 0, none⟩) l.length l.length) (upN l k)]) (fun t _ => l.length - (intOf t).toNat)
  case atStart => exact ⟨0, Nat.zero_le _, rfl, H2⟩
  case round =>
    clear H2
    obtain ⟨k, hk, rfl, hH⟩ := hrel
    by_cases hlt : k < l.length
    · obtain ⟨a, rfl, _, c1⟩ := (HV.out.below hH.low (Nat.le_refl _)).at hlt
      obtain ⟨g', c', hA, _, _, hcell, hfr⟩ := hH.poAt 0 rfl (by rw [upN_length l hk]; omega)
      injection hA with hA _ _
      injection hA with hA
      injection hA with hA _ _
      subst hA
      have c2 := hcell k (by rw [upN_length l hk]; omega)
      have f2 := hfr k
      clear hcell hfr
      have H3 := hH.poSet 0 rfl (k := k) (by rw [upN_length l hk]; omega) (nth l k)
      rw [upN_set l hlt] at H3
      have HN := hide H3; clear H3
      generalize nth l k = x at *
      generalize nth (upN l k) k = y at *
      go_wp2
      go_roundw
      case rel => exact ⟨k + 1, by omega, by go_num, HN.out⟩
      case measure => simp [intOf]; omega
    · obtain rfl : k = l.length := by omega
      rw [upN_all] at hH
      clear hlt hk
      go_wp2
      go_ret
      exact ⟨_, rfl, hH⟩

set_option maxRecDepth 100000 in
set_option maxHeartbeats 1000000 in
theorem numbers_any (v : Value) (l : List Nat) (hl : l.length ≤ 100000) (w : World) (hv : RdN w v l) :
    Calls Try.prog 52 #[v] w fun e w' => ∃ u, e = .returned u ∧ Holds w w' [pInts u l] := by
  obtain ⟨A, c, rfl, _⟩ := hv.form
  have HV := hide hv; clear hv
  obtain ⟨i0, hi, hz0, hz1, hz2⟩ := info_parts info64
  have I0 := hide (And.intro hi (And.intro hz0 (And.intro hz1 hz2))); clear hi hz0 hz1 hz2
  go_enter Try.func52, Try.ntmps52
  go_wp2_with (refine makeH rfl 22 _ _ rfl 2 i0 (.int .i64 0) 8 Try.underlying22 I0.out.1 I0.out.2.1 I0.out.2.2.1 I0.out.2.2.2 rfl l.length .i64 .i64 rfl rfl (by omega) (by decide) (Holds.start w) ?_)
  intro w1 H1
  have H2 : Holds w w1 [pRow (.slice (some ⟨w.heap.size, 0, none⟩) l.length l.length) 2 1 l.length (nums (upN l 0))] := by
    rw [upN_zero, ← nums_zero]
    exact H1
  clear H1
  generalize hG : w.heap.size = G at *
  have HG := hide hG; clear hG
  go_wp2
  go_loopw [11] (fun t wr => ∃ k : Nat, k ≤ l.length ∧ t = .int .i64 k ∧ Holds w wr [pRow (.slice (some ⟨G, 0, none⟩) l.length l.length) 2 1 l.length (nums (upN l k))]) (fun t _ => l.length - (intOf t).toNat)
  case atStart => exact ⟨0, Nat.zero_le _, rfl, H2⟩
  case round =>
    clear H2
    obtain ⟨k, hk, rfl, hH⟩ := hrel
    by_cases hlt : k < l.length
    · obtain ⟨a, rfl, _, c1⟩ := (HV.out.below hH.low (Nat.le_refl _)).at hlt
      obtain ⟨g', c', hA, _, _, _, _, hcell, hfr⟩ := row_at (hH.row 0 rfl) (by omega)
      injection hA with hA _ _
      injection hA with hA
      injection hA with hA _ _
      subst hA
      have c2 := hcell k _ (nums_at (by rw [upN_length l hk]; omega))
      have f2 := hfr k
      clear hcell hfr
      have H3 := hH.put 0 rfl k (.int .i64 (nth l k : Nat))
      rw [nums_set, upN_set l hlt] at H3
      have HN := hide H3; clear H3
      generalize nth l k = x at *
      generalize (upN l k)[k]'_ = y at c2
      go_wp2
      go_roundw
      case rel => exact ⟨k + 1, by omega, by go_num, HN.out⟩
      case measure => simp [intOf]; omega
    · obtain rfl : k = l.length := by omega
      rw [upN_all] at hH
      clear hlt hk
      go_wp2
      go_ret
      exact ⟨_, rfl, hH⟩

set_option maxRecDepth 100000 in
set_option maxHeartbeats 1000000 in
theorem constant6_any (x : Nat) (w : World) :
    Calls Try.prog 82 #[.int .i64 (x : Nat)] w fun e w' => ∃ u, e = .returned u ∧ Holds w w' [pPo u (trimN [x])] := by
  have H1 := (Holds.start w).poNew #[.int .i64 (x : Nat)] 42 [x] (by simp) w.heap.size 1 rfl rfl (one_cells _)
  have C1 := hide (cut6_any (some ⟨w.heap.size, 0, none⟩) 1 [x] (by simp) (by simp) _ (H1.poRd 0 rfl))
  have H2 := H1.poCut 0 rfl (tl_le [x] 1)
  have H3 := hide H2; clear H2 H1
  go_enter Try.func82, Try.ntmps82
  go_wp2_with fail
  refine C1.out.mono ?_
  rintro e w1 ⟨rfl, rfl⟩
  go_wp2
  go_ret
  exact ⟨_, rfl, H3.out⟩

set_option maxRecDepth 100000 in
set_option maxHeartbeats 4000000 in
theorem add6_any (v : Value) (l : List Nat) (cnt : Nat) (hc : cnt < 10007) (gv : Value) (g : List Nat) (off : Nat) (hoff : off + g.length ≤ l.length) (pl : Po l) (pg : Po g) (w0 w : World) (L : List Part) (H : Holds w0 w L) (i : Nat) (hi : L[i]? = some (pPo v l)) (hg : RdN w0 gv g) :
    Calls Try.prog 80 #[v, .int .i64 (cnt : Nat), gv, .int .i64 (off : Nat)] w fun e w' => e = .returned (.tuple #[]) ∧ Holds w0 w' (L.set i (pPo v (rowL l cnt g off g.length))) := by
  have hlen := H.poLen i hi
  obtain ⟨A, c, rfl, hcap⟩ := H.poForm i hi
  have hil : i < L.length := (List.getElem?_eq_some_iff.1 hi).1
  obtain ⟨B, d, rfl, _⟩ := hg.form
  have hpart : ∃ P : Option Addr, (0 < g.length → ∃ b, A = some ⟨b, 0, none⟩ ∧ P = some ⟨b, off, none⟩) ∧ ∀ w : World, (Instr.sliceAt 44 (.slice A l.length c) (some (.int .i64 (off : Nat))) (some (.int .i64 ((off : Int) + (g.length : Int)))) (some (.int .i64 ((off : Int) + (g.length : Int))))).run Try.prog w = .ok (.slice P g.length g.length) w := by
    refine ⟨_, fun h0 => ?_, fun w => run_partPo A l.length c off g.length (by omega) w⟩
    obtain ⟨b, c', e, _⟩ := H.poAt i hi (by omega)
    injection e with e1 _ _
    subst e1
    exact ⟨b, rfl, by rw [if_neg (by omega)]; simp [Addr.add]; exact Eq.symm⟩
  obtain ⟨P, hP, hS⟩ := hpart
  have HP := hide hP; clear hP
  have HI := hide (And.intro hi hil)
  have HG := hide hg; clear hg
  have H0 : Holds w0 w (L.set i (pPo (.slice A l.length c) (rowL l cnt g off 0))) := by
    have e : L.set i (pPo (.slice A l.length c) (rowL l cnt g off 0)) = L := set_same' hi
    rw [e]; exact H
  have PL := hide pl; clear pl
  have PG := hide pg; clear pg
  have CT := hide resTimes_any
  have CP := hide resPlus_any
  clear H hi hil
  go_enter Try.func80, Try.ntmps80
  go_wp2
  clear hS
  go_loopw [24] (fun t wr => ∃ k : Nat, k ≤ g.length ∧ t = .int .i64 k ∧ Holds w0 wr (L.set i (pPo (.slice A l.length c) (rowL l cnt g off k)))) (fun t _ => g.length - (intOf t).toNat)
  case atStart => exact ⟨0, Nat.zero_le _, rfl, H0⟩
  case round =>
    clear H0
    obtain ⟨k, hk, rfl, hH⟩ := hrel
    by_cases hlt : k < g.length
    · obtain ⟨b, rfl, rfl⟩ := HP.out (by omega)
      obtain ⟨a, rfl, _, c1⟩ := (HG.out.below hH.low (Nat.le_refl _)).at hlt
      have hx := PG.out.nth k
      have hy := (rowL_po PL.out cnt g off k (by omega)).nth (off + k)
      have hii : (L.set i (pPo (.slice (some ⟨b, 0, none⟩) l.length c) (rowL l cnt g off k)))[i]? = some (pPo (.slice (some ⟨b, 0, none⟩) l.length c) (rowL l cnt g off k)) := by
        rw [List.getElem?_set_self HI.out.2]
      have hll : off + k < (rowL l cnt g off k).length := by rw [rowL_length]; omega
      have hnw : ∀ wx, Holds w0 wx (L.set i (pPo (.slice (some ⟨b, 0, none⟩) l.length c) (rowL l cnt g off k))) → wx.cell? ⟨b, off + k, none⟩ = some (.int .i64 (nth (rowL l cnt g off k) (off + k) : Nat)) ∧ wx.frozen? ⟨b, off + k, none⟩ = false ∧
          Holds w0 (wx.setCell ⟨b, off + k, none⟩ (.int .i64 (((nth (rowL l cnt g off k) (off + k) + nth g k * cnt % 10007) % 10007 : Nat) : Int))) (L.set i (pPo (.slice (some ⟨b, 0, none⟩) l.length c) (rowL l cnt g off (k + 1)))) := fun wx hx => by
        obtain ⟨b', c', e, _, _, h3, h4⟩ := hx.poAt i hii (by omega)
        injection e with e _ _
        injection e with e
        injection e with e _ _
        subst e
        refine ⟨h3 _ hll, h4 _, ?_⟩
        have := hx.poSet i hii hll ((nth (rowL l cnt g off k) (off + k) + nth g k * cnt % 10007) % 10007)
        rw [List.set_set] at this
        exact this
      have NWF := hide hnw; clear hnw hii hll
      generalize nth (rowL l cnt g off k) (off + k) = y at *
      generalize nth g k = x at *
      have ct := CT.out x cnt hx hc
      have cp := CP.out y (x * cnt % 10007) hy (Nat.mod_lt _ (by decide))
      have hz : (y + x * cnt % 10007) % 10007 < 10007 := Nat.mod_lt _ (by decide)
      obtain ⟨p, hp⟩ : ∃ p, p = x * cnt % 10007 := ⟨_, rfl⟩
      rw [← hp] at ct cp NWF hz
      obtain ⟨z, hz2⟩ : ∃ z, z = (y + p) % 10007 := ⟨_, rfl⟩
      rw [← hz2] at cp NWF hz
      replace ct := hide ct
      replace cp := hide cp
      clear hp hz2
      go_wp2
      refine region_tail (fun wx => Holds w0 wx (L.set i (pPo (.slice (some ⟨b, 0, none⟩) l.length c) (rowL l cnt g off k)))) 11 (by kernel_rfl) (by kernel_rfl) hH.drew ?_
      simp only [List.take_succ_cons, List.take_zero, List.drop_succ_cons, List.drop_zero]
      iterate 8
        apply q_step
        · go_simp
        · intro wx hx
          have q1 := (NWF.out wx hx).1
          go_simp
          try exact rfl
      iterate 1
        apply q_step
        · go_simp
        · intro wx hx'
          go_simp
          exact Calls.mono (ct.out wx) fun e w' h => ⟨h.1, h.2 ▸ hx'⟩
      iterate 1
        apply q_step
        · go_simp
        · intro wx hx'
          go_simp
          exact Calls.mono (cp.out wx) fun e w' h => ⟨h.1, h.2 ▸ hx'⟩
      iterate 1
        apply q_step
        · go_simp
        · intro wx hx
          go_simp
          try exact rfl
      refine wpQuiet_nil ?_
      intro w4 H4
      obtain ⟨q1, q2, H5⟩ := NWF.out w4 H4
      replace H5 := hide H5
      go_wp2
      go_roundw
      case rel => exact ⟨k + 1, by omega, by go_num, H5.out⟩
      case measure => simp [intOf]; omega
    · obtain rfl : k = g.length := by omega
      clear hlt hk
      go_wp2
      go_end0
      exact ⟨rfl, hH⟩
end Go.Proofs.Ytijgcjpngpifnaa
