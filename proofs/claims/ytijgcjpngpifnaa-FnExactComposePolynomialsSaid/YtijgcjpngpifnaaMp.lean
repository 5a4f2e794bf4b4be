/- The model's sums, products, derivatives. -/
import Derived.Test.YtijgcjpngpifnaaPdv
namespace Go.Proofs.Ytijgcjpngpifnaa
open Go.RowKit

theorem wrapN (n : Int) (h0 : -9223372036854775808 ≤ n) (h1 : n ≤ 9223372036854775807) : IntKind.i64.wrap n = n := by rw [IntKind.wrap_i64]; omega
theorem RdN.nil (w : World) (c : Nat) : RdN w (.slice none 0 c) [] := ⟨none, c, rfl, by simp, fun i x h => by simp at h⟩
theorem Holds.intsCap {w0 w : World} {L : List Part} (h : Holds w0 w L) (i : Nat) {v : Value} {l : List Nat} (hi : L[i]? = some (pInts v l)) : ∃ A c, v = .slice A l.length c ∧ l.length ≤ c := by
  rcases (h.row i hi).2 with ⟨e1, h0⟩ | ⟨g, cap, cur, e1, hB, hh, h1, h2, h3, h4⟩
  · exact ⟨none, 0, by rw [e1, h0], by omega⟩
  · exact ⟨_, cap, e1, h1⟩
theorem mulZ_bds (k : Int) (y : Nat) (hk : -10007 ≤ k ∧ k ≤ 10007) (hy : y < 10007) : -100140049 ≤ k * (y : Int) ∧ k * (y : Int) ≤ 100140049 := by
  have h2 : ∀ a : Nat, a ≤ 10007 → (a : Int) * (y : Int) ≤ 100140049 ∧ 0 ≤ (a : Int) * (y : Int) := fun a ha => by
    have := Nat.mul_le_mul ha (show y ≤ 10007 by omega)
    rw [← Int.natCast_mul]; omega
  rcases Int.le_total 0 k with c | c
  · obtain ⟨a, rfl⟩ := Int.eq_ofNat_of_zero_le c
    have := h2 a (by omega)
    omega
  · obtain ⟨a, ha⟩ := Int.eq_ofNat_of_zero_le (show 0 ≤ -k by omega)
    obtain rfl : k = -(a : Int) := by omega
    have := h2 a (by omega)
    rw [Int.neg_mul]
    omega
/-- the first numbers of a sum -/
def addP (f g : List Nat) (k : Int) (i : Nat) : List Nat := (List.range i).map fun i => mdZ ((nth f i : Int) + k * (nth g i : Int))
theorem addP_length (f g : List Nat) (k : Int) (i : Nat) : (addP f g k i).length = i := by simp [addP]
theorem addP_succ (f g : List Nat) (k : Int) (i : Nat) {x : Int} (h : x = (nth f i : Int) + k * (nth g i : Int)) : addP f g k (i + 1) = addP f g k i ++ [mdZ x] := by subst h; unfold addP; rw [List.range_succ, List.map_append]; rfl
theorem addP_all (f g : List Nat) (k : Int) {i : Nat} (h : i = max f.length g.length) : addP f g k i = addR f g k := by subst h; rfl

set_option maxRecDepth 100000 in
set_option maxHeartbeats 2000000 in
theorem sAdd6_any (u v : Value) (f g : List Nat) (k : Int) (hk : -10007 ≤ k ∧ k ≤ 10007) (pf : Po f) (pg : Po g) (lf : f.length ≤ 1000) (lg : g.length ≤ 1000) (w : World) (hu : RdN w u f) (hv : RdN w v g) :
    Calls Try.prog 50 #[u, v, .int .i64 k] w fun e w' => ∃ r, e = .returned r ∧ Holds w w' [pInts r (addL f g k)] := by
  obtain ⟨A, c, rfl, _⟩ := hu.form
  obtain ⟨B, d, rfl, _⟩ := hv.form
  have HU := hide hu; clear hu
  have HV := hide hv; clear hv
  have PF := hide pf; clear pf
  have PG := hide pg; clear pg
  have CM := hide sMod_any
  have BD := hide fun y hy => mulZ_bds k y hk hy
  have CC := hide strim6_any
  obtain ⟨N, hN⟩ : ∃ N, N = max f.length g.length := ⟨_, rfl⟩
  have hN1 : f.length ≤ N ∧ g.length ≤ N ∧ N ≤ 1000 := by omega
  have HN := hide hN; clear hN
  have H0 : Holds w (w.alloc (.cells #[] 2)) [pInts (.slice (some ⟨w.heap.size, 0, none⟩) 0 0) (addP f g k 0)] := (Holds.start w).rowNew #[] 2 1 0 w.heap.size rfl rfl (by decide)
  go_enter Try.func50, Try.ntmps50
  go_wp2
  go_loopw [7, 8] (fun s t wr => ∃ i : Nat, i ≤ N ∧ t = .int .i64 i ∧ Holds w wr [pInts s (addP f g k i)]) (fun _ t _ => N - (intOf t).toNat)
  case atStart => exact ⟨0, Nat.zero_le _, rfl, H0⟩
  case round =>
    clear H0
    obtain ⟨i, hi, rfl, hH⟩ := hrel
    by_cases h1 : i < f.length
    · have d1 : decide ((i : Int) < (f.length : Int)) = true := decide_eq_true (by omega)
      obtain ⟨a, rfl, _, c1⟩ := (HU.out.below hH.low (Nat.le_refl _)).at h1
      have hy := PF.out.nth i
      by_cases h2 : i < g.length
      · have d2 : decide ((i : Int) < (g.length : Int)) = true := decide_eq_true (by omega)
        obtain ⟨b, rfl, _, c2⟩ := (HV.out.below hH.low (Nat.le_refl _)).at h2
        have hx := PG.out.nth i
        have HS := hide (addP_succ f g k i rfl)
        obtain ⟨b1, b2⟩ := BD.out _ hx
        generalize nth f i = y at *
        generalize nth g i = x at *
        have hln := addP_length f g k i
        generalize addP f g k i = al at *
        subst hln
        have H2 := hH.blk #[.int .i64 ((mdZ ((y : Int) + k * (x : Int)) : Nat) : Int)] 2 wr.heap.size rfl
        have hmod := CM.out ((y : Int) + k * (x : Int)) (by omega)
        replace hmod := hide hmod
        go_wp2_with fail
        refine (hmod.out _).mono ?_
        rintro e w3 ⟨rfl, rfl⟩
        go_wp2_with (at_builtin; refine appI H2 1 rfl wr.heap.size [mdZ ((y : Int) + k * (x : Int))] 2 (H2.at 0 rfl) (by simp only [List.length_singleton]; omega) rfl _ _ rfl rfl rfl ?_)
        intro v' w' h3
        have h4 : Holds w w' [pInts v' (addP f g k (al.length + 1))] := by
          rw [HS.out]
          exact Holds.tail h3
        have H4 := hide h4; clear h4 h3 H2 hH
        go_wp2
        go_roundw
        case rel => exact ⟨al.length + 1, by omega, by go_num, H4.out⟩
        case measure => simp [intOf]; omega

      · have d2 : decide ((i : Int) < (g.length : Int)) = false := decide_eq_false (by omega)
        have hval : (nth f i : Int) = (nth f i : Int) + k * (nth g i : Int) := by rw [nth_ge (l := g) (by omega)]; simp
        have HVAL := hide hval; clear hval
        obtain ⟨y, hyy⟩ : ∃ y, y = nth f i := ⟨_, rfl⟩
        rw [← hyy] at c1 hy
        have hval : (y : Int) = (nth f i : Int) + k * (nth g i : Int) := by rw [hyy]; exact HVAL.out
        clear HVAL hyy
        have HS := hide (addP_succ f g k i (x := (y : Int)) hval); clear hval
        have hln := addP_length f g k i
        generalize addP f g k i = al at *
        subst hln
        have H2 := hH.blk #[.int .i64 ((mdZ ((y : Int)) : Nat) : Int)] 2 wr.heap.size rfl
        have hmod := CM.out ((y : Int)) (by omega)
        replace hmod := hide hmod
        go_wp2_with fail
        refine (hmod.out _).mono ?_
        rintro e w3 ⟨rfl, rfl⟩
        go_wp2_with (at_builtin; refine appI H2 1 rfl wr.heap.size [mdZ ((y : Int))] 2 (H2.at 0 rfl) (by simp only [List.length_singleton]; omega) rfl _ _ rfl rfl rfl ?_)
        intro v' w' h3
        have h4 : Holds w w' [pInts v' (addP f g k (al.length + 1))] := by
          rw [HS.out]
          exact Holds.tail h3
        have H4 := hide h4; clear h4 h3 H2 hH
        go_wp2
        go_roundw
        case rel => exact ⟨al.length + 1, by omega, by go_num, H4.out⟩
        case measure => simp [intOf]; omega

    · have d1 : decide ((i : Int) < (f.length : Int)) = false := decide_eq_false (by omega)
      by_cases h2 : i < g.length
      · have d2 : decide ((i : Int) < (g.length : Int)) = true := decide_eq_true (by omega)
        obtain ⟨b, rfl, _, c2⟩ := (HV.out.below hH.low (Nat.le_refl _)).at h2
        have hx := PG.out.nth i
        have hval : k * (nth g i : Int) = (nth f i : Int) + k * (nth g i : Int) := by rw [nth_ge (l := f) (by omega)]; simp
        obtain ⟨b1, b2⟩ := BD.out _ hx
        have HVAL := hide hval; clear hval
        obtain ⟨x, hxx⟩ : ∃ x, x = nth g i := ⟨_, rfl⟩
        rw [← hxx] at c2 hx b1 b2
        have hval : k * (x : Int) = (nth f i : Int) + k * (nth g i : Int) := by rw [hxx]; exact HVAL.out
        clear HVAL hxx
        have HS := hide (addP_succ f g k i (x := k * (x : Int)) hval); clear hval
        have hln := addP_length f g k i
        generalize addP f g k i = al at *
        subst hln
        have H2 := hH.blk #[.int .i64 ((mdZ (k * (x : Int)) : Nat) : Int)] 2 wr.heap.size rfl
        have hmod := CM.out (k * (x : Int)) (by omega)
        replace hmod := hide hmod
        go_wp2_with fail
        refine (hmod.out _).mono ?_
        rintro e w3 ⟨rfl, rfl⟩
        go_wp2_with (at_builtin; refine appI H2 1 rfl wr.heap.size [mdZ (k * (x : Int))] 2 (H2.at 0 rfl) (by simp only [List.length_singleton]; omega) rfl _ _ rfl rfl rfl ?_)
        intro v' w' h3
        have h4 : Holds w w' [pInts v' (addP f g k (al.length + 1))] := by
          rw [HS.out]
          exact Holds.tail h3
        have H4 := hide h4; clear h4 h3 H2 hH
        go_wp2
        go_roundw
        case rel => exact ⟨al.length + 1, by omega, by go_num, H4.out⟩
        case measure => simp [intOf]; omega

      · have d2 : decide ((i : Int) < (g.length : Int)) = false := decide_eq_false (by omega)
        have hall := addP_all f g k (i := i) (by have := HN.out; omega)
        rw [hall] at hH
        obtain ⟨R, rc, rfl, hrc⟩ := hH.intsCap 0 rfl
        have hlen : (addR f g k).length ≤ 1000 := by rw [addR_length]; omega
        have hC := CC.out R rc (addR f g k) hrc (by omega) _ (hH.intsRd 0 rfl (by omega))
        have HC := hide hC; clear hC
        have HL := hide hH.low; clear hH
        go_wp2_with fail
        refine HC.out.mono ?_
        rintro e w3 ⟨r, rfl, h3⟩
        have h4 : Holds w w3 [pInts r (addL f g k)] := ((show Holds w wr [] from ⟨HL.out, by simp, List.Pairwise.nil⟩).joinA h3)
        have H4 := hide h4; clear h4 h3
        go_wp2
        go_ret
        exact ⟨_, rfl, H4.out⟩

theorem mulS_step (acc : List Nat) (c : Nat) (g : List Nat) (off k : Nat) (hy : nth (rowL acc c g off k) (off + k) < 10007) : rowL acc c g off (k + 1) = (rowL acc c g off k).set (off + k) (mdZ ((nth (rowL acc c g off k) (off + k) : Int) + (c : Int) * (nth g k : Int))) := by
  conv => lhs; unfold rowL
  congr 1
  rw [← Int.natCast_mul, ← Int.natCast_add, mdZ_nat, Nat.add_mod_mod, Nat.mul_comm]
theorem Holds.putI {w0 w : World} {L : List Part} (h : Holds w0 w L) (i : Nat) {g n c : Nat} {l : List Nat} (hi : L[i]? = some (pInts (.slice (some ⟨g, 0, none⟩) n c) l)) (j x : Nat) :
    Holds w0 (w.setCell ⟨g, j, none⟩ (.int .i64 (x : Nat))) (L.set i (pInts (.slice (some ⟨g, 0, none⟩) n c) (l.set j x))) := by
  obtain ⟨A, c', e⟩ := h.intsForm i hi
  injection e with _ e2 _
  subst e2
  have := h.put i hi j (.int .i64 (x : Nat))
  rw [nums_set] at this
  unfold pInts
  rw [List.length_set]
  exact this
set_option maxRecDepth 100000 in
set_option maxHeartbeats 4000000 in
theorem sTimes6_any (u v : Value) (f g : List Nat) (pf : Po f) (zf : Lz f) (pg : Po g) (zg : Lz g) (lf : f.length ≤ 1000) (lg : g.length ≤ 1000) (w : World) (hu : RdN w u f) (hv : RdN w v g) :
    Calls Try.prog 53 #[u, v] w fun e w' => ∃ r, e = .returned r ∧ Holds w w' [pInts r (timesL f g)] := by
  obtain ⟨A, c, rfl, _⟩ := hu.form
  obtain ⟨B, d, rfl, _⟩ := hv.form
  have htr := trimN_id (timesL_lz pf pg zf zg)
  by_cases hf : f = []
  · have h1 := timesL_none (f := f) (g := g) (.inl hf)
    have h2 : Holds w (w.alloc (.cells #[] 2)) [pInts (.slice (some ⟨w.heap.size, 0, none⟩) 0 0) (timesL f g)] := by rw [h1]; exact (Holds.start w).rowNew #[] 2 1 0 w.heap.size rfl rfl (by decide)
    have H2 := hide h2; clear h2 h1 hu hv pf pg zf zg htr
    have d0 : ((f.length : Int) == 0) = true := by rw [hf]; rfl
    clear hf
    go_enter Try.func53, Try.ntmps53
    go_wp2
    go_ret
    exact ⟨_, rfl, H2.out⟩
  · have lf0 := List.length_pos_iff.2 hf
    have d0 : ((f.length : Int) == 0) = false := by simp; exact hf
    by_cases hg : g = []
    · have h1 := timesL_none (f := f) (g := g) (.inr hg)
      have h2 : Holds w (w.alloc (.cells #[] 2)) [pInts (.slice (some ⟨w.heap.size, 0, none⟩) 0 0) (timesL f g)] := by rw [h1]; exact (Holds.start w).rowNew #[] 2 1 0 w.heap.size rfl rfl (by decide)
      have H2 := hide h2; clear h2 h1 hu hv pf pg zf zg htr
      have d1 : ((g.length : Int) == 0) = true := by rw [hg]; rfl
      clear hg hf
      go_enter Try.func53, Try.ntmps53
      go_wp2
      go_ret
      exact ⟨_, rfl, H2.out⟩
    · have lg0 := List.length_pos_iff.2 hg
      have d1 : ((g.length : Int) == 0) = false := by simp; exact hg
      have hres := timesL_some hf hg
      have hml := mulT_length f g
      obtain ⟨m, hm⟩ : ∃ m, m = f.length + g.length - 1 := ⟨_, rfl⟩
      have hmi : (f.length : Int) + (g.length : Int) - 1 = (m : Int) := by omega
      have hmul : ∀ i, i ≤ f.length → Po (mulT f g i) := mulT_po f g hg
      rw [← hm] at hml
      have hm2 : m ≤ 2000 := by omega
      have HTR := hide htr; clear htr
      have HM := hide hm; clear hm
      have HML := hide hml; clear hml
      have HRES := hide hres; clear hres
      have HMUL := hide hmul; clear hmul
      have HU := hide hu; clear hu
      have HV := hide hv; clear hv
      have PF := hide pf; clear pf zf zg
      have PG := hide pg; clear pg hf hg
      have CM := hide sMod_any
      have CC := hide strim6_any
      obtain ⟨i0, hi, hz0, hz1, hz2⟩ := info_parts info64
      have I0 := hide (And.intro hi (And.intro hz0 (And.intro hz1 hz2))); clear hi hz0 hz1 hz2
      go_enter Try.func53, Try.ntmps53
      go_wp2_with (refine makeH rfl 22 _ _ rfl 2 i0 (.int .i64 0) 8 Try.underlying22 I0.out.1 I0.out.2.1 I0.out.2.2.1 I0.out.2.2.2 rfl m .i64 .i64 rfl rfl (by omega) (by decide) (Holds.start w) ?_)
      intro w1 H1
      have H2 : Holds w w1 [pInts (.slice (some ⟨w.heap.size, 0, none⟩) m m) (mulT f g 0)] := by
        have e : mulT f g 0 = List.replicate m 0 := by rw [HM.out]; rfl
        rw [e]
        unfold pInts
        rw [← nums_zero, List.length_replicate]
        exact H1
      clear H1
      generalize hG : w.heap.size = G at *
      have HG := hide hG; clear hG
      go_wp2
      go_loopw [6] (fun t wr => ∃ i : Nat, i ≤ f.length ∧ t = .int .i64 i ∧ Holds w wr [pInts (.slice (some ⟨G, 0, none⟩) m m) (mulT f g i)]) (fun t _ => f.length - (intOf t).toNat)
      case atStart => exact ⟨0, Nat.zero_le _, rfl, H2⟩
      case round =>
        clear H2
        obtain ⟨i, hi, rfl, hH⟩ := hrel
        by_cases hlt : i < f.length
        · have hst : mulT f g (i + 1) = rowL (mulT f g i) (nth f i) g i g.length := rfl
          have hml2 := HML.out i
          have hpo := HMUL.out i hi
          have hxf := PF.out.nth i
          have HST := hide hst; clear hst
          obtain ⟨acc, hacc⟩ : ∃ acc, acc = mulT f g i := ⟨_, rfl⟩
          rw [← hacc] at hH hml2 hpo HST
          have HPO := hide hpo; clear hpo
          have HACC := hide hacc; clear hacc
          have HX := hide (fun (wx : World) (hb : Below w.heap.size w wx) => (HU.out.below hb (Nat.le_refl _)).at hlt)
          obtain ⟨xf, hxe⟩ : ∃ xf, xf = nth f i := ⟨_, rfl⟩
          rw [← hxe] at hxf HST HX
          have HXE := hide hxe; clear hxe
          have d3 : decide ((i : Int) < (f.length : Int)) = true := decide_eq_true (by omega)
          have hmm : i + g.length ≤ m := by have := HM.out; omega
          go_wp2
          go_loopw [7] (fun t wr => ∃ k : Nat, k ≤ g.length ∧ t = .int .i64 k ∧ Holds w wr [pInts (.slice (some ⟨G, 0, none⟩) m m) (rowL acc xf g i k)]) (fun t _ => g.length - (intOf t).toNat)
          case atStart => exact ⟨0, Nat.zero_le _, rfl, hH⟩
          case round =>
            clear hH
            obtain ⟨k, hk, rfl, hH⟩ := hrel
            by_cases hlk : k < g.length
            · have hsz : (rowL acc xf g i k).length = m := by rw [rowL_length]; exact hml2
              have hy := (rowL_po HPO.out xf g i k (by omega)).nth (i + k)
              have hx := PG.out.nth k
              have hstep := mulS_step acc xf g i k hy
              obtain ⟨j, hj⟩ : ∃ j, j = i + k := ⟨_, rfl⟩
              have hji : (i : Int) + (k : Int) = (j : Int) := by omega
              have hjm : j < m := by omega
              obtain ⟨a, rfl, _, _⟩ := HX.out wr hH.low
              obtain ⟨b, rfl, _, _⟩ := (HV.out.below hH.low (Nat.le_refl _)).at hlk
              rw [← hj] at hstep hy
              have hnw : ∀ wx, Holds w wx [pInts (.slice (some ⟨G, 0, none⟩) m m) (rowL acc xf g i k)] → wx.cell? ⟨G, j, none⟩ = some (.int .i64 (nth (rowL acc xf g i k) j : Nat)) ∧ wx.cell? (a.add i) = some (.int .i64 (xf : Nat)) ∧ wx.cell? (b.add k) = some (.int .i64 (nth g k : Nat)) ∧ wx.frozen? ⟨G, j, none⟩ = false ∧
                  Holds w (wx.setCell ⟨G, j, none⟩ (.int .i64 ((mdZ ((nth (rowL acc xf g i k) j : Int) + (xf : Int) * (nth g k : Int)) : Nat) : Int))) [pInts (.slice (some ⟨G, 0, none⟩) m m) (rowL acc xf g i (k + 1))] := fun wx hx => by
                obtain ⟨g', c', e, _, h3, h4⟩ := hx.ints 0 rfl (k := j) (by rw [hsz]; exact hjm)
                injection e with e _ _
                injection e with e
                injection e with e _ _
                subst e
                obtain ⟨a', e', _, h5⟩ := HX.out wx hx.low
                cases e'
                obtain ⟨b', e', _, h6⟩ := (HV.out.below hx.low (Nat.le_refl _)).at hlk
                cases e'
                refine ⟨by rw [h3, nth_lt (by rw [hsz]; exact hjm)], h5, h6, h4, ?_⟩
                have := hx.putI 0 rfl j (mdZ ((nth (rowL acc xf g i k) j : Int) + (xf : Int) * (nth g k : Int)))
                rw [hstep]
                exact this
              have NWF := hide hnw; clear hnw hstep hsz
              have HJ := hide hj; clear hj
              generalize nth (rowL acc xf g i k) j = y at *
              generalize nth g k = x at *
              obtain ⟨b1, b2⟩ := mul_bds xf x hxf hx
              have hmod := hide (CM.out ((y : Int) + (xf : Int) * (x : Int)) (by omega))
              have hw1 : IntKind.i64.wrap (j : Int) = (j : Int) := wrapN _ (by omega) (by omega)
              have hw2 : IntKind.i64.wrap ((xf : Int) * (x : Int)) = (xf : Int) * (x : Int) := wrapN _ (by omega) (by omega)
              have hw3 : IntKind.i64.wrap ((y : Int) + (xf : Int) * (x : Int)) = (y : Int) + (xf : Int) * (x : Int) := wrapN _ (by omega) (by omega)
              go_wp2
              refine region_tail (fun wx => Holds w wx [pInts (.slice (some ⟨G, 0, none⟩) m m) (rowL acc xf g i k)]) 22 (by kernel_rfl) (by kernel_rfl) hH.drew ?_
              simp only [List.take_succ_cons, List.take_zero, List.drop_succ_cons, List.drop_zero]
              iterate 20
                apply q_step
                · go_simp
                · intro wx hx'
                  have q1 := (NWF.out wx hx').1
                  have q2 := (NWF.out wx hx').2.1
                  have q3 := (NWF.out wx hx').2.2.1
                  go_simp
                  try exact rfl
              iterate 1
                apply q_step
                · go_simp
                · intro wx hx'
                  skip
                  go_simp
                  exact Calls.mono (hmod.out wx) fun e w' h => ⟨h.1, h.2 ▸ hx'⟩
              iterate 1
                apply q_step
                · go_simp
                · intro wx hx'
                  skip
                  go_simp
                  try exact rfl
              refine wpQuiet_nil ?_
              intro w4 H4
              obtain ⟨q1, _, _, q2, H5⟩ := NWF.out w4 H4
              replace H5 := hide H5
              go_wp2
              go_roundw
              case rel => exact ⟨k + 1, by omega, by go_num, H5.out⟩
              case measure => simp [intOf]; omega
            · obtain rfl : k = g.length := by omega
              rw [← HST.out] at hH
              clear hlk hk
              go_wp2
              go_roundw
              case rel => exact ⟨i + 1, by omega, by go_num, hH⟩
              case measure => simp [intOf]; omega
        · obtain rfl : i = f.length := by omega
          rw [← HRES.out] at hH
          obtain ⟨R, rc, hR, hrc⟩ := hH.intsCap 0 rfl
          have hlm : (timesL f g).length = m := by rw [HRES.out]; exact HML.out _
          have hC := CC.out (some ⟨G, 0, none⟩) m (timesL f g) (by omega) (by omega) wr (by have := hH.intsRd 0 rfl (by omega); rw [hlm]; exact this)
          rw [hlm, HTR.out] at hC
          have HC := hide hC; clear hC
          have HL := hide hH.low; clear hH hR hrc hlm hlt hi
          go_wp2_with fail
          refine HC.out.mono ?_
          rintro e w3 ⟨r, rfl, h3⟩
          have h4 : Holds w w3 [pInts r (timesL f g)] := ((show Holds w wr [] from ⟨HL.out, by simp, List.Pairwise.nil⟩).joinA h3)
          have H4 := hide h4; clear h4 h3
          go_wp2
          go_ret
          exact ⟨_, rfl, H4.out⟩

set_option maxRecDepth 100000 in
set_option maxHeartbeats 1000000 in
theorem sSlope6_any (v : Value) (f : List Nat) (pf : Po f) (zf : Lz f) (lf : f.length ≤ 1000) (w : World) (hv : RdN w v f) :
    Calls Try.prog 58 #[v] w fun e w' => ∃ r, e = .returned r ∧ Holds w w' [pInts r (dervL f)] := by
  obtain ⟨A, c, rfl, _⟩ := hv.form
  have htr := trimN_id (dervL_lz pf zf (by omega))
  have HTR := hide htr; clear htr zf
  have HV := hide hv; clear hv
  have PF := hide pf; clear pf
  have CM := hide sMul_any
  have CC := hide strim6_any
  have MB := hide mul_bds
  have H0 : Holds w (w.alloc (.cells #[] 2)) [pInts (.slice (some ⟨w.heap.size, 0, none⟩) 0 0) (dpN f 1)] := (Holds.start w).rowNew #[] 2 1 0 w.heap.size rfl rfl (by decide)
  go_enter Try.func58, Try.ntmps58
  go_wp2
  go_loopw [3, 4] (fun s t wr => ∃ k : Nat, 0 < k ∧ k ≤ f.length + 1 ∧ (k ≤ f.length ∨ k = 1) ∧ t = .int .i64 k ∧ Holds w wr [pInts s (dpN f k)]) (fun _ t _ => f.length + 1 - (intOf t).toNat)
  case atStart => exact ⟨1, by decide, by omega, .inr rfl, rfl, H0⟩
  case round =>
    clear H0
    obtain ⟨k, h0, hk, hk2, rfl, hH⟩ := hrel
    by_cases hlt : k < f.length
    · have d0 : decide ((k : Int) < (f.length : Int)) = true := decide_eq_true (by omega)
      obtain ⟨a, rfl, _, c1⟩ := (HV.out.below hH.low (Nat.le_refl _)).at hlt
      have hx := PF.out.nth k
      have hs := dpN_succ f h0
      have HS := hide hs; clear hs
      have hln : (dpN f k).length ≤ 1000 := by rw [dpN_length]; omega
      generalize nth f k = x at *
      obtain ⟨b1, b2⟩ := MB.out x k hx (by omega)
      have H2 := hH.blk #[.int .i64 ((x * k % 10007 : Nat) : Int)] 2 wr.heap.size rfl
      clear hk2
      go_wp2_with fail
      refine (CM.out x k hx (by omega) _).mono ?_
      rintro e w3 ⟨rfl, rfl⟩
      go_wp2_with (at_builtin; refine appI H2 1 rfl wr.heap.size [x * k % 10007] 2 (H2.at 0 rfl) (by simp only [List.length_singleton]; omega) rfl _ _ rfl rfl rfl ?_)
      intro v' w' h3
      have h4 : Holds w w' [pInts v' (dpN f (k + 1))] := by
        rw [HS.out]
        exact Holds.tail h3
      have H4 := hide h4; clear h4 h3 H2 hH
      go_wp2
      go_roundw
      case rel => exact ⟨k + 1, by omega, by omega, .inl (by omega), by go_num, H4.out⟩
      case measure => simp [intOf]; omega
    · have d0 : decide ((k : Int) < (f.length : Int)) = false := decide_eq_false (by omega)
      have hall : dpN f k = dervL f := by
        rcases hk2 with c | c
        · obtain rfl : k = f.length := by omega
          rfl
        · subst c
          have : f.length - 1 = 0 := by omega
          unfold dpN dervL
          rw [this]
      rw [hall] at hH
      obtain ⟨R, rc, rfl, hrc⟩ := hH.intsCap 0 rfl
      have hlen : (dervL f).length ≤ 1000 := by rw [dervL_length]; omega
      have hC := CC.out R rc (dervL f) hrc (by omega) _ (hH.intsRd 0 rfl (by omega))
      rw [HTR.out] at hC
      have HC := hide hC; clear hC
      have HL := hide hH.low; clear hH hk2 hall
      go_wp2_with fail
      refine HC.out.mono ?_
      rintro e w3 ⟨r, rfl, h3⟩
      have h4 : Holds w w3 [pInts r (dervL f)] := ((show Holds w wr [] from ⟨HL.out, by simp, List.Pairwise.nil⟩).joinA h3)
      have H4 := hide h4; clear h4 h3
      go_wp2
      go_ret
      exact ⟨_, rfl, H4.out⟩
end Go.Proofs.Ytijgcjpngpifnaa

