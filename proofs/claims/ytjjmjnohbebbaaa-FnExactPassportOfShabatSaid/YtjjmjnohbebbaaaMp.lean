/- The model's sums, products, derivatives. -/
import Derived.Test.YtjjmjnohbebbaaaPdv
namespace Go.Proofs.Ytjjmjnohbebbaaa
open Go.RowKit

theorem wrapN (n : Int) (h0 : -9223372036854775808 ≤ n) (h1 : n ≤ 9223372036854775807) : IntKind.i64.wrap n = n := by rw [IntKind.wrap_i64]; omega
theorem RdN.nil (w : World) (c : Nat) : RdN w (.slice none 0 c) [] := ⟨none, c, rfl, by simp, fun i x h => by simp at h⟩
theorem Holds.intsCap {w0 w : World} {L : List Part} (h : Holds w0 w L) (i : Nat) {v : Value} {l : List Nat} (hi : L[i]? = some (pInts v l)) : ∃ A c, v = .slice A l.length c ∧ l.length ≤ c := by
  rcases (h.row i hi).2 with ⟨e1, h0⟩ | ⟨g, cap, cur, e1, hB, hh, h1, h2, h3, h4⟩
  · exact ⟨none, 0, by rw [e1, h0], by omega⟩
  · exact ⟨_, cap, e1, h1⟩
theorem mulZ_bds (k : Int) (y : Nat) (hk : -10007 ≤ k ∧ k ≤ 10007) (hy : y < 10007) : -100140049 ≤ k * (y : Int) ∧ k * (y : Int) ≤ 100140049 := by
  have h2 : ∀ a : Nat, a ≤ 10007 → (a : Int) * (y : Int) ≤ 100140049 ∧ 0 ≤ (a : Int) * (y : Int) := fun a ha => by
    have := Nat.mul_le_mul ha (show y ≤ 10007 by omega)
    rw [← Int.natCast_mul]; omega
  rcases Int.le_total 0 k with c | c
  · obtain ⟨a, rfl⟩ := Int.eq_ofNat_of_zero_le c
    have := h2 a (by omega)
    omega
  · obtain ⟨a, ha⟩ := Int.eq_ofNat_of_zero_le (show 0 ≤ -k by omega)
    obtain rfl : k = -(a : Int) := by omega
    have := h2 a (by omega)
    rw [Int.neg_mul]
    omega
/-- the first numbers of a sum -/
def addP (f g : List Nat) (k : Int) (i : Nat) : List Nat := (List.range i).map fun i => mdZ ((nth f i : Int) + k * (nth g i : Int))
theorem addP_length (f g : List Nat) (k : Int) (i : Nat) : (addP f g k i).length = i := by simp [addP]
theorem addP_succ (f g : List Nat) (k : Int) (i : Nat) {x : Int} (h : x = (nth f i : Int) + k * (nth g i : Int)) : addP f g k (i + 1) = addP f g k i ++ [mdZ x] := by subst h; unfold addP; rw [List.range_succ, List.map_append]; rfl
theorem addP_all (f g : List Nat) (k : Int) {i : Nat} (h : i = max f.length g.length) : addP f g k i = addR f g k := by subst h; rfl

set_option maxRecDepth 100000 in
set_option maxHeartbeats 2000000 in
theorem sAdd6_any (u v : Value) (f g : List Nat) (k : Int) (hk : -10007 ≤ k ∧ k ≤ 10007) (pf : Po f) (pg : Po g) (lf : f.length ≤ 1000) (lg : g.length ≤ 1000) (w : World) (hu : RdN w u f) (hv : RdN w v g) :
    Calls Try.prog 26 #[u, v, .int .i64 k] w fun e w' => ∃ r, e = .returned r ∧ Holds w w' [pInts r (addL f g k)] := by
  obtain ⟨A, c, rfl, _⟩ := hu.form
  obtain ⟨B, d, rfl, _⟩ := hv.form
  have HU := hide hu; clear hu
  have HV := hide hv; clear hv
  have PF := hide pf; clear pf
  have PG := hide pg; clear pg
  have CM := hide sMod_any
  have BD := hide fun y hy => mulZ_bds k y hk hy
  have CC := hide strim6_any
  obtain ⟨N, hN⟩ : ∃ N, N = max f.length g.length := ⟨_, rfl⟩
  have hN1 : f.length ≤ N ∧ g.length ≤ N ∧ N ≤ 1000 := by omega
  have HN := hide hN; clear hN
  have H0 : Holds w (w.alloc (.cells #[] 2)) [pInts (.slice (some ⟨w.heap.size, 0, none⟩) 0 0) (addP f g k 0)] := (Holds.start w).rowNew #[] 2 1 0 w.heap.size rfl rfl (by decide)
  go_enter Try.func26, Try.ntmps26
  go_wp2
  go_loopw [7, 8] (fun s t wr => ∃ i : Nat, i ≤ N ∧ t = .int .i64 i ∧ Holds w wr [pInts s (addP f g k i)]) (fun _ t _ => N - (intOf t).toNat)
  case atStart => exact ⟨0, Nat.zero_le _, rfl, H0⟩
  case round =>
    clear H0
    obtain ⟨i, hi, rfl, hH⟩ := hrel
    by_cases h1 : i < f.length
    · have d1 : decide ((i : Int) < (f.length : Int)) = true := decide_eq_true (by omega)
      obtain ⟨a, rfl, _, c1⟩ := (HU.out.below hH.low (Nat.le_refl _)).at h1
      have hy := PF.out.nth i
      by_cases h2 : i < g.length
      · have d2 : decide ((i : Int) < (g.length : Int)) = true := decide_eq_true (by omega)
        obtain ⟨b, rfl, _, c2⟩ := (HV.out.below hH.low (Nat.le_refl _)).at h2
        have hx := PG.out.nth i
        have HS := hide (addP_succ f g k i rfl)
        obtain ⟨b1, b2⟩ := BD.out _ hx
        generalize nth f i = y at *
        generalize nth g i = x at *
        have hln := addP_length f g k i
        generalize addP f g k i = al at *
        subst hln
        have H2 := hH.blk #[.int .i64 ((mdZ ((y : Int) + k * (x : Int)) : Nat) : Int)] 2 wr.heap.size rfl
        have hmod := CM.out ((y : Int) + k * (x : Int)) (by omega)
        replace hmod := hide hmod
        go_wp2_with fail
        refine (hmod.out _).mono ?_
        rintro e w3 ⟨rfl, rfl⟩
        go_wp2_with (at_builtin; refine appI H2 1 rfl wr.heap.size [mdZ ((y : Int) + k * (x : Int))] 2 (H2.at 0 rfl) (by simp only [List.length_singleton]; omega) rfl _ _ rfl rfl rfl ?_)
        intro v' w' h3
        have h4 : Holds w w' [pInts v' (addP f g k (al.length + 1))] := by
          rw [HS.out]
          exact Holds.tail h3
        have H4 := hide h4; clear h4 h3 H2 hH
        go_wp2
        go_roundw
        case rel => exact ⟨al.length + 1, by omega, by go_num, H4.out⟩
        case measure => simp [intOf]; omega

      · have d2 : decide ((i : Int) < (g.length : Int)) = false := decide_eq_false (by omega)
        have hval : (nth f i : Int) = (nth f i : Int) + k * (nth g i : Int) := by rw [nth_ge (l := g) (by omega)]; simp
        have HVAL := hide hval; clear hval
        obtain ⟨y, hyy⟩ : ∃ y, y = nth f i := ⟨_, rfl⟩
        rw [← hyy] at c1 hy
        have hval : (y : Int) = (nth f i : Int) + k * (nth g i : Int) := by rw [hyy]; exact HVAL.out
        clear HVAL hyy
        have HS := hide (addP_succ f g k i (x := (y : Int)) hval); clear hval
        have hln := addP_length f g k i
        generalize addP f g k i = al at *
        subst hln
        have H2 := hH.blk #[.int .i64 ((mdZ ((y : Int)) : Nat) : Int)] 2 wr.heap.size rfl
        have hmod := CM.out ((y : Int)) (by omega)
        replace hmod := hide hmod
        go_wp2_with fail
        refine (hmod.out _).mono ?_
        rintro e w3 ⟨rfl, rfl⟩
        go_wp2_with (at_builtin; refine appI H2 1 rfl wr.heap.size [mdZ ((y : Int))] 2 (H2.at 0 rfl) (by simp only [List.length_singleton]; omega) rfl _ _ rfl rfl rfl ?_)
        intro v' w' h3
        have h4 : Holds w w' [pInts v' (addP f g k (al.length + 1))] := by
          rw [HS.out]
          exact Holds.tail h3
        have H4 := hide h4; clear h4 h3 H2 hH
        go_wp2
        go_roundw
        case rel => exact ⟨al.length + 1, by omega, by go_num, H4.out⟩
        case measure => simp [intOf]; omega

    · have d1 : decide ((i : Int) < (f.length : Int)) = false := decide_eq_false (by omega)
      by_cases h2 : i < g.length
      · have d2 : decide ((i : Int) < (g.length : Int)) = true := decide_eq_true (by omega)
        obtain ⟨b, rfl, _, c2⟩ := (HV.out.below hH.low (Nat.le_refl _)).at h2
        have hx := PG.out.nth i
        have hval : k * (nth g i : Int) = (nth f i : Int) + k * (nth g i : Int) := by rw [nth_ge (l := f) (by omega)]; simp
        obtain ⟨b1, b2⟩ := BD.out _ hx
        have HVAL := hide hval; clear hval
        obtain ⟨x, hxx⟩ : ∃ x, x = nth g i := ⟨_, rfl⟩
        rw [← hxx] at c2 hx b1 b2
        have hval : k * (x : Int) = (nth f i : Int) + k * (nth g i : Int) := by rw [hxx]; exact HVAL.out
        clear HVAL hxx
        have HS := hide (addP_succ f g k i (x := k * (x : Int)) hval); clear hval
        have hln := addP_length f g k i
        generalize addP f g k i = al at *
        subst hln
        have H2 := hH.blk #[.int .i64 ((mdZ (k * (x : Int)) : Nat) : Int)] 2 wr.heap.size rfl
        have hmod := CM.out (k * (x : Int)) (by omega)
        replace hmod := hide hmod
        go_wp2_with fail
        refine (hmod.out _).mono ?_
        rintro e w3 ⟨rfl, rfl⟩
        go_wp2_with (at_builtin; refine appI H2 1 rfl wr.heap.size [mdZ (k * (x : Int))] 2 (H2.at 0 rfl) (by simp only [List.length_singleton]; omega) rfl _ _ rfl rfl rfl ?_)
        intro v' w' h3
        have h4 : Holds w w' [pInts v' (addP f g k (al.length + 1))] := by
          rw [HS.out]
          exact Holds.tail h3
        have H4 := hide h4; clear h4 h3 H2 hH
        go_wp2
        go_roundw
        case rel => exact ⟨al.length + 1, by omega, by go_num, H4.out⟩
        case measure => simp [intOf]; omega

      · have d2 : decide ((i : Int) < (g.length : Int)) = false := decide_eq_false (by omega)
        have hall := addP_all f g k (i := i) (by have := HN.out; omega)
        rw [hall] at hH
        obtain ⟨R, rc, rfl, hrc⟩ := hH.intsCap 0 rfl
        have hlen : (addR f g k).length ≤ 1000 := by rw [addR_length]; omega
        have hC := CC.out R rc (addR f g k) hrc (by omega) _ (hH.intsRd 0 rfl (by omega))
        have HC := hide hC; clear hC
        have HL := hide hH.low; clear hH
        go_wp2_with fail
        refine HC.out.mono ?_
        rintro e w3 ⟨r, rfl, h3⟩
        have h4 : Holds w w3 [pInts r (addL f g k)] := ((show Holds w wr [] from ⟨HL.out, by simp, List.Pairwise.nil⟩).joinA h3)
        have H4 := hide h4; clear h4 h3
        go_wp2
        go_ret
        exact ⟨_, rfl, H4.out⟩

theorem mulS_step (acc : List Nat) (c : Nat) (g : List Nat) (off k : Nat) (hy : nth (rowL acc c g off k) (off + k) < 10007) : rowL acc c g off (k + 1) = (rowL acc c g off k).set (off + k) (mdZ ((nth (rowL acc c g off k) (off + k) : Int) + (c : Int) * (nth g k : Int))) := by
  conv => lhs; unfold rowL
  congr 1
  rw [← Int.natCast_mul, ← Int.natCast_add, mdZ_nat, Nat.add_mod_mod, Nat.mul_comm]
theorem Holds.putI {w0 w : World} {L : List Part} (h : Holds w0 w L) (i : Nat) {g n c : Nat} {l : List Nat} (hi : L[i]? = some (pInts (.slice (some ⟨g, 0, none⟩) n c) l)) (j x : Nat) :
    Holds w0 (w.setCell ⟨g, j, none⟩ (.int .i64 (x : Nat))) (L.set i (pInts (.slice (some ⟨g, 0, none⟩) n c) (l.set j x))) := by
  obtain ⟨A, c', e⟩ := h.intsForm i hi
  injection e with _ e2 _
  subst e2
  have := h.put i hi j (.int .i64 (x : Nat))
  rw [nums_set] at this
  unfold pInts
  rw [List.length_set]
  exact this
-- left out here: loop.example/g01200/spec.l06Times
set_option maxRecDepth 100000 in
set_option maxHeartbeats 1000000 in
theorem sSlope6_any (v : Value) (f : List Nat) (pf : Po f) (zf : Lz f) (lf : f.length ≤ 1000) (w : World) (hv : RdN w v f) :
    Calls Try.prog 29 #[v] w fun e w' => ∃ r, e = .returned r ∧ Holds w w' [pInts r (dervL f)] := by
  obtain ⟨A, c, rfl, _⟩ := hv.form
  have htr := trimN_id (dervL_lz pf zf (by omega))
  have HTR := hide htr; clear htr zf
  have HV := hide hv; clear hv
  have PF := hide pf; clear pf
  have CM := hide sMul_any
  have CC := hide strim6_any
  have MB := hide mul_bds
  have H0 : Holds w (w.alloc (.cells #[] 2)) [pInts (.slice (some ⟨w.heap.size, 0, none⟩) 0 0) (dpN f 1)] := (Holds.start w).rowNew #[] 2 1 0 w.heap.size rfl rfl (by decide)
  go_enter Try.func29, Try.ntmps29
  go_wp2
  go_loopw [3, 4] (fun s t wr => ∃ k : Nat, 0 < k ∧ k ≤ f.length + 1 ∧ (k ≤ f.length ∨ k = 1) ∧ t = .int .i64 k ∧ Holds w wr [pInts s (dpN f k)]) (fun _ t _ => f.length + 1 - (intOf t).toNat)
  case atStart => exact ⟨1, by decide, by omega, .inr rfl, rfl, H0⟩
  case round =>
    clear H0
    obtain ⟨k, h0, hk, hk2, rfl, hH⟩ := hrel
    by_cases hlt : k < f.length
    · have d0 : decide ((k : Int) < (f.length : Int)) = true := decide_eq_true (by omega)
      obtain ⟨a, rfl, _, c1⟩ := (HV.out.below hH.low (Nat.le_refl _)).at hlt
      have hx := PF.out.nth k
      have hs := dpN_succ f h0
      have HS := hide hs; clear hs
      have hln : (dpN f k).length ≤ 1000 := by rw [dpN_length]; omega
      generalize nth f k = x at *
      obtain ⟨b1, b2⟩ := MB.out x k hx (by omega)
      have H2 := hH.blk #[.int .i64 ((x * k % 10007 : Nat) : Int)] 2 wr.heap.size rfl
      clear hk2
      go_wp2_with fail
      refine (CM.out x k hx (by omega) _).mono ?_
      rintro e w3 ⟨rfl, rfl⟩
      go_wp2_with (at_builtin; refine appI H2 1 rfl wr.heap.size [x * k % 10007] 2 (H2.at 0 rfl) (by simp only [List.length_singleton]; omega) rfl _ _ rfl rfl rfl ?_)
      intro v' w' h3
      have h4 : Holds w w' [pInts v' (dpN f (k + 1))] := by
        rw [HS.out]
        exact Holds.tail h3
      have H4 := hide h4; clear h4 h3 H2 hH
      go_wp2
      go_roundw
      case rel => exact ⟨k + 1, by omega, by omega, .inl (by omega), by go_num, H4.out⟩
      case measure => simp [intOf]; omega
    · have d0 : decide ((k : Int) < (f.length : Int)) = false := decide_eq_false (by omega)
      have hall : dpN f k = dervL f := by
        rcases hk2 with c | c
        · obtain rfl : k = f.length := by omega
          rfl
        · subst c
          have : f.length - 1 = 0 := by omega
          unfold dpN dervL
          rw [this]
      rw [hall] at hH
      obtain ⟨R, rc, rfl, hrc⟩ := hH.intsCap 0 rfl
      have hlen : (dervL f).length ≤ 1000 := by rw [dervL_length]; omega
      have hC := CC.out R rc (dervL f) hrc (by omega) _ (hH.intsRd 0 rfl (by omega))
      rw [HTR.out] at hC
      have HC := hide hC; clear hC
      have HL := hide hH.low; clear hH hk2 hall
      go_wp2_with fail
      refine HC.out.mono ?_
      rintro e w3 ⟨r, rfl, h3⟩
      have h4 : Holds w w3 [pInts r (dervL f)] := ((show Holds w wr [] from ⟨HL.out, by simp, List.Pairwise.nil⟩).joinA h3)
      have H4 := hide h4; clear h4 h3
      go_wp2
      go_ret
      exact ⟨_, rfl, H4.out⟩
end Go.Proofs.Ytjjmjnohbebbaaa

