/- slices.Min at bytes; (Flags).degrees -/
import Derived.Test.YtcddglkecfnhmaaAre
import Derived.Test.YtcddglkecfnhmaaSort
namespace Go.Proofs.Ytcddglkecfnhmaa
open Go.RowKit

def RdBy (w : World) (v : Value) (l : List Nat) : Prop := w.ownsRow 0 5 1 v l.length (bytesL l)
theorem RdBy.form {w : World} {v : Value} {l : List Nat} (h : RdBy w v l) : ∃ A c, v = .slice A l.length c := own_slice h
theorem RdBy.at {w : World} {A : Option Addr} {n c k : Nat} {l : List Nat} (h : RdBy w (.slice A n c) l) (hk : k < l.length) :
    ∃ g, A = some ⟨g, 0, none⟩ ∧ g < w.heap.size ∧ w.cell? ⟨g, k, none⟩ = some (.int .u8 ((l.getD k 0 : Nat) : Int)) := by
  obtain ⟨g, c, h1, h2, h3, h4, h5, h6, h7⟩ := row_at h (by omega : 0 < l.length)
  injection h1 with e1 e2 e3
  have a1 := h6 _ _ (bytesL_at hk)
  have hg : l.getD k 0 = l[k] := by rw [List.getD_eq_getElem?_getD, List.getElem?_eq_getElem hk]; rfl
  rw [hg]
  exact ⟨g, e1, h3, a1⟩
theorem Holds.rdBy {w0 w : World} {L : List Part} (h : Holds w0 w L) (i : Nat) {v : Value} {l : List Nat} (hi : L[i]? = some (pBy v l)) : RdBy w v l := row_low (h.row i hi) (Nat.zero_le _)
/-- the least of the first k + 1 numbers -/
def minU (l : List Nat) : Nat → Nat
  | 0 => l.getD 0 0
  | k + 1 => min (minU l k) (l.getD (k + 1) 0)
theorem minU_step (l : List Nat) {j : Nat} (h : 1 ≤ j) : min (minU l (j - 1)) (l.getD j 0) = minU l j := by
  obtain ⟨k, rfl⟩ : ∃ k, j = k + 1 := ⟨j - 1, by omega⟩
  rfl
theorem minU_le (l : List Nat) : ∀ k i, i ≤ k → minU l k ≤ l.getD i 0 := by
  intro k
  induction k with
  | zero => intro i hi; obtain rfl : i = 0 := by omega
            exact Nat.le_refl _
  | succ k ih =>
    intro i hi
    rw [minU]
    rcases Nat.lt_or_ge k i with c | c
    · obtain rfl : i = k + 1 := by omega
      omega
    · have := ih i c; omega
theorem minU_at (l : List Nat) : ∀ k, ∃ i, i ≤ k ∧ minU l k = l.getD i 0 := by
  intro k
  induction k with
  | zero => exact ⟨0, Nat.le_refl _, rfl⟩
  | succ k ih =>
    obtain ⟨i, hi, e⟩ := ih
    rw [minU]
    rcases Nat.lt_or_ge (l.getD (k + 1) 0) (minU l k) with c | c
    · exact ⟨k + 1, Nat.le_refl _, by omega⟩
    · exact ⟨i, by omega, by omega⟩
theorem minU_hd (ps : List (Nat → Nat)) (x : Nat) : minU (cls ps x) ((cls ps x).length - 1) = x ↔ hdB ps x = true := by
  have h0 := cls_pos ps x
  have hs := cls_self ps x
  rw [hdB_iff]
  constructor
  · intro e y hy
    obtain ⟨i, hi, rfl⟩ := List.getElem_of_mem hy
    have := minU_le (cls ps x) ((cls ps x).length - 1) i (by omega)
    rw [e, List.getD_eq_getElem?_getD, List.getElem?_eq_getElem hi] at this
    exact this
  · intro h
    obtain ⟨i, hi, e⟩ := minU_at (cls ps x) ((cls ps x).length - 1)
    have hil : i < (cls ps x).length := by omega
    have e2 : (cls ps x).getD i 0 = (cls ps x)[i] := by rw [List.getD_eq_getElem?_getD, List.getElem?_eq_getElem hil]; rfl
    have h1 := h _ (List.getElem_mem hil)
    obtain ⟨j, hj, ej⟩ := List.getElem_of_mem hs
    have h2 := minU_le (cls ps x) ((cls ps x).length - 1) j (by omega)
    have e3 : (cls ps x).getD j 0 = x := by rw [List.getD_eq_getElem?_getD, List.getElem?_eq_getElem hj, ej]; rfl
    rw [e3] at h2
    omega

set_option maxRecDepth 100000 in
set_option maxHeartbeats 1000000 in
theorem min_any (l : List Nat) (h0 : 0 < l.length) (hl : l.length ≤ 1000000) (v : Value) (w : World) (hv : RdBy w v l) :
    Calls Try.prog 69 #[v] w fun e w' => e = .returned (.int .u8 (minU l (l.length - 1))) ∧ w' = w := by
  obtain ⟨A, c, rfl⟩ := hv.form
  have HV := hide hv; clear hv
  obtain ⟨q0, hA, _, x0⟩ := HV.out.at h0
  subst hA
  have hm0 : minU l 0 = l.getD 0 0 := rfl
  rw [← hm0] at x0
  have HM := hide fun (j : Nat) (hj : 1 ≤ j) => minU_step l hj
  clear hm0
  have hlt : decide ((l.length : Int) < 1) = false := by rw [decide_eq_false_iff_not]; omega
  go_enter Try.func69, Try.ntmps69
  go_wp2
  clear x0 hlt
  go_loopw [3, 4] (fun m t wr => ∃ j : Nat, 1 ≤ j ∧ j ≤ l.length ∧ t = .int .i64 j ∧ m = .int .u8 (minU l (j - 1)) ∧ wr = w) (fun _ t _ => l.length - (intOf t).toNat)
  case atStart => exact ⟨1, by omega, by omega, rfl, rfl, rfl⟩
  case round =>
    obtain ⟨j, hj1, hj, rfl, rfl, hw⟩ := hrel
    obtain rfl : wr = w := hw
    by_cases hjl : j < l.length
    · obtain ⟨q, hq, _, x1⟩ := HV.out.at hjl
      injection hq with hq
      injection hq with hq
      subst hq
      have hmx := HM.out j hj1
      generalize l.getD j 0 = b at *
      generalize minU l (j - 1) = a at *
      have hmi : min (a : Int) (b : Int) = (minU l j : Int) := by omega
      generalize hMM : minU l j = M at *
      have HMM := hide hMM; clear hMM hmx
      have hj' : (j : Int) < l.length := by omega
      go_wp2
      go_roundw
      case rel => exact ⟨j + 1, by omega, by omega, by go_num, by rw [Nat.add_sub_cancel, HMM.out, ← hmi], by trivial⟩
      case measure => simp [intOf]; omega
    · obtain rfl : j = l.length := by omega
      clear hj hjl hj1
      go_wp2
      go_ret
      exact ⟨rfl, rfl⟩

/-- degrees in descending order -/
def degL (ps : List (Nat → Nat)) (n : Nat) : List Nat := sortD ((szL ps n).map (· / 2))
theorem degL_len (ps : List (Nat → Nat)) (n : Nat) : (degL ps n).length ≤ n := by unfold degL; rw [(sortD_perm _).length_eq, List.length_map]; exact szL_len ps n
theorem lead2 {v1 v2 : Value} {p q : Nat → Nat} (h1 : LeadV v1 p) (h2 : LeadV v2 q) : ∀ j (h : j < [v1, v2].length), LeadV [v1, v2][j] ([p, q].getD j id) := by
  intro j hj
  have : j = 0 ∨ j = 1 := by simp at hj; omega
  rcases this with rfl | rfl
  · exact h1
  · exact h2

set_option maxRecDepth 100000 in
set_option maxHeartbeats 4000000 in
theorem degrees_any (n : Nat) (hn0 : 0 < n) (hn : n ≤ 32) (c t s : Nat → Nat) (v1 v2 : Value) (k1 : v1.cells = #[v1]) (k2 : v2.cells = #[v2]) (p q : Nat → Nat) (h1 : LeadV v1 p) (h2 : LeadV v2 q) (hK : Keeps [p, q] n) (w : World) :
    Calls Try.prog 57 #[.agg (fv (n : Int) c t s), v1, v2] w fun e w' => ∃ v, e = .returned v ∧ Below w.heap.size w w' ∧ Own1 w.heap.size w' v (degL [p, q] n) := by
  have hb2 := fun w => run_buildSlS2 v1 v2 k1 k2 w
  have LD := hide (lead2 h1 h2)
  have HK := hide hK
  have hdeg : degL [p, q] n = (sortU ((szL [p, q] n).map (· / 2))).reverse := by unfold degL; rw [sortU_reverse]
  have hne : 0 < ((szL [p, q] n).map (· / 2)).length := by
    rw [List.length_map]
    have : (cls [p, q] 0).length ∈ szL [p, q] n := by unfold szL; exact List.mem_map.2 ⟨0, List.mem_filter.2 ⟨List.mem_range.2 hn0, hdB_iff.2 fun y _ => Nat.zero_le y⟩, rfl⟩
    exact List.length_pos_of_mem this
  have hsl := fun k => szL_len [p, q] k
  have hst := fun k => szL_yes (ps := [p, q]) (k := k)
  have hno := fun k => szL_no (ps := [p, q]) (k := k)
  have hmin := fun x => minU_hd [p, q] x
  have hcl := fun x (hx : x < n) => cls_len hK hx
  have hcp := fun x => cls_pos [p, q] x
  rw [hdeg]
  have HD := hide hdeg; clear hdeg
  have HC := hide (And.intro hst (And.intro hno (And.intro hmin (And.intro hcl hcp)))); clear hst hno hmin hcl hcp
  have HS := hide hsl; clear hsl
  have CF := hide fun x (hx : x < n) g w (ho : (pBlk g [v1, v2].toArray 61).ok w) => flagsFrom_any n hn [p, q] hK (by simp) g [v1, v2] rfl LD.out x hx w ho
  clear h1 h2 hK k1 k2
  have HH0 := (Holds.start w).blk (fv (n : Int) c t s) 27 w.heap.size rfl
  have n0 := HH0.cell 0 rfl (fv_n (n : Int) c t s)
  have hw8 : IntKind.u8.wrap (n : Int) = n := wr8k (by omega) (by omega)
  have HH1 : Holds w _ (pInts (.slice none 0 0) ((szL [p, q] 0).map (· / 2)) :: _) := HH0.nilRow 2 1
  go_enter Try.func57, Try.ntmps57
  go_wp2
  clear n0 HH0
  go_loopw [7, 13] (fun v i wr => ∃ x : Nat, x ≤ n ∧ i = .int .u8 x ∧ Holds w wr [pInts v ((szL [p, q] x).map (· / 2)), pBlk w.heap.size (fv (n : Int) c t s) 27]) (fun _ i _ => n - (intOf i).toNat)
  case atStart => exact ⟨0, by omega, rfl, HH1⟩
  case round =>
    clear HH1
    obtain ⟨x, hx, rfl, hH⟩ := hrel
    by_cases hlt : x < n
    · have hli : (x : Int) < n := by omega
      have hwx : IntKind.u8.wrap ((x : Int) + 1) = ((x + 1 : Nat) : Int) := by rw [wr8k (by omega) (by omega)]; rfl
      have hH1 := hH.blk #[v1, v2] 61 wr.heap.size rfl
      have CX := hide (CF.out x hlt wr.heap.size (wr.alloc (.cells #[v1, v2] 61)) (hH1.at 0 rfl))
      clear hH
      go_wp2_with fail
      refine (CX.out).mono ?_
      rintro e w2 ⟨v, rfl, hv⟩
      have hH2 := (hH1.newRow hv.low (hv.row 0 rfl)).sub (L' := [pBy v (cls [p, q] x), pInts u7 ((szL [p, q] x).map (· / 2)), pBlk w.heap.size (fv (n : Int) c t s) 27]) (.cons_cons _ (.cons _ (.refl _)))
      clear hv CX hH1
      have CM := hide (min_any (cls [p, q] x) (HC.out.2.2.2.2 x) (by have := HC.out.2.2.2.1 x hlt; omega) v w2 (hH2.rdBy 0 rfl))
      obtain ⟨A, cc, rfl⟩ := hH2.bysForm 0 rfl
      go_wp2_with fail
      refine (CM.out).mono ?_
      rintro e w3 ⟨rfl, rfl⟩
      clear CM
      have hm := HC.out.2.2.1 x
      have hsl := HS.out x
      have hcl := HC.out.2.2.2.1 x hlt
      generalize minU (cls [p, q] x) ((cls [p, q] x).length - 1) = mm at *
      rcases hh : hdB [p, q] x with _ | _
      · have e1 : ((mm : Int) == (x : Int)) = false := by
          rw [hh] at hm
          have : ¬ mm = x := fun e => by have := hm.1 e; cases this
          simp; omega
        have hst := HC.out.2.1 x hh
        have HST := hide hst; clear hst hm hh
        have hH3 := hH2.tail
        clear hH2
        go_wp2
        go_roundw
        case rel => exact ⟨x + 1, by omega, by go_num, by rw [HST.out]; exact hH3⟩
        case measure => simp [intOf]; omega
      · have e1 : ((mm : Int) == (x : Int)) = true := by
          rw [hh] at hm
          have : mm = x := hm.2 rfl
          simp [this]
        have hst := HC.out.1 x hh
        have hst2 : (szL [p, q] (x + 1)).map (· / 2) = (szL [p, q] x).map (· / 2) ++ [(cls [p, q] x).length / 2] := by rw [hst, List.map_append]; rfl
        have HST := hide hst2; clear hst hst2 hm hh
        have hH3 := hH2.tail
        clear hH2
        generalize hz : (cls [p, q] x).length = z at *
        have hq : Int.tdiv (z : Int) 2 = ((z / 2 : Nat) : Int) := rfl
        have hz32 : z ≤ 32 := by omega
        have hwq : wrap64 ((z / 2 : Nat) : Int) = ((z / 2 : Nat) : Int) := wr64 (by omega) (by omega)
        obtain ⟨Sx, hSx⟩ : ∃ Sx, Sx = (szL [p, q] x).map (· / 2) := ⟨_, rfl⟩
        rw [← hSx] at hH3 HST
        have hSl : Sx.length ≤ 32 := by rw [hSx, List.length_map]; omega
        clear hSx hz
        go_wp2_with (at_builtin; refine appI (hH3.alloc _) 0 rfl w3.heap.size [z / 2] 2 ?_ ?_ rfl _ _ rfl rfl rfl ?_)
        · first | exact heap_at _ _ _ rfl | exact (Array.getElem?_eq_some_iff.1 (heap_at w3 _ _ rfl)).2
        · first | (simp only [List.length_cons, List.length_nil]; omega) | omega
        intro v' w' h1
        clear hH3
        go_wp2
        go_roundw
        case rel => exact ⟨x + 1, by omega, by go_num, by rw [HST.out]; exact h1⟩
        case measure => simp [intOf]; omega
    · obtain rfl : x = n := by omega
      have hsl := HS.out x
      obtain ⟨S, hS⟩ : ∃ S, S = (szL [p, q] x).map (· / 2) := ⟨_, rfl⟩
      rw [← hS] at hH hne
      have hgoal : S = (szL [p, q] x).map (· / 2) := hS
      have hSl : S.length ≤ 32 := by rw [hS, List.length_map]; omega
      have hown := hH.own1 0 rfl
      have hlow := hH.low
      have hsz := hlow.size
      clear hlt hx hS hH
      have hlw : ∀ g, u7.ownBlock = some g → w.heap.size ≤ g := fun g hg => (World.ownsRow.lt hown g hg).1
      go_wp2_with fail
      refine (sort_any hown hne (by omega)).mono ?_
      rintro e w2 ⟨rfl, hg2, ho2⟩
      have b2 := hlow.grown hg2 hsz hlw
      clear hg2 hown hlow
      have hll : (sortU S).length = S.length := by unfold sortU; exact (List.mergeSort_perm _ _).length_eq
      go_wp2_with fail
      refine (rev_any ho2 (by omega) (by omega)).mono ?_
      rintro e w3 ⟨rfl, hg3, ho3⟩
      have b3 := b2.grown hg3 b2.size hlw
      have HO := hide ho3
      clear ho3 hg3 ho2 b2 hlw hll
      go_wp2
      go_ret
      exact ⟨u7, rfl, b3, by rw [← hgoal]; exact HO.out⟩
end Go.Proofs.Ytcddglkecfnhmaa

