/- MapOfFlags: the mathematics. A final state of the search tells two classes that every step exchanges; the darts are the flags of class 1. -/
import Derived.Test.YteeideminlcblaaCls
import Derived.Test.YteeideminlcblaaAre
import Derived.Test.YteeideminlcblaaHS3
import Derived.Test.YteeideminlcblaaDes
namespace Go.Proofs.Yteeideminlcblaa
open Go.RowKit

theorem cadd_keep {S T : CSt} {X Y : Nat} (e : cadd S X Y = some T) : ∀ z, S.2 z ≠ 0 → T.2 z = S.2 z := by
  intro z hz
  unfold cadd at e
  split at e
  · rename_i h0
    obtain rfl := Option.some.inj e
    show kset S.2 Y (3 - S.2 X) z = S.2 z
    unfold kset
    by_cases c : z = Y
    · subst c; exact absurd h0 hz
    · rw [if_neg c]
  · split at e
    · cases e
    · obtain rfl := Option.some.inj e; rfl
theorem cadd_far {n : Nat} {S T : CSt} (hI : CInv n S) {X Y : Nat} (hX : X ∈ S.1) (e : cadd S X Y = some T) : T.2 Y ≠ 0 ∧ T.2 Y ≠ T.2 X := by
  have hx0 := (hI.mem X).2 hX
  have hx2 := hI.le X
  rw [cadd_keep e X hx0]
  unfold cadd at e
  split at e
  · obtain rfl := Option.some.inj e
    have : kset S.2 Y (3 - S.2 X) Y = 3 - S.2 X := by unfold kset; rw [if_pos rfl]
    show kset S.2 Y (3 - S.2 X) Y ≠ 0 ∧ kset S.2 Y (3 - S.2 X) Y ≠ S.2 X
    rw [this]; omega
  · split at e
    · cases e
    · rename_i h1 h2
      obtain rfl := Option.some.inj e; exact ⟨h1, h2⟩
section
variable {ps : List (Nat → Nat)} {n : Nat}
theorem cgo_far (hk : Keeps ps n) {S : CSt} (hS : CInv n S) {X : Nat} (hX : X ∈ S.1) : ∀ j, j ≤ ps.length → ∀ T, cgo ps S X j = some T → (∀ z, S.2 z ≠ 0 → T.2 z = S.2 z) ∧ ∀ i, i < j → T.2 (ps.getD i id X) ≠ 0 ∧ T.2 (ps.getD i id X) ≠ T.2 X := by
  intro j
  induction j with
  | zero => intro _ T e; obtain rfl := Option.some.inj e; exact ⟨fun _ _ => rfl, fun i hi => absurd hi (Nat.not_lt_zero i)⟩
  | succ j ih =>
    intro h T e
    obtain ⟨U, hU, hT⟩ := Option.bind_eq_some_iff.1 (show (cgo ps S X j).bind (fun T => cadd T X (ps.getD j id X)) = some T from e)
    obtain ⟨hI, hp⟩ := cgo_inv hk hS hX j (by omega) U hU
    obtain ⟨k1, k2⟩ := ih (by omega) U hU
    have k3 := cadd_keep hT
    have hx0 := (hI.mem X).2 (hp.subset hX)
    refine ⟨fun z hz => (k3 z (by rw [k1 z hz]; exact hz)).trans (k1 z hz), fun i hi => ?_⟩
    by_cases c : i = j
    · subst c; exact cadd_far hI (hp.subset hX) hT
    · have := k2 i (by omega)
      rw [k3 _ this.1, k3 X hx0]
      exact this
theorem cb_far (hk : Keeps ps n) (h0 : 0 < n) : ∀ k S, cb ps k = some S → ∀ i, i < k → ∀ X, S.1[i]? = some X → ∀ j, j < ps.length → S.2 (ps.getD j id X) ≠ 0 ∧ S.2 (ps.getD j id X) ≠ S.2 X := by
  intro k
  induction k with
  | zero => intro S _ i hi; exact absurd hi (Nat.not_lt_zero i)
  | succ k ih =>
    intro S e i hi X hX j hj
    obtain ⟨U, hU, hT⟩ := Option.bind_eq_some_iff.1 (show (cb ps k).bind (fun S => match S.1[k]? with | none => some S | some X => cgo ps S X ps.length) = some S from e)
    have hI := cb_inv hk h0 k U hU
    rcases hx : U.1[k]? with _ | Z
    · simp only [hx] at hT
      obtain rfl := Option.some.inj hT
      have : i < k := by
        have h1 := (List.getElem?_eq_some_iff.1 hX).1
        have h2 := List.getElem?_eq_none_iff.1 hx
        omega
      exact ih U hU i this X hX j hj
    · simp only [hx] at hT
      have hZ := List.mem_of_getElem? hx
      obtain ⟨k1, k2⟩ := cgo_far hk hI hZ _ (Nat.le_refl _) S hT
      have hp := (cgo_inv hk hI hZ _ (Nat.le_refl _) S hT).2
      have hkl := (List.getElem?_eq_some_iff.1 hx).1
      have same : ∀ l, l < U.1.length → S.1[l]? = U.1[l]? := fun l hl => by obtain ⟨t, ht⟩ := hp; rw [← ht, List.getElem?_append_left hl]
      by_cases c : i = k
      · subst c
        rw [same i hkl, hx] at hX
        obtain rfl := Option.some.inj hX
        exact k2 j hj
      · rw [same i (by omega)] at hX
        have h1 := ih U hU i (by omega) X hX j hj
        have hx0 := (hI.mem X).2 (List.mem_of_getElem? hX)
        rw [k1 _ h1.1, k1 X hx0]
        exact h1
theorem fin_far (hk : Keeps ps n) (h0 : 0 < n) (hn : n ≤ 32) {S : CSt} (h : cb ps 32 = some S) {X : Nat} (hX : S.2 X ≠ 0) : ∀ j, j < ps.length → S.2 (ps.getD j id X) ≠ 0 ∧ S.2 (ps.getD j id X) ≠ S.2 X := by
  have hI := cb_inv hk h0 32 S h
  have hl := hI.length_le
  obtain ⟨i, hi, e⟩ := List.getElem_of_mem ((hI.mem X).1 hX)
  exact cb_far hk h0 32 S h i (by omega) X (by rw [List.getElem?_eq_getElem hi, e])
end

/-- the flags of class 1 below k -/
def dL (K : Nat → Nat) (k : Nat) : List Nat := (List.range k).filter fun x => K x == 1
theorem dL_yes {K : Nat → Nat} {k : Nat} (h : K k = 1) : dL K (k + 1) = dL K k ++ [k] := by unfold dL; rw [List.range_succ, List.filter_append, List.filter_cons_of_pos (by simp [h])]; simp
theorem dL_no {K : Nat → Nat} {k : Nat} (h : K k ≠ 1) : dL K (k + 1) = dL K k := by unfold dL; rw [List.range_succ, List.filter_append, List.filter_cons_of_neg (by simp [h])]; simp
theorem dL_pre (K : Nat → Nat) {k m : Nat} (h : k ≤ m) : dL K k <+: dL K m := by
  induction m with
  | zero => obtain rfl : k = 0 := by omega
            exact List.prefix_refl _
  | succ m ih =>
    rcases Nat.lt_or_ge m k with c | c
    · obtain rfl : k = m + 1 := by omega
      exact List.prefix_refl _
    · by_cases d : K m = 1
      · rw [dL_yes d]; exact (ih c).trans (List.prefix_append _ _)
      · rw [dL_no d]; exact ih c
theorem dL_mem {K : Nat → Nat} {k x : Nat} : x ∈ dL K k ↔ x < k ∧ K x = 1 := by unfold dL; simp
theorem dL_nodup (K : Nat → Nat) (k : Nat) : (dL K k).Nodup := List.nodup_range.filter _
theorem dL_at {K : Nat → Nat} {k m : Nat} (h : K k = 1) (hk : k < m) : (dL K m)[(dL K k).length]? = some k := by
  obtain ⟨t, ht⟩ := dL_pre K (show k + 1 ≤ m from hk)
  rw [← ht, dL_yes h, List.getElem?_append_left (by simp), List.getElem?_append_right (Nat.le_refl _), Nat.sub_self]
  rfl
/-- at most half of the flags -/
theorem dL_half {c : Nat → Nat} {K : Nat → Nat} {n : Nat} (hc : prP c n) (hK : ∀ x, x < n → K x = 1 → K (c x) ≠ 1) : 2 * (dL K n).length ≤ n := by
  have h1 : (dL K n ++ (dL K n).map c).length ≤ (List.range n).length := by
    refine nodup_le _ _ (List.nodup_append.2 ⟨dL_nodup K n, ?_, ?_⟩) ?_
    · refine List.Pairwise.map c (S := (· ≠ ·)) (R := fun a b => c a ≠ c b) (fun _ _ h => h) ((dL_nodup K n).imp_of_mem fun {a b} ha hb hne e => hne ?_)
      have ha' := (hc.1 a (dL_mem.1 ha).1).2.2
      have hb' := (hc.1 b (dL_mem.1 hb).1).2.2
      rw [← ha', ← hb', e]
    · intro a ha b hb e
      subst e
      obtain ⟨y, hy, rfl⟩ := List.mem_map.1 hb
      have hy' := dL_mem.1 hy
      exact hK y hy'.1 hy'.2 (dL_mem.1 ha).2
    · intro x hx
      rcases List.mem_append.1 hx with d | d
      · exact List.mem_range.2 (dL_mem.1 d).1
      · obtain ⟨y, hy, rfl⟩ := List.mem_map.1 d
        exact List.mem_range.2 (hc.keeps (dL_mem.1 hy).1)
  rw [List.length_append, List.length_map, List.length_range] at h1
  omega
/-- the numbers of the first k flags -/
def nuU (K : Nat → Nat) (k : Nat) : Nat → Nat := fun x => if x < k ∧ K x = 1 then (dL K x).length else 0
theorem nuU_zero (K : Nat → Nat) : nuU K 0 = fun _ => 0 := by funext x; unfold nuU; rw [if_neg (by omega)]
theorem nuU_yes {K : Nat → Nat} {k : Nat} (h : K k = 1) : fset (nuU K k) k (dL K k).length = nuU K (k + 1) := by
  funext x
  unfold fset nuU
  by_cases c : x = k
  · subst c; rw [if_pos rfl, if_pos ⟨by omega, h⟩]
  · rw [if_neg c]
    by_cases d : x < k ∧ K x = 1
    · rw [if_pos d, if_pos ⟨by omega, d.2⟩]
    · rw [if_neg d, if_neg (by omega)]
theorem nuU_no {K : Nat → Nat} {k : Nat} (h : K k ≠ 1) : nuU K (k + 1) = nuU K k := by
  funext x
  unfold nuU
  by_cases d : x < k ∧ K x = 1
  · rw [if_pos d, if_pos ⟨by omega, d.2⟩]
  · rw [if_neg d, if_neg]
    rintro ⟨d1, d2⟩
    by_cases c : x = k
    · subst c; exact h d2
    · exact d ⟨by omega, d2⟩
theorem nuU_le {K : Nat → Nat} {n : Nat} (h : (dL K n).length ≤ 16) (x : Nat) : nuU K n x ≤ 16 := by
  unfold nuU
  split
  · rename_i d
    have := (dL_pre K (show x ≤ n by omega)).length_le
    omega
  · omega
theorem nuU_at {K : Nat → Nat} {n x : Nat} (hx : x < n) (h : K x = 1) : nuU K n x = (dL K x).length := by unfold nuU; rw [if_pos ⟨hx, h⟩]
/-- one permutation of the map -/
def mfF (K p : Nat → Nat) (n : Nat) : Nat → Nat := fun i => nuU K n (p ((dL K n).getD i 0))
theorem mfF_at {K p : Nat → Nat} {n x : Nat} (hx : x < n) (h : K x = 1) : mfF K p n (dL K x).length = nuU K n (p x) := by
  unfold mfF
  rw [List.getD_eq_getElem?_getD, dL_at h hx]; rfl
theorem mfF_get {K p : Nat → Nat} {n i : Nat} (hi : i < (dL K n).length) : mfF K p n i = nuU K n (p (dL K n)[i]) := by
  unfold mfF
  rw [List.getD_eq_getElem?_getD, List.getElem?_eq_getElem hi]; rfl
/-- what MapOfFlags hands back -/
noncomputable def mfR (n : Int) (c t s : Nat → Nat) : Value :=
  if flB n c t s = true then match cb [c, t, s] 32 with
    | some S => .tuple #[.agg (dv (((dL S.2 n.toNat).length : Nat) : Int) (upto (mfF S.2 (fun x => t (s x)) n.toNat) (dL S.2 n.toNat).length) (upto (mfF S.2 (fun x => c (s x)) n.toNat) (dL S.2 n.toNat).length)), .int .i64 0]
    | none => .tuple #[.agg (dv 0 (fun _ => 0) (fun _ => 0)), .int .i64 5]
  else .tuple #[.agg (dv 0 (fun _ => 0) (fun _ => 0)), .int .i64 1]
theorem mfR_eq (n : Int) (c t s : Nat → Nat) : ∃ a r q k, mfR n c t s = .tuple #[.agg (dv a r q), .int .i64 k] := by
  unfold mfR
  split
  · split
    · exact ⟨_, _, _, _, rfl⟩
    · exact ⟨_, _, _, _, rfl⟩
  · exact ⟨_, _, _, _, rfl⟩
theorem mfR_no {n : Int} {c t s : Nat → Nat} (h : flB n c t s = false) : mfR n c t s = .tuple #[.agg (dv 0 (fun _ => 0) (fun _ => 0)), .int .i64 1] := by unfold mfR; rw [if_neg (by simp [h])]
theorem mfR_st {n : Int} {c t s : Nat → Nat} (h : flB n c t s = true) (hn : cb [c, t, s] 32 = none) : mfR n c t s = .tuple #[.agg (dv 0 (fun _ => 0) (fun _ => 0)), .int .i64 5] := by unfold mfR; rw [if_pos h, hn]
theorem mfR_yes {m : Nat} {c t s : Nat → Nat} (h : flB (m : Int) c t s = true) {S : CSt} (hs : cb [c, t, s] 32 = some S) :
    mfR m c t s = .tuple #[.agg (dv (((dL S.2 m).length : Nat) : Int) (upto (mfF S.2 (fun x => t (s x)) m) (dL S.2 m).length) (upto (mfF S.2 (fun x => c (s x)) m) (dL S.2 m).length)), .int .i64 0] := by unfold mfR; rw [if_pos h, hs, Int.toNat_natCast]
/-- the facts that the walks take up -/
theorem mf_facts {m : Nat} {c t s : Nat → Nat} (hd : flP m c t s) {S : CSt} (hs : cb [c, t, s] 32 = some S) : (dL S.2 m).length ≤ 16 ∧ (∀ x, S.2 x ≤ 2) := by
  obtain ⟨⟨h4, h32, -⟩, pc, pt, ps, -, -⟩ := hd
  have hk := keeps3 pc pt ps
  have hI := cb_inv hk (by omega) 32 S hs
  refine ⟨?_, hI.le⟩
  have := dL_half (K := S.2) pc fun x _ h1 h2 => by
    have hf := fin_far hk (by omega) h32 hs (X := x) (by omega) 0 (by simp)
    have e : [c, t, s].getD 0 id x = c x := rfl
    rw [e] at hf
    omega
  omega
end Go.Proofs.Yteeideminlcblaa
