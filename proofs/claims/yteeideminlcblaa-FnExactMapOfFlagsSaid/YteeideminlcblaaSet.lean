/- Sets of flags that are reached from each other by some steps. -/
import Derived.Test.YteeideminlcblaaBase
import Derived.Test.YteeideminlcblaaPerm
namespace Go.Proofs.Yteeideminlcblaa
open Go.RowKit

/-- the first j steps from X -/
def gst (ps : List (Nat → Nat)) (S : List Nat × (Nat → Bool)) (X : Nat) : Nat → List Nat × (Nat → Bool)
  | 0 => S
  | j + 1 => badd (gst ps S X j) (ps.getD j id X)
/-- the search, m0 being found ahead -/
def gb (ps : List (Nat → Nat)) (m0 : Nat → Bool) (z : Nat) : Nat → List Nat × (Nat → Bool)
  | 0 => ([z], upd m0 z)
  | i + 1 => match (gb ps m0 z i).1[i]? with
    | none => gb ps m0 z i
    | some x => gst ps (gb ps m0 z i) x ps.length
def noB : Nat → Bool := fun _ => false
/-- the set of a flag -/
@[irreducible] def cls (ps : List (Nat → Nat)) (z : Nat) : List Nat := (gb ps noB z 32).1
theorem cls_eq (ps : List (Nat → Nat)) (z : Nat) : cls ps z = (gb ps noB z 32).1 := by unfold cls; rfl
/-- steps that keep n flags -/
def Keeps (ps : List (Nat → Nat)) (n : Nat) : Prop := ∀ j, j < ps.length → ∀ x, x < n → ps.getD j id x < n
/-- steps that undo themselves -/
def Undo (ps : List (Nat → Nat)) (n : Nat) : Prop := ∀ j, j < ps.length → ∀ x, x < n → ps.getD j id (ps.getD j id x) = x
section
variable {ps : List (Nat → Nat)} {n : Nat}
theorem gst_inv (hk : Keeps ps n) {S : List Nat × (Nat → Bool)} (hS : BInv n S) {X : Nat} (hX : X < n) : ∀ j, j ≤ ps.length → BInv n (gst ps S X j) := by
  intro j
  induction j with
  | zero => intro _; exact hS
  | succ j ih => intro h; exact (ih (by omega)).add (hk j (by omega) X hX)
theorem gst_pre (S : List Nat × (Nat → Bool)) (X : Nat) : ∀ j, S.1 <+: (gst ps S X j).1 := by
  intro j
  induction j with
  | zero => exact List.prefix_refl _
  | succ j ih => exact ih.trans (badd_le _ _)
theorem gb_inv (hk : Keeps ps n) {z : Nat} (hz : z < n) (i : Nat) : BInv n (gb ps noB z i) := by
  induction i with
  | zero => exact ⟨by simp [gb], by simpa [gb] using hz, fun x => by simp [gb, upd, noB]⟩
  | succ i ih =>
    rw [gb]
    rcases e : (gb ps noB z i).1[i]? with _ | x
    · exact ih
    · exact gst_inv hk ih (ih.lt x (List.mem_of_getElem? e)) _ (Nat.le_refl _)
theorem gb_pre (m0 : Nat → Bool) (z i : Nat) : (gb ps m0 z i).1 <+: (gb ps m0 z (i + 1)).1 := by
  rw [gb]
  split
  · exact List.prefix_refl _
  · exact gst_pre _ _ _
theorem gb_pre' (m0 : Nat → Bool) (z : Nat) {i j : Nat} (h : i ≤ j) : (gb ps m0 z i).1 <+: (gb ps m0 z j).1 := by
  induction j with
  | zero => obtain rfl : i = 0 := by omega
            exact List.prefix_refl _
  | succ j ih =>
    rcases Nat.lt_or_ge j i with c | c
    · obtain rfl : i = j + 1 := by omega
      exact List.prefix_refl _
    · exact (ih c).trans (gb_pre m0 z j)
theorem gb_stop {m0 : Nat → Bool} {z i : Nat} (h : (gb ps m0 z i).1.length ≤ i) {j : Nat} (hj : i ≤ j) : gb ps m0 z j = gb ps m0 z i := by
  induction j with
  | zero => obtain rfl : i = 0 := by omega
            rfl
  | succ j ih =>
    rcases Nat.lt_or_ge j i with c | c
    · obtain rfl : i = j + 1 := by omega
      rfl
    · rw [gb, ih c, List.getElem?_eq_none (by omega)]
theorem gb_next {m0 : Nat → Bool} {z k : Nat} (hk : k < (gb ps m0 z k).1.length) : gb ps m0 z (k + 1) = gst ps (gb ps m0 z k) (gb ps m0 z k).1[k] ps.length := by
  rw [gb, List.getElem?_eq_getElem hk]
theorem gst_all {P : Nat → Prop} {S : List Nat × (Nat → Bool)} (hS : ∀ x ∈ S.1, P x) {X : Nat} (hX : ∀ j, j < ps.length → P (ps.getD j id X)) : ∀ j, j ≤ ps.length → ∀ x ∈ (gst ps S X j).1, P x := by
  intro j
  induction j with
  | zero => intro _; exact hS
  | succ j ih =>
    intro h x hx
    have hj := ih (by omega)
    unfold gst badd at hx
    split at hx
    · exact hj x hx
    · rcases List.mem_append.1 hx with d | d
      · exact hj x d
      · simp only [List.mem_singleton] at d; subst d; exact hX j (by omega)
theorem gb_all {P : Nat → Prop} {m0 : Nat → Bool} {z : Nat} (h0 : P z) (hp : ∀ j, j < ps.length → ∀ x, P x → P (ps.getD j id x)) (i : Nat) : ∀ x ∈ (gb ps m0 z i).1, P x := by
  induction i with
  | zero => intro x hx; simp [gb] at hx; subst hx; exact h0
  | succ i ih =>
    rw [gb]
    rcases e : (gb ps m0 z i).1[i]? with _ | y
    · exact ih
    · exact gst_all ih (fun j hj => hp j hj y (ih y (List.mem_of_getElem? e))) _ (Nat.le_refl _)
theorem badd_mem (S : List Nat × (Nat → Bool)) (hS : BInv n S) (y : Nat) : y ∈ (badd S y).1 := by
  unfold badd
  split
  · rename_i h; exact (hS.mem y).1 h
  · simp
theorem gst_mem (hk : Keeps ps n) {S : List Nat × (Nat → Bool)} (hS : BInv n S) {X : Nat} (hX : X < n) : ∀ j, j ≤ ps.length → ∀ k, k < j → ps.getD k id X ∈ (gst ps S X j).1 := by
  intro j
  induction j with
  | zero => intro _ k hk; omega
  | succ j ih =>
    intro h k hkj
    by_cases c : k = j
    · subst c; exact badd_mem _ (gst_inv hk hS hX k (by omega)) _
    · exact (badd_le _ _).subset (ih (by omega) k (by omega))
theorem gb_closedK (hk : Keeps ps n) {K : Nat} (hn : n ≤ K) {z : Nat} (hz : z < n) {y : Nat} (hy : y ∈ (gb ps noB z K).1) : ∀ j, j < ps.length → ps.getD j id y ∈ (gb ps noB z K).1 := by
  intro j hj
  have hle := (gb_inv hk hz K).length_le
  obtain ⟨k, hk1, rfl⟩ := List.getElem_of_mem hy
  have hlt : k < (gb ps noB z k).1.length := by
    rcases Nat.lt_or_ge k (gb ps noB z k).1.length with c | c
    · exact c
    · rw [gb_stop c (show k ≤ K by omega)] at hk1; omega
  have hyk : (gb ps noB z K).1[k] = (gb ps noB z k).1[k] := by
    obtain ⟨t, ht⟩ := gb_pre' (ps := ps) noB z (show k ≤ K by omega)
    have h1 : (gb ps noB z K).1[k]? = (gb ps noB z k).1[k]? := by rw [← ht, List.getElem?_append_left hlt]
    rw [List.getElem?_eq_getElem hk1, List.getElem?_eq_getElem hlt] at h1
    exact Option.some.inj h1
  rw [hyk]
  have hI := gb_inv hk hz k
  have hX := hI.lt _ (List.getElem_mem hlt)
  have h1 := gst_mem hk hI hX ps.length (Nat.le_refl _) j hj
  rw [← gb_next hlt] at h1
  exact (gb_pre' (ps := ps) noB z (show k + 1 ≤ K by omega)).subset h1
theorem gb_closed (hk : Keeps ps n) (hn : n ≤ 32) {z : Nat} (hz : z < n) {y : Nat} (hy : y ∈ cls ps z) : ∀ j, j < ps.length → ps.getD j id y ∈ cls ps z := by rw [cls_eq] at *; exact gb_closedK hk hn hz hy
theorem cls_self (ps : List (Nat → Nat)) (z : Nat) : z ∈ cls ps z := by rw [cls_eq]; exact (gb_pre' noB z (show 0 ≤ 32 by omega)).subset (by simp [gb])
theorem cls_lt (hk : Keeps ps n) {z : Nat} (hz : z < n) {y : Nat} (hy : y ∈ cls ps z) : y < n := by rw [cls_eq] at hy; exact (gb_inv hk hz 32).lt y hy
theorem cls_nodup (hk : Keeps ps n) {z : Nat} (hz : z < n) : (cls ps z).Nodup := by rw [cls_eq]; exact (gb_inv hk hz 32).nodup
theorem cls_len (hk : Keeps ps n) {z : Nat} (hz : z < n) : (cls ps z).length ≤ n := by rw [cls_eq]; exact (gb_inv hk hz 32).length_le
theorem cls_pos (ps : List (Nat → Nat)) (z : Nat) : 0 < (cls ps z).length := List.length_pos_of_mem (cls_self ps z)
theorem cls_sub (hk : Keeps ps n) (hn : n ≤ 32) {y z : Nat} (hz : z < n) (hy : y ∈ cls ps z) : ∀ x ∈ cls ps y, x ∈ cls ps z := by
  rw [cls_eq ps y]
  exact gb_all (P := fun x => x ∈ cls ps z) hy (fun j hj x hx => gb_closed hk hn hz hx j hj) 32
theorem cls_symm (hk : Keeps ps n) (hu : Undo ps n) (hn : n ≤ 32) {y z : Nat} (hz : z < n) (hy : y ∈ cls ps z) : z ∈ cls ps y := by
  have h : ∀ x ∈ cls ps z, x < n ∧ z ∈ cls ps x := by
   rw [cls_eq ps z]
   exact gb_all (P := fun x => x < n ∧ z ∈ cls ps x) ⟨hz, cls_self ps z⟩ (fun j hj x hx => by
    have hp := hk j hj x hx.1
    refine ⟨hp, cls_sub hk hn hp ?_ z hx.2⟩
    have := gb_closed hk hn hp (cls_self ps _) j hj
    rw [hu j hj x hx.1] at this
    exact this) 32
  exact (h y hy).2
/-- what is found ahead, closed and apart, does not turn the search -/
theorem gst_m0 {m0 : Nat → Bool} {S S' : List Nat × (Nat → Bool)} (e1 : S'.1 = S.1) (e2 : ∀ y, S'.2 y = (m0 y || S.2 y)) {X : Nat} (hX : ∀ j, j < ps.length → m0 (ps.getD j id X) = false) :
    ∀ j, j ≤ ps.length → (gst ps S' X j).1 = (gst ps S X j).1 ∧ ∀ y, (gst ps S' X j).2 y = (m0 y || (gst ps S X j).2 y) := by
  intro j
  induction j with
  | zero => intro _; exact ⟨e1, e2⟩
  | succ j ih =>
    intro h
    obtain ⟨h1, h2⟩ := ih (by omega)
    have hm := hX j (by omega)
    have q1 : gst ps S' X (j + 1) = badd (gst ps S' X j) (ps.getD j id X) := rfl
    have q2 : gst ps S X (j + 1) = badd (gst ps S X j) (ps.getD j id X) := rfl
    rw [q1, q2]
    unfold badd
    rw [h2, hm, Bool.false_or]
    split
    · exact ⟨h1, h2⟩
    · refine ⟨by rw [h1], fun y => ?_⟩
      show upd _ _ y = (m0 y || upd _ _ y)
      unfold upd
      rw [h2]
      rcases m0 y <;> simp
theorem gb_m0 (hk : Keeps ps n) (hu : Undo ps n) {m0 : Nat → Bool} (hm : ∀ j, j < ps.length → ∀ x, x < n → m0 x = true → m0 (ps.getD j id x) = true) {z : Nat} (hz : z < n) (h0 : m0 z = false) (i : Nat) :
    (gb ps m0 z i).1 = (gb ps noB z i).1 ∧ ∀ y, (gb ps m0 z i).2 y = (m0 y || (gb ps noB z i).2 y) := by
  have hf : ∀ i, ∀ x ∈ (gb ps noB z i).1, x < n ∧ m0 x = false := gb_all (P := fun x => x < n ∧ m0 x = false) ⟨hz, h0⟩ (fun j hj x hx => by
    have hp := hk j hj x hx.1
    refine ⟨hp, ?_⟩
    rcases e : m0 (ps.getD j id x) with _ | _
    · rfl
    · have := hm j hj _ hp e
      rw [hu j hj x hx.1, hx.2] at this; cases this)
  induction i with
  | zero => exact ⟨rfl, fun y => by show upd m0 z y = (m0 y || upd noB z y); unfold upd noB; rcases m0 y <;> simp⟩
  | succ i ih =>
    rw [gb, gb, ih.1]
    rcases e : (gb ps noB z i).1[i]? with _ | x
    · exact ih
    · have hx := hf i x (List.mem_of_getElem? e)
      exact gst_m0 ih.1 ih.2 (fun j hj => by
        have hp := hk j hj x hx.1
        rcases e : m0 (ps.getD j id x) with _ | _
        · rfl
        · have := hm j hj _ hp e
          rw [hu j hj x hx.1, hx.2] at this; cases this) _ (Nat.le_refl _)
theorem gst_m0_len (hk : Keeps ps n) (hu : Undo ps n) {m0 : Nat → Bool} (hm : ∀ j, j < ps.length → ∀ x, x < n → m0 x = true → m0 (ps.getD j id x) = true) {z : Nat} (hz : z < n) (h0 : m0 z = false) (i : Nat) {X : Nat} (hX : X ∈ (gb ps m0 z i).1) {j : Nat} (hj : j ≤ ps.length) :
    X < n ∧ (gst ps (gb ps m0 z i) X j).1.length ≤ n := by
  have hb := gb_m0 hk hu hm hz h0 i
  rw [hb.1] at hX
  have hf : ∀ i, ∀ x ∈ (gb ps noB z i).1, x < n ∧ m0 x = false := gb_all (P := fun x => x < n ∧ m0 x = false) ⟨hz, h0⟩ (fun j hj x hx => by
    have hp := hk j hj x hx.1
    refine ⟨hp, ?_⟩
    rcases e : m0 (ps.getD j id x) with _ | _
    · rfl
    · have := hm j hj _ hp e
      rw [hu j hj x hx.1, hx.2] at this; cases this)
  have hx := hf i X hX
  refine ⟨hx.1, ?_⟩
  have hg := gst_m0 hb.1 hb.2 (X := X) (fun j hj => by
    have hp := hk j hj X hx.1
    rcases e : m0 (ps.getD j id X) with _ | _
    · rfl
    · have := hm j hj _ hp e
      rw [hu j hj X hx.1, hx.2] at this; cases this) j hj
  rw [hg.1]
  exact (gst_inv hk (gb_inv hk hz i) hx.1 j hj).length_le
/-- the first ones of their sets -/
def hdB (ps : List (Nat → Nat)) (x : Nat) : Bool := (cls ps x).all fun y => x ≤ y
theorem hdB_iff {x : Nat} : hdB ps x = true ↔ ∀ y ∈ cls ps x, x ≤ y := by unfold hdB; simp
/-- the numbers of the sets of the first k flags -/
def szL (ps : List (Nat → Nat)) (k : Nat) : List Nat := ((List.range k).filter (hdB ps)).map fun x => (cls ps x).length
theorem szL_yes {k : Nat} (h : hdB ps k = true) : szL ps (k + 1) = szL ps k ++ [(cls ps k).length] := by unfold szL; rw [List.range_succ, List.filter_append, List.filter_cons_of_pos h]; simp
theorem szL_no {k : Nat} (h : hdB ps k = false) : szL ps (k + 1) = szL ps k := by unfold szL; rw [List.range_succ, List.filter_append, List.filter_cons_of_neg (by simp [h])]; simp
theorem szL_len (ps : List (Nat → Nat)) (k : Nat) : (szL ps k).length ≤ k := by unfold szL; rw [List.length_map]; exact Nat.le_trans (List.length_filter_le _ _) (by simp)
/-- what the first k flags' sets hold -/
def mtB (ps : List (Nat → Nat)) (k : Nat) : Nat → Bool := fun y => (List.range k).any fun x => decide (y ∈ cls ps x)
theorem mtB_iff {k y : Nat} : mtB ps k y = true ↔ ∃ x, x < k ∧ y ∈ cls ps x := by unfold mtB; simp
theorem mtB_zero : mtB ps 0 = fun _ => false := by funext y; unfold mtB; simp
theorem mtB_hd (hk : Keeps ps n) (hu : Undo ps n) (hn : n ≤ 32) {k : Nat} (hkn : k < n) : mtB ps k k = !hdB ps k := by
  rcases e : hdB ps k with _ | _
  · show _ = true
    rw [mtB_iff]
    have : ¬ ∀ y ∈ cls ps k, k ≤ y := fun h => by rw [hdB_iff.2 h] at e; cases e
    obtain ⟨y, hy⟩ := Classical.not_forall.1 this
    obtain ⟨hy, hlt⟩ := Classical.not_imp.1 hy
    exact ⟨y, by omega, cls_symm hk hu hn hkn hy⟩
  · show _ = false
    rw [Bool.eq_false_iff, ne_eq, mtB_iff]
    rintro ⟨x, hx, hm⟩
    have := hdB_iff.1 e x (cls_symm hk hu hn (by omega) hm)
    omega
theorem mtB_closed (hk : Keeps ps n) (hn : n ≤ 32) {k : Nat} (hkn : k ≤ n) : ∀ j, j < ps.length → ∀ x, x < n → mtB ps k x = true → mtB ps k (ps.getD j id x) = true := by
  intro j hj x _ h
  obtain ⟨z, hz, hm⟩ := mtB_iff.1 h
  exact mtB_iff.2 ⟨z, hz, gb_closed hk hn (by omega) hm j hj⟩
theorem mtB_old (hk : Keeps ps n) (hu : Undo ps n) (hn : n ≤ 32) {k : Nat} (hkn : k < n) (h : mtB ps k k = true) : mtB ps (k + 1) = mtB ps k := by
  funext y
  rw [Bool.eq_iff_iff, mtB_iff, mtB_iff]
  constructor
  · rintro ⟨x, hx, hm⟩
    by_cases c : x = k
    · subst c
      obtain ⟨z, hz, hm'⟩ := mtB_iff.1 h
      exact ⟨z, hz, cls_sub hk hn (by omega) hm' y hm⟩
    · exact ⟨x, by omega, hm⟩
  · rintro ⟨x, hx, hm⟩; exact ⟨x, by omega, hm⟩
theorem mtB_new (hk : Keeps ps n) (hu : Undo ps n) (hn : n ≤ 32) {k : Nat} (hkn : k < n) (h : mtB ps k k = false) : (gb ps (mtB ps k) k 32).2 = mtB ps (k + 1) ∧ (gb ps (mtB ps k) k 32).1 = cls ps k := by
  have hb := gb_m0 hk hu (mtB_closed hk hn (by omega)) hkn h 32
  refine ⟨?_, by rw [cls_eq]; exact hb.1⟩
  funext y
  rw [hb.2, Bool.eq_iff_iff, Bool.or_eq_true, mtB_iff, mtB_iff, (gb_inv hk hkn 32).mem, ← cls_eq]
  constructor
  · rintro (⟨x, hx, hm⟩ | hm)
    · exact ⟨x, by omega, hm⟩
    · exact ⟨k, by omega, hm⟩
  · rintro ⟨x, hx, hm⟩
    by_cases c : x = k
    · subst c; exact .inr hm
    · exact .inl ⟨x, by omega, hm⟩
/-- the sets of the first ones are all flags -/
theorem szL_sum (hk : Keeps ps n) (hu : Undo ps n) (hn : n ≤ 32) : (szL ps n).sum = n := by
  have e : (szL ps n).sum = (((List.range n).filter (hdB ps)).flatMap (cls ps)).length := by rw [List.length_flatMap]; rfl
  rw [e]
  have hmem : ∀ y, y ∈ ((List.range n).filter (hdB ps)).flatMap (cls ps) ↔ ∃ x, x < n ∧ hdB ps x = true ∧ y ∈ cls ps x := fun y => by simp [List.mem_flatMap, List.mem_filter, and_assoc]
  have hnd : (((List.range n).filter (hdB ps)).flatMap (cls ps)).Nodup := by
    unfold List.Nodup
    rw [List.pairwise_flatMap]
    refine ⟨fun x hx => cls_nodup hk (List.mem_range.1 (List.mem_filter.1 hx).1), ?_⟩
    have h1 : ((List.range n).filter (hdB ps)).Pairwise (· ≠ ·) := (List.nodup_range.filter _)
    refine h1.imp_of_mem fun {a b} ha hb hne => ?_
    intro y hya y' hyb e'
    subst e'
    have ha' := List.mem_filter.1 ha
    have hb' := List.mem_filter.1 hb
    have la := List.mem_range.1 ha'.1
    have lb := List.mem_range.1 hb'.1
    have hyn := cls_lt hk la hya
    have ab : b ∈ cls ps a := cls_sub hk hn la hya b (cls_symm hk hu hn lb hyb)
    have ba : a ∈ cls ps b := cls_symm hk hu hn la ab
    have := hdB_iff.1 ha'.2 b ab
    have := hdB_iff.1 hb'.2 a ba
    omega
  have h1 := nodup_le _ (List.range n) hnd fun y hy => by
    obtain ⟨x, hx, _, hm⟩ := (hmem y).1 hy
    exact List.mem_range.2 (cls_lt hk hx hm)
  have h2 := nodup_le (List.range n) _ List.nodup_range fun y hy => by
    have hy' := List.mem_range.1 hy
    obtain ⟨m, hm, hmin⟩ := exists_least ⟨y, cls_self ps y⟩
    have hmn := cls_lt hk hy' hm
    refine (hmem y).2 ⟨m, hmn, hdB_iff.2 fun z hz => ?_, cls_symm hk hu hn hy' hm⟩
    rcases Nat.lt_or_ge z m with c | c
    · exact absurd (cls_sub hk hn hy' hm z hz) (hmin z c)
    · exact c
  rw [List.length_range] at h1 h2
  omega
end
end Go.Proofs.Yteeideminlcblaa
