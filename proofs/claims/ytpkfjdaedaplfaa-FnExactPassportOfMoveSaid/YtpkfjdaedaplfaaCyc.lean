/- The walk round one cycle, step by step. -/
import Derived.Test.YtpkfjdaedaplfaaPerm
import Derived.Test.YtpkfjdaedaplfaaAgg
namespace Go.Proofs.Ytpkfjdaedaplfaa

/-- what has been met behind j steps from i -/
@[irreducible] def Mj (p : Nat → Nat) (m0 : Nat → Bool) (i j : Nat) : Nat → Bool := fun y => m0 y || ((List.range j).map fun a => it p a i).contains y
theorem Mj_zero (p : Nat → Nat) (m0 : Nat → Bool) (i : Nat) : Mj p m0 i 0 = m0 := by unfold Mj; funext y; simp
theorem Mj_step (p : Nat → Nat) (m0 : Nat → Bool) (i j : Nat) : mset (Mj p m0 i j) (it p j i) = Mj p m0 i (j + 1) := by
  unfold Mj
  funext y
  simp only [mset, List.range_succ, List.map_append, List.map_cons, List.map_nil, List.contains_eq_mem, List.mem_append, List.mem_singleton]
  rw [Bool.eq_iff_iff]; simp only [Bool.or_eq_true, beq_iff_eq, decide_eq_true_eq]
  constructor
  · rintro (a | b | c); exact .inr (.inr a); exact .inl b; exact .inr (.inl c)
  · rintro (b | c | a); exact .inr (.inl b); exact .inr (.inr c); exact .inl a
section
variable {p : Nat → Nat} {n k : Nat}
theorem met_closed (h : Bij p n) (hn : n ≤ 16) (hk : k < n) : ∀ y, y < n → cycs.met p k (p y) = true → cycs.met p k y = true := by
  intro y hy hmy
  obtain ⟨_, h2⟩ := cycs_spec h hn k (by omega)
  obtain ⟨x, hx, r⟩ := (h2 _).1 hmy
  exact (h2 _).2 ⟨x, hx, r.trans (R.symm h hy (R.step y))⟩
theorem met_it (h : Bij p n) (hn : n ≤ 16) (hk : k < n) (hb : cycs.met p k k = false) (j : Nat) : cycs.met p k (it p j k) = false := by
  induction j with
  | zero => exact hb
  | succ j ih =>
    rcases hc : cycs.met p k (it p (j + 1) k) with _ | _
    · rfl
    · have := met_closed h hn hk _ (h.it_lt j hk) hc; rw [ih] at this; cases this
theorem Mj_false (h : Bij p n) (hn : n ≤ 16) (hk : k < n) (hb : cycs.met p k k = false) {j : Nat} (hj : j < per p k) : Mj p (cycs.met p k) k j (it p j k) = false := by
  unfold Mj
  rw [met_it h hn hk hb, Bool.false_or, Bool.eq_false_iff]
  simp only [ne_eq, List.contains_iff_mem, List.mem_map, List.mem_range, not_exists, not_and]
  exact fun i hi e => it_distinct h hk hi hj e
theorem Mj_true (h : Bij p n) (hk : k < n) : Mj p (cycs.met p k) k (per p k) (it p (per p k) k) = true := by
  unfold Mj
  rw [(per_spec h hk).2.2.1]
  have : ((List.range (per p k)).map fun a => it p a k).contains k = true := by
    simp only [List.contains_iff_mem]
    exact (mem_orbit h hk).2 (R.refl k)
  rw [this, Bool.or_true]
theorem cycs_new (h : Bij p n) (hn : n ≤ 16) (hk : k < n) (hb : cycs.met p k k = false) : cycs p (k + 1) = cycs p k ++ [orbit p k] ∧ cycs.met p (k + 1) = Mj p (cycs.met p k) k (per p k) := by
  obtain ⟨e1, e2⟩ := cyc_orbit h hk (f := 17) (by omega) _ (met_closed h hn hk) hb
  have hne : orbit p k ≠ [] := by
    intro e
    have : k ∈ orbit p k := (mem_orbit h hk).2 (R.refl k)
    rw [e] at this; cases this
  refine ⟨by simp only [cycs, e1, if_neg hne], ?_⟩
  show cycMet p 17 (cycs.met p k) k = _
  rw [e2]
  unfold Mj orbit
  rfl
theorem cycs_old (hb : cycs.met p k k = true) : cycs p (k + 1) = cycs p k ∧ cycs.met p (k + 1) = cycs.met p k := by
  have ec : cyc p 17 (cycs.met p k) k = [] := by simp [cyc, hb]
  have em : cycMet p 17 (cycs.met p k) k = cycs.met p k := by simp [cycMet, hb]
  exact ⟨by simp only [cycs, ec, if_true], em⟩
/-- the first j numbers of the cycle of k -/
def orbTo (p : Nat → Nat) (k j : Nat) : List Nat := (List.range j).map fun a => it p a k
theorem orbTo_zero (p : Nat → Nat) (k : Nat) : orbTo p k 0 = [] := rfl
theorem orbTo_step (p : Nat → Nat) (k j : Nat) : orbTo p k (j + 1) = orbTo p k j ++ [it p j k] := by unfold orbTo; rw [List.range_succ, List.map_append]; rfl
theorem orbTo_length (p : Nat → Nat) (k j : Nat) : (orbTo p k j).length = j := by unfold orbTo; simp
theorem orbTo_per (p : Nat → Nat) (k : Nat) : orbTo p k (per p k) = orbit p k := rfl
theorem cycs_len_le (h : Bij p n) (hn : n ≤ 16) (hk : k ≤ n) : (cycs p k).length ≤ 16 := by
  rw [(cycs_spec h hn k hk).1, List.length_map]
  exact Nat.le_trans (List.length_filter_le _ _) (by simp; omega)
/-- both ways at once: how many steps the walk from k takes -/
theorem cyc_J (h : Bij p n) (hn : n ≤ 16) (hk : k < n) : ∃ J, J ≤ 16 ∧ (∀ j, j < J → Mj p (cycs.met p k) k j (it p j k) = false) ∧ Mj p (cycs.met p k) k J (it p J k) = true ∧
    cycs p (k + 1) = (if J = 0 then cycs p k else cycs p k ++ [orbTo p k J]) ∧ cycs.met p (k + 1) = Mj p (cycs.met p k) k J := by
  rcases hb : cycs.met p k k with _ | _
  · obtain ⟨e1, e2⟩ := cycs_new h hn hk hb
    have hp := per_spec h hk
    exact ⟨per p k, by omega, fun j hj => Mj_false h hn hk hb hj, Mj_true h hk, by rw [e1, if_neg (by omega), orbTo_per], e2⟩
  · obtain ⟨e1, e2⟩ := cycs_old hb
    exact ⟨0, by omega, by omega, by rw [Mj_zero]; exact hb, by rw [e1, if_pos rfl], by rw [e2, Mj_zero]⟩
end
end Go.Proofs.Ytpkfjdaedaplfaa
