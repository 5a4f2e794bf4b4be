/- Joining darts: the closure of pairs under two permutations, by whatever numbers the sets are told. Plain mathematics. -/
import Derived.Test.YtgomfphdgekniaaPerm
namespace Go.Proofs.Ytgomfphdgekniaa

/-- what is to be joined, and the number of each dart's set -/
abbrev JS := List (Nat × Nat) × (Nat → Nat)
def jst (mg : (Nat → Nat) → Nat → Nat → Nat → Nat) (f g : Nat → Nat) (S : JS) (k : Nat) : JS :=
  match S.1[k]? with
  | none => S
  | some p => if S.2 p.1 = S.2 p.2 then S else (S.1 ++ [(f p.1, f p.2), (g p.1, g p.2)], mg S.2 p.1 p.2)
def jrun (mg : (Nat → Nat) → Nat → Nat → Nat → Nat) (f g : Nat → Nat) (S0 : JS) : Nat → JS
  | 0 => S0
  | k + 1 => jst mg f g (jrun mg f g S0 k) k
/-- the least number for both sets -/
def mgI (m : Nat) (c : Nat → Nat) (a b : Nat) : Nat → Nat := fun i => if i < m ∧ (c i = c a ∨ c i = c b) then min (c a) (c b) else c i
/-- the first one's number for both sets -/
def mgS (m : Nat) (c : Nat → Nat) (a b : Nat) : Nat → Nat := fun i => if i < m ∧ c i = c b then c a else c i
/-- the darts that are numbers of sets -/
def reps (c : Nat → Nat) (m : Nat) : List Nat := (List.range m).filter fun i => c i == i
structure JInv (m B : Nat) (S : JS) : Prop where
  lt : ∀ p ∈ S.1, p.1 < m ∧ p.2 < m
  num : ∀ i, i < m → S.2 i < m ∧ S.2 (S.2 i) = S.2 i
  far : ∀ i, ¬ i < m → S.2 i = 0
  len : S.1.length + 2 * (reps S.2 m).length ≤ B

theorem filter_lt {l : List Nat} {p q : Nat → Bool} (h : ∀ x ∈ l, p x = true → q x = true) {y : Nat} (hy : y ∈ l) (h1 : q y = true) (h2 : p y = false) : (l.filter p).length + 1 ≤ (l.filter q).length := by
  induction l with
  | nil => cases hy
  | cons x l ih =>
    have hl : (l.filter p).length ≤ (l.filter q).length := by
      have : ∀ l' : List Nat, (∀ x ∈ l', p x = true → q x = true) → (l'.filter p).length ≤ (l'.filter q).length := by
        intro l' h'
        induction l' with
        | nil => simp
        | cons z l' ih' =>
          have := ih' fun x hx => h' x (by simp [hx])
          have hz := h' z (by simp)
          rcases hp : p z with _ | _ <;> rcases hq : q z with _ | _ <;> simp_all <;> omega
      exact this l fun x hx => h x (by simp [hx])
    rcases List.mem_cons.1 hy with rfl | hy
    · simp [h1, h2]; omega
    · have := ih (fun x hx => h x (by simp [hx])) hy
      have hx := h x (by simp)
      rcases hp : p x with _ | _ <;> rcases hq : q x with _ | _ <;> simp_all <;> omega
/-- how a merging is to behave -/
structure Mg (m : Nat) (mg : (Nat → Nat) → Nat → Nat → Nat → Nat) : Prop where
  num : ∀ c a b, a < m → b < m → c a ≠ c b → (∀ i, i < m → c i < m ∧ c (c i) = c i) → ∀ i, i < m → mg c a b i < m ∧ mg c a b (mg c a b i) = mg c a b i
  far : ∀ c a b i, ¬ i < m → mg c a b i = c i
  rep : ∀ c a b, a < m → b < m → c a ≠ c b → (∀ i, i < m → c i < m ∧ c (c i) = c i) → (∀ i, i < m → mg c a b i = i → c i = i) ∧ ∃ y, y < m ∧ c y = y ∧ mg c a b y ≠ y
  ker : ∀ c a b, a < m → b < m → ∀ i j, i < m → j < m → (mg c a b i = mg c a b j ↔ c i = c j ∨ (c i = c a ∧ c j = c b) ∨ (c i = c b ∧ c j = c a))
theorem mgS_ok (m : Nat) : Mg m (mgS m) where
  num c a b ha hb hne hc i hi := by
    have h1 := hc i hi
    have h2 := hc a ha
    unfold mgS
    by_cases e : c i = c b
    · rw [if_pos ⟨hi, e⟩]
      refine ⟨h2.1, ?_⟩
      by_cases e2 : c (c a) = c b
      · rw [if_pos ⟨h2.1, e2⟩]
      · rw [if_neg (fun k => e2 k.2)]; exact h2.2
    · rw [if_neg (fun k => e k.2)]
      refine ⟨h1.1, ?_⟩
      rw [if_neg (fun k => e (by rw [← h1.2]; exact k.2))]
      exact h1.2
  far c a b i hi := by unfold mgS; rw [if_neg (fun k => hi k.1)]
  rep c a b ha hb hne hc := by
    refine ⟨fun i hi h => ?_, c b, (hc b hb).1, (hc b hb).2, ?_⟩
    · unfold mgS at h
      by_cases e : c i = c b
      · rw [if_pos ⟨hi, e⟩] at h
        have := (hc a ha).2
        rw [h] at this
        rw [this] at e
        omega
      · rw [if_neg (fun k => e k.2)] at h; exact h
    · unfold mgS
      rw [if_pos ⟨(hc b hb).1, (hc b hb).2⟩]
      exact hne
  ker c a b ha hb i j hi hj := by
    unfold mgS
    by_cases e1 : c i = c b <;> by_cases e2 : c j = c b <;> simp [hi, hj, e1, e2] <;> omega
theorem mgI_ok (m : Nat) : Mg m (mgI m) where
  num c a b ha hb hne hc i hi := by
    have h1 := hc i hi
    have h2 := hc a ha
    have h3 := hc b hb
    unfold mgI
    by_cases e : c i = c a ∨ c i = c b
    · rw [if_pos ⟨hi, e⟩]
      have hm : min (c a) (c b) < m := by omega
      refine ⟨hm, ?_⟩
      rcases Nat.le_total (c a) (c b) with k | k
      · rw [Nat.min_eq_left k, if_pos ⟨h2.1, .inl h2.2⟩]
      · rw [Nat.min_eq_right k, if_pos ⟨h3.1, .inr h3.2⟩]
    · rw [if_neg (fun k => e k.2)]
      refine ⟨h1.1, ?_⟩
      rw [if_neg (fun k => e (by rw [← h1.2]; exact k.2))]
      exact h1.2
  far c a b i hi := by unfold mgI; rw [if_neg (fun k => hi k.1)]
  rep c a b ha hb hne hc := by
    refine ⟨fun i hi h => ?_, max (c a) (c b), ?_, ?_, ?_⟩
    · unfold mgI at h
      by_cases e : c i = c a ∨ c i = c b
      · rw [if_pos ⟨hi, e⟩] at h
        have h2 := hc a ha
        have h3 := hc b hb
        rcases Nat.le_total (c a) (c b) with k | k
        · rw [Nat.min_eq_left k] at h; rw [← h]; exact h2.2
        · rw [Nat.min_eq_right k] at h; rw [← h]; exact h3.2
      · rw [if_neg (fun k => e k.2)] at h; exact h
    · have := (hc a ha).1; have := (hc b hb).1; omega
    · rcases Nat.le_total (c a) (c b) with k | k
      · rw [Nat.max_eq_right k]; exact (hc b hb).2
      · rw [Nat.max_eq_left k]; exact (hc a ha).2
    · unfold mgI
      have h2 := hc a ha
      have h3 := hc b hb
      rcases Nat.le_total (c a) (c b) with k | k
      · rw [Nat.max_eq_right k, if_pos ⟨h3.1, .inr h3.2⟩, Nat.min_eq_left k]; exact hne
      · rw [Nat.max_eq_left k, if_pos ⟨h2.1, .inl h2.2⟩, Nat.min_eq_right k]; exact Ne.symm hne
  ker c a b ha hb i j hi hj := by
    unfold mgI
    by_cases e1 : c i = c a ∨ c i = c b <;> by_cases e2 : c j = c a ∨ c j = c b <;> simp [hi, hj, e1, e2] <;> omega

theorem jst_inv {mg : (Nat → Nat) → Nat → Nat → Nat → Nat} {m B : Nat} (hm : Mg m mg) {f g : Nat → Nat} (hf : ∀ i, i < m → f i < m) (hg : ∀ i, i < m → g i < m) {S : JS} (h : JInv m B S) (k : Nat) : JInv m B (jst mg f g S k) := by
  unfold jst
  split
  · exact h
  · rename_i p hp
    split
    · exact h
    · rename_i hne
      have hpl := h.lt p (List.mem_of_getElem? hp)
      refine ⟨fun q hq => ?_, hm.num _ _ _ hpl.1 hpl.2 hne h.num, fun i hi => (hm.far _ _ _ _ hi).trans (h.far i hi), ?_⟩
      · rcases List.mem_append.1 hq with c | c
        · exact h.lt q c
        · rcases List.mem_cons.1 c with rfl | c
          · exact ⟨hf _ hpl.1, hf _ hpl.2⟩
          · rw [List.mem_singleton.1 c]; exact ⟨hg _ hpl.1, hg _ hpl.2⟩
      · obtain ⟨k1, y, hy, k2, k3⟩ := hm.rep S.2 p.1 p.2 hpl.1 hpl.2 hne h.num
        have := filter_lt (l := List.range m) (p := fun i => mg S.2 p.1 p.2 i == i) (q := fun i => S.2 i == i) (fun x hx he => by
          simp only [beq_iff_eq] at he ⊢; exact k1 x (List.mem_range.1 hx) he) (List.mem_range.2 hy) (by simpa using k2) (by simpa using k3)
        have hl := h.len
        unfold reps at *
        simp only [List.length_append, List.length_cons, List.length_nil] at *
        omega
theorem jrun_inv {mg : (Nat → Nat) → Nat → Nat → Nat → Nat} {m B : Nat} (hm : Mg m mg) {f g : Nat → Nat} (hf : ∀ i, i < m → f i < m) (hg : ∀ i, i < m → g i < m) {S0 : JS} (h : JInv m B S0) (k : Nat) : JInv m B (jrun mg f g S0 k) := by
  induction k with
  | zero => exact h
  | succ k ih => exact jst_inv hm hf hg ih k
theorem jrun_stop {mg : (Nat → Nat) → Nat → Nat → Nat → Nat} {f g : Nat → Nat} {S0 : JS} {i : Nat} (h : (jrun mg f g S0 i).1.length ≤ i) {j : Nat} (hj : i ≤ j) : jrun mg f g S0 j = jrun mg f g S0 i := by
  obtain ⟨d, rfl⟩ := Nat.exists_eq_add_of_le hj
  clear hj
  induction d with
  | zero => rfl
  | succ d ih => rw [← Nat.add_assoc, jrun, ih, jst, List.getElem?_eq_none (by omega)]
def sameN (m : Nat) : Nat → Nat := fun i => if i < m then i else 0
theorem JInv.start {m : Nat} (q : List (Nat × Nat)) (hq : ∀ p ∈ q, p.1 < m ∧ p.2 < m) : JInv m (q.length + 2 * m) (q, sameN m) where
  lt := hq
  num i hi := by
    have : sameN m i = i := by unfold sameN; rw [if_pos hi]
    show sameN m i < m ∧ sameN m (sameN m i) = sameN m i
    rw [this, this]; exact ⟨hi, rfl⟩
  far i hi := by show sameN m i = 0; unfold sameN; rw [if_neg hi]
  len := by
    have : (reps (sameN m) m).length ≤ m := by unfold reps; have := List.length_filter_le (fun i => sameN m i == i) (List.range m); simpa using this
    show q.length + 2 * (reps (sameN m) m).length ≤ _
    omega
/-- two runs whose sets are the same, the one an entry behind -/
theorem jrun_two {m : Nat} {mg mg' : (Nat → Nat) → Nat → Nat → Nat → Nat} (hm : Mg m mg) (hm' : Mg m mg') {f g : Nat → Nat} (hf : ∀ i, i < m → f i < m) (hg : ∀ i, i < m → g i < m) {x y : Nat} (hx : x < m) (hy : y < m) (k : Nat) :
    (jrun mg f g ([(x, x), (x, y)], sameN m) (k + 1)).1 = (x, x) :: (jrun mg' f g ([(x, y)], sameN m) k).1 ∧
      ∀ i j, i < m → j < m → ((jrun mg f g ([(x, x), (x, y)], sameN m) (k + 1)).2 i = (jrun mg f g ([(x, x), (x, y)], sameN m) (k + 1)).2 j ↔ (jrun mg' f g ([(x, y)], sameN m) k).2 i = (jrun mg' f g ([(x, y)], sameN m) k).2 j) := by
  induction k with
  | zero =>
    have e : jrun mg f g ([(x, x), (x, y)], sameN m) 1 = ([(x, x), (x, y)], sameN m) := by simp [jrun, jst]
    rw [e]
    exact ⟨rfl, fun _ _ _ _ => Iff.rfl⟩
  | succ k ih =>
    have I' := jrun_inv hm' hf hg (JInv.start [(x, y)] (by simpa using ⟨hx, hy⟩)) k
    rw [jrun]
    rw [show jrun mg' f g ([(x, y)], sameN m) (k + 1) = jst mg' f g (jrun mg' f g ([(x, y)], sameN m) k) k from rfl]
    generalize jrun mg f g ([(x, x), (x, y)], sameN m) (k + 1) = S at *
    generalize jrun mg' f g ([(x, y)], sameN m) k = S' at *
    obtain ⟨h1, h2⟩ := ih
    unfold jst
    rw [h1, List.getElem?_cons_succ]
    rcases hp : S'.1[k]? with _ | p
    · exact ⟨h1, h2⟩
    · have hpl := I'.lt p (List.mem_of_getElem? hp)
      by_cases e : S'.2 p.1 = S'.2 p.2
      · have e' := (h2 _ _ hpl.1 hpl.2).2 e
        simp only [e, e', if_true]
        exact ⟨h1, h2⟩
      · have e' : ¬ S.2 p.1 = S.2 p.2 := fun k => e ((h2 _ _ hpl.1 hpl.2).1 k)
        simp only [e, e', if_false]
        refine ⟨rfl, fun i j hi hj => ?_⟩
        rw [hm.ker _ _ _ hpl.1 hpl.2 i j hi hj, hm'.ker _ _ _ hpl.1 hpl.2 i j hi hj, h2 i j hi hj, h2 i _ hi hpl.1, h2 j _ hj hpl.2, h2 i _ hi hpl.2, h2 j _ hj hpl.1]
end Go.Proofs.Ytgomfphdgekniaa
