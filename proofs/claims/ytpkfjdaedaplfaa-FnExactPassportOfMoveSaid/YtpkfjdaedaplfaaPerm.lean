/- Plain mathematics of permutations: orbits, what an exchange does to them, the bound on the orbits of two permutations and of their product, cycles, orders, sorted lists, the search for what can be reached. -/
namespace Go.Proofs.Ytpkfjdaedaplfaa
/-- pigeonhole -/
theorem pigeon : ∀ (n : Nat) (f : Nat → Nat), (∀ i, i ≤ n → f i < n) → ∃ i j, i < j ∧ j ≤ n ∧ f i = f j := by
  intro n
  induction n with
  | zero => intro f h; exact absurd (h 0 (Nat.le_refl _)) (by omega)
  | succ n ih =>
    intro f h
    by_cases he : ∃ i, i ≤ n ∧ f i = f (n + 1)
    · obtain ⟨i, hi, e⟩ := he
      exact ⟨i, n + 1, by omega, Nat.le_refl _, e⟩
    · have hne : ∀ i, i ≤ n → f i ≠ f (n + 1) := fun i hi e => he ⟨i, hi, e⟩
      obtain ⟨i, j, hij, hj, e⟩ := ih (fun i => if f i = n then f (n + 1) else f i) (by
        intro i hi
        have h1 := h i (by omega)
        have h2 := h (n + 1) (Nat.le_refl _)
        have h3 := hne i hi
        by_cases c : f i = n
        · simp only [if_pos c]; omega
        · simp only [if_neg c]; omega)
      refine ⟨i, j, hij, by omega, ?_⟩
      have h3 := hne i (by omega)
      have h4 := hne j (by omega)
      by_cases c : f i = n <;> by_cases d : f j = n
      · omega
      · simp only [if_pos c, if_neg d] at e; omega
      · simp only [if_neg c, if_pos d] at e; omega
      · simp only [if_neg c, if_neg d] at e; exact e

def Bij (p : Nat → Nat) (n : Nat) : Prop := (∀ x, x < n → p x < n) ∧ ∀ x y, x < n → y < n → p x = p y → x = y

def it (p : Nat → Nat) : Nat → Nat → Nat
  | 0, x => x
  | k + 1, x => p (it p k x)

theorem it_add (p : Nat → Nat) (j k x : Nat) : it p (j + k) x = it p j (it p k x) := by
  induction j with
  | zero => simp [it]
  | succ j ih => rw [Nat.succ_add]; simp [it, ih]

theorem it_succ' (p : Nat → Nat) (k x : Nat) : it p (k + 1) x = it p k (p x) := by
  rw [it_add p k 1 x]; rfl

variable {p q : Nat → Nat} {n : Nat}

theorem Bij.it_lt (h : Bij p n) (k : Nat) {x : Nat} (hx : x < n) : it p k x < n := by
  induction k with
  | zero => exact hx
  | succ k ih => exact h.1 _ ih

theorem Bij.it_inj (h : Bij p n) (k : Nat) {x y : Nat} (hx : x < n) (hy : y < n) (e : it p k x = it p k y) : x = y := by
  induction k with
  | zero => exact e
  | succ k ih => exact ih (h.2 _ _ (h.it_lt k hx) (h.it_lt k hy) e)

theorem Bij.period (h : Bij p n) {x : Nat} (hx : x < n) : ∃ L, 0 < L ∧ L ≤ n ∧ it p L x = x := by
  obtain ⟨i, j, hij, hj, e⟩ := pigeon n (fun k => it p k x) (fun i _ => h.it_lt i hx)
  refine ⟨j - i, by omega, by omega, ?_⟩
  have e1 : it p i (it p (j - i) x) = it p i x := by rw [← it_add, show i + (j - i) = j from by omega]; exact e.symm
  exact h.it_inj i (h.it_lt _ hx) hx e1

theorem exists_least {P : Nat → Prop} (h : ∃ k, P k) : ∃ k, P k ∧ ∀ j, j < k → ¬ P j := by
  obtain ⟨k, hk⟩ := h
  induction k using Nat.strongRecOn with
  | _ k ih =>
    by_cases c : ∃ j, j < k ∧ P j
    · obtain ⟨j, hj, hp⟩ := c; exact ih j hj hp
    · exact ⟨k, hk, fun j hj hp => c ⟨j, hj, hp⟩⟩

/-- the least period -/
theorem Bij.least (h : Bij p n) {x : Nat} (hx : x < n) : ∃ L, 0 < L ∧ L ≤ n ∧ it p L x = x ∧ ∀ j, 0 < j → j < L → it p j x ≠ x := by
  obtain ⟨L0, h0, h1, h2⟩ := h.period hx
  obtain ⟨L, hL, hmin⟩ := exists_least (P := fun L => 0 < L ∧ it p L x = x) ⟨L0, h0, h2⟩
  refine ⟨L, hL.1, ?_, hL.2, fun j hj hlt e => hmin j hlt ⟨hj, e⟩⟩
  by_cases c : L ≤ L0
  · omega
  · exact absurd ⟨h0, h2⟩ (hmin L0 (by omega))

theorem it_mul {L x : Nat} (e : it p L x = x) (k : Nat) : it p (L * k) x = x := by
  induction k with
  | zero => rfl
  | succ k ih => rw [Nat.mul_succ, it_add, e, ih]

theorem it_mod {L x : Nat} (e : it p L x = x) (k : Nat) : it p k x = it p (k % L) x := by
  conv => lhs; rw [← Nat.mod_add_div k L, it_add, it_mul e]

/-- the orbit relation -/
def R (p : Nat → Nat) (x y : Nat) : Prop := ∃ k, it p k x = y
theorem R.refl (x : Nat) : R p x x := ⟨0, rfl⟩
theorem R.step (x : Nat) : R p x (p x) := ⟨1, rfl⟩
theorem R.trans {x y z : Nat} (h : R p x y) (k : R p y z) : R p x z := by
  obtain ⟨i, rfl⟩ := h; obtain ⟨j, rfl⟩ := k; exact ⟨j + i, it_add p j i x⟩
theorem R.lt (h : Bij p n) {x y : Nat} (hx : x < n) (r : R p x y) : y < n := by obtain ⟨k, rfl⟩ := r; exact h.it_lt k hx
theorem R.symm (h : Bij p n) {x y : Nat} (hx : x < n) (r : R p x y) : R p y x := by
  obtain ⟨k, rfl⟩ := r
  obtain ⟨L, h0, _, h2⟩ := h.period hx
  refine ⟨L * (k + 1) - k, ?_⟩
  rw [← it_add, show L * (k + 1) - k + k = L * (k + 1) from by
    have : k + 1 ≤ L * (k + 1) := Nat.le_mul_of_pos_left _ h0
    omega, it_mul h2]
theorem R.of_steps {S : Nat → Nat → Prop} (hr : ∀ x, x < n → S x x) (ht : ∀ x y z, x < n → y < n → z < n → S x y → S y z → S x z)
    (h : Bij p n) (hs : ∀ x, x < n → S x (p x)) {x y : Nat} (hx : x < n) (r : R p x y) : S x y := by
  obtain ⟨k, rfl⟩ := r
  induction k with
  | zero => exact hr x hx
  | succ k ih => exact ht _ _ _ hx (h.it_lt k hx) (h.it_lt (k + 1) hx) ih (hs _ (h.it_lt k hx))
open Classical in
/-- number of classes of a relation below n: its least elements -/
noncomputable def cl (E : Nat → Nat → Prop) (n : Nat) : Nat := ((List.range n).filter fun x => decide (∀ y, y < n → E x y → x ≤ y)).length

theorem count_one (l : List Nat) (hl : l.Nodup) (P Q : Nat → Bool) (b : Nat) (hb : b ∈ l) (hq : Q b = true) (h : ∀ x, x ∈ l → P x = (Q x && x != b)) :
    (l.filter Q).length = (l.filter P).length + 1 := by
  induction l with
  | nil => cases hb
  | cons x l ih =>
    have hn := List.nodup_cons.1 hl
    by_cases e : x = b
    · subst e
      have hp : P x = false := by rw [h x (by simp)]; simp
      rw [List.filter_cons_of_pos hq, List.filter_cons_of_neg (by simp [hp])]
      have : l.filter P = l.filter Q := by
        apply List.filter_congr
        intro y hy
        have hne : y ≠ x := fun e => hn.1 (e ▸ hy)
        rw [h y (by simp [hy])]; simp [hne]
      rw [this]; rfl
    · have hb' : b ∈ l := by
        rcases List.mem_cons.1 hb with c | c
        · exact absurd c.symm e
        · exact c
      have := ih hn.2 hb' (fun y hy => h y (by simp [hy]))
      have hx : P x = Q x := by rw [h x (by simp)]; simp [e]
      by_cases c : Q x = true
      · rw [List.filter_cons_of_pos c, List.filter_cons_of_pos (by rw [hx]; exact c)]; simp [this]
      · rw [List.filter_cons_of_neg c, List.filter_cons_of_neg (by rw [hx]; exact c)]; exact this

structure Eqv (E : Nat → Nat → Prop) (n : Nat) : Prop where
  refl : ∀ x, x < n → E x x
  symm : ∀ x y, x < n → y < n → E x y → E y x
  trans : ∀ x y z, x < n → y < n → z < n → E x y → E y z → E x z

def Join (E : Nat → Nat → Prop) (a b x y : Nat) : Prop := E x y ∨ (E x a ∧ E b y) ∨ (E x b ∧ E a y)

theorem Eqv.leastOf {E : Nat → Nat → Prop} {n a : Nat} (h : Eqv E n) (ha : a < n) : ∃ m, m < n ∧ E a m ∧ ∀ y, y < n → E a y → m ≤ y := by
  obtain ⟨m, hm, hmin⟩ := exists_least (P := fun m => m < n ∧ E a m) ⟨a, ha, h.refl a ha⟩
  exact ⟨m, hm.1, hm.2, fun y hy e => Nat.le_of_not_lt fun c => hmin y c ⟨hy, e⟩⟩

theorem cl_congr {E E' : Nat → Nat → Prop} {n : Nat} (h : ∀ x y, x < n → y < n → (E x y ↔ E' x y)) : cl E n = cl E' n := by
  unfold cl
  congr 1
  apply List.filter_congr
  intro x hx
  have hx := List.mem_range.1 hx
  rw [decide_eq_decide]
  exact ⟨fun k y hy e => k y hy ((h x y hx hy).2 e), fun k y hy e => k y hy ((h x y hx hy).1 e)⟩

theorem cl_join_lt {E : Nat → Nat → Prop} {n a b A B : Nat} (h : Eqv E n) (ha : a < n) (hb : b < n) (hA : A < n) (hB : B < n) (eA : E a A) (_mA : ∀ y, y < n → E a y → A ≤ y)
    (eB : E b B) (mB : ∀ y, y < n → E b y → B ≤ y) (_hne : ¬ E a b) (hlt : A < B) : cl E n = cl (Join E a b) n + 1 := by
  classical
  unfold cl
  refine count_one _ List.nodup_range _ _ B (List.mem_range.2 hB) ?_ ?_
  · simp only [decide_eq_true_eq]
    exact fun y hy e => mB y hy (h.trans _ _ _ hb hB hy eB e)
  · intro x hx
    have hx := List.mem_range.1 hx
    rw [Bool.eq_iff_iff]
    simp only [decide_eq_true_eq, Bool.and_eq_true, bne_iff_ne, ne_eq]
    constructor
    · intro k
      refine ⟨fun y hy e => k y hy (.inl e), ?_⟩
      rintro rfl
      have := k A hA (.inr (.inr ⟨h.symm _ _ hb hx eB, eA⟩))
      omega
    · rintro ⟨k, kb⟩ y hy (e | ⟨e1, e2⟩ | ⟨e1, e2⟩)
      · exact k y hy e
      · have h1 := k A hA (h.trans _ _ _ hx ha hA e1 eA)
        have h2 := mB y hy e2
        omega
      · exfalso
        have h1 := k B hB (h.trans _ _ _ hx hb hB e1 eB)
        have h2 := mB x hx (h.symm _ _ hx hb e1)
        omega

theorem Join.comm {E : Nat → Nat → Prop} {a b x y : Nat} : Join E a b x y ↔ Join E b a x y := by
  unfold Join; constructor <;> rintro (h | h | h) <;> simp [h]

theorem cl_join {E : Nat → Nat → Prop} {n a b : Nat} (h : Eqv E n) (ha : a < n) (hb : b < n) (hne : ¬ E a b) : cl E n = cl (Join E a b) n + 1 := by
  obtain ⟨A, hA, eA, mA⟩ := h.leastOf ha
  obtain ⟨B, hB, eB, mB⟩ := h.leastOf hb
  rcases Nat.lt_trichotomy A B with c | c | c
  · exact cl_join_lt h ha hb hA hB eA mA eB mB hne c
  · exact absurd (h.trans _ _ _ ha hA hb eA (c ▸ h.symm _ _ hb hB eB)) hne
  · rw [cl_congr (E := Join E a b) (E' := Join E b a) (fun _ _ _ _ => Join.comm)]
    exact cl_join_lt h hb ha hB hA eB mB eA mA (fun e => hne (h.symm _ _ hb ha e)) c

theorem Eqv.join {E : Nat → Nat → Prop} {n a b : Nat} (h : Eqv E n) (ha : a < n) (hb : b < n) : Eqv (Join E a b) n where
  refl x hx := .inl (h.refl x hx)
  symm x y hx hy := by
    rintro (e | ⟨e, f⟩ | ⟨e, f⟩)
    · exact .inl (h.symm _ _ hx hy e)
    · exact .inr (.inr ⟨h.symm _ _ hb hy f, h.symm _ _ hx ha e⟩)
    · exact .inr (.inl ⟨h.symm _ _ ha hy f, h.symm _ _ hx hb e⟩)
  trans x y z hx hy hz := by
    have S := h.symm; have T := h.trans
    rintro (e | ⟨e, f⟩ | ⟨e, f⟩) (g | ⟨g, k⟩ | ⟨g, k⟩)
    · exact .inl (T _ _ _ hx hy hz e g)
    · exact .inr (.inl ⟨T _ _ _ hx hy ha e g, k⟩)
    · exact .inr (.inr ⟨T _ _ _ hx hy hb e g, k⟩)
    · exact .inr (.inl ⟨e, T _ _ _ hb hy hz f g⟩)
    · exact .inl (T _ _ _ hx ha hz e (S _ _ hz ha (T _ _ _ hz hb ha (S _ _ hb hz k) (T _ _ _ hb hy ha f g))))
    · exact .inl (T _ _ _ hx ha hz e k)
    · exact .inr (.inr ⟨e, T _ _ _ ha hy hz f g⟩)
    · exact .inl (T _ _ _ hx hb hz e k)
    · exact .inl (T _ _ _ hx hb hz e (S _ _ hz hb (T _ _ _ hz ha hb (S _ _ ha hz k) (T _ _ _ ha hy hb f g))))

theorem Bij.eqv {p : Nat → Nat} {n : Nat} (h : Bij p n) : Eqv (R p) n := ⟨fun x _ => R.refl x, fun _ _ hx _ r => r.symm h hx, fun _ _ _ _ _ _ => R.trans⟩

/-- a and b exchanged -/
def sw (a b x : Nat) : Nat := if x = a then b else if x = b then a else x
/-- first the exchange, then p -/
def mulsw (p : Nat → Nat) (a b x : Nat) : Nat := p (sw a b x)

theorem sw_lt {a b x n : Nat} (ha : a < n) (hb : b < n) (hx : x < n) : sw a b x < n := by unfold sw; split; omega; split <;> omega
theorem sw_sw (a b x : Nat) : sw a b (sw a b x) = x := by
  unfold sw
  by_cases h1 : x = a
  · subst h1; by_cases h : b = x <;> simp [h]
  · by_cases h2 : x = b
    · subst h2; simp [h1]
    · simp [h1, h2]
theorem Bij.mulsw {p : Nat → Nat} {n a b : Nat} (h : Bij p n) (ha : a < n) (hb : b < n) : Bij (mulsw p a b) n := by
  refine ⟨fun x hx => h.1 _ (sw_lt ha hb hx), fun x y hx hy e => ?_⟩
  have := h.2 _ _ (sw_lt ha hb hx) (sw_lt ha hb hy) e
  rw [← sw_sw a b x, this, sw_sw]
theorem mulsw_mulsw (p : Nat → Nat) (a b : Nat) : mulsw (mulsw p a b) a b = p := by funext x; simp [mulsw, sw_sw]

/-- an orbit is walked on by the changed permutation as long as neither a nor b is met -/
theorem it_mulsw {p : Nat → Nat} {a b x : Nat} (k : Nat) (h : ∀ j, j < k → it p j x ≠ a ∧ it p j x ≠ b) : it (mulsw p a b) k x = it p k x := by
  induction k with
  | zero => rfl
  | succ k ih =>
    have := h k (by omega)
    simp only [it]
    rw [ih fun j hj => h j (by omega)]
    simp [mulsw, sw, this.1, this.2]

theorem R_mulsw_ab {p : Nat → Nat} {n a b : Nat} (h : Bij p n) (hb : b < n) (hne : ¬ R p a b) (hne' : ¬ R p b a) : R (mulsw p a b) a b := by
  obtain ⟨L, h0, _, h2, h3⟩ := h.least hb
  have hab : a ≠ b := fun e => hne (e ▸ R.refl _)
  have e1 : mulsw p a b a = p b := by simp [mulsw, sw]
  refine ⟨(L - 1) + 1, ?_⟩
  rw [it_succ', e1, it_mulsw, ← it_succ', show L - 1 + 1 = L from by omega, h2]
  intro j hj
  rw [← it_succ']
  exact ⟨fun e => hne' ⟨_, e⟩, fun e => h3 (j + 1) (by omega) (by omega) e⟩

theorem R_mulsw_of_ne {p : Nat → Nat} {n a b : Nat} (h : Bij p n) (ha : a < n) (hb : b < n) (hne : ¬ R p a b) {x y : Nat} (hx : x < n) :
    R (mulsw p a b) x y ↔ Join (R p) a b x y := by
  have hne' : ¬ R p b a := fun r => hne (r.symm h hb)
  have hq := h.mulsw ha hb
  have rab : R (mulsw p a b) a b := R_mulsw_ab h hb hne hne'
  have rba : R (mulsw p a b) b a := rab.symm hq ha
  have step : ∀ z, z < n → R (mulsw p a b) z (p z) := by
    intro z hz
    by_cases c : z = a
    · subst c
      refine rab.trans ⟨1, ?_⟩
      have : z ≠ b := fun e => hne (e ▸ R.refl _)
      simp [it, mulsw, sw, Ne.symm this]
    · by_cases d : z = b
      · subst d
        exact rba.trans ⟨1, by simp [it, mulsw, sw]⟩
      · exact ⟨1, by simp [it, mulsw, sw, c, d]⟩
  have up : ∀ x y, x < n → R p x y → R (mulsw p a b) x y := fun x y hx r => R.of_steps (n := n) (fun z _ => R.refl z) (fun _ _ _ _ _ _ => R.trans) h step hx r
  have J := h.eqv.join ha hb
  constructor
  · intro r
    refine R.of_steps (n := n) J.refl J.trans hq ?_ hx r
    intro z hz
    by_cases c : z = a
    · subst c; exact .inr (.inl ⟨R.refl _, by simpa [mulsw, sw] using R.step b⟩)
    · by_cases d : z = b
      · subst d
        exact .inr (.inr ⟨R.refl _, by simpa [mulsw, sw, c] using R.step a⟩)
      · exact .inl (by simpa [mulsw, sw, c, d] using R.step (p := p) z)
  · rintro (e | ⟨e, f⟩ | ⟨e, f⟩)
    · exact up _ _ hx e
    · exact (up _ _ hx e).trans (rab.trans (up _ _ hb f))
    · exact (up _ _ hx e).trans (rba.trans (up _ _ ha f))

theorem R_split {p : Nat → Nat} {n a b : Nat} (h : Bij p n) (ha : a < n) (hab : a ≠ b) (r : R p a b) : ¬ R (mulsw p a b) a b := by
  obtain ⟨L, h0, _, h2, h3⟩ := h.least ha
  obtain ⟨k, hk⟩ := r
  rw [it_mod h2] at hk
  have hj : k % L < L := Nat.mod_lt _ h0
  generalize k % L = j at hk hj
  have hj0 : 0 < j := by rcases Nat.eq_zero_or_pos j with c | c; · subst c; exact absurd hk hab
                         · exact c
  -- the iterates of a are different
  have hd : ∀ i i', i < i' → i' < L → it p i a ≠ it p i' a := by
    intro i i' hi hi' e
    have : it p (i' - i) a = a := by
      refine h.it_inj i (h.it_lt _ ha) ha ?_
      rw [← it_add, show i + (i' - i) = i' from by omega]; exact e.symm
    exact h3 (i' - i) (by omega) (by omega) this
  -- the new orbit of a: a, p b, .., and a again
  have e1 : mulsw p a b a = it p (j + 1) a := by simp [mulsw, sw, it, hk]
  have walk : ∀ i, i + j + 1 ≤ L → it (mulsw p a b) (i + 1) a = it p (i + j + 1) a := by
    intro i hi
    rw [it_succ', e1, it_mulsw, ← it_add, show i + (j + 1) = i + j + 1 from by omega]
    intro m hm
    rw [← it_add]
    refine ⟨?_, ?_⟩
    · exact fun e => hd 0 (m + (j + 1)) (by omega) (by omega) e.symm
    · rw [← hk]; exact fun e => hd j (m + (j + 1)) (by omega) (by omega) e.symm
  have back : it (mulsw p a b) (L - j) a = a := by
    have := walk (L - j - 1) (by omega)
    rw [show L - j - 1 + 1 = L - j from by omega, show L - j - 1 + j + 1 = L from by omega, h2] at this
    exact this
  rintro ⟨k', hk'⟩
  rw [it_mod back] at hk'
  have hlt : k' % (L - j) < L - j := Nat.mod_lt _ (by omega)
  generalize k' % (L - j) = m at hk' hlt
  rcases m with _ | m
  · exact hab hk'
  · rw [walk m (by omega), ← hk] at hk'
    exact hd j (m + j + 1) (by omega) (by omega) hk'.symm

/-- number of orbits -/
noncomputable def orb (p : Nat → Nat) (n : Nat) : Nat := cl (R p) n

theorem orb_merge {p : Nat → Nat} {n a b : Nat} (h : Bij p n) (ha : a < n) (hb : b < n) (hne : ¬ R p a b) : orb p n = orb (mulsw p a b) n + 1 := by
  unfold orb
  rw [cl_congr (E := R (mulsw p a b)) (E' := Join (R p) a b) (fun x y hx _ => R_mulsw_of_ne h ha hb hne hx)]
  exact cl_join h.eqv ha hb hne
theorem orb_split {p : Nat → Nat} {n a b : Nat} (h : Bij p n) (ha : a < n) (hb : b < n) (hab : a ≠ b) (r : R p a b) : orb (mulsw p a b) n = orb p n + 1 := by
  have := orb_merge (h.mulsw ha hb) ha hb (R_split h ha hab r)
  rw [mulsw_mulsw] at this
  exact this
theorem it_fix {p : Nat → Nat} {x : Nat} (h : p x = x) (k : Nat) : it p k x = x := by
  induction k with
  | zero => rfl
  | succ k ih => simp only [it]; rw [ih, h]
theorem orb_id {n : Nat} (p : Nat → Nat) (hp : ∀ x, x < n → p x = x) : orb p n = n := by
  classical
  unfold orb cl
  rw [List.filter_eq_self.2, List.length_range]
  intro x hx
  have hx := List.mem_range.1 hx
  simp only [decide_eq_true_eq]
  rintro y _ ⟨k, rfl⟩
  rw [it_fix (hp x hx)]
  exact Nat.le_refl _
theorem orb_le (p : Nat → Nat) (n : Nat) : orb p n ≤ n := by
  unfold orb cl
  exact Nat.le_trans (List.length_filter_le _ _) (by simp)

theorem orb_congr {p q : Nat → Nat} {n : Nat} (h : Bij p n) (e : ∀ x, x < n → p x = q x) : orb p n = orb q n := by
  have hit : ∀ k x, x < n → it p k x = it q k x := by
    intro k x hx
    induction k with
    | zero => rfl
    | succ k ih => simp only [it]; rw [← ih]; exact e _ (h.it_lt k hx)
  exact cl_congr fun x y hx _ => ⟨fun ⟨k, hk⟩ => ⟨k, by rw [← hit k x hx]; exact hk⟩, fun ⟨k, hk⟩ => ⟨k, by rw [hit k x hx]; exact hk⟩⟩

theorem Bij.congr {p q : Nat → Nat} {n : Nat} (h : Bij p n) (e : ∀ x, x < n → p x = q x) : Bij q n :=
  ⟨fun x hx => e x hx ▸ h.1 x hx, fun x y hx hy he => h.2 x y hx hy (by rw [e x hx, e y hy]; exact he)⟩

theorem Bij.comp {p q : Nat → Nat} {n : Nat} (hp : Bij p n) (hq : Bij q n) : Bij (fun x => q (p x)) n :=
  ⟨fun x hx => hq.1 _ (hp.1 x hx), fun x y hx hy e => hp.2 _ _ hx hy (hq.2 _ _ (hp.1 x hx) (hp.1 y hy) e)⟩

/-- the components that two permutations have together -/
def Both (p q : Nat → Nat) (n : Nat) (x y : Nat) : Prop := ∀ E : Nat → Nat → Prop, Eqv E n → (∀ z, z < n → E z (p z)) → (∀ z, z < n → E z (q z)) → E x y
theorem Both.eqv (p q : Nat → Nat) (n : Nat) : Eqv (Both p q n) n :=
  ⟨fun x hx _ h _ _ => h.refl x hx, fun x y hx hy r E h a b => h.symm x y hx hy (r E h a b), fun x y z hx hy hz r s E h a b => h.trans x y z hx hy hz (r E h a b) (s E h a b)⟩
theorem Both.left (p q : Nat → Nat) (n : Nat) {x : Nat} (hx : x < n) : Both p q n x (p x) := fun _ _ a _ => a x hx
theorem Both.right (p q : Nat → Nat) (n : Nat) {x : Nat} (hx : x < n) : Both p q n x (q x) := fun _ _ _ b => b x hx

theorem Both_join {p q : Nat → Nat} {n a b : Nat} (ha : a < n) (hb : b < n) {x y : Nat} :
    Both p q n x y → Join (Both p (mulsw q a b) n) a b x y := by
  intro r
  refine r _ ((Both.eqv p (mulsw q a b) n).join ha hb) (fun z hz => .inl (Both.left _ _ _ hz)) ?_
  intro z hz
  by_cases c : z = a
  · subst c
    refine .inr (.inl ⟨(Both.eqv p _ n).refl _ hz, ?_⟩)
    have := Both.right p (mulsw q z b) n hb
    have e : mulsw q z b b = q z := by
      by_cases d : b = z
      · subst d; simp [mulsw, sw]
      · simp [mulsw, sw, d]
    rwa [e] at this
  · by_cases d : z = b
    · subst d
      refine .inr (.inr ⟨(Both.eqv p _ n).refl _ hz, ?_⟩)
      have := Both.right p (mulsw q a z) n ha
      have e : mulsw q a z a = q z := by simp [mulsw, sw]
      rwa [e] at this
    · refine .inl ?_
      have := Both.right p (mulsw q a b) n hz
      have e : mulsw q a b z = q z := by simp [mulsw, sw, c, d]
      rwa [e] at this

theorem R.both_right {p q : Nat → Nat} {n : Nat} (hq : Bij q n) {x y : Nat} (hx : x < n) (r : R q x y) : Both p q n x y :=
  R.of_steps (n := n) (Both.eqv p q n).refl (Both.eqv p q n).trans hq (fun _ hz => Both.right p q n hz) hx r
theorem R.both_left {p q : Nat → Nat} {n : Nat} (hp : Bij p n) {x y : Nat} (hx : x < n) (r : R p x y) : Both p q n x y :=
  R.of_steps (n := n) (Both.eqv p q n).refl (Both.eqv p q n).trans hp (fun _ hz => Both.left p q n hz) hx r

/-- two numbers of orbits and the third: parity, and the bound -/
theorem euler_bound (n : Nat) (p : Nat → Nat) (hp : Bij p n) : ∀ (k : Nat) (q : Nat → Nat), Bij q n → n - orb q n = k →
    (orb p n + orb q n + orb (fun x => p (q x)) n + n) % 2 = 0 ∧ orb p n + orb q n + orb (fun x => p (q x)) n ≤ n + 2 * cl (Both p q n) n := by
  intro k
  induction k with
  | zero =>
    intro q hq hk
    have hle := orb_le q n
    -- all orbits are of one number
    have hid : ∀ x, x < n → q x = x := by
      intro x hx
      by_cases c : q x = x
      · exact c
      · have := orb_split hq hx (hq.1 x hx) (fun e => c e.symm) (R.step x)
        have := orb_le (mulsw q x (q x)) n
        omega
    have e1 : orb (fun x => p (q x)) n = orb p n := (orb_congr hp fun x hx => by rw [hid x hx]).symm
    have e2 : cl (Both p q n) n = orb p n := by
      refine (cl_congr fun x y hx hy => ⟨fun r => R.both_left hp hx r, fun r => ?_⟩).symm
      exact r _ hp.eqv (fun z _ => R.step z) (fun z hz => by rw [hid z hz]; exact R.refl z)
    have e3 : orb q n = n := orb_id q hid
    rw [e1, e2, e3]
    omega
  | succ k ih =>
    intro q hq hk
    have hex : ∃ x, x < n ∧ q x ≠ x := by
      refine Classical.byContradiction fun c => ?_
      have := orb_id (n := n) q (fun x hx => Classical.byContradiction fun d => c ⟨x, hx, d⟩)
      omega
    obtain ⟨a, ha, hne⟩ := hex
    have hb := hq.1 a ha
    have hs := orb_split hq ha hb (fun e => hne e.symm) (R.step a)
    have hq' := hq.mulsw ha hb
    obtain ⟨h1, h2⟩ := ih (mulsw q a (q a)) hq' (by have := orb_le (mulsw q a (q a)) n; omega)
    generalize hbn : q a = b at *
    -- p after q is (p after q') after the exchange
    have ec : (fun x => p (q x)) = mulsw (fun x => p (mulsw q a b x)) a b := by funext x; simp [mulsw, sw_sw]
    have hc := hq'.comp hp
    have hab : a ≠ b := fun e => hne (e ▸ rfl)
    have hsub : ∀ x y, x < n → y < n → Both p (mulsw q a b) n x y → Both p q n x y := by
      intro x y hx hy r
      refine r _ (Both.eqv p q n) (fun z hz => Both.left p q n hz) (fun z hz => ?_)
      -- q' z is q of z, a or b, and a, b hang together by q
      have rab : Both p q n a b := by have := Both.right p q n ha; rwa [hbn] at this
      by_cases c : z = a
      · subst c
        have : mulsw q z b z = q b := by simp [mulsw, sw]
        rw [this]
        exact (Both.eqv p q n).trans _ _ _ hz hb (hq.1 _ hb) rab (Both.right p q n hb)
      · by_cases d : z = b
        · have : mulsw q a b z = q a := by simp [mulsw, sw, d, Ne.symm hab]
          rw [this, hbn, d]
          exact (Both.eqv p q n).refl _ hb
        · have : mulsw q a b z = q z := by simp [mulsw, sw, c, d]
          rw [this]; exact Both.right p q n hz
    by_cases hj : Both p (mulsw q a b) n a b
    · -- nothing is joined
      have ecl : cl (Both p q n) n = cl (Both p (mulsw q a b) n) n := by
        refine cl_congr fun x y hx hy => ⟨fun r => ?_, hsub x y hx hy⟩
        have E := Both.eqv p (mulsw q a b) n
        rcases Both_join (b := b) ha hb r with e | ⟨e, f⟩ | ⟨e, f⟩
        · exact e
        · exact E.trans _ _ _ hx ha hy e (E.trans _ _ _ ha hb hy hj f)
        · exact E.trans _ _ _ hx hb hy e (E.trans _ _ _ hb ha hy (E.symm _ _ ha hb hj) f)
      by_cases hr : R (fun x => p (mulsw q a b x)) a b
      · have := orb_split hc ha hb hab hr
        rw [ec, ecl]; omega
      · have := orb_merge hc ha hb hr
        rw [ec, ecl]; omega
    · have ecl : cl (Both p (mulsw q a b) n) n = cl (Both p q n) n + 1 := by
        rw [cl_join (Both.eqv p (mulsw q a b) n) ha hb hj]
        congr 1
        refine cl_congr fun x y hx hy => ⟨fun r => ?_, Both_join ha hb⟩
        have E := Both.eqv p q n
        have rab : Both p q n a b := by have := Both.right p q n ha; rwa [hbn] at this
        rcases r with e | ⟨e, f⟩ | ⟨e, f⟩
        · exact hsub _ _ hx hy e
        · exact E.trans _ _ _ hx ha hy (hsub _ _ hx ha e) (E.trans _ _ _ ha hb hy rab (hsub _ _ hb hy f))
        · exact E.trans _ _ _ hx hb hy (hsub _ _ hx hb e) (E.trans _ _ _ hb ha hy (E.symm _ _ ha hb rab) (hsub _ _ ha hy f))
      have hr : ¬ R (fun x => p (mulsw q a b x)) a b := by
        intro r
        refine hj (R.of_steps (n := n) (Both.eqv p (mulsw q a b) n).refl (Both.eqv p (mulsw q a b) n).trans hc ?_ ha r)
        intro z hz
        exact (Both.eqv p _ n).trans _ _ _ hz (hq'.1 z hz) (hc.1 z hz) (Both.right p _ n hz) (Both.left p _ n (hq'.1 z hz))
      have := orb_merge hc ha hb hr
      rw [ec]; omega
open Classical in
/-- the least number of steps that leads x to itself -/
noncomputable def per (p : Nat → Nat) (x : Nat) : Nat := if h : ∃ L, 0 < L ∧ it p L x = x then Classical.choose (exists_least h) else 0

theorem per_spec {p : Nat → Nat} {n x : Nat} (h : Bij p n) (hx : x < n) : 0 < per p x ∧ per p x ≤ n ∧ it p (per p x) x = x ∧ ∀ j, 0 < j → j < per p x → it p j x ≠ x := by
  obtain ⟨L, h0, h1, h2, _⟩ := h.least hx
  have hex : ∃ L, 0 < L ∧ it p L x = x := ⟨L, h0, h2⟩
  have hs := Classical.choose_spec (exists_least hex)
  have e : per p x = Classical.choose (exists_least hex) := by unfold per; rw [dif_pos hex]
  rw [← e] at hs
  refine ⟨hs.1.1, ?_, hs.1.2, fun j hj hlt ej => hs.2 j hlt ⟨hj, ej⟩⟩
  refine Nat.le_of_not_lt fun c => hs.2 L (by omega) ⟨h0, h2⟩

/-- the numbers of the cycle of x, from x on -/
noncomputable def orbit (p : Nat → Nat) (x : Nat) : List Nat := (List.range (per p x)).map fun i => it p i x

theorem it_distinct {p : Nat → Nat} {n x : Nat} (h : Bij p n) (hx : x < n) {i j : Nat} (hij : i < j) (hj : j < per p x) : it p i x ≠ it p j x := by
  intro e
  have : it p (j - i) x = x := by
    refine h.it_inj i (h.it_lt _ hx) hx ?_
    rw [← it_add, show i + (j - i) = j from by omega]; exact e.symm
  exact (per_spec h hx).2.2.2 (j - i) (by omega) (by omega) this

theorem it_back {p : Nat → Nat} {n x : Nat} (h : Bij p n) (hx : x < n) {k : Nat} : it p k x = x ↔ per p x ∣ k := by
  obtain ⟨h0, _, h2, h3⟩ := per_spec h hx
  constructor
  · intro e
    rw [it_mod h2] at e
    refine Nat.dvd_of_mod_eq_zero ?_
    rcases Nat.eq_zero_or_pos (k % per p x) with c | c
    · exact c
    · exact absurd e (h3 _ c (Nat.mod_lt _ h0))
  · rintro ⟨m, rfl⟩
    exact it_mul h2 m

theorem mem_orbit {p : Nat → Nat} {n x y : Nat} (h : Bij p n) (hx : x < n) : y ∈ orbit p x ↔ R p x y := by
  unfold orbit
  simp only [List.mem_map, List.mem_range]
  constructor
  · rintro ⟨i, _, e⟩; exact ⟨i, e⟩
  · rintro ⟨k, e⟩
    have := (per_spec h hx)
    exact ⟨k % per p x, Nat.mod_lt _ this.1, by rw [← it_mod this.2.2.1]; exact e⟩

def upd (m : Nat → Bool) (x : Nat) : Nat → Bool := fun y => y == x || m y

/-- a cycle as the program walks it: from x on, until a number has been met -/
def cyc (p : Nat → Nat) : Nat → (Nat → Bool) → Nat → List Nat
  | 0, _, _ => []
  | f + 1, m, x => if m x = true then [] else x :: cyc p f (upd m x) (p x)
def cycMet (p : Nat → Nat) : Nat → (Nat → Bool) → Nat → Nat → Bool
  | 0, m, _ => m
  | f + 1, m, x => if m x = true then m else cycMet p f (upd m x) (p x)

theorem cyc_gen {p : Nat → Nat} {n x : Nat} (h : Bij p n) (hx : x < n) (m : Nat → Bool) (hm : ∀ y, y < n → m (p y) = true → m y = true) (hmx : m x = false) :
    ∀ (d j f : Nat), d = per p x - j → j ≤ per p x → d < f →
      cyc p f (fun y => m y || ((List.range j).map fun i => it p i x).contains y) (it p j x) = (List.range' j (per p x - j)).map (fun i => it p i x) ∧
      cycMet p f (fun y => m y || ((List.range j).map fun i => it p i x).contains y) (it p j x) = fun y => m y || (orbit p x).contains y := by
  have hm' : ∀ j, m (it p j x) = false := by
    intro j
    induction j with
    | zero => exact hmx
    | succ j ih =>
      rcases hb : m (it p (j + 1) x) with _ | _
      · rfl
      · have := hm _ (h.it_lt j hx) hb; rw [ih] at this; cases this
  intro d
  induction d with
  | zero =>
    intro j f hd hj hf
    obtain rfl : j = per p x := by omega
    obtain ⟨f, rfl⟩ : ∃ f', f = f' + 1 := ⟨f - 1, by omega⟩
    have hc : ((List.range (per p x)).map fun i => it p i x).contains x = true := by
      simp only [List.contains_iff_mem]
      exact (mem_orbit h hx).2 (R.refl x)
    simp only [cyc, cycMet, (per_spec h hx).2.2.1, hc, Bool.or_true, if_true, Nat.sub_self, List.range'_zero, List.map_nil]
    exact ⟨trivial, rfl⟩
  | succ d ih =>
    intro j f hd hj hf
    obtain ⟨f, rfl⟩ : ∃ f', f = f' + 1 := ⟨f - 1, by omega⟩
    have hc : (m (it p j x) || ((List.range j).map fun i => it p i x).contains (it p j x)) = false := by
      rw [hm', Bool.false_or, Bool.eq_false_iff]
      simp only [ne_eq, List.contains_iff_mem, List.mem_map, List.mem_range, not_exists, not_and]
      exact fun i hi e => it_distinct h hx hi (by omega) e
    have hu : upd (fun y => m y || ((List.range j).map fun i => it p i x).contains y) (it p j x) = fun y => m y || ((List.range (j + 1)).map fun i => it p i x).contains y := by
      funext y
      simp only [upd, List.range_succ, List.map_append, List.map_cons, List.map_nil, List.contains_eq_mem, List.mem_append, List.mem_singleton]
      rw [Bool.eq_iff_iff]; simp only [Bool.or_eq_true, beq_iff_eq, decide_eq_true_eq]
      constructor
      · rintro (a | b | c); exact .inr (.inr a); exact .inl b; exact .inr (.inl c)
      · rintro (b | c | a); exact .inr (.inl b); exact .inr (.inr c); exact .inl a
    obtain ⟨g1, g2⟩ := ih (j + 1) f (by omega) (by omega) (by omega)
    simp only [cyc, cycMet, hc, Bool.false_eq_true, if_false, hu]
    have e : p (it p j x) = it p (j + 1) x := rfl
    rw [e, g1, g2]
    refine ⟨?_, rfl⟩
    rw [show per p x - j = (per p x - (j + 1)) + 1 from by omega, List.range'_succ, List.map_cons]

theorem cyc_orbit {p : Nat → Nat} {n x f : Nat} (h : Bij p n) (hx : x < n) (hf : n < f) (m : Nat → Bool) (hm : ∀ y, y < n → m (p y) = true → m y = true) (hmx : m x = false) :
    cyc p f m x = orbit p x ∧ cycMet p f m x = fun y => m y || (orbit p x).contains y := by
  have := cyc_gen h hx m hm hmx (per p x) 0 f (by omega) (by omega) (by have := (per_spec h hx).2.1; omega)
  simpa [it, orbit, List.range_eq_range'] using this

/-- the cycles of the numbers below k, and what has been met -/
def cycs (p : Nat → Nat) : Nat → List (List Nat)
  | 0 => []
  | k + 1 => if cyc p 17 (met p k) k = [] then cycs p k else cycs p k ++ [cyc p 17 (met p k) k]
where
  met (p : Nat → Nat) : Nat → Nat → Bool
    | 0 => fun _ => false
    | k + 1 => cycMet p 17 (met p k) k

open Classical in
/-- x is the least number of its cycle -/
noncomputable def head (p : Nat → Nat) (n x : Nat) : Bool := decide (∀ y, y < n → R p x y → x ≤ y)

theorem cycs_spec {p : Nat → Nat} {n : Nat} (h : Bij p n) (hn : n ≤ 16) : ∀ k, k ≤ n →
    cycs p k = ((List.range k).filter (head p n)).map (orbit p) ∧ ∀ y, cycs.met p k y = true ↔ ∃ x, x < k ∧ R p x y := by
  intro k
  induction k with
  | zero => intro _; exact ⟨rfl, fun y => by simp [cycs.met]⟩
  | succ k ih =>
    intro hk
    obtain ⟨h1, h2⟩ := ih (by omega)
    have hkn : k < n := by omega
    rcases hb : cycs.met p k k with _ | _
    · have hm : ∀ y, y < n → cycs.met p k (p y) = true → cycs.met p k y = true := by
        intro y hy hmy
        obtain ⟨x, hx, r⟩ := (h2 _).1 hmy
        exact (h2 _).2 ⟨x, hx, r.trans (R.symm h hy (R.step y))⟩
      obtain ⟨e1, e2⟩ := cyc_orbit h hkn (f := 17) (by omega) _ hm hb
      have hne : orbit p k ≠ [] := by
        intro e
        have : k ∈ orbit p k := (mem_orbit h hkn).2 (R.refl k)
        rw [e] at this; cases this
      have hhead : head p n k = true := by
        simp only [head, decide_eq_true_eq]
        intro y hy r
        refine Nat.le_of_not_lt fun c => ?_
        have := (h2 k).2 ⟨y, c, R.symm h hkn r⟩
        rw [hb] at this; cases this
      refine ⟨?_, fun y => ?_⟩
      · simp only [cycs, e1, if_neg hne, List.range_succ, List.filter_append, List.map_append, h1, List.filter_cons, hhead, if_true, List.filter_nil, List.map_cons, List.map_nil]
      · show cycMet p 17 (cycs.met p k) k y = true ↔ _
        rw [e2]
        simp only [Bool.or_eq_true, List.contains_iff_mem, h2, mem_orbit h hkn]
        constructor
        · rintro (⟨x, hx, r⟩ | r)
          · exact ⟨x, by omega, r⟩
          · exact ⟨k, by omega, r⟩
        · rintro ⟨x, hx, r⟩
          rcases Nat.lt_or_ge x k with c | c
          · exact .inl ⟨x, c, r⟩
          · obtain rfl : x = k := by omega
            exact .inr r
    · have ec : cyc p 17 (cycs.met p k) k = [] := by simp [cyc, hb]
      have em : cycMet p 17 (cycs.met p k) k = cycs.met p k := by simp [cycMet, hb]
      have hhead : head p n k = false := by
        rw [Bool.eq_false_iff]
        simp only [head, ne_eq, decide_eq_true_eq]
        intro c
        obtain ⟨x, hx, r⟩ := (h2 k).1 hb
        have := c x (by omega) (R.symm h (by omega) r)
        omega
      refine ⟨?_, fun y => ?_⟩
      · simp only [cycs, ec, if_true, List.range_succ, List.filter_append, h1, List.filter_cons, hhead, List.filter_nil, List.append_nil, Bool.false_eq_true, if_false]
      · show cycMet p 17 (cycs.met p k) k y = true ↔ _
        rw [em, h2]
        constructor
        · rintro ⟨x, hx, r⟩; exact ⟨x, by omega, r⟩
        · rintro ⟨x, hx, r⟩
          rcases Nat.lt_or_ge x k with c | c
          · exact ⟨x, c, r⟩
          · obtain rfl : x = k := by omega
            obtain ⟨z, hz, r'⟩ := (h2 x).1 hb
            exact ⟨z, hz, r'.trans r⟩

theorem cycs_length {p : Nat → Nat} {n : Nat} (h : Bij p n) (hn : n ≤ 16) : (cycs p n).length = orb p n := by
  rw [(cycs_spec h hn n (Nat.le_refl _)).1, List.length_map]
  rfl
theorem cycs_flat {p : Nat → Nat} {n : Nat} (h : Bij p n) (hn : n ≤ 16) : (cycs p n).flatten.Perm (List.range n) := by
  rw [(cycs_spec h hn n (Nat.le_refl _)).1]
  refine (List.perm_ext_iff_of_nodup ?_ List.nodup_range).2 ?_
  · rw [List.nodup_iff_pairwise_ne, List.pairwise_flatten]
    constructor
    · intro l hl
      obtain ⟨x, hx, rfl⟩ := List.mem_map.1 hl
      have hx := List.mem_range.1 (List.mem_filter.1 hx).1
      unfold orbit
      rw [List.pairwise_map]
      have := List.pairwise_lt_range (n := per p x)
      exact (List.Pairwise.imp_of_mem (fun {i j} _ hj hlt => it_distinct h hx hlt (List.mem_range.1 hj)) this)
    · rw [List.pairwise_map]
      have := (List.pairwise_lt_range (n := n)).filter (head p n)
      refine List.Pairwise.imp_of_mem ?_ this
      intro x y hx hy hlt z hz w hw e
      subst e
      have hxn := List.mem_range.1 (List.mem_filter.1 hx).1
      have hyn := List.mem_range.1 (List.mem_filter.1 hy).1
      have hh := (List.mem_filter.1 hy).2
      simp only [head, decide_eq_true_eq] at hh
      have := hh x hxn (((mem_orbit h hyn).1 hw).trans (R.symm h hxn ((mem_orbit h hxn).1 hz)))
      omega
  · intro y
    simp only [List.mem_flatten, List.mem_map, List.mem_filter, List.mem_range]
    constructor
    · rintro ⟨l, ⟨x, ⟨hx, _⟩, rfl⟩, hy⟩
      exact R.lt h hx ((mem_orbit h hx).1 hy)
    · intro hy
      obtain ⟨m, hm, r, hmin⟩ := h.eqv.leastOf hy
      have r' := R.symm h hy r
      refine ⟨_, ⟨m, ⟨hm, ?_⟩, rfl⟩, (mem_orbit h hm).2 r'⟩
      simp only [head, decide_eq_true_eq]
      exact fun z hz rz => hmin z hz (r.trans rz)

theorem cycs_sum {p : Nat → Nat} {n : Nat} (h : Bij p n) (hn : n ≤ 16) : ((cycs p n).map List.length).sum = n := by
  rw [← List.length_flatten, (cycs_flat h hn).length_eq, List.length_range]

theorem cycs_mem {p : Nat → Nat} {n : Nat} (h : Bij p n) (hn : n ≤ 16) {c : List Nat} (hc : c ∈ cycs p n) : ∃ x, x < n ∧ c = orbit p x := by
  rw [(cycs_spec h hn n (Nat.le_refl _)).1] at hc
  obtain ⟨x, hx, rfl⟩ := List.mem_map.1 hc
  exact ⟨x, List.mem_range.1 (List.mem_filter.1 hx).1, rfl⟩

theorem cycs_of {p : Nat → Nat} {n : Nat} (h : Bij p n) (hn : n ≤ 16) {y : Nat} (hy : y < n) : ∃ x, x < n ∧ orbit p x ∈ cycs p n ∧ R p x y := by
  have : y ∈ (cycs p n).flatten := (cycs_flat h hn).mem_iff.2 (List.mem_range.2 hy)
  obtain ⟨c, hc, hyc⟩ := List.mem_flatten.1 this
  obtain ⟨x, hx, rfl⟩ := cycs_mem h hn hc
  exact ⟨x, hx, hc, (mem_orbit h hx).1 hyc⟩

theorem orbit_length (p : Nat → Nat) (x : Nat) : (orbit p x).length = per p x := by simp [orbit]

theorem per_of_R {p : Nat → Nat} {n x y : Nat} (h : Bij p n) (hx : x < n) (r : R p x y) : per p y = per p x := by
  have hy := r.lt h hx
  obtain ⟨k, rfl⟩ := r
  have key : ∀ m, it p m (it p k x) = it p k x ↔ it p m x = x := by
    intro m
    rw [← it_add, Nat.add_comm, it_add]
    exact ⟨fun e => h.it_inj k (h.it_lt _ hx) hx e, fun e => by rw [e]⟩
  have a := (it_back h hx (k := per p (it p k x))).1 ((key _).1 (per_spec h hy).2.2.1)
  have b := (it_back h hy (k := per p x)).1 ((key _).2 (per_spec h hx).2.2.1)
  exact Nat.dvd_antisymm b a

/-- the lengths of the cycles -/
def lens (p : Nat → Nat) (n : Nat) : List Nat := (cycs p n).map List.length

theorem lens_pos {p : Nat → Nat} {n : Nat} (h : Bij p n) (hn : n ≤ 16) {l : Nat} (hl : l ∈ lens p n) : 1 ≤ l ∧ l ≤ n := by
  obtain ⟨c, hc, rfl⟩ := List.mem_map.1 hl
  obtain ⟨x, hx, rfl⟩ := cycs_mem h hn hc
  rw [orbit_length]
  have := per_spec h hx
  omega

/-- k steps lead all numbers to themselves exactly if k is a multiple of all lengths -/
theorem it_all {p : Nat → Nat} {n k : Nat} (h : Bij p n) (hn : n ≤ 16) : (∀ x, x < n → it p k x = x) ↔ ∀ l ∈ lens p n, l ∣ k := by
  constructor
  · intro e l hl
    obtain ⟨c, hc, rfl⟩ := List.mem_map.1 hl
    obtain ⟨x, hx, rfl⟩ := cycs_mem h hn hc
    rw [orbit_length]
    exact (it_back h hx).1 (e x hx)
  · intro d y hy
    obtain ⟨x, hx, hc, r⟩ := cycs_of h hn hy
    rw [it_back h hy, per_of_R h hx r, ← orbit_length]
    exact d _ (List.mem_map.2 ⟨_, hc, rfl⟩)

/-- the least common multiple of a list -/
def lcms (l : List Nat) : Nat := l.foldl Nat.lcm 1
theorem foldl_lcm_dvd (l : List Nat) : ∀ a k, l.foldl Nat.lcm a ∣ k ↔ a ∣ k ∧ ∀ x ∈ l, x ∣ k := by
  induction l with
  | nil => intro a k; simp
  | cons x l ih =>
    intro a k
    rw [List.foldl_cons, ih]
    constructor
    · rintro ⟨h1, h2⟩
      refine ⟨Nat.dvd_trans (Nat.dvd_lcm_left _ _) h1, fun y hy => ?_⟩
      rcases List.mem_cons.1 hy with rfl | c
      · exact Nat.dvd_trans (Nat.dvd_lcm_right _ _) h1
      · exact h2 y c
    · rintro ⟨h1, h2⟩
      exact ⟨Nat.lcm_dvd h1 (h2 x (by simp)), fun y hy => h2 y (by simp [hy])⟩
theorem lcms_dvd (l : List Nat) (k : Nat) : lcms l ∣ k ↔ ∀ x ∈ l, x ∣ k := by unfold lcms; rw [foldl_lcm_dvd]; simp

theorem foldl_lcm_pos (l : List Nat) : ∀ a, 0 < a → (∀ x ∈ l, 0 < x) → 0 < l.foldl Nat.lcm a := by
  induction l with
  | nil => intro a h _; exact h
  | cons x l ih => intro a h hx; exact ih _ (Nat.lcm_pos h (hx x (by simp))) fun y hy => hx y (by simp [hy])
theorem foldl_lcm_le (l : List Nat) : ∀ a, (∀ x ∈ l, 0 < x) → l.foldl Nat.lcm a ≤ a * 2 ^ l.sum := by
  induction l with
  | nil => intro a _; simp
  | cons x l ih =>
    intro a hx
    rw [List.foldl_cons]
    refine Nat.le_trans (ih _ fun y hy => hx y (by simp [hy])) ?_
    have h1 : Nat.lcm a x ≤ a * x := Nat.div_le_self _ _
    have h2 : x ≤ 2 ^ x := Nat.le_of_lt Nat.lt_two_pow_self
    rw [List.sum_cons, Nat.pow_add, ← Nat.mul_assoc]
    exact Nat.mul_le_mul_right _ (Nat.le_trans h1 (Nat.mul_le_mul_left _ h2))
theorem lcms_pos {p : Nat → Nat} {n : Nat} (h : Bij p n) (hn : n ≤ 16) : 0 < lcms (lens p n) := foldl_lcm_pos _ 1 (by omega) fun _ hl => (lens_pos h hn hl).1
theorem lcms_le {p : Nat → Nat} {n : Nat} (h : Bij p n) (hn : n ≤ 16) : lcms (lens p n) ≤ 65536 := by
  have := foldl_lcm_le (lens p n) 1 fun _ hl => (lens_pos h hn hl).1
  have e : (lens p n).sum = n := cycs_sum h hn
  rw [e, Nat.one_mul] at this
  exact Nat.le_trans this (Nat.le_trans (Nat.pow_le_pow_right (by omega) hn) (by decide))

/-- the order: the least number of steps, at least 1, that leads all to themselves -/
theorem order_spec {p : Nat → Nat} {n : Nat} (h : Bij p n) (hn : n ≤ 16) {k : Nat} (h0 : 0 < k) (hk : ∀ x, x < n → it p k x = x) (hmin : ∀ j, 0 < j → j < k → ¬ ∀ x, x < n → it p j x = x) :
    k = lcms (lens p n) := by
  have d : lcms (lens p n) ∣ k := (lcms_dvd _ _).2 ((it_all h hn).1 hk)
  have hp := lcms_pos h hn
  have hle := Nat.le_of_dvd h0 d
  rcases Nat.lt_or_ge (lcms (lens p n)) k with c | c
  · exact absurd ((it_all h hn).2 ((lcms_dvd _ _).1 (Nat.dvd_refl _))) (hmin _ hp c)
  · omega
theorem order_all {p : Nat → Nat} {n : Nat} (h : Bij p n) (hn : n ≤ 16) {x : Nat} (hx : x < n) : it p (lcms (lens p n)) x = x :=
  (it_all h hn).2 ((lcms_dvd _ _).1 (Nat.dvd_refl _)) x hx

/-- sorted in descending order -/
def sortD (l : List Nat) : List Nat := l.mergeSort (fun a b => decide (b ≤ a))
theorem sortD_perm (l : List Nat) : (sortD l).Perm l := List.mergeSort_perm _ _
theorem sortD_pairwise (l : List Nat) : (sortD l).Pairwise (fun a b => b ≤ a) := by
  have := List.pairwise_mergeSort (le := fun a b : Nat => decide (b ≤ a)) (by intro a b c; simp; omega) (by intro a b; simp; omega) l
  exact this.imp (by simp)
theorem sortD_unique {l m : List Nat} (hp : m.Perm l) (hs : m.Pairwise (fun a b => b ≤ a)) : m = sortD l :=
  List.Perm.eq_of_pairwise (le := fun a b => b ≤ a) (fun a b _ _ h1 h2 => by omega) hs (sortD_pairwise l) (hp.trans (sortD_perm l).symm)

/-- the counting sort of the numbers k, k - 1, .., 1 -/
def countD (l : List Nat) : Nat → List Nat
  | 0 => []
  | k + 1 => List.replicate (l.count (k + 1)) (k + 1) ++ countD l k
theorem mem_countD {l : List Nat} {k x : Nat} (h : x ∈ countD l k) : x ≤ k := by
  induction k with
  | zero => cases h
  | succ k ih =>
    rcases List.mem_append.1 h with c | c
    · have := (List.mem_replicate.1 c).2; omega
    · have := ih c; omega
theorem countD_count (l : List Nat) (k x : Nat) : (countD l k).count x = if 1 ≤ x ∧ x ≤ k then l.count x else 0 := by
  induction k with
  | zero => simp only [countD, List.count_nil]; rw [if_neg (by omega)]
  | succ k ih =>
    rw [countD, List.count_append, ih, List.count_replicate]
    by_cases c : k + 1 = x
    · subst c
      rw [if_pos (by simp), if_neg (by omega), if_pos (by omega)]; rfl
    · rw [if_neg (by simpa using c)]
      by_cases d : 1 ≤ x ∧ x ≤ k
      · rw [if_pos d, if_pos (by omega)]; omega
      · rw [if_neg d, if_neg (by omega)]
theorem countD_sort {l : List Nat} {k : Nat} (h : ∀ x ∈ l, 1 ≤ x ∧ x ≤ k) : countD l k = sortD l := by
  refine sortD_unique ?_ ?_
  · rw [List.perm_iff_count]
    intro x
    rw [countD_count]
    by_cases d : 1 ≤ x ∧ x ≤ k
    · rw [if_pos d]
    · rw [if_neg d]
      exact (List.count_eq_zero.2 fun hx => d (h x hx)).symm
  · clear h
    induction k with
    | zero => exact List.Pairwise.nil
    | succ k ih =>
      rw [countD, List.pairwise_append]
      refine ⟨?_, ih, ?_⟩
      · rw [List.pairwise_replicate]; right; exact Nat.le_refl _
      · intro a ha b hb
        have := (List.mem_replicate.1 ha).2
        have := mem_countD hb
        omega
/-- the search for what can be reached: the list in the order of finding, and what has been found -/
def badd (s : List Nat × (Nat → Bool)) (y : Nat) : List Nat × (Nat → Bool) := if s.2 y = true then s else (s.1 ++ [y], upd s.2 y)
def bfs (p q : Nat → Nat) (z : Nat) : Nat → List Nat × (Nat → Bool)
  | 0 => ([z], upd (fun _ => false) z)
  | i + 1 => match (bfs p q z i).1[i]? with
    | none => bfs p q z i
    | some x => badd (badd (bfs p q z i) (p x)) (q x)

structure BInv (n : Nat) (s : List Nat × (Nat → Bool)) : Prop where
  nodup : s.1.Nodup
  lt : ∀ x ∈ s.1, x < n
  mem : ∀ x, s.2 x = true ↔ x ∈ s.1
theorem BInv.add {n : Nat} {s : List Nat × (Nat → Bool)} (h : BInv n s) {y : Nat} (hy : y < n) : BInv n (badd s y) := by
  unfold badd
  by_cases c : s.2 y = true
  · rw [if_pos c]; exact h
  · rw [if_neg c]
    have hn : y ∉ s.1 := fun e => c ((h.mem y).2 e)
    refine ⟨?_, ?_, ?_⟩
    · rw [List.nodup_append]
      exact ⟨h.nodup, by simp, fun a ha b hb e => by simp at hb; subst e; subst hb; exact hn ha⟩
    · intro x hx
      rcases List.mem_append.1 hx with d | d
      · exact h.lt x d
      · simp at d; omega
    · intro x
      simp only [upd, Bool.or_eq_true, beq_iff_eq, h.mem, List.mem_append, List.mem_singleton]
      exact Or.comm
theorem bfs_inv {p q : Nat → Nat} {n : Nat} (hp : ∀ x, x < n → p x < n) (hq : ∀ x, x < n → q x < n) {z : Nat} (hz : z < n) (i : Nat) : BInv n (bfs p q z i) := by
  induction i with
  | zero =>
    refine ⟨by simp [bfs], by simpa [bfs] using hz, fun x => by simp [bfs, upd]⟩
  | succ i ih =>
    rw [bfs]
    rcases e : (bfs p q z i).1[i]? with _ | x
    · exact ih
    · have hx := ih.lt x (List.mem_of_getElem? e)
      exact (ih.add (hp x hx)).add (hq x hx)
theorem nodup_le : ∀ (l : List Nat) (m : List Nat), l.Nodup → (∀ x ∈ l, x ∈ m) → l.length ≤ m.length := by
  intro l
  induction l with
  | nil => intro m _ _; simp
  | cons x l ih =>
    intro m hn hm
    have hn' := List.nodup_cons.1 hn
    have hx : x ∈ m := hm x (by simp)
    have := ih (m.erase x) hn'.2 fun y hy => by
      exact (List.mem_erase_of_ne (fun e => hn'.1 (by rw [← e]; exact hy))).2 (hm y (by simp [hy]))
    rw [List.length_erase_of_mem hx] at this
    have : 0 < m.length := List.length_pos_of_mem hx
    simp only [List.length_cons]; omega
theorem BInv.length_le {n : Nat} {s : List Nat × (Nat → Bool)} (h : BInv n s) : s.1.length ≤ n := by
  have : ∀ (l : List Nat) (m : List Nat), l.Nodup → (∀ x ∈ l, x ∈ m) → l.length ≤ m.length := by
    intro l
    induction l with
    | nil => intro m _ _; simp
    | cons x l ih =>
      intro m hn hm
      have hn' := List.nodup_cons.1 hn
      have hx : x ∈ m := hm x (by simp)
      have := ih (m.erase x) hn'.2 fun y hy => by
        exact (List.mem_erase_of_ne (fun e => hn'.1 (by rw [← e]; exact hy))).2 (hm y (by simp [hy]))
      rw [List.length_erase_of_mem hx] at this
      have : 0 < m.length := List.length_pos_of_mem hx
      simp only [List.length_cons]; omega
  have := this s.1 (List.range n) h.nodup fun x hx => List.mem_range.2 (h.lt x hx)
  simpa using this
theorem badd_le (s : List Nat × (Nat → Bool)) (y : Nat) : s.1 <+: (badd s y).1 := by
  unfold badd; split
  · exact List.prefix_refl _
  · exact List.prefix_append _ _
theorem bfs_pre (p q : Nat → Nat) (z i : Nat) : (bfs p q z i).1 <+: (bfs p q z (i + 1)).1 := by
  rw [bfs]
  split
  · exact List.prefix_refl _
  · exact (badd_le _ _).trans (badd_le _ _)
theorem bfs_pre' (p q : Nat → Nat) (z : Nat) {i j : Nat} (h : i ≤ j) : (bfs p q z i).1 <+: (bfs p q z j).1 := by
  induction j with
  | zero => obtain rfl : i = 0 := by omega
            exact List.prefix_refl _
  | succ j ih =>
    rcases Nat.lt_or_ge j i with c | c
    · obtain rfl : i = j + 1 := by omega
      exact List.prefix_refl _
    · exact (ih c).trans (bfs_pre p q z j)
/-- behind the end of the list nothing turns any more -/
theorem bfs_stop {p q : Nat → Nat} {z i : Nat} (h : (bfs p q z i).1.length ≤ i) {j : Nat} (hj : i ≤ j) : bfs p q z j = bfs p q z i := by
  induction j with
  | zero => obtain rfl : i = 0 := by omega
            rfl
  | succ j ih =>
    rcases Nat.lt_or_ge j i with c | c
    · obtain rfl : i = j + 1 := by omega
      rfl
    · rw [bfs, ih c, List.getElem?_eq_none (by omega)]
/-- all that is found hangs together with 0 -/
theorem bfs_both {p q : Nat → Nat} {n : Nat} (hp : ∀ x, x < n → p x < n) (hq : ∀ x, x < n → q x < n) {u : Nat} (h0 : u < n) (i : Nat) : ∀ x ∈ (bfs p q u i).1, Both p q n u x := by
  induction i with
  | zero => intro x hx; simp [bfs] at hx; subst hx; exact (Both.eqv p q n).refl _ h0
  | succ i ih =>
    rw [bfs]
    rcases e : (bfs p q u i).1[i]? with _ | z
    · exact ih
    · have hm := List.mem_of_getElem? e
      have hz := (bfs_inv hp hq h0 i).lt z hm
      have E := Both.eqv p q n
      have add : ∀ (s : List Nat × (Nat → Bool)) (y : Nat), (∀ x ∈ s.1, Both p q n u x) → Both p q n u y → ∀ x ∈ (badd s y).1, Both p q n u x := by
        intro s y hs hy x hx
        unfold badd at hx
        split at hx
        · exact hs x hx
        · rcases List.mem_append.1 hx with c | c
          · exact hs x c
          · simp at c; subst c; exact hy
      exact add _ _ (add _ _ ih (E.trans _ _ _ h0 hz (hp z hz) (ih z hm) (Both.left p q n hz))) (E.trans _ _ _ h0 hz (hq z hz) (ih z hm) (Both.right p q n hz))

/-- all numbers can be reached -/
def conn (p q : Nat → Nat) (n : Nat) : Prop := (bfs p q 0 16).1.length = n
theorem conn_all {p q : Nat → Nat} {n : Nat} (hp : ∀ x, x < n → p x < n) (hq : ∀ x, x < n → q x < n) (h0 : 0 < n) (hc : conn p q n) : ∀ x, x < n → Both p q n 0 x := by
  intro x hx
  have I := bfs_inv hp hq h0 16
  refine bfs_both hp hq h0 16 x ?_
  refine Classical.byContradiction fun hn => ?_
  have : BInv n ((bfs p q 0 16).1 ++ [x], upd (bfs p q 0 16).2 x) := by
    have := I.add hx
    unfold badd at this
    rwa [if_neg fun e => hn ((I.mem x).1 e)] at this
  have := this.length_le
  unfold conn at hc
  simp at this; omega
theorem conn_cl {p q : Nat → Nat} {n : Nat} (hp : ∀ x, x < n → p x < n) (hq : ∀ x, x < n → q x < n) (h0 : 0 < n) (hc : conn p q n) : cl (Both p q n) n = 1 := by
  classical
  have ha := conn_all hp hq h0 hc
  unfold cl
  have : (List.range n).filter (fun x => decide (∀ y, y < n → Both p q n x y → x ≤ y)) = (List.range n).filter (fun x => x == 0) := by
    apply List.filter_congr
    intro x hx
    have hx := List.mem_range.1 hx
    rw [Bool.eq_iff_iff]
    simp only [decide_eq_true_eq, beq_iff_eq]
    constructor
    · intro k
      have := k 0 h0 ((Both.eqv p q n).symm _ _ h0 hx (ha x hx))
      omega
    · rintro rfl; intro _ _ _; omega
  rw [this]
  have e : List.range n = 0 :: (List.range' 1 (n - 1)) := by
    rw [List.range_eq_range']
    obtain ⟨m, rfl⟩ : ∃ m, n = m + 1 := ⟨n - 1, by omega⟩
    rw [List.range'_succ]; rfl
  rw [e, List.filter_cons_of_pos (by simp)]
  have : (List.range' 1 (n - 1)).filter (fun x => x == 0) = [] := by
    rw [List.filter_eq_nil_iff]
    intro x hx
    have := (List.mem_range'_1.1 hx).1
    simp; omega
  rw [this]; rfl

/-- what is found is closed under steps -/
theorem bfs_closed {p q : Nat → Nat} {n : Nat} (hp : ∀ x, x < n → p x < n) (hq : ∀ x, x < n → q x < n) (hn : n ≤ 16) {z : Nat} (hz : z < n) {y : Nat} (hy : y ∈ (bfs p q z 16).1) : p y ∈ (bfs p q z 16).1 ∧ q y ∈ (bfs p q z 16).1 := by
  obtain ⟨k, hk, e⟩ := List.getElem_of_mem hy
  have hl := (bfs_inv hp hq hz 16).length_le
  have h1 : ¬ (bfs p q z k).1.length ≤ k := fun c => by
    have := bfs_stop c (j := 16) (by omega)
    rw [this] at hk; omega
  have hpre := bfs_pre' p q z (show k ≤ 16 by omega)
  have hke : (bfs p q z k).1[k]? = some y := by
    obtain ⟨t, ht⟩ := hpre
    have : (bfs p q z 16).1[k]? = some y := by rw [List.getElem?_eq_getElem hk, e]
    rw [← ht, List.getElem?_append_left (by omega)] at this
    exact this
  have hs : bfs p q z (k + 1) = badd (badd (bfs p q z k) (p y)) (q y) := by rw [bfs, hke]
  have hsub := bfs_pre' p q z (show k + 1 ≤ 16 by omega)
  have I := bfs_inv hp hq hz k
  have hyn : y < n := I.lt y (List.mem_of_getElem? hke)
  have mem_badd : ∀ (s : List Nat × (Nat → Bool)) (x : Nat), BInv n s → x < n → x ∈ (badd s x).1 := by
    intro s x hs hx
    unfold badd
    by_cases c : s.2 x = true
    · rw [if_pos c]; exact (hs.mem x).1 c
    · rw [if_neg c]; simp
  have I1 := I.add (hp y hyn)
  have m1 : p y ∈ (bfs p q z (k + 1)).1 := by rw [hs]; exact (badd_le _ _).subset (mem_badd _ _ I (hp y hyn))
  have m2 : q y ∈ (bfs p q z (k + 1)).1 := by rw [hs]; exact mem_badd _ _ I1 (hq y hyn)
  exact ⟨hsub.subset m1, hsub.subset m2⟩
/-- in a dessin all is found from each number -/
theorem bfs_full {p q : Nat → Nat} {n : Nat} (hp : Bij p n) (hq : Bij q n) (hn : n ≤ 16) (hc : conn p q n) {z : Nat} (hz : z < n) : (bfs p q z 16).1.length = n := by
  have I := bfs_inv hp.1 hq.1 hz 16
  have cl : ∀ y, y < n → y ∈ (bfs p q z 16).1 → p y ∈ (bfs p q z 16).1 ∧ q y ∈ (bfs p q z 16).1 := fun y _ h => bfs_closed hp.1 hq.1 hn hz h
  have itm : ∀ (f : Nat → Nat), Bij f n → (∀ y, y < n → y ∈ (bfs p q z 16).1 → f y ∈ (bfs p q z 16).1) → ∀ y, y < n → (y ∈ (bfs p q z 16).1 ↔ f y ∈ (bfs p q z 16).1) := by
    intro f hf hcl y hy
    refine ⟨hcl y hy, fun h => ?_⟩
    obtain ⟨L, h0, _, h2⟩ := hf.period hy
    have all : ∀ j, it f j (f y) ∈ (bfs p q z 16).1 := by
      intro j
      induction j with
      | zero => exact h
      | succ j ih => exact hcl _ (hf.it_lt j (hf.1 y hy)) ih
    have := all (L - 1)
    rwa [← it_succ', show L - 1 + 1 = L from by omega, h2] at this
  let E : Nat → Nat → Prop := fun a b => a ∈ (bfs p q z 16).1 ↔ b ∈ (bfs p q z 16).1
  have hE : Eqv E n := ⟨fun _ _ => Iff.rfl, fun _ _ _ _ h => h.symm, fun _ _ _ _ _ _ h1 h2 => h1.trans h2⟩
  have hall := fun x hx => conn_all hp.1 hq.1 (by omega) hc x hx E hE (fun y hy => itm p hp (fun y hy h => (cl y hy h).1) y hy) (fun y hy => itm q hq (fun y hy h => (cl y hy h).2) y hy)
  have hz0 : z ∈ (bfs p q z 16).1 := (bfs_pre' p q z (show 0 ≤ 16 by omega)).subset (by simp [bfs])
  have h0 : 0 ∈ (bfs p q z 16).1 := (hall z hz).2 hz0
  have h1 := nodup_le (List.range n) (bfs p q z 16).1 List.nodup_range fun x hx => (hall x (List.mem_range.1 hx)).1 h0
  have h2 := I.length_le
  simp at h1; omega

/-- the permutation that leads back -/
theorem orb_inv {p q : Nat → Nat} {n : Nat} (hp : Bij p n) (hq : Bij q n) (e : ∀ x, x < n → q (p x) = x) : orb q n = orb p n := by
  have key : ∀ (p q : Nat → Nat), Bij p n → Bij q n → (∀ x, x < n → q (p x) = x) → ∀ x y, x < n → R p x y → R q y x := by
    intro p q hp hq e x y hx r
    obtain ⟨k, rfl⟩ := r
    induction k with
    | zero => exact R.refl _
    | succ k ih => exact R.trans ⟨1, e _ (hp.it_lt k hx)⟩ ih
  have e' : ∀ y, y < n → p (q y) = y := fun y hy => hq.2 _ _ (hp.1 _ (hq.1 y hy)) hy (e _ (hq.1 y hy))
  refine cl_congr fun x y hx hy => ⟨fun r => ?_, fun r => ?_⟩
  · exact R.symm hp hy (key q p hq hp e' x y hx r)
  · exact R.symm hq hy (key p q hp hq e x y hx r)

/-- the Euler number of a dessin is even and at most 2 -/
theorem euler_dessin {p q f : Nat → Nat} {n : Nat} (hp : Bij p n) (hq : Bij q n) (hf : Bij f n) (h0 : 0 < n) (hc : conn p q n) (e : ∀ x, x < n → f (q (p x)) = x) :
    (orb p n + orb q n + orb f n + n) % 2 = 0 ∧ orb p n + orb q n + orb f n ≤ n + 2 := by
  have hb := euler_bound n q hq (n - orb p n) p hp rfl
  have e1 : orb f n = orb (fun x => q (p x)) n := orb_inv (hp.comp hq) hf e
  have hc' : cl (Both q p n) n = 1 := by
    rw [← conn_cl hp.1 hq.1 h0 hc]
    exact cl_congr fun x y _ _ => ⟨fun r E a b c => r E a c b, fun r E a b c => r E a c b⟩
  rw [hc'] at hb
  rw [e1]; omega
end Go.Proofs.Ytpkfjdaedaplfaa
