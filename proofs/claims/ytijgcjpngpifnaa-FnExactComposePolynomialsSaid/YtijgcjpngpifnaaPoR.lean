/- Remainders, divisors, chains, forks: mathematics. -/
import Derived.Test.YtijgcjpngpifnaaPo
namespace Go.Proofs.Ytijgcjpngpifnaa

theorem powF2_zero (n sq out : Nat) : powF2 n 0 sq out = out := by cases n <;> simp [powF2]
theorem powF2_step {n k sq out : Nat} (hk : k ≠ 0) : powF2 (n + 1) k sq out = powF2 n (k / 2) (sq * sq % 10007) (if k % 2 = 1 then out * sq % 10007 else out) := by
  conv => lhs; unfold powF2
  rw [if_neg hk]
theorem powF2_lt : ∀ n k sq out : Nat, out < 10007 → powF2 n k sq out < 10007
  | 0, _, _, _, h => h
  | n + 1, k, sq, out, h => by
    by_cases hk : k = 0
    · subst hk; rw [powF2_zero]; exact h
    · rw [powF2_step hk]
      apply powF2_lt
      split
      · exact Nat.mod_lt _ (by decide)
      · exact h
theorem invN_lt (x : Nat) : invN x < 10007 := powF2_lt _ _ _ _ (by decide)
theorem invN_pos {x : Nat} (h0 : 0 < x) (h : x < 10007) : invN x ≠ 0 := fun e => by have := invN_mul h0 h; rw [e] at this; simp at this
/-- a reckoning of the inverse under way -/
def InvAt (x k sq out : Nat) : Prop := ∃ n, k < 2 ^ n ∧ powF2 n k sq out = invN x
theorem InvAt.start (x : Nat) : InvAt x 10005 x 1 := ⟨20, by decide, rfl⟩
theorem InvAt.done {x sq out : Nat} (h : InvAt x 0 sq out) : out = invN x := by obtain ⟨n, _, h⟩ := h; rw [powF2_zero] at h; exact h
theorem InvAt.next {x k sq out : Nat} (h : InvAt x k sq out) (hk : k ≠ 0) : InvAt x (k / 2) (sq * sq % 10007) (if k % 2 = 1 then out * sq % 10007 else out) := by
  obtain ⟨n, h1, h2⟩ := h
  cases n with
  | zero => simp at h1; contradiction
  | succ n =>
    rw [powF2_step hk] at h2
    refine ⟨n, ?_, h2⟩
    rw [Nat.pow_succ] at h1
    omega

/-- the last number -/
def lastN (l : List Nat) : Nat := nth l (l.length - 1)
theorem lastN_lt {l : List Nat} (h : Po l) : lastN l < 10007 := h.nth _
theorem lastN_pos {l : List Nat} (h : Lz l) (h0 : l ≠ []) : lastN l ≠ 0 := lz_last h h0
/-- minus the inverse of the last number -/
def shrN (g : List Nat) : Nat := (10007 - invN (lastN g)) % 10007
/-- one step of a division -/
def stepR (g r : List Nat) : List Nat := trimN (rowL r (lastN r * shrN g % 10007) g (r.length - g.length) g.length)
theorem stepR_po {g r : List Nat} (h : Po r) (hl : g.length ≤ r.length) : Po (stepR g r) := trimN_po (rowL_po h _ _ _ _ (by omega))
theorem stepR_lz (g r : List Nat) : Lz (stepR g r) := trimN_lz _
theorem shr_mul {g : List Nat} (pg : Po g) (zg : Lz g) (h0 : g ≠ []) : (lastN g * shrN g + 1) % 10007 = 0 := by
  have h1 := lastN_lt pg
  have h2 : 0 < lastN g := Nat.pos_of_ne_zero (lastN_pos zg h0)
  have h3 := invN_mul h2 h1
  have h4 := invN_pos h2 h1
  have h5 := invN_lt (lastN g)
  unfold shrN
  generalize invN (lastN g) = y at *
  generalize lastN g = x at *
  rw [Nat.mod_eq_of_lt (by omega : 10007 - y < 10007)]
  have e : x * (10007 - y) + x * y = 10007 * x := by rw [← Nat.mul_add, Nat.sub_add_cancel (by omega), Nat.mul_comm]
  generalize x * (10007 - y) = p at *
  generalize x * y = q at *
  omega
theorem stepR_len {g r : List Nat} (pg : Po g) (zg : Lz g) (h0 : g ≠ []) (_pr : Po r) (hl : g.length ≤ r.length) : (stepR g r).length < r.length := by
  have l0 := List.length_pos_iff.2 h0
  unfold stepR
  rw [trimN_length, rowL_length]
  obtain ⟨m, hm⟩ : ∃ m, r.length = m + 1 := ⟨r.length - 1, by omega⟩
  have hz : nth (rowL r (lastN r * shrN g % 10007) g (r.length - g.length) g.length) m = 0 := by
    rw [rowL_nth _ _ _ _ _ (by omega), if_pos (by omega)]
    have e1 : nth r m = lastN r := by unfold lastN; rw [hm]; rfl
    have e2 : nth g (m - (r.length - g.length)) = lastN g := by unfold lastN; congr 1; omega
    rw [e1, e2]
    have h1 := shr_mul pg zg h0
    generalize lastN g = x at *
    generalize shrN g = y at *
    generalize lastN r = z at *
    rw [Nat.add_mod, Nat.mul_mod, Nat.mod_mod, ← Nat.mul_mod, ← Nat.add_mod]
    rw [show z + x * (z * y) = z * (x * y + 1) by rw [Nat.mul_add, Nat.mul_one, Nat.mul_left_comm]; omega, Nat.mul_mod, h1, Nat.mul_zero, Nat.zero_mod]
  have := tl_le (rowL r (lastN r * shrN g % 10007) g (r.length - g.length) g.length) m
  have e := tl_zero hz
  rw [← hm] at e
  rw [e]
  omega
/-- the model's step -/
theorem stepR_addL {g r : List Nat} (pg : Po g) (zg : Lz g) (h0 : g ≠ []) (pr : Po r) (hl : g.length ≤ r.length) :
    addL r (List.replicate (r.length - g.length) 0 ++ g) (-((lastN r * invN (lastN g) % 10007 : Nat) : Int)) = stepR g r := by
  unfold addL stepR
  congr 1
  refine (rowL_addR pr ?_ (by omega) (by simp; omega) fun n => ?_).symm
  · have h1 := lastN_lt pg
    have h2 : 0 < lastN g := Nat.pos_of_ne_zero (lastN_pos zg h0)
    have h4 := invN_pos h2 h1
    have h5 := invN_lt (lastN g)
    unfold shrN
    generalize invN (lastN g) = y at *
    generalize lastN r = z at *
    rw [Nat.mod_eq_of_lt (by omega : 10007 - y < 10007)]
    have e : z * (10007 - y) + z * y = 10007 * z := by rw [← Nat.mul_add, Nat.sub_add_cancel (by omega), Nat.mul_comm]
    generalize z * (10007 - y) = p at *
    generalize z * y = q at *
    omega
  · by_cases h1 : r.length - g.length ≤ n
    · rw [if_pos h1]
      obtain ⟨d, rfl⟩ : ∃ d, n = (List.replicate (r.length - g.length) 0).length + d := ⟨n - (r.length - g.length), by simp; omega⟩
      rw [nth_append_right]
      simp
    · rw [if_neg h1, nth_append_left _ _ (by simp; omega), nth_replicate]
def remF : Nat → List Nat → List Nat → List Nat
  | 0, _, r => r
  | n + 1, g, r => if r.length < g.length then r else remF n g (stepR g r)
/-- what a division leaves -/
def remL (f g : List Nat) : List Nat := remF f.length g f
theorem remF_lt {n : Nat} {g r : List Nat} (h : r.length < g.length) : remF n g r = r := by
  cases n with
  | zero => rfl
  | succ n => unfold remF; rw [if_pos h]
theorem remF_more {g : List Nat} (pg : Po g) (zg : Lz g) (h0 : g ≠ []) : ∀ (n m : Nat) (r : List Nat), Po r → r.length ≤ n → r.length ≤ m → remF n g r = remF m g r
  | n, m, r, pr, hn, hm => by
    by_cases h : r.length < g.length
    · rw [remF_lt h, remF_lt h]
    · have l0 := List.length_pos_iff.2 h0
      obtain ⟨n, rfl⟩ : ∃ k, n = k + 1 := ⟨n - 1, by omega⟩
      obtain ⟨m, rfl⟩ : ∃ k, m = k + 1 := ⟨m - 1, by omega⟩
      have hs := stepR_len pg zg h0 pr (by omega)
      conv => lhs; unfold remF
      conv => rhs; unfold remF
      rw [if_neg h, if_neg h]
      exact remF_more pg zg h0 n m _ (stepR_po pr (by omega)) (by omega) (by omega)
theorem remL_stop {f g : List Nat} (h : f.length < g.length) : remL f g = f := remF_lt h
theorem remL_step {g r : List Nat} (pg : Po g) (zg : Lz g) (h0 : g ≠ []) (pr : Po r) (hl : g.length ≤ r.length) : remL (stepR g r) g = remL r g := by
  have hs := stepR_len pg zg h0 pr hl
  unfold remL
  obtain ⟨k, hk⟩ : ∃ k, r.length = k + 1 := ⟨r.length - 1, by omega⟩
  rw [hk]
  conv => rhs; unfold remF
  rw [if_neg (by omega)]
  exact remF_more pg zg h0 _ _ _ (stepR_po pr hl) (Nat.le_refl _) (by omega)
theorem rem_all {g : List Nat} (pg : Po g) (zg : Lz g) (h0 : g ≠ []) : ∀ (n : Nat) (r : List Nat), r.length ≤ n → Po r → Lz r → Po (remL r g) ∧ Lz (remL r g) ∧ (remL r g).length < g.length
  | n, r, hn, pr, zr => by
    by_cases h : r.length < g.length
    · rw [remL_stop h]; exact ⟨pr, zr, h⟩
    · have l0 := List.length_pos_iff.2 h0
      have hs := stepR_len pg zg h0 pr (by omega)
      rw [← remL_step pg zg h0 pr (by omega)]
      obtain ⟨n, rfl⟩ : ∃ k, n = k + 1 := ⟨n - 1, by omega⟩
      exact rem_all pg zg h0 n _ (by omega) (stepR_po pr (by omega)) (stepR_lz _ _)
def gcdF : Nat → List Nat → List Nat → List Nat
  | 0, f, _ => f
  | n + 1, f, g => if g = [] then f else gcdF n g (remL f g)
/-- Euclid's last list -/
def gcdE (f g : List Nat) : List Nat := gcdF g.length f g
theorem gcdF_nil (n : Nat) (f : List Nat) : gcdF n f [] = f := by cases n <;> simp [gcdF]
theorem gcdF_more : ∀ (n m : Nat) (f g : List Nat), Po f → Lz f → Po g → Lz g → g.length ≤ n → g.length ≤ m → gcdF n f g = gcdF m f g
  | n, m, f, g, pf, zf, pg, zg, hn, hm => by
    by_cases h : g = []
    · subst h; rw [gcdF_nil, gcdF_nil]
    · have l0 := List.length_pos_iff.2 h
      obtain ⟨n, rfl⟩ : ∃ k, n = k + 1 := ⟨n - 1, by omega⟩
      obtain ⟨m, rfl⟩ : ∃ k, m = k + 1 := ⟨m - 1, by omega⟩
      obtain ⟨h1, h2, h3⟩ := rem_all pg zg h _ f (Nat.le_refl _) pf zf
      conv => lhs; unfold gcdF
      conv => rhs; unfold gcdF
      rw [if_neg h, if_neg h]
      exact gcdF_more n m g _ pg zg h1 h2 (by omega) (by omega)
theorem gcdE_nil (f : List Nat) : gcdE f [] = f := gcdF_nil _ _
theorem gcdE_step {f g : List Nat} (pf : Po f) (zf : Lz f) (pg : Po g) (zg : Lz g) (h : g ≠ []) : gcdE g (remL f g) = gcdE f g := by
  have l0 := List.length_pos_iff.2 h
  obtain ⟨h1, h2, h3⟩ := rem_all pg zg h _ f (Nat.le_refl _) pf zf
  unfold gcdE
  obtain ⟨m, hm⟩ : ∃ k, g.length = k + 1 := ⟨g.length - 1, by omega⟩
  rw [hm]
  conv => rhs; unfold gcdF
  rw [if_neg h]
  exact gcdF_more _ _ _ _ pg zg h1 h2 (Nat.le_refl _) (by omega)
theorem gcd_all : ∀ (n : Nat) (f g : List Nat), g.length ≤ n → Po f → Lz f → Po g → Lz g → Po (gcdE f g) ∧ Lz (gcdE f g) ∧ (f ≠ [] ∨ g ≠ [] → gcdE f g ≠ []) ∧ (gcdE f g).length ≤ max f.length g.length ∧ (g ≠ [] → (gcdE f g).length ≤ g.length)
  | n, f, g, hn, pf, zf, pg, zg => by
    by_cases h : g = []
    · subst h; rw [gcdE_nil]; exact ⟨pf, zf, fun c => c.elim id fun c => absurd rfl c, by omega, fun c => absurd rfl c⟩
    · have l0 := List.length_pos_iff.2 h
      obtain ⟨h1, h2, h3⟩ := rem_all pg zg h _ f (Nat.le_refl _) pf zf
      rw [← gcdE_step pf zf pg zg h]
      obtain ⟨n, rfl⟩ : ∃ k, n = k + 1 := ⟨n - 1, by omega⟩
      obtain ⟨a1, a2, a3, a4, a5⟩ := gcd_all n g (remL f g) (by omega) pg zg h1 h2
      have : (gcdE g (remL f g)).length ≤ g.length := by omega
      exact ⟨a1, a2, fun _ => a3 (.inl h), by omega, fun _ => this⟩
/-- the greatest common divisor -/
def comL (f g : List Nat) : List Nat := timesL (gcdE f g) [invN (lastN (gcdE f g))]
theorem one_po {b : Nat} (h : b < 10007) : Po [b] := fun x hx => by rw [List.mem_singleton.1 hx]; exact h
theorem com_all {f g : List Nat} (pf : Po f) (zf : Lz f) (pg : Po g) (zg : Lz g) (h : f ≠ [] ∨ g ≠ []) :
    Po (comL f g) ∧ Lz (comL f g) ∧ comL f g ≠ [] ∧ (comL f g).length = (gcdE f g).length ∧ comL f g = addL [] (gcdE f g) (invN (lastN (gcdE f g)) : Nat) := by
  obtain ⟨h1, h2, h3, _, _⟩ := gcd_all _ f g (Nat.le_refl _) pf zf pg zg
  have h3 := h3 h
  have h4 := invN_pos (Nat.pos_of_ne_zero (lastN_pos h2 h3)) (lastN_lt h1)
  have h5 := invN_lt (lastN (gcdE f g))
  unfold comL
  have l1 := List.length_pos_iff.2 h3
  have hl : (timesL (gcdE f g) [invN (lastN (gcdE f g))]).length = (gcdE f g).length := by rw [timesL_length h3 (by simp)]; simp
  refine ⟨timesL_po _ _, timesL_lz h1 (one_po h5) h2 (.inr (by simpa [nth] using h4)), fun e => ?_, hl, scale_addL h1 h2 h5 h4⟩
  rw [e] at hl; simp at hl; omega

/-- powers -/
def powL (f : List Nat) : Nat → List Nat
  | 0 => [1]
  | n + 1 => timesL (powL f n) f
def monL (n : Nat) : List Nat := List.replicate n 0 ++ [1]
/-- chains -/
def chnL : Nat → List Nat × List Nat
  | 0 => ([1], [0, 1])
  | n + 1 => ((chnL n).2, addL (timesL [0, 2] (chnL n).2) (chnL n).1 (-1))
theorem chn_scaled (a b : List Nat) : addL a (timesL b [10006]) 1 = addL a b (-1) := by
  unfold addL
  refine trimN_congr fun n => ?_
  rw [addR_nth, addR_nth, scale_nth]
  apply mdZ_of
  omega
theorem con_neg (f : List Nat) {v : Nat} (hv : v < 10007) : addL f (trimN [(10007 - v) % 10007]) 1 = addL f (trimN [v]) (-1) := by
  unfold addL
  refine trimN_congr fun n => ?_
  rw [addR_nth, addR_nth, trimN_nth, trimN_nth]
  apply mdZ_of
  cases n with
  | zero => simp only [nth, List.getElem?_cons_zero, Option.getD_some]; omega
  | succ n => simp [nth]
/-- values -/
def hornL (f : List Nat) (x : Nat) : Nat → Nat
  | 0 => 0
  | k + 1 => (hornL f x k * x + nth f (f.length - 1 - k)) % 10007
def valL (f : List Nat) (x : Nat) : Nat := hornL f x f.length
theorem hornL_lt (f : List Nat) (x : Nat) : ∀ k, hornL f x k < 10007
  | 0 => (by decide : 0 < 10007)
  | k + 1 => Nat.mod_lt _ (by decide)
/-- compositions -/
def cmpT (f g : List Nat) : Nat → List Nat
  | 0 => []
  | k + 1 => addL (timesL (cmpT f g k) g) (trimN [nth f (f.length - 1 - k)]) 1
/-- forks -/
def itmL (m : Nat) : Nat → List Nat
  | 0 => monL m
  | n + 1 => timesL (itmL m n) [1, 10006]
def topN (m n : Nat) : Nat := m * invN (m + n) % 10007
def frkL (m n : Nat) : List Nat := timesL (itmL m n) [invN (valL (itmL m n) (topN m n))]
end Go.Proofs.Ytijgcjpngpifnaa
