/- Mathematics of fractions: products with a limit, quotients in least terms, moves whose values are small. -/
import Derived.Test.YtpkfjdaedaplfaaBase
namespace Go.Proofs.Ytpkfjdaedaplfaa

/-- the product of a list -/
def prZ : List Int → Int
  | [] => 1
  | x :: l => x * prZ l
theorem prZ_append (l m : List Int) : prZ (l ++ m) = prZ l * prZ m := by
  induction l with
  | nil => simp [prZ]
  | cons x l ih => rw [List.cons_append, prZ, prZ, ih, Int.mul_assoc]
theorem prZ_rep (n : Nat) (x : Int) : prZ (List.replicate n x) = x ^ n := by
  induction n with
  | zero => simp [prZ]
  | succ n ih => rw [List.replicate_succ, prZ, ih, Int.pow_succ, Int.mul_comm]
theorem prZ_set (l : List Int) (i : Nat) (h : i < l.length) (y g : Int) (hy : l[i] = y * g) : prZ l = prZ (l.set i y) * g := by
  induction l generalizing i with
  | nil => simp at h
  | cons x l ih =>
    cases i with
    | zero =>
      simp only [List.getElem_cons_zero] at hy
      rw [List.set_cons_zero, prZ, prZ, hy, Int.mul_assoc, Int.mul_assoc, Int.mul_comm g]
    | succ i =>
      simp only [List.getElem_cons_succ] at hy
      rw [List.set_cons_succ, prZ, prZ, ih i (by simpa using h) hy, Int.mul_assoc]
theorem prZ_zero {l : List Int} : prZ l = 0 ↔ 0 ∈ l := by
  induction l with
  | nil => simp [prZ]
  | cons x l ih =>
    rw [prZ, Int.mul_eq_zero, ih, List.mem_cons]
    constructor
    · rintro (h | h)
      · exact .inl h.symm
      · exact .inr h
    · rintro (h | h)
      · exact .inl h.symm
      · exact .inr h
/-- the nearest number of at most 1000000001 -/
def clp (x : Int) : Int := min (max x (-1000000001)) 1000000001
def capL (p : Int) : List Int → Int
  | [] => p
  | x :: l => capL (clp (p * x)) l
theorem clp_in (x : Int) : -1000000001 ≤ clp x ∧ clp x ≤ 1000000001 := by unfold clp; omega
theorem clp_id {x : Int} (h : -1000000001 ≤ x ∧ x ≤ 1000000001) : clp x = x := by unfold clp; omega
theorem clp_clp (p x : Int) : clp (clp p * x) = clp (p * x) := by
  by_cases h : -1000000001 ≤ p ∧ p ≤ 1000000001
  · rw [clp_id h]
  · have hx : x = 0 ∨ 1 ≤ x ∨ x ≤ -1 := by omega
    by_cases h1 : 1000000001 < p
    · have e : clp p = 1000000001 := by unfold clp; omega
      rw [e]
      rcases hx with rfl | hx | hx
      · simp
      · have := Int.mul_le_mul_of_nonneg_right (show (1000000001 : Int) ≤ p by omega) (show 0 ≤ x by omega)
        unfold clp; omega
      · have := Int.mul_le_mul_of_nonneg_right (show (1000000001 : Int) ≤ p by omega) (show 0 ≤ -x by omega)
        rw [Int.mul_neg, Int.mul_neg] at this
        unfold clp; omega
    · have e : clp p = -1000000001 := by unfold clp; omega
      rw [e]
      rcases hx with rfl | hx | hx
      · simp
      · have := Int.mul_le_mul_of_nonneg_right (show p ≤ -1000000001 by omega) (show 0 ≤ x by omega)
        unfold clp; omega
      · have := Int.mul_le_mul_of_nonneg_right (show p ≤ -1000000001 by omega) (show 0 ≤ -x by omega)
        rw [Int.mul_neg, Int.mul_neg] at this
        unfold clp; omega
theorem capL_eq (l : List Int) (p : Int) : capL (clp p) l = clp (p * prZ l) := by
  induction l generalizing p with
  | nil => simp [capL, prZ]
  | cons x l ih => rw [capL, clp_clp, ih, prZ, Int.mul_assoc]
theorem capL_one (l : List Int) : capL 1 l = clp (prZ l) := by
  have := capL_eq l 1
  rwa [show clp 1 = 1 by decide, Int.one_mul] at this

/-- coprime numbers told with signs -/
def sgN (a b : Int) : Int × Int := if b < 0 ∨ b = 0 ∧ a < 0 then (-a, -b) else (a, b)
/-- a quotient in least terms -/
def nrm (P Q : Int) : Int × Int := sgN (P / Int.gcd P Q) (Q / Int.gcd P Q)
theorem gcd_scale {a b d : Int} (h : Int.gcd a b = 1) (hd : 0 < d) : (Int.gcd (a * d) (b * d) : Int) = d := by
  rw [Int.gcd_mul_right, h, Nat.one_mul]; omega
theorem nrm_of {a b d : Int} (h : Int.gcd a b = 1) (hd : 0 < d) : nrm (a * d) (b * d) = sgN a b := by
  unfold nrm
  rw [gcd_scale h hd, Int.mul_ediv_cancel _ (by omega), Int.mul_ediv_cancel _ (by omega)]
theorem nrm_cop {a b : Int} (h : Int.gcd a b = 1) : nrm a b = sgN a b := by
  have := nrm_of h (d := 1) (by decide)
  simpa using this
theorem nrm_parts {P Q : Int} (h : P ≠ 0 ∨ Q ≠ 0) : ∃ a b d : Int, 0 < d ∧ P = a * d ∧ Q = b * d ∧ Int.gcd a b = 1 ∧ nrm P Q = sgN a b := by
  have hg : 0 < Int.gcd P Q := by
    rcases h with h | h
    · exact Int.gcd_pos_of_ne_zero_left _ h
    · exact Int.gcd_pos_of_ne_zero_right _ h
  have h1 : P = P / Int.gcd P Q * Int.gcd P Q := (Int.ediv_mul_cancel (Int.gcd_dvd_left ..)).symm
  have h2 : Q = Q / Int.gcd P Q * Int.gcd P Q := (Int.ediv_mul_cancel (Int.gcd_dvd_right ..)).symm
  refine ⟨P / Int.gcd P Q, Q / Int.gcd P Q, Int.gcd P Q, by omega, h1, h2, ?_, rfl⟩
  have key : ∀ (p q : Int) (g : Nat), P = p * g → Q = q * g → g = Int.gcd P Q → Int.gcd p q = 1 := by
    intro p q g e1 e2 e3
    have hg' : 0 < g := by omega
    rw [e1, e2, Int.gcd_mul_right] at e3
    have : g = Int.gcd p q * g := by simpa using e3
    exact Nat.eq_of_mul_eq_mul_right hg' (by rw [← this, Nat.one_mul])
  exact key _ _ _ h1 h2 rfl
theorem sgN_gcd (a b : Int) : Int.gcd (sgN a b).1 (sgN a b).2 = Int.gcd a b := by
  unfold sgN; split <;> simp
/-- what is told of a quotient: its least terms if they are not too great -/
def isP (x : Int) : Prop := -1000000000 ≤ x ∧ x ≤ 1000000000
instance (x : Int) : Decidable (isP x) := by unfold isP; infer_instance
def resN (P Q : Int) : Int := if isP (nrm P Q).1 ∧ isP (nrm P Q).2 then (nrm P Q).1 else 0
def resD (P Q : Int) : Int := if isP (nrm P Q).1 ∧ isP (nrm P Q).2 then (nrm P Q).2 else 0
def resC (P Q c : Int) : Int := if isP (nrm P Q).1 ∧ isP (nrm P Q).2 then 0 else c
theorem isP_clp (x : Int) : isP (clp x) ↔ isP x := by unfold isP clp; omega
theorem isP_neg (x : Int) : isP (-x) ↔ isP x := by unfold isP; omega
theorem sgN_clp (a b : Int) : sgN (clp a) (clp b) = (if b < 0 ∨ b = 0 ∧ a < 0 then (-(clp a), -(clp b)) else (clp a, clp b)) := by
  unfold sgN
  have h1 : (clp b < 0 ∨ clp b = 0 ∧ clp a < 0) ↔ (b < 0 ∨ b = 0 ∧ a < 0) := by unfold clp; omega
  by_cases h : b < 0 ∨ b = 0 ∧ a < 0
  · rw [if_pos h, if_pos (h1.2 h)]
  · rw [if_neg h, if_neg (fun k => h (h1.1 k))]
theorem isP_sgN_clp (a b : Int) : (isP (sgN (clp a) (clp b)).1 ∧ isP (sgN (clp a) (clp b)).2) ↔ (isP (sgN a b).1 ∧ isP (sgN a b).2) := by
  rw [sgN_clp]
  unfold sgN
  split <;> simp [isP_neg, isP_clp]
theorem sgN_clp_eq {a b : Int} (h : isP (sgN a b).1 ∧ isP (sgN a b).2) : sgN (clp a) (clp b) = sgN a b := by
  rw [sgN_clp]
  unfold sgN at h ⊢
  split at h
  · rename_i c
    rw [if_pos c, if_pos c]
    rw [isP_neg, isP_neg] at h
    rw [clp_id (by unfold isP at h; omega), clp_id (by unfold isP at h; omega)]
  · rename_i c
    rw [if_neg c, if_neg c]
    rw [clp_id (by unfold isP at h; omega), clp_id (by unfold isP at h; omega)]
/-- lists of coprime numbers have coprime products -/
theorem prZ_cop {A B : List Int} (h : ∀ x ∈ A, ∀ y ∈ B, Int.gcd x y = 1) : Int.gcd (prZ A) (prZ B) = 1 := by
  have h1 : ∀ x : Int, (∀ y ∈ B, Int.gcd x y = 1) → Int.gcd x (prZ B) = 1 := by
    intro x
    clear h
    induction B with
    | nil => intro _; simp [prZ]
    | cons y B ih =>
      intro h
      rw [prZ, Int.gcd_eq_natAbs_gcd_natAbs, Int.natAbs_mul]
      exact Nat.Coprime.mul_right (h y (by simp)) (ih fun z hz => h z (by simp [hz]))
  induction A with
  | nil => simp [prZ]
  | cons x A ih =>
    rw [prZ, Int.gcd_eq_natAbs_gcd_natAbs, Int.natAbs_mul]
    exact Nat.Coprime.mul_left (h1 x (h x (by simp))) (ih fun z hz => h z (by simp [hz]))
/-- what the division of two factors by their common divisor leaves -/
theorem gcd_quo {a b : Int} (h : ¬ (a = 0 ∧ b = 0)) : ∃ a' b' : Int, a.tdiv (Int.gcd a b) = a' ∧ b.tdiv (Int.gcd a b) = b' ∧ a = a' * Int.gcd a b ∧ b = b' * Int.gcd a b ∧ Int.gcd a' b' = 1 ∧ 0 < (Int.gcd a b : Int) ∧ a'.natAbs ≤ a.natAbs ∧ b'.natAbs ≤ b.natAbs := by
  obtain ⟨a', b', d, hd, ha, hb, hg, _⟩ := nrm_parts (P := a) (Q := b) (by omega)
  have e : (Int.gcd a b : Int) = d := by rw [ha, hb]; exact gcd_scale hg hd
  refine ⟨a', b', ?_, ?_, by rw [e]; exact ha, by rw [e]; exact hb, hg, by omega, ?_, ?_⟩
  · rw [e, ha, Int.mul_tdiv_cancel _ (by omega)]
  · rw [e, hb, Int.mul_tdiv_cancel _ (by omega)]
  · rw [ha, Int.natAbs_mul]; exact Nat.le_mul_of_pos_right _ (by omega)
  · rw [hb, Int.natAbs_mul]; exact Nat.le_mul_of_pos_right _ (by omega)
theorem gcd_dvd_one {a b x : Int} (h : Int.gcd x a = 1) (hd : b ∣ a) : Int.gcd x b = 1 := by
  have : Int.gcd x b ∣ Int.gcd x a := by
    rw [Int.gcd_eq_natAbs_gcd_natAbs, Int.gcd_eq_natAbs_gcd_natAbs]
    exact Nat.dvd_gcd (Nat.gcd_dvd_left ..) (Nat.dvd_trans (Nat.gcd_dvd_right ..) (Int.natAbs_dvd_natAbs.2 hd))
  rw [h] at this
  exact Nat.dvd_one.1 this
/-- the two lists while their common divisors are taken out: A0, B0 at first, the pairs in front of (i, j) are done -/
structure QInv (A0 B0 A B : List Int) (i j : Nat) : Prop where
  la : A.length = A0.length
  lb : B.length = B0.length
  prod : ∃ d : Int, 0 < d ∧ prZ A0 = prZ A * d ∧ prZ B0 = prZ B * d
  zero : ¬ (0 ∈ A ∧ 0 ∈ B)
  small : (∀ x ∈ A, x.natAbs ≤ 2000000000) ∧ ∀ x ∈ B, x.natAbs ≤ 2000000000
  cop : ∀ (k l : Nat) (hk : k < A.length) (hl : l < B.length), (k < i ∨ k = i ∧ l < j) → Int.gcd A[k] B[l] = 1
theorem QInv.start {A0 B0 : List Int} (hz : ¬ (0 ∈ A0 ∧ 0 ∈ B0)) (ha : ∀ x ∈ A0, x.natAbs ≤ 2000000000) (hb : ∀ x ∈ B0, x.natAbs ≤ 2000000000) : QInv A0 B0 A0 B0 0 0 :=
  ⟨rfl, rfl, ⟨1, by decide, by simp, by simp⟩, hz, ⟨ha, hb⟩, fun k l _ _ h => by omega⟩
theorem QInv.row {A0 B0 A B : List Int} {i : Nat} (h : QInv A0 B0 A B i B.length) : QInv A0 B0 A B (i + 1) 0 :=
  ⟨h.la, h.lb, h.prod, h.zero, h.small, fun k l hk hl c => h.cop k l hk hl (by omega)⟩
theorem mem_set_of {l : List Int} {i : Nat} {y x : Int} (h : x ∈ l.set i y) : x = y ∨ x ∈ l := by
  rcases List.mem_or_eq_of_mem_set h with h | h
  · exact .inr h
  · exact .inl h
theorem QInv.next {A0 B0 A B : List Int} {i j : Nat} (h : QInv A0 B0 A B i j) (hi : i < A.length) (hj : j < B.length) :
    0 < (Int.gcd A[i] B[j] : Int) ∧ QInv A0 B0 (A.set i (A[i].tdiv (Int.gcd A[i] B[j]))) (B.set j (B[j].tdiv (Int.gcd A[i] B[j]))) i (j + 1) := by
  have hA := List.getElem_mem hi
  have hB := List.getElem_mem hj
  have hnz : ¬ (A[i] = 0 ∧ B[j] = 0) := fun ⟨h1, h2⟩ => h.zero ⟨h1 ▸ hA, h2 ▸ hB⟩
  obtain ⟨a, b, ea, eb, ha, hb, hab, hg, la, lb⟩ := gcd_quo hnz
  refine ⟨hg, ?_⟩
  rw [ea, eb]
  have pa := prZ_set A i hi a _ ha
  have pb := prZ_set B j hj b _ hb
  have sA := h.small.1 _ hA
  have sB := h.small.2 _ hB
  have dA : a ∣ A[i] := ⟨_, ha⟩
  have dB : b ∣ B[j] := ⟨_, hb⟩
  have za : ∀ x, x ∈ A.set i a → x = 0 → 0 ∈ A := fun x hx e => by
    rcases mem_set_of hx with c | c
    · rw [← c, e, Int.zero_mul] at ha; rw [← ha]; exact hA
    · rw [← e]; exact c
  have zb : ∀ x, x ∈ B.set j b → x = 0 → 0 ∈ B := fun x hx e => by
    rcases mem_set_of hx with c | c
    · rw [← c, e, Int.zero_mul] at hb; rw [← hb]; exact hB
    · rw [← e]; exact c
  refine ⟨by rw [List.length_set]; exact h.la, by rw [List.length_set]; exact h.lb, ?_, fun ⟨h1, h2⟩ => h.zero ⟨za _ h1 rfl, zb _ h2 rfl⟩, ⟨fun x hx => ?_, fun x hx => ?_⟩, fun k l hk hl c => ?_⟩
  · obtain ⟨d, hd, e1, e2⟩ := h.prod
    exact ⟨Int.gcd A[i] B[j] * d, Int.mul_pos hg hd, by rw [e1, pa, Int.mul_assoc], by rw [e2, pb, Int.mul_assoc]⟩
  · rcases mem_set_of hx with c | c
    · rw [c]; omega
    · exact h.small.1 x c
  · rcases mem_set_of hx with c | c
    · rw [c]; omega
    · exact h.small.2 x c
  · rw [List.length_set] at hk hl
    rw [List.getElem_set, List.getElem_set]
    by_cases c1 : i = k
    · rw [if_pos c1]
      by_cases c2 : j = l
      · rw [if_pos c2]; exact hab
      · rw [if_neg c2]
        have := h.cop k l hk hl (by omega)
        subst c1
        rw [Int.gcd_comm] at this ⊢
        exact gcd_dvd_one this dA
    · rw [if_neg c1]
      by_cases c2 : j = l
      · rw [if_pos c2]
        have := h.cop k l hk hl (by omega)
        subst c2
        exact gcd_dvd_one this dB
      · rw [if_neg c2]
        exact h.cop k l hk hl (by omega)
theorem QInv.done {A0 B0 A B : List Int} (h : QInv A0 B0 A B A.length 0) : nrm (prZ A0) (prZ B0) = sgN (prZ A) (prZ B) := by
  obtain ⟨d, hd, e1, e2⟩ := h.prod
  rw [e1, e2]
  refine nrm_of (prZ_cop fun x hx y hy => ?_) hd
  obtain ⟨k, hk, rfl⟩ := List.getElem_of_mem hx
  obtain ⟨l, hl, rfl⟩ := List.getElem_of_mem hy
  exact h.cop k l hk hl (.inl hk)
/-- a prime number -/
def prm (p : Nat) : Prop := 2 ≤ p ∧ ∀ d, d ∣ p → d = 1 ∨ d = p
theorem prm_cop {p x : Nat} (h : prm p) (hx : ¬ p ∣ x) : Nat.Coprime p x := by
  rcases h.2 _ (Nat.gcd_dvd_left p x) with c | c
  · exact c
  · exact absurd (c ▸ Nat.gcd_dvd_right p x) hx
/-- no divisor up to the square root: a prime -/
theorem prm_of {x : Nat} (hx : 2 ≤ x) (h : ∀ d, 2 ≤ d → d * d ≤ x → ¬ d ∣ x) : prm x := by
  refine ⟨hx, fun d hd => ?_⟩
  obtain ⟨e, he⟩ := hd
  have hd0 : d ≠ 0 := by rintro rfl; omega
  have he0 : e ≠ 0 := by rintro rfl; omega
  rcases Nat.lt_or_ge d 2 with c | c
  · left; omega
  · rcases Nat.lt_or_ge e 2 with c' | c'
    · right
      have : e = 1 := by omega
      subst this; omega
    · exfalso
      rcases Nat.le_total d e with k | k
      · exact h d c (by rw [he]; exact Nat.mul_le_mul_left d k) ⟨e, he⟩
      · exact h e c' (by rw [he]; exact Nat.mul_le_mul_right e k) ⟨d, by rw [Nat.mul_comm]; exact he⟩
theorem prm_least {x p : Nat} (hp : 2 ≤ p) (hd : p ∣ x) (h : ∀ d, 2 ≤ d → d < p → ¬ d ∣ x) : prm p := by
  refine ⟨hp, fun d k => ?_⟩
  have hd0 : 0 < d := Nat.pos_of_dvd_of_pos k (by omega)
  have hle := Nat.le_of_dvd (by omega) k
  rcases Nat.lt_or_ge d 2 with c | c
  · left; omega
  · rcases Nat.lt_or_ge d p with c' | c'
    · exact absurd (Nat.dvd_trans k hd) (h d c c')
    · right; omega
/-- the part of a quotient that no number of the other side meets -/
theorem red_dvd {P Q c y : Nat} {x : Nat} (hP : 0 < P) (h : P * y = Q * (x * c)) (hc : Nat.Coprime c y) : c ∣ P / Nat.gcd P Q := by
  have hg : 0 < Nat.gcd P Q := Nat.gcd_pos_of_pos_left _ hP
  obtain ⟨p, hp⟩ := Nat.gcd_dvd_left P Q
  obtain ⟨q, hq⟩ := Nat.gcd_dvd_right P Q
  have e : P / Nat.gcd P Q = p := by
    generalize Nat.gcd P Q = g at *
    subst hp
    exact Nat.mul_div_cancel_left _ hg
  rw [e]
  have h2 : p * y = q * (x * c) := by
    refine Nat.eq_of_mul_eq_mul_left hg ?_
    rw [← Nat.mul_assoc, ← Nat.mul_assoc, ← hp, ← hq]; exact h
  refine hc.dvd_of_dvd_mul_right (n := y) ?_
  exact ⟨q * x, by rw [h2, ← Nat.mul_assoc, Nat.mul_comm]⟩
theorem red_eq {P Q a b : Nat} (hP : 0 < P) (hQ : 0 < Q) (h : P * b = Q * a) (hc : Nat.Coprime a b) : P / Nat.gcd P Q = a ∧ Q / Nat.gcd P Q = b := by
  have hg : 0 < Nat.gcd P Q := Nat.gcd_pos_of_pos_left _ hP
  have h1 : a ∣ P / Nat.gcd P Q := red_dvd (x := 1) hP (by rw [Nat.one_mul]; exact h) hc
  have h2 : b ∣ Q / Nat.gcd P Q := by
    have := red_dvd (P := Q) (Q := P) (c := b) (y := a) (x := 1) hQ (by rw [Nat.one_mul]; exact h.symm) hc.symm
    rwa [Nat.gcd_comm] at this
  have hcop := Nat.coprime_div_gcd_div_gcd (m := P) (n := Q) hg
  have hp := Nat.div_mul_cancel (Nat.gcd_dvd_left P Q)
  have hq := Nat.div_mul_cancel (Nat.gcd_dvd_right P Q)
  generalize P / Nat.gcd P Q = p at *
  generalize Q / Nat.gcd P Q = q at *
  generalize Nat.gcd P Q = g at *
  have h3 : p * b = q * a := by
    refine Nat.eq_of_mul_eq_mul_left hg ?_
    rw [← Nat.mul_assoc, ← Nat.mul_assoc, Nat.mul_comm g p, Nat.mul_comm g q, hp, hq]; exact h
  have h4 : p ∣ a := hcop.dvd_of_dvd_mul_left (m := q) ⟨b, by rw [h3]⟩
  have h5 : q ∣ b := hcop.symm.dvd_of_dvd_mul_left (m := p) ⟨a, by rw [h3]⟩
  exact ⟨Nat.dvd_antisymm h4 h1, Nat.dvd_antisymm h5 h2⟩
theorem gcd_mul_le {a b c : Nat} (hb : 0 < b) (hc : 0 < Nat.gcd a c) : Nat.gcd a (b * c) ≤ b * Nat.gcd a c := by
  have h1 := Nat.gcd_mul_right_dvd_mul_gcd a b c
  have h2 : Nat.gcd a b ≤ b := Nat.le_of_dvd hb (Nat.gcd_dvd_right a b)
  have h3 : 0 < Nat.gcd a b := Nat.gcd_pos_of_pos_right _ hb
  exact Nat.le_trans (Nat.le_of_dvd (Nat.mul_pos h3 hc) h1) (Nat.mul_le_mul_right _ h2)
/-- values of moves that are small have small parts -/
theorem mv_small {u w v m n : Nat} (hm : 1 ≤ m ∧ m ≤ 20) (hn : 1 ≤ n ∧ n ≤ 20) (hu : 0 < u) (hw : 0 < w) (hv : 0 < v) (huv : Nat.Coprime u v) (hwv : Nat.Coprime w v) (h1 : u ≤ w + v) (h2 : w ≤ u + v)
    (hN : (m + n) ^ (m + n) * (u ^ m * w ^ n) / Nat.gcd ((m + n) ^ (m + n) * (u ^ m * w ^ n)) (m ^ m * n ^ n * v ^ (m + n)) ≤ 1000000000)
    (hM : m ^ m * n ^ n * v ^ (m + n) / Nat.gcd ((m + n) ^ (m + n) * (u ^ m * w ^ n)) (m ^ m * n ^ n * v ^ (m + n)) ≤ 1000000000) :
    u ≤ 25000000 ∧ w ≤ 25000000 ∧ v ≤ 25000000 := by
  have hD : 2 ≤ m + n := by omega
  have hX : 0 < u ^ m * w ^ n := Nat.mul_pos (Nat.pow_pos hu) (Nat.pow_pos hw)
  have hY : 0 < m ^ m * n ^ n := Nat.mul_pos (Nat.pow_pos (by omega)) (Nat.pow_pos (by omega))
  have hV : 0 < v ^ (m + n) := Nat.pow_pos hv
  have hDD : 0 < (m + n) ^ (m + n) := Nat.pow_pos (by omega)
  have cXV : Nat.Coprime (u ^ m * w ^ n) (v ^ (m + n)) := Nat.Coprime.mul_left (Nat.Coprime.pow _ _ huv) (Nat.Coprime.pow _ _ hwv)
  have gN : 0 < Nat.gcd ((m + n) ^ (m + n) * (u ^ m * w ^ n)) (m ^ m * n ^ n * v ^ (m + n)) := Nat.gcd_pos_of_pos_left _ (Nat.mul_pos hDD hX)
  -- the common divisor is small
  have g1 : Nat.gcd ((m + n) ^ (m + n) * (u ^ m * w ^ n)) (m ^ m * n ^ n * v ^ (m + n)) ≤ m ^ m * n ^ n * (m + n) ^ (m + n) := by
    refine Nat.le_trans (gcd_mul_le hY (Nat.gcd_pos_of_pos_right _ hV)) (Nat.mul_le_mul_left _ ?_)
    have : Nat.gcd ((m + n) ^ (m + n) * (u ^ m * w ^ n)) (v ^ (m + n)) = Nat.gcd ((m + n) ^ (m + n)) (v ^ (m + n)) := Nat.Coprime.gcd_mul_right_cancel _ cXV
    rw [this]
    exact Nat.le_of_dvd hDD (Nat.gcd_dvd_left _ _)
  have hvD : v ^ (m + n) ≤ 1000000000 * (m + n) ^ (m + n) := by
    have h3 : m ^ m * n ^ n * v ^ (m + n) ≤ 1000000000 * (m ^ m * n ^ n * (m + n) ^ (m + n)) := by
      have := Nat.div_mul_cancel (Nat.gcd_dvd_right ((m + n) ^ (m + n) * (u ^ m * w ^ n)) (m ^ m * n ^ n * v ^ (m + n)))
      rw [← this]
      exact Nat.mul_le_mul hM g1
    refine Nat.le_of_mul_le_mul_left ?_ hY
    rw [Nat.mul_left_comm]; exact h3
  have hXX : u ^ m * w ^ n ≤ 1000000000 * (m ^ m * n ^ n) := by
    have h3 : (m + n) ^ (m + n) * (u ^ m * w ^ n) ≤ 1000000000 * (m ^ m * n ^ n * (m + n) ^ (m + n)) := by
      have := Nat.div_mul_cancel (Nat.gcd_dvd_left ((m + n) ^ (m + n) * (u ^ m * w ^ n)) (m ^ m * n ^ n * v ^ (m + n)))
      rw [← this]
      exact Nat.mul_le_mul hN g1
    refine Nat.le_of_mul_le_mul_left ?_ hDD
    rw [Nat.mul_left_comm ((m + n) ^ (m + n)) 1000000000, Nat.mul_comm ((m + n) ^ (m + n)) (m ^ m * n ^ n)]; exact h3
  have hv2 : v < 31623 * (m + n) := by
    refine Nat.lt_of_not_le fun c => ?_
    have h3 : (31623 * (m + n)) ^ (m + n) ≤ v ^ (m + n) := Nat.pow_le_pow_left c _
    rw [Nat.mul_pow] at h3
    have h4 : 31623 ^ 2 ≤ 31623 ^ (m + n) := Nat.pow_le_pow_right (by decide) hD
    have h5 := Nat.mul_le_mul_right ((m + n) ^ (m + n)) h4
    have h6 : (31623 : Nat) ^ 2 = 1000014129 := by decide
    rw [h6] at h5
    have h7 := Nat.le_trans h5 (Nat.le_trans h3 hvD)
    have := Nat.le_of_mul_le_mul_right h7 hDD
    omega
  have small : ∀ t : Nat, 20 * 31623 ≤ t → t ≤ u → t ≤ w → False := by
    intro t ht hu' hw'
    have h3 : t ^ m * t ^ n ≤ u ^ m * w ^ n := Nat.mul_le_mul (Nat.pow_le_pow_left hu' _) (Nat.pow_le_pow_left hw' _)
    have h4 : m ^ m * n ^ n ≤ 20 ^ m * 20 ^ n := Nat.mul_le_mul (Nat.pow_le_pow_left hm.2 _) (Nat.pow_le_pow_left hn.2 _)
    rw [← Nat.pow_add] at h3 h4
    have h5 : (20 * 31623) ^ (m + n) ≤ t ^ (m + n) := Nat.pow_le_pow_left ht _
    rw [Nat.mul_pow] at h5
    have h6 : 31623 ^ 2 ≤ 31623 ^ (m + n) := Nat.pow_le_pow_right (by decide) hD
    have h7 : (31623 : Nat) ^ 2 = 1000014129 := by decide
    rw [h7] at h6
    have h8 := Nat.mul_le_mul_left (20 ^ (m + n)) h6
    have h9 := Nat.le_trans h8 (Nat.le_trans h5 (Nat.le_trans h3 (Nat.le_trans hXX (Nat.mul_le_mul_left 1000000000 h4))))
    rw [Nat.mul_comm 1000000000] at h9
    have := Nat.le_of_mul_le_mul_left h9 (Nat.pow_pos (by decide))
    omega
  refine ⟨Nat.le_of_not_lt fun c => ?_, Nat.le_of_not_lt fun c => ?_, by omega⟩
  · exact small (20 * 31623) (Nat.le_refl _) (by omega) (by omega)
  · exact small (20 * 31623) (Nat.le_refl _) (by omega) (by omega)
end Go.Proofs.Ytpkfjdaedaplfaa
