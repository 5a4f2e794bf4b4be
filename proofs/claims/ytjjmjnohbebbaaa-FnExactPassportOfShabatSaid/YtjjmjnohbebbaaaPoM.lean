/- Series over the field; polynomials as series: mathematics. -/
import Derived.Test.YtjjmjnohbebbaaaPoR
namespace Go.Proofs.Ytjjmjnohbebbaaa

/-! Series: functions on the natural numbers with values in the field, convolution, Leibniz -/
abbrev Fp := Fin 10007
def Ser := Nat → Fp
def cv (a b : Ser) : Ser
  | 0 => a 0 * b 0
  | n + 1 => a 0 * b (n + 1) + cv (fun i => a (i + 1)) b n
def sT (a : Ser) : Ser := fun i => a (i + 1)
def sA (a b : Ser) : Ser := fun i => a i + b i
def sC (c : Fp) (a : Ser) : Ser := fun i => c * a i
theorem cv_zero (a b : Ser) : cv a b 0 = a 0 * b 0 := rfl
theorem cv_succ (a b : Ser) (n : Nat) : cv a b (n + 1) = a 0 * b (n + 1) + cv (sT a) b n := rfl
theorem cv_addL (b : Ser) : ∀ (n : Nat) (a a' : Ser), cv (sA a a') b n = cv a b n + cv a' b n
  | 0, a, a' => by simp only [cv_zero, sA]; grind
  | n + 1, a, a' => by
    rw [cv_succ, cv_succ, cv_succ, show sT (sA a a') = sA (sT a) (sT a') from rfl, cv_addL b n]
    simp only [sA]; grind
theorem cv_addR (b b' : Ser) : ∀ (n : Nat) (a : Ser), cv a (sA b b') n = cv a b n + cv a b' n
  | 0, a => by simp only [cv_zero, sA]; grind
  | n + 1, a => by
    rw [cv_succ, cv_succ, cv_succ, cv_addR b b' n]
    simp only [sA]; grind
theorem cv_scale (c : Fp) (b : Ser) : ∀ (n : Nat) (a : Ser), cv (sC c a) b n = c * cv a b n
  | 0, a => by simp only [cv_zero, sC]; grind
  | n + 1, a => by
    rw [cv_succ, cv_succ, show sT (sC c a) = sC c (sT a) from rfl, cv_scale c b n]
    simp only [sC]; grind
theorem cv_other : ∀ (n : Nat) (a b : Ser), cv a b (n + 1) = a (n + 1) * b 0 + cv a (sT b) n
  | 0, a, b => by rw [cv_succ, cv_zero, cv_zero]; simp only [sT]; grind
  | n + 1, a, b => by
    rw [cv_succ a b (n + 1), cv_other n (sT a) b, cv_succ a (sT b) n]
    simp only [sT]; grind
theorem cv_comm : ∀ (n : Nat) (a b : Ser), cv a b n = cv b a n
  | 0, a, b => by rw [cv_zero, cv_zero]; grind
  | n + 1, a, b => by rw [cv_succ, cv_other n b a, cv_comm n (sT a) b]; grind
theorem cv_tail (a b : Ser) : sT (cv a b) = sA (sC (a 0) (sT b)) (cv (sT a) b) := by funext n; rfl
theorem cv_assoc (c : Ser) : ∀ (n : Nat) (a b : Ser), cv (cv a b) c n = cv a (cv b c) n
  | 0, a, b => by simp only [cv_zero]; grind
  | n + 1, a, b => by
    rw [cv_succ, cv_tail, cv_addL, cv_scale, cv_assoc c n (sT a) b, cv_succ a, cv_zero, cv_succ b c n]
    grind
theorem cvC (a b : Ser) : cv a b = cv b a := funext fun n => cv_comm n a b
theorem cvA (a b c : Ser) : cv (cv a b) c = cv a (cv b c) := funext fun n => cv_assoc c n a b
theorem cvDL (a a' b : Ser) : cv (sA a a') b = sA (cv a b) (cv a' b) := funext fun n => cv_addL b n a a'
theorem cvDR (a b b' : Ser) : cv a (sA b b') = sA (cv a b) (cv a b') := funext fun n => cv_addR b b' n a
theorem cvS (c : Fp) (a b : Ser) : cv (sC c a) b = sC c (cv a b) := funext fun n => cv_scale c b n a
theorem cvSR (c : Fp) (a b : Ser) : cv a (sC c b) = sC c (cv a b) := by rw [cvC, cvS, cvC]
/-- a number, in the field -/
def nf (n : Nat) : Fp := Fin.ofNat 10007 n
theorem nf_val (n : Nat) : (nf n).val = n % 10007 := rfl
theorem nf_mod (n : Nat) : nf (n % 10007) = nf n := Fin.ext (by rw [nf_val, nf_val, Nat.mod_mod])
theorem nf_add (a b : Nat) : nf (a + b) = nf a + nf b := Fin.ext (by rw [Fin.val_add, nf_val, nf_val, nf_val, ← Nat.add_mod])
theorem nf_mul (a b : Nat) : nf (a * b) = nf a * nf b := Fin.ext (by rw [Fin.val_mul, nf_val, nf_val, nf_val, ← Nat.mul_mod])
theorem nf_zero : nf 0 = 0 := rfl
theorem nf_one : nf 1 = 1 := rfl
theorem nf_inj {a b : Nat} (ha : a < 10007) (hb : b < 10007) (h : nf a = nf b) : a = b := by
  have := congrArg Fin.val h
  rwa [nf_val, nf_val, Nat.mod_eq_of_lt ha, Nat.mod_eq_of_lt hb] at this
/-- n times the n-th -/
def sTh (a : Ser) : Ser := fun i => nf i * a i
theorem castS (n : Nat) : nf (n + 1) = nf n + 1 := by rw [nf_add, nf_one]
theorem cv_theta : ∀ (n : Nat) (a b : Ser), nf n * cv a b n = cv (sTh a) b n + cv a (sTh b) n
  | 0, a, b => by simp only [cv_zero, sTh, nf_zero]; grind
  | n + 1, a, b => by
    have e : sT (sTh a) = sA (sTh (sT a)) (sT a) := by
      funext i
      simp only [sT, sTh, sA, castS]
      grind
    have ih := cv_theta n (sT a) b
    rw [cv_succ, cv_succ, cv_succ, e, cv_addL]
    have e1 : sTh a 0 = 0 := by simp only [sTh, nf_zero]; grind
    have e2 : sTh b (n + 1) = (nf n + 1) * b (n + 1) := by simp only [sTh, castS]
    rw [e1, e2, castS]
    grind
/-- the derivative -/
def sD (a : Ser) : Ser := sT (sTh a)
theorem sD_cv (a b : Ser) : sD (cv a b) = sA (cv (sD a) b) (cv a (sD b)) := by
  have h : sTh (cv a b) = sA (cv (sTh a) b) (cv a (sTh b)) := funext fun n => cv_theta n a b
  unfold sD
  rw [h]
  funext n
  show cv (sTh a) b (n + 1) + cv a (sTh b) (n + 1) = cv (sT (sTh a)) b n + cv a (sT (sTh b)) n
  rw [cv_succ, cv_other n a (sTh b)]
  have e1 : sTh a 0 = 0 := by simp only [sTh, nf_zero]; grind
  have e2 : sTh b 0 = 0 := by simp only [sTh, nf_zero]; grind
  rw [e1, e2]
  grind

/-! lists as series -/
def sL (l : List Nat) : Ser := fun n => nf (nth l n)
def s0 : Ser := fun _ => 0
def sX (i : Nat) : Ser := fun n => if n = i then 1 else 0
theorem cv_s0 (b : Ser) : ∀ n, cv s0 b n = 0
  | 0 => by simp only [cv_zero, s0]; grind
  | n + 1 => by rw [cv_succ, show sT s0 = s0 from rfl, cv_s0 b n]; simp only [s0]; grind
theorem cv0 (b : Ser) : cv s0 b = s0 := funext fun n => cv_s0 b n
theorem cv_sX (v : Ser) : ∀ i n, cv (sX i) v n = if i ≤ n then v (n - i) else 0
  | 0, 0 => by rw [cv_zero]; simp [sX]; grind
  | 0, n + 1 => by
    have e : sT (sX 0) = s0 := by funext i; simp [sT, sX, s0]
    rw [cv_succ, e, cv_s0]; simp [sX]; grind
  | i + 1, 0 => by rw [cv_zero]; simp [sX]; grind
  | i + 1, n + 1 => by
    have e : sT (sX (i + 1)) = sX i := by funext k; simp [sT, sX]
    rw [cv_succ, e, cv_sX v i n]
    have e2 : sX (i + 1) 0 = 0 := by simp [sX]
    rw [e2, Nat.add_sub_add_right]
    by_cases h : i ≤ n
    · rw [if_pos h, if_pos (by omega)]; grind
    · rw [if_neg h, if_neg (by omega)]; grind
theorem cvX0 (v : Ser) : cv (sX 0) v = v := by funext n; rw [cv_sX, if_pos (Nat.zero_le _), Nat.sub_zero]
theorem sL_nil : sL [] = s0 := rfl
theorem sL_one : sL [1] = sX 0 := by
  funext n
  cases n with
  | zero => rfl
  | succ n => simp [sL, sX, nth, nf_zero]
theorem sL_inj {a b : List Nat} (pa : Po a) (pb : Po b) (za : Lz a) (zb : Lz b) (h : sL a = sL b) : a = b :=
  lz_ext za zb fun n => nf_inj (pa.nth n) (pb.nth n) (congrFun h n)
theorem sL_trim (l : List Nat) : sL (trimN l) = sL l := by funext n; simp only [sL, trimN_nth]
theorem nf_mdZ (x : Int) (y : Nat) (h : x % 10007 = (y : Int) % 10007) : nf (mdZ x) = nf y := by
  rw [show mdZ x = y % 10007 by unfold mdZ; omega, nf_mod]
theorem sL_add (f g : List Nat) : sL (addL f g 1) = sA (sL f) (sL g) := by
  funext n
  simp only [sL, sA, addL_nth]
  rw [← nf_add]
  exact nf_mdZ _ _ (by omega)
theorem sL_sub (f g : List Nat) (n : Nat) : sL (addL f g (-1)) n = sL f n - sL g n := by
  simp only [sL, addL_nth]
  have h : nf (mdZ ((nth f n : Int) + -1 * (nth g n : Int))) + nf (nth g n) = nf (nth f n) := by
    rw [← nf_add]
    have : nf (mdZ ((nth f n : Int) + -1 * (nth g n : Int)) + nth g n) = nf (nth f n) := by
      rw [← nf_mod, ← nf_mod (nth f n)]
      congr 1
      have := mdZ_cast ((nth f n : Int) + -1 * (nth g n : Int))
      omega
    exact this
  grind
theorem sL_row (acc : List Nat) (c : Nat) (g : List Nat) (off : Nat) (hl : off + g.length ≤ acc.length) : sL (rowL acc c g off g.length) = sA (sL acc) (sC (nf c) (cv (sX off) (sL g))) := by
  funext n
  simp only [sL, sA, sC]
  rw [rowL_nth _ _ _ _ _ hl, cv_sX]
  by_cases h1 : off ≤ n
  · rw [if_pos h1]
    by_cases h2 : n < off + g.length
    · rw [if_pos ⟨h1, h2⟩, nf_mod, nf_add, nf_mul]
      show _ = nf (nth acc n) + nf c * nf (nth g (n - off))
      grind
    · rw [if_neg (fun h => h2 h.2)]
      show _ = nf (nth acc n) + nf c * nf (nth g (n - off))
      rw [nth_ge (l := g) (by omega), nf_zero]; grind
  · rw [if_neg (fun h => h1 h.1), if_neg h1]; grind
theorem sL_mulT (f g : List Nat) (h0 : g ≠ []) : ∀ i, i ≤ f.length → sL (mulT f g i) = cv (sL (f.take i)) (sL g)
  | 0, _ => by
    rw [List.take_zero, sL_nil, cv0]
    funext n
    simp only [sL, mulT, nth_replicate, s0, nf_zero]
  | i + 1, h => by
    have l0 := List.length_pos_iff.2 h0
    have e : mulT f g (i + 1) = rowL (mulT f g i) (nth f i) g i g.length := rfl
    have e2 : sL (f.take (i + 1)) = sA (sL (f.take i)) (sC (nf (nth f i)) (sX i)) := by
      funext n
      simp only [sL, sA, sC, sX, nth_take]
      by_cases h1 : n = i
      · subst h1
        rw [if_pos (by omega), if_neg (by omega), if_pos rfl, nf_zero]; grind
      · rw [if_neg h1]
        by_cases h2 : n < i
        · rw [if_pos (by omega), if_pos h2]; grind
        · rw [if_neg (by omega), if_neg h2]; grind
    rw [e, sL_row _ _ _ _ (by rw [mulT_length]; omega), sL_mulT f g h0 i (by omega), e2, cvDL, cvS]
theorem sL_times (f g : List Nat) : sL (timesL f g) = cv (sL f) (sL g) := by
  by_cases h1 : f = []
  · rw [timesL_none (.inl h1), h1, sL_nil, cv0]
  by_cases h2 : g = []
  · rw [timesL_none (.inr h2), h2, cvC, sL_nil, cv0]
  rw [timesL_some h1 h2, sL_mulT f g h2 _ (Nat.le_refl _), List.take_length]
theorem sL_derv (f : List Nat) : sL (dervL f) = sD (sL f) := by
  funext n
  show nf (nth (dervL f) n) = nf (n + 1) * nf (nth f (n + 1))
  rw [dervL_nth, nf_mod, nf_mul]; grind
/-- a polynomial, trimmed -/
def PL (l : List Nat) : Prop := Po l ∧ Lz l
theorem PL.times {a b : List Nat} (ha : PL a) (hb : PL b) : PL (timesL a b) := ⟨timesL_po _ _, timesL_lz ha.1 hb.1 ha.2 hb.2⟩
theorem PL.add (a b : List Nat) (k : Int) : PL (addL a b k) := ⟨addL_po _ _ _, addL_lz _ _ _⟩
theorem PL.nil : PL [] := ⟨Po.nil, .inl rfl⟩
theorem PL.one : PL [1] := ⟨one_po (by decide), .inr (by decide)⟩
theorem PL.con {c : Nat} (h : c < 10007) (off : Nat) : PL (trimN (List.replicate off 0 ++ [c])) :=
  ⟨trimN_po fun x hx => by
    rcases List.mem_append.1 hx with k | k
    · rw [(List.mem_replicate.1 k).2]; decide
    · rw [List.mem_singleton.1 k]; exact h, trimN_lz _⟩
theorem sL_con (c off : Nat) : sL (trimN (List.replicate off 0 ++ [c])) = sC (nf c) (sX off) := by
  rw [sL_trim]
  funext n
  simp only [sL, sC, sX]
  rcases Nat.lt_trichotomy n off with h | h | h
  · rw [nth_append_left _ _ (by simpa using h), nth_replicate, if_neg (by omega), nf_zero]; grind
  · subst h
    have := nth_append_right (List.replicate n 0) [c] 0
    rw [List.length_replicate, Nat.add_zero] at this
    rw [this, if_pos rfl]
    show nf c = _
    grind
  · rw [nth_ge (by simp; omega), if_neg (by omega), nf_zero]; grind
theorem cancel {y d : List Nat} (hy : PL y) (hd : PL d) (h0 : d ≠ []) (h : cv (sL y) (sL d) = s0) : y = [] := by
  have e : timesL y d = [] := sL_inj (timesL_po _ _) Po.nil (timesL_lz hy.1 hd.1 hy.2 hd.2) (.inl rfl) (by rw [sL_times, h, sL_nil])
  by_cases h1 : y = []
  · exact h1
  · exfalso
    have := timesL_length h1 h0
    have l1 := List.length_pos_iff.2 h1
    have l2 := List.length_pos_iff.2 h0
    rw [e] at this
    simp at this
    omega
end Go.Proofs.Ytjjmjnohbebbaaa
