/- Polynomials as lists of numbers below 10007: mathematics. -/
import Derived.Test.YtijgcjpngpifnaaFld
namespace Go.Proofs.Ytijgcjpngpifnaa

/-- the n-th number, 0 behind the end -/
def nth (l : List Nat) (n : Nat) : Nat := (l[n]?).getD 0
theorem nth_lt {l : List Nat} {n : Nat} (h : n < l.length) : nth l n = l[n] := by unfold nth; rw [List.getElem?_eq_getElem h]; rfl
theorem nth_ge {l : List Nat} {n : Nat} (h : l.length ≤ n) : nth l n = 0 := by unfold nth; rw [List.getElem?_eq_none h]; rfl
theorem nth_nil (n : Nat) : nth [] n = 0 := rfl
theorem nth_ext {a b : List Nat} (hl : a.length = b.length) (h : ∀ n, n < a.length → nth a n = nth b n) : a = b := by
  apply List.ext_getElem hl
  intro n h1 h2
  rw [← nth_lt h1, ← nth_lt h2]
  exact h n h1
theorem nth_set {l : List Nat} {i : Nat} (hi : i < l.length) (x n : Nat) : nth (l.set i x) n = if n = i then x else nth l n := by
  unfold nth
  rw [List.getElem?_set]
  by_cases e : i = n
  · subst e; rw [if_pos rfl, if_pos hi, if_pos rfl]; rfl
  · rw [if_neg e, if_neg (Ne.symm e)]
theorem nth_take (l : List Nat) (m n : Nat) : nth (l.take m) n = if n < m then nth l n else 0 := by
  unfold nth
  rw [List.getElem?_take]
  split <;> rfl
theorem nth_append_right (a b : List Nat) (n : Nat) : nth (a ++ b) (a.length + n) = nth b n := by
  unfold nth; rw [List.getElem?_append_right (by omega), Nat.add_sub_cancel_left]
theorem nth_append_left (a b : List Nat) {n : Nat} (h : n < a.length) : nth (a ++ b) n = nth a n := by
  unfold nth; rw [List.getElem?_append_left h]
theorem nth_replicate (m n : Nat) : nth (List.replicate m 0) n = 0 := by
  unfold nth; rw [List.getElem?_replicate]; split <;> rfl
theorem nth_map_range (f : Nat → Nat) (m n : Nat) : nth ((List.range m).map f) n = if n < m then f n else 0 := by
  unfold nth
  rw [List.getElem?_map]
  by_cases h : n < m
  · rw [List.getElem?_range h, if_pos h]; rfl
  · rw [List.getElem?_eq_none (by simp; omega), if_neg h]; rfl

/-- numbers of the field -/
def Po (l : List Nat) : Prop := ∀ x ∈ l, x < 10007
theorem Po.nth {l : List Nat} (h : Po l) (n : Nat) : nth l n < 10007 := by
  rcases Nat.lt_or_ge n l.length with c | c
  · rw [nth_lt c]; exact h _ (List.getElem_mem c)
  · rw [nth_ge c]; decide
theorem Po.of {l : List Nat} (h : ∀ n, n < l.length → Go.Proofs.Ytijgcjpngpifnaa.nth l n < 10007) : Po l := fun x hx => by
  obtain ⟨i, hi, rfl⟩ := List.getElem_of_mem hx
  rw [← nth_lt hi]; exact h i hi
theorem Po.nil : Po [] := fun x hx => by cases hx
/-- no zero at the end -/
def Lz (l : List Nat) : Prop := l = [] ∨ nth l (l.length - 1) ≠ 0

/-- how many of the first n numbers are left when zeros at the end are left out -/
def tl (l : List Nat) : Nat → Nat
  | 0 => 0
  | n + 1 => if nth l n = 0 then tl l n else n + 1
theorem tl_le (l : List Nat) : ∀ n, tl l n ≤ n
  | 0 => Nat.le_refl _
  | n + 1 => by have := tl_le l n; unfold tl; split <;> omega
theorem tl_zero {l : List Nat} {n : Nat} (h : nth l n = 0) : tl l (n + 1) = tl l n := by conv => lhs; unfold tl; rw [if_pos h]
theorem tl_stop {l : List Nat} {n : Nat} (h : nth l n ≠ 0) : tl l (n + 1) = n + 1 := by conv => lhs; unfold tl; rw [if_neg h]
theorem tl_last (l : List Nat) : ∀ n, tl l n = 0 ∨ nth l (tl l n - 1) ≠ 0
  | 0 => .inl rfl
  | n + 1 => by
    by_cases h : nth l n = 0
    · rw [tl_zero h]; exact tl_last l n
    · rw [tl_stop h]; exact .inr h
theorem tl_above (l : List Nat) : ∀ n i, tl l n ≤ i → i < n → nth l i = 0
  | 0, i, _, h => by omega
  | n + 1, i, h1, h2 => by
    by_cases h : nth l n = 0
    · rw [tl_zero h] at h1
      rcases Nat.lt_or_ge i n with c | c
      · exact tl_above l n i h1 c
      · obtain rfl : i = n := by omega
        exact h
    · rw [tl_stop h] at h1; omega
/-- zeros at the end left out -/
def trimN (l : List Nat) : List Nat := l.take (tl l l.length)
theorem trimN_length (l : List Nat) : (trimN l).length = tl l l.length := by unfold trimN; rw [List.length_take]; have := tl_le l l.length; omega
theorem trimN_le (l : List Nat) : (trimN l).length ≤ l.length := by rw [trimN_length]; exact tl_le _ _
theorem trimN_nth (l : List Nat) (n : Nat) : nth (trimN l) n = nth l n := by
  unfold trimN
  rw [nth_take]
  by_cases h : n < tl l l.length
  · rw [if_pos h]
  · rw [if_neg h]
    rcases Nat.lt_or_ge n l.length with c | c
    · exact (tl_above l _ n (by omega) c).symm
    · exact (nth_ge c).symm
theorem trimN_lz (l : List Nat) : Lz (trimN l) := by
  rcases tl_last l l.length with h | h
  · exact .inl (List.eq_nil_of_length_eq_zero (by rw [trimN_length]; exact h))
  · refine .inr ?_
    rw [trimN_nth, trimN_length]; exact h
theorem trimN_po {l : List Nat} (h : Po l) : Po (trimN l) := fun x hx => h x (List.mem_of_mem_take hx)
/-- lists that tell the same numbers, without zeros at their ends, are the same -/
theorem lz_ext {a b : List Nat} (ha : Lz a) (hb : Lz b) (h : ∀ n, nth a n = nth b n) : a = b := by
  have hl : ∀ {a b : List Nat}, Lz a → (∀ n, nth a n = nth b n) → a.length ≤ b.length := fun {a b} ha h => by
    rcases ha with rfl | ha
    · exact Nat.zero_le _
    · rcases Nat.lt_or_ge b.length a.length with c | c
      · exact absurd (by rw [h]; exact nth_ge (by omega)) ha
      · exact c
  exact nth_ext (Nat.le_antisymm (hl ha h) (hl hb fun n => (h n).symm)) fun n _ => h n
theorem trimN_id {l : List Nat} (h : Lz l) : trimN l = l := lz_ext (trimN_lz l) h (trimN_nth l)
theorem trimN_congr {a b : List Nat} (h : ∀ n, nth a n = nth b n) : trimN a = trimN b := lz_ext (trimN_lz a) (trimN_lz b) fun n => by rw [trimN_nth, trimN_nth, h]
theorem lz_last {l : List Nat} (h : Lz l) (h0 : l ≠ []) : nth l (l.length - 1) ≠ 0 := by
  rcases h with c | c
  · exact absurd c h0
  · exact c

/-- x and k times y -/
def mdZ (x : Int) : Nat := (x % 10007).toNat
theorem mdZ_lt (x : Int) : mdZ x < 10007 := by unfold mdZ; omega
theorem mdZ_nat (x : Nat) : mdZ (x : Int) = x % 10007 := by unfold mdZ; omega
theorem mdZ_of {x y : Int} (h : x % 10007 = y % 10007) : mdZ x = mdZ y := by unfold mdZ; rw [h]
theorem mdZ_cast (x : Int) : ((mdZ x : Nat) : Int) = x % 10007 := by unfold mdZ; omega
/-- f and k times g, whatever zeros are at the end -/
def addR (f g : List Nat) (k : Int) : List Nat := (List.range (max f.length g.length)).map fun i => mdZ ((nth f i : Int) + k * (nth g i : Int))
def addL (f g : List Nat) (k : Int) : List Nat := trimN (addR f g k)
theorem addR_length (f g : List Nat) (k : Int) : (addR f g k).length = max f.length g.length := by simp [addR]
theorem addR_nth (f g : List Nat) (k : Int) (n : Nat) : nth (addR f g k) n = mdZ ((nth f n : Int) + k * (nth g n : Int)) := by
  unfold addR
  rw [nth_map_range]
  split
  · rfl
  · rw [nth_ge (l := f) (by omega), nth_ge (l := g) (by omega)]; unfold mdZ; simp
theorem addR_po (f g : List Nat) (k : Int) : Po (addR f g k) := Po.of fun n _ => by rw [addR_nth]; exact mdZ_lt _
theorem addL_nth (f g : List Nat) (k : Int) (n : Nat) : nth (addL f g k) n = mdZ ((nth f n : Int) + k * (nth g n : Int)) := by unfold addL; rw [trimN_nth, addR_nth]
theorem addL_po (f g : List Nat) (k : Int) : Po (addL f g k) := trimN_po (addR_po f g k)
theorem addL_lz (f g : List Nat) (k : Int) : Lz (addL f g k) := trimN_lz _
theorem addL_len (f g : List Nat) (k : Int) : (addL f g k).length ≤ max f.length g.length := Nat.le_trans (trimN_le _) (by rw [addR_length]; exact Nat.le_refl _)

/-- c times the first k numbers of g, added from a place on -/
def rowL (acc : List Nat) (c : Nat) (g : List Nat) (off : Nat) : Nat → List Nat
  | 0 => acc
  | k + 1 => (rowL acc c g off k).set (off + k) ((nth (rowL acc c g off k) (off + k) + nth g k * c % 10007) % 10007)
theorem rowL_length (acc : List Nat) (c : Nat) (g : List Nat) (off : Nat) : ∀ k, (rowL acc c g off k).length = acc.length
  | 0 => rfl
  | k + 1 => by unfold rowL; rw [List.length_set, rowL_length acc c g off k]
theorem rowL_nth (acc : List Nat) (c : Nat) (g : List Nat) (off : Nat) : ∀ k, off + k ≤ acc.length → ∀ n,
    nth (rowL acc c g off k) n = if off ≤ n ∧ n < off + k then (nth acc n + nth g (n - off) * c) % 10007 else nth acc n
  | 0, _, n => by rw [if_neg (by omega)]; rfl
  | k + 1, h, n => by
    unfold rowL
    rw [nth_set (by rw [rowL_length]; omega), rowL_nth acc c g off k (by omega), rowL_nth acc c g off k (by omega)]
    by_cases e : n = off + k
    · subst e
      rw [if_pos rfl, if_neg (by omega), if_pos (by omega), Nat.add_sub_cancel_left, Nat.add_mod_mod]
    · rw [if_neg e]
      by_cases h2 : off ≤ n ∧ n < off + k
      · rw [if_pos h2, if_pos (by omega)]
      · rw [if_neg h2, if_neg (by omega)]
theorem rowL_po {acc : List Nat} (h : Po acc) (c : Nat) (g : List Nat) (off k : Nat) (hk : off + k ≤ acc.length) : Po (rowL acc c g off k) := Po.of fun n _ => by
  rw [rowL_nth _ _ _ _ _ hk]
  split
  · exact Nat.mod_lt _ (by decide)
  · exact h.nth n
/-- the program's row is a sum -/
theorem rowL_addR {f g g' : List Nat} {c off : Nat} {k : Int} (hf : Po f) (hk : (k - c) % 10007 = 0) (hl : off + g.length ≤ f.length) (hg : g'.length ≤ f.length) (hs : ∀ n, nth g' n = if off ≤ n then nth g (n - off) else 0) :
    rowL f c g off g.length = addR f g' k := by
  refine nth_ext (by rw [rowL_length, addR_length]; omega) fun n _ => ?_
  rw [rowL_nth _ _ _ _ _ hl, addR_nth, hs]
  have e1 : ∀ x y : Int, (x + k * y) % 10007 = (x + c * y) % 10007 := fun x y => by
    obtain ⟨q, hq⟩ := Int.dvd_of_emod_eq_zero hk
    rw [show x + k * y = (x + c * y) + 10007 * (q * y) by rw [← Int.mul_assoc, ← hq, Int.sub_mul]; omega, Int.add_mul_emod_self_left]
  by_cases h1 : off ≤ n
  · rw [if_pos h1]
    by_cases h2 : n < off + g.length
    · rw [if_pos ⟨h1, h2⟩, mdZ_of (e1 _ _), ← mdZ_nat]
      congr 1
      rw [Int.natCast_add, Int.natCast_mul, Int.mul_comm]
    · rw [if_neg (by omega), nth_ge (l := g) (by omega), mdZ_of (e1 _ _)]
      have := hf.nth n
      rw [show ((nth f n : Int) + c * ((0 : Nat) : Int)) = (nth f n : Int) by simp, mdZ_nat, Nat.mod_eq_of_lt this]
  · rw [if_neg (by omega), if_neg h1, mdZ_of (e1 _ _)]
    have := hf.nth n
    rw [show ((nth f n : Int) + c * ((0 : Nat) : Int)) = (nth f n : Int) by simp, mdZ_nat, Nat.mod_eq_of_lt this]
theorem addR_comm (f g : List Nat) : addR f g 1 = addR g f 1 := by
  refine nth_ext (by rw [addR_length, addR_length]; omega) fun n _ => ?_
  rw [addR_nth, addR_nth]; congr 1; omega
theorem addR_congr {f g : List Nat} {k k' : Int} (h : (k - k') % 10007 = 0) : addR f g k = addR f g k' := by
  refine nth_ext (by rw [addR_length, addR_length]) fun n _ => ?_
  rw [addR_nth, addR_nth]
  apply mdZ_of
  obtain ⟨q, hq⟩ := Int.dvd_of_emod_eq_zero h
  rw [show (nth f n : Int) + k * (nth g n) = ((nth f n : Int) + k' * (nth g n)) + 10007 * (q * nth g n) by rw [← Int.mul_assoc, ← hq, Int.sub_mul]; omega, Int.add_mul_emod_self_left]

/-- a product, the first i rows of it -/
def mulT (f g : List Nat) : Nat → List Nat
  | 0 => List.replicate (f.length + g.length - 1) 0
  | i + 1 => rowL (mulT f g i) (nth f i) g i g.length
theorem mulT_length (f g : List Nat) : ∀ i, (mulT f g i).length = f.length + g.length - 1
  | 0 => by simp [mulT]
  | i + 1 => by unfold mulT; rw [rowL_length, mulT_length f g i]
theorem mulT_po (f g : List Nat) (hg : g ≠ []) : ∀ i, i ≤ f.length → Po (mulT f g i)
  | 0, _ => Po.of fun n _ => by unfold mulT; rw [nth_replicate]; decide
  | i + 1, h => by
    have h0 : 0 < g.length := List.length_pos_iff.2 hg
    unfold mulT
    exact rowL_po (mulT_po f g hg i (by omega)) _ _ _ _ (by rw [mulT_length]; omega)
theorem mulT_above (f g : List Nat) (hg : g ≠ []) : ∀ i, i ≤ f.length → ∀ n, i + g.length ≤ n + 1 → nth (mulT f g i) n = 0
  | 0, _, n, _ => by unfold mulT; exact nth_replicate _ _
  | i + 1, h, n, hn => by
    have h0 : 0 < g.length := List.length_pos_iff.2 hg
    unfold mulT
    rw [rowL_nth _ _ _ _ _ (by rw [mulT_length]; omega), if_neg (by omega)]
    exact mulT_above f g hg i (by omega) n (by omega)
def timesL (f g : List Nat) : List Nat := if f = [] ∨ g = [] then [] else mulT f g f.length
theorem timesL_none {f g : List Nat} (h : f = [] ∨ g = []) : timesL f g = [] := if_pos h
theorem timesL_some {f g : List Nat} (h1 : f ≠ []) (h2 : g ≠ []) : timesL f g = mulT f g f.length := if_neg (by rintro (c | c) <;> contradiction)
theorem timesL_length {f g : List Nat} (h1 : f ≠ []) (h2 : g ≠ []) : (timesL f g).length = f.length + g.length - 1 := by rw [timesL_some h1 h2, mulT_length]
theorem timesL_len (f g : List Nat) : (timesL f g).length ≤ f.length + g.length - 1 := by
  unfold timesL
  split
  · exact Nat.zero_le _
  · rw [mulT_length]; exact Nat.le_refl _
theorem timesL_po (f g : List Nat) : Po (timesL f g) := by
  unfold timesL
  split
  · exact Po.nil
  · rename_i h; exact mulT_po f g (fun e => h (.inr e)) _ (Nat.le_refl _)
theorem timesL_last {f g : List Nat} (h1 : f ≠ []) (h2 : g ≠ []) : nth (timesL f g) (f.length + g.length - 2) = nth g (g.length - 1) * nth f (f.length - 1) % 10007 := by
  have hf := List.length_pos_iff.2 h1
  have hg := List.length_pos_iff.2 h2
  rw [timesL_some h1 h2]
  obtain ⟨m, hm⟩ : ∃ m, f.length = m + 1 := ⟨f.length - 1, by omega⟩
  rw [hm]
  unfold mulT
  rw [rowL_nth _ _ _ _ _ (by rw [mulT_length]; omega), if_pos (by omega), mulT_above f g h2 m (by omega) _ (by omega), Nat.zero_add]
  congr 3 <;> omega
theorem timesL_lz {f g : List Nat} (pf : Po f) (pg : Po g) (hf : Lz f) (hg : Lz g) : Lz (timesL f g) := by
  by_cases h1 : f = []
  · rw [timesL_none (.inl h1)]; exact .inl rfl
  by_cases h2 : g = []
  · rw [timesL_none (.inr h2)]; exact .inl rfl
  refine .inr ?_
  have l1 := List.length_pos_iff.2 h1
  have l2 := List.length_pos_iff.2 h2
  rw [timesL_length h1 h2, show f.length + g.length - 1 - 1 = f.length + g.length - 2 by omega, timesL_last h1 h2]
  intro e
  rcases fld_zero (pg.nth _) (pf.nth _) e with c | c
  · exact lz_last hg h2 c
  · exact lz_last hf h1 c
/-- times a number -/
theorem mulT_one (f : List Nat) (b : Nat) : ∀ i, i ≤ f.length → ∀ n, nth (mulT f [b] i) n = if n < i then nth f n * b % 10007 else 0
  | 0, _, n => by unfold mulT; rw [nth_replicate, if_neg (by omega)]
  | i + 1, h, n => by
    have ih := mulT_one f b i (by omega) n
    unfold mulT
    rw [rowL_nth _ _ _ _ _ (by rw [mulT_length]; simp; omega), ih]
    simp only [List.length_singleton]
    by_cases e : n = i
    · subst e
      rw [if_pos (by omega), if_neg (by omega), if_pos (by omega), Nat.sub_self, Nat.zero_add, Nat.mul_comm]; rfl
    · rw [if_neg (by omega)]
      by_cases h3 : n < i
      · rw [if_pos h3, if_pos (by omega)]
      · rw [if_neg h3, if_neg (by omega)]
theorem scale_nth (f : List Nat) (b n : Nat) : nth (timesL f [b]) n = nth f n * b % 10007 := by
  by_cases h : f = []
  · subst h; rw [timesL_none (.inl rfl)]; simp [nth_nil]
  · rw [timesL_some h (by simp), mulT_one f b _ (Nat.le_refl _)]
    split
    · rfl
    · rw [nth_ge (l := f) (by omega)]; simp
theorem scale_addL {f : List Nat} {b : Nat} (pf : Po f) (hf : Lz f) (hb : b < 10007) (h0 : b ≠ 0) : timesL f [b] = addL [] f b := by
  refine lz_ext (timesL_lz pf (fun x hx => by rw [List.mem_singleton.1 hx]; exact hb) hf (.inr (by simpa [nth] using h0))) (addL_lz _ _ _) fun n => ?_
  rw [scale_nth, addL_nth, nth_nil, ← mdZ_nat]
  congr 1
  rw [Int.natCast_mul, Int.mul_comm]; simp

/-- the derivative, its first k numbers -/
def dervL (f : List Nat) : List Nat := (List.range (f.length - 1)).map fun i => nth f (i + 1) * (i + 1) % 10007
theorem dervL_length (f : List Nat) : (dervL f).length = f.length - 1 := by simp [dervL]
theorem dervL_nth (f : List Nat) (n : Nat) : nth (dervL f) n = nth f (n + 1) * (n + 1) % 10007 := by
  unfold dervL
  rw [nth_map_range]
  split
  · rfl
  · rw [nth_ge (l := f) (by omega)]; simp
theorem dervL_po (f : List Nat) : Po (dervL f) := Po.of fun n _ => by rw [dervL_nth]; exact Nat.mod_lt _ (by decide)
theorem dervL_lz {f : List Nat} (pf : Po f) (hf : Lz f) (hl : f.length ≤ 10007) : Lz (dervL f) := by
  by_cases h : f.length ≤ 1
  · exact .inl (List.eq_nil_of_length_eq_zero (by rw [dervL_length]; omega))
  · refine .inr ?_
    rw [dervL_length, dervL_nth, show f.length - 1 - 1 + 1 = f.length - 1 by omega]
    intro e
    rcases fld_zero (pf.nth _) (by omega) e with c | c
    · exact lz_last hf (fun e => by rw [e] at h; simp at h) c
    · omega
end Go.Proofs.Ytijgcjpngpifnaa
