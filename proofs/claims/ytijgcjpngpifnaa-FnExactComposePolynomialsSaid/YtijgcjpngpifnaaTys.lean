/- The types of a number: mathematics; append of one list to another. -/
import Derived.Test.YtijgcjpngpifnaaTyW
import Derived.Test.YtijgcjpngpifnaaHS3
import Derived.Test.YtijgcjpngpifnaaInts
namespace Go.Proofs.Ytijgcjpngpifnaa
open Go.RowKit

def typF : Nat → Nat → Nat → List (List Nat)
  | 0, _, _ => [[]]
  | f + 1, n, g => if n = 0 then [[]] else (List.range (min n g)).flatMap fun i => (typF f (n - (i + 1)) (i + 1)).map fun r => (i + 1) :: r
theorem flatMap_same {α β : Type} {l : List α} {f g : α → List β} (h : ∀ a ∈ l, f a = g a) : l.flatMap f = l.flatMap g := by
  induction l with
  | nil => rfl
  | cons a l ih => rw [List.flatMap_cons, List.flatMap_cons, h a (by simp), ih fun b hb => h b (by simp [hb])]
theorem typF_more : ∀ f n g, n ≤ f → typF (f + 1) n g = typF f n g
  | 0, n, g, h => by
    obtain rfl : n = 0 := by omega
    rfl
  | f + 1, n, g, h => by
    show (if n = 0 then [[]] else _) = (if n = 0 then [[]] else _)
    by_cases h0 : n = 0
    · rw [if_pos h0, if_pos h0]
    · rw [if_neg h0, if_neg h0]
      exact flatMap_same fun i hi => by rw [typF_more f _ _ (by have := List.mem_range.1 hi; omega)]
/-- the types of n with numbers of at most g -/
def typ (n g : Nat) : List (List Nat) := typF 16 n g
theorem typ_zero (g : Nat) : typ 0 g = [[]] := rfl
/-- those whose first number is at most x -/
def tyP (n x : Nat) : List (List Nat) := (List.range x).flatMap fun i => (typ (n - (i + 1)) (i + 1)).map fun r => (i + 1) :: r
theorem tyP_succ (n x : Nat) : tyP n (x + 1) = tyP n x ++ (typ (n - (x + 1)) (x + 1)).map fun r => (x + 1) :: r := by
  unfold tyP
  rw [List.range_succ, List.flatMap_append, List.flatMap_cons, List.flatMap_nil, List.append_nil]
theorem typ_all {n g : Nat} (h1 : 1 ≤ n) (h2 : n ≤ 16) : typ n g = tyP n (min n g) := by
  unfold typ tyP
  show (if n = 0 then [[]] else _) = _
  rw [if_neg (by omega)]
  refine flatMap_same fun i hi => ?_
  have := List.mem_range.1 hi
  rw [show typ (n - (i + 1)) (i + 1) = typF 15 (n - (i + 1)) (i + 1) from typF_more 15 _ _ (by omega)]
theorem tyP_mono (n x : Nat) : ∀ j, (tyP n x).length ≤ (tyP n (x + j)).length
  | 0 => Nat.le_refl _
  | j + 1 => Nat.le_trans (tyP_mono n x j) (by rw [← Nat.add_assoc, tyP_succ, List.length_append]; omega)
theorem typ_bd {n g : Nat} (hn : n ≤ 16) (hg : g ≤ 16) : (typ n g).length ≤ 300 ∧ ∀ l ∈ typ n g, l.length ≤ 16 := by
  have h : ((List.range 17).all fun n => (List.range 17).all fun g => decide ((typ n g).length ≤ 300) && (typ n g).all fun l => decide (l.length ≤ 16)) = true := by decide +kernel
  have h2 := List.all_eq_true.1 (List.all_eq_true.1 h n (List.mem_range.2 (by omega))) g (List.mem_range.2 (by omega))
  rw [Bool.and_eq_true] at h2
  exact ⟨of_decide_eq_true h2.1, fun l hl => of_decide_eq_true (List.all_eq_true.1 h2.2 l hl)⟩
theorem tyP_bd {n g x : Nat} (h1 : 1 ≤ n) (hn : n ≤ 16) (hg : g ≤ 16) (hx : x ≤ min n g) : (tyP n x).length ≤ 300 := by
  have h := tyP_mono n x (min n g - x)
  rw [show x + (min n g - x) = min n g by omega, ← typ_all h1 hn] at h
  have := (typ_bd hn hg).1
  omega

theorem set_same' {α : Type _} {l : List α} {i : Nat} {a : α} (h : l[i]? = some a) : l.set i a = l := by
  apply List.ext_getElem?
  intro j
  rw [List.getElem?_set]
  split
  · rename_i e; subst e
    obtain ⟨h1, h2⟩ := List.getElem?_eq_some_iff.1 h
    rw [if_pos h1, h]
  · rfl
theorem run_append_none' {w : World} (t ty e : TypeId) (i : TypeInfo) (ht : Try.prog.underlying t = some (.slice e)) (hi : Try.prog.info? e = some i) (A : Option Addr) (n c : Nat) (h : n ≤ c) :
    (Builtin.append_ #[t, t] ty #[.slice A n c, .slice none 0 0]).run Try.prog w = .ok (.slice A n c) w := by
  cases A <;> simp [Builtin.append_, run_underlying ht, sizeOf, typeInfo, hi, Builtin.lenOf, Builtin.firstCells, h, storeCells]
theorem appIz' {ops : Array Oper} {rest : List Oper} {o : Oper} {a : Act} {Q : Exit → Act → World → Prop} {w0 w : World} {L : List Part} (H : Holds w0 w L) (k : Nat) {v : Value} {l : List Nat} (hk : L[k]? = some (pInts v l))
    (ad : Addr) (c : Nat) (news : List Nat) (hc : ∀ j u, (nums news)[j]? = some u → w.cell? (ad.add j) = some u) (hb : l.length + news.length ≤ 1000000)
    (hgd : o.guard = none) (s x : Operand)
    (ho : o.op = .call { callee := .builtin .append, args := #[s, x], argTypes := #[22, 22] })
    (hs : a.eval s = v) (hx : a.eval x = .slice (some ad) news.length c)
    (h : ∀ v' w', Holds w0 w' (L.set k (pInts v' (l ++ news))) → wpList Try.prog ops Q rest (a.put o.dst v') w') : wpList Try.prog ops Q (o :: rest) a w := by
  obtain ⟨i0, hi, hz0, hz1, hz2⟩ := info_parts info64
  refine appH (P := Try.prog) hgd s x 22 ho 2 i0 (.int .i64 0) 1 8 Try.underlying22 hi hz0 hz1 hz2 rfl (by decide) v l.length (nums l) hs H k hk ad news.length c (nums news) hx
    (by rw [nums_length]; omega) hc nums_one (by unfold maxLen; omega) (by omega) fun v' w' h1 => h v' w' ?_
  unfold pInts at *
  have e : nums (l ++ news) = nums l ++ nums news := by unfold nums; simp
  rw [List.length_append, e]
  exact h1

/-- a list at the end of a list -/
theorem appIv {ops : Array Oper} {rest : List Oper} {o : Oper} {a : Act} {Q : Exit → Act → World → Prop} {w0 w : World} {L : List Part} (H : Holds w0 w L) (k : Nat) {v : Value} {l : List Nat} (hk : L[k]? = some (pInts v l))
    {u : Value} {l2 : List Nat} (hu : (pInts u l2).ok w) (hb : l.length + l2.length ≤ 1000000) (hgd : o.guard = none) (s x : Operand)
    (ho : o.op = .call { callee := .builtin .append, args := #[s, x], argTypes := #[22, 22] })
    (hs : a.eval s = v) (hx : a.eval x = u)
    (h : ∀ v' w', Holds w0 w' (L.set k (pInts v' (l ++ l2))) → wpList Try.prog ops Q rest (a.put o.dst v') w') : wpList Try.prog ops Q (o :: rest) a w := by
  rcases hu.2 with ⟨rfl, e⟩ | ⟨g, cap, cur, rfl, hB, hh, h1, h2, h3, h4⟩
  · have e2 : l2 = [] := List.eq_nil_of_length_eq_zero e
    subst e2
    obtain ⟨i0, hi, hz0, hz1, hz2⟩ := info_parts info64
    have hv : ∃ A c, v = .slice A l.length c ∧ l.length ≤ c := by
      rcases (H.row k hk).2 with ⟨rfl, e⟩ | ⟨g, cap, cur, rfl, _, _, h1, _⟩
      · exact ⟨none, 0, by rw [e], by omega⟩
      · exact ⟨_, cap, rfl, h1⟩
    obtain ⟨A, c, rfl, hc⟩ := hv
    have hr := exec_append (w := w) (t := 22) ho hs hx (run_append_none' (w := w) _ _ _ i0 Try.underlying22 hi A l.length c hc)
    refine wpList_plain hgd fun _ hK => ?_
    unfold Oper.wp
    rw [hr]
    refine hK _ _ (h _ _ ?_)
    rw [List.append_nil, set_same' hk]
    exact H
  · refine appIz' H k hk ⟨g, 0, none⟩ cap l2 (fun j u hu => ?_) hb hgd s x ho hs hx h
    have : ((⟨g, 0, none⟩ : Addr).add j) = ⟨g, j, none⟩ := by simp [Addr.add]; exact Eq.symm
    have hj : j < l2.length * 1 := by
      rcases Nat.lt_or_ge j (l2.length * 1) with c | c
      · exact c
      · rw [List.getElem?_eq_none (by rw [nums_length]; omega)] at hu; cases hu
    rw [this, cell_of_cells, cellsOf_heap hh, ← Array.getElem?_toList]
    rw [← h4, List.getElem?_take_of_lt hj] at hu
    exact hu

set_option maxRecDepth 100000 in
set_option maxHeartbeats 1000000 in
/-- a copy of a list -/
theorem ownCopy_any (v : Value) (l : List Nat) (hl : l.length ≤ 100000) (w : World) (hv : (pInts v l).ok w) :
    Calls Try.prog 89 #[v] w fun e w' => ∃ u, e = .returned u ∧ Holds w w' [pInts u l] := by
  obtain ⟨A, c, rfl⟩ := own_slice hv
  have H1 := (Holds.start w).rowNew #[] 2 1 0 w.heap.size rfl rfl (by decide)
  have hv2 : (pInts (.slice A l.length c) l).ok (w.alloc (.cells #[] 2)) := (pInts (.slice A l.length c) l).keep _ _ hv fun g hg => (below1 w _).block g ((pInts (.slice A l.length c) l).lt _ _ hv hg)
  have HV := hide hv2; clear hv hv2
  go_enter Try.func89, Try.ntmps89
  go_wp2_with (at_builtin; refine appIv (l := []) H1 0 rfl HV.out (by simp; omega) rfl _ _ rfl rfl rfl ?_)
  intro v' w' h2
  have h3 : Holds w w' [pInts v' l] := h2
  go_wp2
  go_ret
  exact ⟨_, rfl, h3⟩
end Go.Proofs.Ytijgcjpngpifnaa
