/- Rows of permutations: a part each; append of one, load of one. -/
import Derived.Test.YtjhpkibeddnbfaaAppH
import Derived.Test.YtjhpkibeddnbfaaBld
import Derived.Test.YtjhpkibeddnbfaaHS2
namespace Go.Proofs.Ytjhpkibeddnbfaa
open Go.RowKit

def plB (l : List (Nat → Nat)) : List Value := l.flatMap fun p => (av p).toList
theorem av_len (p : Nat → Nat) : (av p).toList.length = 16 := by rw [Array.length_toList, av_size]
theorem plB_cons (p : Nat → Nat) (l : List (Nat → Nat)) : plB (p :: l) = (av p).toList ++ plB l := rfl
theorem plB_length (l : List (Nat → Nat)) : (plB l).length = l.length * 16 := by
  induction l with
  | nil => rfl
  | cons p l ih => rw [plB_cons, List.length_append, ih, av_len, List.length_cons, Nat.succ_mul]; omega
theorem plB_append (l l' : List (Nat → Nat)) : plB (l ++ l') = plB l ++ plB l' := by unfold plB; simp
theorem plB_one {l : List (Nat → Nat)} : ∀ u ∈ plB l, u.oneCell' = true := by
  intro u hu
  unfold plB at hu
  obtain ⟨p, _, hp⟩ := List.mem_flatMap.1 hu
  have := Array.all_eq_true_iff_forall_mem.1 (av_cells p) u (by simpa using hp)
  exact this
theorem plB_at {l : List (Nat → Nat)} {k : Nat} (hk : k < l.length) {i : Nat} (hi : i < 16) : (plB l)[k * 16 + i]? = some (.int .u8 (l[k] i : Nat)) := by
  induction l generalizing k with
  | nil => simp at hk
  | cons p l ih =>
    rw [plB_cons]
    rcases k with _ | k
    · rw [Nat.zero_mul, Nat.zero_add, List.getElem?_append_left (by rw [av_len]; exact hi), Array.getElem?_toList, av_get _ hi]; rfl
    · rw [List.getElem?_append_right (by rw [av_len]; omega), av_len, show (k + 1) * 16 + i - 16 = k * 16 + i by omega]
      exact ih (k := k) (by simpa using hk)
theorem plB_ext {l : List (Nat → Nat)} {cur : Array Value} (h : cur.toList.take (l.length * 16) = plB l) {k : Nat} (hk : k < l.length) : cur.extract (k * 16) (k * 16 + 16) = av l[k] := by
  have hlen : l.length * 16 ≤ cur.size := by
    have h1 := congrArg List.length h
    rw [plB_length, List.length_take] at h1
    have h2 : cur.toList.length = cur.size := Array.length_toList
    rw [← h2, ← h1]
    exact Nat.min_le_right _ _
  have hk16 : k * 16 + 16 ≤ l.length * 16 := by omega
  apply Array.ext_getElem?
  intro i
  rw [Array.getElem?_extract]
  by_cases c : i < 16
  · rw [if_pos (by omega), av_get _ c]
    have h1 := plB_at hk c
    rw [← h, List.getElem?_take_of_lt (by omega), Array.getElem?_toList] at h1
    exact h1
  · rw [if_neg (by omega), Array.getElem?_eq_none (by rw [av_size]; omega)]
theorem infoPlc : (Try.prog.info? 28).map (fun i => (i.zero, i.size, i.bytes)) = some (some (.agg #[.int .u8 0, .int .u8 0, .int .u8 0, .int .u8 0, .int .u8 0, .int .u8 0, .int .u8 0, .int .u8 0, .int .u8 0, .int .u8 0, .int .u8 0, .int .u8 0, .int .u8 0, .int .u8 0, .int .u8 0, .int .u8 0]), 16, 16) := by kernel_rfl
/-- a row of permutations, its part -/
def pPl (v : Value) (l : List (Nat → Nat)) : Part := pRow v 28 16 l.length (plB l)
theorem Holds.plForm {w0 w : World} {L : List Part} (h : Holds w0 w L) (i : Nat) {v : Value} {l : List (Nat → Nat)} (hi : L[i]? = some (pPl v l)) : ∃ A c, v = .slice A l.length c := own_slice (h.row i hi)
theorem row_extract {w : World} {B : Nat} {v : Value} {l : List (Nat → Nat)} (h : w.ownsRow B 28 16 v l.length (plB l)) {k : Nat} (hk : k < l.length) :
    ∃ g c, v = .slice (some ⟨g, 0, none⟩) l.length c ∧ B ≤ g ∧ g < w.heap.size ∧ (cellsOf w g).extract (k * 16) (k * 16 + 16) = av l[k] := by
  rcases h.2 with ⟨_, e⟩ | ⟨g, cap, cur, rfl, hB, hh, h1, h2, h3, h4⟩
  · omega
  · exact ⟨g, cap, rfl, hB, lt_of_some hh, by rw [cellsOf_heap hh]; exact plB_ext h4 hk⟩
theorem run_loadR {w : World} {g o : Nat} {p : Nat → Nat} (h : (cellsOf w g).extract o (o + 16) = av p) : (loadT 28 (.pointer (some ⟨g, o, none⟩))).run Try.prog w = .ok (.value (.agg (av p))) w := run_load_mid aggP h (av_size _)
theorem Holds.plAt {w0 w : World} {L : List Part} (h : Holds w0 w L) (i : Nat) {v : Value} {l : List (Nat → Nat)} (hi : L[i]? = some (pPl v l)) {k : Nat} (hk : k < l.length) :
    ∃ g c, v = .slice (some ⟨g, 0, none⟩) l.length c ∧ g < w.heap.size ∧ (loadT 28 (.pointer (some ⟨g, k * 16, none⟩))).run Try.prog w = .ok (.value (.agg (av l[k]))) w := by
  obtain ⟨g, c, h1, _, h2, h3⟩ := row_extract (h.row i hi) hk
  exact ⟨g, c, h1, h2, run_loadR h3⟩
/-- one permutation laid for an append -/
def buildSlP (n : Nat) (ps : Array (Nat × Value)) : Sem Next := do pure (.value (← Instr.buildSlice 25 n ps))
@[go_sem ↓] theorem exec_buildSlP (ρ : Operand → Value) (dst : Option Tmp) (n : Nat) (parts : Array (Nat × Operand)) (ty : TypeId) (pos : String) (after : Array Edge) (guard : Option (Nat × Bool)) :
    execOp ρ { dst, op := .buildSlice 25 n parts, type := ty, pos, after, guard } = buildSlP n (parts.map fun (i, x) => (i, ρ x)) := rfl
theorem fillP (p : Nat → Nat) (cs : Array Value) (hcs : cs.size = 16) : Instr.fill (fun i => some (i * 16, 16)) cs [(0, .agg (av p))] = some (av p) := by
  simp only [Instr.fill, Value.cells, av_size, hcs, splice_eq]
  rw [if_neg (by simp)]
  congr 1
  apply Array.ext_getElem?
  intro i
  rw [foldset, hcs, av_len, Array.getElem?_toList]
  by_cases c : i < 16
  · rw [if_pos (by omega)]; congr 1
  · rw [if_neg (by omega), Array.getElem?_eq_none (by rw [hcs]; omega), Array.getElem?_eq_none (by rw [av_size]; omega)]
@[go_sem] theorem run_bslP (p : Nat → Nat) (w : World) : (buildSlP 1 #[(0, .agg (av p))]).run Try.prog w = .ok (.value (.slice (some ⟨w.heap.size, 0, none⟩) 1 1)) (w.alloc (.cells (av p) 28)) := by
  obtain ⟨i0, hi, hz0, hz1, _⟩ := info_parts infoPlc
  have hsz : ¬ (1 * i0.size > 2 ^ 24) := by rw [hz1]; decide
  have hnz : ¬ (1 * i0.size = 0) := by rw [hz1]; decide
  have hff : ∀ cs : Array Value, cs.size = 16 → Instr.fill (fun i => some (i * i0.size, i0.size)) cs [(0, .agg (av p))] = some (av p) := fun cs h => by rw [hz1]; exact fillP p cs h
  simp only [buildSlP, Instr.buildSlice, run_underlying Try.underlying25, sizeOf, typeInfo, hi, zeroValue, hz0, Sem.run_bind, Sem.run_pure, Result.andThen_ok, run_program, hsz, hnz, if_false]
  rw [hff _ (by simp [hz1])]
  rfl
@[go_sem] theorem run_bslP0 (w : World) : (buildSlP 0 #[]).run Try.prog w = .ok (.value (.slice (some ⟨w.heap.size, 0, none⟩) 0 0)) (w.alloc (.cells #[] 28)) := by
  obtain ⟨i0, hi, hz0, hz1, _⟩ := info_parts infoPlc
  simp [buildSlP, Instr.buildSlice, run_underlying Try.underlying25, sizeOf, typeInfo, hi, Instr.fill, newRow, Array.range_zero']
/-- one permutation more -/
theorem appPl {ops : Array Oper} {rest : List Oper} {o : Oper} {a : Act} {Q : Exit → Act → World → Prop} {w0 w : World} {L : List Part} (H : Holds w0 w L) (k : Nat) {v : Value} {l : List (Nat → Nat)} (hk : L[k]? = some (pPl v l))
    (g : Nat) (p : Nat → Nat) (t : TypeId) (hc : w.heap[g]? = some (.cells (av p) t (0, 0))) (hb : l.length ≤ 100000)
    (hgd : o.guard = none) (s x : Operand)
    (ho : o.op = .call { callee := .builtin .append, args := #[s, x], argTypes := #[25, 25] })
    (hs : a.eval s = v) (hx : a.eval x = .slice (some ⟨g, 0, none⟩) 1 1)
    (h : ∀ v' w', Holds w0 w' (L.set k (pPl v' (l ++ [p]))) → wpList Try.prog ops Q rest (a.put o.dst v') w') : wpList Try.prog ops Q (o :: rest) a w := by
  obtain ⟨i0, hi, hz0, hz1, hz2⟩ := info_parts infoPlc
  refine appH (P := Try.prog) hgd s x 25 ho 28 i0 _ 16 16 Try.underlying25 hi hz0 hz1 hz2 rfl (by decide) v l.length (plB l) hs H k hk ⟨g, 0, none⟩ 1 1 (av p).toList hx
    (by rw [av_len]) (fun j u hu => ?_) (fun u hu => plB_one (l := [p]) u (by unfold plB; simpa using hu)) (by unfold maxLen; omega) (by omega) fun v' w' h1 => h v' w' ?_
  · have : ((⟨g, 0, none⟩ : Addr).add j) = ⟨g, j, none⟩ := by simp [Addr.add]; exact Eq.symm
    rw [this, cell_of_cells, cellsOf_heap hc]
    simpa using hu
  · unfold pPl at *
    have e : plB (l ++ [p]) = plB l ++ (av p).toList := by rw [plB_append]; unfold plB; simp
    rw [List.length_append, e]
    exact h1
theorem run_appPl {o : Oper} {a : Act} {w0 w : World} {L : List Part} (H : Holds w0 w L) (k : Nat) {v : Value} {l : List (Nat → Nat)} (hk : L[k]? = some (pPl v l))
    (g : Nat) (p : Nat → Nat) (t : TypeId) (hc : w.heap[g]? = some (.cells (av p) t (0, 0))) (hb : l.length ≤ 100000) (s x : Operand)
    (ho : o.op = .call { callee := .builtin .append, args := #[s, x], argTypes := #[25, 25] })
    (hs : a.eval s = v) (hx : a.eval x = .slice (some ⟨g, 0, none⟩) 1 1) :
    ∃ v' w', (execOp a.eval o).run Try.prog w = .ok (.value v') w' ∧ Holds w0 w' (L.set k (pPl v' (l ++ [p]))) := by
  obtain ⟨i0, hi, hz0, hz1, hz2⟩ := info_parts infoPlc
  obtain ⟨v', w', h1, h2, _⟩ := run_appH (P := Try.prog) (w := w) 25 o.type 28 i0 _ 16 16 Try.underlying25 hi hz0 hz1 hz2 rfl (by decide) v l.length (plB l) H k hk ⟨g, 0, none⟩ 1 1 (av p).toList
    (by rw [av_len]) (fun j u hu => by
      have : ((⟨g, 0, none⟩ : Addr).add j) = ⟨g, j, none⟩ := by simp [Addr.add]; exact Eq.symm
      rw [this, cell_of_cells, cellsOf_heap hc]
      simpa using hu) (fun u hu => plB_one (l := [p]) u (by unfold plB; simpa using hu)) (by unfold maxLen; omega) (by omega)
  refine ⟨v', w', exec_append ho hs hx h1, ?_⟩
  unfold pPl at *
  have e : plB (l ++ [p]) = plB l ++ (av p).toList := by rw [plB_append]; unfold plB; simp
  rw [List.length_append, e]
  exact h2
end Go.Proofs.Ytjhpkibeddnbfaa
