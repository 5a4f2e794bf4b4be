/- Rows of permutations: a part each; append of one, load of one. -/
import Derived.Test.YteeideminlcblaaDoorAppH
import Derived.Test.YteeideminlcblaaDoorBld
import Derived.Test.YteeideminlcblaaDoorHS2
namespace Go.Proofs.YteeideminlcblaaDoor
open Go.RowKit

def plB (l : List (Nat → Nat)) : List Value := l.flatMap fun p => (av p).toList
theorem av_len (p : Nat → Nat) : (av p).toList.length = 16 := by rw [Array.length_toList, av_size]
theorem plB_cons (p : Nat → Nat) (l : List (Nat → Nat)) : plB (p :: l) = (av p).toList ++ plB l := rfl
theorem plB_length (l : List (Nat → Nat)) : (plB l).length = l.length * 16 := by
  induction l with
  | nil => rfl
  | cons p l ih => rw [plB_cons, List.length_append, ih, av_len, List.length_cons, Nat.succ_mul]; omega
theorem plB_append (l l' : List (Nat → Nat)) : plB (l ++ l') = plB l ++ plB l' := by unfold plB; simp
theorem plB_one {l : List (Nat → Nat)} : ∀ u ∈ plB l, u.oneCell' = true := by
  intro u hu
  unfold plB at hu
  obtain ⟨p, _, hp⟩ := List.mem_flatMap.1 hu
  have := Array.all_eq_true_iff_forall_mem.1 (av_cells p) u (by simpa using hp)
  exact this
theorem plB_at {l : List (Nat → Nat)} {k : Nat} (hk : k < l.length) {i : Nat} (hi : i < 16) : (plB l)[k * 16 + i]? = some (.int .u8 (l[k] i : Nat)) := by
  induction l generalizing k with
  | nil => simp at hk
  | cons p l ih =>
    rw [plB_cons]
    rcases k with _ | k
    · rw [Nat.zero_mul, Nat.zero_add, List.getElem?_append_left (by rw [av_len]; exact hi), Array.getElem?_toList, av_get _ hi]; rfl
    · rw [List.getElem?_append_right (by rw [av_len]; omega), av_len, show (k + 1) * 16 + i - 16 = k * 16 + i by omega]
      exact ih (k := k) (by simpa using hk)
theorem plB_ext {l : List (Nat → Nat)} {cur : Array Value} (h : cur.toList.take (l.length * 16) = plB l) {k : Nat} (hk : k < l.length) : cur.extract (k * 16) (k * 16 + 16) = av l[k] := by
  have hlen : l.length * 16 ≤ cur.size := by
    have h1 := congrArg List.length h
    rw [plB_length, List.length_take] at h1
    have h2 : cur.toList.length = cur.size := Array.length_toList
    rw [← h2, ← h1]
    exact Nat.min_le_right _ _
  have hk16 : k * 16 + 16 ≤ l.length * 16 := by omega
  apply Array.ext_getElem?
  intro i
  rw [Array.getElem?_extract]
  by_cases c : i < 16
  · rw [if_pos (by omega), av_get _ c]
    have h1 := plB_at hk c
    rw [← h, List.getElem?_take_of_lt (by omega), Array.getElem?_toList] at h1
    exact h1
  · rw [if_neg (by omega), Array.getElem?_eq_none (by rw [av_size]; omega)]
theorem infoPlc : (Tryd.prog.info? 28).map (fun i => (i.zero, i.size, i.bytes)) = some (some (.agg #[.int .u8 0, .int .u8 0, .int .u8 0, .int .u8 0, .int .u8 0, .int .u8 0, .int .u8 0, .int .u8 0, .int .u8 0, .int .u8 0, .int .u8 0, .int .u8 0, .int .u8 0, .int .u8 0, .int .u8 0, .int .u8 0]), 16, 16) := by kernel_rfl
/-- a row of permutations, its part -/
def pPl (v : Value) (l : List (Nat → Nat)) : Part := pRow v 28 16 l.length (plB l)
theorem Holds.plForm {w0 w : World} {L : List Part} (h : Holds w0 w L) (i : Nat) {v : Value} {l : List (Nat → Nat)} (hi : L[i]? = some (pPl v l)) : ∃ A c, v = .slice A l.length c := own_slice (h.row i hi)
theorem row_extract {w : World} {B : Nat} {v : Value} {l : List (Nat → Nat)} (h : w.ownsRow B 28 16 v l.length (plB l)) {k : Nat} (hk : k < l.length) :
    ∃ g c, v = .slice (some ⟨g, 0, none⟩) l.length c ∧ B ≤ g ∧ g < w.heap.size ∧ (cellsOf w g).extract (k * 16) (k * 16 + 16) = av l[k] := by
  rcases h.2 with ⟨_, e⟩ | ⟨g, cap, cur, rfl, hB, hh, h1, h2, h3, h4⟩
  · omega
  · exact ⟨g, cap, rfl, hB, lt_of_some hh, by rw [cellsOf_heap hh]; exact plB_ext h4 hk⟩
theorem run_loadR {w : World} {g o : Nat} {p : Nat → Nat} (h : (cellsOf w g).extract o (o + 16) = av p) : (loadT 28 (.pointer (some ⟨g, o, none⟩))).run Tryd.prog w = .ok (.value (.agg (av p))) w := run_load_mid aggP h (av_size _)
theorem Holds.plAt {w0 w : World} {L : List Part} (h : Holds w0 w L) (i : Nat) {v : Value} {l : List (Nat → Nat)} (hi : L[i]? = some (pPl v l)) {k : Nat} (hk : k < l.length) :
    ∃ g c, v = .slice (some ⟨g, 0, none⟩) l.length c ∧ g < w.heap.size ∧ (loadT 28 (.pointer (some ⟨g, k * 16, none⟩))).run Tryd.prog w = .ok (.value (.agg (av l[k]))) w := by
  obtain ⟨g, c, h1, _, h2, h3⟩ := row_extract (h.row i hi) hk
  exact ⟨g, c, h1, h2, run_loadR h3⟩
-- left out here: None
-- left out here: None
theorem fillP (p : Nat → Nat) (cs : Array Value) (hcs : cs.size = 16) : Instr.fill (fun i => some (i * 16, 16)) cs [(0, .agg (av p))] = some (av p) := by
  simp only [Instr.fill, Value.cells, av_size, hcs, splice_eq]
  rw [if_neg (by simp)]
  congr 1
  apply Array.ext_getElem?
  intro i
  rw [foldset, hcs, av_len, Array.getElem?_toList]
  by_cases c : i < 16
  · rw [if_pos (by omega)]; congr 1
  · rw [if_neg (by omega), Array.getElem?_eq_none (by rw [hcs]; omega), Array.getElem?_eq_none (by rw [av_size]; omega)]
-- left out here: None
-- left out here: None
-- left out here: None
-- left out here: None
end Go.Proofs.YteeideminlcblaaDoor
