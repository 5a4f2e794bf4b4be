/- A dessin built out of its three parts. -/
import Derived.Test.YtpkfjdaedaplfaaDes
namespace Go.Proofs.Ytpkfjdaedaplfaa
open Go.RowKit

theorem foldset (off : Nat) : ∀ (l : List Value) (k : Nat) (cs : Array Value) (i : Nat),
    ((l.zipIdx k).foldl (fun cs (p : Value × Nat) => cs.setIfInBounds (off + p.2) p.1) cs)[i]? = if off + k ≤ i ∧ i < off + k + l.length ∧ i < cs.size then l[i - (off + k)]? else cs[i]? := by
  intro l
  induction l with
  | nil => intro k cs i; simp; omega
  | cons x l ih =>
    intro k cs i
    rw [List.zipIdx_cons, List.foldl_cons, ih]
    simp only [Array.size_setIfInBounds, List.length_cons, Array.getElem?_setIfInBounds]
    by_cases h : off + k = i
    · subst h
      rw [if_neg (by omega), if_pos rfl]
      by_cases h2 : off + k < cs.size
      · rw [if_pos h2, if_pos ⟨by omega, by omega, h2⟩]; simp
      · rw [if_neg h2, if_neg (by omega), Array.getElem?_eq_none (by omega)]
    · rw [if_neg h]
      by_cases h2 : off + k ≤ i ∧ i < off + k + (l.length + 1) ∧ i < cs.size
      · rw [if_pos h2, if_pos (by omega), show i - (off + k) = (i - (off + (k + 1))) + 1 from by omega, List.getElem?_cons_succ]
      · rw [if_neg h2, if_neg (by omega)]

theorem splice_eq (off : Nat) (cs c : Array Value) : Array.foldl (fun cs (x : Value × Nat) => cs.setIfInBounds (off + x.snd) x.fst) cs c.zipIdx = (c.toList.zipIdx 0).foldl (fun cs (p : Value × Nat) => cs.setIfInBounds (off + p.2) p.1) cs := by
  rw [← Array.foldl_toList, Array.toList_zipIdx]
theorem splice_size (off : Nat) : ∀ (l : List Value) (k : Nat) (cs : Array Value), ((l.zipIdx k).foldl (fun cs (p : Value × Nat) => cs.setIfInBounds (off + p.2) p.1) cs).size = cs.size := by
  intro l
  induction l with
  | nil => intro k cs; rfl
  | cons x l ih => intro k cs; rw [List.zipIdx_cons, List.foldl_cons, ih, Array.size_setIfInBounds]

-- left out here: None
-- left out here: None
-- left out here: None
-- left out here: None
-- left out here: None
-- left out here: None
-- left out here: None
-- left out here: None
end Go.Proofs.Ytpkfjdaedaplfaa
