/- PlacesOfCycles of the program and of the model -/
import Derived.Test.YtpkfjdaedaplfaaArg2
import Derived.Test.YtpkfjdaedaplfaaPl1
import Derived.Test.YtpkfjdaedaplfaaSPerm
import Derived.Test.YtpkfjdaedaplfaaCell
namespace Go.Proofs.Ytpkfjdaedaplfaa
open Go.RowKit

def yb (x : Int) : Nat := (x % 256).toNat
theorem yb_cast (x : Int) : ((yb x : Nat) : Int) = x % 256 := by unfold yb; omega
def prs (l : List Int) : List (Nat × Nat) := (List.range l.length).map fun i => ((l.getD i 0).toNat, yb (l.getD ((i + 1) % l.length) 0))
def outP (m : Nat) (P : List (Nat × Nat)) : Nat → Nat := P.foldl (fun f p => fset f p.1 p.2) (sameF m)
theorem outP_snoc (m : Nat) (P : List (Nat × Nat)) (q : Nat × Nat) : outP m (P ++ [q]) = fset (outP m P) q.1 q.2 := by simp [outP]
theorem prs_succ (l : List Int) {i : Nat} (hi : i < l.length) : (prs l).take (i + 1) = (prs l).take i ++ [((l[i]).toNat, yb (l[(i + 1) % l.length]'(Nat.mod_lt _ (by omega))))] := by
  have hl : (prs l).length = l.length := by simp [prs]
  rw [List.take_succ_eq_append_getElem (by omega)]
  congr 2
  have h2 : (i + 1) % l.length < l.length := Nat.mod_lt _ (by omega)
  simp [prs, List.getD_eq_getElem?_getD, hi, h2]
theorem prs_all (l : List Int) : (prs l).take l.length = prs l := List.take_of_length_le (by simp [prs])
def inR (m : Nat) (D : List Int) : Prop := (∀ x ∈ D, 0 ≤ x ∧ x < (m : Int)) ∧ D.Nodup
theorem inR.sub {m : Nat} {D E : List Int} (h : inR m E) (hs : D.Sublist E) : inR m D := ⟨fun x hx => h.1 x (hs.subset hx), hs.nodup h.2⟩
theorem inR.snoc {m : Nat} {D : List Int} {x : Int} (h : inR m D) (h0 : 0 ≤ x) (h1 : x < m) (h2 : x ∉ D) : inR m (D ++ [x]) := by
  refine ⟨fun y hy => ?_, ?_⟩
  · rcases List.mem_append.1 hy with c | c
    · exact h.1 y c
    · rw [List.mem_singleton.1 c]; exact ⟨h0, h1⟩
  · rw [List.nodup_append]
    refine ⟨h.2, by simp, fun a ha b hb e => ?_⟩
    rw [List.mem_singleton.1 hb] at e
    exact h2 (e ▸ ha)
def goodC (m : Nat) (ls : List (List Int)) : Prop := (∀ l ∈ ls, l ≠ []) ∧ inR m ls.flatten
theorem flat_succ (ls : List (List Int)) {j : Nat} (hj : j < ls.length) : (ls.take (j + 1)).flatten = (ls.take j).flatten ++ ls[j] := by
  rw [List.take_succ_eq_append_getElem hj, List.flatten_append, List.flatten_cons, List.flatten_nil, List.append_nil]
theorem prs_flat (ls : List (List Int)) {j : Nat} (hj : j < ls.length) : (ls.take (j + 1)).flatMap prs = (ls.take j).flatMap prs ++ prs ls[j] := by
  rw [List.take_succ_eq_append_getElem hj, List.flatMap_append, List.flatMap_cons, List.flatMap_nil, List.append_nil]
theorem flat_sub (ls : List (List Int)) {j i : Nat} (hj : j < ls.length) (hi : i < ls[j].length) : ((ls.take j).flatten ++ ls[j].take i ++ [ls[j][i]]).Sublist ls.flatten := by
  have e : ls[j].take i ++ [ls[j][i]] = ls[j].take (i + 1) := (List.take_succ_eq_append_getElem hi).symm
  rw [List.append_assoc, e]
  have h1 : ((ls.take j).flatten ++ ls[j].take (i + 1)).Sublist ((ls.take (j + 1)).flatten) := by
    rw [flat_succ ls hj]
    exact List.Sublist.append (List.Sublist.refl _) (List.take_sublist _ _)
  refine h1.trans ?_
  conv => rhs; rw [← List.take_append_drop (j + 1) ls, List.flatten_append]
  exact List.sublist_append_left _ _
def metB (D : List Int) : Nat → Bool := fun y => decide ((y : Int) ∈ D)
theorem metB_snoc (D : List Int) (y : Nat) : mset (metB D) y = metB (D ++ [(y : Int)]) := by
  funext z
  unfold mset metB
  by_cases c : z = y
  · subst c; simp
  · have : ¬ (z : Int) = (y : Int) := by omega
    simp [c, this]
theorem metB_nil : metB [] = fun _ => false := by funext z; simp [metB]

-- left out here: None
-- left out here: PW
-- left out here: PW
open Classical in
noncomputable def pocR (ls : List (List Int)) (n : Int) : Value := if 1 ≤ n ∧ n ≤ 16 ∧ goodC n.toNat ls then .tuple #[.agg (av (outP n.toNat (ls.flatMap prs))), .int .i64 0] else .tuple #[.agg (av fun _ => 0), .int .i64 2]
theorem pocR_eq (ls : List (List Int)) (n : Int) : ∃ (r : Nat → Nat) (c : Int), pocR ls n = .tuple #[.agg (av r), .int .i64 c] := by
  unfold pocR; split
  · exact ⟨_, _, rfl⟩
  · exact ⟨_, _, rfl⟩

-- left out here: loop.example/g01200/impl.PlacesOfCycles loop.example/g01200/impl.isDartCount
end Go.Proofs.Ytpkfjdaedaplfaa
