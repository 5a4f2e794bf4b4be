/- More of Holds: parts in any order; a store into a row; make; a row of rows. -/
import Derived.Test.YtpkfjdaedaplfaaInts
import Derived.Test.YtpkfjdaedaplfaaMark
namespace Go.Proofs.Ytpkfjdaedaplfaa
open Go.RowKit

theorem Holds.perm {w0 w : World} {L L' : List Part} (h : Holds w0 w L) (hp : L.Perm L') : Holds w0 w L' :=
  ⟨h.1, fun a ha => h.2.1 a (hp.mem_iff.2 ha), (hp.pairwise_iff (R := fun a b : Part => ∀ g, a.own g → b.own g → False) (fun {a b} hab g hb ha => hab g ha hb)).1 h.2.2⟩
theorem Holds.third {w0 w : World} {a b c : Part} {L : List Part} (h : Holds w0 w (a :: b :: c :: L)) : Holds w0 w (b :: c :: a :: L) :=
  h.perm ((List.Perm.swap b a (c :: L)).trans ((List.Perm.swap c a L).cons b))
/-- a store into a cell of a row -/
theorem Holds.put {w0 w : World} {L : List Part} (h : Holds w0 w L) (i : Nat) {g n c : Nat} {e : TypeId} {s : Nat} {xs : List Value} (hi : L[i]? = some (pRow (.slice (some ⟨g, 0, none⟩) n c) e s n xs)) (j : Nat) (u : Value) :
    Holds w0 (w.setCell ⟨g, j, none⟩ u) (L.set i (pRow (.slice (some ⟨g, 0, none⟩) n c) e s n (xs.set j u))) := by
  have h1 : w.ownsRow 0 e s (.slice (some ⟨g, 0, none⟩) n c) n xs := h.at i hi
  have h2 := World.ownsRow.stored h1 j u
  exact h.grow i hi _ h2.1 h2.2 (fun k hk => by cases hk; rfl) fun k hk => .inl hk
section
variable {P : Program} {ops : Array Oper} {rest : List Oper} {o : Oper} {a : Act} {Q : Exit → Act → World → Prop} {w : World}
/-- make([]T, n) -/
theorem makeH (hgd : o.guard = none) (t : TypeId) (x y : Operand) (ho : o.op = .makeSlice t x y) (e : TypeId) (i : TypeInfo) (z : Value) (bytes : Nat) (ht : P.underlying t = some (.slice e)) (hi : P.info? e = some i) (hz : i.zero = some z)
    (hsize : i.size = 1) (hby : i.bytes = bytes) (hzs : z.cells = #[z]) (n : Nat) (kx ky : IntKind) (hx : a.eval x = .int kx (n : Int)) (hy : a.eval y = .int ky (n : Int)) (hn : n ≤ 1000000) (hb : bytes ≤ 64)
    {w0 : World} {L : List Part} (H : Holds w0 w L)
    (h : ∀ w', Holds w0 w' (pRow (.slice (some ⟨w.heap.size, 0, none⟩) n n) e 1 n (List.replicate n z) :: L) → wpList P ops Q rest (a.put o.dst (.slice (some ⟨w.heap.size, 0, none⟩) n n)) w') : wpList P ops Q (o :: rest) a w := by
  refine wpList_plain hgd fun _ hK => ?_
  have h1 : bytes * n ≤ 64 * 1000000 := Nat.mul_le_mul hb hn
  obtain ⟨w', hr, ho', hg⟩ := run_makeSlice_full (P := P) w w.heap.size t e i z 1 ht hi hz hsize kx ky n (by omega) (by rw [hby]; omega) (by unfold maxLen; omega) (Nat.le_refl _)
  rw [hzs, Nat.mul_one, toList_madeCells_one] at ho'
  unfold Oper.wp execOp
  simp only [ho, hx, hy, Sem.run_bind, Sem.run_pure, Result.andThen_ok, hr]
  refine hK _ _ (h w' (H.newRow ⟨hg.os, hg.tape, hg.output, hg.size, fun g hl => hg.block g hl (by simp)⟩ ho'))
end
/-- the rows of a list of lists, a part each -/
def rowsP : List Value → List (List Nat) → List Part
  | v :: vs, l :: ls => pInts v l :: rowsP vs ls
  | _, _ => []
theorem rowsP_snoc {vs : List Value} {ls : List (List Nat)} (hl : vs.length = ls.length) (u : Value) (l : List Nat) : rowsP (vs ++ [u]) (ls ++ [l]) = rowsP vs ls ++ [pInts u l] := by
  induction vs generalizing ls with
  | nil => cases ls with
    | nil => rfl
    | cons => simp at hl
  | cons v vs ih => cases ls with
    | nil => simp at hl
    | cons m ls => simp only [List.cons_append, rowsP]; rw [ih (by simpa using hl)]
theorem rowsP_at {vs : List Value} {ls : List (List Nat)} {i : Nat} {u : Value} {l : List Nat} (h1 : vs[i]? = some u) (h2 : ls[i]? = some l) : (rowsP vs ls)[i]? = some (pInts u l) := by
  induction vs generalizing ls i with
  | nil => simp at h1
  | cons v vs ih => cases ls with
    | nil => simp at h2
    | cons m ls =>
      cases i with
      | zero => simp at h1 h2; subst h1 h2; rfl
      | succ i => simp at h1 h2; simp only [rowsP, List.getElem?_cons_succ]; exact ih h1 h2
theorem Holds.rowEnd {w0 w : World} {u : Value} {l : List Nat} {A : List Part} {vs : List Value} {ls : List (List Nat)} (hl : vs.length = ls.length) (h : Holds w0 w (pInts u l :: (A ++ rowsP vs ls))) : Holds w0 w (A ++ rowsP (vs ++ [u]) (ls ++ [l])) := by
  refine h.perm ?_
  rw [rowsP_snoc hl, ← List.append_assoc]
  exact (List.perm_append_comm (l₁ := [pInts u l]) (l₂ := A ++ rowsP vs ls))
/-- a row of slices, its part -/
def pVals (v : Value) (vs : List Value) : Part := pRow v 79 1 vs.length vs
theorem Holds.own2 {w0 w : World} {v : Value} {A : List Part} {vs : List Value} {ls : List (List Nat)} (hl : vs.length = ls.length) (h : Holds w0 w (A ++ pVals v vs :: rowsP vs ls)) : Own2 w0.heap.size w v ls := by
  have h' : Holds w0 w (pVals v vs :: rowsP vs ls) := h.sub (List.sublist_append_right _ _)
  have at_ : ∀ (i : Nat) (u : Value) (l : List Nat), vs[i]? = some u → ls[i]? = some l → (pVals v vs :: rowsP vs ls)[i + 1]? = some (pInts u l) := fun i u l h1 h2 => by rw [List.getElem?_cons_succ]; exact rowsP_at h1 h2
  refine ⟨vs, hl, h'.row 0 rfl, fun i u l h1 h2 => h'.own1 (i + 1) (at_ i u l h1 h2), fun i j u u' hij h1 h2 => ?_⟩
  rcases hb : u.ownBlock with _ | g
  · exact .inl rfl
  · refine .inr fun e => ?_
    have li : i < ls.length := by rw [← hl]; exact (List.getElem?_eq_some_iff.1 h1).1
    have lj : j < ls.length := by rw [← hl]; exact (List.getElem?_eq_some_iff.1 h2).1
    exact h'.apart (i := i + 1) (j := j + 1) (by omega) (at_ i u _ h1 (List.getElem?_eq_getElem li)) (at_ j u' _ h2 (List.getElem?_eq_getElem lj)) (g := g) hb e.symm
theorem Holds.valsForm {w0 w : World} {L : List Part} (h : Holds w0 w L) (i : Nat) {v : Value} {vs : List Value} (hi : L[i]? = some (pVals v vs)) : ∃ A c, v = .slice A vs.length c := own_slice (h.row i hi)
/-- one list more -/
theorem appRow {ops : Array Oper} {rest : List Oper} {o : Oper} {a : Act} {Q : Exit → Act → World → Prop} {w0 w : World} {L : List Part} (H : Holds w0 w L) (k : Nat) {v : Value} {vs : List Value} (hk : L[k]? = some (pVals v vs))
    (g : Nat) (u : Value) (hu : u.oneCell' = true) (t : TypeId) (hc : w.heap[g]? = some (.cells #[u] t (0, 0))) (hb : vs.length ≤ 1000000)
    (hgd : o.guard = none) (s x : Operand)
    (ho : o.op = .call { callee := .builtin .append, args := #[s, x], argTypes := #[69, 69] })
    (hs : a.eval s = v) (hx : a.eval x = .slice (some ⟨g, 0, none⟩) 1 1)
    (h : ∀ v' w', Holds w0 w' (L.set k (pVals v' (vs ++ [u]))) → wpList Try.prog ops Q rest (a.put o.dst v') w') : wpList Try.prog ops Q (o :: rest) a w := by
  obtain ⟨i0, hi, hz0, hz1, hz2⟩ := info_parts infoSl
  refine appH (P := Try.prog) hgd s x 69 ho 79 i0 (.slice none 0 0) 1 24 Try.underlying69 hi hz0 hz1 hz2 rfl (by decide) v vs.length vs hs H k hk ⟨g, 0, none⟩ 1 1 [u] hx
    rfl (fun j x hj => ?_) (fun x hx => by simp at hx; subst hx; exact hu) (by unfold maxLen; omega) (by omega) fun v' w' h1 => h v' w' ?_
  · have : ((⟨g, 0, none⟩ : Addr).add j) = ⟨g, j, none⟩ := by simp [Addr.add]; exact Eq.symm
    rw [this, cell_of_cells, cellsOf_heap hc]
    simpa using hj
  · unfold pVals
    rw [List.length_append]
    exact h1
end Go.Proofs.Ytpkfjdaedaplfaa
