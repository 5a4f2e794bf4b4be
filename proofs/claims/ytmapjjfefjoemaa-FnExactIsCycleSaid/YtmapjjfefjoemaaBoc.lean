/- The cycles of Black and of White in one list, as the model puts them together. -/
import Derived.Test.YtmapjjfefjoemaaRegS
import Derived.Test.YtmapjjfefjoemaaHS3
import Derived.Test.YtmapjjfefjoemaaSCyc
import Derived.Test.YtmapjjfefjoemaaZZ
import Derived.Test.YtmapjjfefjoemaaIsDes
import Derived.Test.YtmapjjfefjoemaaCnt
namespace Go.Proofs.Ytmapjjfefjoemaa
open Go.RowKit

theorem infoSl9 : (Try.prog.info? 25).map (fun i => (i.zero, i.size, i.bytes)) = some (some (.slice none 0 0), 1, 24) := by kernel_rfl
theorem rowsP_append9 : ∀ {vs us : List Value} {ls ms : List (List Nat)}, vs.length = ls.length → rowsP (vs ++ us) (ls ++ ms) = rowsP vs ls ++ rowsP us ms
  | [], us, [], ms, _ => rfl
  | [], _, _ :: _, _, h => by simp at h
  | _ :: _, _, [], _, h => by simp at h
  | v :: vs, us, l :: ls, ms, h => by
    have ih := rowsP_append9 (vs := vs) (us := us) (ls := ls) (ms := ms) (by simpa using h)
    simp only [List.cons_append, rowsP, ih]
theorem Holds.noVals9 {w0 w : World} {L : List Part} (h : Holds w0 w L) (i : Nat) {g : Nat} (hi : L[i]? = some (pBlk g #[] 25)) : Holds w0 w (L.set i (pVals (.slice (some ⟨g, 0, none⟩) 0 0) [])) := by
  refine h.turn i hi _ ?_ rfl rfl rfl (Nat.le_refl _) (fun _ _ _ => rfl) fun k hk => .inl ?_
  · exact ⟨rfl, .inr ⟨g, 0, #[], rfl, Nat.zero_le _, h.at i hi, Nat.le_refl 0, by decide, rfl, rfl⟩⟩
  · have : g = k := by simpa [pVals, pRow, Value.ownBlock] using hk
    exact this.symm
namespace Rd
/-- uponE behind a name that nothing unfolds -/
@[irreducible] def upon9 (P : Program) (C : World → Prop) (R : Value → World → Prop) (w : World) (r : Result Next) : Prop := uponE P C R w r
theorem upon9_eq {P : Program} {C : World → Prop} {R : Value → World → Prop} {w : World} {r : Result Next} : upon9 P C R w r = uponE P C R w r := by unfold upon9; rfl
theorem v_s9 {P : Program} {ops : Array Oper} {C : World → Prop} {E : Nat → Bool} {k : Nat} {a : Act} {D : World → Prop} {N : Act → (World → Prop) → Prop} {o : Oper} (R : Value → World → Prop) (hR : ∀ v, Stable (R v)) (ho : ops[k]? = some o) (hE : E k = true) (hw : Region.wanted o (yielded ops a.tmps) = true) (h1 : ∀ w, C w → D w → upon9 P C R w ((execOp a.eval o).run P w))
    (h2 : ∀ v, (∃ w, C w ∧ R v w) → N (a.put o.dst v) (R v)) : opV P ops C E k N a D :=
  v_s R hR ho hE hw (fun w hc hd => by have := h1 w hc hd; rwa [upon9_eq] at this) h2
/-- a value of some form, with lists of slices of given lengths, and what is held then -/
def rV9 (w0 : World) (n : Nat) (F : Value → List Value → List Part) : Value → World → Prop := fun v w => ∃ A c vs, v = .slice A n c ∧ vs.length = n ∧ Holds w0 w (F v vs)
theorem rV9_stable {w0 : World} {n : Nat} {F : Value → List Value → List Part} (v : Value) : Stable (rV9 w0 n F v) := fun _ _ ⟨A, c, vs, e, hl, h⟩ hb => ⟨A, c, vs, e, hl, h.call hb⟩
theorem rV9_form {w0 : World} {n : Nat} {F : Value → List Value → List Part} {v : Value} {w : World} (h : rV9 w0 n F v w) : ∃ A c, v = .slice A n c := by
  obtain ⟨A, c, vs, e, _⟩ := h
  exact ⟨A, c, e⟩
theorem rV9_elim {w0 : World} {n : Nat} {F : Value → List Value → List Part} {v : Value} {w : World} (h : rV9 w0 n F v w) {Q : Prop} (k : ∀ vs, vs.length = n → Holds w0 w (F v vs) → Q) : Q := by
  obtain ⟨A, c, vs, _, hl, h⟩ := h
  exact k vs hl h
def rN9 (w0 : World) (n : Nat) (F : Nat → List Value → List Part) : Value → World → Prop := fun v w => ∃ g vs, v = .slice (some ⟨g, 0, none⟩) 0 0 ∧ vs.length = n ∧ Holds w0 w (F g vs)
theorem rN9_stable {w0 : World} {n : Nat} {F : Nat → List Value → List Part} (v : Value) : Stable (rN9 w0 n F v) := fun _ _ ⟨g, vs, e, hl, h⟩ hb => ⟨g, vs, e, hl, h.call hb⟩
theorem rN9_form {w0 : World} {n : Nat} {F : Nat → List Value → List Part} {v : Value} {w : World} (h : rN9 w0 n F v w) : ∃ g, v = .slice (some ⟨g, 0, none⟩) 0 0 := by
  obtain ⟨g, vs, e, _⟩ := h
  exact ⟨g, e⟩
theorem rN9_elim {w0 : World} {n g : Nat} {F : Nat → List Value → List Part} {w : World} (h : rN9 w0 n F (.slice (some ⟨g, 0, none⟩) 0 0) w) {Q : Prop} (k : ∀ vs, vs.length = n → Holds w0 w (F g vs) → Q) : Q := by
  obtain ⟨g', vs, e, hl, h⟩ := h
  injection e with e
  injection e with e
  injection e with e
  subst e
  exact k vs hl h
def rW9 (w0 : World) (n k : Nat) (F : Value → List Value → List Value → List Part) : Value → World → Prop := fun v w => ∃ A c vs us, v = .slice A n c ∧ vs.length = n ∧ us.length = k ∧ Holds w0 w (F v vs us)
theorem rW9_stable {w0 : World} {n k : Nat} {F : Value → List Value → List Value → List Part} (v : Value) : Stable (rW9 w0 n k F v) := fun _ _ ⟨A, c, vs, us, e, hl, hk, h⟩ hb => ⟨A, c, vs, us, e, hl, hk, h.call hb⟩
theorem rW9_form {w0 : World} {n k : Nat} {F : Value → List Value → List Value → List Part} {v : Value} {w : World} (h : rW9 w0 n k F v w) : ∃ A c, v = .slice A n c := by
  obtain ⟨A, c, vs, us, e, _⟩ := h
  exact ⟨A, c, e⟩
theorem rW9_elim {w0 : World} {n j : Nat} {F : Value → List Value → List Value → List Part} {v : Value} {w : World} (h : rW9 w0 n j F v w) {Q : Prop} (k : ∀ vs us, vs.length = n → us.length = j → Holds w0 w (F v vs us) → Q) : Q := by
  obtain ⟨A, c, vs, us, _, hl, hk, h⟩ := h
  exact k vs us hl hk h
theorem region_RV9 {P : Program} {id : Nat} {Q : Exit → Act → World → Prop} {a : Act} {w w0 : World} {l : List Oper} (L : List Part) (L1 : List Part) (sp : List Nat) (p : Plan) (H : Holds w0 w L1) (hL : L.Sublist L1)
    (hm : P.follows .mixedOrders = true) (hsel : Region.noSelect l.toArray = true) (hB : planB .any l.toArray sp l.toArray.size p (Array.replicate l.toArray.size false) = true)
    (R : Value → World → Prop) (act : Value → Nat → Option Addr → Nat → Option Addr → Nat → Option Addr → Nat → Act)
    (h : ∀ K : Act → World → Prop, (∀ q g A1 c1 A2 c2 A3 c3 wx, R q wx → K (act q g A1 c1 A2 c2 A3 c3) wx) → walkV P l.toArray (fun wx => Holds w0 wx L) (fun k => sp.contains k) K p a (fun wx => Holds w0 wx L1))
    (key : ∀ q g A1 c1 A2 c2 A3 c3 wx, R q wx → Q .normal (act q g A1 c1 A2 c2 A3 c3) wx) : (Code.region id l.toArray true).wp P Q a w :=
  region_P L L1 sp p H hL hm hsel hB (h (fun a' w' => Q .normal a' w') key)
/-- a list's slices behind those of another one -/
theorem upon_rows9 {o : Oper} {a : Act} {w0 w : World} {L : List Part} (H : Holds w0 w L) (k j : Nat) {v u : Value} {vs us : List Value} (hk : L[k]? = some (pVals v vs)) (hj : L[j]? = some (pVals u us)) (hu : 0 < us.length) (h1 : ∀ x ∈ us, x.oneCell' = true) (hb : vs.length + us.length ≤ 100000) {C : World → Prop} {R : Value → World → Prop}
    (h : ∀ v' w', Holds w0 w' (L.set k (pVals v' (vs ++ us))) → C w' ∧ R v' w') (s x : Operand)
    (ho : o.op = .call { callee := .builtin .append, args := #[s, x], argTypes := #[26, 26] })
    (hs : a.eval s = v) (hx : a.eval x = u) : upon9 Try.prog C R w ((execOp a.eval o).run Try.prog w) := by
  obtain ⟨g, c, rfl, _, _, h3, h4, h5, _⟩ := row_at (H.row j hj) hu
  obtain ⟨i0, hi, hz0, hz1, hz2⟩ := info_parts infoSl9
  obtain ⟨v', w', hr, h2, _⟩ := run_appH (P := Try.prog) 26 o.type 25 i0 (.slice none 0 0) 1 24 Try.underlying26 hi hz0 hz1 hz2 rfl (by decide) v vs.length vs H k hk ⟨g, 0, none⟩ us.length c us (by omega) (fun j y hj => by
    have : ((⟨g, 0, none⟩ : Addr).add j) = ⟨g, j, none⟩ := by simp [Addr.add]; exact Eq.symm
    rw [this]; exact h5 j y hj) h1 (by unfold maxLen; omega) (by omega)
  rw [upon9_eq, exec_append ho hs hx hr]
  refine h v' w' ?_
  unfold pVals at *
  rw [List.length_append]
  exact h2
theorem rV9_of {w0 w : World} {n : Nat} {F : Value → List Value → List Part} {v : Value} {vs : List Value} {L' : List Part} (hF : F v vs = pVals v vs :: L') (hl : vs.length = n) (h : Holds w0 w (F v vs)) : rV9 w0 n F v w := by
  have h' := h
  rw [hF] at h'
  obtain ⟨A, c, e⟩ := own_slice (h'.row 0 rfl)
  exact ⟨A, c, vs, by rw [e, hl], hl, h⟩
end Rd
theorem vals_one9 {w0 w : World} {vs : List Value} {cs : List (List Nat)} {L : List Part} (hl : vs.length = cs.length) (h : Holds w0 w L) (hs : ∀ a ∈ rowsP vs cs, a ∈ L) : ∀ x ∈ vs, x.oneCell' = true := by
  intro x hx
  obtain ⟨i, hi, rfl⟩ := List.getElem_of_mem hx
  have h1 := rowsP_at (List.getElem?_eq_getElem hi) (List.getElem?_eq_getElem (show i < cs.length by omega))
  have h2 := (h.2.1 _ (hs _ (List.mem_of_getElem? h1))).1
  obtain ⟨A, c, e⟩ := own_slice (show w.ownsRow 0 _ _ _ _ _ from h2)
  rw [e]; rfl
end Go.Proofs.Ytmapjjfefjoemaa
