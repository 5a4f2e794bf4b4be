/- Texts put together: Boc, CyqS, IsC, Mee, MeeP, MeeS, Int9, ToPl, EqPl, ToDs, EqDs, LInt9 -/
import Derived.Test.YtmapjjfefjoemaaQdLawIntersectionOf
import Derived.Test.YtmapjjfefjoemaaChecked
import Derived.WalkKit
import Derived.WalkSpells
import Derived.WalkLawsBesides
import Derived.Deep.LoopGhost
import Derived.Deep.OwnRows
import Derived.Laws.Rows
import Derived.Laws.Tables
import Derived.Laws.CopyOwn
import Derived.ProofKit
import Derived.OpenShut
import Derived.ShutString
import Derived.ChangeOld
import Derived.Below
import Derived.Laws.OwnMore
import Derived.BigQuiet
import Derived.Deep.QuietTactic
import Derived.OwnWalk
import Derived.ChangeSlices
import Derived.RegionTactic
import Derived.Deep.Quiet
import Derived.StillTail
import Derived.Deep.Slices
import Derived.WideShapes
import Derived.Laws.CopyRow
import Derived.Deep.MidRow
import Derived.Deep.RegionWith
import Derived.ChangeKeysEq
import Derived.StillTailTactics
import Derived.Deep.RegionHeld3
namespace Go.Proofs.Ytmapjjfefjoemaa
open Go.RowKit

theorem infoSl9 : (Try.prog.info? 25).map (fun i => (i.zero, i.size, i.bytes)) = some (some (.slice none 0 0), 1, 24) := by kernel_rfl
theorem rowsP_append9 : ∀ {vs us : List Value} {ls ms : List (List Nat)}, vs.length = ls.length → rowsP (vs ++ us) (ls ++ ms) = rowsP vs ls ++ rowsP us ms
  | [], us, [], ms, _ => rfl
  | [], _, _ :: _, _, h => by simp at h
  | _ :: _, _, [], _, h => by simp at h
  | v :: vs, us, l :: ls, ms, h => by
    have ih := rowsP_append9 (vs := vs) (us := us) (ls := ls) (ms := ms) (by simpa using h)
    simp only [List.cons_append, rowsP, ih]
theorem Holds.noVals9 {w0 w : World} {L : List Part} (h : Holds w0 w L) (i : Nat) {g : Nat} (hi : L[i]? = some (pBlk g #[] 25)) : Holds w0 w (L.set i (pVals (.slice (some ⟨g, 0, none⟩) 0 0) [])) := by
  refine h.turn i hi _ ?_ rfl rfl rfl (Nat.le_refl _) (fun _ _ _ => rfl) fun k hk => .inl ?_
  · exact ⟨rfl, .inr ⟨g, 0, #[], rfl, Nat.zero_le _, h.at i hi, Nat.le_refl 0, by decide, rfl, rfl⟩⟩
  · have : g = k := by simpa [pVals, pRow, Value.ownBlock] using hk
    exact this.symm
namespace Rd
/-- uponE behind a name that nothing unfolds -/
@[irreducible] def upon9 (P : Program) (C : World → Prop) (R : Value → World → Prop) (w : World) (r : Result Next) : Prop := uponE P C R w r
theorem upon9_eq {P : Program} {C : World → Prop} {R : Value → World → Prop} {w : World} {r : Result Next} : upon9 P C R w r = uponE P C R w r := by unfold upon9; rfl
theorem v_s9 {P : Program} {ops : Array Oper} {C : World → Prop} {E : Nat → Bool} {k : Nat} {a : Act} {D : World → Prop} {N : Act → (World → Prop) → Prop} {o : Oper} (R : Value → World → Prop) (hR : ∀ v, Stable (R v)) (ho : ops[k]? = some o) (hE : E k = true) (hw : Region.wanted o (yielded ops a.tmps) = true) (h1 : ∀ w, C w → D w → upon9 P C R w ((execOp a.eval o).run P w))
    (h2 : ∀ v, (∃ w, C w ∧ R v w) → N (a.put o.dst v) (R v)) : opV P ops C E k N a D :=
  v_s R hR ho hE hw (fun w hc hd => by have := h1 w hc hd; rwa [upon9_eq] at this) h2
/-- a value of some form, with lists of slices of given lengths, and what is held then -/
def rV9 (w0 : World) (n : Nat) (F : Value → List Value → List Part) : Value → World → Prop := fun v w => ∃ A c vs, v = .slice A n c ∧ vs.length = n ∧ Holds w0 w (F v vs)
theorem rV9_stable {w0 : World} {n : Nat} {F : Value → List Value → List Part} (v : Value) : Stable (rV9 w0 n F v) := fun _ _ ⟨A, c, vs, e, hl, h⟩ hb => ⟨A, c, vs, e, hl, h.call hb⟩
theorem rV9_form {w0 : World} {n : Nat} {F : Value → List Value → List Part} {v : Value} {w : World} (h : rV9 w0 n F v w) : ∃ A c, v = .slice A n c := by
  obtain ⟨A, c, vs, e, _⟩ := h
  exact ⟨A, c, e⟩
theorem rV9_elim {w0 : World} {n : Nat} {F : Value → List Value → List Part} {v : Value} {w : World} (h : rV9 w0 n F v w) {Q : Prop} (k : ∀ vs, vs.length = n → Holds w0 w (F v vs) → Q) : Q := by
  obtain ⟨A, c, vs, _, hl, h⟩ := h
  exact k vs hl h
def rN9 (w0 : World) (n : Nat) (F : Nat → List Value → List Part) : Value → World → Prop := fun v w => ∃ g vs, v = .slice (some ⟨g, 0, none⟩) 0 0 ∧ vs.length = n ∧ Holds w0 w (F g vs)
theorem rN9_stable {w0 : World} {n : Nat} {F : Nat → List Value → List Part} (v : Value) : Stable (rN9 w0 n F v) := fun _ _ ⟨g, vs, e, hl, h⟩ hb => ⟨g, vs, e, hl, h.call hb⟩
theorem rN9_form {w0 : World} {n : Nat} {F : Nat → List Value → List Part} {v : Value} {w : World} (h : rN9 w0 n F v w) : ∃ g, v = .slice (some ⟨g, 0, none⟩) 0 0 := by
  obtain ⟨g, vs, e, _⟩ := h
  exact ⟨g, e⟩
theorem rN9_elim {w0 : World} {n g : Nat} {F : Nat → List Value → List Part} {w : World} (h : rN9 w0 n F (.slice (some ⟨g, 0, none⟩) 0 0) w) {Q : Prop} (k : ∀ vs, vs.length = n → Holds w0 w (F g vs) → Q) : Q := by
  obtain ⟨g', vs, e, hl, h⟩ := h
  injection e with e
  injection e with e
  injection e with e
  subst e
  exact k vs hl h
def rW9 (w0 : World) (n k : Nat) (F : Value → List Value → List Value → List Part) : Value → World → Prop := fun v w => ∃ A c vs us, v = .slice A n c ∧ vs.length = n ∧ us.length = k ∧ Holds w0 w (F v vs us)
theorem rW9_stable {w0 : World} {n k : Nat} {F : Value → List Value → List Value → List Part} (v : Value) : Stable (rW9 w0 n k F v) := fun _ _ ⟨A, c, vs, us, e, hl, hk, h⟩ hb => ⟨A, c, vs, us, e, hl, hk, h.call hb⟩
theorem rW9_form {w0 : World} {n k : Nat} {F : Value → List Value → List Value → List Part} {v : Value} {w : World} (h : rW9 w0 n k F v w) : ∃ A c, v = .slice A n c := by
  obtain ⟨A, c, vs, us, e, _⟩ := h
  exact ⟨A, c, e⟩
theorem rW9_elim {w0 : World} {n j : Nat} {F : Value → List Value → List Value → List Part} {v : Value} {w : World} (h : rW9 w0 n j F v w) {Q : Prop} (k : ∀ vs us, vs.length = n → us.length = j → Holds w0 w (F v vs us) → Q) : Q := by
  obtain ⟨A, c, vs, us, _, hl, hk, h⟩ := h
  exact k vs us hl hk h
theorem region_RV9 {P : Program} {id : Nat} {Q : Exit → Act → World → Prop} {a : Act} {w w0 : World} {l : List Oper} (L : List Part) (L1 : List Part) (sp : List Nat) (p : Plan) (H : Holds w0 w L1) (hL : L.Sublist L1)
    (hm : P.follows .mixedOrders = true) (hsel : Region.noSelect l.toArray = true) (hB : planB .any l.toArray sp l.toArray.size p (Array.replicate l.toArray.size false) = true)
    (R : Value → World → Prop) (act : Value → Nat → Option Addr → Nat → Option Addr → Nat → Option Addr → Nat → Act)
    (h : ∀ K : Act → World → Prop, (∀ q g A1 c1 A2 c2 A3 c3 wx, R q wx → K (act q g A1 c1 A2 c2 A3 c3) wx) → walkV P l.toArray (fun wx => Holds w0 wx L) (fun k => sp.contains k) K p a (fun wx => Holds w0 wx L1))
    (key : ∀ q g A1 c1 A2 c2 A3 c3 wx, R q wx → Q .normal (act q g A1 c1 A2 c2 A3 c3) wx) : (Code.region id l.toArray true).wp P Q a w :=
  region_P L L1 sp p H hL hm hsel hB (h (fun a' w' => Q .normal a' w') key)
/-- a list's slices behind those of another one -/
theorem upon_rows9 {o : Oper} {a : Act} {w0 w : World} {L : List Part} (H : Holds w0 w L) (k j : Nat) {v u : Value} {vs us : List Value} (hk : L[k]? = some (pVals v vs)) (hj : L[j]? = some (pVals u us)) (hu : 0 < us.length) (h1 : ∀ x ∈ us, x.oneCell' = true) (hb : vs.length + us.length ≤ 100000) {C : World → Prop} {R : Value → World → Prop}
    (h : ∀ v' w', Holds w0 w' (L.set k (pVals v' (vs ++ us))) → C w' ∧ R v' w') (s x : Operand)
    (ho : o.op = .call { callee := .builtin .append, args := #[s, x], argTypes := #[26, 26] })
    (hs : a.eval s = v) (hx : a.eval x = u) : upon9 Try.prog C R w ((execOp a.eval o).run Try.prog w) := by
  obtain ⟨g, c, rfl, _, _, h3, h4, h5, _⟩ := row_at (H.row j hj) hu
  obtain ⟨i0, hi, hz0, hz1, hz2⟩ := info_parts infoSl9
  obtain ⟨v', w', hr, h2, _⟩ := run_appH (P := Try.prog) 26 o.type 25 i0 (.slice none 0 0) 1 24 Try.underlying26 hi hz0 hz1 hz2 rfl (by decide) v vs.length vs H k hk ⟨g, 0, none⟩ us.length c us (by omega) (fun j y hj => by
    have : ((⟨g, 0, none⟩ : Addr).add j) = ⟨g, j, none⟩ := by simp [Addr.add]; exact Eq.symm
    rw [this]; exact h5 j y hj) h1 (by unfold maxLen; omega) (by omega)
  rw [upon9_eq, exec_append ho hs hx hr]
  refine h v' w' ?_
  unfold pVals at *
  rw [List.length_append]
  exact h2
theorem rV9_of {w0 w : World} {n : Nat} {F : Value → List Value → List Part} {v : Value} {vs : List Value} {L' : List Part} (hF : F v vs = pVals v vs :: L') (hl : vs.length = n) (h : Holds w0 w (F v vs)) : rV9 w0 n F v w := by
  have h' := h
  rw [hF] at h'
  obtain ⟨A, c, e⟩ := own_slice (h'.row 0 rfl)
  exact ⟨A, c, vs, by rw [e, hl], hl, h⟩
end Rd
theorem vals_one9 {w0 w : World} {vs : List Value} {cs : List (List Nat)} {L : List Part} (hl : vs.length = cs.length) (h : Holds w0 w L) (hs : ∀ a ∈ rowsP vs cs, a ∈ L) : ∀ x ∈ vs, x.oneCell' = true := by
  intro x hx
  obtain ⟨i, hi, rfl⟩ := List.getElem_of_mem hx
  have h1 := rowsP_at (List.getElem?_eq_getElem hi) (List.getElem?_eq_getElem (show i < cs.length by omega))
  have h2 := (h.2.1 _ (hs _ (List.mem_of_getElem? h1))).1
  obtain ⟨A, c, e⟩ := own_slice (show w.ownsRow 0 _ _ _ _ _ from h2)
  rw [e]; rfl
end Go.Proofs.Ytmapjjfefjoemaa

namespace Go.Proofs.Ytmapjjfefjoemaa
open Go.RowKit

theorem cycs_pos9 {p : Nat → Nat} {m : Nat} (hp : PermN p m) : 0 < (cycs p m).length := by
  have h0 := hp.1
  have hl := (cycs_flat hp.2.2.1 hp.2.1).length_eq
  rw [List.length_range] at hl
  rcases h : cycs p m with _ | ⟨c, cs⟩
  · rw [h] at hl; simp at hl; omega
  · simp
set_option maxRecDepth 100000 in
set_option maxHeartbeats 2000000 in
theorem sCycle_any (v : Value) (l : List Int) (f g : Nat → Nat) (m : Nat) (hd : DesN f g m) (hl : l.length = m) (hs : ∀ x ∈ l, -100000 ≤ x ∧ x ≤ 100000) (w : World) (hv : RdZ w v l) :
    Calls Try.prog 73 #[.agg (dv m f g), v] w fun e w' => e = .returned (.bool (cyc9 l f g m)) ∧ Below w.heap.size w w' := by
  have CB := hide fun w => sCycles_any f m hd.black w
  have CW := hide fun w => sCycles_any g m hd.white w
  have hcl : ∀ c ∈ cycs f m ++ cycs g m, c.length ≤ 16 ∧ ∀ x ∈ c, x < m := fun c hc => by
    rcases List.mem_append.1 hc with h | h
    · exact ⟨cyc_len9 hd.black h, fun x hx => cyc_lt9 hd.black h hx⟩
    · exact ⟨cyc_len9 hd.white h, fun x hx => cyc_lt9 hd.white h hx⟩
  have HCL := hide hcl; clear hcl
  have LB := hide (cycs_pos9 hd.black)
  have LW := hide (cycs_pos9 hd.white)
  have kb := cycs_le hd.black
  have kw := cycs_le hd.white
  have hm := hd.le
  obtain ⟨r, hr⟩ : ∃ r, r = cyc9 l f g m := ⟨_, rfl⟩
  rw [← hr]
  have HR := hide hr; clear hr
  unfold cyc9 at HR
  generalize cycs f m = cb at *
  generalize cycs g m = cw at *
  have KB := hide (show cb.length + cw.length ≤ 1000 by omega)
  clear kb kw
  have HS := hide hs; clear hs
  have HL := hide hl; clear hl
  have HV := hide hv
  clear hd
  obtain ⟨A0, c0, rfl, _⟩ := hv.form
  clear hv
  have HH0 := (Holds.start w).blk (dv m f g) 31 w.heap.size rfl
  have hn := dv_n m f g
  go_enter Try.func73, Try.ntmps73
  go_wp2
  apply Rd.region_RV9 (w0 := w) [pBlk w.heap.size (dv m f g) 31] [pBlk w.heap.size (dv m f g) 31] [0, 5, 6, 11, 12] (.q 1 <| .q 2 <| .q 3 <| .q 4 <| .q 7 <| .q 8 <| .q 9 <| .q 10 <| .s2 0 (.s1 5 <| .s1 6 <| .s1 11 <| .s1 12 <| .q 13 .fin) 5 (.s1 0 <| .s1 6 <| .s1 11 <| .s1 12 <| .q 13 .fin)) HH0 (.refl _) (by kernel_rfl) (by kernel_rfl) (by kernel_rfl) (R := Rd.rV9 w (cb.length + cw.length) fun q vs => pVals q vs :: (rowsP vs (cb ++ cw) ++ [pBlk w.heap.size (dv m f g) 31]))
  case h =>
    intro K key
    iterate 8
      apply Rd.v_q
      · simp only [List.getElem?_toArray, List.getElem?_cons_zero, List.getElem?_cons_succ]; exact rfl
      · rfl
      · go_simp
      · intro wx hx
        have q1 := hx.cells 0 rfl
        have q2 := hx.cell 0 rfl hn
        unfold atG
        go_simp
        simp only [uponG]
        exact ⟨by trivial, rfl⟩
    refine ⟨?_, ?_⟩
    · skip
      refine Rd.v_build #[] 25 0 (by simp only [List.getElem?_toArray, List.getElem?_cons_zero, List.getElem?_cons_succ]; exact rfl) rfl (by go_simp) (fun wx hx hD => by go_simp) fun g0 => ?_
      refine Rd.v_s9 (Rd.rV9 w cb.length fun v vs => pBlk g0 #[] 25 :: pVals v vs :: (rowsP vs cb ++ [pBlk w.heap.size (dv m f g) 31])) Rd.rV9_stable (by simp only [List.getElem?_toArray, List.getElem?_cons_zero, List.getElem?_cons_succ]; exact rfl) rfl (by go_simp) (fun wx hx hD => ?_) ?_
      · go_simp
        simp only [Rd.upon9_eq, Rd.uponE]
        refine ⟨by trivial, (CB.out wx).mono ?_⟩
        rintro e wy ⟨v, rfl, hb, ho⟩
        obtain ⟨A, c, vs, rfl, hv⟩ := own2_form ho
        have hj := hD.joinL (Holds.ofOwn2 hb hv)
        exact ⟨_, rfl, hx.call hb, A, c, vs, rfl, hv.len, hj.perm (List.Perm.cons _ List.perm_append_comm)⟩
      rintro v ⟨_, _, hv⟩
      obtain ⟨A1, c1, rfl⟩ := Rd.rV9_form hv
      clear hv
      refine Rd.v_s9 (Rd.rV9 w cb.length fun q vs => pVals q vs :: (rowsP vs cb ++ [pBlk w.heap.size (dv m f g) 31])) Rd.rV9_stable (by simp only [List.getElem?_toArray, List.getElem?_cons_zero, List.getElem?_cons_succ]; exact rfl) rfl (by go_simp) (fun wx hx hD => ?_) ?_
      · refine Rd.rV9_elim hD fun vs hl hH => ?_
        have hH2 := hH.noVals9 0 rfl
        refine Rd.upon_rows9 hH2 0 1 rfl rfl (by have := LB.out; omega) (vals_one9 hl hH2 (fun a ha => List.mem_cons_of_mem _ (List.mem_cons_of_mem _ (List.mem_append_left _ ha)))) (by have := KB.out; simp; omega) (fun v' w' h2 => ?_) _ _ rfl (by go_simp) (by go_simp)
        have h3 : Holds w w' (pVals v' vs :: (rowsP vs cb ++ [pBlk w.heap.size (dv m f g) 31])) := h2.sub (.cons_cons _ (.cons _ (.refl _)))
        exact ⟨h3.sub (.cons _ (List.sublist_append_right _ _)), Rd.rV9_of rfl hl h3⟩
      rintro v ⟨_, _, hv⟩
      obtain ⟨A2, c2, rfl⟩ := Rd.rV9_form hv
      clear hv
      refine Rd.v_s9 (Rd.rW9 w cw.length cb.length fun v us vs => pVals v us :: pVals (.slice A2 cb.length c2) vs :: (rowsP us cw ++ (rowsP vs cb ++ [pBlk w.heap.size (dv m f g) 31]))) Rd.rW9_stable (by simp only [List.getElem?_toArray, List.getElem?_cons_zero, List.getElem?_cons_succ]; exact rfl) rfl (by go_simp) (fun wx hx hD => ?_) ?_
      · refine Rd.rV9_elim hD fun vs hl hH => ?_
        go_simp
        simp only [Rd.upon9_eq, Rd.uponE]
        refine ⟨by trivial, (CW.out wx).mono ?_⟩
        rintro e wy ⟨v, rfl, hb, ho⟩
        obtain ⟨A, c, us, rfl, hv⟩ := own2_form ho
        have hj := hH.joinL (Holds.ofOwn2 hb hv)
        exact ⟨_, rfl, hx.call hb, A, c, us, vs, rfl, hv.len, hl, hj.perm (List.perm_append_comm.trans (List.Perm.cons _ List.perm_middle))⟩
      rintro v ⟨_, _, hv⟩
      obtain ⟨A3, c3, rfl⟩ := Rd.rW9_form hv
      clear hv
      refine Rd.v_s9 (Rd.rV9 w (cb.length + cw.length) fun q vs => pVals q vs :: (rowsP vs (cb ++ cw) ++ [pBlk w.heap.size (dv m f g) 31])) Rd.rV9_stable (by simp only [List.getElem?_toArray, List.getElem?_cons_zero, List.getElem?_cons_succ]; exact rfl) rfl (by go_simp) (fun wx hx hD => ?_) ?_
      · refine Rd.rW9_elim hD fun us vs hu hl hH => ?_
        refine Rd.upon_rows9 hH 1 0 rfl rfl (by have := LW.out; omega) (vals_one9 hu hH (fun a ha => List.mem_cons_of_mem _ (List.mem_cons_of_mem _ (List.mem_append_left _ ha)))) (by have := KB.out; omega) (fun v' w' h2 => ?_) _ _ rfl (by go_simp) (by go_simp)
        have h3 : Holds w w' (pVals v' (vs ++ us) :: (rowsP (vs ++ us) (cb ++ cw) ++ [pBlk w.heap.size (dv m f g) 31])) := by
          rw [rowsP_append9 hl]
          refine h2.tail.perm (List.Perm.cons _ ?_)
          rw [← List.append_assoc]
          exact List.perm_append_comm.append_right _
        exact ⟨h3.sub (.cons _ (List.sublist_append_right _ _)), Rd.rV9_of rfl (by rw [List.length_append, hl, hu]) h3⟩
      rintro v -
      iterate 1
        apply Rd.v_q
        · simp only [List.getElem?_toArray, List.getElem?_cons_zero, List.getElem?_cons_succ]; exact rfl
        · rfl
        · go_simp
        · intro wx hx
          unfold atG
          go_simp
          simp only [uponG]
          exact ⟨by trivial, rfl⟩
      rintro wz - hz
      go_simp
      exact key v g0 A1 c1 A2 c2 A3 c3 _ hz
    · skip
      refine Rd.v_s9 (Rd.rV9 w cb.length fun v vs => pVals v vs :: (rowsP vs cb ++ [pBlk w.heap.size (dv m f g) 31])) Rd.rV9_stable (by simp only [List.getElem?_toArray, List.getElem?_cons_zero, List.getElem?_cons_succ]; exact rfl) rfl (by go_simp) (fun wx hx hD => ?_) ?_
      · go_simp
        simp only [Rd.upon9_eq, Rd.uponE]
        refine ⟨by trivial, (CB.out wx).mono ?_⟩
        rintro e wy ⟨v, rfl, hb, ho⟩
        obtain ⟨A, c, vs, rfl, hv⟩ := own2_form ho
        have hj := hD.joinL (Holds.ofOwn2 hb hv)
        exact ⟨_, rfl, hx.call hb, A, c, vs, rfl, hv.len, hj.perm (List.perm_append_comm)⟩
      rintro v ⟨_, _, hv⟩
      obtain ⟨A1, c1, rfl⟩ := Rd.rV9_form hv
      clear hv
      refine Rd.v_s9 (Rd.rN9 w cb.length fun g0 vs => pBlk g0 #[] 25 :: pVals (.slice A1 cb.length c1) vs :: (rowsP vs cb ++ [pBlk w.heap.size (dv m f g) 31])) Rd.rN9_stable (by simp only [List.getElem?_toArray, List.getElem?_cons_zero, List.getElem?_cons_succ]; exact rfl) rfl (by go_simp) (fun wx hx hD => ?_) ?_
      · refine Rd.rV9_elim hD fun vs hl hH => ?_
        go_simp
        simp only [Rd.upon9_eq, Rd.uponE]
        exact ⟨hx.alloc _, _, vs, rfl, hl, hH.blk _ _ _ rfl⟩
      rintro v0 ⟨_, _, hv⟩
      obtain ⟨g0, rfl⟩ := Rd.rN9_form hv
      clear hv
      refine Rd.v_s9 (Rd.rV9 w cb.length fun q vs => pVals q vs :: (rowsP vs cb ++ [pBlk w.heap.size (dv m f g) 31])) Rd.rV9_stable (by simp only [List.getElem?_toArray, List.getElem?_cons_zero, List.getElem?_cons_succ]; exact rfl) rfl (by go_simp) (fun wx hx hD => ?_) ?_
      · refine Rd.rN9_elim hD fun vs hl hH => ?_
        have hH2 := hH.noVals9 0 rfl
        refine Rd.upon_rows9 hH2 0 1 rfl rfl (by have := LB.out; omega) (vals_one9 hl hH2 (fun a ha => List.mem_cons_of_mem _ (List.mem_cons_of_mem _ (List.mem_append_left _ ha)))) (by have := KB.out; simp; omega) (fun v' w' h2 => ?_) _ _ rfl (by go_simp) (by go_simp)
        have h3 : Holds w w' (pVals v' vs :: (rowsP vs cb ++ [pBlk w.heap.size (dv m f g) 31])) := h2.sub (.cons_cons _ (.cons _ (.refl _)))
        exact ⟨h3.sub (.cons _ (List.sublist_append_right _ _)), Rd.rV9_of rfl hl h3⟩
      rintro v ⟨_, _, hv⟩
      obtain ⟨A2, c2, rfl⟩ := Rd.rV9_form hv
      clear hv
      refine Rd.v_s9 (Rd.rW9 w cw.length cb.length fun v us vs => pVals v us :: pVals (.slice A2 cb.length c2) vs :: (rowsP us cw ++ (rowsP vs cb ++ [pBlk w.heap.size (dv m f g) 31]))) Rd.rW9_stable (by simp only [List.getElem?_toArray, List.getElem?_cons_zero, List.getElem?_cons_succ]; exact rfl) rfl (by go_simp) (fun wx hx hD => ?_) ?_
      · refine Rd.rV9_elim hD fun vs hl hH => ?_
        go_simp
        simp only [Rd.upon9_eq, Rd.uponE]
        refine ⟨by trivial, (CW.out wx).mono ?_⟩
        rintro e wy ⟨v, rfl, hb, ho⟩
        obtain ⟨A, c, us, rfl, hv⟩ := own2_form ho
        have hj := hH.joinL (Holds.ofOwn2 hb hv)
        exact ⟨_, rfl, hx.call hb, A, c, us, vs, rfl, hv.len, hl, hj.perm (List.perm_append_comm.trans (List.Perm.cons _ List.perm_middle))⟩
      rintro v ⟨_, _, hv⟩
      obtain ⟨A3, c3, rfl⟩ := Rd.rW9_form hv
      clear hv
      refine Rd.v_s9 (Rd.rV9 w (cb.length + cw.length) fun q vs => pVals q vs :: (rowsP vs (cb ++ cw) ++ [pBlk w.heap.size (dv m f g) 31])) Rd.rV9_stable (by simp only [List.getElem?_toArray, List.getElem?_cons_zero, List.getElem?_cons_succ]; exact rfl) rfl (by go_simp) (fun wx hx hD => ?_) ?_
      · refine Rd.rW9_elim hD fun us vs hu hl hH => ?_
        refine Rd.upon_rows9 hH 1 0 rfl rfl (by have := LW.out; omega) (vals_one9 hu hH (fun a ha => List.mem_cons_of_mem _ (List.mem_cons_of_mem _ (List.mem_append_left _ ha)))) (by have := KB.out; omega) (fun v' w' h2 => ?_) _ _ rfl (by go_simp) (by go_simp)
        have h3 : Holds w w' (pVals v' (vs ++ us) :: (rowsP (vs ++ us) (cb ++ cw) ++ [pBlk w.heap.size (dv m f g) 31])) := by
          rw [rowsP_append9 hl]
          refine h2.tail.perm (List.Perm.cons _ ?_)
          rw [← List.append_assoc]
          exact List.perm_append_comm.append_right _
        exact ⟨h3.sub (.cons _ (List.sublist_append_right _ _)), Rd.rV9_of rfl (by rw [List.length_append, hl, hu]) h3⟩
      rintro v -
      iterate 1
        apply Rd.v_q
        · simp only [List.getElem?_toArray, List.getElem?_cons_zero, List.getElem?_cons_succ]; exact rfl
        · rfl
        · go_simp
        · intro wx hx
          unfold atG
          go_simp
          simp only [uponG]
          exact ⟨by trivial, rfl⟩
      rintro wz - hz
      go_simp
      exact key v g0 A1 c1 A2 c2 A3 c3 _ hz
  intro q g0 A1 c1 A2 c2 A3 c3 w2 hR
  obtain ⟨A, c, vs, rfl, hvl, H1⟩ := hR
  clear HH0
  have HCS := hide (show cb.length + cw.length = (cb ++ cw).length from List.length_append.symm)
  have HCL2 := HCL
  have HVL := hide (hvl.trans HCS.out)
  have hk1 := KB.out
  rw [HCS.out] at H1 hk1 ⊢
  clear hvl HCS HCL CB CW LB LW KB
  generalize cb ++ cw = cs at *
  have H2 : Holds w w2 (pVals (.slice A cs.length c) vs :: (rowsP vs cs ++ [pBlk w.heap.size (dv m f g) 31])) := H1
  have hK : vs.length = cs.length := HVL.out
  clear H1
  have H3 : Holds w w2 (pVals (.slice A cs.length c) vs :: rowsP vs cs) := H2.sub (.cons_cons _ (List.sublist_append_left _ _))
  clear H2 hK
  go_wp2
  go_loopw [6] (fun t wq => ∃ i : Nat, i ≤ cs.length ∧ t = .int .i64 i ∧ Hid (∀ j (hj : j < cs.length), j < i → (sm9 l cs[j] != 0) = false) ∧ Holds w wq (pVals (.slice A cs.length c) vs :: rowsP vs cs)) (fun t _ => cs.length - (intOf t).toNat)
  case atStart => exact ⟨0, Nat.zero_le _, rfl, hide (fun j hj h => by omega), H3⟩
  case round =>
    clear H3
    obtain ⟨i, hi, rfl, hZ, hH⟩ := hrel
    by_cases hil : i < cs.length
    · have hil' : (i : Int) < cs.length := by omega
      obtain ⟨g0, d0, A', c', e0, hvi, x1, hpart⟩ := hH.rowAt HVL.out 0 rfl (fun _ => rfl) hil
      injection e0 with e0 e0a e0b
      subst e0
      clear e0a e0b hvi
      have hmem := List.getElem_mem hil
      obtain ⟨hci, hcx⟩ := HCL2.out _ hmem
      have HCX := hide hcx; clear hcx
      have RU := hide (rd_nums (hH.own1 (i + (0 + 1)) hpart) (by omega))
      have RV := hide (HV.out.below hH.low (Nat.le_refl _))
      have HZ1 := hide (fun (h : (sm9 l cs[i] != 0) = false) => (fun (j : Nat) (hj : j < cs.length) (h2 : j < i + 1) => (by
          by_cases e : j = i
          · subst e; exact h
          · exact hZ.out j hj (by omega) : (sm9 l cs[j] != 0) = false)))
      have HZ2 := hide (fun (h : (sm9 l cs[i] != 0) = true) => (by rw [HR.out]; exact zer9_bad hil h : r = false))
      clear hpart hmem hZ
      generalize cs[i] = ci at *
      go_wp2
      go_loopw [7, 8] (fun s t wx => ∃ j : Nat, j ≤ ci.length ∧ t = .int .i64 j ∧ s = .int .i64 (sm9 l (ci.take j)) ∧ wr = wx) (fun _ t _ => ci.length - (intOf t).toNat)
      case atStart => exact ⟨0, Nat.zero_le _, rfl, rfl, rfl⟩
      case round =>
        obtain ⟨j, hj, rfl, rfl, rfl⟩ := hrel
        by_cases hjl : j < ci.length
        · have hzs := sm9_take l ci hjl
          have hjl' : j < (zs9 ci).length := by rw [zs9_length]; exact hjl
          obtain ⟨b0, rfl, _, d1⟩ := RU.out.at hjl'
          rw [zs9_get hjl] at d1
          have hxl := HCX.out _ (List.getElem_mem hjl)
          have hxm := HL.out
          generalize ci[j] = x at *
          have hxl' : x < l.length := by omega
          obtain ⟨a0, rfl, _, d2⟩ := RV.out.at hxl'
          rw [List.getD_eq_getElem?_getD, List.getElem?_eq_getElem hxl', Option.getD_some] at hzs
          have hb := sm9_bound (K := 100000) (by omega) HS.out (ci.take j)
          have hb2 := HS.out _ (List.getElem_mem hxl')
          rw [List.length_take] at hb
          generalize l[x] = y at *
          generalize sm9 l (ci.take j) = s at *
          have ws : wrap64 (s + y) = s + y := wr64 (by omega) (by omega)
          have HZS := hide hzs; clear hzs hb hb2 hjl' hxm
          have hx' : (x : Int) < l.length := by omega
          go_wp2
          go_roundw
          case rel => exact ⟨j + 1, by omega, by go_num, by rw [HZS.out, ws], by trivial⟩
          case measure => simp [intOf]; omega
        · obtain rfl : j = ci.length := by omega
          rw [List.take_length]
          clear hjl hj
          rcases hz : (sm9 l ci != 0) with _ | _
          · have hF := hide (HZ1.out hz)
            generalize sm9 l ci = s at *
            go_wp2
            go_roundw
            case rel => exact ⟨i + 1, by omega, by go_num, hF, hH⟩
            case measure => simp [intOf]; omega
          · have hF := hide (HZ2.out hz)
            generalize sm9 l ci = s at *
            go_wp2
            go_ret
            exact ⟨by rw [hF.out]; rfl, hH.low⟩
    · obtain rfl : i = cs.length := by omega
      have hF := hide (show r = true by rw [HR.out]; exact zer9_good fun j hj => hZ.out j hj hj)
      clear hZ hi hil
      go_wp2
      go_ret
      exact ⟨by rw [hF.out]; rfl, hH.low⟩
end Go.Proofs.Ytmapjjfefjoemaa

namespace Go.Proofs.Ytmapjjfefjoemaa
open Go.RowKit

open Classical in
noncomputable def icR (n : Int) (f g : Nat → Nat) (l : List Int) : Bool := if desB n f g = true ∧ lstB l n (-1000) 1000 = true then cyc9 l f g n.toNat else false
open Classical in
noncomputable def icC (n : Int) (f g : Nat → Nat) (l : List Int) : Int := if desB n f g = true then (if lstB l n (-1000) 1000 = true then 0 else 2) else 1
set_option maxRecDepth 100000 in
set_option maxHeartbeats 1000000 in
theorem isChain_any (n : Int) (f g : Nat → Nat) (v : Value) (l : List Int) (w : World) (hv : RdZ w v l) :
    Calls Try.prog 74 #[.agg (dv n f g), v] w fun e w' => e = .returned (.bool (lstB l n (-1000) 1000)) ∧ Below w.heap.size w w' := by
  have hn := dv_n n f g
  have HH0 := (Holds.start w).blk (dv n f g) 31 w.heap.size rfl
  have HV := hide (hv.below HH0.low (Nat.le_refl _)); clear hv
  have CI := hide fun w hv => areNumbersIn_any v l n (-1000) 1000 w hv
  generalize lstB l n (-1000) 1000 = r at *
  go_enter Try.func74, Try.ntmps74
  go_wp2_with fail
  refine (CI.out _ HV.out).mono ?_
  rintro e w1 ⟨rfl, rfl⟩
  go_wp2
  go_ret
  exact ⟨rfl, HH0.low⟩
set_option maxRecDepth 100000 in
set_option maxHeartbeats 1000000 in
theorem l09Chain_any (n : Int) (f g : Nat → Nat) (v : Value) (l : List Int) (w : World) (hv : RdZ w v l) :
    Calls Try.prog 72 #[.agg (dv n f g), v] w fun e w' => e = .returned (.bool (lstB l n (-1000) 1000)) ∧ Below w.heap.size w w' := by
  have hn := dv_n n f g
  have HH0 := (Holds.start w).blk (dv n f g) 31 w.heap.size rfl
  have HV := hide (hv.below HH0.low (Nat.le_refl _)); clear hv
  have CI := hide fun w hv => l09List_any v l n (-1000) 1000 w hv
  generalize lstB l n (-1000) 1000 = r at *
  go_enter Try.func72, Try.ntmps72
  go_wp2_with fail
  refine (CI.out _ HV.out).mono ?_
  rintro e w1 ⟨rfl, rfl⟩
  go_wp2
  go_ret
  exact ⟨rfl, HH0.low⟩
set_option maxRecDepth 100000 in
set_option maxHeartbeats 1000000 in
theorem isCycleD_any (n : Int) (f g : Nat → Nat) (hf : ∀ i, f i < 256) (hg : ∀ i, g i < 256) (v : Value) (l : List Int) (w : World) (hv : RdZ w v l) :
    Calls Try.prog 35 #[.agg (dv n f g), v] w fun e w' => e = .returned (.tuple #[.bool (icR n f g l), .int .i64 (icC n f g l)]) ∧ Below w.heap.size w w' := by
  have C1 := hide fun w => isDessin_any n f g hf hg w
  clear hf hg
  have HV := hide hv; clear hv
  have HH0 := (Holds.start w).blk (dv n f g) 31 w.heap.size rfl
  rcases h1 : desB n f g with _ | _
  · rw [h1] at C1
    rw [show icR n f g l = false from if_neg (by simp [h1]), show icC n f g l = 1 from by unfold icC; rw [if_neg (by simp [h1])]]
    clear h1
    go_enter Try.func35, Try.ntmps35
    go_wp2_with fail
    refine (C1.out _).mono ?_
    rintro e w1 ⟨rfl, hb⟩
    have HH1 := HH0.call hb
    go_wp2
    go_ret2
    exact ⟨rfl, HH1.low⟩
  rw [h1] at C1
  obtain ⟨m, rfl, hd⟩ := desB_true h1
  have C2 := hide fun w hv => isChain_any (m : Int) f g v l w hv
  rcases h2 : lstB l (m : Int) (-1000) 1000 with _ | _
  · rw [h2] at C2
    rw [show icR m f g l = false from if_neg (by simp [h2]), show icC m f g l = 2 from by unfold icC; rw [if_pos h1, if_neg (by simp [h2])]]
    clear h1 h2 hd
    go_enter Try.func35, Try.ntmps35
    go_wp2_with fail
    refine (C1.out _).mono ?_
    rintro e w1 ⟨rfl, hb⟩
    have HH1 := HH0.call hb
    have cd1 := HH1.cells 0 rfl
    clear hb HH0
    go_wp2_with fail
    refine (C2.out _ (HV.out.below HH1.low (Nat.le_refl _))).mono ?_
    rintro e w2 ⟨rfl, hb⟩
    have HH2 := HH1.call hb
    clear hb HH1 cd1
    go_wp2
    go_ret2
    exact ⟨rfl, HH2.low⟩
  rw [h2] at C2
  obtain ⟨hl, hs⟩ := lstB_true h2
  have C3 := hide fun w hv => isCycle_any v l f g m hd (by omega) (fun x hx => by have := hs x hx; omega) w hv
  rw [show icR m f g l = cyc9 l f g m from by unfold icR; rw [if_pos ⟨h1, h2⟩, Int.toNat_natCast], show icC m f g l = 0 from by unfold icC; rw [if_pos h1, if_pos h2]]
  clear h1 h2 hd hl hs
  generalize cyc9 l f g m = r at *
  go_enter Try.func35, Try.ntmps35
  go_wp2_with fail
  refine (C1.out _).mono ?_
  rintro e w1 ⟨rfl, hb⟩
  have HH1 := HH0.call hb
  have cd1 := HH1.cells 0 rfl
  clear hb HH0
  go_wp2_with fail
  refine (C2.out _ (HV.out.below HH1.low (Nat.le_refl _))).mono ?_
  rintro e w2 ⟨rfl, hb⟩
  have HH2 := HH1.call hb
  have cd2 := HH2.cells 0 rfl
  clear hb HH1 cd1
  go_wp2_with fail
  refine (C3.out _ (HV.out.below HH2.low (Nat.le_refl _))).mono ?_
  rintro e w3 ⟨rfl, hb⟩
  have HH3 := HH2.call hb
  clear hb HH2 cd2
  go_wp2
  go_ret2
  exact ⟨rfl, HH3.low⟩
set_option maxRecDepth 100000 in
set_option maxHeartbeats 1000000 in
theorem sIsCycleD_any (n : Int) (f g : Nat → Nat) (hf : ∀ i, f i < 256) (hg : ∀ i, g i < 256) (v : Value) (l : List Int) (w : World) (hv : RdZ w v l) :
    Calls Try.prog 34 #[.agg (dv n f g), v] w fun e w' => e = .returned (.tuple #[.bool (icR n f g l), .int .i64 (icC n f g l)]) ∧ Below w.heap.size w w' := by
  have C1 := hide fun w => sIs_any n f g hf hg w
  clear hf hg
  have HV := hide hv; clear hv
  have HH0 := (Holds.start w).blk (dv n f g) 31 w.heap.size rfl
  rcases h1 : desB n f g with _ | _
  · rw [h1] at C1
    rw [show icR n f g l = false from if_neg (by simp [h1]), show icC n f g l = 1 from by unfold icC; rw [if_neg (by simp [h1])]]
    clear h1
    go_enter Try.func34, Try.ntmps34
    go_wp2_with fail
    refine (C1.out _).mono ?_
    rintro e w1 ⟨rfl, hb⟩
    have HH1 := HH0.call hb
    go_wp2
    go_ret2
    exact ⟨rfl, HH1.low⟩
  rw [h1] at C1
  obtain ⟨m, rfl, hd⟩ := desB_true h1
  have C2 := hide fun w hv => l09Chain_any (m : Int) f g v l w hv
  rcases h2 : lstB l (m : Int) (-1000) 1000 with _ | _
  · rw [h2] at C2
    rw [show icR m f g l = false from if_neg (by simp [h2]), show icC m f g l = 2 from by unfold icC; rw [if_pos h1, if_neg (by simp [h2])]]
    clear h1 h2 hd
    go_enter Try.func34, Try.ntmps34
    go_wp2_with fail
    refine (C1.out _).mono ?_
    rintro e w1 ⟨rfl, hb⟩
    have HH1 := HH0.call hb
    have cd1 := HH1.cells 0 rfl
    clear hb HH0
    go_wp2_with fail
    refine (C2.out _ (HV.out.below HH1.low (Nat.le_refl _))).mono ?_
    rintro e w2 ⟨rfl, hb⟩
    have HH2 := HH1.call hb
    clear hb HH1 cd1
    go_wp2
    go_ret2
    exact ⟨rfl, HH2.low⟩
  rw [h2] at C2
  obtain ⟨hl, hs⟩ := lstB_true h2
  have C3 := hide fun w hv => sCycle_any v l f g m hd (by omega) (fun x hx => by have := hs x hx; omega) w hv
  rw [show icR m f g l = cyc9 l f g m from by unfold icR; rw [if_pos ⟨h1, h2⟩, Int.toNat_natCast], show icC m f g l = 0 from by unfold icC; rw [if_pos h1, if_pos h2]]
  clear h1 h2 hd hl hs
  generalize cyc9 l f g m = r at *
  go_enter Try.func34, Try.ntmps34
  go_wp2_with fail
  refine (C1.out _).mono ?_
  rintro e w1 ⟨rfl, hb⟩
  have HH1 := HH0.call hb
  have cd1 := HH1.cells 0 rfl
  clear hb HH0
  go_wp2_with fail
  refine (C2.out _ (HV.out.below HH1.low (Nat.le_refl _))).mono ?_
  rintro e w2 ⟨rfl, hb⟩
  have HH2 := HH1.call hb
  have cd2 := HH2.cells 0 rfl
  clear hb HH1 cd1
  go_wp2_with fail
  refine (C3.out _ (HV.out.below HH2.low (Nat.le_refl _))).mono ?_
  rintro e w3 ⟨rfl, hb⟩
  have HH3 := HH2.call hb
  clear hb HH2 cd2
  go_wp2
  go_ret2
  exact ⟨rfl, HH3.low⟩
end Go.Proofs.Ytmapjjfefjoemaa

namespace Go.Proofs.Ytmapjjfefjoemaa
open Go.RowKit

def pr9 (a b : List Int) (x y : Nat) : Int := a.getD x 0 * b.getD y 0 - a.getD y 0 * b.getD x 0
def in9 (a b : List Int) (pre : List Nat) (y : Nat) : Int := (pre.map fun x => pr9 a b x y).sum
def rw9 (a b : List Int) (c : List Nat) (j : Nat) : Int := ((List.range j).map fun k => in9 a b (c.take k) (c.getD k 0)).sum
def tt9 (a b : List Int) (cs : List (List Nat)) : Int := (cs.map fun c => rw9 a b c c.length).sum
theorem in9_succ (a b : List Int) (pre : List Nat) (y i : Nat) (h : i < pre.length) : in9 a b (pre.take (i + 1)) y = in9 a b (pre.take i) y + pr9 a b pre[i] y := by
  unfold in9; rw [List.take_succ_eq_append_getElem h, List.map_append, List.sum_append]; simp
theorem rw9_succ (a b : List Int) (c : List Nat) (j : Nat) : rw9 a b c (j + 1) = rw9 a b c j + in9 a b (c.take j) (c.getD j 0) := by
  unfold rw9; rw [List.range_succ, List.map_append, List.sum_append]; simp
theorem tt9_succ (a b : List Int) (cs : List (List Nat)) (i : Nat) (h : i < cs.length) : tt9 a b (cs.take (i + 1)) = tt9 a b (cs.take i) + rw9 a b cs[i] cs[i].length := by
  unfold tt9; rw [List.take_succ_eq_append_getElem h, List.map_append, List.sum_append]; simp
theorem tt9_append (a b : List Int) (cs ds : List (List Nat)) : tt9 a b (cs ++ ds) = tt9 a b cs + tt9 a b ds := by unfold tt9; rw [List.map_append, List.sum_append]
def mee9 (a b : List Int) (f g : Nat → Nat) (m : Nat) : Int := (tt9 a b (cycs f m ++ cycs g m)).tdiv 2
/-- numbers of a chain -/
def sml9 (l : List Int) : Prop := ∀ x ∈ l, -100000 ≤ x ∧ x ≤ 100000
theorem sml9_get {l : List Int} (h : sml9 l) (x : Nat) : -100000 ≤ l.getD x 0 ∧ l.getD x 0 ≤ 100000 := by
  rw [List.getD_eq_getElem?_getD]
  rcases e : l[x]? with _ | y
  · simp
  · exact h y (List.mem_of_getElem? e)
theorem mul_bound9 {p q : Int} (hp : -100000 ≤ p ∧ p ≤ 100000) (hq : -100000 ≤ q ∧ q ≤ 100000) : -10000000000 ≤ p * q ∧ p * q ≤ 10000000000 := by
  constructor
  · rcases Int.le_total 0 q with h | h
    · have := Int.mul_le_mul_of_nonneg_right hp.1 h; omega
    · have := Int.mul_le_mul_of_nonpos_right hp.2 h; omega
  · rcases Int.le_total 0 q with h | h
    · have := Int.mul_le_mul_of_nonneg_right hp.2 h; omega
    · have := Int.mul_le_mul_of_nonpos_right hp.1 h; omega
theorem pr9_bound {a b : List Int} (ha : sml9 a) (hb : sml9 b) (x y : Nat) : -20000000000 ≤ pr9 a b x y ∧ pr9 a b x y ≤ 20000000000 := by
  have h1 := mul_bound9 (sml9_get ha x) (sml9_get hb y)
  have h2 := mul_bound9 (sml9_get ha y) (sml9_get hb x)
  unfold pr9; omega
theorem sum_bound9 {α : Type} (F : α → Int) (K : Int) : ∀ (l : List α), (∀ x ∈ l, -K ≤ F x ∧ F x ≤ K) → -(K * l.length) ≤ (l.map F).sum ∧ (l.map F).sum ≤ K * l.length
  | [], _ => by simp
  | x :: l, h => by
    have h1 := h x List.mem_cons_self
    have h2 := sum_bound9 F K l fun y hy => h y (List.mem_cons_of_mem _ hy)
    rw [List.map_cons, List.sum_cons, List.length_cons, Int.natCast_add, Int.mul_add]
    omega
theorem in9_bound {a b : List Int} (ha : sml9 a) (hb : sml9 b) (pre : List Nat) (y : Nat) (hp : pre.length ≤ 16) : -320000000000 ≤ in9 a b pre y ∧ in9 a b pre y ≤ 320000000000 := by
  have := sum_bound9 (fun x => pr9 a b x y) 20000000000 pre fun x _ => pr9_bound ha hb x y
  unfold in9; omega
theorem rw9_bound {a b : List Int} (ha : sml9 a) (hb : sml9 b) (c : List Nat) (hc : c.length ≤ 16) (j : Nat) (hj : j ≤ 16) : -5120000000000 ≤ rw9 a b c j ∧ rw9 a b c j ≤ 5120000000000 := by
  have := sum_bound9 (fun k => in9 a b (c.take k) (c.getD k 0)) 320000000000 (List.range j) fun k _ => in9_bound ha hb _ _ (by rw [List.length_take]; omega)
  rw [List.length_range] at this
  unfold rw9; omega
theorem tt9_bound {a b : List Int} (ha : sml9 a) (hb : sml9 b) (cs : List (List Nat)) (hc : ∀ c ∈ cs, c.length ≤ 16) (hn : cs.length ≤ 100) : -512000000000000 ≤ tt9 a b cs ∧ tt9 a b cs ≤ 512000000000000 := by
  have := sum_bound9 (fun c => rw9 a b c c.length) 5120000000000 cs fun c h => rw9_bound ha hb c (hc c h) _ (hc c h)
  unfold tt9; omega
theorem getD_at9 {l : List Int} {x : Nat} (h : x < l.length) : l.getD x 0 = l[x] := by rw [List.getD_eq_getElem?_getD, List.getElem?_eq_getElem h, Option.getD_some]
theorem getD_at9n {l : List Nat} {x : Nat} (h : x < l.length) : l.getD x 0 = l[x] := by rw [List.getD_eq_getElem?_getD, List.getElem?_eq_getElem h, Option.getD_some]
/-- the sums of the first k permutations -/
def tk9 (a b : List Int) (f g : Nat → Nat) (m k : Nat) : Int := if k = 0 then 0 else if k = 1 then tt9 a b (cycs f m) else tt9 a b (cycs f m) + tt9 a b (cycs g m)
theorem tk9_succ (a b : List Int) (f g : Nat → Nat) (m k : Nat) (hk : k < 2) : tk9 a b f g m (k + 1) = tk9 a b f g m k + tt9 a b (cycs (pick2 f g k) m) := by
  have : k = 0 ∨ k = 1 := by omega
  rcases this with rfl | rfl
  · simp [tk9, pick2]
  · simp [tk9, pick2]
end Go.Proofs.Ytmapjjfefjoemaa

namespace Go.Proofs.Ytmapjjfefjoemaa
open Go.RowKit

set_option maxRecDepth 100000 in
set_option maxHeartbeats 4000000 in
theorem intersection_any (v u : Value) (a b : List Int) (f g : Nat → Nat) (m : Nat) (hd : DesN f g m) (hla : a.length = m) (hlb : b.length = m) (hsa : sml9 a) (hsb : sml9 b) (w : World) (hv : RdZ w v a) (hu : RdZ w u b) :
    Calls Try.prog 82 #[.agg (dv m f g), v, u] w fun e w' => e = .returned (.int .i64 (mee9 a b f g m)) ∧ Below w.heap.size w w' := by
  have CL := hide fun (k : Nat) w => cycleList_any (pick2 f g k) m (pick2_perm hd) w
  have CB := hide fun (k : Nat) (x : Nat) (c : List Nat) (h1 : c ∈ cycs (pick2 f g k) m) (h2 : x ∈ c) => cyc_lt9 (pick2_perm hd) h1 h2
  have CN := hide fun (k : Nat) (c : List Nat) (h1 : c ∈ cycs (pick2 f g k) m) => cyc_len9 (pick2_perm hd) h1
  have CK := hide fun (k : Nat) => cycs_le (pick2_perm (k := k) hd)
  have hm := hd.le
  have hT : ∀ k, k ≤ 2 → -1024000000000000 ≤ tk9 a b f g m k ∧ tk9 a b f g m k ≤ 1024000000000000 := fun k hk => by
    have h1 := tt9_bound hsa hsb (cycs f m) (fun c h => cyc_len9 hd.black h) (by have := cycs_le hd.black; omega)
    have h2 := tt9_bound hsa hsb (cycs g m) (fun c h => cyc_len9 hd.white h) (by have := cycs_le hd.white; omega)
    unfold tk9; split
    · omega
    · split <;> omega
  have HT := hide hT; clear hT
  have HR : Hid (mee9 a b f g m = (tk9 a b f g m 2).tdiv 2) := hide (by unfold mee9; rw [tt9_append]; rfl)
  obtain ⟨r, hr⟩ : ∃ r, r = mee9 a b f g m := ⟨_, rfl⟩
  rw [← hr]
  have HR2 := hide (hr.trans HR.out); clear hr HR
  have HSA := hide hsa; clear hsa
  have HSB := hide hsb; clear hsb
  have HLA := hide hla; clear hla
  have HLB := hide hlb; clear hlb
  have HV := hide hv
  have HU := hide hu
  clear hd
  obtain ⟨A0, c0, rfl, _⟩ := hv.form
  obtain ⟨B0, d0, rfl, _⟩ := hu.form
  clear hv hu
  have HH0 := (Holds.start w).blk (dv m f g) 31 w.heap.size rfl
  have hn := dv_n m f g
  go_enter Try.func82, Try.ntmps82
  go_wp2
  go_loopw [7, 21] (fun s t wr => ∃ k : Nat, k ≤ 2 ∧ t = .int .i64 k ∧ s = .int .i64 (tk9 a b f g m k) ∧ Holds w wr [pBlk w.heap.size (dv m f g) 31]) (fun _ t _ => 2 - (intOf t).toNat)
  case atStart => exact ⟨0, Nat.zero_le _, rfl, rfl, HH0⟩
  case round =>
    clear HH0
    obtain ⟨k, hk, rfl, rfl, hH⟩ := hrel
    have hs0 := HT.out k hk
    by_cases hlt : k < 2
    · have hlti : (k : Int) < 2 := by omega
      have cn := hH.cell 0 rfl hn
      have HB := (hH.blk (av (pick2 f g k)) 29 wr.heap.size rfl)
      have cn2 := hH.lt 0 rfl
      have cd2 := hH.cells 0 rfl
      have CL2 := hide fun w => CL.out k w
      have CB2 := hide fun x c h1 h2 => CB.out k x c h1 h2
      have CN2 := hide fun c h1 => CN.out k c h1
      have hK := CK.out k
      have HTS := hide (tk9_succ a b f g m k hlt)
      generalize tk9 a b f g m k = s0 at *
      generalize cycs (pick2 f g k) m = cs at *
      go_wp2_with fail
      refine (CL2.out _).mono ?_
      rintro e w1 ⟨v1, rfl, hb, ho⟩
      obtain ⟨A, c, vs, rfl, hv⟩ := own2_form ho
      have HLV := hide hv.len
      have H1 := (HB.joinL (Holds.ofOwn2 hb hv)).tail
      clear hb ho hv HB hH cn cn2 cd2
      go_wp2
      go_loopw [7, 29] (fun s t wq => ∃ i : Nat, i ≤ cs.length ∧ t = .int .i64 i ∧ s = .int .i64 (s0 + tt9 a b (cs.take i)) ∧ Holds w wq (pBlk w.heap.size (dv m f g) 31 :: pVals (.slice A cs.length c) vs :: rowsP vs cs)) (fun _ t _ => cs.length - (intOf t).toNat)
      case atStart => exact ⟨0, Nat.zero_le _, rfl, by simp [tt9], H1⟩
      case round =>
        clear H1
        obtain ⟨i, hi, rfl, rfl, hH⟩ := hrel
        have hs1 := tt9_bound HSA.out HSB.out (cs.take i) (fun c h => CN2.out c (List.mem_of_mem_take h)) (by rw [List.length_take]; omega)
        by_cases hil : i < cs.length
        · have hil' : (i : Int) < cs.length := by omega
          obtain ⟨g0, e0, A', c', f0, hvi, x1, hpart⟩ := hH.rowAt HLV.out 1 rfl (fun _ => rfl) hil
          injection f0 with f0 f0a f0b
          subst f0
          clear f0a f0b hvi
          have hmem := List.getElem_mem hil
          have hci := CN2.out _ hmem
          have HX := hide (fun x hx => CB2.out x _ hmem hx)
          have HTI := hide (tt9_succ a b cs i hil)
          have hrow := hH.row (i + (1 + 1)) hpart
          have HCAP : cs[i].length ≤ c' := by
            rcases hrow.2 with ⟨e1, e2⟩ | ⟨_, _, _, e1, _, _, e2, _⟩
            · injection e1 with _ e1 e3; omega
            · injection e1 with _ _ e1; omega
          have HPT := hide hpart
          have hrwb := fun j (hj : j ≤ 16) => rw9_bound HSA.out HSB.out cs[i] hci j hj
          have HRWB := hide hrwb; clear hrwb
          clear hpart hmem hrow
          generalize tt9 a b (cs.take i) = t0 at *
          have HILL := hide hil
          generalize cs[i] = ci at *
          go_wp2
          go_loopw [7, 35] (fun s t wx => ∃ j : Nat, j ≤ ci.length ∧ t = .int .i64 j ∧ s = .int .i64 (s0 + t0 + rw9 a b ci j) ∧ Holds w wx (pBlk w.heap.size (dv m f g) 31 :: pVals (.slice (some ⟨g0, 0, none⟩) cs.length c) vs :: rowsP vs cs)) (fun _ t _ => ci.length - (intOf t).toNat)
          case atStart => exact ⟨0, Nat.zero_le _, rfl, by simp [rw9], hH⟩
          case round =>
            clear hH
            obtain ⟨j, hj, rfl, rfl, hH⟩ := hrel
            have hs2 := HRWB.out j (by omega)
            by_cases hjl : j < ci.length
            · have RU := hide (rd_nums (hH.own1 (i + (1 + 1)) HPT.out) (by omega))
              have hjl' : j < (zs9 ci).length := by rw [zs9_length]; exact hjl
              obtain ⟨p0, rfl, _, d1⟩ := RU.out.at hjl'
              rw [zs9_get hjl] at d1
              clear RU
              have hyl := HX.out _ (List.getElem_mem hjl)
              have HRS := rw9_succ a b ci j
              rw [getD_at9n hjl] at HRS
              have HRS2 := hide HRS; clear HRS
              have hpl : (ci.take j).length = j := by rw [List.length_take]; omega
              have HPG := hide (fun i4 (h : i4 < j) => (by rw [List.getElem_take] : (ci.take j)[i4]'(by omega) = ci[i4]'(by omega)))
              have HIB := hide (fun i4 => in9_bound HSA.out HSB.out ((ci.take j).take i4) ci[j] (by rw [List.length_take, hpl]; omega))
              generalize rw9 a b ci j = r0 at *
              generalize ci[j] = y at *
              have hji : (j : Int) ≤ c' := by omega
              have hji0 : (0 : Int) ≤ j := by omega
              go_wp2
              go_loopw [7, 44] (fun s t wx => ∃ q : Nat, q ≤ j ∧ t = .int .i64 q ∧ s = .int .i64 (s0 + t0 + r0 + in9 a b ((ci.take j).take q) y) ∧ Holds w wx (pBlk w.heap.size (dv m f g) 31 :: pVals (.slice (some ⟨g0, 0, none⟩) cs.length c) vs :: rowsP vs cs)) (fun _ t _ => j - (intOf t).toNat)
              case atStart => exact ⟨0, Nat.zero_le _, rfl, by simp [in9], hH⟩
              case round =>
                clear hH
                obtain ⟨q, hq, rfl, rfl, hH⟩ := hrel
                have hib := HIB.out q
                by_cases hql : q < j
                · have RU := hide (rd_nums (hH.own1 (i + (1 + 1)) HPT.out) (by omega))
                  have hql' : q < (zs9 ci).length := by rw [zs9_length]; omega
                  obtain ⟨p1, e1, _, d1⟩ := RU.out.at hql'
                  injection e1 with e1
                  subst e1
                  rw [zs9_get (show q < ci.length by omega)] at d1
                  have hxl := HX.out _ (List.getElem_mem (show q < ci.length by omega))
                  have HIS := in9_succ a b (ci.take j) y q (by omega)
                  rw [HPG.out q hql] at HIS
                  have RA := HV.out.below hH.low (Nat.le_refl _)
                  have RB := HU.out.below hH.low (Nat.le_refl _)
                  generalize ci[q] = x at *
                  have hla := HLA.out
                  have hlb := HLB.out
                  have xa : x < a.length := by omega
                  have ya : y < a.length := by omega
                  have xb : x < b.length := by omega
                  have yb : y < b.length := by omega
                  obtain ⟨pa, rfl, _, a1⟩ := RA.at xa
                  obtain ⟨pa', ea, _, a2⟩ := RA.at ya
                  injection ea with ea
                  subst ea
                  obtain ⟨pb, rfl, _, b1⟩ := RB.at xb
                  obtain ⟨pb', eb, _, b2⟩ := RB.at yb
                  injection eb with eb
                  subst eb
                  clear RA RB RU
                  have m1 := mul_bound9 (sml9_get HSA.out x) (sml9_get HSB.out y)
                  have m2 := mul_bound9 (sml9_get HSA.out y) (sml9_get HSB.out x)
                  unfold pr9 at HIS
                  rw [getD_at9 xa, getD_at9 yb] at m1 HIS
                  rw [getD_at9 ya, getD_at9 xb] at m2 HIS
                  generalize in9 a b ((ci.take j).take q) y = n0 at *
                  generalize a[x] = ax at *
                  generalize a[y] = ay at *
                  generalize b[x] = bx at *
                  generalize b[y] = by9 at *
                  have w1 : wrap64 (ax * by9) = ax * by9 := wr64 (by omega) (by omega)
                  have w2 : wrap64 (ay * bx) = ay * bx := wr64 (by omega) (by omega)
                  have w3 : wrap64 (ax * by9 - ay * bx) = ax * by9 - ay * bx := wr64 (by omega) (by omega)
                  have w4 : wrap64 (s0 + t0 + r0 + n0 + (ax * by9 - ay * bx)) = s0 + t0 + r0 + n0 + (ax * by9 - ay * bx) := wr64 (by omega) (by omega)
                  have HIS2 := hide HIS; clear HIS m1 m2
                  have x1 : (x : Int) < a.length := by omega
                  have x2 : (y : Int) < a.length := by omega
                  have x3 : (x : Int) < b.length := by omega
                  have x4 : (y : Int) < b.length := by omega
                  have hqi : (q : Int) < (j : Int) := by omega
                  clear hla hlb xa ya xb yb hql'
                  go_wp2
                  go_quiet (fail)
                  have hHz := hH.drewN nq
                  clear hH a1 a2 b1 b2 d1
                  generalize wr.drewN nq = wz at *
                  go_wp2
                  go_roundw
                  case rel => exact ⟨q + 1, by omega, by go_num, by rw [HIS2.out, w4, Int.add_assoc (s0 + t0 + r0)], hHz⟩
                  case measure => simp [intOf]; omega
                · obtain rfl : q = j := by omega
                  rw [List.take_take, Nat.min_self]
                  clear hql hq hib
                  go_wp2
                  go_roundw
                  case rel => exact ⟨q + 1, by omega, by go_num, by rw [HRS2.out]; simp only [Int.add_assoc], hH⟩
                  case measure => simp [intOf]; omega
            · obtain rfl : j = ci.length := by omega
              have HE := hide HTI.out
              clear hjl hj
              go_wp2
              go_roundw
              case rel => exact ⟨i + 1, by omega, by go_num, by rw [HE.out, Int.add_assoc], hH⟩
              case measure => simp [intOf]; omega
        · obtain rfl : i = cs.length := by omega
          rw [List.take_length]
          have HTS2 := hide HTS.out
          have hH2 := hH.sub (L' := [pBlk w.heap.size (dv m f g) 31]) (.cons_cons _ (List.nil_sublist _))
          clear hH hi hil
          go_wp2
          go_roundw
          case rel => exact ⟨k + 1, by omega, by go_num, by rw [HTS.out], hH2⟩
          case measure => simp [intOf]; omega
    · obtain rfl : k = 2 := by omega
      generalize tk9 a b f g m 2 = s at *
      clear hk hlt
      go_wp2
      go_ret
      exact ⟨by rw [HR2.out]; rfl, hH.low⟩
end Go.Proofs.Ytmapjjfefjoemaa

namespace Go.Proofs.Ytmapjjfefjoemaa
open Go.RowKit

set_option maxRecDepth 100000 in
set_option maxHeartbeats 4000000 in
theorem sMeet_any (v u : Value) (a b : List Int) (f g : Nat → Nat) (m : Nat) (hd : DesN f g m) (hla : a.length = m) (hlb : b.length = m) (hsa : sml9 a) (hsb : sml9 b) (w : World) (hv : RdZ w v a) (hu : RdZ w u b) :
    Calls Try.prog 81 #[.agg (dv m f g), v, u] w fun e w' => e = .returned (.int .i64 (mee9 a b f g m)) ∧ Below w.heap.size w w' := by
  have CB := hide fun w => sCycles_any f m hd.black w
  have CW := hide fun w => sCycles_any g m hd.white w
  have hcl : ∀ c ∈ cycs f m ++ cycs g m, c.length ≤ 16 ∧ ∀ x ∈ c, x < m := fun c hc => by
    rcases List.mem_append.1 hc with h | h
    · exact ⟨cyc_len9 hd.black h, fun x hx => cyc_lt9 hd.black h hx⟩
    · exact ⟨cyc_len9 hd.white h, fun x hx => cyc_lt9 hd.white h hx⟩
  have HCL := hide hcl; clear hcl
  have LB := hide (cycs_pos9 hd.black)
  have LW := hide (cycs_pos9 hd.white)
  have kb := cycs_le hd.black
  have kw := cycs_le hd.white
  have hm := hd.le
  obtain ⟨r, hr⟩ : ∃ r, r = mee9 a b f g m := ⟨_, rfl⟩
  rw [← hr]
  have HR := hide hr; clear hr
  unfold mee9 at HR
  generalize cycs f m = cb at *
  generalize cycs g m = cw at *
  have KB := hide (show cb.length + cw.length ≤ 100 by omega)
  clear kb kw
  have HSA := hide hsa; clear hsa
  have HSB := hide hsb; clear hsb
  have HLA := hide hla; clear hla
  have HLB := hide hlb; clear hlb
  have HV := hide hv
  have HU := hide hu
  clear hd
  obtain ⟨A0, c0, rfl, _⟩ := hv.form
  obtain ⟨B0, d0, rfl, _⟩ := hu.form
  clear hv hu
  have HH0 := (Holds.start w).blk (dv m f g) 31 w.heap.size rfl
  have hn := dv_n m f g
  go_enter Try.func81, Try.ntmps81
  go_wp2
  apply Rd.region_RV9 (w0 := w) [pBlk w.heap.size (dv m f g) 31] [pBlk w.heap.size (dv m f g) 31] [0, 5, 6, 11, 12] (.q 1 <| .q 2 <| .q 3 <| .q 4 <| .q 7 <| .q 8 <| .q 9 <| .q 10 <| .s2 0 (.s1 5 <| .s1 6 <| .s1 11 <| .s1 12 <| .q 13 .fin) 5 (.s1 0 <| .s1 6 <| .s1 11 <| .s1 12 <| .q 13 .fin)) HH0 (.refl _) (by kernel_rfl) (by kernel_rfl) (by kernel_rfl) (R := Rd.rV9 w (cb.length + cw.length) fun q vs => pVals q vs :: (rowsP vs (cb ++ cw) ++ [pBlk w.heap.size (dv m f g) 31]))
  case h =>
    intro K key
    iterate 8
      apply Rd.v_q
      · simp only [List.getElem?_toArray, List.getElem?_cons_zero, List.getElem?_cons_succ]; exact rfl
      · rfl
      · go_simp
      · intro wx hx
        have q1 := hx.cells 0 rfl
        have q2 := hx.cell 0 rfl hn
        unfold atG
        go_simp
        simp only [uponG]
        exact ⟨by trivial, rfl⟩
    refine ⟨?_, ?_⟩
    · skip
      refine Rd.v_build #[] 25 0 (by simp only [List.getElem?_toArray, List.getElem?_cons_zero, List.getElem?_cons_succ]; exact rfl) rfl (by go_simp) (fun wx hx hD => by go_simp) fun g0 => ?_
      refine Rd.v_s9 (Rd.rV9 w cb.length fun v vs => pBlk g0 #[] 25 :: pVals v vs :: (rowsP vs cb ++ [pBlk w.heap.size (dv m f g) 31])) Rd.rV9_stable (by simp only [List.getElem?_toArray, List.getElem?_cons_zero, List.getElem?_cons_succ]; exact rfl) rfl (by go_simp) (fun wx hx hD => ?_) ?_
      · go_simp
        simp only [Rd.upon9_eq, Rd.uponE]
        refine ⟨by trivial, (CB.out wx).mono ?_⟩
        rintro e wy ⟨v, rfl, hb, ho⟩
        obtain ⟨A, c, vs, rfl, hv⟩ := own2_form ho
        have hj := hD.joinL (Holds.ofOwn2 hb hv)
        exact ⟨_, rfl, hx.call hb, A, c, vs, rfl, hv.len, hj.perm (List.Perm.cons _ List.perm_append_comm)⟩
      rintro v ⟨_, _, hv⟩
      obtain ⟨A1, c1, rfl⟩ := Rd.rV9_form hv
      clear hv
      refine Rd.v_s9 (Rd.rV9 w cb.length fun q vs => pVals q vs :: (rowsP vs cb ++ [pBlk w.heap.size (dv m f g) 31])) Rd.rV9_stable (by simp only [List.getElem?_toArray, List.getElem?_cons_zero, List.getElem?_cons_succ]; exact rfl) rfl (by go_simp) (fun wx hx hD => ?_) ?_
      · refine Rd.rV9_elim hD fun vs hl hH => ?_
        have hH2 := hH.noVals9 0 rfl
        refine Rd.upon_rows9 hH2 0 1 rfl rfl (by have := LB.out; omega) (vals_one9 hl hH2 (fun a ha => List.mem_cons_of_mem _ (List.mem_cons_of_mem _ (List.mem_append_left _ ha)))) (by have := KB.out; simp; omega) (fun v' w' h2 => ?_) _ _ rfl (by go_simp) (by go_simp)
        have h3 : Holds w w' (pVals v' vs :: (rowsP vs cb ++ [pBlk w.heap.size (dv m f g) 31])) := h2.sub (.cons_cons _ (.cons _ (.refl _)))
        exact ⟨h3.sub (.cons _ (List.sublist_append_right _ _)), Rd.rV9_of rfl hl h3⟩
      rintro v ⟨_, _, hv⟩
      obtain ⟨A2, c2, rfl⟩ := Rd.rV9_form hv
      clear hv
      refine Rd.v_s9 (Rd.rW9 w cw.length cb.length fun v us vs => pVals v us :: pVals (.slice A2 cb.length c2) vs :: (rowsP us cw ++ (rowsP vs cb ++ [pBlk w.heap.size (dv m f g) 31]))) Rd.rW9_stable (by simp only [List.getElem?_toArray, List.getElem?_cons_zero, List.getElem?_cons_succ]; exact rfl) rfl (by go_simp) (fun wx hx hD => ?_) ?_
      · refine Rd.rV9_elim hD fun vs hl hH => ?_
        go_simp
        simp only [Rd.upon9_eq, Rd.uponE]
        refine ⟨by trivial, (CW.out wx).mono ?_⟩
        rintro e wy ⟨v, rfl, hb, ho⟩
        obtain ⟨A, c, us, rfl, hv⟩ := own2_form ho
        have hj := hH.joinL (Holds.ofOwn2 hb hv)
        exact ⟨_, rfl, hx.call hb, A, c, us, vs, rfl, hv.len, hl, hj.perm (List.perm_append_comm.trans (List.Perm.cons _ List.perm_middle))⟩
      rintro v ⟨_, _, hv⟩
      obtain ⟨A3, c3, rfl⟩ := Rd.rW9_form hv
      clear hv
      refine Rd.v_s9 (Rd.rV9 w (cb.length + cw.length) fun q vs => pVals q vs :: (rowsP vs (cb ++ cw) ++ [pBlk w.heap.size (dv m f g) 31])) Rd.rV9_stable (by simp only [List.getElem?_toArray, List.getElem?_cons_zero, List.getElem?_cons_succ]; exact rfl) rfl (by go_simp) (fun wx hx hD => ?_) ?_
      · refine Rd.rW9_elim hD fun us vs hu hl hH => ?_
        refine Rd.upon_rows9 hH 1 0 rfl rfl (by have := LW.out; omega) (vals_one9 hu hH (fun a ha => List.mem_cons_of_mem _ (List.mem_cons_of_mem _ (List.mem_append_left _ ha)))) (by have := KB.out; omega) (fun v' w' h2 => ?_) _ _ rfl (by go_simp) (by go_simp)
        have h3 : Holds w w' (pVals v' (vs ++ us) :: (rowsP (vs ++ us) (cb ++ cw) ++ [pBlk w.heap.size (dv m f g) 31])) := by
          rw [rowsP_append9 hl]
          refine h2.tail.perm (List.Perm.cons _ ?_)
          rw [← List.append_assoc]
          exact List.perm_append_comm.append_right _
        exact ⟨h3.sub (.cons _ (List.sublist_append_right _ _)), Rd.rV9_of rfl (by rw [List.length_append, hl, hu]) h3⟩
      rintro v -
      iterate 1
        apply Rd.v_q
        · simp only [List.getElem?_toArray, List.getElem?_cons_zero, List.getElem?_cons_succ]; exact rfl
        · rfl
        · go_simp
        · intro wx hx
          unfold atG
          go_simp
          simp only [uponG]
          exact ⟨by trivial, rfl⟩
      rintro wz - hz
      go_simp
      exact key v g0 A1 c1 A2 c2 A3 c3 _ hz
    · skip
      refine Rd.v_s9 (Rd.rV9 w cb.length fun v vs => pVals v vs :: (rowsP vs cb ++ [pBlk w.heap.size (dv m f g) 31])) Rd.rV9_stable (by simp only [List.getElem?_toArray, List.getElem?_cons_zero, List.getElem?_cons_succ]; exact rfl) rfl (by go_simp) (fun wx hx hD => ?_) ?_
      · go_simp
        simp only [Rd.upon9_eq, Rd.uponE]
        refine ⟨by trivial, (CB.out wx).mono ?_⟩
        rintro e wy ⟨v, rfl, hb, ho⟩
        obtain ⟨A, c, vs, rfl, hv⟩ := own2_form ho
        have hj := hD.joinL (Holds.ofOwn2 hb hv)
        exact ⟨_, rfl, hx.call hb, A, c, vs, rfl, hv.len, hj.perm (List.perm_append_comm)⟩
      rintro v ⟨_, _, hv⟩
      obtain ⟨A1, c1, rfl⟩ := Rd.rV9_form hv
      clear hv
      refine Rd.v_s9 (Rd.rN9 w cb.length fun g0 vs => pBlk g0 #[] 25 :: pVals (.slice A1 cb.length c1) vs :: (rowsP vs cb ++ [pBlk w.heap.size (dv m f g) 31])) Rd.rN9_stable (by simp only [List.getElem?_toArray, List.getElem?_cons_zero, List.getElem?_cons_succ]; exact rfl) rfl (by go_simp) (fun wx hx hD => ?_) ?_
      · refine Rd.rV9_elim hD fun vs hl hH => ?_
        go_simp
        simp only [Rd.upon9_eq, Rd.uponE]
        exact ⟨hx.alloc _, _, vs, rfl, hl, hH.blk _ _ _ rfl⟩
      rintro v0 ⟨_, _, hv⟩
      obtain ⟨g0, rfl⟩ := Rd.rN9_form hv
      clear hv
      refine Rd.v_s9 (Rd.rV9 w cb.length fun q vs => pVals q vs :: (rowsP vs cb ++ [pBlk w.heap.size (dv m f g) 31])) Rd.rV9_stable (by simp only [List.getElem?_toArray, List.getElem?_cons_zero, List.getElem?_cons_succ]; exact rfl) rfl (by go_simp) (fun wx hx hD => ?_) ?_
      · refine Rd.rN9_elim hD fun vs hl hH => ?_
        have hH2 := hH.noVals9 0 rfl
        refine Rd.upon_rows9 hH2 0 1 rfl rfl (by have := LB.out; omega) (vals_one9 hl hH2 (fun a ha => List.mem_cons_of_mem _ (List.mem_cons_of_mem _ (List.mem_append_left _ ha)))) (by have := KB.out; simp; omega) (fun v' w' h2 => ?_) _ _ rfl (by go_simp) (by go_simp)
        have h3 : Holds w w' (pVals v' vs :: (rowsP vs cb ++ [pBlk w.heap.size (dv m f g) 31])) := h2.sub (.cons_cons _ (.cons _ (.refl _)))
        exact ⟨h3.sub (.cons _ (List.sublist_append_right _ _)), Rd.rV9_of rfl hl h3⟩
      rintro v ⟨_, _, hv⟩
      obtain ⟨A2, c2, rfl⟩ := Rd.rV9_form hv
      clear hv
      refine Rd.v_s9 (Rd.rW9 w cw.length cb.length fun v us vs => pVals v us :: pVals (.slice A2 cb.length c2) vs :: (rowsP us cw ++ (rowsP vs cb ++ [pBlk w.heap.size (dv m f g) 31]))) Rd.rW9_stable (by simp only [List.getElem?_toArray, List.getElem?_cons_zero, List.getElem?_cons_succ]; exact rfl) rfl (by go_simp) (fun wx hx hD => ?_) ?_
      · refine Rd.rV9_elim hD fun vs hl hH => ?_
        go_simp
        simp only [Rd.upon9_eq, Rd.uponE]
        refine ⟨by trivial, (CW.out wx).mono ?_⟩
        rintro e wy ⟨v, rfl, hb, ho⟩
        obtain ⟨A, c, us, rfl, hv⟩ := own2_form ho
        have hj := hH.joinL (Holds.ofOwn2 hb hv)
        exact ⟨_, rfl, hx.call hb, A, c, us, vs, rfl, hv.len, hl, hj.perm (List.perm_append_comm.trans (List.Perm.cons _ List.perm_middle))⟩
      rintro v ⟨_, _, hv⟩
      obtain ⟨A3, c3, rfl⟩ := Rd.rW9_form hv
      clear hv
      refine Rd.v_s9 (Rd.rV9 w (cb.length + cw.length) fun q vs => pVals q vs :: (rowsP vs (cb ++ cw) ++ [pBlk w.heap.size (dv m f g) 31])) Rd.rV9_stable (by simp only [List.getElem?_toArray, List.getElem?_cons_zero, List.getElem?_cons_succ]; exact rfl) rfl (by go_simp) (fun wx hx hD => ?_) ?_
      · refine Rd.rW9_elim hD fun us vs hu hl hH => ?_
        refine Rd.upon_rows9 hH 1 0 rfl rfl (by have := LW.out; omega) (vals_one9 hu hH (fun a ha => List.mem_cons_of_mem _ (List.mem_cons_of_mem _ (List.mem_append_left _ ha)))) (by have := KB.out; omega) (fun v' w' h2 => ?_) _ _ rfl (by go_simp) (by go_simp)
        have h3 : Holds w w' (pVals v' (vs ++ us) :: (rowsP (vs ++ us) (cb ++ cw) ++ [pBlk w.heap.size (dv m f g) 31])) := by
          rw [rowsP_append9 hl]
          refine h2.tail.perm (List.Perm.cons _ ?_)
          rw [← List.append_assoc]
          exact List.perm_append_comm.append_right _
        exact ⟨h3.sub (.cons _ (List.sublist_append_right _ _)), Rd.rV9_of rfl (by rw [List.length_append, hl, hu]) h3⟩
      rintro v -
      iterate 1
        apply Rd.v_q
        · simp only [List.getElem?_toArray, List.getElem?_cons_zero, List.getElem?_cons_succ]; exact rfl
        · rfl
        · go_simp
        · intro wx hx
          unfold atG
          go_simp
          simp only [uponG]
          exact ⟨by trivial, rfl⟩
      rintro wz - hz
      go_simp
      exact key v g0 A1 c1 A2 c2 A3 c3 _ hz
  intro q g0 A1 c1 A2 c2 A3 c3 w2 hR
  obtain ⟨A, c, vs, rfl, hvl, H1⟩ := hR
  clear HH0
  have HCS := hide (show cb.length + cw.length = (cb ++ cw).length from List.length_append.symm)
  have HVL := hide (hvl.trans HCS.out)
  have hk1 := KB.out
  rw [HCS.out] at H1 hk1 ⊢
  clear hvl HCS CB CW LB LW KB
  generalize cb ++ cw = cs at *
  have H2 : Holds w w2 (pVals (.slice A cs.length c) vs :: (rowsP vs cs ++ [pBlk w.heap.size (dv m f g) 31])) := H1
  clear H1
  have H3 : Holds w w2 (pVals (.slice A cs.length c) vs :: rowsP vs cs) := H2.sub (.cons_cons _ (List.sublist_append_left _ _))
  clear H2
  go_wp2
  go_loopw [8, 9] (fun s t wq => ∃ i : Nat, i ≤ cs.length ∧ t = .int .i64 i ∧ s = .int .i64 (tt9 a b (cs.take i)) ∧ Holds w wq (pVals (.slice A cs.length c) vs :: rowsP vs cs)) (fun _ t _ => cs.length - (intOf t).toNat)
  case atStart => exact ⟨0, Nat.zero_le _, rfl, rfl, H3⟩
  case round =>
    clear H3
    obtain ⟨i, hi, rfl, rfl, hH⟩ := hrel
    have hs1 := tt9_bound HSA.out HSB.out (cs.take i) (fun c h => (HCL.out c (List.mem_of_mem_take h)).1) (by rw [List.length_take]; omega)
    by_cases hil : i < cs.length
    · have hil' : (i : Int) < cs.length := by omega
      obtain ⟨g0, e0, A', c', f0, hvi, _, hpart⟩ := hH.rowAt HVL.out 0 rfl (fun _ => rfl) hil
      injection f0 with f0 f0a f0b
      subst f0
      clear f0a f0b
      obtain ⟨hci, hcx⟩ := HCL.out _ (List.getElem_mem hil)
      have HCX := hide hcx; clear hcx
      have HTI := hide (tt9_succ a b cs i hil)
      have HPT := hide hpart
      have HVI := hide hvi
      have hrwb := fun j (hj : j ≤ 16) => rw9_bound HSA.out HSB.out cs[i] hci j hj
      have HRWB := hide hrwb; clear hrwb
      clear hpart hvi
      generalize tt9 a b (cs.take i) = t0 at *
      generalize cs[i] = ci at *
      go_wp2
      go_loopw [8, 10] (fun s t wx => ∃ j : Nat, j ≤ ci.length ∧ t = .int .i64 j ∧ s = .int .i64 (t0 + rw9 a b ci j) ∧ Holds w wx (pVals (.slice (some ⟨g0, 0, none⟩) cs.length c) vs :: rowsP vs cs)) (fun _ t _ => ci.length - (intOf t).toNat)
      case atStart => exact ⟨0, Nat.zero_le _, rfl, by simp [rw9], hH⟩
      case round =>
        clear hH
        obtain ⟨j, hj, rfl, rfl, hH⟩ := hrel
        have hs2 := HRWB.out j (by omega)
        have x1 : wr.cell? ⟨g0, i, none⟩ = some (.slice A' ci.length c') := by
          obtain ⟨g1, _, e1, _, _, _, _, h6, _⟩ := row_at (hH.row 0 rfl) (by have := HVL.out; omega)
          injection e1 with e1
          injection e1 with e1
          injection e1 with e1
          subst e1
          exact h6 i _ HVI.out
        by_cases hjl : j < ci.length
        · have hyl := HCX.out _ (List.getElem_mem hjl)
          have HRS := rw9_succ a b ci j
          rw [getD_at9n hjl] at HRS
          have HRS2 := hide HRS; clear HRS
          have hpl : (ci.take j).length = j := by rw [List.length_take]; omega
          have HPG := hide (fun i4 (h : i4 < j) => (by rw [List.getElem_take] : (ci.take j)[i4]'(by omega) = ci[i4]'(by omega)))
          have HIB := hide (fun i4 => in9_bound HSA.out HSB.out ((ci.take j).take i4) ci[j] (by rw [List.length_take, hpl]; omega))
          have HYJ := hide (fun (wx : World) (A9 : Option Addr) (h : RdZ wx (.slice A9 ci.length c') (zs9 ci)) => (by
            have hjl' : j < (zs9 ci).length := by rw [zs9_length]; exact hjl
            obtain ⟨p0, e, _, d1⟩ := h.at hjl'
            rw [zs9_get hjl] at d1
            exact ⟨p0, e, d1⟩ : ∃ p0, A9 = some p0 ∧ wx.cell? (p0.add j) = some (.int .i64 (ci[j] : Nat))))
          generalize rw9 a b ci j = r0 at *
          generalize ci[j] = y at *
          go_wp2
          clear x1
          go_loopw [8, 11] (fun s t wx => ∃ q : Nat, q ≤ j ∧ t = .int .i64 q ∧ s = .int .i64 (t0 + r0 + in9 a b ((ci.take j).take q) y) ∧ Holds w wx (pVals (.slice (some ⟨g0, 0, none⟩) cs.length c) vs :: rowsP vs cs)) (fun _ t _ => j - (intOf t).toNat)
          case atStart => exact ⟨0, Nat.zero_le _, rfl, by simp [in9], hH⟩
          case round =>
            clear hH
            obtain ⟨q, hq, rfl, rfl, hH⟩ := hrel
            have hib := HIB.out q
            by_cases hql : q < j
            · have RU := hide (rd_nums (hH.own1 (i + (0 + 1)) HPT.out) (by omega))
              obtain ⟨p0, rfl, d0⟩ := HYJ.out _ _ RU.out
              have hql' : q < (zs9 ci).length := by rw [zs9_length]; omega
              obtain ⟨p1, e1, _, d1⟩ := RU.out.at hql'
              injection e1 with e1
              subst e1
              rw [zs9_get (show q < ci.length by omega)] at d1
              have x1 : wr.cell? ⟨g0, i, none⟩ = some (.slice (some p0) ci.length c') := by
                obtain ⟨g1, _, e1, _, _, _, _, h6, _⟩ := row_at (hH.row 0 rfl) (by have := HVL.out; omega)
                injection e1 with e1
                injection e1 with e1
                injection e1 with e1
                subst e1
                exact h6 i _ HVI.out
              have hxl := HCX.out _ (List.getElem_mem (show q < ci.length by omega))
              have HIS := in9_succ a b (ci.take j) y q (by omega)
              rw [HPG.out q hql] at HIS
              have RA := HV.out.below hH.low (Nat.le_refl _)
              have RB := HU.out.below hH.low (Nat.le_refl _)
              generalize ci[q] = x at *
              have hla := HLA.out
              have hlb := HLB.out
              have xa : x < a.length := by omega
              have ya : y < a.length := by omega
              have xb : x < b.length := by omega
              have yb : y < b.length := by omega
              obtain ⟨pa, rfl, _, a1⟩ := RA.at xa
              obtain ⟨pa', ea, _, a2⟩ := RA.at ya
              injection ea with ea
              subst ea
              obtain ⟨pb, rfl, _, b1⟩ := RB.at xb
              obtain ⟨pb', eb, _, b2⟩ := RB.at yb
              injection eb with eb
              subst eb
              clear RA RB RU
              have m1 := mul_bound9 (sml9_get HSA.out x) (sml9_get HSB.out y)
              have m2 := mul_bound9 (sml9_get HSA.out y) (sml9_get HSB.out x)
              unfold pr9 at HIS
              rw [getD_at9 xa, getD_at9 yb] at m1 HIS
              rw [getD_at9 ya, getD_at9 xb] at m2 HIS
              generalize in9 a b ((ci.take j).take q) y = n0 at *
              generalize a[x] = ax at *
              generalize a[y] = ay at *
              generalize b[x] = bx at *
              generalize b[y] = by9 at *
              have w1 : wrap64 (ax * by9) = ax * by9 := wr64 (by omega) (by omega)
              have w2 : wrap64 (ay * bx) = ay * bx := wr64 (by omega) (by omega)
              have w3 : wrap64 (t0 + r0 + n0 + ax * by9) = t0 + r0 + n0 + ax * by9 := wr64 (by omega) (by omega)
              have w4 : wrap64 (t0 + r0 + n0 + ax * by9 - ay * bx) = t0 + r0 + n0 + ax * by9 - ay * bx := wr64 (by omega) (by omega)
              have HIS2 := hide HIS; clear HIS m1 m2
              have y1 : (x : Int) < a.length := by omega
              have y2 : (y : Int) < a.length := by omega
              have y3 : (x : Int) < b.length := by omega
              have y4 : (y : Int) < b.length := by omega
              have hqi : (q : Int) < (j : Int) := by omega
              have hqc : (q : Int) < ci.length := by omega
              have hjc : (j : Int) < ci.length := by omega
              clear hla hlb xa ya xb yb hql'
              have HA1 := hide (And.intro a1 (And.intro a2 (And.intro b1 b2)))
              go_wp2
              go_quiet (fail)
              go_wp2
              go_quiet (fail)
              have HH := hide hH
              clear hH a1 a2 b1 b2 d1 d0 x1 HA1
              go_wp2
              go_roundw
              case rel => exact ⟨q + 1, by omega, by go_num, by rw [HIS2.out, w4]; simp only [Int.add_assoc, Int.add_sub_assoc], HH.out.drewN _⟩
              case measure => simp [intOf]; omega
            · obtain rfl : q = j := by omega
              rw [List.take_take, Nat.min_self]
              clear hql hq hib
              go_wp2
              go_roundw
              case rel => exact ⟨q + 1, by omega, by go_num, by rw [HRS2.out]; simp only [Int.add_assoc], hH⟩
              case measure => simp [intOf]; omega
        · obtain rfl : j = ci.length := by omega
          have HE := hide HTI.out
          clear hjl hj
          go_wp2
          go_roundw
          case rel => exact ⟨i + 1, by omega, by go_num, by rw [HE.out], hH⟩
          case measure => simp [intOf]; omega
    · obtain rfl : i = cs.length := by omega
      rw [List.take_length] at hs1 ⊢
      have HRR := hide HR.out
      clear hi hil HR
      generalize tt9 a b cs = s at *
      go_wp2
      go_ret
      exact ⟨by rw [HRR.out]; rfl, hH.low⟩
end Go.Proofs.Ytmapjjfefjoemaa

namespace Go.Proofs.Ytmapjjfefjoemaa
open Go.RowKit

open Classical in
noncomputable def inR9 (n : Int) (f g : Nat → Nat) (a b : List Int) : Int := if desB n f g = true ∧ lstB a n (-1000) 1000 = true ∧ lstB b n (-1000) 1000 = true ∧ cyc9 a f g n.toNat = true ∧ cyc9 b f g n.toNat = true then mee9 a b f g n.toNat else 0
open Classical in
noncomputable def inC9 (n : Int) (f g : Nat → Nat) (a b : List Int) : Int :=
  if desB n f g = true then (if lstB a n (-1000) 1000 = true ∧ lstB b n (-1000) 1000 = true then (if cyc9 a f g n.toNat = true ∧ cyc9 b f g n.toNat = true then 0 else 5) else 2) else 1
set_option maxRecDepth 100000 in
set_option maxHeartbeats 2000000 in
theorem intersectionOf_any (n : Int) (f g : Nat → Nat) (hf : ∀ i, f i < 256) (hg : ∀ i, g i < 256) (v : Value) (a : List Int) (u : Value) (b : List Int) (w : World) (hv : RdZ w v a) (hu : RdZ w u b) :
    Calls Try.prog 41 #[.agg (dv n f g), v, u] w fun e w' => e = .returned (.tuple #[.int .i64 (inR9 n f g a b), .int .i64 (inC9 n f g a b)]) ∧ Below w.heap.size w w' := by
  have C0 := hide fun w => isDessin_any n f g hf hg w
  clear hf hg
  have HV := hide hv; clear hv
  have HU := hide hu; clear hu
  have HH0 := (Holds.start w).blk (dv n f g) 31 w.heap.size rfl
  rcases h0 : desB n f g with _ | _
  · rw [h0] at C0
    rw [show inR9 n f g a b = 0 from if_neg (by simp [h0]), show inC9 n f g a b = 1 from by unfold inC9; rw [if_neg (by simp [h0])]]
    clear  h0
    go_enter Try.func41, Try.ntmps41
    go_wp2_with fail
    refine (C0.out _).mono ?_
    rintro e w1 ⟨rfl, hb⟩
    have HH1 := HH0.call hb
    clear hb HH0
    go_wp2
    go_ret2
    exact ⟨rfl, HH1.low⟩
  rw [h0] at C0
  obtain ⟨m, rfl, hd⟩ := desB_true h0
  have C1 := hide fun w hv => isChain_any (m : Int) f g v a w hv
  have C2 := hide fun w hv => isChain_any (m : Int) f g u b w hv
  rcases h1 : lstB a (m : Int) (-1000) 1000 with _ | _
  · rw [h1] at C1
    rw [show inR9 m f g a b = 0 from if_neg (by simp [h1]), show inC9 m f g a b = 2 from by unfold inC9; rw [if_pos h0, if_neg (by simp [h1])]]
    clear h0 hd h1
    go_enter Try.func41, Try.ntmps41
    go_wp2_with fail
    refine (C0.out _).mono ?_
    rintro e w1 ⟨rfl, hb⟩
    have HH1 := HH0.call hb
    clear hb HH0
    have cd := HH1.cells 0 rfl
    go_wp2_with fail
    refine (C1.out _ (HV.out.below HH1.low (Nat.le_refl _))).mono ?_
    rintro e w2 ⟨rfl, hb⟩
    have HH2 := HH1.call hb
    clear hb HH1 cd
    go_wp2
    go_ret2
    exact ⟨rfl, HH2.low⟩
  rw [h1] at C1
  rcases h2 : lstB b (m : Int) (-1000) 1000 with _ | _
  · rw [h2] at C2
    rw [show inR9 m f g a b = 0 from if_neg (by simp [h2]), show inC9 m f g a b = 2 from by unfold inC9; rw [if_pos h0, if_neg (by simp [h2])]]
    clear h0 hd h1 h2
    go_enter Try.func41, Try.ntmps41
    go_wp2_with fail
    refine (C0.out _).mono ?_
    rintro e w1 ⟨rfl, hb⟩
    have HH1 := HH0.call hb
    clear hb HH0
    have cd := HH1.cells 0 rfl
    go_wp2_with fail
    refine (C1.out _ (HV.out.below HH1.low (Nat.le_refl _))).mono ?_
    rintro e w2 ⟨rfl, hb⟩
    have HH2 := HH1.call hb
    clear hb HH1 cd
    have cd := HH2.cells 0 rfl
    go_wp2_with fail
    refine (C2.out _ (HU.out.below HH2.low (Nat.le_refl _))).mono ?_
    rintro e w3 ⟨rfl, hb⟩
    have HH3 := HH2.call hb
    clear hb HH2 cd
    go_wp2
    go_ret2
    exact ⟨rfl, HH3.low⟩
  rw [h2] at C2
  obtain ⟨hla, hsa⟩ := lstB_true h1
  obtain ⟨hlb, hsb⟩ := lstB_true h2
  have C3 := hide fun w hv => isCycle_any v a f g m hd (by omega) (fun x hx => by have := hsa x hx; omega) w hv
  have C4 := hide fun w hv => isCycle_any u b f g m hd (by omega) (fun x hx => by have := hsb x hx; omega) w hv
  have C5 := hide fun w hv hu => intersection_any v u a b f g m hd (by omega) (by omega) (fun x hx => by have := hsa x hx; omega) (fun x hx => by have := hsb x hx; omega) w hv hu
  clear hla hsa hlb hsb
  rcases h3 : cyc9 a f g m with _ | _
  · rw [h3] at C3
    rw [show inR9 m f g a b = 0 from if_neg (by simp [h3]), show inC9 m f g a b = 5 from by unfold inC9; rw [if_pos h0, if_pos ⟨h1, h2⟩, if_neg (by simp [h3])]]
    clear h0 hd h1 h2 h3
    go_enter Try.func41, Try.ntmps41
    go_wp2_with fail
    refine (C0.out _).mono ?_
    rintro e w1 ⟨rfl, hb⟩
    have HH1 := HH0.call hb
    clear hb HH0
    have cd := HH1.cells 0 rfl
    go_wp2_with fail
    refine (C1.out _ (HV.out.below HH1.low (Nat.le_refl _))).mono ?_
    rintro e w2 ⟨rfl, hb⟩
    have HH2 := HH1.call hb
    clear hb HH1 cd
    have cd := HH2.cells 0 rfl
    go_wp2_with fail
    refine (C2.out _ (HU.out.below HH2.low (Nat.le_refl _))).mono ?_
    rintro e w3 ⟨rfl, hb⟩
    have HH3 := HH2.call hb
    clear hb HH2 cd
    have cd := HH3.cells 0 rfl
    go_wp2_with fail
    refine (C3.out _ (HV.out.below HH3.low (Nat.le_refl _))).mono ?_
    rintro e w4 ⟨rfl, hb⟩
    have HH4 := HH3.call hb
    clear hb HH3 cd
    go_wp2
    go_ret2
    exact ⟨rfl, HH4.low⟩
  rw [h3] at C3
  rcases h4 : cyc9 b f g m with _ | _
  · rw [h4] at C4
    rw [show inR9 m f g a b = 0 from if_neg (by simp [h4]), show inC9 m f g a b = 5 from by unfold inC9; rw [if_pos h0, if_pos ⟨h1, h2⟩, if_neg (by simp [h4])]]
    clear h0 hd h1 h2 h3 h4
    go_enter Try.func41, Try.ntmps41
    go_wp2_with fail
    refine (C0.out _).mono ?_
    rintro e w1 ⟨rfl, hb⟩
    have HH1 := HH0.call hb
    clear hb HH0
    have cd := HH1.cells 0 rfl
    go_wp2_with fail
    refine (C1.out _ (HV.out.below HH1.low (Nat.le_refl _))).mono ?_
    rintro e w2 ⟨rfl, hb⟩
    have HH2 := HH1.call hb
    clear hb HH1 cd
    have cd := HH2.cells 0 rfl
    go_wp2_with fail
    refine (C2.out _ (HU.out.below HH2.low (Nat.le_refl _))).mono ?_
    rintro e w3 ⟨rfl, hb⟩
    have HH3 := HH2.call hb
    clear hb HH2 cd
    have cd := HH3.cells 0 rfl
    go_wp2_with fail
    refine (C3.out _ (HV.out.below HH3.low (Nat.le_refl _))).mono ?_
    rintro e w4 ⟨rfl, hb⟩
    have HH4 := HH3.call hb
    clear hb HH3 cd
    have cd := HH4.cells 0 rfl
    go_wp2_with fail
    refine (C4.out _ (HU.out.below HH4.low (Nat.le_refl _))).mono ?_
    rintro e w5 ⟨rfl, hb⟩
    have HH5 := HH4.call hb
    clear hb HH4 cd
    go_wp2
    go_ret2
    exact ⟨rfl, HH5.low⟩
  rw [h4] at C4
  rw [show inR9 m f g a b = mee9 a b f g m from by unfold inR9; rw [if_pos ⟨h0, h1, h2, by rw [Int.toNat_natCast]; exact h3, by rw [Int.toNat_natCast]; exact h4⟩, Int.toNat_natCast], show inC9 m f g a b = 0 from by unfold inC9; rw [if_pos h0, if_pos ⟨h1, h2⟩, if_pos ⟨by rw [Int.toNat_natCast]; exact h3, by rw [Int.toNat_natCast]; exact h4⟩]]
  clear h0 hd h1 h2 h3 h4
  generalize mee9 a b f g m = r at *
  go_enter Try.func41, Try.ntmps41
  go_wp2_with fail
  refine (C0.out _).mono ?_
  rintro e w1 ⟨rfl, hb⟩
  have HH1 := HH0.call hb
  clear hb HH0
  have cd := HH1.cells 0 rfl
  go_wp2_with fail
  refine (C1.out _ (HV.out.below HH1.low (Nat.le_refl _))).mono ?_
  rintro e w2 ⟨rfl, hb⟩
  have HH2 := HH1.call hb
  clear hb HH1 cd
  have cd := HH2.cells 0 rfl
  go_wp2_with fail
  refine (C2.out _ (HU.out.below HH2.low (Nat.le_refl _))).mono ?_
  rintro e w3 ⟨rfl, hb⟩
  have HH3 := HH2.call hb
  clear hb HH2 cd
  have cd := HH3.cells 0 rfl
  go_wp2_with fail
  refine (C3.out _ (HV.out.below HH3.low (Nat.le_refl _))).mono ?_
  rintro e w4 ⟨rfl, hb⟩
  have HH4 := HH3.call hb
  clear hb HH3 cd
  have cd := HH4.cells 0 rfl
  go_wp2_with fail
  refine (C4.out _ (HU.out.below HH4.low (Nat.le_refl _))).mono ?_
  rintro e w5 ⟨rfl, hb⟩
  have HH5 := HH4.call hb
  clear hb HH4 cd
  have cd := HH5.cells 0 rfl
  go_wp2_with fail
  refine (C5.out _ (HV.out.below HH5.low (Nat.le_refl _)) (HU.out.below HH5.low (Nat.le_refl _))).mono ?_
  rintro e w6 ⟨rfl, hb⟩
  have HH6 := HH5.call hb
  clear hb HH5 cd
  go_wp2
  go_ret2
  exact ⟨rfl, HH6.low⟩
set_option maxRecDepth 100000 in
set_option maxHeartbeats 2000000 in
theorem sIntersectionOf_any (n : Int) (f g : Nat → Nat) (hf : ∀ i, f i < 256) (hg : ∀ i, g i < 256) (v : Value) (a : List Int) (u : Value) (b : List Int) (w : World) (hv : RdZ w v a) (hu : RdZ w u b) :
    Calls Try.prog 40 #[.agg (dv n f g), v, u] w fun e w' => e = .returned (.tuple #[.int .i64 (inR9 n f g a b), .int .i64 (inC9 n f g a b)]) ∧ Below w.heap.size w w' := by
  have C0 := hide fun w => sIs_any n f g hf hg w
  clear hf hg
  have HV := hide hv; clear hv
  have HU := hide hu; clear hu
  have HH0 := (Holds.start w).blk (dv n f g) 31 w.heap.size rfl
  rcases h0 : desB n f g with _ | _
  · rw [h0] at C0
    rw [show inR9 n f g a b = 0 from if_neg (by simp [h0]), show inC9 n f g a b = 1 from by unfold inC9; rw [if_neg (by simp [h0])]]
    clear  h0
    go_enter Try.func40, Try.ntmps40
    go_wp2_with fail
    refine (C0.out _).mono ?_
    rintro e w1 ⟨rfl, hb⟩
    have HH1 := HH0.call hb
    clear hb HH0
    go_wp2
    go_ret2
    exact ⟨rfl, HH1.low⟩
  rw [h0] at C0
  obtain ⟨m, rfl, hd⟩ := desB_true h0
  have C1 := hide fun w hv => l09Chain_any (m : Int) f g v a w hv
  have C2 := hide fun w hv => l09Chain_any (m : Int) f g u b w hv
  rcases h1 : lstB a (m : Int) (-1000) 1000 with _ | _
  · rw [h1] at C1
    rw [show inR9 m f g a b = 0 from if_neg (by simp [h1]), show inC9 m f g a b = 2 from by unfold inC9; rw [if_pos h0, if_neg (by simp [h1])]]
    clear h0 hd h1
    go_enter Try.func40, Try.ntmps40
    go_wp2_with fail
    refine (C0.out _).mono ?_
    rintro e w1 ⟨rfl, hb⟩
    have HH1 := HH0.call hb
    clear hb HH0
    have cd := HH1.cells 0 rfl
    go_wp2_with fail
    refine (C1.out _ (HV.out.below HH1.low (Nat.le_refl _))).mono ?_
    rintro e w2 ⟨rfl, hb⟩
    have HH2 := HH1.call hb
    clear hb HH1 cd
    go_wp2
    go_ret2
    exact ⟨rfl, HH2.low⟩
  rw [h1] at C1
  rcases h2 : lstB b (m : Int) (-1000) 1000 with _ | _
  · rw [h2] at C2
    rw [show inR9 m f g a b = 0 from if_neg (by simp [h2]), show inC9 m f g a b = 2 from by unfold inC9; rw [if_pos h0, if_neg (by simp [h2])]]
    clear h0 hd h1 h2
    go_enter Try.func40, Try.ntmps40
    go_wp2_with fail
    refine (C0.out _).mono ?_
    rintro e w1 ⟨rfl, hb⟩
    have HH1 := HH0.call hb
    clear hb HH0
    have cd := HH1.cells 0 rfl
    go_wp2_with fail
    refine (C1.out _ (HV.out.below HH1.low (Nat.le_refl _))).mono ?_
    rintro e w2 ⟨rfl, hb⟩
    have HH2 := HH1.call hb
    clear hb HH1 cd
    have cd := HH2.cells 0 rfl
    go_wp2_with fail
    refine (C2.out _ (HU.out.below HH2.low (Nat.le_refl _))).mono ?_
    rintro e w3 ⟨rfl, hb⟩
    have HH3 := HH2.call hb
    clear hb HH2 cd
    go_wp2
    go_ret2
    exact ⟨rfl, HH3.low⟩
  rw [h2] at C2
  obtain ⟨hla, hsa⟩ := lstB_true h1
  obtain ⟨hlb, hsb⟩ := lstB_true h2
  have C3 := hide fun w hv => sCycle_any v a f g m hd (by omega) (fun x hx => by have := hsa x hx; omega) w hv
  have C4 := hide fun w hv => sCycle_any u b f g m hd (by omega) (fun x hx => by have := hsb x hx; omega) w hv
  have C5 := hide fun w hv hu => sMeet_any v u a b f g m hd (by omega) (by omega) (fun x hx => by have := hsa x hx; omega) (fun x hx => by have := hsb x hx; omega) w hv hu
  clear hla hsa hlb hsb
  rcases h3 : cyc9 a f g m with _ | _
  · rw [h3] at C3
    rw [show inR9 m f g a b = 0 from if_neg (by simp [h3]), show inC9 m f g a b = 5 from by unfold inC9; rw [if_pos h0, if_pos ⟨h1, h2⟩, if_neg (by simp [h3])]]
    clear h0 hd h1 h2 h3
    go_enter Try.func40, Try.ntmps40
    go_wp2_with fail
    refine (C0.out _).mono ?_
    rintro e w1 ⟨rfl, hb⟩
    have HH1 := HH0.call hb
    clear hb HH0
    have cd := HH1.cells 0 rfl
    go_wp2_with fail
    refine (C1.out _ (HV.out.below HH1.low (Nat.le_refl _))).mono ?_
    rintro e w2 ⟨rfl, hb⟩
    have HH2 := HH1.call hb
    clear hb HH1 cd
    have cd := HH2.cells 0 rfl
    go_wp2_with fail
    refine (C2.out _ (HU.out.below HH2.low (Nat.le_refl _))).mono ?_
    rintro e w3 ⟨rfl, hb⟩
    have HH3 := HH2.call hb
    clear hb HH2 cd
    have cd := HH3.cells 0 rfl
    go_wp2_with fail
    refine (C3.out _ (HV.out.below HH3.low (Nat.le_refl _))).mono ?_
    rintro e w4 ⟨rfl, hb⟩
    have HH4 := HH3.call hb
    clear hb HH3 cd
    go_wp2
    go_ret2
    exact ⟨rfl, HH4.low⟩
  rw [h3] at C3
  rcases h4 : cyc9 b f g m with _ | _
  · rw [h4] at C4
    rw [show inR9 m f g a b = 0 from if_neg (by simp [h4]), show inC9 m f g a b = 5 from by unfold inC9; rw [if_pos h0, if_pos ⟨h1, h2⟩, if_neg (by simp [h4])]]
    clear h0 hd h1 h2 h3 h4
    go_enter Try.func40, Try.ntmps40
    go_wp2_with fail
    refine (C0.out _).mono ?_
    rintro e w1 ⟨rfl, hb⟩
    have HH1 := HH0.call hb
    clear hb HH0
    have cd := HH1.cells 0 rfl
    go_wp2_with fail
    refine (C1.out _ (HV.out.below HH1.low (Nat.le_refl _))).mono ?_
    rintro e w2 ⟨rfl, hb⟩
    have HH2 := HH1.call hb
    clear hb HH1 cd
    have cd := HH2.cells 0 rfl
    go_wp2_with fail
    refine (C2.out _ (HU.out.below HH2.low (Nat.le_refl _))).mono ?_
    rintro e w3 ⟨rfl, hb⟩
    have HH3 := HH2.call hb
    clear hb HH2 cd
    have cd := HH3.cells 0 rfl
    go_wp2_with fail
    refine (C3.out _ (HV.out.below HH3.low (Nat.le_refl _))).mono ?_
    rintro e w4 ⟨rfl, hb⟩
    have HH4 := HH3.call hb
    clear hb HH3 cd
    have cd := HH4.cells 0 rfl
    go_wp2_with fail
    refine (C4.out _ (HU.out.below HH4.low (Nat.le_refl _))).mono ?_
    rintro e w5 ⟨rfl, hb⟩
    have HH5 := HH4.call hb
    clear hb HH4 cd
    go_wp2
    go_ret2
    exact ⟨rfl, HH5.low⟩
  rw [h4] at C4
  rw [show inR9 m f g a b = mee9 a b f g m from by unfold inR9; rw [if_pos ⟨h0, h1, h2, by rw [Int.toNat_natCast]; exact h3, by rw [Int.toNat_natCast]; exact h4⟩, Int.toNat_natCast], show inC9 m f g a b = 0 from by unfold inC9; rw [if_pos h0, if_pos ⟨h1, h2⟩, if_pos ⟨by rw [Int.toNat_natCast]; exact h3, by rw [Int.toNat_natCast]; exact h4⟩]]
  clear h0 hd h1 h2 h3 h4
  generalize mee9 a b f g m = r at *
  go_enter Try.func40, Try.ntmps40
  go_wp2_with fail
  refine (C0.out _).mono ?_
  rintro e w1 ⟨rfl, hb⟩
  have HH1 := HH0.call hb
  clear hb HH0
  have cd := HH1.cells 0 rfl
  go_wp2_with fail
  refine (C1.out _ (HV.out.below HH1.low (Nat.le_refl _))).mono ?_
  rintro e w2 ⟨rfl, hb⟩
  have HH2 := HH1.call hb
  clear hb HH1 cd
  have cd := HH2.cells 0 rfl
  go_wp2_with fail
  refine (C2.out _ (HU.out.below HH2.low (Nat.le_refl _))).mono ?_
  rintro e w3 ⟨rfl, hb⟩
  have HH3 := HH2.call hb
  clear hb HH2 cd
  have cd := HH3.cells 0 rfl
  go_wp2_with fail
  refine (C3.out _ (HV.out.below HH3.low (Nat.le_refl _))).mono ?_
  rintro e w4 ⟨rfl, hb⟩
  have HH4 := HH3.call hb
  clear hb HH3 cd
  have cd := HH4.cells 0 rfl
  go_wp2_with fail
  refine (C4.out _ (HU.out.below HH4.low (Nat.le_refl _))).mono ?_
  rintro e w5 ⟨rfl, hb⟩
  have HH5 := HH4.call hb
  clear hb HH4 cd
  have cd := HH5.cells 0 rfl
  go_wp2_with fail
  refine (C5.out _ (HV.out.below HH5.low (Nat.le_refl _)) (HU.out.below HH5.low (Nat.le_refl _))).mono ?_
  rintro e w6 ⟨rfl, hb⟩
  have HH6 := HH5.call hb
  clear hb HH5 cd
  go_wp2
  go_ret2
  exact ⟨rfl, HH6.low⟩
end Go.Proofs.Ytmapjjfefjoemaa

namespace Go.Proofs.Ytmapjjfefjoemaa
open Go.RowKit

set_option maxHeartbeats 400000 in
theorem toPlaces_any (f : Nat → Nat) (w : World) : Calls Try.prog 50 #[.agg (av f)] w fun e w' => e = .returned (.agg (av f)) ∧ Below w.heap.size w w' := by
  go_enter Try.func50, Try.ntmps50
  go_wp2
  rw [← av_zero]
  go_loopw [4] (fun i wr => ∃ k : Nat, k ≤ 16 ∧ i = .int .i64 k ∧ wr = ((w.alloc (.cells (av f) 22)).alloc (.cells (av fun _ => 0) 29)).alloc (.cells (av (upto f k)) 29)) (fun i _ => 16 - (intOf i).toNat)
  case atStart => exact ⟨0, by omega, rfl, by rw [upto_zero]⟩
  case round =>
    obtain ⟨k, hk, rfl, rfl⟩ := hrel
    by_cases hlt : k < 16
    · have h1 := av_get f hlt
      have h2 := av_get (upto f k) hlt
      have h3 := av_set (upto f k) k (f k)
      rw [upto_step] at h3
      go_wp2
      go_roundw
      case rel => exact ⟨k + 1, by omega, by go_num, rfl⟩
      case measure => simp [intOf]; omega
    · obtain rfl : k = 16 := by omega
      clear hlt hk
      rw [av_congr (f := upto f 16) (g := f) (fun i h => by simp [upto, h])]
      go_wp2_with (first
        | (refine ld0 aggP (av_size _) rfl _ rfl _ rfl (by simp) ?_)
        | (refine st1 aggP (av_size f) (av_size _) (av_cells f) rfl _ _ rfl (w.heap.size + 1) rfl rfl (by simp) ?_))
      exact res_agg (p := 2) (g := w.heap.size + 1) aggP (av_size f) rfl rfl rfl (heap1 (by simp)) ⟨rfl, below3 _ _ _ _⟩

end Go.Proofs.Ytmapjjfefjoemaa

namespace Go.Proofs.Ytmapjjfefjoemaa
open Go.RowKit
set_option maxHeartbeats 400000 in
theorem eqPlaces_same (f : Nat → Nat) (w : World) : Calls Try.prog 59 #[.agg (av f), .agg (av f)] w fun e w' => e = .returned (.bool true) ∧ Below w.heap.size w w' := by
  go_enter Try.func59, Try.ntmps59
  go_wp2
  go_loopw [5] (fun i wr => ∃ k : Nat, k ≤ 16 ∧ i = .int .i64 k ∧ Below w.heap.size w wr ∧ cellsOf wr w.heap.size = av f ∧ cellsOf wr (w.heap.size + 1) = av f) (fun i _ => 16 - (intOf i).toNat)
  case atStart => exact ⟨0, by omega, rfl, below2 _ _ _, cellsOf_heap (heap1 rfl), cellsOf_heap (heap_at _ _ _ (by simp))⟩
  case round =>
    obtain ⟨k, hk, rfl, hb, h0, h1⟩ := hrel
    by_cases hlt : k < 16
    · have c0 : wr.cell? ⟨w.heap.size, k, none⟩ = some (.int .u8 (f k)) := by rw [cell_of_cells, h0, av_get f hlt]
      have c1 : wr.cell? ⟨w.heap.size + 1, k, none⟩ = some (.int .u8 (f k)) := by rw [cell_of_cells, h1, av_get f hlt]
      have H0 := hide h0; clear h0
      have H1 := hide h1; clear h1
      go_wp2
      go_region
      all_goals go_wp2
      all_goals go_roundw
      case rel => exact ⟨k + 1, by omega, by go_num, hb.drew, H0.out, H1.out⟩
      case measure => simp [intOf]; omega
    · obtain rfl : k = 16 := by omega
      clear hlt hk h0 h1
      go_wp2
      go_ret
      exact ⟨rfl, hb⟩
end Go.Proofs.Ytmapjjfefjoemaa

namespace Go.Proofs.Ytmapjjfefjoemaa
open Go.RowKit Go.ChangeShapes Go.WideShapes

set_option maxRecDepth 100000 in
set_option maxHeartbeats 400000 in
theorem toDessin_any (n : Int) (f g : Nat → Nat) (w : World) : Calls Try.prog 16 #[.agg (dv n f g)] w fun e w' => e = .returned (.agg (dv n f g)) ∧ Below w.heap.size w w' := by
  have hn := dv_n n f g
  go_enter Try.func16, Try.ntmps16
  go_wp2_with fail
  rw [← dv_lit n, ← dv_lit 0]
  refine (toPlaces_any f _).mono ?_
  rintro e w1 ⟨rfl, h1⟩
  have c0 : cellsOf w1 w.heap.size = dv n f g := (below_cells h1 (by simp <;> omega)).trans (cellsOf_heap (heap2 rfl))
  have r1 : rowOk w1 (w.heap.size + 1) 33 := (below_row h1 (by simp <;> omega)).2 ⟨_, _, heap1 (by simp), dv_size _ _ _⟩
  have c2 : cellsOf w1 (w.heap.size + 1 + 1) = dv n (fun _ => 0) (fun _ => 0) := (below_cells h1 (by simp)).trans (cellsOf_heap (heap_at _ _ _ (by simp)))
  have r2 : rowOk w1 (w.heap.size + 1 + 1) 33 := (below_row h1 (by simp)).2 ⟨_, _, heap_at _ _ _ (by simp), dv_size _ _ _⟩
  have b1 := (below3 w (.cells (dv n f g) 24) (.cells (dv 0 (fun _ => 0) (fun _ => 0)) 31) (.cells (dv n (fun _ => 0) (fun _ => 0)) 31)).trans (h1.mono (by simp <;> omega))
  clear h1
  go_wp2_with fail
  refine (toPlaces_any g _).mono ?_
  rintro e w2 ⟨rfl, h2⟩
  have l1 := r1.lt
  have l2 := r2.lt
  have s1 : rowOk (w1.setRow (w.heap.size + 1 + 1) (dv n f fun _ => 0)) (w.heap.size + 1) 33 := (rowOk_setRow_ne (by omega)).2 r1
  have s2 : rowOk (w1.setRow (w.heap.size + 1 + 1) (dv n f fun _ => 0)) (w.heap.size + 1 + 1) 33 := rowOk_setRow r2 (dv_size _ _ _)
  have q1 : rowOk w2 (w.heap.size + 1) 33 := (below_row h2 (by simp; omega)).2 s1
  have q2 : rowOk w2 (w.heap.size + 1 + 1) 33 := (below_row h2 (by simp; omega)).2 s2
  have k2 : cellsOf w2 (w.heap.size + 1 + 1) = dv n f (fun _ => 0) := (below_cells h2 (by simp; omega)).trans (cellsOf_setRow r2)
  have b2 := (below_setRow b1 (show w.heap.size ≤ w.heap.size + 1 + 1 by omega) (dv n f fun _ => 0)).trans (h2.mono (by simp; omega))
  clear h2 b1 r1 r2 c0 c2 s1 s2 l1 l2
  go_wp2
  obtain ⟨t, ht, _⟩ := ((rowOk_setRow_ne (c' := dv n f g) (show w.heap.size + 1 ≠ w.heap.size + 1 + 1 by omega)).2 q1).heap
  exact res_agg (p := 2) (g := w.heap.size + 1) aggD (dv_size n f g) rfl rfl rfl (setRow_heap _ _ _ _ t (0, 0) ht) ⟨rfl, below_setRow (below_setRow b2 (by omega) _) (by omega) _⟩

section
variable {H : Type} {enc : TypeId × Value → H} {w : World} {base : Nat} {spare : Nat → Bool} {held : Bool}
set_option maxRecDepth 100000 in
/-- a dessin that came in -/
theorem open_dessin {r : Reach} {b0 : Nat} {v : Value} {d : DataW H} {ps : List MemPlace}
    (hval : Value.okWide Try.prog w r b0 24 v) (hd : DataW.Trod enc Try.prog w base spare held 24 v d ps) :
    ∃ (n : Int) (f g : Nat → Nat), (-9223372036854775808 ≤ n ∧ n ≤ 9223372036854775807) ∧ (∀ i, f i < 256) ∧ (∀ i, g i < 256) ∧ v = .agg (dv n f g) := by
  obtain ⟨cs, rfl, hs⟩ := okWide_struct Try.underlying24 hval
  have h33 : cs.size = 33 := hs.trans (by kernel_rfl)
  obtain ⟨fuel, hf⟩ := hd
  obtain ⟨xs, m, _, hx, _, hlen, hfl⟩ := DataW.trod_struct Try.underlying24 hf
  have hx3 : xs.length = 3 := hlen
  have h0 : DataW.trod enc Try.prog w base spare held m 2 (List.take (Try.prog.cellsOf 2) (List.drop 0 cs.toList)) = xs[0]? := hfl 0 _ rfl
  have h1 : DataW.trod enc Try.prog w base spare held m 22 (List.take (Try.prog.cellsOf 22) (List.drop 1 cs.toList)) = xs[1]? := hfl 1 _ rfl
  have h2 : DataW.trod enc Try.prog w base spare held m 22 (List.take (Try.prog.cellsOf 22) (List.drop 17 cs.toList)) = xs[2]? := hfl 2 _ rfl
  rw [List.getElem?_eq_getElem (by omega)] at h0 h1 h2
  have e2 : Try.prog.cellsOf 2 = 1 := by kernel_rfl
  have e16 : Try.prog.cellsOf 22 = 16 := by kernel_rfl
  have e1 : Try.prog.cellsOf 5 = 1 := by kernel_rfl
  rw [e2] at h0
  rw [e16] at h1 h2
  obtain ⟨n, hn, _, hw⟩ := DataW.trod_int Try.underlying2 h0
  have part : ∀ (o : Nat), o + 16 ≤ 33 → ∀ y, DataW.trod enc Try.prog w base spare held m 22 (List.take 16 (List.drop o cs.toList)) = some y → ∃ f : Nat → Nat, (∀ i, f i < 256) ∧ ∀ i, i < 16 → cs[o + i]? = some (.int .u8 (f i)) := by
    intro o ho y hy
    obtain ⟨ys, m', _, _, _, hl, hi⟩ := DataW.trod_array Try.underlying22 hy
    obtain ⟨f, hf, e⟩ := bytes_of (l := List.take 16 (List.drop o cs.toList)) Try.underlying5 (by simp; omega) hl (fun i h => by have := hi i h; rw [e1, Nat.mul_one] at this; exact this)
    refine ⟨f, hf, fun i h => ?_⟩
    have := congrArg (·[i]?) e
    simp only [List.getElem?_toArray, List.getElem?_take_of_lt h, List.getElem?_drop, Array.getElem?_toList, av_get f h] at this
    exact this
  obtain ⟨f, hf, hfc⟩ := part 1 (by omega) _ h1
  obtain ⟨g, hg, hgc⟩ := part 17 (by omega) _ h2
  refine ⟨n, f, g, bounds_i64 hw, hf, hg, ?_⟩
  congr 1
  apply Array.ext_getElem?
  intro i
  rw [get_cases]
  by_cases hi : i < 33
  · rw [if_pos hi]
    by_cases h0 : i = 0
    · subst h0
      rw [if_pos rfl]
      have := congrArg (·[0]?) hn
      simpa [List.getElem?_take] using this
    · rw [if_neg h0]
      by_cases h17 : i < 17
      · have := hfc (i - 1) (by omega)
        rw [show 1 + (i - 1) = i from by omega] at this
        rw [if_pos h17, this]
      · have := hgc (i - 17) (by omega)
        rw [show 17 + (i - 17) = i from by omega] at this
        rw [if_neg h17, this]
  · rw [if_neg hi, Array.getElem?_eq_none]; omega
end

end Go.Proofs.Ytmapjjfefjoemaa

namespace Go.Proofs.Ytmapjjfefjoemaa
open Go.RowKit

set_option maxRecDepth 100000 in
set_option maxHeartbeats 400000 in
theorem eqDessin_same (n : Int) (f g : Nat → Nat) (w : World) : Calls Try.prog 28 #[.agg (dv n f g), .agg (dv n f g)] w fun e w' => e = .returned (.bool true) ∧ Below w.heap.size w w' := by
  have hn := dv_n n f g
  have hne : (n != n) = false := by simp
  go_enter Try.func28, Try.ntmps28
  go_wp2_with fail
  refine (eqPlaces_same f _).mono ?_
  rintro e w1 ⟨rfl, h1⟩
  have c0 : cellsOf w1 w.heap.size = dv n f g := (below_cells h1 (by simp <;> omega)).trans (cellsOf_heap (heap1 rfl))
  have c1 : cellsOf w1 (w.heap.size + 1) = dv n f g := (below_cells h1 (by simp <;> omega)).trans (cellsOf_heap (heap_at _ _ _ (by simp)))
  have b1 := (below2 w (.cells (dv n f g) 31) (.cells (dv n f g) 31)).trans (h1.mono (by simp <;> omega))
  have l1 := h1.size
  clear h1
  go_wp2_with fail
  refine (eqPlaces_same g _).mono ?_
  rintro e w2 ⟨rfl, h2⟩
  have b2 := b1.trans (h2.mono (by simp at l1; omega))
  clear b1 h2 c0 c1
  go_wp2
  go_ret
  exact ⟨rfl, b2⟩

end Go.Proofs.Ytmapjjfefjoemaa

namespace Go.Proofs.Ytmapjjfefjoemaa
open Go.RowKit

set_option maxRecDepth 100000 in
set_option maxHeartbeats 4000000 in
theorem fnExactIntersectionOf_walk (w : World) (n0 : Int) (f0 g0 : Nat → Nat) (_hn0 : -9223372036854775808 ≤ n0 ∧ n0 ≤ 9223372036854775807) (hf0 : ∀ i, f0 i < 256) (hg0 : ∀ i, g0 i < 256) (v1 : Value) (l1 : List Int) (hv1 : RdZ w v1 l1) (_hz1 : fits64 l1) (v2 : Value) (l2 : List Int) (hv2 : RdZ w v2 l2) (_hz2 : fits64 l2) :
    Calls Try.prog 11 #[.agg (dv n0 f0 g0), v1, v2] w fun e w' => e = .returned (.bool true) ∧ Below w.heap.size w w' := by
  clear _hn0 _hz1 _hz2
  have c1 := fun (u1 : Value) (u2 : Value) (wx : World) (h1 : RdZ wx u1 l1) (h2 : RdZ wx u2 l2) => intersectionOf_any n0 f0 g0 hf0 hg0 u1 l1 u2 l2 wx h1 h2
  have c2 := fun (u1 : Value) (u2 : Value) (wx : World) (h1 : RdZ wx u1 l1) (h2 : RdZ wx u2 l2) => sIntersectionOf_any n0 f0 g0 hf0 hg0 u1 l1 u2 l2 wx h1 h2
  clear hf0 hg0
  generalize inR9 n0 f0 g0 l1 l2 = r at *
  generalize inC9 n0 f0 g0 l1 l2 = c at *
  have hne : (r != r) = false := by simp
  have hne2 : (c != c) = false := by simp
  have C1 := hide c1; clear c1
  have C2 := hide c2; clear c2
  obtain ⟨B1, d1, rfl, _⟩ := hv1.form
  have HV1 := hide hv1; clear hv1
  obtain ⟨B2, d2, rfl, _⟩ := hv2.form
  have HV2 := hide hv2; clear hv2
  by_cases hbig1 : (1048576 : Int) < l1.length
  · have hd1 := decide_eq_true hbig1
    clear hbig1
    have H0 := (Holds.start w).blk (dv n0 f0 g0) 24 w.heap.size rfl
    go_enter Try.func11, Try.ntmps11
    go_wp2
    go_ret
    exact ⟨rfl, H0.low⟩
  · have hd1 := decide_eq_false hbig1
    have hl1 : l1.length ≤ 1048576 := by omega
    clear hbig1
    by_cases hbig2 : (1048576 : Int) < l2.length
    · have hd2 := decide_eq_true hbig2
      clear hbig2
      have H0 := (Holds.start w).blk (dv n0 f0 g0) 24 w.heap.size rfl
      go_enter Try.func11, Try.ntmps11
      go_wp2
      go_ret
      exact ⟨rfl, H0.low⟩
    · have hd2 := decide_eq_false hbig2
      have hl2 : l2.length ≤ 1048576 := by omega
      clear hbig2
      have H0 := (Holds.start w).blk (dv n0 f0 g0) 24 w.heap.size rfl
      go_enter Try.func11, Try.ntmps11
      go_wp2_with fail
      refine (toDessin_any n0 f0 g0 _).mono ?_
      rintro e w1 ⟨rfl, hb⟩
      have H1 := H0.call hb
      clear hb H0
      go_wp2_with fail
      refine (toInt64S_any l1 _ _ (HV1.out.below H1.low (Nat.le_refl _)) hl1).mono ?_
      rintro e w2 ⟨_, rfl, hb, ho⟩
      obtain ⟨At1, ct1, rfl⟩ := own_slice ho
      have H2 := H1.newRow hb ho
      clear hb ho H1
      go_wp2_with fail
      refine (toInt64S_any l2 _ _ (HV2.out.below H2.low (Nat.le_refl _)) hl2).mono ?_
      rintro e w3 ⟨_, rfl, hb, ho⟩
      obtain ⟨At2, ct2, rfl⟩ := own_slice ho
      have H3 := H2.newRow hb ho
      clear hb ho H2
      go_wp2_with fail
      refine (C2.out _ _ _ (OwnZ.rd (show OwnZ w.heap.size _ _ l1 from H3.row 1 rfl) (by omega)) (OwnZ.rd (show OwnZ w.heap.size _ _ l2 from H3.row 0 rfl) (by omega))).mono ?_
      rintro e w4 ⟨rfl, hb⟩
      have H4 := H3.call hb
      clear hb H3
      have H5 : Holds w w4 _ := H4.sub (.cons _ (.cons _ (.cons_cons _ (.refl _))))
      clear H4
      go_wp2_with fail
      refine (toInt64S_any l1 _ _ (HV1.out.below H5.low (Nat.le_refl _)) hl1).mono ?_
      rintro e w5 ⟨_, rfl, hb, ho⟩
      obtain ⟨Ay1, cy1, rfl⟩ := own_slice ho
      have H6 := H5.newRow hb ho
      clear hb ho H5
      go_wp2_with fail
      refine (toInt64S_any l2 _ _ (HV2.out.below H6.low (Nat.le_refl _)) hl2).mono ?_
      rintro e w6 ⟨_, rfl, hb, ho⟩
      obtain ⟨Ay2, cy2, rfl⟩ := own_slice ho
      have H7 := H6.newRow hb ho
      clear hb ho H6
      have qD := H7.cells 2 rfl
      have rD := H7.lt 2 rfl
      go_wp2_with fail
      refine (toDessin_any n0 f0 g0 _).mono ?_
      rintro e w7 ⟨rfl, hb⟩
      clear qD rD
      have H8 := H7.call hb
      clear hb H7
      go_wp2_with fail
      refine (C1.out _ _ _ (OwnZ.rd (show OwnZ w.heap.size _ _ l1 from H8.row 1 rfl) (by omega)) (OwnZ.rd (show OwnZ w.heap.size _ _ l2 from H8.row 0 rfl) (by omega))).mono ?_
      rintro e w8 ⟨rfl, hb⟩
      have H9 := H8.call hb
      clear hb H8
      go_wp2_with fail
      refine (toInt64S_any l1 _ _ (HV1.out.below H9.low (Nat.le_refl _)) hl1).mono ?_
      rintro e w9 ⟨_, rfl, hb, ho⟩
      obtain ⟨Az1, cz1, rfl⟩ := own_slice ho
      have H10 := H9.newRow hb ho
      clear hb ho H9
      go_wp2_with fail
      refine (eqInt64S_rd l1 _ _ _ (OwnZ.rd (show OwnZ w.heap.size _ _ l1 from H10.row 2 rfl) (by omega)) (OwnZ.rd (show OwnZ w.heap.size _ _ l1 from H10.row 0 rfl) (by omega))).mono ?_
      rintro e w10 ⟨rfl, hb⟩
      have H11 := H10.call hb
      clear hb H10
      have H12 : Holds w w10 _ := H11.sub (.cons _ (.cons_cons _ (.cons_cons _ (.cons_cons _ (.refl _)))))
      clear H11
      go_wp2_with fail
      refine (toInt64S_any l2 _ _ (HV2.out.below H12.low (Nat.le_refl _)) hl2).mono ?_
      rintro e w11 ⟨_, rfl, hb, ho⟩
      obtain ⟨Az2, cz2, rfl⟩ := own_slice ho
      have H13 := H12.newRow hb ho
      clear hb ho H12
      go_wp2_with fail
      refine (eqInt64S_rd l2 _ _ _ (OwnZ.rd (show OwnZ w.heap.size _ _ l2 from H13.row 1 rfl) (by omega)) (OwnZ.rd (show OwnZ w.heap.size _ _ l2 from H13.row 0 rfl) (by omega))).mono ?_
      rintro e w12 ⟨rfl, hb⟩
      have H14 := H13.call hb
      clear hb H13
      have H15 : Holds w w12 _ := H14.sub (.cons _ (.cons_cons _ (.cons_cons _ (.cons_cons _ (.refl _)))))
      clear H14
      go_wp2
      go_ret
      exact ⟨rfl, H15.low⟩
end Go.Proofs.Ytmapjjfefjoemaa

