/- polynomial.after: a range over slices.Backward whose body makes memory. -/
import Derived.Test.YtijgcjpngpifnaaVal6
namespace Go.Proofs.Ytijgcjpngpifnaa
open Go.RowKit Go.Shelf

attribute [local go_sem] Oper.semAt_some

/-- a slice that reads as numbers, in blocks from lo on -/
def RdH (lo : Nat) (w : World) (v : Value) (l : List Nat) : Prop :=
  ∃ (A : Option Addr) (c : Nat), v = .slice A l.length c ∧ l.length ≤ 1000000 ∧ ∀ k, k < l.length → ∃ a, A = some a ∧ lo ≤ a.block ∧ a.block < w.heap.size ∧ w.cell? (a.add k) = some (.int .i64 (nth l k : Nat))
theorem RdH.rd {lo : Nat} {w : World} {v : Value} {l : List Nat} (h : RdH lo w v l) : RdN w v l := by
  obtain ⟨A, c, h1, h2, h3⟩ := h
  refine ⟨A, c, by rw [List.length_map]; exact h1, by rw [List.length_map]; omega, fun i x hx => ?_⟩
  have hi := (List.getElem?_eq_some_iff.1 hx).1
  rw [List.length_map] at hi
  obtain ⟨a, e, _, h5, h6⟩ := h3 i hi
  refine ⟨a, e, h5, ?_⟩
  rw [h6]
  rw [List.getElem?_map, List.getElem?_eq_getElem hi] at hx
  cases hx
  rw [nth_lt hi]
  rfl
theorem RdH.ofPo {w w' : World} {v : Value} {l : List Nat} (h : Holds w w' [pPo v l]) {lo : Nat} (hlo : lo ≤ w.heap.size) : RdH lo w' v l := by
  obtain ⟨A, c, e, _⟩ := h.poForm 0 rfl
  refine ⟨A, c, e, h.poLen 0 rfl, fun k hk => ?_⟩
  obtain ⟨g, c', e', _, h2, h3, _⟩ := h.poAt 0 rfl (by omega)
  rw [e] at e'
  injection e' with e1
  have hab := h.above 0 rfl (g := g) ⟨by omega, by rw [e, e1]; rfl⟩
  refine ⟨_, e1, Nat.le_trans hlo hab, h2, ?_⟩
  have hadd : (⟨g, 0, none⟩ : Addr).add k = ⟨g, k, none⟩ := by unfold Addr.add; split <;> simp_all
  rw [hadd]
  exact h3 k hk
theorem RdH.nil (lo : Nat) (w : World) : RdH lo w (.slice none 0 0) [] := ⟨none, 0, rfl, by simp, fun k hk => by simp at hk⟩
theorem RdH.turn {lo : Nat} {w w' : World} {v : Value} {l : List Nat} (h : RdH lo w v l) {row : Option Nat} (hg : w.grownBy w' row) (hr : ∀ r, row = some r → ∃ o : Obj, w.heap[r]? = some o ∧ o.isCells = false) : RdH lo w' v l := by
  obtain ⟨A, c, h1, h2, h3⟩ := h
  refine ⟨A, c, h1, h2, fun k hk => ?_⟩
  obtain ⟨a, e, h4, h5, h6⟩ := h3 k hk
  exact ⟨a, e, h4, Nat.lt_of_lt_of_le h5 hg.size, cell_kept h6 hg hr⟩
theorem RdH.store {lo : Nat} {w : World} {v : Value} {l : List Nat} (h : RdH lo w v l) (g : Nat) (u : Value) (hgl : g < lo) : RdH lo (w.setCell ⟨g, 0, none⟩ u) v l := by
  obtain ⟨A, c, h1, h2, h3⟩ := h
  refine ⟨A, c, h1, h2, fun k hk => ?_⟩
  obtain ⟨a, e, h4, h5, h6⟩ := h3 k hk
  refine ⟨a, e, h4, by simpa using h5, ?_⟩
  have hb : (a.add k).block = a.block := by unfold Addr.add; split <;> rfl
  have hp : ∀ W : World, W.heap[(a.add k).block]? = w.heap[(a.add k).block]? → W.cell? (a.add k) = w.cell? (a.add k) := fun W hW => by
    unfold World.cell?
    simp only [hW]
  rw [hp _ (heap_setCell_ne _ _ _ _ _ (by rw [hb]; omega))]
  exact h6
theorem keeps_below {w w' : World} (hb : Below w.heap.size w w') : KeepsOthers w w' :=
  ⟨hb.size, fun k o hk _ => (hb.block k (Array.getElem?_eq_some_iff.1 hk).1).trans hk⟩
def cvP (g : List Nat) (pre : List (Nat × Fin 10007)) : List Nat := pre.foldl (fun r p => addL (timesL r g) (trimN [p.2.val]) 1) []
theorem cvP_snoc (g : List Nat) (pre : List (Nat × Fin 10007)) (p : Nat × Fin 10007) : cvP g (pre ++ [p]) = addL (timesL (cvP g pre) g) (trimN [p.2.val]) 1 := by simp [cvP]
theorem cvP_up {f : List Nat} (h : Po f) (g : List Nat) : ∀ k, k ≤ f.length → cvP g (upB f k) = cmpT f g k
  | 0, _ => rfl
  | k + 1, hk => by
    rw [upB_succ, cvP_snoc, cvP_up h g k (by omega)]
    unfold bkF
    rw [fN_val h]
    rfl
/-- what a round of 'after' holds: the result's box, the box of g -/
def InvA (G : Nat) (gv : Value) (g : List Nat) (pre : List (Nat × Fin 10007)) (W : World) : Prop :=
  pre.length ≤ 17 → ∃ v, W.cell? ⟨G + 1, 0, none⟩ = some v ∧ RdH (G + 3) W v (cvP g pre) ∧ W.frozen? ⟨G + 1, 0, none⟩ = false ∧ W.cell? ⟨G, 0, none⟩ = some gv ∧ G + 3 ≤ W.heap.size
theorem InvA.own (G : Nat) (gv : Value) (g : List Nat) : Own (InvA G gv g) := fun s A B row hs hg hr hp => by
  obtain ⟨v, h1, h2, h3, h4, h5⟩ := hs hp
  exact ⟨v, cell_kept h1 hg hr, h2.turn hg hr, (frozen_kept h1 hg hr).trans h3, cell_kept h4 hg hr, Nat.le_trans h5 hg.size⟩
set_option maxRecDepth 100000 in
set_option maxHeartbeats 2000000 in
theorem after6_any (u gv : Value) (f g : List Nat) (pf : Po f) (hl : f.length ≤ 17) (pg : Po g) (hgl : g.length ≤ 17) (hlen : ∀ pre : List (Nat × Fin 10007), pre.length ≤ 17 → (cvP g pre).length ≤ 300) (w : World) (hu : RdN w u f) (hv : RdN w gv g) :
    Calls Try.prog 57 #[u, gv] w fun e w' => ∃ r, e = .returned r ∧ RdN w' r (cmpT f g f.length) ∧ Below w.heap.size w w' := by
  obtain ⟨A, cap, rfl, _⟩ := hu.form
  obtain ⟨B, d, rfl, _⟩ := hv.form
  refine (callsIn_wide (n := 5)).1 ?_
  have hro : Fence.wide.round = none := rfl
  refine callsIn_of_wp_marks Try.func57 rfl trivial ?_ hro
  simp only [Try.ntmps57, List.size_toArray, List.length_cons, List.length_nil, Nat.reduceAdd, Nat.reduceSub, Array.replicate_succ, Array.replicate_zero, List.push_toArray, List.append_toArray, List.nil_append, List.cons_append]
  gi_wp2_with ((try refine ⟨trivial, ?_⟩); gi_at_call 76; refine (back_in Fence.wide _ trivial hro _ _ _ _).mono ?_; rintro e w' ⟨rfl, rfl⟩)
  have bX := ((Boxed.new w 44 (.slice B g.length d)).alloc (.cells #[.slice none 0 0] 44)).alloc (.cells #[.slice A f.length cap] 44)
  have bV := (Boxed.new (w.alloc (.cells #[.slice B g.length d] 44)) 44 (.slice none 0 0)).alloc (.cells #[.slice A f.length cap] 44)
  have bN := Boxed.new ((w.alloc (.cells #[.slice B g.length d] 44)).alloc (.cells #[.slice none 0 0] 44)) 44 (.slice A f.length cap)
  rw [World.size_alloc] at bV
  rw [World.size_alloc, World.size_alloc] at bN
  have hB0 : Below w.heap.size w (((w.alloc (.cells #[.slice B g.length d] 44)).alloc (.cells #[.slice none 0 0] 44)).alloc (.cells #[.slice A f.length cap] 44)) := (((Below.refl _ w).alloc (Nat.le_refl _) _).alloc (by simp) _).alloc (by simp; omega) _
  have hrd : ∀ k, k < f.length → ∃ a, A = some a ∧ a.block < w.heap.size ∧ (((w.alloc (.cells #[.slice B g.length d] 44)).alloc (.cells #[.slice none 0 0] 44)).alloc (.cells #[.slice A f.length cap] 44)).cell? (a.add k) = some (.int .i64 (nth f k : Nat)) := fun k hk => by
    obtain ⟨a, e, h1, h2⟩ := hu.at hk
    have hb : (a.add k).block = a.block := by unfold Addr.add; split <;> rfl
    exact ⟨a, e, h1, (hB0.cell (p := a.add k) (by rw [hb]; exact h1)).trans h2⟩
  refine wpIn_rangeFunc_ownG hro (by omega) (gf := 88) (lb := #[.pointer (some ⟨w.heap.size + 1 + 1, 0, none⟩)]) rfl trivial (enters_of Try.func88 (by kernel_rfl) rfl)
    (back_stops Fence.wide (5 - 1) trivial hro (by omega) (w.heap.size + 1 + 1) w.heap.size A cap f (by omega) pf _ (by simp) (by simp; omega) bN.cell hrd) kpB_t (kpB_b (by simp; omega) (by simp)) (Below.refl _ _) (fun _ => rfl)
    (fun pre W => InvA w.heap.size (.slice B g.length d) g pre W ∧ Below w.heap.size w W)
    (fun _ _ _ => False)
    (OwnFrom.and (Own.from (InvA.own _ _ _) _) (ownFrom_below (Nat.le_refl _) (by simp; omega)))
    (fun _ _ _ _ _ hs _ _ => hs)
    ⟨fun _ => ⟨_, bV.cell, RdH.nil _ _, bV.frozen, bX.cell, by simp⟩, hB0⟩
    (fun p => { tmps := #[.slice A f.length cap, .slice B g.length d, undef, .pointer (some ⟨w.heap.size, 0, none⟩), .slice none 0 0, .pointer (some ⟨w.heap.size + 1, 0, none⟩), undef, .int .i64 (p.2.val : Nat), .slice A f.length cap, .func (.func 88) #[] #[.pointer (some ⟨w.heap.size + 1 + 1, 0, none⟩)], .int .i64 (p.1 : Nat), .int .i64 (p.2.val : Nat), undef, undef, undef, undef, undef, undef, undef], defers := [] }) ?assign ?body ?done ?stop
  case assign =>
    intro l' p W K hK
    gi_wp2
    exact hK
  case body =>
    rintro l' pre p W ⟨hI, hB⟩ hN
    have hpl : pre.length ≤ 17 := by omega
    obtain ⟨v, hc, hr, hf, hx0, hsz⟩ := hI hpl
    have hvl := hlen pre hpl
    have hpo : Po (cvP g pre) := by
      rcases List.eq_nil_or_concat pre with rfl | ⟨q, z, rfl⟩
      · exact Po.nil
      · rw [List.concat_eq_append, cvP_snoc]; exact addL_po _ _ _
    have hsn := cvP_snoc g pre p
    have hp := p.2.isLt
    have htn : (trimN [p.2.val]).length ≤ 1 := trimN_le _
    have htl := timesL_len (cvP g pre) g
    obtain ⟨V, vc, rfl, _⟩ := hr.rd.form
    have CT := hide (times6_any (.slice V (cvP g pre).length vc) (.slice B g.length d) (cvP g pre) g hpo pg (by omega) (by omega) W hr.rd (hv.below hB (Nat.le_refl _)))
    have CK := hide fun W1 => constant6_any p.2.val W1
    have CP := fun (r s : Value) (W1 : World) (h : RdN W1 r (timesL (cvP g pre) g)) (k : RdN W1 s (trimN [p.2.val])) => plus6_any r s _ _ (timesL_po _ _) (trimN_po (one_po hp)) (by omega) (by omega) W1 h k
    rw [← hsn] at CP
    replace CP := hide CP
    have HSZ := hide hsz
    clear hsn hp htn htl hpo hvl hr hI
    gi_wp2_with ((try refine ⟨trivial, ?_⟩); first
      | (gi_at_call 54; refine (CallsIn.inRound l' (callsIn_wide.2 CT.out)).mono ?_; rintro e w1 ⟨r1, rfl, k1⟩)
      | (gi_at_call 82; refine (CallsIn.inRound l' (callsIn_wide.2 (CK.out _))).mono ?_; rintro e w2 ⟨r2, rfl, k2⟩)
      | (gi_at_call 51; refine (CallsIn.inRound l' (callsIn_wide.2 (CP.out r1 r2 w2 ((k1.poRd 0 rfl).below k2.low (Nat.le_refl _)) (k2.poRd 0 rfl)))).mono ?_; rintro e w3 ⟨r3, rfl, k3⟩
         obtain ⟨X, xc, rfl, _⟩ := k3.poForm 0 rfl
         have hbW := (k1.low.trans (k2.low.mono k1.size)).trans (k3.low.mono (Nat.le_trans k1.size k2.size))
         have hc3 := (hbW.cell (p := ⟨w.heap.size + 1, 0, none⟩) (by have := HSZ.out; show w.heap.size + 1 < _; omega)).trans hc
         have hf3 : w3.frozen? ⟨w.heap.size + 1, 0, none⟩ = false := by
           unfold World.frozen? at hf ⊢
           rw [hbW.block _ (by have := HSZ.out; show w.heap.size + 1 < _; omega)]
           exact hf))
    have hr3 := RdH.ofPo k3 (lo := w.heap.size + 3) (by have := HSZ.out; have := k1.size; have := k2.size; omega)
    have hb1 := (KeepsOthers.setCell w3 ⟨w.heap.size + 1, 0, none⟩ (.slice X (cvP g (pre ++ [p])).length xc))
    refine ⟨((keeps_below hbW).trans hb1).from _, ⟨(hbW.mono (by have := HSZ.out; omega)).setCell (p := ⟨w.heap.size + 1, 0, none⟩) (Nat.le_succ _) _, (heap_setCell_ne _ _ _ _ _ (by omega)).trans (hbW.block _ (by have := HSZ.out; omega))⟩, fun _ => ⟨_, World.cell?_setCell_same' _ _ _ (by rw [hc3]; rfl), hr3.store _ _ (by omega), by rw [World.frozen?_setCell]; exact hf3, ?_, ?_⟩, (hB.trans (hbW.mono hB.size)).setCell (p := ⟨w.heap.size + 1, 0, none⟩) (Nat.le_succ _) _⟩
    · rw [cell_apart _ _ _ _ (by omega)]
      exact (hbW.cell (p := ⟨w.heap.size, 0, none⟩) (by have := HSZ.out; show w.heap.size < _; omega)).trans hx0
    · have := HSZ.out
      have := hbW.size
      simp
      omega
  case done =>
    rintro D ys W hD rfl ⟨hI, hB⟩ hK
    obtain ⟨v, hc, hr, _⟩ := hI (by rw [upB_length]; exact hl)
    have hfin : cvP g (upB f f.length) = cmpT f g f.length := cvP_up pf g _ (Nat.le_refl _)
    rw [hfin] at hr
    obtain ⟨V, vc, rfl, _⟩ := hr.rd.form
    gi_wp2
    refine ⟨by simp, .inl ⟨_, _, rfl, run_takeDeferred hK, ?_⟩⟩
    have hr2 : RdH (w.heap.size + 3) (W.putObj D (.deferred none)) (.slice V (cmpT f g f.length).length vc) (cmpT f g f.length) := hr.turn (grownBy_putObj' W D _) (fun r e => by cases e; exact ⟨_, hK, rfl⟩)
    exact ⟨_, results_tmp rfl _ _ _, .slice V (cmpT f g f.length).length vc, rfl, hr2.rd, hB.trans (belowK_b (w := w) (Nat.le_refl _) W D _ _ (by simp at hD; omega) hK rfl rfl)⟩
  case stop =>
    rintro D c pre W _ _ h _
    exact h.elim
end Go.Proofs.Ytijgcjpngpifnaa
