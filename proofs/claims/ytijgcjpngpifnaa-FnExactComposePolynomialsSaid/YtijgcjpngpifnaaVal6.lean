/- ValueOf: the program's 'at', a range over slices.Backward. -/
import Derived.Test.YtijgcjpngpifnaaBkw
namespace Go.Proofs.Ytijgcjpngpifnaa
open Go.RowKit Go.Shelf

attribute [local go_sem] Oper.semAt_some

/-- the value when some numbers have come -/
def hvP (x : Nat) (pre : List (Nat × Fin 10007)) : Nat := pre.foldl (fun v p => (v * x % 10007 + p.2.val) % 10007) 0
theorem hvP_snoc (x : Nat) (pre : List (Nat × Fin 10007)) (p : Nat × Fin 10007) : hvP x (pre ++ [p]) = (hvP x pre * x % 10007 + p.2.val) % 10007 := by simp [hvP]
theorem hvP_lt (x : Nat) (pre : List (Nat × Fin 10007)) : hvP x pre < 10007 := by
  rcases List.eq_nil_or_concat pre with rfl | ⟨q, p, rfl⟩
  · exact (by decide : 0 < 10007)
  · rw [List.concat_eq_append, hvP_snoc]; exact Nat.mod_lt _ (by decide)
theorem hvP_up {l : List Nat} (h : Po l) (x : Nat) : ∀ k, k ≤ l.length → hvP x (upB l k) = hornL l x k
  | 0, _ => rfl
  | k + 1, hk => by
    rw [upB_succ, hvP_snoc, hvP_up h x k (by omega)]
    unfold bkF
    rw [fN_val h]
    show _ = (hornL l x k * x + nth l (l.length - 1 - k)) % 10007
    rw [Nat.mod_add_mod]

theorem cell_apart (W : World) (g k : Nat) (v : Value) (h : k ≠ g) : (W.setCell ⟨g, 0, none⟩ v).cell? ⟨k, 0, none⟩ = W.cell? ⟨k, 0, none⟩ := by
  rw [cell_of_cells, cell_of_cells]
  unfold cellsOf
  rw [heap_setCell_ne _ _ _ _ _ h]
set_option maxRecDepth 100000 in
set_option maxHeartbeats 2000000 in
theorem at6_any (u : Value) (l : List Nat) (pl : Po l) (hl : l.length ≤ 1000) (x : Nat) (hx : x < 10007) (w : World) (hu : RdN w u l) :
    Calls Try.prog 48 #[u, .int .i64 (x : Nat)] w fun e w' => e = .returned (.int .i64 (valL l x : Nat)) ∧ Below w.heap.size w w' := by
  obtain ⟨A, cap, rfl, _⟩ := hu.form
  refine (callsIn_wide (n := 5)).1 ?_
  have hro : Fence.wide.round = none := rfl
  refine callsIn_of_wp_marks Try.func48 rfl trivial ?_ hro
  simp only [Try.ntmps48, List.size_toArray, List.length_cons, List.length_nil, Nat.reduceAdd, Nat.reduceSub, Array.replicate_succ, Array.replicate_zero, List.push_toArray, List.append_toArray, List.nil_append, List.cons_append]
  gi_wp2_with ((try refine ⟨trivial, ?_⟩); gi_at_call 76; refine (back_in Fence.wide _ trivial hro _ _ _ _).mono ?_; rintro e w' ⟨rfl, rfl⟩)
  have bX := ((Boxed.new w 42 (.int .i64 (x : Nat))).alloc (.cells #[.int .i64 0] 42)).alloc (.cells #[.slice A l.length cap] 44)
  have bV := (Boxed.new (w.alloc (.cells #[.int .i64 (x : Nat)] 42)) 42 (.int .i64 0)).alloc (.cells #[.slice A l.length cap] 44)
  have bN := Boxed.new ((w.alloc (.cells #[.int .i64 (x : Nat)] 42)).alloc (.cells #[.int .i64 0] 42)) 44 (.slice A l.length cap)
  rw [World.size_alloc] at bV
  rw [World.size_alloc, World.size_alloc] at bN
  have hB0 : Below w.heap.size w (((w.alloc (.cells #[.int .i64 (x : Nat)] 42)).alloc (.cells #[.int .i64 0] 42)).alloc (.cells #[.slice A l.length cap] 44)) := (((Below.refl _ w).alloc (Nat.le_refl _) _).alloc (by simp) _).alloc (by simp; omega) _
  have hrd : ∀ k, k < l.length → ∃ a, A = some a ∧ a.block < w.heap.size ∧ (((w.alloc (.cells #[.int .i64 (x : Nat)] 42)).alloc (.cells #[.int .i64 0] 42)).alloc (.cells #[.slice A l.length cap] 44)).cell? (a.add k) = some (.int .i64 (nth l k : Nat)) := fun k hk => by
    obtain ⟨a, e, h1, h2⟩ := hu.at hk
    have hb : (a.add k).block = a.block := by unfold Addr.add; split <;> rfl
    exact ⟨a, e, h1, (hB0.cell (p := a.add k) (by rw [hb]; exact h1)).trans h2⟩
  refine wpIn_rangeFunc_ownG hro (by omega) (gf := 88) (lb := #[.pointer (some ⟨w.heap.size + 1 + 1, 0, none⟩)]) rfl trivial (enters_of Try.func88 (by kernel_rfl) rfl)
    (back_stops Fence.wide (5 - 1) trivial hro (by omega) (w.heap.size + 1 + 1) w.heap.size A cap l hl pl _ (by simp) (by simp; omega) bN.cell hrd) kpB_t (kpB_b (by simp; omega) (by simp)) (Below.refl _ _) (fun _ => rfl)
    (fun pre W => (W.cell? ⟨w.heap.size + 1, 0, none⟩ = some (.int .i64 (hvP x pre : Nat)) ∧ W.frozen? ⟨w.heap.size + 1, 0, none⟩ = false ∧ W.cell? ⟨w.heap.size, 0, none⟩ = some (.int .i64 (x : Nat))) ∧ Below w.heap.size w W)
    (fun _ _ _ => False)
    (OwnFrom.and (Own.from (fun s A B row hs hg hr => ⟨cell_kept hs.1 hg hr, (frozen_kept hs.1 hg hr).trans hs.2.1, cell_kept hs.2.2 hg hr⟩) _) (ownFrom_below (Nat.le_refl _) (by simp; omega)))
    (fun _ _ _ _ _ hs _ _ => hs)
    ⟨⟨bV.cell, bV.frozen, bX.cell⟩, hB0⟩
    (fun p => { tmps := #[.slice A l.length cap, .int .i64 (x : Nat), undef, .pointer (some ⟨w.heap.size, 0, none⟩), .int .i64 0, .pointer (some ⟨w.heap.size + 1, 0, none⟩), undef, .int .i64 (p.2.val : Nat), .slice A l.length cap, .func (.func 88) #[] #[.pointer (some ⟨w.heap.size + 1 + 1, 0, none⟩)], .int .i64 (p.1 : Nat), .int .i64 (p.2.val : Nat), undef, undef, undef, undef, undef, undef], defers := [] }) ?assign ?body ?done ?stop
  case assign =>
    intro l' p W K hK
    gi_wp2
    exact hK
  case body =>
    rintro l' pre p W ⟨⟨hc, hf, hx0⟩, hB⟩ _
    have hv := hvP_lt x pre
    have hsn := hvP_snoc x pre p
    have hp := p.2.isLt
    have CT := hide (resTimes_any (hvP x pre) x hv hx)
    have CP := hide (resPlus_any (hvP x pre * x % 10007) p.2.val (Nat.mod_lt _ (by decide)) hp)
    rw [← hsn] at CP
    obtain ⟨v1, hv1⟩ : ∃ v1, v1 = hvP x pre * x % 10007 := ⟨_, rfl⟩
    rw [← hv1] at CT CP
    obtain ⟨v2, hv2⟩ : ∃ v2, v2 = hvP x (pre ++ [p]) := ⟨_, rfl⟩
    rw [← hv2] at CP
    have HV2 := hide hv2
    clear hv1 hv2 hsn hv hp
    generalize hvP x pre = v0 at *
    gi_wp2_with ((try refine ⟨trivial, ?_⟩); first | (gi_at_call 67; refine (CallsIn.inRound l' (callsIn_wide.2 (CT.out _))).mono ?_; rintro e w' ⟨rfl, rfl⟩) | (gi_at_call 77; refine (CallsIn.inRound l' (callsIn_wide.2 (CP.out _))).mono ?_; rintro e w' ⟨rfl, rfl⟩))
    refine ⟨(KeepsOthers.setCell _ _ _).from _, ⟨(Below.refl w.heap.size W).setCell (p := ⟨w.heap.size + 1, 0, none⟩) (Nat.le_succ _) _, heap_setCell_ne _ _ _ _ _ (by omega)⟩, ⟨?_, ?_, ?_⟩, hB.setCell (p := ⟨w.heap.size + 1, 0, none⟩) (Nat.le_succ _) _⟩
    · rw [← HV2.out]; exact World.cell?_setCell_same' _ _ _ (by rw [hc]; rfl)
    · rw [World.frozen?_setCell]; exact hf
    · rw [cell_apart _ _ _ _ (by omega)]; exact hx0
  case done =>
    rintro D ys W hD rfl ⟨⟨hc, _⟩, hB⟩ hK
    have hfin : hvP x (upB l l.length) = valL l x := hvP_up pl x _ (Nat.le_refl _)
    rw [hfin] at hc
    gi_wp2
    refine ⟨by simp, .inl ⟨_, _, rfl, run_takeDeferred hK, ?_⟩⟩
    exact ⟨_, results_tmp rfl _ _ _, rfl, hB.trans (belowK_b (w := w) (Nat.le_refl _) W D _ _ (by simp at hD; omega) hK rfl rfl)⟩
  case stop =>
    rintro D c pre W _ _ h _
    exact h.elim
end Go.Proofs.Ytijgcjpngpifnaa
