/- laws.toDessin, laws.eqDessin; how a dessin that came in is opened -/
import Derived.Test.YtmapjjfefjoemaaDes
import Derived.Test.YtmapjjfefjoemaaToPl
import Derived.Test.YtmapjjfefjoemaaEqPl
import Derived.Test.YtmapjjfefjoemaaOpen
namespace Go.Proofs.Ytmapjjfefjoemaa
open Go.RowKit Go.ChangeShapes Go.WideShapes

set_option maxRecDepth 100000 in
set_option maxHeartbeats 400000 in
theorem toDessin_any (n : Int) (f g : Nat → Nat) (w : World) : Calls Try.prog 16 #[.agg (dv n f g)] w fun e w' => e = .returned (.agg (dv n f g)) ∧ Below w.heap.size w w' := by
  have hn := dv_n n f g
  go_enter Try.func16, Try.ntmps16
  go_wp2_with fail
  rw [← dv_lit n, ← dv_lit 0]
  refine (toPlaces_any f _).mono ?_
  rintro e w1 ⟨rfl, h1⟩
  have c0 : cellsOf w1 w.heap.size = dv n f g := (below_cells h1 (by simp <;> omega)).trans (cellsOf_heap (heap2 rfl))
  have r1 : rowOk w1 (w.heap.size + 1) 33 := (below_row h1 (by simp <;> omega)).2 ⟨_, _, heap1 (by simp), dv_size _ _ _⟩
  have c2 : cellsOf w1 (w.heap.size + 1 + 1) = dv n (fun _ => 0) (fun _ => 0) := (below_cells h1 (by simp)).trans (cellsOf_heap (heap_at _ _ _ (by simp)))
  have r2 : rowOk w1 (w.heap.size + 1 + 1) 33 := (below_row h1 (by simp)).2 ⟨_, _, heap_at _ _ _ (by simp), dv_size _ _ _⟩
  have b1 := (below3 w (.cells (dv n f g) 24) (.cells (dv 0 (fun _ => 0) (fun _ => 0)) 31) (.cells (dv n (fun _ => 0) (fun _ => 0)) 31)).trans (h1.mono (by simp <;> omega))
  clear h1
  go_wp2_with fail
  refine (toPlaces_any g _).mono ?_
  rintro e w2 ⟨rfl, h2⟩
  have l1 := r1.lt
  have l2 := r2.lt
  have s1 : rowOk (w1.setRow (w.heap.size + 1 + 1) (dv n f fun _ => 0)) (w.heap.size + 1) 33 := (rowOk_setRow_ne (by omega)).2 r1
  have s2 : rowOk (w1.setRow (w.heap.size + 1 + 1) (dv n f fun _ => 0)) (w.heap.size + 1 + 1) 33 := rowOk_setRow r2 (dv_size _ _ _)
  have q1 : rowOk w2 (w.heap.size + 1) 33 := (below_row h2 (by simp; omega)).2 s1
  have q2 : rowOk w2 (w.heap.size + 1 + 1) 33 := (below_row h2 (by simp; omega)).2 s2
  have k2 : cellsOf w2 (w.heap.size + 1 + 1) = dv n f (fun _ => 0) := (below_cells h2 (by simp; omega)).trans (cellsOf_setRow r2)
  have b2 := (below_setRow b1 (show w.heap.size ≤ w.heap.size + 1 + 1 by omega) (dv n f fun _ => 0)).trans (h2.mono (by simp; omega))
  clear h2 b1 r1 r2 c0 c2 s1 s2 l1 l2
  go_wp2
  obtain ⟨t, ht, _⟩ := ((rowOk_setRow_ne (c' := dv n f g) (show w.heap.size + 1 ≠ w.heap.size + 1 + 1 by omega)).2 q1).heap
  exact res_agg (p := 2) (g := w.heap.size + 1) aggD (dv_size n f g) rfl rfl rfl (setRow_heap _ _ _ _ t (0, 0) ht) ⟨rfl, below_setRow (below_setRow b2 (by omega) _) (by omega) _⟩

section
variable {H : Type} {enc : TypeId × Value → H} {w : World} {base : Nat} {spare : Nat → Bool} {held : Bool}
set_option maxRecDepth 100000 in
/-- a dessin that came in -/
theorem open_dessin {r : Reach} {b0 : Nat} {v : Value} {d : DataW H} {ps : List MemPlace}
    (hval : Value.okWide Try.prog w r b0 24 v) (hd : DataW.Trod enc Try.prog w base spare held 24 v d ps) :
    ∃ (n : Int) (f g : Nat → Nat), (-9223372036854775808 ≤ n ∧ n ≤ 9223372036854775807) ∧ (∀ i, f i < 256) ∧ (∀ i, g i < 256) ∧ v = .agg (dv n f g) := by
  obtain ⟨cs, rfl, hs⟩ := okWide_struct Try.underlying24 hval
  have h33 : cs.size = 33 := hs.trans (by kernel_rfl)
  obtain ⟨fuel, hf⟩ := hd
  obtain ⟨xs, m, _, hx, _, hlen, hfl⟩ := DataW.trod_struct Try.underlying24 hf
  have hx3 : xs.length = 3 := hlen
  have h0 : DataW.trod enc Try.prog w base spare held m 2 (List.take (Try.prog.cellsOf 2) (List.drop 0 cs.toList)) = xs[0]? := hfl 0 _ rfl
  have h1 : DataW.trod enc Try.prog w base spare held m 22 (List.take (Try.prog.cellsOf 22) (List.drop 1 cs.toList)) = xs[1]? := hfl 1 _ rfl
  have h2 : DataW.trod enc Try.prog w base spare held m 22 (List.take (Try.prog.cellsOf 22) (List.drop 17 cs.toList)) = xs[2]? := hfl 2 _ rfl
  rw [List.getElem?_eq_getElem (by omega)] at h0 h1 h2
  have e2 : Try.prog.cellsOf 2 = 1 := by kernel_rfl
  have e16 : Try.prog.cellsOf 22 = 16 := by kernel_rfl
  have e1 : Try.prog.cellsOf 5 = 1 := by kernel_rfl
  rw [e2] at h0
  rw [e16] at h1 h2
  obtain ⟨n, hn, _, hw⟩ := DataW.trod_int Try.underlying2 h0
  have part : ∀ (o : Nat), o + 16 ≤ 33 → ∀ y, DataW.trod enc Try.prog w base spare held m 22 (List.take 16 (List.drop o cs.toList)) = some y → ∃ f : Nat → Nat, (∀ i, f i < 256) ∧ ∀ i, i < 16 → cs[o + i]? = some (.int .u8 (f i)) := by
    intro o ho y hy
    obtain ⟨ys, m', _, _, _, hl, hi⟩ := DataW.trod_array Try.underlying22 hy
    obtain ⟨f, hf, e⟩ := bytes_of (l := List.take 16 (List.drop o cs.toList)) Try.underlying5 (by simp; omega) hl (fun i h => by have := hi i h; rw [e1, Nat.mul_one] at this; exact this)
    refine ⟨f, hf, fun i h => ?_⟩
    have := congrArg (·[i]?) e
    simp only [List.getElem?_toArray, List.getElem?_take_of_lt h, List.getElem?_drop, Array.getElem?_toList, av_get f h] at this
    exact this
  obtain ⟨f, hf, hfc⟩ := part 1 (by omega) _ h1
  obtain ⟨g, hg, hgc⟩ := part 17 (by omega) _ h2
  refine ⟨n, f, g, bounds_i64 hw, hf, hg, ?_⟩
  congr 1
  apply Array.ext_getElem?
  intro i
  rw [get_cases]
  by_cases hi : i < 33
  · rw [if_pos hi]
    by_cases h0 : i = 0
    · subst h0
      rw [if_pos rfl]
      have := congrArg (·[0]?) hn
      simpa [List.getElem?_take] using this
    · rw [if_neg h0]
      by_cases h17 : i < 17
      · have := hfc (i - 1) (by omega)
        rw [show 1 + (i - 1) = i from by omega] at this
        rw [if_pos h17, this]
      · have := hgc (i - 17) (by omega)
        rw [show 17 + (i - 17) = i from by omega] at this
        rw [if_neg h17, this]
  · rw [if_neg hi, Array.getElem?_eq_none]; omega
end

end Go.Proofs.Ytmapjjfefjoemaa
