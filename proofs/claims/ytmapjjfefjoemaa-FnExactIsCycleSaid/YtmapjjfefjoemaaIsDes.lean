/- impl.IsDessin, spec.l01Is -/
import Derived.Test.YtmapjjfefjoemaaCon
import Derived.Test.YtmapjjfefjoemaaSPerm
namespace Go.Proofs.Ytmapjjfefjoemaa
open Go.RowKit

/-- a dessin of n darts, as the document has it -/
noncomputable def desB (n : Int) (f g : Nat → Nat) : Bool := permB f n && (permB g n && connB f g n.toNat)
/-- what is known of a dessin -/
structure DesN (f g : Nat → Nat) (m : Nat) : Prop where
  pos : 0 < m
  le : m ≤ 16
  black : PermN f m
  white : PermN g m
  conn : conn f g m
theorem DesN.bf {f g : Nat → Nat} {m : Nat} (h : DesN f g m) : Bij f m := h.black.2.2.1
theorem DesN.bg {f g : Nat → Nat} {m : Nat} (h : DesN f g m) : Bij g m := h.white.2.2.1
theorem desB_true {n : Int} {f g : Nat → Nat} (h : desB n f g = true) : ∃ m : Nat, n = (m : Int) ∧ DesN f g m := by
  unfold desB at h
  simp only [Bool.and_eq_true] at h
  obtain ⟨h1, h2, h3⟩ := h
  obtain ⟨m, rfl, hp⟩ := permB_true h1
  obtain ⟨m', e, hq⟩ := permB_true h2
  obtain rfl : m = m' := by omega
  rw [Int.toNat_natCast] at h3
  unfold connB at h3
  exact ⟨m, rfl, hp.1, hp.2.1, hp, hq, by simpa using h3⟩

set_option maxRecDepth 100000 in
set_option maxHeartbeats 1000000 in
theorem isDessin_any (n : Int) (f g : Nat → Nat) (hf : ∀ i, f i < 256) (hg : ∀ i, g i < 256) (w : World) :
    Calls Try.prog 51 #[.agg (dv n f g)] w fun e w' => e = .returned (.bool (desB n f g)) ∧ Below w.heap.size w w' := by
  have hn := dv_n n f g
  have C1 := hide fun w => isPerm_any f hf n w
  have C2 := hide fun w => isPerm_any g hg n w
  clear hf hg
  have hD : desB n f g = (permB f n && (permB g n && connB f g n.toNat)) := rfl
  rcases h1 : permB f n with _ | _
  · rw [h1] at C1 hD
    rw [Bool.false_and] at hD
    rw [hD]
    clear hD h1 C2
    go_enter Try.func51, Try.ntmps51
    go_wp2_with fail
    refine (C1.out _).mono ?_
    rintro e w1 ⟨rfl, hb⟩
    have b1 := (below1 w _).trans (hb.mono (by simp))
    clear hb
    go_wp2
    go_ret
    exact ⟨rfl, b1⟩
  · rcases h2 : permB g n with _ | _
    · rw [h1, h2] at hD
      rw [h1] at C1
      rw [h2] at C2
      rw [Bool.false_and, Bool.and_false] at hD
      rw [hD]
      clear hD h1 h2
      go_enter Try.func51, Try.ntmps51
      go_wp2_with fail
      refine (C1.out _).mono ?_
      rintro e w1 ⟨rfl, hb⟩
      have c1 : cellsOf w1 w.heap.size = dv n f g := (below_cells hb (by simp)).trans (cellsOf_heap (heap_at _ _ _ rfl))
      have n1 : w1.cell? ⟨w.heap.size, 0, none⟩ = some (.int .i64 n) := by rw [cell_of_cells, c1]; exact hn
      have b1 := (below1 w _).trans (hb.mono (by simp))
      clear hb
      go_wp2_with fail
      refine (C2.out _).mono ?_
      rintro e w2 ⟨rfl, hb⟩
      have b2 := b1.trans (hb.mono b1.size)
      clear hb b1 c1 n1
      go_wp2
      go_ret
      exact ⟨rfl, b2⟩
    · obtain ⟨m, rfl, hp⟩ := permB_true h1
      obtain ⟨m', e, hq⟩ := permB_true h2
      obtain rfl : m = m' := by omega
      rw [h1, h2, Bool.true_and, Bool.true_and, Int.toNat_natCast] at hD
      rw [h1] at C1
      rw [h2] at C2
      rw [hD]
      have C3 := hide fun w => isConn_any f g m hp.1 hp.2.1 hp.2.2.1.1 hq.2.2.1.1 w
      generalize connB f g m = B at *
      clear hD h1 h2 e hp hq
      go_enter Try.func51, Try.ntmps51
      go_wp2_with fail
      refine (C1.out _).mono ?_
      rintro e w1 ⟨rfl, hb⟩
      have c1 : cellsOf w1 w.heap.size = dv m f g := (below_cells hb (by simp)).trans (cellsOf_heap (heap_at _ _ _ rfl))
      have n1 : w1.cell? ⟨w.heap.size, 0, none⟩ = some (.int .i64 m) := by rw [cell_of_cells, c1]; exact hn
      have b1 := (below1 w _).trans (hb.mono (by simp))
      have l1 : w.heap.size < w1.heap.size := by have := hb.size; simp at this; omega
      clear hb
      go_wp2_with fail
      refine (C2.out _).mono ?_
      rintro e w2 ⟨rfl, hb⟩
      have c2 : cellsOf w2 w.heap.size = dv m f g := (below_cells hb l1).trans c1
      have b2 := b1.trans (hb.mono b1.size)
      clear hb b1 c1 n1 l1
      go_wp2_with fail
      refine (C3.out _).mono ?_
      rintro e w3 ⟨rfl, hb⟩
      have b3 := b2.trans (hb.mono b2.size)
      clear hb b2 c2
      go_wp2
      go_ret
      exact ⟨rfl, b3⟩

set_option maxRecDepth 100000 in
set_option maxHeartbeats 1000000 in
theorem sIs_any (n : Int) (f g : Nat → Nat) (hf : ∀ i, f i < 256) (hg : ∀ i, g i < 256) (w : World) :
    Calls Try.prog 57 #[.agg (dv n f g)] w fun e w' => e = .returned (.bool (desB n f g)) ∧ Below w.heap.size w w' := by
  have hn := dv_n n f g
  have C1 := hide fun w => sPerm_any f hf n w
  have C2 := hide fun w => sPerm_any g hg n w
  clear hf hg
  have hD : desB n f g = (permB f n && (permB g n && connB f g n.toNat)) := rfl
  rcases h1 : permB f n with _ | _
  · rw [h1] at C1 hD
    rw [Bool.false_and] at hD
    rw [hD]
    clear hD h1 C2
    go_enter Try.func57, Try.ntmps57
    go_wp2_with fail
    refine (C1.out _).mono ?_
    rintro e w1 ⟨rfl, hb⟩
    have b1 := (below1 w _).trans (hb.mono (by simp))
    clear hb
    go_wp2
    go_ret
    exact ⟨rfl, b1⟩
  · rcases h2 : permB g n with _ | _
    · rw [h1, h2] at hD
      rw [h1] at C1
      rw [h2] at C2
      rw [Bool.false_and, Bool.and_false] at hD
      rw [hD]
      clear hD h1 h2
      go_enter Try.func57, Try.ntmps57
      go_wp2_with fail
      refine (C1.out _).mono ?_
      rintro e w1 ⟨rfl, hb⟩
      have c1 : cellsOf w1 w.heap.size = dv n f g := (below_cells hb (by simp)).trans (cellsOf_heap (heap_at _ _ _ rfl))
      have n1 : w1.cell? ⟨w.heap.size, 0, none⟩ = some (.int .i64 n) := by rw [cell_of_cells, c1]; exact hn
      have b1 := (below1 w _).trans (hb.mono (by simp))
      clear hb
      go_wp2_with fail
      refine (C2.out _).mono ?_
      rintro e w2 ⟨rfl, hb⟩
      have b2 := b1.trans (hb.mono b1.size)
      clear hb b1 c1 n1
      go_wp2
      go_ret
      exact ⟨rfl, b2⟩
    · obtain ⟨m, rfl, hp⟩ := permB_true h1
      obtain ⟨m', e, hq⟩ := permB_true h2
      obtain rfl : m = m' := by omega
      rw [h1, h2, Bool.true_and, Bool.true_and, Int.toNat_natCast] at hD
      rw [h1] at C1
      rw [h2] at C2
      rw [hD]
      have C3 := hide fun w => sConn_any f g m hp.1 hp.2.1 hp.2.2.1.1 hq.2.2.1.1 w
      generalize connB f g m = B at *
      clear hD h1 h2 e hp hq
      go_enter Try.func57, Try.ntmps57
      go_wp2_with fail
      refine (C1.out _).mono ?_
      rintro e w1 ⟨rfl, hb⟩
      have c1 : cellsOf w1 w.heap.size = dv m f g := (below_cells hb (by simp)).trans (cellsOf_heap (heap_at _ _ _ rfl))
      have n1 : w1.cell? ⟨w.heap.size, 0, none⟩ = some (.int .i64 m) := by rw [cell_of_cells, c1]; exact hn
      have b1 := (below1 w _).trans (hb.mono (by simp))
      have l1 : w.heap.size < w1.heap.size := by have := hb.size; simp at this; omega
      clear hb
      go_wp2_with fail
      refine (C2.out _).mono ?_
      rintro e w2 ⟨rfl, hb⟩
      have c2 : cellsOf w2 w.heap.size = dv m f g := (below_cells hb l1).trans c1
      have n2 : w2.cell? ⟨w.heap.size, 0, none⟩ = some (.int .i64 m) := by rw [cell_of_cells, c2]; exact hn
      have b2 := b1.trans (hb.mono b1.size)
      clear hb b1 c1 n1 l1
      go_wp2_with fail
      refine (C3.out _).mono ?_
      rintro e w3 ⟨rfl, hb⟩
      have b3 := b2.trans (hb.mono b2.size)
      clear hb b2 c2 n2
      go_wp2
      go_ret
      exact ⟨rfl, b3⟩
end Go.Proofs.Ytmapjjfefjoemaa
