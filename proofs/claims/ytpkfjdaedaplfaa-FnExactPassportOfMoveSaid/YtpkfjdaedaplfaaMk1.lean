/- Marks in a list of numbers, as the laws set and look for them. -/
import Derived.Test.YtpkfjdaedaplfaaMark
namespace Go.Proofs.Ytpkfjdaedaplfaa
open Go.RowKit

theorem own1_form {B : Nat} {w : World} {v : Value} {l : List Nat} (h : Own1 B w v l) : ∃ A c, v = .slice A l.length c ∧ Own1 B w (.slice A l.length c) l := by
  obtain ⟨A, c, rfl⟩ := own_slice h
  exact ⟨A, c, rfl, h⟩
theorem Own1.below {B C : Nat} {w w' : World} {v : Value} {l : List Nat} (h : Own1 B w v l) (hb : Below C w w') (hC : w.heap.size ≤ C) : Own1 B w' v l := h.kept (grown_of_below (hb.mono hC) none) (Classical.em _)
theorem Own1.lower {B C : Nat} {w w' : World} {v : Value} {l : List Nat} (h : Own1 B w v l) (hb : Below C w w') (hC : ∀ k, v.ownBlock = some k → k < C) : Own1 B w' v l := by
  refine ⟨h.1, ?_⟩
  rcases h.2 with c | ⟨g, cap, cur, rfl, h1, h2, h3⟩
  · exact .inl c
  · exact .inr ⟨g, cap, cur, rfl, h1, by rw [hb.block g (hC g rfl)]; exact h2, h3⟩
theorem Own1.low {B : Nat} {w : World} {v : Value} {l : List Nat} (h : Own1 B w v l) : ∀ k, v.ownBlock = some k → k < w.heap.size := fun k hk => (World.ownsRow.lt h k hk).2
theorem mk1 (l : List Nat) (A : Option Addr) (c B : Nat) (hl : l.length ≤ 1000000) (w : World) (hBw : B ≤ w.heap.size) (h : Own1 B w (.slice A l.length c) l) :
    Calls Try.prog 80 #[.slice A l.length c, .int .i64 1] w fun e w' => e = .returned (.int .i64 (1 + l.length : Nat)) ∧ Below B w w' ∧ w.heap.size ≤ w'.heap.size ∧ Own1 B w' (.slice A l.length c) (marks 1 l.length) :=
  (markInt64S_any l A c B 1 (by omega) (by omega) w h).mono fun e w' ⟨h1, h2, h3⟩ => ⟨h1, (Below.refl B w).grown h2 hBw (fun g hg => (World.ownsRow.lt h g hg).1), h2.size, h3⟩
theorem hd1 (l : List Nat) (A : Option Addr) (c B : Nat) (hl : l.length ≤ 1000000) (w : World) (h : Own1 B w (.slice A l.length c) (marks 1 l.length)) :
    Calls Try.prog 81 #[.slice A l.length c, .int .i64 1] w fun e w' => e = .returned (.int .i64 (1 + l.length : Nat)) ∧ Below w.heap.size w w' :=
  heldInt64S_any l.length A c B 1 (by omega) (by omega) w h
end Go.Proofs.Ytpkfjdaedaplfaa
