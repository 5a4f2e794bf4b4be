/- One number more at the end of a list of the call's own. -/
import Derived.Test.YtcddglkecfnhmaaMark
import Derived.Test.YtcddglkecfnhmaaCycL
namespace Go.Proofs.Ytcddglkecfnhmaa
open Go.RowKit

theorem app1 {ops : Array Oper} {rest : List Oper} {o : Oper} {a : Act} {Q : Exit → Act → World → Prop} {w : World} {t : TypeId} (hgd : o.guard = none) (s x : Operand)
    (ho : o.op = .call { callee := .builtin .append, args := #[s, x], argTypes := #[42, 42] }) {B : Nat} {v : Value} {l : List Nat} (hs : a.eval s = v) (hown : Own1 B w v l) (hB : B ≤ w.heap.size)
    (y : Nat) (g : Nat) (hx : a.eval x = .slice (some ⟨g, 0, none⟩) 1 1) (hg : g = w.heap.size) (hl : l.length ≤ 1000000000)
    (h : ∀ v' w', Own1 B w' v' (l ++ [y]) → w.grownBy w' v.ownBlock → w.heap.size < w'.heap.size → wpList Try.prog ops Q rest (a.put o.dst v') w') :
    wpList Try.prog ops Q (o :: rest) a (w.alloc (.cells #[.int .i64 (y : Int)] t)) := by
  obtain ⟨i0, hi, hz0, hz1, hz2⟩ := info_parts info64
  unfold Own1 at hown
  refine wpList_append_own (P := Try.prog) _ hgd s x 42 ho B 2 i0 (.int .i64 0) 1 8 Try.underlying42 hi hz0 hz1 hz2 rfl (by decide) v l.length (nums l) hs (hown.alloc _) ⟨g, 0, none⟩ 1 1 [.int .i64 (y : Int)] hx rfl
    (one_new _ _ _ _ hg) (fun u hu => ?_) (by unfold maxLen; omega) (by omega) (by simp; omega) fun v' w' h1 h2 _ => h v' w' ?_ ?_ ?_
  · simp at hu; subst hu; rfl
  · unfold Own1 nums at *
    simpa using h1
  · exact grown_step (grown_alloc (grown_refl w v.ownBlock) _) h2 fun g hg => .inr hg
  · have := h2.size; simp at this; omega
/-- one list more at the end of a list of lists of the call's own; it was made behind all of these -/
theorem app2 {ops : Array Oper} {rest : List Oper} {o : Oper} {a : Act} {Q : Exit → Act → World → Prop} {w0 w : World} {t : TypeId} (hgd : o.guard = none) (s x : Operand)
    (ho : o.op = .call { callee := .builtin .append, args := #[s, x], argTypes := #[86, 86] }) {B : Nat} {v u : Value} {ls : List (List Nat)} {l : List Nat} (hs : a.eval s = v) (hown : Own2 B w0 v ls) (hb : Below w0.heap.size w0 w)
    (hu : Own1 w0.heap.size w u l) (hB : B ≤ w0.heap.size) (g : Nat) (hx : a.eval x = .slice (some ⟨g, 0, none⟩) 1 1) (hg : g = w.heap.size) (hl : ls.length ≤ 1000000000)
    (h : ∀ v' w', Own2 B w' v' (ls ++ [l]) → w.grownBy w' v.ownBlock → w.heap.size < w'.heap.size → (∀ k, v.ownBlock = some k → B ≤ k) → wpList Try.prog ops Q rest (a.put o.dst v') w') :
    wpList Try.prog ops Q (o :: rest) a (w.alloc (.cells #[u] t)) := by
  obtain ⟨i0, hi, hz0, hz1, hz2⟩ := info_parts infoSl
  obtain ⟨vs, hlen, hrow, heach, hdist⟩ := hown
  have hC : ∀ (i : Nat) (x : Value), vs[i]? = some x → ∀ g, x.ownBlock = some g → g < w0.heap.size := by
    intro i x hx1 g hg
    have : i < ls.length := by rw [← hlen]; exact (List.getElem?_eq_some_iff.1 hx1).1
    exact (World.ownsRow.lt (heach i x _ hx1 (List.getElem?_eq_getElem this)) g hg).2
  have kept := grown_of_below hb none
  have hrow1 := hrow.kept kept (Classical.em _)
  have heach1 : ∀ (i : Nat) (u : Value) (l : List Nat), vs[i]? = some u → ls[i]? = some l → Own1 B w u l := fun i u l h1 h2 => (heach i u l h1 h2).kept kept (Classical.em _)
  have hsz := hb.size
  obtain ⟨A, c, rfl⟩ := own_slice hu
  refine wpList_append_own (P := Try.prog) _ hgd s x 86 ho B 42 i0 (.slice none 0 0) 1 24 Try.underlying86 hi hz0 hz1 hz2 rfl (by decide) v vs.length vs hs (hrow1.alloc _) ⟨g, 0, none⟩ 1 1 [.slice A l.length c] hx rfl
    (one_new _ _ _ _ hg) (fun u hu => ?_) (by unfold maxLen; omega) (by omega) (by simp; omega) fun v' w' h1 h2 _ => h v' w' ?_ ?_ ?_ fun k hk => (hrow.lt k hk).1
  · simp at hu; subst hu; rfl
  · exact Own2.add hlen (hrow1.alloc _) (fun i u l h1 h2 => World.ownsRow.alloc (heach1 i u l h1 h2) _) hdist (World.ownsRow.alloc hu _) hB hC h1 h2
  · exact grown_step (grown_alloc (grown_refl w v.ownBlock) _) h2 fun g hg => .inr hg
  · have := h2.size; simp at this; omega
end Go.Proofs.Ytcddglkecfnhmaa
