/- Texts put together: Face, PF, PrS, Ints, HS2, CellR, Cell, Prod, Mor, SMor, Nam, SNam, ToPl, EqPl -/
import Derived.Test.YtjhpkibeddnbfaaQdLawProductSizes
import Derived.Test.YtjhpkibeddnbfaaChecked
import Derived.WalkKit
import Derived.WalkSpells
import Derived.WalkLawsBesides
import Derived.Deep.LoopGhost
import Derived.Deep.OwnRows
import Derived.Laws.Rows
import Derived.Laws.Tables
import Derived.Laws.CopyOwn
import Derived.ProofKit
import Derived.OpenShut
import Derived.ShutString
import Derived.ChangeOld
import Derived.Below
import Derived.Laws.OwnMore
import Derived.Maps.Keyed
import Derived.DeepKeys4
import Derived.Maps.Own
import Derived.Laws.CopyRow
import Derived.Deep.MidRow
import Derived.Deep.Quiet
import Derived.Deep.QuietTactic
import Derived.BigQuiet
import Derived.StillTail
import Derived.Carry
import Derived.RegionTactic
import Derived.ChangeKeysEq
import Derived.StillTailTactics
import Derived.Deep.RegionWith
import Derived.Deep.RegionHeld3
import Derived.IntWalk
import Derived.Shelf.SortM.Plain
import Derived.Shelf.SlicesG.Reverse
import Derived.Shelf.SlGeneric
import Derived.Laws.Cover3
namespace Go.Proofs.Ytjhpkibeddnbfaa
open Go.RowKit

/-- what is held of a boxed dessin, in worlds that only grow -/
theorem keepD {B b : Nat} {w w1 w' : World} {cs : Array Value} {v : Value} (hB : B ≤ b) (h : cellsOf w1 b = cs ∧ w1.cell? ⟨b, 0, none⟩ = some v ∧ b < w1.heap.size ∧ Below B w w1) (hb : Below w1.heap.size w1 w') :
    cellsOf w' b = cs ∧ w'.cell? ⟨b, 0, none⟩ = some v ∧ b < w'.heap.size ∧ Below B w w' :=
  ⟨(below_cells hb h.2.2.1).trans h.1, (hb.cell (p := ⟨b, 0, none⟩) h.2.2.1).trans h.2.1, Nat.lt_of_lt_of_le h.2.2.1 hb.size, h.2.2.2.trans (hb.mono (by have := h.2.2.1; omega))⟩

def faceF (f g : Nat → Nat) (m : Nat) : Nat → Nat := backF (thenF f g m) m

theorem thenF_lt {f g : Nat → Nat} {m : Nat} (hm : m ≤ 16) (hf : ∀ i, i < m → f i < m) (hg : ∀ i, i < m → g i < m) (i : Nat) (hi : i < m) : thenF f g m i < 16 := by
  unfold thenF upto
  rw [if_pos hi]
  have := hg _ (hf i hi)
  show g (f i) < 16
  omega

set_option maxRecDepth 100000 in
set_option maxHeartbeats 1000000 in
theorem face_any (f g : Nat → Nat) (m : Nat) (hm : m ≤ 16) (hf : ∀ i, i < m → f i < m) (hg : ∀ i, i < m → g i < m) (w : World) :
    Calls Try.prog 99 #[.agg (dv m f g)] w fun e w' => e = .returned (.agg (av (faceF f g m))) ∧ Below w.heap.size w w' := by
  have C1 := hide fun w => follow_any f g m hm (fun i hi => by have := hf i hi; omega) w
  have C2 := hide fun w => undo_any (thenF f g m) m hm (thenF_lt hm hf hg) w
  have hF : faceF f g m = backF (thenF f g m) m := rfl
  rw [hF]
  generalize thenF f g m = T at *
  generalize backF T m = F at *
  clear hf hg hF
  have hn := dv_n m f g
  go_enter Try.func99, Try.ntmps99
  go_wp2
  rw [← av_zero]
  generalize hW : (w.alloc (.cells (dv m f g) 30)).alloc (.cells (av fun _ => 0) 28) = W
  have c0 : cellsOf W w.heap.size = dv m f g := by rw [← hW]; exact cellsOf_heap (heap1 rfl)
  have r1 : rowOk W (w.heap.size + 1) 16 := by rw [← hW]; exact ⟨_, _, heap_at _ _ _ (by simp), av_size _⟩
  have b0 : Below w.heap.size w W := by rw [← hW]; exact below2 _ _ _
  have l0 : w.heap.size < W.heap.size := by rw [← hW]; simp <;> omega
  clear hW
  refine region_tail (Grown W) 10 (by kernel_rfl) (by kernel_rfl) (Grown.drew W) ?_
  simp only [List.take_succ_cons, List.take_zero, List.drop_succ_cons, List.drop_zero]
  iterate 10
    apply q_step
    · go_simp
    · intro wx hx
      have e0 := hx.cells c0 l0
      have n0 : wx.cell? ⟨w.heap.size, 0, none⟩ = some (.int .i64 m) := by rw [cell_of_cells, e0]; exact hn
      first
        | (go_simp; exact rfl)
        | (go_simp; go_at_call 88; exact Calls.mono (C1.out wx) fun e w' h => ⟨h.1, hx.call h.2⟩)
        | (go_simp; go_at_call 89; exact Calls.mono (C2.out wx) fun e w' h => ⟨h.1, hx.call h.2⟩)
  refine wpQuiet_nil ?_
  intro w1 hx
  have r2 := hx.row r1
  have b2 : Below w.heap.size w w1 := b0.trans (Below.mono hx b0.size)
  clear c0 r1 b0 l0 hx
  go_wp2
  obtain ⟨t, ht, _⟩ := r2.heap
  exact res_agg (p := 2) (g := w.heap.size + 1) aggP (av_size F) rfl rfl rfl (setRow_heap _ _ _ _ t (0, 0) ht) ⟨rfl, below_setRow b2 (by omega) _⟩

set_option maxRecDepth 100000 in
set_option maxHeartbeats 1000000 in
theorem sFace_any (f g : Nat → Nat) (m : Nat) (hm : m ≤ 16) (hf : ∀ i, i < m → f i < m) (hg : ∀ i, i < m → g i < m) (w : World) :
    Calls Try.prog 96 #[.agg (dv m f g)] w fun e w' => e = .returned (.agg (av (faceF f g m))) ∧ Below w.heap.size w w' := by
  have C1 := hide fun w => sThen_any f g m hm (fun i hi => by have := hf i hi; omega) w
  have C2 := hide fun w => sBack_any (thenF f g m) m hm (thenF_lt hm hf hg) w
  have hF : faceF f g m = backF (thenF f g m) m := rfl
  rw [hF]
  generalize thenF f g m = T at *
  generalize backF T m = F at *
  clear hf hg hF
  have hn := dv_n m f g
  go_enter Try.func96, Try.ntmps96
  go_wp2
  rw [← av_zero]
  generalize hW : (w.alloc (.cells (dv m f g) 30)).alloc (.cells (av fun _ => 0) 28) = W
  have c0 : cellsOf W w.heap.size = dv m f g := by rw [← hW]; exact cellsOf_heap (heap1 rfl)
  have r1 : rowOk W (w.heap.size + 1) 16 := by rw [← hW]; exact ⟨_, _, heap_at _ _ _ (by simp), av_size _⟩
  have b0 : Below w.heap.size w W := by rw [← hW]; exact below2 _ _ _
  have l0 : w.heap.size < W.heap.size := by rw [← hW]; simp <;> omega
  clear hW
  refine region_tail (Grown W) 10 (by kernel_rfl) (by kernel_rfl) (Grown.drew W) ?_
  simp only [List.take_succ_cons, List.take_zero, List.drop_succ_cons, List.drop_zero]
  iterate 10
    apply q_step
    · go_simp
    · intro wx hx
      have e0 := hx.cells c0 l0
      have n0 : wx.cell? ⟨w.heap.size, 0, none⟩ = some (.int .i64 m) := by rw [cell_of_cells, e0]; exact hn
      first
        | (go_simp; exact rfl)
        | (go_simp; go_at_call 81; exact Calls.mono (C1.out wx) fun e w' h => ⟨h.1, hx.call h.2⟩)
        | (go_simp; go_at_call 82; exact Calls.mono (C2.out wx) fun e w' h => ⟨h.1, hx.call h.2⟩)
  refine wpQuiet_nil ?_
  intro w1 hx
  have r2 := hx.row r1
  have b2 : Below w.heap.size w w1 := b0.trans (Below.mono hx b0.size)
  clear c0 r1 b0 l0 hx
  go_wp2
  obtain ⟨t, ht, _⟩ := r2.heap
  exact res_agg (p := 2) (g := w.heap.size + 1) aggP (av_size F) rfl rfl rfl (setRow_heap _ _ _ _ t (0, 0) ht) ⟨rfl, below_setRow b2 (by omega) _⟩
end Go.Proofs.Ytjhpkibeddnbfaa

namespace Go.Proofs.Ytjhpkibeddnbfaa
open Go.RowKit

theorem backTo_at {p : Nat → Nat} {n : Nat} (h : Bij p n) : ∀ k, k ≤ n → ∀ x, x < k → backTo p k (p x) = x := by
  intro k
  induction k with
  | zero => intro _ x hx; omega
  | succ k ih =>
    intro hk x hx
    show fset (backTo p k) (p k) k (p x) = x
    unfold fset
    by_cases c : p x = p k
    · rw [if_pos c]; exact (h.2 x k (by omega) (by omega) c).symm
    · rw [if_neg c]
      by_cases d : x = k
      · subst d; exact absurd rfl c
      · exact ih (by omega) x (by omega)
theorem backTo_none {p : Nat → Nat} {y : Nat} : ∀ k, (∀ x, x < k → p x ≠ y) → backTo p k y = 0 := by
  intro k
  induction k with
  | zero => intro _; rfl
  | succ k ih =>
    intro h
    show fset (backTo p k) (p k) k y = 0
    unfold fset
    rw [if_neg (fun e => h k (by omega) e.symm)]
    exact ih fun x hx => h x (by omega)
theorem backF_at {p : Nat → Nat} {m : Nat} (h : Bij p m) {x : Nat} (hx : x < m) : backF p m (p x) = x := backTo_at h m (Nat.le_refl m) x hx
theorem Bij.onto {p : Nat → Nat} {m : Nat} (h : Bij p m) {y : Nat} (hy : y < m) : ∃ x, x < m ∧ p x = y := by
  obtain ⟨L, h0, _, e⟩ := h.period hy
  obtain ⟨k, rfl⟩ : ∃ k, L = k + 1 := ⟨L - 1, by omega⟩
  exact ⟨it p k y, h.it_lt k hy, e⟩
theorem backF_perm {p : Nat → Nat} {m : Nat} (h : PermN p m) : PermN (backF p m) m := by
  obtain ⟨h1, h2, h3, _⟩ := h
  refine ⟨h1, h2, ⟨fun y hy => ?_, fun y z hy hz e => ?_⟩, fun y h4 _ => ?_⟩
  · obtain ⟨x, hx, rfl⟩ := h3.onto hy
    rw [backF_at h3 hx]; exact hx
  · obtain ⟨x, hx, rfl⟩ := h3.onto hy
    obtain ⟨x', hx', rfl⟩ := h3.onto hz
    rw [backF_at h3 hx, backF_at h3 hx'] at e
    rw [e]
  · exact backTo_none m fun x hx e => by have := h3.1 x hx; omega
theorem thenF_at {p q : Nat → Nat} {m x : Nat} (hx : x < m) : thenF p q m x = q (p x) := by unfold thenF upto; rw [if_pos hx]
theorem thenF_out {p q : Nat → Nat} {m x : Nat} (hx : m ≤ x) : thenF p q m x = 0 := by unfold thenF upto; rw [if_neg (by omega)]
theorem thenF_perm {p q : Nat → Nat} {m : Nat} (hp : PermN p m) (hq : PermN q m) : PermN (thenF p q m) m := by
  refine ⟨hp.1, hp.2.1, ⟨fun x hx => ?_, fun x y hx hy e => ?_⟩, fun x hx _ => thenF_out hx⟩
  · rw [thenF_at hx]; exact hq.2.2.1.1 _ (hp.2.2.1.1 x hx)
  · rw [thenF_at hx, thenF_at hy] at e
    exact hp.2.2.1.2 x y hx hy (hq.2.2.1.2 _ _ (hp.2.2.1.1 x hx) (hp.2.2.1.1 y hy) e)
theorem faceF_perm {f g : Nat → Nat} {m : Nat} (hf : PermN f m) (hg : PermN g m) : PermN (faceF f g m) m := backF_perm (thenF_perm hf hg)
theorem faceF_at {f g : Nat → Nat} {m x : Nat} (hf : PermN f m) (hg : PermN g m) (hx : x < m) : faceF f g m (g (f x)) = x := by
  have := backF_at (thenF_perm hf hg).2.2.1 hx
  rwa [thenF_at hx] at this
theorem DesN.face {f g : Nat → Nat} {m : Nat} (h : DesN f g m) : PermN (faceF f g m) m := faceF_perm h.black h.white
/-- the numbers of cycles of a dessin -/
theorem DesN.euler {f g : Nat → Nat} {m : Nat} (h : DesN f g m) : ((cycs f m).length + (cycs g m).length + (cycs (faceF f g m) m).length + m) % 2 = 0 ∧ (cycs f m).length + (cycs g m).length + (cycs (faceF f g m) m).length ≤ m + 2 := by
  rw [cycs_length h.bf h.le, cycs_length h.bg h.le, cycs_length h.face.2.2.1 h.le]
  exact euler_dessin h.bf h.bg h.face.2.2.1 h.pos h.conn fun x hx => faceF_at h.black h.white hx
theorem PermN.lt {f : Nat → Nat} {m : Nat} (h : PermN f m) (i : Nat) (hi : i < 16) : f i < 16 := by
  rcases Nat.lt_or_ge i m with c | c
  · have := h.2.2.1.1 i c; have := h.2.1; omega
  · rw [h.2.2.2 i c hi]; omega
end Go.Proofs.Ytjhpkibeddnbfaa

namespace Go.Proofs.Ytjhpkibeddnbfaa
open Go.RowKit

/-- a number put into an ascending list -/
def insU (x : Nat) (l : List Nat) : List Nat := l.takeWhile (fun a => decide (a < x)) ++ x :: l.dropWhile (fun a => decide (a < x))
theorem insU_perm (x : Nat) (l : List Nat) : (insU x l).Perm (l ++ [x]) := by
  have h := List.takeWhile_append_dropWhile (p := fun a => decide (a < x)) (l := l)
  unfold insU
  refine (List.perm_middle).trans ?_
  rw [h]
  exact (List.perm_append_comm (l₁ := [x]) (l₂ := l))
theorem drop_ge {x : Nat} {l : List Nat} (hs : l.Pairwise (· ≤ ·)) : ∀ b ∈ l.dropWhile (fun a => decide (a < x)), x ≤ b := by
  induction l with
  | nil => intro b hb; simp at hb
  | cons a l ih =>
    intro b hb
    rw [List.dropWhile_cons] at hb
    by_cases c : a < x
    · rw [if_pos (by simpa using c)] at hb
      exact ih (List.pairwise_cons.1 hs).2 b hb
    · rw [if_neg (by simpa using c)] at hb
      rcases List.mem_cons.1 hb with rfl | hb
      · omega
      · have := (List.pairwise_cons.1 hs).1 b hb; omega
theorem take_lt {x : Nat} {l : List Nat} : ∀ b ∈ l.takeWhile (fun a => decide (a < x)), b < x := by
  induction l with
  | nil => intro b hb; simp at hb
  | cons a l ih =>
    intro b hb
    rw [List.takeWhile_cons] at hb
    by_cases c : a < x
    · rw [if_pos (by simpa using c)] at hb
      rcases List.mem_cons.1 hb with rfl | hb
      · exact c
      · exact ih b hb
    · rw [if_neg (by simpa using c)] at hb
      cases hb
theorem insU_sorted {x : Nat} {l : List Nat} (hs : l.Pairwise (· ≤ ·)) : (insU x l).Pairwise (· ≤ ·) := by
  unfold insU
  have hd := drop_ge (x := x) hs
  have ht := take_lt (x := x) (l := l)
  refine List.pairwise_append.2 ⟨hs.sublist (List.takeWhile_sublist _), List.pairwise_cons.2 ⟨hd, hs.sublist (List.dropWhile_sublist _)⟩, fun a ha b hb => ?_⟩
  have h1 := ht a ha
  rcases List.mem_cons.1 hb with rfl | hb
  · omega
  · have := hd b hb; omega
theorem sortU_unique {l m : List Nat} (hp : m.Perm l) (hs : m.Pairwise (· ≤ ·)) : m = sortU l := by
  have h2 : (sortU l).Pairwise (· ≤ ·) := by
    have := List.pairwise_mergeSort (le := fun a b : Nat => decide (a ≤ b)) (fun a b c h1 h2 => by simp at *; omega) (fun a b => by simp; omega) l
    exact this.imp fun h => by simpa using h
  exact List.Perm.eq_of_pairwise (le := fun a b => a ≤ b) (fun a b _ _ h1 h2 => by omega) hs h2 (hp.trans (List.mergeSort_perm _ _).symm)
theorem sortU_sorted (l : List Nat) : (sortU l).Pairwise (· ≤ ·) := by
  have := List.pairwise_mergeSort (le := fun a b : Nat => decide (a ≤ b)) (fun a b c h1 h2 => by simp at *; omega) (fun a b => by simp; omega) l
  exact this.imp fun h => by simpa using h
theorem insU_sort (x : Nat) (l : List Nat) : insU x (sortU l) = sortU (l ++ [x]) :=
  sortU_unique ((insU_perm x _).trans ((List.mergeSort_perm _ _).append_right _)) (insU_sorted (sortU_sorted l))

/-- marks for the pairs of a list: of those with first dart 0; of all -/
def markP (l : List Nat) (s : Nat → Bool) : Nat → Nat → Bool
  | 0 => s
  | k + 1 => if l.getD k 0 / 16 = 0 then mset (markP l s k) (l.getD k 0 % 16) else markP l s k
def markM (l : List Nat) (s : Nat → Bool) : Nat → Nat → Bool
  | 0 => s
  | k + 1 => mset (markM l s k) (l.getD k 0)
theorem markM_at (l : List Nat) (s : Nat → Bool) : ∀ k, k ≤ l.length → ∀ z, markM l s k z = true ↔ s z = true ∨ z ∈ l.take k := by
  intro k
  induction k with
  | zero => intro _ z; simp [markM]
  | succ k ih =>
    intro hk z
    have h1 : l.getD k 0 = l[k] := by rw [List.getD_eq_getElem?_getD, List.getElem?_eq_getElem (by omega)]; rfl
    rw [markM, h1, List.take_succ_eq_append_getElem (by omega)]
    unfold mset
    simp only [Bool.or_eq_true, ih (by omega) z, List.mem_append, List.mem_singleton, beq_iff_eq]
    constructor
    · rintro (h | h | h)
      · exact .inr (.inr h)
      · exact .inl h
      · exact .inr (.inl h)
    · rintro (h | h | h)
      · exact .inr (.inl h)
      · exact .inr (.inr h)
      · exact .inl h
theorem markP_at (l : List Nat) (s : Nat → Bool) : ∀ k, k ≤ l.length → ∀ b, b < 16 → (markP l s k b = true ↔ s b = true ∨ b ∈ l.take k) := by
  intro k
  induction k with
  | zero => intro _ z _; simp [markP]
  | succ k ih =>
    intro hk z hz
    have h1 : l.getD k 0 = l[k] := by rw [List.getD_eq_getElem?_getD, List.getElem?_eq_getElem (by omega)]; rfl
    rw [markP, h1, List.take_succ_eq_append_getElem (by omega)]
    by_cases c : l[k] / 16 = 0
    · rw [if_pos c]
      have c2 : l[k] % 16 = l[k] := by omega
      rw [c2]
      unfold mset
      simp only [Bool.or_eq_true, ih (by omega) z hz, List.mem_append, List.mem_singleton, beq_iff_eq]
      constructor
      · rintro (h | h | h)
        · exact .inr (.inr h)
        · exact .inl h
        · exact .inr (.inl h)
      · rintro (h | h | h)
        · exact .inr (.inl h)
        · exact .inr (.inr h)
        · exact .inl h
    · rw [if_neg c, ih (by omega) z hz, List.mem_append, List.mem_singleton]
      constructor
      · rintro (h | h)
        · exact .inl h
        · exact .inr (.inl h)
      · rintro (h | h | h)
        · exact .inl h
        · exact .inr h
        · omega
/-- the program's steps, the model's steps -/
def pSt (R : Nat → List Nat) : Nat → (Nat → Bool) × List Nat
  | 0 => (fun _ => false, [])
  | y + 1 => if (pSt R y).1 y = true then pSt R y else (markP (R y) (pSt R y).1 (R y).length, (pSt R y).2 ++ [(R y).length])
def mRow (R : Nat → List Nat) (x : Nat) (S : (Nat → Bool) × List Nat) : Nat → (Nat → Bool) × List Nat
  | 0 => S
  | y + 1 => if (mRow R x S y).1 (16 * x + y) = true then mRow R x S y else (markM (R (16 * x + y)) (mRow R x S y).1 (R (16 * x + y)).length, insU (R (16 * x + y)).length (mRow R x S y).2)
def mSt (R : Nat → List Nat) (n : Nat) : Nat → (Nat → Bool) × List Nat
  | 0 => (fun _ => false, [])
  | x + 1 => mRow R x (mSt R n x) n
theorem row_same (R : Nat → List Nat) {n : Nat} (hn : n ≤ 16) : ∀ y, y ≤ n → (mRow R 0 (fun _ => false, []) y).2 = sortU (pSt R y).2 ∧ ∀ b, b < 16 → (mRow R 0 (fun _ => false, []) y).1 b = (pSt R y).1 b := by
  intro y
  induction y with
  | zero => intro _; exact ⟨by simp [mRow, pSt, sortU], fun _ _ => rfl⟩
  | succ y ih =>
    intro hy
    obtain ⟨h1, h2⟩ := ih (by omega)
    have h3 := h2 y (by omega)
    rw [mRow, pSt, show 16 * 0 + y = y by omega]
    by_cases c : (pSt R y).1 y = true
    · rw [if_pos c, if_pos (h3.trans c)]
      exact ⟨h1, h2⟩
    · rw [if_neg c, if_neg (by rw [h3]; exact c)]
      refine ⟨?_, fun b hb => ?_⟩
      · show insU _ (mRow R 0 (fun _ => false, []) y).2 = sortU (_ ++ [_])
        rw [h1, insU_sort]
      · show markM (R y) _ _ b = markP (R y) _ _ b
        rw [Bool.eq_iff_iff, markM_at _ _ _ (Nat.le_refl _), markP_at _ _ _ (Nat.le_refl _) b hb, h2 b hb]
theorem row_cover {R : Nat → List Nat} {N n : Nat} (hself : ∀ z, z < N → z ∈ R z) (htr : ∀ u z z', u < N → z ∈ R u → z' ∈ R z → z' ∈ R u) (hn : n ≤ N) : ∀ y, y ≤ n →
    (∀ z, (mRow R 0 (fun _ => false, []) y).1 z = true → ∃ u, u < N ∧ z ∈ R u ∧ ∀ z', z' ∈ R u → (mRow R 0 (fun _ => false, []) y).1 z' = true) ∧
    ∀ k, k < y → ∀ z ∈ R k, (mRow R 0 (fun _ => false, []) y).1 z = true := by
  intro y
  induction y with
  | zero => intro _; exact ⟨fun z h => by simp [mRow] at h, fun k hk => absurd hk (by omega)⟩
  | succ y ih =>
    intro hy
    obtain ⟨h1, h2⟩ := ih (by omega)
    rw [mRow, show 16 * 0 + y = y by omega]
    by_cases c : (mRow R 0 (fun _ => false, []) y).1 y = true
    · rw [if_pos c]
      refine ⟨h1, fun k hk z hz => ?_⟩
      rcases Nat.lt_or_ge k y with d | d
      · exact h2 k d z hz
      · obtain rfl : k = y := by omega
        obtain ⟨u, hu, h3, h4⟩ := h1 k c
        exact h4 z (htr u k z hu h3 hz)
    · rw [if_neg c]
      have hm : ∀ z, markM (R y) (mRow R 0 (fun _ => false, []) y).1 (R y).length z = true ↔ (mRow R 0 (fun _ => false, []) y).1 z = true ∨ z ∈ R y := fun z => by
        rw [markM_at _ _ _ (Nat.le_refl _), List.take_length]
      refine ⟨fun z hz => ?_, fun k hk z hz => (hm z).2 ?_⟩
      · rcases (hm z).1 hz with d | d
        · obtain ⟨u, hu, h3, h4⟩ := h1 z d
          exact ⟨u, hu, h3, fun z' h => (hm z').2 (.inl (h4 z' h))⟩
        · exact ⟨y, by omega, d, fun z' h => (hm z').2 (.inr h)⟩
      · rcases Nat.lt_or_ge k y with d | d
        · exact .inl (h2 k d z hz)
        · obtain rfl : k = y := by omega
          exact .inr hz
theorem row_stay (R : Nat → List Nat) (x : Nat) (S : (Nat → Bool) × List Nat) : ∀ y, (∀ k, k < y → S.1 (16 * x + k) = true) → mRow R x S y = S := by
  intro y
  induction y with
  | zero => intro _; rfl
  | succ y ih =>
    intro h
    rw [mRow, ih fun k hk => h k (by omega), if_pos (h y (by omega))]
theorem mSt_all {R : Nat → List Nat} {n m : Nat} (hn : n ≤ 16) (h0 : 0 < m) (hself : ∀ z, z < 256 → z ∈ R z) (htr : ∀ u z z', u < 256 → z ∈ R u → z' ∈ R z → z' ∈ R u)
    (hc : ∀ x y, x < m → y < n → ∃ k, k < n ∧ 16 * x + y ∈ R k) : (mSt R n m).2 = sortU (pSt R n).2 := by
  have h1 := (row_cover hself htr (show n ≤ 256 by omega) n (Nat.le_refl _)).2
  have e : ∀ x, x < m → mSt R n (x + 1) = mRow R 0 (fun _ => false, []) n := by
    intro x
    induction x with
    | zero => intro _; rfl
    | succ x ih =>
      intro hx
      rw [mSt, ih (by omega)]
      refine row_stay _ _ _ _ fun k hk => ?_
      obtain ⟨j, hj, hz⟩ := hc (x + 1) k hx hk
      exact h1 j hj _ hz
  obtain ⟨x, rfl⟩ : ∃ x, m = x + 1 := ⟨m - 1, by omega⟩
  rw [e x (by omega)]
  exact (row_same R hn n (Nat.le_refl _)).1
/-- the pairs that are reached from one -/
def prR (f g f' g' : Nat → Nat) (z : Nat) : List Nat := (bfs (bF f f') (bF g g') z 256).1
section
variable {f g f' g' : Nat → Nat} {m n : Nat}
theorem prR_self (z : Nat) : z ∈ prR f g f' g' z := by
  have := bfs_pre' (bF f f') (bF g g') z (Nat.zero_le 256)
  exact this.subset (by rw [bfs_start]; simp)
theorem prR_lt (hd : DesN f g m) (he : DesN f' g' n) {z : Nat} (hz : z < 256) : (∀ y ∈ prR f g f' g' z, y < 256) ∧ (prR f g f' g' z).length ≤ 256 := by
  have h := bfs_inv (fun z hz => bF_lt hd.black he.black z hz) (fun z hz => bF_lt hd.white he.white z hz) hz 256
  exact ⟨h.lt, h.length_le⟩
theorem prR_clos (hd : DesN f g m) (he : DesN f' g' n) {z y : Nat} (hz : z < 256) (hy : y ∈ prR f g f' g' z) : bF f f' y ∈ prR f g f' g' z ∧ bF g g' y ∈ prR f g f' g' z :=
  bfs_clos (fun z hz => bF_lt hd.black he.black z hz) (fun z hz => bF_lt hd.white he.white z hz) hz (Nat.le_refl _) hy
theorem prR_trans (hd : DesN f g m) (he : DesN f' g' n) {u z y : Nat} (hu : u < 256) (hz : z ∈ prR f g f' g' u) (hy : y ∈ prR f g f' g' z) : y ∈ prR f g f' g' u :=
  bfs_all (P := fun y => y ∈ prR f g f' g' u) hz (fun x h => (prR_clos hd he hu h).1) (fun x h => (prR_clos hd he hu h).2) 256 y hy
theorem prR_from0 (hd : DesN f g m) (he : DesN f' g' n) : ∀ x, x < m → ∀ y, y < n → ∃ k, k < n ∧ 16 * x + y ∈ prR f g f' g' k := by
  have hm := hd.le
  have hn := he.le
  refine hd.all (C := fun x => ∀ y, y < n → ∃ k, k < n ∧ 16 * x + y ∈ prR f g f' g' k) (fun y hy => ⟨y, hy, by rw [show 16 * 0 + y = y by omega]; exact prR_self y⟩) ?_ ?_
  · intro x hx ih y hy
    obtain ⟨y0, h0, rfl⟩ := Bij.onto he.bf hy
    obtain ⟨k, hk, h⟩ := ih y0 h0
    refine ⟨k, hk, ?_⟩
    have := (prR_clos hd he (by omega) h).1
    unfold bF at this
    rwa [show (16 * x + y0) / 16 = x by omega, show (16 * x + y0) % 16 = y0 by omega] at this
  · intro x hx ih y hy
    obtain ⟨y0, h0, rfl⟩ := Bij.onto he.bg hy
    obtain ⟨k, hk, h⟩ := ih y0 h0
    refine ⟨k, hk, ?_⟩
    have := (prR_clos hd he (by omega) h).2
    unfold bF at this
    rwa [show (16 * x + y0) / 16 = x by omega, show (16 * x + y0) % 16 = y0 by omega] at this
theorem sizes_same (hd : DesN f g m) (he : DesN f' g' n) : (mSt (prR f g f' g') n m).2 = sortU (pSt (prR f g f' g') n).2 :=
  mSt_all he.le hd.pos (fun z _ => prR_self z) (fun u z z' hu h h' => prR_trans hd he hu h h') (fun x y hx hy => prR_from0 hd he x hx y hy)
theorem pSt_len (R : Nat → List Nat) : ∀ y, (pSt R y).2.length ≤ y := by
  intro y
  induction y with
  | zero => simp [pSt]
  | succ y ih =>
    rw [pSt]
    split
    · omega
    · simp only [List.length_append, List.length_cons, List.length_nil]; omega
theorem insU_len (x : Nat) (l : List Nat) : (insU x l).length = l.length + 1 := by
  have := (insU_perm x l).length_eq
  simpa using this
theorem mRow_len (R : Nat → List Nat) (x : Nat) (S : (Nat → Bool) × List Nat) : ∀ y, (mRow R x S y).2.length ≤ S.2.length + y := by
  intro y
  induction y with
  | zero => exact Nat.le_refl _
  | succ y ih =>
    rw [mRow]
    split
    · omega
    · show (insU _ _).length ≤ _
      rw [insU_len]; omega
theorem mSt_len (R : Nat → List Nat) (n : Nat) : ∀ x, (mSt R n x).2.length ≤ n * x := by
  intro x
  induction x with
  | zero => simp [mSt]
  | succ x ih =>
    have := mRow_len R x (mSt R n x) n
    rw [mSt, Nat.mul_succ]; omega
theorem pSt_pos (R : Nat → List Nat) {y : Nat} (hy : 0 < y) : 0 < (pSt R y).2.length := by
  induction y with
  | zero => omega
  | succ y ih =>
    rw [pSt]
    split
    · rename_i h
      refine ih ?_
      rcases Nat.eq_zero_or_pos y with rfl | c
      · simp [pSt] at h
      · exact c
    · simp
end
end Go.Proofs.Ytjhpkibeddnbfaa

namespace Go.Proofs.Ytjhpkibeddnbfaa
open Go.RowKit

def pInts (v : Value) (l : List Nat) : Part := pRow v 2 1 l.length (nums l)
theorem nums_length (l : List Nat) : (nums l).length = l.length := by unfold nums; simp
theorem nums_at {l : List Nat} {k : Nat} (hk : k < l.length) : (nums l)[k]? = some (.int .i64 (l[k] : Nat)) := by unfold nums; simp [hk]
theorem Holds.ints {w0 w : World} {L : List Part} (h : Holds w0 w L) (i : Nat) {v : Value} {l : List Nat} (hi : L[i]? = some (pInts v l)) {k : Nat} (hk : k < l.length) :
    ∃ g c, v = .slice (some ⟨g, 0, none⟩) l.length c ∧ g < w.heap.size ∧ w.cell? ⟨g, k, none⟩ = some (.int .i64 (l[k] : Nat)) ∧ w.frozen? ⟨g, k, none⟩ = false := by
  obtain ⟨g, c, h1, h2, h3, h4, h5, h6, h7⟩ := row_at (h.row i hi) (by omega : 0 < l.length)
  exact ⟨g, c, h1, h3, h6 _ _ (nums_at hk), h7 k⟩
theorem Holds.intsForm {w0 w : World} {L : List Part} (h : Holds w0 w L) (i : Nat) {v : Value} {l : List Nat} (hi : L[i]? = some (pInts v l)) : ∃ A c, v = .slice A l.length c := own_slice (h.row i hi)
theorem Holds.own1 {w0 w : World} {L : List Part} (h : Holds w0 w L) (i : Nat) {v : Value} {l : List Nat} (hi : L[i]? = some (pInts v l)) : Own1 w0.heap.size w v l := h.row i hi
theorem nums_one {l : List Nat} : ∀ u ∈ nums l, u.oneCell' = true := by
  intro u hu
  obtain ⟨x, _, rfl⟩ := List.mem_map.1 hu
  rfl
/-- one number more -/
theorem appI {ops : Array Oper} {rest : List Oper} {o : Oper} {a : Act} {Q : Exit → Act → World → Prop} {w0 w : World} {L : List Part} (H : Holds w0 w L) (k : Nat) {v : Value} {l : List Nat} (hk : L[k]? = some (pInts v l))
    (g : Nat) (news : List Nat) (t : TypeId) (hc : w.heap[g]? = some (.cells (nums news).toArray t (0, 0))) (hb : l.length + news.length ≤ 1000000)
    (hgd : o.guard = none) (s x : Operand)
    (ho : o.op = .call { callee := .builtin .append, args := #[s, x], argTypes := #[48, 48] })
    (hs : a.eval s = v) (hx : a.eval x = .slice (some ⟨g, 0, none⟩) news.length news.length)
    (h : ∀ v' w', Holds w0 w' (L.set k (pInts v' (l ++ news))) → wpList Try.prog ops Q rest (a.put o.dst v') w') : wpList Try.prog ops Q (o :: rest) a w := by
  obtain ⟨i0, hi, hz0, hz1, hz2⟩ := info_parts info64
  refine appH (P := Try.prog) hgd s x 48 ho 2 i0 (.int .i64 0) 1 8 Try.underlying48 hi hz0 hz1 hz2 rfl (by decide) v l.length (nums l) hs H k hk ⟨g, 0, none⟩ news.length news.length (nums news) hx
    (by rw [nums_length]; omega) (fun j u hu => ?_) nums_one (by unfold maxLen; omega) (by omega) fun v' w' h1 => h v' w' ?_
  · have : ((⟨g, 0, none⟩ : Addr).add j) = ⟨g, j, none⟩ := by simp [Addr.add]; exact Eq.symm
    rw [this, cell_of_cells, cellsOf_heap hc]
    simpa using hu
  · unfold pInts at *
    have e : nums (l ++ news) = nums l ++ nums news := by unfold nums; simp
    rw [List.length_append, e]
    exact h1
end Go.Proofs.Ytjhpkibeddnbfaa

namespace Go.Proofs.Ytjhpkibeddnbfaa
open Go.RowKit

theorem Holds.perm {w0 w : World} {L L' : List Part} (h : Holds w0 w L) (hp : L.Perm L') : Holds w0 w L' :=
  ⟨h.1, fun a ha => h.2.1 a (hp.mem_iff.2 ha), (hp.pairwise_iff (R := fun a b : Part => ∀ g, a.own g → b.own g → False) (fun {a b} hab g hb ha => hab g ha hb)).1 h.2.2⟩
theorem Holds.third {w0 w : World} {a b c : Part} {L : List Part} (h : Holds w0 w (a :: b :: c :: L)) : Holds w0 w (b :: c :: a :: L) :=
  h.perm ((List.Perm.swap b a (c :: L)).trans ((List.Perm.swap c a L).cons b))
/-- a store into a cell of a row -/
theorem Holds.put {w0 w : World} {L : List Part} (h : Holds w0 w L) (i : Nat) {g n c : Nat} {e : TypeId} {s : Nat} {xs : List Value} (hi : L[i]? = some (pRow (.slice (some ⟨g, 0, none⟩) n c) e s n xs)) (j : Nat) (u : Value) :
    Holds w0 (w.setCell ⟨g, j, none⟩ u) (L.set i (pRow (.slice (some ⟨g, 0, none⟩) n c) e s n (xs.set j u))) := by
  have h1 : w.ownsRow 0 e s (.slice (some ⟨g, 0, none⟩) n c) n xs := h.at i hi
  have h2 := World.ownsRow.stored h1 j u
  exact h.grow i hi _ h2.1 h2.2 (fun k hk => by cases hk; rfl) fun k hk => .inl hk
section
variable {P : Program} {ops : Array Oper} {rest : List Oper} {o : Oper} {a : Act} {Q : Exit → Act → World → Prop} {w : World}
/-- make([]T, n) -/
theorem makeH (hgd : o.guard = none) (t : TypeId) (x y : Operand) (ho : o.op = .makeSlice t x y) (e : TypeId) (i : TypeInfo) (z : Value) (bytes : Nat) (ht : P.underlying t = some (.slice e)) (hi : P.info? e = some i) (hz : i.zero = some z)
    (hsize : i.size = 1) (hby : i.bytes = bytes) (hzs : z.cells = #[z]) (n : Nat) (kx ky : IntKind) (hx : a.eval x = .int kx (n : Int)) (hy : a.eval y = .int ky (n : Int)) (hn : n ≤ 1000000) (hb : bytes ≤ 64)
    {w0 : World} {L : List Part} (H : Holds w0 w L)
    (h : ∀ w', Holds w0 w' (pRow (.slice (some ⟨w.heap.size, 0, none⟩) n n) e 1 n (List.replicate n z) :: L) → wpList P ops Q rest (a.put o.dst (.slice (some ⟨w.heap.size, 0, none⟩) n n)) w') : wpList P ops Q (o :: rest) a w := by
  refine wpList_plain hgd fun _ hK => ?_
  have h1 : bytes * n ≤ 64 * 1000000 := Nat.mul_le_mul hb hn
  obtain ⟨w', hr, ho', hg⟩ := run_makeSlice_full (P := P) w w.heap.size t e i z 1 ht hi hz hsize kx ky n (by omega) (by rw [hby]; omega) (by unfold maxLen; omega) (Nat.le_refl _)
  rw [hzs, Nat.mul_one, toList_madeCells_one] at ho'
  unfold Oper.wp execOp
  simp only [ho, hx, hy, Sem.run_bind, Sem.run_pure, Result.andThen_ok, hr]
  refine hK _ _ (h w' (H.newRow ⟨hg.os, hg.tape, hg.output, hg.size, fun g hl => hg.block g hl (by simp)⟩ ho'))
end
/-- the rows of a list of lists, a part each -/
def rowsP : List Value → List (List Nat) → List Part
  | v :: vs, l :: ls => pInts v l :: rowsP vs ls
  | _, _ => []
theorem rowsP_snoc {vs : List Value} {ls : List (List Nat)} (hl : vs.length = ls.length) (u : Value) (l : List Nat) : rowsP (vs ++ [u]) (ls ++ [l]) = rowsP vs ls ++ [pInts u l] := by
  induction vs generalizing ls with
  | nil => cases ls with
    | nil => rfl
    | cons => simp at hl
  | cons v vs ih => cases ls with
    | nil => simp at hl
    | cons m ls => simp only [List.cons_append, rowsP]; rw [ih (by simpa using hl)]
theorem rowsP_at {vs : List Value} {ls : List (List Nat)} {i : Nat} {u : Value} {l : List Nat} (h1 : vs[i]? = some u) (h2 : ls[i]? = some l) : (rowsP vs ls)[i]? = some (pInts u l) := by
  induction vs generalizing ls i with
  | nil => simp at h1
  | cons v vs ih => cases ls with
    | nil => simp at h2
    | cons m ls =>
      cases i with
      | zero => simp at h1 h2; subst h1 h2; rfl
      | succ i => simp at h1 h2; simp only [rowsP, List.getElem?_cons_succ]; exact ih h1 h2
theorem Holds.rowEnd {w0 w : World} {u : Value} {l : List Nat} {A : List Part} {vs : List Value} {ls : List (List Nat)} (hl : vs.length = ls.length) (h : Holds w0 w (pInts u l :: (A ++ rowsP vs ls))) : Holds w0 w (A ++ rowsP (vs ++ [u]) (ls ++ [l])) := by
  refine h.perm ?_
  rw [rowsP_snoc hl, ← List.append_assoc]
  exact (List.perm_append_comm (l₁ := [pInts u l]) (l₂ := A ++ rowsP vs ls))
/-- a row of slices, its part -/
def pVals (v : Value) (vs : List Value) : Part := pRow v 48 1 vs.length vs
theorem Holds.own2 {w0 w : World} {v : Value} {A : List Part} {vs : List Value} {ls : List (List Nat)} (hl : vs.length = ls.length) (h : Holds w0 w (A ++ pVals v vs :: rowsP vs ls)) : Own2 w0.heap.size w v ls := by
  have h' : Holds w0 w (pVals v vs :: rowsP vs ls) := h.sub (List.sublist_append_right _ _)
  have at_ : ∀ (i : Nat) (u : Value) (l : List Nat), vs[i]? = some u → ls[i]? = some l → (pVals v vs :: rowsP vs ls)[i + 1]? = some (pInts u l) := fun i u l h1 h2 => by rw [List.getElem?_cons_succ]; exact rowsP_at h1 h2
  refine ⟨vs, hl, h'.row 0 rfl, fun i u l h1 h2 => h'.own1 (i + 1) (at_ i u l h1 h2), fun i j u u' hij h1 h2 => ?_⟩
  rcases hb : u.ownBlock with _ | g
  · exact .inl rfl
  · refine .inr fun e => ?_
    have li : i < ls.length := by rw [← hl]; exact (List.getElem?_eq_some_iff.1 h1).1
    have lj : j < ls.length := by rw [← hl]; exact (List.getElem?_eq_some_iff.1 h2).1
    exact h'.apart (i := i + 1) (j := j + 1) (by omega) (at_ i u _ h1 (List.getElem?_eq_getElem li)) (at_ j u' _ h2 (List.getElem?_eq_getElem lj)) (g := g) hb e.symm
theorem Holds.valsForm {w0 w : World} {L : List Part} (h : Holds w0 w L) (i : Nat) {v : Value} {vs : List Value} (hi : L[i]? = some (pVals v vs)) : ∃ A c, v = .slice A vs.length c := own_slice (h.row i hi)
/-- one list more -/
theorem appRow {ops : Array Oper} {rest : List Oper} {o : Oper} {a : Act} {Q : Exit → Act → World → Prop} {w0 w : World} {L : List Part} (H : Holds w0 w L) (k : Nat) {v : Value} {vs : List Value} (hk : L[k]? = some (pVals v vs))
    (g : Nat) (u : Value) (hu : u.oneCell' = true) (t : TypeId) (hc : w.heap[g]? = some (.cells #[u] t (0, 0))) (hb : vs.length ≤ 1000000)
    (hgd : o.guard = none) (s x : Operand)
    (ho : o.op = .call { callee := .builtin .append, args := #[s, x], argTypes := #[39, 39] })
    (hs : a.eval s = v) (hx : a.eval x = .slice (some ⟨g, 0, none⟩) 1 1)
    (h : ∀ v' w', Holds w0 w' (L.set k (pVals v' (vs ++ [u]))) → wpList Try.prog ops Q rest (a.put o.dst v') w') : wpList Try.prog ops Q (o :: rest) a w := by
  obtain ⟨i0, hi, hz0, hz1, hz2⟩ := info_parts infoSl
  refine appH (P := Try.prog) hgd s x 39 ho 48 i0 (.slice none 0 0) 1 24 Try.underlying39 hi hz0 hz1 hz2 rfl (by decide) v vs.length vs hs H k hk ⟨g, 0, none⟩ 1 1 [u] hx
    rfl (fun j x hj => ?_) (fun x hx => by simp at hx; subst hx; exact hu) (by unfold maxLen; omega) (by omega) fun v' w' h1 => h v' w' ?_
  · have : ((⟨g, 0, none⟩ : Addr).add j) = ⟨g, j, none⟩ := by simp [Addr.add]; exact Eq.symm
    rw [this, cell_of_cells, cellsOf_heap hc]
    simpa using hj
  · unfold pVals
    rw [List.length_append]
    exact h1
end Go.Proofs.Ytjhpkibeddnbfaa

namespace Go.Proofs.Ytjhpkibeddnbfaa
open Go.RowKit

theorem Holds.cellR {w0 w : World} {L : List Part} (h : Holds w0 w L) (i : Nat) {g n c : Nat} {e : TypeId} {s : Nat} {xs : List Value} (hi : L[i]? = some (pRow (.slice (some ⟨g, 0, none⟩) n c) e s n xs)) {j : Nat} {u : Value} (hj : xs[j]? = some u) : w.cell? ⟨g, j, none⟩ = some u := by
  have hn : 0 < n := by
    have h1 := (h.row i hi).1
    have h2 := (List.getElem?_eq_some_iff.1 hj).1
    rcases Nat.eq_zero_or_pos n with rfl | c
    · simp at h1; subst h1; simp at h2
    · exact c
  obtain ⟨g', c', e1, _, _, _, _, h6, _⟩ := row_at (h.row i hi) hn
  injection e1 with e1
  injection e1 with e1
  injection e1 with e1
  subst e1
  exact h6 j u hj
theorem Holds.frozenR {w0 w : World} {L : List Part} (h : Holds w0 w L) (i : Nat) {g n c : Nat} {e : TypeId} {s : Nat} {xs : List Value} (hi : L[i]? = some (pRow (.slice (some ⟨g, 0, none⟩) n c) e s n xs)) (hn : 0 < n) (j : Nat) : w.frozen? ⟨g, j, none⟩ = false := by
  obtain ⟨g', c', e1, _, _, _, _, _, h7⟩ := row_at (h.row i hi) hn
  injection e1 with e1
  injection e1 with e1
  injection e1 with e1
  subst e1
  exact h7 j
theorem Holds.cellV {w0 w : World} {L : List Part} (h : Holds w0 w L) (i : Nat) {g n c : Nat} {vs : List Value} (hi : L[i]? = some (pVals (.slice (some ⟨g, 0, none⟩) n c) vs)) (hl : vs.length = n) {j : Nat} {u : Value} (hj : vs[j]? = some u) : w.cell? ⟨g, j, none⟩ = some u := by
  subst hl
  exact h.cellR i hi hj
end Go.Proofs.Ytjhpkibeddnbfaa

namespace Go.Proofs.Ytjhpkibeddnbfaa
open Go.RowKit

theorem below_setCell {B g : Nat} {w0 w : World} (h : Below B w0 w) (hg : B ≤ g) (i : Nat) (v : Value) : Below B w0 (w.setCell ⟨g, i, none⟩ v) :=
  ⟨h.os, h.tape, h.output, by have := h.size; simpa using this, fun k hk => (Below.heap_setCell w ⟨g, i, none⟩ v k (fun e => by have : k = g := e; omega)).trans (h.block k hk)⟩
theorem dv_setb (n : Int) (f g : Nat → Nat) {i : Nat} (v : Nat) (h : i < 16) : (dv n f g).setIfInBounds (1 + i) (.int .u8 v) = dv n (fset f i v) g := by
  unfold dv
  rw [row_set]
  apply row_congr
  intro j _
  unfold fset
  by_cases c : j = 1 + i
  · rw [if_pos c, if_neg (by omega), if_pos (by omega), if_pos (by omega)]
  · rw [if_neg c]
    by_cases d : j = 0
    · rw [if_pos d, if_pos d]
    · rw [if_neg d, if_neg d]
      by_cases e : j < 17
      · rw [if_pos e, if_pos e, if_neg (by omega)]
      · rw [if_neg e, if_neg e]
theorem dv_setw (n : Int) (f g : Nat → Nat) {i : Nat} (v : Nat) (h : i < 16) : (dv n f g).setIfInBounds (17 + i) (.int .u8 v) = dv n f (fset g i v) := by
  unfold dv
  rw [row_set]
  apply row_congr
  intro j _
  unfold fset
  by_cases c : j = 17 + i
  · rw [if_pos c, if_neg (by omega), if_neg (by omega), if_pos (by omega)]
  · rw [if_neg c]
    by_cases d : j = 0
    · rw [if_pos d, if_pos d]
    · rw [if_neg d, if_neg d]
      by_cases e : j < 17
      · rw [if_pos e, if_pos e]
      · rw [if_neg e, if_neg e, if_neg (by omega)]

end Go.Proofs.Ytjhpkibeddnbfaa

namespace Go.Proofs.Ytjhpkibeddnbfaa
open Go.RowKit

/-- names by a map, so many laid -/
noncomputable def Mn (l : List Nat) : Nat → Value → Option Value
  | 0 => fun _ => none
  | k + 1 => mput (Mn l k) (encP (l.getD k 0)) (.int .u8 (k : Nat))
theorem Mn_at {l : List Nat} (hn : l.Nodup) {k i : Nat} (hk : k ≤ l.length) (hi : i < k) : Mn l k (encP (l.getD i 0)) = some (.int .u8 (i : Nat)) := by
  induction k with
  | zero => omega
  | succ k ih =>
    show mput (Mn l k) (encP (l.getD k 0)) (.int .u8 (k : Nat)) (encP (l.getD i 0)) = _
    by_cases e : i = k
    · subst e; exact mput_same _ _ _
    · rw [mput_ne]
      · exact ih (by omega) (by omega)
      · intro h
        have := encP_inj h
        have h1 : l.getD i 0 = l[i]'(by omega) := by rw [List.getD_eq_getElem?_getD, List.getElem?_eq_getElem (by omega)]; rfl
        have h2 : l.getD k 0 = l[k]'(by omega) := by rw [List.getD_eq_getElem?_getD, List.getElem?_eq_getElem (by omega)]; rfl
        rw [h1, h2] at this
        rcases Nat.lt_or_gt_of_ne e with c | c
        · exact List.pairwise_iff_getElem.1 hn i k (by omega) (by omega) c this
        · exact List.pairwise_iff_getElem.1 hn k i (by omega) (by omega) c this.symm
theorem Mn_mem {l : List Nat} (hn : l.Nodup) {z : Nat} (hz : z ∈ l) : Mn l l.length (encP z) = some (.int .u8 (l.idxOf z : Nat)) := by
  have hl := List.idxOf_lt_length_of_mem hz
  have h1 : l.getD (l.idxOf z) 0 = z := by rw [List.getD_eq_getElem?_getD, List.getElem?_eq_getElem hl, List.getElem_idxOf hl]; rfl
  have := Mn_at hn (Nat.le_refl _) hl
  rw [h1] at this
  exact this
def idxF (l : List Nat) (p : Nat → Nat) : Nat → Nat := fun i => l.idxOf (p (l.getD i 0))
theorem zeroU8 (w : World) : (zeroValue 5).run Try.prog w = .ok (.int .u8 0) w := by
  have h : (Try.prog.info? 5).map (·.zero) = some (some (.int .u8 0)) := by kernel_rfl
  rcases hi : Try.prog.info? 5 with _ | i
  · rw [hi] at h; cases h
  · rw [hi] at h
    have hz : i.zero = some (.int .u8 0) := by simpa using h
    simp [zeroValue, typeInfo, hi, hz]
theorem look_name {w0 w : World} {L : List Part} (H : Holds w0 w L) (i : Nat) {G : Nat} {l : List Nat} (hi : L[i]? = some (pMap Try.prog 68 G (Mn l l.length))) (hn : l.Nodup) {z : Nat} (hz : z < 256) (hm : z ∈ l) :
    (Instr.lookup 117 (.map (some G)) (encP z) false).run Try.prog w = .ok (.int .u8 (l.idxOf z : Nat)) w := by
  rw [run_mlook keyedPr Try.underlying117 zeroU8 (H.at i hi) (isK_code hz) false, Mn_mem hn hm]
  rfl
/-- a row of pairs wherever it lies -/
def RdP (w : World) (v : Value) (l : List (Nat × Nat)) : Prop := w.ownsRow 0 68 2 v l.length (pairB l)
theorem RdP.below {C : Nat} {w w' : World} {v : Value} {l : List (Nat × Nat)} (h : RdP w v l) (hb : Below C w w') (hC : w.heap.size ≤ C) : RdP w' v l := World.ownsRow.kept h (grown_of_below (hb.mono hC) none) (Classical.em _)
theorem RdP.form {w : World} {v : Value} {l : List (Nat × Nat)} (h : RdP w v l) : ∃ A c, v = .slice A l.length c := own_slice h
theorem RdP.at {w : World} {A : Option Addr} {n c k : Nat} {l : List Nat} (h : RdP w (.slice A n c) (dec l)) (hk : k < l.length) :
    ∃ g, A = some ⟨g, 0, none⟩ ∧ g < w.heap.size ∧ w.cell? ⟨g, k * 2, none⟩ = some (.int .u8 ((l.getD k 0 / 16 : Nat) : Int)) ∧ w.cell? ⟨g, k * 2 + 1, none⟩ = some (.int .u8 ((l.getD k 0 % 16 : Nat) : Int)) := by
  have hk' : k < (dec l).length := by rw [dec_length]; exact hk
  obtain ⟨g, c, h1, h2, h3, h4, h5, h6, h7⟩ := row_at h (by omega : 0 < (dec l).length)
  injection h1 with e1 e2 e3
  have a1 := h6 _ _ (pairB_at hk').1
  have a2 := h6 _ _ (pairB_at hk').2
  rw [dec_at hk] at a1 a2
  have hg : l.getD k 0 = l[k] := by rw [List.getD_eq_getElem?_getD, List.getElem?_eq_getElem hk]; rfl
  rw [hg]
  exact ⟨g, e1, h3, a1, a2⟩

set_option maxRecDepth 100000 in
set_option maxHeartbeats 2000000 in
theorem product_any (f g f' g' : Nat → Nat) (m n : Nat) (hd : DesN f g m) (he : DesN f' g' n) (l : List Nat) (hl : l.length ≤ 16) (hn : l.Nodup) (hlt : ∀ z ∈ l, z < 256) (hcl : ∀ z ∈ l, bF f f' z ∈ l ∧ bF g g' z ∈ l) (v : Value) (w : World) (hv : RdP w v (dec l)) :
    Calls Try.prog 57 #[.agg (dv m f g), .agg (dv n f' g'), v] w fun e w' => e = .returned (.agg (dv l.length (upto (idxF l (bF f f')) l.length) (upto (idxF l (bF g g')) l.length))) ∧ Below w.heap.size w w' := by
  have C2 := hide fun (p q : Nat → Nat) (a b : Nat) (ha : a < 16) (hb : b < 16) w => pairAfter_any p q a b ha hb w
  obtain ⟨A, c, rfl⟩ := hv.form
  rw [dec_length] at hv ⊢
  have HV := hide hv; clear hv
  have HL := hide (And.intro hn (And.intro hlt hcl)); clear hn hlt hcl
  have HP := hide (And.intro (And.intro hd.black hd.white) (And.intro he.black he.white)); clear hd he
  have mk := fun w => run_mk (P := Try.prog) 117 w
  have HH := ((((Holds.start w).blk (dv m f g) 30 w.heap.size rfl).blk (dv n f' g') 30 (w.heap.size + 1) (by simp)).blk (dv 0 (fun _ => 0) (fun _ => 0)) 30 (w.heap.size + 1 + 1) (by simp)).newMap Try.prog 68 (w.heap.size + 1 + 1 + 1) (by simp)
  go_enter Try.func57, Try.ntmps57
  go_wp2
  rw [← dv_zero]
  clear mk
  go_loopw [16] (fun t wr => ∃ k : Nat, k ≤ l.length ∧ t = .int .i64 k ∧ Holds w wr [pMap Try.prog 68 (w.heap.size + 1 + 1 + 1) (Mn l k), pBlk (w.heap.size + 1 + 1) (dv 0 (fun _ => 0) (fun _ => 0)) 30, pBlk (w.heap.size + 1) (dv n f' g') 30, pBlk w.heap.size (dv m f g) 30])
    (fun t _ => l.length - (intOf t).toNat)
  case atStart => exact ⟨0, by omega, rfl, HH⟩
  case round =>
    clear HH
    obtain ⟨k, hk, rfl, hH⟩ := hrel
    by_cases hkl : k < l.length
    · obtain ⟨q, rfl, hq, x1, x2⟩ := (HV.out.below hH.low (Nat.le_refl _)).at hkl
      obtain ⟨a, ha⟩ : ∃ a, a = l.getD k 0 / 16 := ⟨_, rfl⟩
      obtain ⟨b, hb⟩ : ∃ b, b = l.getD k 0 % 16 := ⟨_, rfl⟩
      rw [← ha] at x1
      rw [← hb] at x2
      have hz : l.getD k 0 < 256 := HL.out.2.1 _ (by rw [List.getD_eq_getElem?_getD, List.getElem?_eq_getElem hkl]; exact List.getElem_mem hkl)
      have eK : encP (l.getD k 0) = .agg #[.int .u8 (a : Nat), .int .u8 (b : Nat)] := by unfold encP; rw [← ha, ← hb]
      have hK := isK_code hz
      rw [eK] at hK
      have hM : Mn l (k + 1) = mput (Mn l k) (.agg #[.int .u8 (a : Nat), .int .u8 (b : Nat)]) (.int .u8 (k : Nat)) := by rw [← eK]; rfl
      have HM := hide hM; clear hM
      have HK := hide hK; clear hK
      clear ha hb hz eK
      have hHb := hH.blk #[.int .u8 (a : Nat), .int .u8 (b : Nat)] 68 wr.heap.size rfl
      have hk256 : (k : Int) < 256 := by omega
      go_wp2_with (refine mputH (k := .agg #[.int .u8 (a : Nat), .int .u8 (b : Nat)]) (v := .int .u8 (k : Nat)) keyedPr rfl _ _ _ rfl Try.underlying117 hHb 1 rfl rfl rfl rfl HK.out ?_)
      intro w4 hH4 hs4
      clear hs4 hHb x1 x2
      rw [← HM.out] at hH4
      go_wp2
      go_roundw
      case rel => exact ⟨k + 1, by omega, by go_num, hH4.tail⟩
      case measure => simp [intOf]; omega
    · obtain ⟨K, hK⟩ : ∃ K, K = l.length := ⟨_, rfl⟩
      obtain rfl : K = k := by omega
      rw [hK] at hH
      have HK := hide hK
      rw [← HK.out]
      clear hK hk hkl
      have hHd := hH.blk (dv K (fun _ => 0) (fun _ => 0)) 30 wr.heap.size rfl
      have hz := dv_lit (K : Int)
      have HZ := hide hz; clear hz
      have ho := (ones_dv (K : Int) (fun _ => 0) (fun _ => 0)).2 trivial
      rw [HZ.out] at ho
      have hK16 : K ≤ 16 := by rw [HK.out]; exact hl
      go_wp2
      try rw [← HZ.out]
      clear hH ho
      generalize wr.alloc (.cells (dv K (fun _ => 0) (fun _ => 0)) 30) = wd at *
      generalize wr.heap.size = G at *
      go_loopw [31] (fun t wr => ∃ k : Nat, k ≤ K ∧ t = .int .i64 k ∧ Holds w wr [pBlk G (dv K (upto (idxF l (bF f f')) k) (upto (idxF l (bF g g')) k)) 30, pMap Try.prog 68 (w.heap.size + 1 + 1 + 1) (Mn l l.length), pBlk (w.heap.size + 1 + 1) (dv 0 (fun _ => 0) (fun _ => 0)) 30, pBlk (w.heap.size + 1) (dv n f' g') 30, pBlk w.heap.size (dv m f g) 30]) (fun t _ => K - (intOf t).toNat)
      case atStart => exact ⟨0, by omega, rfl, by rw [upto_zero, upto_zero]; exact hHd⟩
      case round =>
        clear hHd
        obtain ⟨k, hk, rfl, hH⟩ := hrel
        by_cases hkl : k < K
        · have hkl' : k < l.length := by rw [← HK.out]; exact hkl
          obtain ⟨q, rfl, hq, x1, x2⟩ := (HV.out.below hH.low (Nat.le_refl _)).at hkl'
          obtain ⟨a, ha⟩ : ∃ a, a = l.getD k 0 / 16 := ⟨_, rfl⟩
          obtain ⟨b, hb⟩ : ∃ b, b = l.getD k 0 % 16 := ⟨_, rfl⟩
          rw [← ha] at x1
          rw [← hb] at x2
          have hm : l.getD k 0 ∈ l := by rw [List.getD_eq_getElem?_getD, List.getElem?_eq_getElem hkl']; exact List.getElem_mem hkl'
          have hz : l.getD k 0 < 256 := HL.out.2.1 _ hm
          have hc := HL.out.2.2 _ hm
          have ha16 : a < 16 := by omega
          have hb16 : b < 16 := by omega
          have hfa := HP.out.1.1.lt16 ha16
          have hga := HP.out.1.2.lt16 ha16
          have hfb := HP.out.2.1.lt16 hb16
          have hgb := HP.out.2.2.lt16 hb16
          have eB : encP (bF f f' (l.getD k 0)) = .agg #[.int .u8 (f a : Nat), .int .u8 (f' b : Nat)] := by
            unfold encP; rw [bF_1 (by rw [← hb]; exact hfb), bF_2 (by rw [← hb]; exact hfb), ← ha, ← hb]
          have eW : encP (bF g g' (l.getD k 0)) = .agg #[.int .u8 (g a : Nat), .int .u8 (g' b : Nat)] := by
            unfold encP; rw [bF_1 (by rw [← hb]; exact hgb), bF_2 (by rw [← hb]; exact hgb), ← ha, ← hb]
          have zB : bF f f' (l.getD k 0) < 256 := HL.out.2.1 _ hc.1
          have zW : bF g g' (l.getD k 0) < 256 := HL.out.2.1 _ hc.2
          have iB : idxF l (bF f f') k = l.idxOf (bF f f' (l.getD k 0)) := rfl
          have iW : idxF l (bF g g') k = l.idxOf (bF g g' (l.getD k 0)) := rfl
          have lB := fun (wx : World) (Lx : List Part) (hx : Holds w wx Lx) (i : Nat) (hi : Lx[i]? = some (pMap Try.prog 68 (w.heap.size + 1 + 1 + 1) (Mn l l.length))) => look_name hx i hi HL.out.1 zB hc.1
          have lW := fun (wx : World) (Lx : List Part) (hx : Holds w wx Lx) (i : Nat) (hi : Lx[i]? = some (pMap Try.prog 68 (w.heap.size + 1 + 1 + 1) (Mn l l.length))) => look_name hx i hi HL.out.1 zW hc.2
          rw [eB, ← iB] at lB
          rw [eW, ← iW] at lW
          have LB := hide lB; clear lB
          have LW := hide lW; clear lW
          clear eB eW iB iW zB zW hc hm hz ha hb
          generalize hVB : idxF l (bF f f') k = vB at *
          generalize hVW : idxF l (bF g g') k = vW at *
          have s1 := upto_step (idxF l (bF f f')) k
          have s2 := upto_step (idxF l (bF g g')) k
          rw [hVB] at s1
          rw [hVW] at s2
          have SS := hide (And.intro s1 s2); clear s1 s2 hVB hVW
          have hk16 : k < 16 := by omega
          generalize upto (idxF l (bF f f')) k = U1 at *
          generalize upto (idxF l (bF g g')) k = U2 at *
          generalize hW1 : upto (idxF l (bF f f')) (k + 1) = V1 at *
          generalize hW2 : upto (idxF l (bF g g')) (k + 1) = V2 at *
          have HW := hide (And.intro hW1 hW2); clear hW1 hW2
          have hHb := hH.blk #[.int .u8 (a : Nat), .int .u8 (b : Nat)] 68 wr.heap.size rfl
          have cd := hHb.cells 5 rfl
          have ce := hHb.cells 4 rfl
          clear hH
          go_wp2_with fail
          refine (C2.out f f' a b ha16 hb16 _).mono ?_
          rintro e w3 ⟨rfl, hb3⟩
          have hH3 := hHb.call hb3
          have lk := LB.out w3 _ hH3 2 rfl
          have c0 : w3.cell? ⟨wr.heap.size, 0, none⟩ = some (.int .u8 (a : Nat)) := hH3.cell 0 rfl rfl
          have c1 : w3.cell? ⟨wr.heap.size, 1, none⟩ = some (.int .u8 (b : Nat)) := hH3.cell 0 rfl rfl
          have cd3 := hH3.cells 5 rfl
          have ce3 := hH3.cells 4 rfl
          have g1 := hH3.cell 1 rfl (dv_b K U1 U2 hk16)
          have g2 := hH3.frozen 1 rfl (1 + k)
          have hH4 := hH3.set 1 rfl (1 + k) (.int .u8 (vB : Nat))
          rw [dv_setb _ _ _ _ hk16, SS.out.1] at hH4
          have c04 : (w3.setCell ⟨G, 1 + k, none⟩ (.int .u8 (vB : Nat))).cell? ⟨wr.heap.size, 0, none⟩ = some (.int .u8 (a : Nat)) := hH4.cell 0 rfl rfl
          have c14 : (w3.setCell ⟨G, 1 + k, none⟩ (.int .u8 (vB : Nat))).cell? ⟨wr.heap.size, 1, none⟩ = some (.int .u8 (b : Nat)) := hH4.cell 0 rfl rfl
          have cd4 : cellsOf (w3.setCell ⟨G, 1 + k, none⟩ (.int .u8 (vB : Nat))) w.heap.size = dv m f g := hH4.cells 5 rfl
          have ce4 : cellsOf (w3.setCell ⟨G, 1 + k, none⟩ (.int .u8 (vB : Nat))) (w.heap.size + 1) = dv n f' g' := hH4.cells 4 rfl
          clear hb3 hHb cd ce x1 x2
          go_wp2_with fail
          refine (C2.out g g' a b ha16 hb16 _).mono ?_
          rintro e w5 ⟨rfl, hb5⟩
          have hH5 := hH4.call hb5
          have lk5 := LW.out w5 _ hH5 2 rfl
          have g3 := hH5.cell 1 rfl (dv_w K V1 U2 hk16)
          have g4 := hH5.frozen 1 rfl (17 + k)
          clear hb5 lk c0 c1 cd3 ce3 g1 g2 c04 c14 cd4 ce4 hH4 hH3
          go_wp2
          go_roundw
          case rel =>
            refine ⟨k + 1, by omega, by go_num, ?_⟩
            rw [HW.out.1, HW.out.2, ← SS.out.2, ← dv_setw _ _ _ _ hk16]
            exact (hH5.set 1 rfl (17 + k) (.int .u8 (vW : Nat))).tail
          case measure => simp [intOf]; omega
        · obtain rfl : K = k := by omega
          rw [HK.out]
          rw [HK.out] at hH
          have cc := hH.cells 0 rfl
          have rr := hH.rowOk 2 rfl (dv_size _ _ _)
          clear hk hkl
          go_wp2
          have H2 := hH.setRow 2 rfl (dv l.length (upto (idxF l (bF f f')) l.length) (upto (idxF l (bF g g')) l.length))
          exact res_agg (p := 6) (g := w.heap.size + 1 + 1) aggD (dv_size _ _ _) rfl rfl rfl (H2.at 2 rfl) ⟨rfl, H2.low⟩
end Go.Proofs.Ytjhpkibeddnbfaa

namespace Go.Proofs.Ytjhpkibeddnbfaa
open Go.RowKit

set_option maxRecDepth 100000 in
set_option maxHeartbeats 1000000 in
theorem seconds_any (l : List Nat) (hl : l.length ≤ 16) (hlt : ∀ z ∈ l, z < 256 ∧ z / 16 < l.length) (v : Value) (w : World) (hv : RdP w v (dec l)) :
    Calls Try.prog 53 #[v] w fun e w' => ∃ u, e = .returned u ∧ Below w.heap.size w w' ∧ w'.ownsRow w.heap.size 2 1 u l.length (rv (secT l l.length) l.length) := by
  obtain ⟨A, c, rfl⟩ := hv.form
  rw [dec_length] at hv ⊢
  have HV := hide hv; clear hv
  have HL := hide hlt; clear hlt
  obtain ⟨i0, hi, hz0, hz1, hz2⟩ := info_parts info64
  have I0 := hide (And.intro hi (And.intro hz0 (And.intro hz1 hz2))); clear hi hz0 hz1 hz2
  have HH0 := Holds.start w
  go_enter Try.func53, Try.ntmps53
  go_wp2_with (refine makeH (P := Try.prog) rfl 48 _ _ rfl 2 i0 (.int .i64 0) 8 Try.underlying48 I0.out.1 I0.out.2.1 I0.out.2.2.1 I0.out.2.2.2 rfl l.length .i64 .i64 rfl rfl (by omega) (by decide) HH0 ?_)
  intro w1 HH1
  rw [rv_zero] at HH1
  clear HH0
  go_wp2
  go_loopw [11] (fun t wr => ∃ k : Nat, k ≤ l.length ∧ t = .int .i64 k ∧ Holds w wr [pRow (.slice (some ⟨w.heap.size, 0, none⟩) l.length l.length) 2 1 l.length (rv (secT l k) l.length)]) (fun t _ => l.length - (intOf t).toNat)
  case atStart => exact ⟨0, by omega, rfl, HH1⟩
  case round =>
    clear HH1
    obtain ⟨k, hk, rfl, hH⟩ := hrel
    by_cases hkl : k < l.length
    · obtain ⟨q, rfl, hq, x1, x2⟩ := (HV.out.below hH.low (Nat.le_refl _)).at hkl
      obtain ⟨a, ha⟩ : ∃ a, a = l.getD k 0 / 16 := ⟨_, rfl⟩
      obtain ⟨b, hb⟩ : ∃ b, b = l.getD k 0 % 16 := ⟨_, rfl⟩
      have hm : l.getD k 0 ∈ l := by rw [List.getD_eq_getElem?_getD, List.getElem?_eq_getElem hkl]; exact List.getElem_mem hkl
      have hz := HL.out _ hm
      rw [← ha] at x1
      rw [← hb] at x2
      rw [← ha] at hz
      have hs : secT l (k + 1) = hset (secT l k) a ((b : Nat) : Int) := by rw [ha, hb]; rfl
      have HS := hide hs; clear hs ha hm
      have hal : a < l.length := hz.2
      have hal' : (a : Int) < l.length := by omega
      have hb256 : (b : Int) < 256 := by omega
      clear hb hz
      have hHb := hH.blk #[.int .u8 (a : Nat), .int .u8 (b : Nat)] 68 wr.heap.size rfl
      have z0 : (wr.alloc (.cells #[.int .u8 (a : Nat), .int .u8 (b : Nat)] 68)).cell? ⟨w.heap.size, a, none⟩ = some (.int .i64 (secT l k a)) := hHb.cellR 1 rfl (rv_at _ hal)
      have z1 := hHb.frozenR 1 rfl (by omega) a
      have hP := hHb.put 1 rfl a (.int .i64 (b : Nat))
      rw [rv_set, ← HS.out] at hP
      go_wp2
      clear z0 z1 hHb hH x1 x2
      go_roundw
      case rel => exact ⟨k + 1, by omega, by go_num, hP.tail⟩
      case measure => simp [intOf]; omega
    · obtain ⟨K, hK⟩ : ∃ K, K = l.length := ⟨_, rfl⟩
      obtain rfl : K = k := by omega
      subst hK
      clear hk hkl
      go_wp2
      go_ret
      exact ⟨_, rfl, hH.low, hH.row 0 rfl⟩
end Go.Proofs.Ytjhpkibeddnbfaa

namespace Go.Proofs.Ytjhpkibeddnbfaa
open Go.RowKit

/-- a row of bytes, its part -/
def pBytes (v : Value) (l : List Nat) : Part := pRow v 5 1 l.length (bytesL l)
theorem bytesL_length (l : List Nat) : (bytesL l).length = l.length := by unfold bytesL; simp
theorem bytesL_at {l : List Nat} {k : Nat} (hk : k < l.length) : (bytesL l)[k]? = some (.int .u8 (l[k] : Nat)) := by unfold bytesL; simp [hk]
theorem bytesL_one {l : List Nat} : ∀ u ∈ bytesL l, u.oneCell' = true := by
  intro u hu
  obtain ⟨x, _, rfl⟩ := List.mem_map.1 hu
  rfl
theorem Holds.bytes {w0 w : World} {L : List Part} (h : Holds w0 w L) (i : Nat) {v : Value} {l : List Nat} (hi : L[i]? = some (pBytes v l)) {k : Nat} (hk : k < l.length) :
    ∃ g c, v = .slice (some ⟨g, 0, none⟩) l.length c ∧ g < w.heap.size ∧ w.cell? ⟨g, k, none⟩ = some (.int .u8 (l[k] : Nat)) := by
  obtain ⟨g, c, h1, h2, h3, h4, h5, h6, h7⟩ := row_at (h.row i hi) (by omega : 0 < l.length)
  exact ⟨g, c, h1, h3, h6 _ _ (bytesL_at hk)⟩
theorem Holds.bytesForm {w0 w : World} {L : List Part} (h : Holds w0 w L) (i : Nat) {v : Value} {l : List Nat} (hi : L[i]? = some (pBytes v l)) : ∃ A c, v = .slice A l.length c := own_slice (h.row i hi)
/-- one byte more -/
theorem appBy {ops : Array Oper} {rest : List Oper} {o : Oper} {a : Act} {Q : Exit → Act → World → Prop} {w0 w : World} {L : List Part} (H : Holds w0 w L) (k : Nat) {v : Value} {l : List Nat} (hk : L[k]? = some (pBytes v l))
    (g : Nat) (news : List Nat) (t : TypeId) (hc : w.heap[g]? = some (.cells (bytesL news).toArray t (0, 0))) (hb : l.length + news.length ≤ 1000000)
    (hgd : o.guard = none) (s x : Operand)
    (ho : o.op = .call { callee := .builtin .append, args := #[s, x], argTypes := #[113, 113] })
    (hs : a.eval s = v) (hx : a.eval x = .slice (some ⟨g, 0, none⟩) news.length news.length)
    (h : ∀ v' w', Holds w0 w' (L.set k (pBytes v' (l ++ news))) → wpList Try.prog ops Q rest (a.put o.dst v') w') : wpList Try.prog ops Q (o :: rest) a w := by
  obtain ⟨i0, hi, hz0, hz1, hz2⟩ := info_parts infoU8
  refine appH (P := Try.prog) hgd s x 113 ho 5 i0 (.int .u8 0) 1 1 Try.underlying113 hi hz0 hz1 hz2 rfl (by decide) v l.length (bytesL l) hs H k hk ⟨g, 0, none⟩ news.length news.length (bytesL news) hx
    (by rw [bytesL_length]; omega) (fun j u hu => ?_) bytesL_one (by unfold maxLen; omega) (by omega) fun v' w' h1 => h v' w' ?_
  · have : ((⟨g, 0, none⟩ : Addr).add j) = ⟨g, j, none⟩ := by simp [Addr.add]; exact Eq.symm
    rw [this, cell_of_cells, cellsOf_heap hc]
    simpa using hu
  · unfold pBytes at *
    have e : bytesL (l ++ news) = bytesL l ++ bytesL news := by unfold bytesL; simp
    rw [List.length_append, e]
    exact h1
def neg1 (k : Nat) : Nat → Int := fun z => if 1 ≤ z ∧ z < k then -1 else 0
theorem neg1_step {k : Nat} (hk : 1 ≤ k) : hset (neg1 k) k (-1) = neg1 (k + 1) := by
  funext z
  unfold hset neg1
  by_cases c : z = k
  · subst c; simp [hk]
  · have : z < k + 1 ↔ z < k := by omega
    simp [c, this]
theorem neg1_all (m y : Nat) (hy : y < 16) : rv (hset (neg1 m) 0 (y : Nat)) m = rv (sndF [y]) m := by
  refine rv_congr fun x hx => ?_
  unfold hset neg1 sndF
  by_cases c : x = 0
  · subst c
    have h1 : y / 16 = 0 := by omega
    have h2 : y % 16 = y := by omega
    simp [h1, h2]
  · have h1 : y / 16 = 0 := by omega
    have h2 : 1 ≤ x := by omega
    have h3 : ¬ 0 = x := by omega
    simp [c, h1, h2, hx, h3]

set_option maxRecDepth 100000 in
set_option maxHeartbeats 4000000 in
theorem sMor_any (f g f' g' : Nat → Nat) (m n : Nat) (hd : DesN f g m) (he : DesN f' g' n) (y : Nat) (hy : y < 16) (w : World) :
    Calls Try.prog 51 #[.agg (dv m f g), .agg (dv n f' g'), .int .i64 y] w fun e w' => ∃ u b, e = .returned (.tuple #[u, .bool b]) ∧ Below w.heap.size w w' ∧
      (b = true → (fsts (bfs (bF f f') (bF g g') y 256).1).Nodup ∧ w'.ownsRow w.heap.size 2 1 u m (rv (sndF (bfs (bF f f') (bF g g') y 256).1) m)) ∧ (b = false → ¬ (fsts (bfs (bF f f') (bF g g') y 256).1).Nodup) := by
  have hm := hd.le
  have h0 := hd.pos
  have hn := dv_n m f g
  have hB := fun z hz => bF_lt hd.black he.black z hz
  have hW := fun z hz => bF_lt hd.white he.white z hz
  have hz0 : y < 256 := by omega
  have hlt := fun i => prs_lt hd he hy i
  obtain ⟨F, FI, F0, FN, FE, HFP, HLT⟩ : ∃ (F : Nat → List Nat × (Nat → Bool)), Hid (∀ k, BInv 256 (F k)) ∧ Hid (F 0 = ([y], mset (fun _ => false) y)) ∧ Hid (∀ k (hk : k < (F k).1.length), F (k + 1) = bst (bF f f') (bF g g') (F k) ((F k).1[k]) 2) ∧
      Hid (∀ k, k ≤ 256 → (F k).1.length ≤ k → (bfs (bF f f') (bF g g') y 256).1 = (F k).1) ∧ Hid (∀ k, k ≤ 256 → (F k).1 <+: (bfs (bF f f') (bF g g') y 256).1) ∧ Hid (∀ k, ∀ z ∈ (F k).1, z / 16 < m) :=
    ⟨bfs (bF f f') (bF g g') y, hide fun k => bfs_inv hB hW hz0 k, hide (bfs_start _ _ _), hide fun k hk => bfs_next hk, hide fun k h1 h2 => by
      generalize 256 = K at *
      rw [bfs_stop h2 h1], hide fun k hk => bfs_pre' _ _ _ hk, hide hlt⟩
  obtain ⟨R, hR⟩ : ∃ R, R = (bfs (bF f f') (bF g g') y 256).1 := ⟨_, rfl⟩
  rw [← hR] at FE HFP ⊢
  clear hR hlt
  have HBW := hide (And.intro hB hW); clear hB hW
  have HBJ := hide (And.intro hd.bf.1 hd.bg.1)
  have HP := hide (And.intro (And.intro hd.black hd.white) (And.intro he.black he.white)); clear hd he
  obtain ⟨i0, hi, hz0', hz1, hz2⟩ := info_parts info64
  have I0 := hide (And.intro hi (And.intro hz0' (And.intro hz1 hz2))); clear hi hz0' hz1 hz2
  have HH0 := ((Holds.start w).blk (dv m f g) 30 w.heap.size rfl).blk (dv n f' g') 30 (w.heap.size + 1) (by simp)
  have cn := HH0.cell 1 rfl hn
  go_enter Try.func51, Try.ntmps51
  go_wp2_with (refine makeH (P := Try.prog) rfl 48 _ _ rfl 2 i0 (.int .i64 0) 8 Try.underlying48 I0.out.1 I0.out.2.1 I0.out.2.2.1 I0.out.2.2.2 rfl m .i64 .i64 rfl rfl (by omega) (by decide) HH0 ?_)
  intro w1 HH1
  clear HH0 cn
  rw [rv_zero] at HH1
  have HH2 := HH1.rowNew #[.int .u8 0] 5 1 1 w1.heap.size rfl rfl (by unfold maxLen; omega)
  clear HH1
  replace HH2 : Holds w (w1.alloc (.cells #[.int .u8 0] 5)) [pBytes (.slice (some ⟨w1.heap.size, 0, none⟩) 1 1) [0], pRow (.slice (some ⟨w.heap.size + 1 + 1, 0, none⟩) m m) 2 1 m (rv (neg1 1) m), pBlk (w.heap.size + 1) (dv n f' g') 30, pBlk w.heap.size (dv m f g) 30] := by
    have e1 : neg1 1 = fun _ => 0 := by funext z; unfold neg1; rw [if_neg (by omega)]
    rw [e1]; exact HH2
  go_wp2
  generalize w1.alloc (.cells #[.int .u8 0] 5) = w2 at *
  generalize w1.heap.size = G3 at *
  go_loopw [10] (fun t wr => ∃ k : Nat, 1 ≤ k ∧ k ≤ m ∧ t = .int .i64 k ∧ Holds w wr [pBytes (.slice (some ⟨G3, 0, none⟩) 1 1) [0], pRow (.slice (some ⟨w.heap.size + 1 + 1, 0, none⟩) m m) 2 1 m (rv (neg1 k) m), pBlk (w.heap.size + 1) (dv n f' g') 30, pBlk w.heap.size (dv m f g) 30]) (fun t _ => m - (intOf t).toNat)
  case atStart => exact ⟨1, by omega, by omega, rfl, HH2⟩
  case round =>
    clear HH2
    obtain ⟨k, hk1, hk, rfl, hH⟩ := hrel
    have cn := hH.cell 3 rfl hn
    by_cases hkm : k < m
    · have hkm' : (k : Int) < m := by omega
      have r0 := hH.cellR 1 rfl (rv_at (neg1 k) hkm)
      have r1 := hH.frozenR 1 rfl (by omega) k
      have hP := hH.put 1 rfl k (.int .i64 (-1))
      rw [rv_set, neg1_step hk1] at hP
      go_wp2
      go_roundw
      case rel => exact ⟨k + 1, by omega, by omega, by go_num, hP⟩
      case measure => simp [intOf]; omega
    · obtain rfl : m = k := by omega
      clear hk hkm
      have h00 : (0 : Int) < m := by omega
      have r0 := hH.cellR 1 rfl (rv_at (neg1 m) h0)
      have r1 := hH.frozenR 1 rfl (by omega) 0
      have hP := hH.put 1 rfl 0 (.int .i64 (y : Nat))
      rw [rv_set, neg1_all m y hy] at hP
      have hF0 := F0.out
      have hf0 : fsts (F 0).1 = [0] := by rw [hF0]; unfold fsts; simp; omega
      go_wp2
      clear r0 r1 cn hH
      go_loopw [9, 11] (fun u t wr => ∃ k : Nat, k ≤ (F k).1.length ∧ t = .int .i64 k ∧ (fsts (F k).1).Nodup ∧ Holds w wr [pBytes u (fsts (F k).1), pRow (.slice (some ⟨w.heap.size + 1 + 1, 0, none⟩) m m) 2 1 m (rv (sndF (F k).1) m), pBlk (w.heap.size + 1) (dv n f' g') 30, pBlk w.heap.size (dv m f g) 30]) (fun _ t _ => 257 - (intOf t).toNat)
      case atStart => exact ⟨0, by omega, rfl, by rw [hf0]; simp, by rw [hf0, hF0]; exact hP⟩
      case round =>
        clear hP hF0 hf0
        obtain ⟨k, hk, rfl, hnd, hH⟩ := hrel
        have hI := FI.out k
        have hle := hI.length_le
        by_cases hkl : k < (F k).1.length
        · obtain ⟨g0, c0, rfl, _, y1⟩ := hH.bytes 0 rfl (k := k) (by rw [fsts_length]; exact hkl)
          have hnx := FN.out k hkl
          have hX := hI.lt _ (List.getElem_mem hkl)
          have hXm := List.getElem_mem hkl
          have hXa := HLT.out k _ hXm
          have hfk : ∀ h, (fsts (F k).1)[k]'h = (F k).1[k] / 16 := fun h => by simp [fsts]
          rw [hfk] at y1
          clear hfk
          obtain ⟨a, hab1⟩ : ∃ a, a = (F k).1[k] / 16 := ⟨_, rfl⟩
          obtain ⟨b, hab2⟩ : ∃ b, b = (F k).1[k] % 16 := ⟨_, rfl⟩
          rw [← hab1] at y1 hXa
          have hb16 : b < 16 := by omega
          have ha' : (a : Int) < m := by omega
          have ha16 : a < 16 := by omega
          have ha16' : (a : Int) < 16 := by omega
          have hb16' : (b : Int) < 16 := by omega
          rw [fsts_length] at hH ⊢
          generalize hS : F k = S at *
          generalize S.1[k] = X at *
          have HS := hide hS; clear hS
          have HNX := hide hnx; clear hnx
          have HI := hide hI; clear hI
          have hfa := HBJ.out.1 a hXa
          have hga := HBJ.out.2 a hXa
          have hfb := HP.out.2.1.lt16 hb16
          have hgb := HP.out.2.2.lt16 hb16
          have hB := HBW.out.1 X hX
          have hW := HBW.out.2 X hX
          have vB : bF f f' X / 16 = f a ∧ bF f f' X % 16 = f' b := by rw [hab1, hab2]; rw [hab2] at hfb; exact ⟨bF_1 hfb, bF_2 hfb⟩
          have vW : bF g g' X / 16 = g a ∧ bF g g' X % 16 = g' b := by rw [hab1, hab2]; rw [hab2] at hgb; exact ⟨bF_1 hgb, bF_2 hgb⟩
          have EE := hide (And.intro (And.intro vB.1 (And.intro vB.2 hfa)) (And.intro vW.1 (And.intro vW.2 hga))); clear vB vW
          have HAB := hide (And.intro hab1 (And.intro hab2 hXm)); clear hab1 hab2 hXm
          have HBX := hide (And.intro hB hW); clear hB hW hX
          go_wp2
          clear y1
          go_loopw [9, 13] (fun u t wr => ∃ i : Nat, i ≤ 2 ∧ t = .int .i64 i ∧ (fsts (bst (bF f f') (bF g g') S X i).1).Nodup ∧ Holds w wr [pBytes u (fsts (bst (bF f f') (bF g g') S X i).1), pRow (.slice (some ⟨w.heap.size + 1 + 1, 0, none⟩) m m) 2 1 m (rv (sndF (bst (bF f f') (bF g g') S X i).1) m), pBlk (w.heap.size + 1) (dv n f' g') 30, pBlk w.heap.size (dv m f g) 30]) (fun _ t _ => 2 - (intOf t).toNat)
          case atStart => exact ⟨0, by omega, rfl, hnd, hH⟩
          case round =>
            clear hH hnd
            obtain ⟨i, hi, rfl, hnd, hH⟩ := hrel
            by_cases hi2 : i < 2
            · have hIT := bst_inv HI.out HBX.out.1 HBX.out.2 i
              have hXT : X ∈ (bst (bF f f') (bF g g') S X i).1 := (bst_pre _ _ _ _ _).subset HAB.out.2.2
              have hsa : sndF (bst (bF f f') (bF g g') S X i).1 a = ((b : Nat) : Int) := by
                have := sndF_mem hnd hXT
                rw [← HAB.out.1, ← HAB.out.2.1] at this; exact this
              clear hXT
              have q0 : wr.cell? ⟨w.heap.size + 1 + 1, a, none⟩ = some (.int .i64 (b : Nat)) := by
                rw [← hsa]; exact hH.cellR 1 rfl (rv_at _ hXa)
              have c3 := hH.cell 3 rfl (dv_b m f g ha16)
              have c4 := hH.cell 2 rfl (dv_b n f' g' hb16)
              go_wp2
              go_quiet (fail)
              have hH' := hH.drewN nq
              clear q0 c3 c4 hH
              generalize wr.drewN nq = wr at *
              have hH := hH'
              clear hH'
              have hii : i = 0 ∨ i = 1 := by omega
              rcases hii with hi0 | hi1
              · obtain rfl := hi0
                have hst : bst (bF f f') (bF g g') S X 1 = badd (bst (bF f f') (bF g g') S X 0) (bF f f' X) := rfl
                clear hsa
                generalize bst (bF f f') (bF g g') S X 0 = T at *
                have HIT := hide hIT; clear hIT
                have HST := hide hst; clear hst
                have hzt : (bF f f' X) / 16 = f a := EE.out.1.1
                have hzh : (bF f f' X) % 16 = f' b := EE.out.1.2.1
                have hto : f a < m := EE.out.1.2.2
                have hto' : ((f a : Nat) : Int) < m := by omega
                have hz256 := HBX.out.1
                have hTl := HIT.out.length_le
                by_cases hin : f a ∈ fsts T.1
                · have hge := sndF_ge hin
                  have hneg : decide (sndF T.1 (f a) < 0) = false := decide_eq_false (by omega)
                  by_cases hsm : sndF T.1 (f a) = ((f' b : Nat) : Int)
                  · have hmz : bF f f' X ∈ T.1 := (snd_same hnd (by rw [hzt]; exact hin)).2 (by rw [hzt, hzh]; exact hsm)
                    have hneq : (sndF T.1 (f a) != ((f' b : Nat) : Int)) = false := by rw [hsm]; simp
                    have hTY : T.2 (bF f f' X) = true := (HIT.out.mem _).2 hmz
                    have HX := hide (And.intro hnd (And.intro hTY hto)); clear hnd hTY hmz hsm hin hzt hzh hge hTl
                    have r0 := hH.cellR 1 rfl (rv_at (sndF T.1) (j := f a) HX.out.2.2)
                    go_wp2
                    go_roundw
                    case rel =>
                      refine ⟨1, by omega, by go_num, ?_⟩
                      rw [HST.out, badd_old HX.out.2.1]
                      exact ⟨HX.out.1, hH⟩
                    case measure => simp [intOf]
                  · have hmz : bF f f' X ∉ T.1 := fun h => hsm (by have := sndF_mem hnd h; rw [hzt, hzh] at this; exact this)
                    have hneq : (sndF T.1 (f a) != ((f' b : Nat) : Int)) = true := by simpa using hsm
                    have hTN : T.2 (bF f f' X) = false := by
                      rcases h : T.2 (bF f f' X) with _ | _
                      · rfl
                      · exact absurd ((HIT.out.mem _).1 h) hmz
                    have hpre : T.1 ++ [bF f f' X] <+: R := by
                      have h1 : T.1 ++ [bF f f' X] <+: (bst (bF f f') (bF g g') S X 2).1 := by
                        have h2 : (bst (bF f f') (bF g g') S X 1).1 = T.1 ++ [bF f f' X] := by rw [HST.out, badd_new hTN]
                        rw [← h2]
                        exact badd_le _ _
                      rw [← HNX.out] at h1
                      exact h1.trans (HFP.out (k + 1) (by omega))
                    have hcl := snd_clash (by rw [hzt]; exact hin) hmz hpre
                    have HX := hide (And.intro hcl hto); clear hcl hpre hTN hmz hsm hin hnd hzt hzh hge hTl
                    have r0 := hH.cellR 1 rfl (rv_at (sndF T.1) (j := f a) HX.out.2)
                    go_wp2
                    go_ret2
                    exact ⟨_, false, rfl, hH.low, (fun h => by cases h), fun _ => HX.out.1⟩
                · have hmin : sndF T.1 (f a) = -1 := sndF_none hin
                  have hneg : decide (sndF T.1 (f a) < 0) = true := by rw [hmin]; rfl
                  have hadd := sndF_add (l := T.1) (z := bF f f' X) (by rw [hzt]; exact hin)
                  rw [hzt, hzh] at hadd
                  have hTN : T.2 (bF f f' X) = false := by
                    rcases h : T.2 (bF f f' X) with _ | _
                    · rfl
                    · exact absurd (List.mem_map.2 ⟨_, (HIT.out.mem _).1 h, hzt⟩) hin
                  have hnd' : (fsts (T.1 ++ [bF f f' X])).Nodup := by
                    rw [fsts_snoc, List.nodup_append]
                    exact ⟨hnd, by simp, fun x hx y hy e => by simp at hy; rw [hzt] at hy; subst e; subst hy; exact hin hx⟩
                  have hsn : fsts (T.1 ++ [bF f f' X]) = fsts T.1 ++ [f a] := by rw [fsts_snoc, hzt]
                  have HX := hide (And.intro hnd' (And.intro hTN (And.intro hto (And.intro hadd hsn)))); clear hnd hnd' hTN hmin hin hadd hsn hzt hzh
                  have r0 := hH.cellR 1 rfl (rv_at (sndF T.1) (j := f a) HX.out.2.2.1)
                  have r1 := hH.frozenR 1 rfl (by omega) (f a)
                  have hP := hH.put 1 rfl (f a) (.int .i64 (f' b : Nat))
                  rw [rv_set, HX.out.2.2.2.1] at hP
                  obtain ⟨A', c', rfl⟩ := hH.bytesForm 0 rfl
                  rw [fsts_length] at hH hP ⊢
                  have hneq : (((f' b : Nat) : Int) != ((f' b : Nat) : Int)) = false := by simp
                  go_wp2_with (at_builtin; refine appBy (hP.alloc _) 0 rfl wr.heap.size [f a] 5 ?_ ?_ rfl _ _ rfl rfl rfl ?_)
                  · exact heap_at _ _ _ (by simp)
                  · rw [fsts_length]; simp only [List.length_cons, List.length_nil]; omega
                  intro v' w5 hH5
                  clear r0 r1 hP hH
                  have hH6 : Holds w w5 [pBytes v' (fsts T.1 ++ [f a]), pRow (.slice (some ⟨w.heap.size + 1 + 1, 0, none⟩) m m) 2 1 m (rv (sndF (T.1 ++ [bF f f' X])) m), pBlk (w.heap.size + 1) (dv n f' g') 30, pBlk w.heap.size (dv m f g) 30] := hH5
                  clear hH5
                  have hsv : sndF (T.1 ++ [bF f f' X]) (f a) = ((f' b : Nat) : Int) := by
                    rw [← HX.out.2.2.2.1]; unfold hset; rw [if_pos rfl]
                  have r2 := hH6.cellR 1 rfl (rv_at (sndF (T.1 ++ [bF f f' X])) (j := f a) HX.out.2.2.1)
                  rw [hsv] at r2
                  clear hsv
                  go_wp2
                  go_roundw
                  case rel =>
                    refine ⟨1, by omega, by go_num, ?_⟩
                    rw [HST.out, badd_new HX.out.2.1]
                    refine ⟨HX.out.1, ?_⟩
                    show Holds w w5 [pBytes v' (fsts (T.1 ++ [bF f f' X])), _, _, _]
                    rw [HX.out.2.2.2.2]
                    exact hH6
                  case measure => simp [intOf]

              · obtain rfl := hi1
                have hst : bst (bF f f') (bF g g') S X 2 = badd (bst (bF f f') (bF g g') S X 1) (bF g g' X) := rfl
                have q0 : wr.cell? ⟨w.heap.size + 1 + 1, a, none⟩ = some (.int .i64 (b : Nat)) := by
                  rw [← hsa]; exact hH.cellR 1 rfl (rv_at _ hXa)
                have c3 := hH.cell 3 rfl (dv_w m f g ha16)
                have c4 := hH.cell 2 rfl (dv_w n f' g' hb16)
                clear hsa
                generalize bst (bF f f') (bF g g') S X 1 = T at *
                have HIT := hide hIT; clear hIT
                have HST := hide hst; clear hst
                have hzt : (bF g g' X) / 16 = g a := EE.out.2.1
                have hzh : (bF g g' X) % 16 = g' b := EE.out.2.2.1
                have hto : g a < m := EE.out.2.2.2
                have hto' : ((g a : Nat) : Int) < m := by omega
                have hz256 := HBX.out.2
                have hTl := HIT.out.length_le
                by_cases hin : g a ∈ fsts T.1
                · have hge := sndF_ge hin
                  have hneg : decide (sndF T.1 (g a) < 0) = false := decide_eq_false (by omega)
                  by_cases hsm : sndF T.1 (g a) = ((g' b : Nat) : Int)
                  · have hmz : bF g g' X ∈ T.1 := (snd_same hnd (by rw [hzt]; exact hin)).2 (by rw [hzt, hzh]; exact hsm)
                    have hneq : (sndF T.1 (g a) != ((g' b : Nat) : Int)) = false := by rw [hsm]; simp
                    have hTY : T.2 (bF g g' X) = true := (HIT.out.mem _).2 hmz
                    have HX := hide (And.intro hnd (And.intro hTY hto)); clear hnd hTY hmz hsm hin hzt hzh hge hTl
                    have r0 := hH.cellR 1 rfl (rv_at (sndF T.1) (j := g a) HX.out.2.2)
                    go_wp2
                    go_roundw
                    case rel =>
                      refine ⟨2, by omega, by go_num, ?_⟩
                      rw [HST.out, badd_old HX.out.2.1]
                      exact ⟨HX.out.1, hH⟩
                    case measure => simp [intOf]
                  · have hmz : bF g g' X ∉ T.1 := fun h => hsm (by have := sndF_mem hnd h; rw [hzt, hzh] at this; exact this)
                    have hneq : (sndF T.1 (g a) != ((g' b : Nat) : Int)) = true := by simpa using hsm
                    have hTN : T.2 (bF g g' X) = false := by
                      rcases h : T.2 (bF g g' X) with _ | _
                      · rfl
                      · exact absurd ((HIT.out.mem _).1 h) hmz
                    have hpre : T.1 ++ [bF g g' X] <+: R := by
                      have h1 : T.1 ++ [bF g g' X] <+: (bst (bF f f') (bF g g') S X 2).1 := by
                        have h2 : (bst (bF f f') (bF g g') S X 2).1 = T.1 ++ [bF g g' X] := by rw [HST.out, badd_new hTN]
                        rw [← h2]
                        exact List.prefix_refl _
                      rw [← HNX.out] at h1
                      exact h1.trans (HFP.out (k + 1) (by omega))
                    have hcl := snd_clash (by rw [hzt]; exact hin) hmz hpre
                    have HX := hide (And.intro hcl hto); clear hcl hpre hTN hmz hsm hin hnd hzt hzh hge hTl
                    have r0 := hH.cellR 1 rfl (rv_at (sndF T.1) (j := g a) HX.out.2)
                    go_wp2
                    go_ret2
                    exact ⟨_, false, rfl, hH.low, (fun h => by cases h), fun _ => HX.out.1⟩
                · have hmin : sndF T.1 (g a) = -1 := sndF_none hin
                  have hneg : decide (sndF T.1 (g a) < 0) = true := by rw [hmin]; rfl
                  have hadd := sndF_add (l := T.1) (z := bF g g' X) (by rw [hzt]; exact hin)
                  rw [hzt, hzh] at hadd
                  have hTN : T.2 (bF g g' X) = false := by
                    rcases h : T.2 (bF g g' X) with _ | _
                    · rfl
                    · exact absurd (List.mem_map.2 ⟨_, (HIT.out.mem _).1 h, hzt⟩) hin
                  have hnd' : (fsts (T.1 ++ [bF g g' X])).Nodup := by
                    rw [fsts_snoc, List.nodup_append]
                    exact ⟨hnd, by simp, fun x hx y hy e => by simp at hy; rw [hzt] at hy; subst e; subst hy; exact hin hx⟩
                  have hsn : fsts (T.1 ++ [bF g g' X]) = fsts T.1 ++ [g a] := by rw [fsts_snoc, hzt]
                  have HX := hide (And.intro hnd' (And.intro hTN (And.intro hto (And.intro hadd hsn)))); clear hnd hnd' hTN hmin hin hadd hsn hzt hzh
                  have r0 := hH.cellR 1 rfl (rv_at (sndF T.1) (j := g a) HX.out.2.2.1)
                  have r1 := hH.frozenR 1 rfl (by omega) (g a)
                  have hP := hH.put 1 rfl (g a) (.int .i64 (g' b : Nat))
                  rw [rv_set, HX.out.2.2.2.1] at hP
                  obtain ⟨A', c', rfl⟩ := hH.bytesForm 0 rfl
                  rw [fsts_length] at hH hP ⊢
                  have hneq : (((g' b : Nat) : Int) != ((g' b : Nat) : Int)) = false := by simp
                  go_wp2_with (at_builtin; refine appBy (hP.alloc _) 0 rfl wr.heap.size [g a] 5 ?_ ?_ rfl _ _ rfl rfl rfl ?_)
                  · exact heap_at _ _ _ (by simp)
                  · rw [fsts_length]; simp only [List.length_cons, List.length_nil]; omega
                  intro v' w5 hH5
                  clear r0 r1 hP hH
                  have hH6 : Holds w w5 [pBytes v' (fsts T.1 ++ [g a]), pRow (.slice (some ⟨w.heap.size + 1 + 1, 0, none⟩) m m) 2 1 m (rv (sndF (T.1 ++ [bF g g' X])) m), pBlk (w.heap.size + 1) (dv n f' g') 30, pBlk w.heap.size (dv m f g) 30] := hH5
                  clear hH5
                  have hsv : sndF (T.1 ++ [bF g g' X]) (g a) = ((g' b : Nat) : Int) := by
                    rw [← HX.out.2.2.2.1]; unfold hset; rw [if_pos rfl]
                  have r2 := hH6.cellR 1 rfl (rv_at (sndF (T.1 ++ [bF g g' X])) (j := g a) HX.out.2.2.1)
                  rw [hsv] at r2
                  clear hsv
                  go_wp2
                  go_roundw
                  case rel =>
                    refine ⟨2, by omega, by go_num, ?_⟩
                    rw [HST.out, badd_new HX.out.2.1]
                    refine ⟨HX.out.1, ?_⟩
                    show Holds w w5 [pBytes v' (fsts (T.1 ++ [bF g g' X])), _, _, _]
                    rw [HX.out.2.2.2.2]
                    exact hH6
                  case measure => simp [intOf]

            · obtain rfl : i = 2 := by omega
              have hn2 := HNX.out
              rw [← hn2] at hH hnd
              have hln : k + 1 ≤ (F (k + 1)).1.length := by
                have h1 := (bst_pre (bF f f') (bF g g') S X 2).length_le
                rw [hn2]; omega
              clear hi hi2 hn2
              go_wp2
              go_roundw
              case rel => exact ⟨k + 1, hln, by go_num, hnd, hH⟩
              case measure => simp [intOf]; omega
        · have hR := FE.out k (by omega) (by omega)
          have hkk : (F k).1.length = k := by omega
          obtain ⟨A', c', rfl⟩ := hH.bytesForm 0 rfl
          have hdl : (fsts (F k).1).length = k := by rw [fsts_length]; exact hkk
          rw [hdl] at hH ⊢
          rw [← hR] at hH hnd
          have HND := hide hnd
          clear hR hkk hdl hI hle hk hkl hnd
          go_wp2
          go_ret2
          exact ⟨_, true, rfl, hH.low, (fun _ => ⟨HND.out, hH.row 1 rfl⟩), fun h => by cases h⟩
end Go.Proofs.Ytjhpkibeddnbfaa

namespace Go.Proofs.Ytjhpkibeddnbfaa
open Go.RowKit

theorem zeros16 : (Builtin.zeroCells #[Value.int .u8 0] 16).toList = bytesL (List.replicate 16 0) := by kernel_rfl
theorem wrap16 : IntKind.i64.wrap 16 = 16 := by kernel_rfl
theorem run_app16 {w : World} {B : Nat} {v : Value} {l : List Nat} (ty : TypeId) (h : OwnB B w v l) (h0 : 0 < l.length) (hl : l.length ≤ 16) (hBw : B ≤ w.heap.size) :
    ∃ v' w', (Builtin.append_ #[113, 3] ty #[v, .int .i64 16]).run Try.prog w = .ok v' w' ∧ OwnB B w' v' (l ++ List.replicate 16 0) ∧ w.grownBy w' v.ownBlock := by
  obtain ⟨i0, hi, hz0, hz1, hz2⟩ := info_parts infoU8
  rcases h.2 with ⟨_, e⟩ | ⟨g, cap, cur, rfl, hB, hh, h1, h2, h3, h4⟩
  · omega
  · rw [Nat.mul_one] at h3 h4
    have hbl : (bytesL l).length = l.length := by simp [bytesL]
    by_cases hroom : l.length + 16 ≤ cap
    · have hst := run_storeCells_at Try.prog g l.length 5 (bytesL (List.replicate 16 0)) 0 cur w hh (by simp [bytesL]; omega) (by simp [bytesL, Value.oneCell'])
      refine ⟨.slice (some ⟨g, 0, none⟩) (l.length + 16) cap, w.setRow g (cur.toList.take l.length ++ bytesL (List.replicate 16 0) ++ cur.toList.drop (l.length + 16)).toArray, ?_, ?_, ?_⟩
      · have hz := zeros16
        simp only [Nat.add_zero] at hst
        have hZl : (bytesL (List.replicate 16 0)).length = 16 := by simp [bytesL]
        generalize bytesL (List.replicate 16 0) = Z at *
        rw [hZl] at hst
        simp [Builtin.append_, run_underlying Try.underlying113, run_underlying Try.underlying3, sizeOf, typeInfo, zeroValue, hi, hz0, hz1, hz2, hroom, asInt, asIntOf, Addr.add_lit, wrap16, hz, Value.cells, hst, hbl]
      · refine ⟨by simp [bytesL], .inr ⟨g, cap, _, by simp, hB, setRow_heap _ _ _ _ _ _ hh, by simpa using hroom, h2, ?_, ?_⟩⟩
        · simp [bytesL]; omega
        · rw [h4]
          have : (l ++ List.replicate 16 0).length * 1 = (bytesL l ++ bytesL (List.replicate 16 0)).length := by simp [bytesL]
          rw [this]
          simp only [List.take_left]
          simp [bytesL]
      · exact ⟨rfl, rfl, rfl, by simp, fun k _ hk => setRow_other w g k _ (fun e => hk (by simp [Value.ownBlock, e]))⟩
    · have hn : ¬ (l.length + 16 ≤ cap) := hroom
      have h63 : ¬ (9223372036854775807 < ((l.length : Int) + max 16 0)) := by omega
      have h48 : ¬ (281474976710656 < Builtin.nextslicecap (l.length + 16) cap) := by
        have := growslice_fits (need := l.length + 16) (old := cap) (bytes := 1) (by omega) (by omega)
        omega
      have hfo := run_firstCells_some (P := Try.prog) w.drew 1 l.length ⟨g, 0, none⟩ l.length cap (bytesL l) (by simp [bytesL]) (fun j u hu => by
        have := World.ownsRow.cells h (g := g) rfl j u hu
        simpa using this)
      have hz := zeros16
      have hge := grownCap_ge w (l.length + 16) cap 5
      have hcm := grownCap_le_maxLen w (l.length + 16) cap 5 (by unfold maxLen; omega)
      refine ⟨.slice (some ⟨w.heap.size, 0, none⟩) (l.length + 16) (grownCap w (l.length + 16) cap 5), w.drew.alloc (.cells ((bytesL l).toArray ++ (Builtin.zeroCells #[Value.int .u8 0] 16 ++ Builtin.zeroCells #[Value.int .u8 0] (grownCap w (l.length + 16) cap 5 - (l.length + 16)))) 5), ?_, ?_, ?_⟩
      · simp [Builtin.append_, run_underlying Try.underlying113, run_underlying Try.underlying3, sizeOf, typeInfo, zeroValue, hi, hz0, hz1, hz2, hn, h63, h48, asInt, asIntOf, Addr.add_lit, wrap16, hz, Value.cells, Question.forced, hfo, newRow, grownCap]
      · refine ⟨by simp [bytesL], .inr ⟨w.heap.size, _, _, by simp, hBw, heap_alloc_new w.drew _, by simpa using hge, hcm, ?_, ?_⟩⟩
        · simp [size_zeroCells, bytesL]; omega
        · have e : (l ++ List.replicate 16 0).length * 1 = (bytesL l ++ bytesL (List.replicate 16 0)).length := by simp [bytesL]
          rw [e]
          simp only [Array.toList_append, hz]
          rw [← List.append_assoc]
          simp only [List.take_left]
          simp [bytesL]
      · exact ⟨rfl, rfl, rfl, by simp, fun k hk _ => heap_past w.drew _ k hk⟩
/-- the operation -/
theorem appZ {ops : Array Oper} {rest : List Oper} {o : Oper} {a : Act} {Q : Exit → Act → World → Prop} {w : World} (hgd : o.guard = none) (s : Operand)
    (ho : o.op = .call { callee := .builtin .append, args := #[s, .const (.int .i64 16)], argTypes := #[113, 3] }) {B : Nat} {v : Value} {l : List Nat} (hs : a.eval s = v) (hown : OwnB B w v l) (h0 : 0 < l.length) (hl : l.length ≤ 16) (hB : B ≤ w.heap.size)
    (h : ∀ v' w', OwnB B w' v' (l ++ List.replicate 16 0) → w.grownBy w' v.ownBlock → wpList Try.prog ops Q rest (a.put o.dst v') w') : wpList Try.prog ops Q (o :: rest) a w := by
  obtain ⟨v', w', hr, h2, h3⟩ := run_app16 o.type hown h0 hl hB
  refine wpList_plain hgd fun _ hK => ?_
  unfold Oper.wp execOp
  have hc : a.eval (.const (.int .i64 16)) = .int .i64 16 := rfl
  simp only [ho, resolve, invoke, builtin, Sem.run_bind, Sem.run_pure, Result.andThen_ok, List.map_toArray, List.map_cons, List.map_nil, hs, hc, hr]
  exact hK _ _ (h v' w' h2 h3)

/-- the first sixteen of a list of bytes and sixteen zeros behind it -/
def lstF (l : List Nat) : Nat → Nat := fun i => l.getD i 0
theorem lstF_take (l : List Nat) (hl : l.length ≤ 16) : ((bytesL (l ++ List.replicate 16 0)).take 16).toArray = av (lstF l) := by
  apply Array.ext_getElem?
  intro i
  rw [List.getElem?_toArray, av_cases]
  by_cases h : i < 16
  · rw [List.getElem?_take_of_lt h, if_pos h]
    unfold bytesL lstF
    rw [List.getElem?_map]
    rcases Nat.lt_or_ge i l.length with c | c
    · rw [List.getElem?_append_left c, List.getD_eq_getElem?_getD, List.getElem?_eq_getElem c]; rfl
    · rw [List.getElem?_append_right c, List.getD_eq_getElem?_getD, List.getElem?_eq_none c, List.getElem?_replicate, if_pos (by omega)]; rfl
  · rw [List.getElem?_take_eq_none (by omega), if_neg h]
/-- the array that lies at the beginning of such a list -/
theorem own_sixteen {B : Nat} {w : World} {v : Value} {l : List Nat} (h : OwnB B w v (l ++ List.replicate 16 0)) (h0 : 0 < (l ++ List.replicate 16 0).length) (hl : l.length ≤ 16) :
    ∃ g c, v = .slice (some ⟨g, 0, none⟩) (l ++ List.replicate 16 0).length c ∧ B ≤ g ∧ g < w.heap.size ∧
      ∀ wx, cellsOf wx g = cellsOf w g → (loadT 28 (.pointer (some ⟨g, 0, none⟩))).run Try.prog wx = .ok (.value (.agg (av (lstF l)))) wx := by
  rcases h.2 with ⟨_, e⟩ | ⟨g, cap, cur, rfl, hB, hh, h1, h2, h3, h4⟩
  · omega
  · refine ⟨g, cap, rfl, hB, (Array.getElem?_eq_some_iff.1 hh).1, fun wx hx => run_load_mid aggP ?_ (av_size _)⟩
    rw [hx, cellsOf_heap hh, ← lstF_take l hl, ← h4, List.take_take]
    have hm : min 16 ((l ++ List.replicate 16 0).length * 1) = 16 := by simp
    rw [hm]
    apply Array.ext'
    simp
def namF (f g : Nat → Nat) (m x : Nat) : Nat → Nat := backF (lstF (bfs f g x 16).1) m

set_option maxRecDepth 100000 in
set_option maxHeartbeats 1000000 in
theorem naming_any (f g : Nat → Nat) (m : Nat) (hd : DesN f g m) (x : Nat) (hx : x < m) (w : World) :
    Calls Try.prog 85 #[.agg (dv m f g), .int .u8 x] w fun e w' => e = .returned (.agg (av (namF f g m x))) ∧ Below w.heap.size w w' := by
  obtain ⟨l, hl⟩ : ∃ l, l = (bfs f g x 16).1 := ⟨_, rfl⟩
  have c1 := fun w => dartsFrom_any f g m hd.le hd.bf.1 hd.bg.1 x hx m w
  have hI := bfs_inv hd.bf.1 hd.bg.1 hx 16
  have hlen : (bfs f g x 16).1.length = m := bfs_full hd.bf hd.bg hd.le hd.conn hx
  have hil := hI.lt
  have e1 : namF f g m x = backF (lstF (bfs f g x 16).1) m := rfl
  rw [e1]
  rw [← hl] at c1 hlen hil ⊢
  clear e1 hI hl
  have hm := hd.le
  have h0 := hd.pos
  have hn := dv_n m f g
  have hlt : ∀ i, i < m → lstF l i < 16 := fun i hi => by
    unfold lstF
    rw [List.getD_eq_getElem?_getD, List.getElem?_eq_getElem (by omega)]
    have := hil _ (List.getElem_mem (show i < l.length by omega))
    show l[i] < 16
    omega
  have C1 := hide c1; clear c1
  have C2 := hide fun w => undo_any (lstF l) m hm hlt w
  generalize backF (lstF l) m = F at *
  clear hlt hil hd
  go_enter Try.func85, Try.ntmps85
  go_wp2_with fail
  rw [← av_zero]
  refine (C1.out _).mono ?_
  rintro e w1 ⟨v, rfl, hb, ho⟩
  have c1 : cellsOf w1 w.heap.size = dv m f g := (below_cells hb (by simp <;> omega)).trans (cellsOf_heap (heap1 rfl))
  have r1 : rowOk w1 (w.heap.size + 1) 16 := (below_row hb (by simp)).2 ⟨_, _, heap_at _ _ _ (by simp), av_size _⟩
  have b1 := (below2 w (.cells (dv m f g) 30) (.cells (av fun _ => 0) 28)).trans (hb.mono (by simp <;> omega))
  have ho1 : OwnB (w.heap.size + 2) w1 v l := by simpa using ho
  have hlow : ∀ k, v.ownBlock = some k → w.heap.size + 2 ≤ k := fun k hk => (World.ownsRow.lt ho1 k hk).1
  have s1 : w.heap.size + 2 ≤ w1.heap.size := by have := hb.size; simpa using this
  clear hb ho
  go_wp2_with (at_builtin; refine appZ rfl _ rfl rfl ho1 (by omega) (by omega) (by omega) fun v' w2 ho2 hg2 => ?_)
  have b2 := b1.grown hg2 (by omega) (fun k hk => by have := hlow k hk; omega)
  have c2 : cellsOf w2 w.heap.size = dv m f g := by rw [grown_cells hg2 (by omega) (fun e => by have := hlow _ e.symm; omega)]; exact c1
  have r2 : rowOk w2 (w.heap.size + 1) 16 := (grown_row hg2 r1.lt (fun e => by have := hlow _ e.symm; omega)).2 r1
  clear c1 r1 b1 hg2 hlow ho1
  obtain ⟨g0, cp, rfl, hg0, hg1, hx0⟩ := own_sixteen ho2 (by simp) (by rw [hlen]; exact hm)
  have hll : (l ++ List.replicate 16 0).length = m + 16 := by simp [hlen]
  rw [hll]
  clear ho2 hll
  go_wp2
  refine region_tail (Grown w2) 6 (by kernel_rfl) (by kernel_rfl) (Grown.drew w2) ?_
  simp only [List.take_succ_cons, List.take_zero, List.drop_succ_cons, List.drop_zero]
  apply q_step
  · go_simp
  · intro wx hx
    have e0 := hx.cells c2 (by have := r2.lt; omega)
    have z0 := hx0 wx (hx.cells rfl hg1)
    have a0 := run_arrayAt (P := Try.prog) wx 28 5 16 (some ⟨g0, 0, none⟩) (m + 16) cp Try.underlying28 (by omega)
    have n0 : wx.cell? ⟨w.heap.size, 0, none⟩ = some (.int .i64 m) := by rw [cell_of_cells, e0]; exact hn
    go_simp
    exact rfl
  apply q_step
  · go_simp
  · intro wx hx
    have e0 := hx.cells c2 (by have := r2.lt; omega)
    have z0 := hx0 wx (hx.cells rfl hg1)
    have a0 := run_arrayAt (P := Try.prog) wx 28 5 16 (some ⟨g0, 0, none⟩) (m + 16) cp Try.underlying28 (by omega)
    have n0 : wx.cell? ⟨w.heap.size, 0, none⟩ = some (.int .i64 m) := by rw [cell_of_cells, e0]; exact hn
    go_simp
    exact rfl
  apply q_step
  · go_simp
  · intro wx hx
    have e0 := hx.cells c2 (by have := r2.lt; omega)
    have z0 := hx0 wx (hx.cells rfl hg1)
    have a0 := run_arrayAt (P := Try.prog) wx 28 5 16 (some ⟨g0, 0, none⟩) (m + 16) cp Try.underlying28 (by omega)
    have n0 : wx.cell? ⟨w.heap.size, 0, none⟩ = some (.int .i64 m) := by rw [cell_of_cells, e0]; exact hn
    go_simp
    exact rfl
  apply q_step
  · go_simp
  · intro wx hx
    have e0 := hx.cells c2 (by have := r2.lt; omega)
    have z0 := hx0 wx (hx.cells rfl hg1)
    have a0 := run_arrayAt (P := Try.prog) wx 28 5 16 (some ⟨g0, 0, none⟩) (m + 16) cp Try.underlying28 (by omega)
    have n0 : wx.cell? ⟨w.heap.size, 0, none⟩ = some (.int .i64 m) := by rw [cell_of_cells, e0]; exact hn
    go_simp
    exact rfl
  apply q_step
  · go_simp
  · intro wx hx
    have e0 := hx.cells c2 (by have := r2.lt; omega)
    have z0 := hx0 wx (hx.cells rfl hg1)
    have a0 := run_arrayAt (P := Try.prog) wx 28 5 16 (some ⟨g0, 0, none⟩) (m + 16) cp Try.underlying28 (by omega)
    have n0 : wx.cell? ⟨w.heap.size, 0, none⟩ = some (.int .i64 m) := by rw [cell_of_cells, e0]; exact hn
    go_simp
    exact rfl
  apply q_step
  · go_simp
  · intro wx hx
    have e0 := hx.cells c2 (by have := r2.lt; omega)
    have z0 := hx0 wx (hx.cells rfl hg1)
    have a0 := run_arrayAt (P := Try.prog) wx 28 5 16 (some ⟨g0, 0, none⟩) (m + 16) cp Try.underlying28 (by omega)
    have n0 : wx.cell? ⟨w.heap.size, 0, none⟩ = some (.int .i64 m) := by rw [cell_of_cells, e0]; exact hn
    go_simp
    go_at_call 89
    exact Calls.mono (C2.out wx) fun e w' h => ⟨h.1, hx.call h.2⟩
  refine wpQuiet_nil ?_
  intro w3 hx
  have r3 := hx.row r2
  have b3 : Below w.heap.size w w3 := b2.trans (Below.mono hx b2.size)
  clear c2 r2 b2 hx
  go_wp2
  obtain ⟨t, ht, _⟩ := r3.heap
  exact res_agg (p := 4) (g := w.heap.size + 1) aggP (av_size _) rfl rfl rfl (setRow_heap _ _ _ _ t (0, 0) ht) ⟨rfl, below_setRow b3 (by omega) _⟩
end Go.Proofs.Ytjhpkibeddnbfaa

namespace Go.Proofs.Ytjhpkibeddnbfaa
open Go.RowKit

/-- one byte more at the end of a list of bytes of the call's own -/
theorem appB {ops : Array Oper} {rest : List Oper} {o : Oper} {a : Act} {Q : Exit → Act → World → Prop} {w : World} {t : TypeId} (hgd : o.guard = none) (s x : Operand)
    (ho : o.op = .call { callee := .builtin .append, args := #[s, x], argTypes := #[113, 113] }) {B : Nat} {v : Value} {l : List Nat} (hs : a.eval s = v) (hown : OwnB B w v l) (hB : B ≤ w.heap.size)
    (y : Nat) (g : Nat) (hx : a.eval x = .slice (some ⟨g, 0, none⟩) 1 1) (hg : g = w.heap.size) (hl : l.length ≤ 1000000000)
    (h : ∀ v' w', OwnB B w' v' (l ++ [y]) → w.grownBy w' v.ownBlock → w.heap.size < w'.heap.size → wpList Try.prog ops Q rest (a.put o.dst v') w') :
    wpList Try.prog ops Q (o :: rest) a (w.alloc (.cells #[.int .u8 (y : Int)] t)) := by
  obtain ⟨i0, hi, hz0, hz1, hz2⟩ := info_parts infoU8
  unfold OwnB at hown
  refine wpList_append_own (P := Try.prog) _ hgd s x 113 ho B 5 i0 (.int .u8 0) 1 1 Try.underlying113 hi hz0 hz1 hz2 rfl (by decide) v l.length (bytesL l) hs (hown.alloc _) ⟨g, 0, none⟩ 1 1 [.int .u8 (y : Int)] hx rfl
    (one_new _ _ _ _ hg) (fun u hu => ?_) (by unfold maxLen; omega) (by omega) (by simp; omega) fun v' w' h1 h2 _ => h v' w' ?_ ?_ ?_
  · simp at hu; subst hu; rfl
  · unfold OwnB bytesL at *
    simpa using h1
  · exact grown_step (grown_alloc (grown_refl w v.ownBlock) _) h2 fun g hg => .inr hg
  · have := h2.size; simp at this; omega

theorem heap4 {w : World} {o o1 o2 o3 o4 : Obj} {g : Nat} (h : g = w.heap.size) : (((((w.alloc o).alloc o1).alloc o2).alloc o3).alloc o4).heap[g]? = some o := (heap_past _ _ _ (by simp; omega)).trans (heap3 h)
/-- what l02Naming has made -/
structure NW (w wr : World) (m : Nat) (f g : Nat → Nat) (o : Nat → Nat) (b : Nat → Bool) : Prop where
  low : Below w.heap.size w wr
  des : cellsOf wr w.heap.size = dv m f g
  res : rowOk wr (w.heap.size + 1) 16
  out : wr.heap[w.heap.size + 1 + 1 + 1]? = some (.cells (av o) 28 (0, 0))
  met : wr.heap[w.heap.size + 1 + 1 + 1 + 1]? = some (.cells (bv b) 79 (0, 0))
theorem NW.lt {w wr : World} {m : Nat} {f g o : Nat → Nat} {b : Nat → Bool} (h : NW w wr m f g o b) : w.heap.size + 1 + 1 + 1 + 1 < wr.heap.size := (Array.getElem?_eq_some_iff.1 h.met).1
theorem NW.grown {w wr w' : World} {m : Nat} {f g o : Nat → Nat} {b : Nat → Bool} {r : Option Nat} (h : NW w wr m f g o b) (hg : wr.grownBy w' r) (hr : ∀ k, r = some k → w.heap.size + 2 ≤ k ∧ k ≠ w.heap.size + 1 + 1 + 1 ∧ k ≠ w.heap.size + 1 + 1 + 1 + 1) : NW w w' m f g o b := by
  have hl := h.lt
  exact ⟨h.low.grown hg (by omega) (fun k hk => by have := hr k hk; omega), (grown_cells hg (by omega) (fun e => by have := hr _ e.symm; omega)).trans h.des, (grown_row hg (by omega) (fun e => by have := hr _ e.symm; omega)).2 h.res,
    (hg.block _ (by omega) (fun e => (hr _ e.symm).2.1 rfl)).trans h.out, (hg.block _ (by omega) (fun e => (hr _ e.symm).2.2 rfl)).trans h.met⟩
theorem NW.setB {w wr : World} {m : Nat} {f g o : Nat → Nat} {b : Nat → Bool} (h : NW w wr m f g o b) (y : Nat) : NW w (wr.setCell ⟨w.heap.size + 1 + 1 + 1 + 1, y, none⟩ (.bool true)) m f g o (mset b y) := by
  refine ⟨below_setCell h.low (by omega) _ _, (cellsOf_setCell_ne (by omega)).trans h.des, rowOk_setCell h.res, ?_, ?_⟩
  · rw [Below.heap_setCell wr ⟨w.heap.size + 1 + 1 + 1 + 1, y, none⟩ _ _ (show w.heap.size + 1 + 1 + 1 ≠ w.heap.size + 1 + 1 + 1 + 1 by omega)]; exact h.out
  · rw [heap_setCell_same _ _ _ _ _ _ h.met, bv_set]
theorem NW.setO {w wr : World} {m : Nat} {f g o : Nat → Nat} {b : Nat → Bool} (h : NW w wr m f g o b) (y v : Nat) : NW w (wr.setCell ⟨w.heap.size + 1 + 1 + 1, y, none⟩ (.int .u8 v)) m f g (fset o y v) b := by
  refine ⟨below_setCell h.low (by omega) _ _, (cellsOf_setCell_ne (by omega)).trans h.des, rowOk_setCell h.res, ?_, ?_⟩
  · rw [heap_setCell_same _ _ _ _ _ _ h.out, av_set]
  · rw [Below.heap_setCell wr ⟨w.heap.size + 1 + 1 + 1, y, none⟩ _ _ (show w.heap.size + 1 + 1 + 1 + 1 ≠ w.heap.size + 1 + 1 + 1 by omega)]; exact h.met
theorem NW.far {w wr : World} {m : Nat} {f g o : Nat → Nat} {b : Nat → Bool} (h : NW w wr m f g o b) {v : Value} {l : List Nat} (ho : OwnB (w.heap.size + 2) wr v l) : ∀ k, v.ownBlock = some k → w.heap.size + 2 ≤ k ∧ k ≠ w.heap.size + 1 + 1 + 1 ∧ k ≠ w.heap.size + 1 + 1 + 1 + 1 := by
  intro k hk
  refine ⟨(World.ownsRow.lt ho k hk).1, fun e => ?_, fun e => ?_⟩
  · rcases own_ne_blk ho h.out (by decide) with c | c
    · rw [c] at hk; cases hk
    · exact c (by rw [hk, e])
  · rcases own_ne_blk ho h.met (by decide) with c | c
    · rw [c] at hk; cases hk
    · exact c (by rw [hk, e])
theorem OwnB.setCell {B g i : Nat} {w : World} {v u : Value} {l : List Nat} (h : OwnB B w v l) (hne : ∀ k, v.ownBlock = some k → k ≠ g) : OwnB B (w.setCell ⟨g, i, none⟩ u) v l :=
  World.ownsRow.kept h (grown_setCell (grown_refl w (some g))) (by rcases hv : v.ownBlock with _ | k; exact .inl rfl; exact .inr fun e => hne k hv (by injection e))
theorem lstF_at {f g : Nat → Nat} {m x k : Nat} (hI : BInv m (bfs f g x k)) (hm : m ≤ 16) (hk : k < (bfs f g x k).1.length) : lstF (bfs f g x 16).1 k = (bfs f g x k).1[k] := by
  have h16 := hI.length_le
  obtain ⟨t, ht⟩ := bfs_pre' f g x (show k ≤ 16 by omega)
  unfold lstF
  rw [← ht, List.getD_eq_getElem?_getD, List.getElem?_append_left hk, List.getElem?_eq_getElem hk]; rfl

set_option maxRecDepth 100000 in
set_option maxHeartbeats 2000000 in
theorem sNaming_any (f g : Nat → Nat) (m : Nat) (hd : DesN f g m) (x : Nat) (hx : x < m) (w : World) :
    Calls Try.prog 79 #[.agg (dv m f g), .int .i64 x] w fun e w' => e = .returned (.agg (av (namF f g m x))) ∧ Below w.heap.size w w' := by
  have hm := hd.le
  have hn := dv_n m f g
  obtain ⟨F, L, FI, F0, FN, FS, FL, FM, FE⟩ : ∃ (F : Nat → List Nat × (Nat → Bool)) (L : Nat → Nat), Hid (∀ k, BInv m (F k)) ∧ Hid (F 0 = ([x], mset (fun _ => false) x)) ∧ Hid (∀ k (hk : k < (F k).1.length), F (k + 1) = bst f g (F k) ((F k).1[k]) 2) ∧
      Hid (∀ k, k ≤ 16 → (F k).1.length ≤ k → F 16 = F k) ∧ Hid (∀ k (hk : k < (F k).1.length), L k = (F k).1[k]) ∧ Hid ((F 16).1.length = m) ∧ Hid (namF f g m x = backTo L m) :=
    ⟨bfs f g x, lstF (bfs f g x 16).1, hide fun k => bfs_inv hd.bf.1 hd.bg.1 hx k, hide (bfs_start f g x), hide fun k hk => bfs_next hk, hide fun k h1 h2 => bfs_stop h2 h1, hide fun k hk => lstF_at (bfs_inv hd.bf.1 hd.bg.1 hx k) hm hk, hide (bfs_full hd.bf hd.bg hd.le hd.conn hx), hide rfl⟩
  rw [FE.out]
  clear FE
  have HF := hide hd.bf.1
  have HG := hide hd.bg.1
  clear hd
  have hx16 : x < 16 := by omega
  have h0 := bv_set (fun _ => false) x
  rw [bv_false] at h0
  have hlit : bv (mset (fun _ => false) x) = bv (mset (fun _ => false) x) := rfl
  have hlit : bv (mset (fun _ => false) x) = bv (mset (fun _ => false) x) := rfl
  have hlit : bv (mset (fun _ => false) x) = bv (mset (fun _ => false) x) := rfl
  go_enter Try.func79, Try.ntmps79
  go_wp2
  rw [← av_zero]
  go_loopw [7, 8] (fun q i wr => ∃ k : Nat, k ≤ (F k).1.length ∧ i = .int .i64 k ∧ NW w wr m f g (backTo L k) (F k).2 ∧ OwnB (w.heap.size + 2) wr q (F k).1) (fun _ i _ => 17 - (intOf i).toNat)
  case atStart =>
    refine ⟨0, by omega, rfl, ⟨below5 _ _ _ _ _ _, cellsOf_heap (heap4 rfl), ⟨_, _, heap3 (by simp), av_size _⟩, heap1 (by simp), ?_⟩, ?_⟩
    · rw [F0.out]; exact heap_at _ _ _ (by simp)
    · rw [F0.out]
      exact ⟨by simp [bytesL], .inr ⟨w.heap.size + 1 + 1, 1, _, rfl, by omega, heap2 (by simp), by simp, by unfold maxLen; omega, by simp, by simp [bytesL]⟩⟩
  case round =>
    clear hlit h0
    obtain ⟨k, hk, rfl, hN, hO⟩ := hrel
    have hI := FI.out k
    have hl16 : (F k).1.length ≤ 16 := by have := hI.length_le; omega
    by_cases hlt : k < (F k).1.length
    · have hnext := FN.out k hlt
      have hX := hI.lt _ (List.getElem_mem hlt)
      have hLX := FL.out k hlt
      obtain ⟨g0, c, rfl, hB0, hg0, hc1, hc2, hcell⟩ := hO.at hlt
      have hk16 : k < 16 := by omega
      generalize hS : F k = S at *
      generalize S.1[k] = X at *
      have hX16 : X < 16 := by omega
      have hfX := HF.out X hX
      have hgX := HG.out X hX
      have c3 : wr.cell? ⟨w.heap.size + 1 + 1 + 1, X, none⟩ = some (.int .u8 (backTo L k X)) := by rw [cell_of_cells, cellsOf_heap hN.out, av_get _ hX16]
      have f3 : wr.frozen? ⟨w.heap.size + 1 + 1 + 1, X, none⟩ = false := by simp [World.frozen?, hN.out]
      have hN1 := hN.setO X k
      have hb1 : fset (backTo L k) X k = backTo L (k + 1) := by rw [← hLX]; rfl
      rw [hb1] at hN1
      have hO1 : OwnB (w.heap.size + 2) (wr.setCell ⟨w.heap.size + 1 + 1 + 1, X, none⟩ (.int .u8 k)) (.slice (some ⟨g0, 0, none⟩) S.1.length c) S.1 := OwnB.setCell hO fun q hq => (hN.far hO q hq).2.1
      have HS := hide hS; clear hS
      have HN := hide hnext; clear hnext
      have HIV := hide hI; clear hI
      have HN1 := hide hN1; clear hN1 hN hb1
      have HO1 := hide hO1; clear hO1 hO
      have HL := hide hLX; clear hLX
      generalize hb : backTo L k X = y0 at *
      clear hb
      go_wp2
      clear c3 f3 hcell
      have hN2 := HN1.out
      have hO2 := HO1.out
      clear HN1 HO1 hg0 hc1 hc2
      generalize wr.setCell ⟨w.heap.size + 1 + 1 + 1, X, none⟩ (.int .u8 k) = wz at *
      go_loopw [7, 10] (fun q j wr => ∃ jj : Nat, jj ≤ 2 ∧ j = .int .i64 jj ∧ NW w wr m f g (backTo L (k + 1)) (bst f g S X jj).2 ∧ OwnB (w.heap.size + 2) wr q (bst f g S X jj).1) (fun _ j _ => 2 - (intOf j).toNat)
      case atStart => exact ⟨0, by omega, rfl, hN2, hO2⟩
      case round =>
        clear hN2 hO2
        obtain ⟨j, hj, rfl, hN, hO⟩ := hrel
        by_cases hj2 : j < 2
        · have hjj : j = 0 ∨ j = 1 := by omega
          rcases hjj with hj0 | hj1
          · obtain rfl := hj0
            have hst : bst f g S X 1 = badd (bst f g S X 0) (f X) := rfl
            have hIT := bst_inv HIV.out hfX hgX 0
            have hTl : (bst f g S X 0).1.length ≤ 16 := by have := hIT.length_le; omega
            generalize bst f g S X 0 = T at *
            have cb : wr.cell? ⟨w.heap.size, 1 + X, none⟩ = some (.int .u8 (f X)) := by rw [cell_of_cells, hN.des, dv_b _ _ _ hX16]
            have cw : wr.cell? ⟨w.heap.size, 17 + X, none⟩ = some (.int .u8 (g X)) := by rw [cell_of_cells, hN.des, dv_w _ _ _ hX16]
            have hY16 : f X < 16 := by omega
            have hcm : cellsOf wr (w.heap.size + 1 + 1 + 1 + 1) = bv T.2 := cellsOf_heap hN.met
            have hsz := hN.lt
            have HST := hide hst; clear hst
            have HNW := hide hN
            have HO := hide hO; clear hO
            rcases hTY : T.2 (f X) with _ | _
            · have c0 : wr.cell? ⟨w.heap.size + 1 + 1 + 1 + 1, f X, none⟩ = some (.bool false) := by rw [cell_of_cells, hcm, bv_get _ hY16, hTY]
              have f0 : wr.frozen? ⟨w.heap.size + 1 + 1 + 1 + 1, f X, none⟩ = false := by simp [World.frozen?, hN.met]
              have hN2 := hN.setB (f X)
              have hO2 : OwnB (w.heap.size + 2) (wr.setCell ⟨w.heap.size + 1 + 1 + 1 + 1, f X, none⟩ (.bool true)) u7 T.1 := OwnB.setCell HO.out fun q hq => (hN.far HO.out q hq).2.2
              have HTY := hide hTY; clear hTY hcm hN
              have HN2 := hide hN2; clear hN2
              have HO2 := hide hO2; clear hO2
              go_wp2_with (at_builtin; refine appB rfl _ _ rfl rfl HO2.out (by simp; omega) (f X) _ rfl (by simp) (by omega) fun v' w1 ho' hg' hs' => ?_)
              have hN3 := HN2.out.grown hg' (HN2.out.far HO2.out)
              have H1 := hide hN3; clear hN3
              have H2 := hide ho'; clear ho' hg' c0 f0 cb cw
              go_wp2
              go_roundw
              case rel => exact ⟨1, by omega, by go_num, by rw [HST.out, badd_new HTY.out]; exact H1.out, by rw [HST.out, badd_new HTY.out]; exact H2.out⟩
              case measure => simp [intOf]
            · have c0 : wr.cell? ⟨w.heap.size + 1 + 1 + 1 + 1, f X, none⟩ = some (.bool true) := by rw [cell_of_cells, hcm, bv_get _ hY16, hTY]
              have HTY := hide hTY; clear hTY hcm hN
              go_wp2
              go_roundw
              case rel => exact ⟨1, by omega, by go_num, by rw [HST.out, badd_old HTY.out]; exact HNW.out, by rw [HST.out, badd_old HTY.out]; exact HO.out⟩
              case measure => simp [intOf]
          · obtain rfl := hj1
            have hst : bst f g S X 2 = badd (bst f g S X 1) (g X) := rfl
            have hIT := bst_inv HIV.out hfX hgX 1
            have hTl : (bst f g S X 1).1.length ≤ 16 := by have := hIT.length_le; omega
            generalize bst f g S X 1 = T at *
            have cb : wr.cell? ⟨w.heap.size, 1 + X, none⟩ = some (.int .u8 (f X)) := by rw [cell_of_cells, hN.des, dv_b _ _ _ hX16]
            have cw : wr.cell? ⟨w.heap.size, 17 + X, none⟩ = some (.int .u8 (g X)) := by rw [cell_of_cells, hN.des, dv_w _ _ _ hX16]
            have hY16 : g X < 16 := by omega
            have hcm : cellsOf wr (w.heap.size + 1 + 1 + 1 + 1) = bv T.2 := cellsOf_heap hN.met
            have hsz := hN.lt
            have HST := hide hst; clear hst
            have HNW := hide hN
            have HO := hide hO; clear hO
            rcases hTY : T.2 (g X) with _ | _
            · have c0 : wr.cell? ⟨w.heap.size + 1 + 1 + 1 + 1, g X, none⟩ = some (.bool false) := by rw [cell_of_cells, hcm, bv_get _ hY16, hTY]
              have f0 : wr.frozen? ⟨w.heap.size + 1 + 1 + 1 + 1, g X, none⟩ = false := by simp [World.frozen?, hN.met]
              have hN2 := hN.setB (g X)
              have hO2 : OwnB (w.heap.size + 2) (wr.setCell ⟨w.heap.size + 1 + 1 + 1 + 1, g X, none⟩ (.bool true)) u7 T.1 := OwnB.setCell HO.out fun q hq => (hN.far HO.out q hq).2.2
              have HTY := hide hTY; clear hTY hcm hN
              have HN2 := hide hN2; clear hN2
              have HO2 := hide hO2; clear hO2
              go_wp2_with (at_builtin; refine appB rfl _ _ rfl rfl HO2.out (by simp; omega) (g X) _ rfl (by simp) (by omega) fun v' w1 ho' hg' hs' => ?_)
              have hN3 := HN2.out.grown hg' (HN2.out.far HO2.out)
              have H1 := hide hN3; clear hN3
              have H2 := hide ho'; clear ho' hg' c0 f0 cb cw
              go_wp2
              go_roundw
              case rel => exact ⟨2, by omega, by go_num, by rw [HST.out, badd_new HTY.out]; exact H1.out, by rw [HST.out, badd_new HTY.out]; exact H2.out⟩
              case measure => simp [intOf]
            · have c0 : wr.cell? ⟨w.heap.size + 1 + 1 + 1 + 1, g X, none⟩ = some (.bool true) := by rw [cell_of_cells, hcm, bv_get _ hY16, hTY]
              have HTY := hide hTY; clear hTY hcm hN
              go_wp2
              go_roundw
              case rel => exact ⟨2, by omega, by go_num, by rw [HST.out, badd_old HTY.out]; exact HNW.out, by rw [HST.out, badd_old HTY.out]; exact HO.out⟩
              case measure => simp [intOf]
        · obtain rfl : j = 2 := by omega
          have HNW := hide hN; clear hN
          have HO := hide hO; clear hO
          have hlen : k + 1 ≤ (F (k + 1)).1.length := by
            rw [HN.out]
            have := (bst_pre f g S X 2).length_le
            omega
          go_wp2
          go_roundw
          case rel => exact ⟨k + 1, hlen, by go_num, by rw [HN.out]; exact HNW.out, by rw [HN.out]; exact HO.out⟩
          case measure => simp [intOf]; omega
    · obtain ⟨A, c, rfl⟩ := ownB_form hO
      have hst := FS.out k (by omega) (by omega)
      have hkm : k = m := by rw [← FM.out, hst]; omega
      have hb1 := hN.low
      have hr1 := hN.res
      have hc1 : cellsOf wr (w.heap.size + 1 + 1 + 1) = av (backTo L k) := cellsOf_heap hN.out
      have HK := hide hkm; clear hkm
      have HST := hide hst; clear hst
      clear hN hO hI
      have hkl : (F k).1.length = k := by omega
      rw [hkl]
      clear hkl hlt hk hl16
      go_wp2
      obtain ⟨t, ht, _⟩ := hr1.heap
      exact res_agg (p := 4) (g := w.heap.size + 1) aggP (av_size _) rfl rfl rfl (setRow_heap _ _ _ _ t (0, 0) ht) ⟨by rw [HK.out], below_setRow hb1 (by omega) _⟩
end Go.Proofs.Ytjhpkibeddnbfaa

namespace Go.Proofs.Ytjhpkibeddnbfaa
open Go.RowKit

set_option maxHeartbeats 400000 in
theorem toPlaces_any (f : Nat → Nat) (w : World) : Calls Try.prog 46 #[.agg (av f)] w fun e w' => e = .returned (.agg (av f)) ∧ Below w.heap.size w w' := by
  go_enter Try.func46, Try.ntmps46
  go_wp2
  rw [← av_zero]
  go_loopw [4] (fun i wr => ∃ k : Nat, k ≤ 16 ∧ i = .int .i64 k ∧ wr = ((w.alloc (.cells (av f) 22)).alloc (.cells (av fun _ => 0) 28)).alloc (.cells (av (upto f k)) 28)) (fun i _ => 16 - (intOf i).toNat)
  case atStart => exact ⟨0, by omega, rfl, by rw [upto_zero]⟩
  case round =>
    obtain ⟨k, hk, rfl, rfl⟩ := hrel
    by_cases hlt : k < 16
    · have h1 := av_get f hlt
      have h2 := av_get (upto f k) hlt
      have h3 := av_set (upto f k) k (f k)
      rw [upto_step] at h3
      go_wp2
      go_roundw
      case rel => exact ⟨k + 1, by omega, by go_num, rfl⟩
      case measure => simp [intOf]; omega
    · obtain rfl : k = 16 := by omega
      clear hlt hk
      rw [av_congr (f := upto f 16) (g := f) (fun i h => by simp [upto, h])]
      go_wp2_with (first
        | (refine ld0 aggP (av_size _) rfl _ rfl _ rfl (by simp) ?_)
        | (refine st1 aggP (av_size f) (av_size _) (av_cells f) rfl _ _ rfl (w.heap.size + 1) rfl rfl (by simp) ?_))
      exact res_agg (p := 2) (g := w.heap.size + 1) aggP (av_size f) rfl rfl rfl (heap1 (by simp)) ⟨rfl, below3 _ _ _ _⟩

end Go.Proofs.Ytjhpkibeddnbfaa

namespace Go.Proofs.Ytjhpkibeddnbfaa
open Go.RowKit
set_option maxHeartbeats 400000 in
theorem eqPlaces_same (f : Nat → Nat) (w : World) : Calls Try.prog 49 #[.agg (av f), .agg (av f)] w fun e w' => e = .returned (.bool true) ∧ Below w.heap.size w w' := by
  go_enter Try.func49, Try.ntmps49
  go_wp2
  go_loopw [5] (fun i wr => ∃ k : Nat, k ≤ 16 ∧ i = .int .i64 k ∧ Below w.heap.size w wr ∧ cellsOf wr w.heap.size = av f ∧ cellsOf wr (w.heap.size + 1) = av f) (fun i _ => 16 - (intOf i).toNat)
  case atStart => exact ⟨0, by omega, rfl, below2 _ _ _, cellsOf_heap (heap1 rfl), cellsOf_heap (heap_at _ _ _ (by simp))⟩
  case round =>
    obtain ⟨k, hk, rfl, hb, h0, h1⟩ := hrel
    by_cases hlt : k < 16
    · have c0 : wr.cell? ⟨w.heap.size, k, none⟩ = some (.int .u8 (f k)) := by rw [cell_of_cells, h0, av_get f hlt]
      have c1 : wr.cell? ⟨w.heap.size + 1, k, none⟩ = some (.int .u8 (f k)) := by rw [cell_of_cells, h1, av_get f hlt]
      have H0 := hide h0; clear h0
      have H1 := hide h1; clear h1
      go_wp2
      go_region
      all_goals go_wp2
      all_goals go_roundw
      case rel => exact ⟨k + 1, by omega, by go_num, hb.drew, H0.out, H1.out⟩
      case measure => simp [intOf]; omega
    · obtain rfl : k = 16 := by omega
      clear hlt hk h0 h1
      go_wp2
      go_ret
      exact ⟨rfl, hb⟩
end Go.Proofs.Ytjhpkibeddnbfaa
