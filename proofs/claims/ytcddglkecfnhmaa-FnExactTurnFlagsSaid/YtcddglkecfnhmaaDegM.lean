/- VertexDegrees, FaceDegrees, ZigzagDegrees, EulerOfFlags of both; the laws' walks -/
import Derived.Test.YtcddglkecfnhmaaDegS
import Derived.Test.YtcddglkecfnhmaaAreS
import Derived.Test.YtcddglkecfnhmaaToFl
import Derived.Test.YtcddglkecfnhmaaMk1
namespace Go.Proofs.Ytcddglkecfnhmaa
open Go.RowKit

noncomputable def degC (n : Int) (c t s : Nat → Nat) : Int := if flB n c t s = true then 0 else 1
noncomputable def verR (n : Int) (c t s : Nat → Nat) : List Nat := if flB n c t s = true then degL [t, s] n.toNat else []
noncomputable def facR (n : Int) (c t s : Nat → Nat) : List Nat := if flB n c t s = true then degL [t, c] n.toNat else []
noncomputable def zigR (n : Int) (c t s : Nat → Nat) : List Nat := if flB n c t s = true then degL [t, fun x => s (c x)] n.toNat else []
theorem verR_bound (n : Int) (c t s : Nat → Nat) : (verR n c t s).length ≤ 32 := by
  unfold verR
  split
  · rename_i h
    obtain ⟨m, rfl, hm⟩ := flB_true h
    rw [Int.toNat_natCast]
    exact Nat.le_trans (degL_len _ _) hm.1.2.1
  · simp
theorem facR_bound (n : Int) (c t s : Nat → Nat) : (facR n c t s).length ≤ 32 := by
  unfold facR
  split
  · rename_i h
    obtain ⟨m, rfl, hm⟩ := flB_true h
    rw [Int.toNat_natCast]
    exact Nat.le_trans (degL_len _ _) hm.1.2.1
  · simp
theorem zigR_bound (n : Int) (c t s : Nat → Nat) : (zigR n c t s).length ≤ 32 := by
  unfold zigR
  split
  · rename_i h
    obtain ⟨m, rfl, hm⟩ := flB_true h
    rw [Int.toNat_natCast]
    exact Nat.le_trans (degL_len _ _) hm.1.2.1
  · simp
theorem gst_congr {ps qs : List (Nat → Nat)} {n : Nat} (hl : ps.length = qs.length) (h : ∀ j, j < ps.length → ∀ x, x < n → ps.getD j id x = qs.getD j id x) (S : List Nat × (Nat → Bool)) {X : Nat} (hX : X < n) : ∀ j, j ≤ ps.length → gst ps S X j = gst qs S X j := by
  intro j
  induction j with
  | zero => intro _; rfl
  | succ j ih =>
    intro hj
    have e1 : gst ps S X (j + 1) = badd (gst ps S X j) (ps.getD j id X) := rfl
    have e2 : gst qs S X (j + 1) = badd (gst qs S X j) (qs.getD j id X) := rfl
    rw [e1, e2, ih (by omega), h j (by omega) X hX]
theorem gb_congr {ps qs : List (Nat → Nat)} {n : Nat} (hl : ps.length = qs.length) (h : ∀ j, j < ps.length → ∀ x, x < n → ps.getD j id x = qs.getD j id x) (hk : Keeps ps n) {z : Nat} (hz : z < n) (i : Nat) : gb ps noB z i = gb qs noB z i := by
  induction i with
  | zero => rfl
  | succ i ih =>
    rw [gb, gb, ← ih]
    rcases e : (gb ps noB z i).1[i]? with _ | x
    · rfl
    · have hx := (gb_inv hk hz i).lt x (List.mem_of_getElem? e)
      simp only
      rw [← hl]
      exact gst_congr hl h _ hx _ (Nat.le_refl _)
theorem degL_congr {ps qs : List (Nat → Nat)} {n : Nat} (hl : ps.length = qs.length) (h : ∀ j, j < ps.length → ∀ x, x < n → ps.getD j id x = qs.getD j id x) (hk : Keeps ps n) : degL ps n = degL qs n := by
  have hc : ∀ z, z < n → cls ps z = cls qs z := fun z hz => by rw [cls_eq, cls_eq, gb_congr hl h hk hz]
  have hs : ∀ k, k ≤ n → szL ps k = szL qs k := by
    intro k
    induction k with
    | zero => intro _; rfl
    | succ k ih =>
      intro hkn
      have hh : hdB ps k = hdB qs k := by unfold hdB; rw [hc k (by omega)]
      rcases e : hdB ps k with _ | _
      · rw [szL_no e, szL_no (hh ▸ e), ih (by omega)]
      · rw [szL_yes e, szL_yes (hh ▸ e), ih (by omega), hc k (by omega)]
  unfold degL
  rw [hs n (Nat.le_refl n)]
theorem flP.k2 {n : Nat} {c t s : Nat → Nat} (h : flP n c t s) : Keeps [t, s] n ∧ Keeps [t, c] n ∧ Keeps [t, fun x => s (c x)] n ∧ Keeps [t, bothF c s n] n ∧ Keeps [c, s] n :=
  ⟨keeps2 (fun x hx => h.2.2.1.keeps hx) (fun x hx => h.2.2.2.1.keeps hx), keeps2 (fun x hx => h.2.2.1.keeps hx) (fun x hx => h.2.1.keeps hx), keeps2 (fun x hx => h.2.2.1.keeps hx) (fun x hx => h.2.2.2.1.keeps (h.2.1.keeps hx)), keeps2 (fun x hx => h.2.2.1.keeps hx) (fun x hx => by rw [both_at hx]; exact h.2.2.2.1.keeps (h.2.1.keeps hx)), keeps2 (fun x hx => h.2.1.keeps hx) (fun x hx => h.2.2.2.1.keeps hx)⟩
theorem flP.u2 {n : Nat} {c t s : Nat → Nat} (h : flP n c t s) : Undo [t, s] n ∧ Undo [t, c] n ∧ Undo [t, bothF c s n] n ∧ Undo [c, s] n := by
  have ut := fun x hx => (h.2.2.1.1 x hx).2.2
  have us := fun x hx => (h.2.2.2.1.1 x hx).2.2
  have uc := fun x hx => (h.2.1.1 x hx).2.2
  refine ⟨undo2 ut us, undo2 ut uc, undo2 ut fun x hx => ?_, undo2 uc us⟩
  have l1 := h.2.1.keeps hx
  have l2 := h.2.2.2.1.keeps l1
  have l3 := h.2.2.2.1.keeps hx
  rw [both_at hx, both_at l2, (h.2.2.2.2.1 x hx).2, uc _ l3, us x hx]
theorem zig_eq {n : Nat} {c t s : Nat → Nat} (h : flP n c t s) : degL [t, fun x => s (c x)] n = degL [t, bothF c s n] n :=
  degL_congr rfl (fun j hj x hx => by
    have : j = 0 ∨ j = 1 := by simp at hj; omega
    rcases this with rfl | rfl
    · rfl
    · exact (both_at hx).symm) h.k2.2.2.1
theorem flP.l32 {n : Nat} {c t s : Nat → Nat} (h : flP n c t s) : (∀ i, i < 32 → c i < 32) ∧ (∀ i, i < 32 → t i < 32) ∧ ∀ i, i < 32 → s i < 32 :=
  ⟨fun i hi => h.2.1.lt32 h.1.2.1 i hi (by have := h.1.1; omega), fun i hi => h.2.2.1.lt32 h.1.2.1 i hi (by have := h.1.1; omega), fun i hi => h.2.2.2.1.lt32 h.1.2.1 i hi (by have := h.1.1; omega)⟩

end Go.Proofs.Ytcddglkecfnhmaa
