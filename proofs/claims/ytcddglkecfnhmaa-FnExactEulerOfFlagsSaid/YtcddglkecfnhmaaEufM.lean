/- edges -/
import Derived.Test.YtcddglkecfnhmaaDegM
namespace Go.Proofs.Ytcddglkecfnhmaa
open Go.RowKit

theorem edges4 {n : Nat} {c t s : Nat → Nat} (h : flP n c t s) : ∀ x, x < n → (cls [c, s] x).length = 4 := by
  intro x hx
  obtain ⟨⟨h4, h32, hm⟩, pc, pt, ps, hcs, hall⟩ := h
  have hK : Keeps [c, s] n := keeps2 (fun x hx => pc.keeps hx) (fun x hx => ps.keeps hx)
  have hin : ∀ y, y ∈ cls [c, s] x ↔ y ∈ [x, c x, s x, s (c x)] := by
    intro y
    constructor
    · intro hy
      rw [cls_eq] at hy
      have := gb_all (ps := [c, s]) (P := fun y => y ∈ [x, c x, s x, s (c x)]) (m0 := noB) (z := x) (by simp) (fun j hj z hz => by
        have e2 := (hcs x hx).2
        have lc := pc.keeps hx
        have ls := ps.keeps hx
        have lsc := ps.keeps lc
        have c2 := (pc.1 x hx).2.2
        have s2 := (ps.1 x hx).2.2
        have c3 := (pc.1 _ ls).2.2
        have s3 := (ps.1 _ lc).2.2
        have hjj : j = 0 ∨ j = 1 := by simp at hj; omega
        simp only [List.mem_cons, List.not_mem_nil, or_false] at hz ⊢
        rcases hjj with rfl | rfl
        · show c z = x ∨ c z = c x ∨ c z = s x ∨ c z = s (c x)
          rcases hz with rfl | rfl | rfl | rfl
          · exact .inr (.inl rfl)
          · exact .inl c2
          · exact .inr (.inr (.inr e2.symm))
          · rw [e2, c3]; exact .inr (.inr (.inl rfl))
        · show s z = x ∨ s z = c x ∨ s z = s x ∨ s z = s (c x)
          rcases hz with rfl | rfl | rfl | rfl
          · exact .inr (.inr (.inl rfl))
          · exact .inr (.inr (.inr rfl))
          · exact .inl s2
          · exact .inr (.inl s3)) 32
      exact this y hy
    · intro hy
      have h0 := cls_self [c, s] x
      have g0 := gb_closed hK h32 hx h0
      have a1 : c x ∈ cls [c, s] x := g0 0 (by simp)
      have a2 : s x ∈ cls [c, s] x := g0 1 (by simp)
      have a3 : s (c x) ∈ cls [c, s] x := gb_closed hK h32 hx a1 1 (by simp)
      simp only [List.mem_cons, List.not_mem_nil, or_false] at hy
      rcases hy with rfl | rfl | rfl | rfl <;> assumption
  have hnd : [x, c x, s x, s (c x)].Nodup := by
    have n1 := (pc.1 x hx).2.1
    have n2 := (ps.1 x hx).2.1
    have n3 := (hcs x hx).1
    have n4 := (ps.1 _ (pc.keeps hx)).2.1
    have n5 : c x ≠ s x := fun e => n3 (by rw [e]; exact (ps.1 x hx).2.2)
    have n6 : s x ≠ s (c x) := fun e => by
      have := congrArg s e
      rw [(ps.1 x hx).2.2, (ps.1 _ (pc.keeps hx)).2.2] at this
      exact n1 this.symm
    simp only [List.nodup_cons, List.mem_cons, List.not_mem_nil, or_false, not_or, not_false_eq_true, List.nodup_nil, and_true]
    exact ⟨⟨n1.symm, n2.symm, n3.symm⟩, ⟨n5, n4.symm⟩, n6⟩
  have l1 := nodup_le _ _ (cls_nodup hK hx) fun y hy => (hin y).1 hy
  have l2 := nodup_le _ _ hnd fun y hy => (hin y).2 hy
  simp only [List.length_cons, List.length_nil] at l1 l2
  omega
theorem edges_count {n : Nat} {c t s : Nat → Nat} (h : flP n c t s) : (degL [c, s] n).length = n / 4 := by
  have h4 := edges4 h
  have hs := szL_sum h.k2.2.2.2.2 h.u2.2.2.2 h.1.2.1
  have hl : (degL [c, s] n).length = (szL [c, s] n).length := by unfold degL; rw [(sortD_perm _).length_eq, List.length_map]
  have key : ∀ k, k ≤ n → (szL [c, s] k).sum = 4 * (szL [c, s] k).length := by
    intro k
    induction k with
    | zero => intro _; rfl
    | succ k ih =>
      intro hk
      rcases e : hdB [c, s] k with _ | _
      · rw [szL_no e]; exact ih (by omega)
      · rw [szL_yes e, List.sum_append, List.length_append, ih (by omega), h4 k (by omega)]
        simp; omega
  have := key n (Nat.le_refl n)
  omega
noncomputable def eulF (n : Nat) (c t s : Nat → Nat) : Int := ((degL [t, s] n).length : Int) + ((degL [t, c] n).length : Int) - ((n / 4 : Nat) : Int)
theorem eul_eq (n : Nat) (c t s : Nat → Nat) : ((degL [t, s] n).length : Int) + ((degL [t, c] n).length : Int) - ((n / 4 : Nat) : Int) = eulF n c t s := rfl
theorem quo4 (n : Nat) : ∃ n4 : Nat, n4 = n / 4 ∧ Int.tdiv (n : Int) 4 = (n4 : Int) ∧ (n : Int) / 4 = (n4 : Int) := ⟨n / 4, rfl, rfl, by omega⟩
noncomputable def eufR (n : Int) (c t s : Nat → Nat) : Value := if flB n c t s = true then .tuple #[.int .i64 (eulF n.toNat c t s), .int .i64 0] else .tuple #[.int .i64 0, .int .i64 1]
theorem eufR_eq (n : Int) (c t s : Nat → Nat) : ∃ (a k : Int), eufR n c t s = .tuple #[.int .i64 a, .int .i64 k] := by
  unfold eufR; split
  · exact ⟨_, _, rfl⟩
  · exact ⟨_, _, rfl⟩
end Go.Proofs.Ytcddglkecfnhmaa
