/- A scope with two labels: what holds at every jump to each, and a measure that every pass lowers. -/
import Derived.Test.YteeideminlcblaaBase
import Derived.ScopeJumps
namespace Go.Proofs.Yteeideminlcblaa
open Go

/-- As Q; by a goto to a label: what holds there, the measure below m. -/
def jmp2 (l1 l2 : Nat) (J1 J2 : Act → World → Prop) (μ1 μ2 : Act → World → Nat) (m : Nat) (Q : Exit → Act → World → Prop) : Exit → Act → World → Prop
  | .goto l, a, w => (l = l1 ∧ J1 a w ∧ μ1 a w < m) ∨ (l = l2 ∧ J2 a w ∧ μ2 a w < m)
  | e, a, w => Q e a w
section
variable {P : Program} {a : Act} {w : World} {Q : Exit → Act → World → Prop} {l1 l2 : Nat} {J1 J2 : Act → World → Prop} {μ1 μ2 : Act → World → Nat}
theorem jmp2_le {m m' : Nat} (h : m ≤ m') : ∀ e a w, jmp2 l1 l2 J1 J2 μ1 μ2 m Q e a w → jmp2 l1 l2 J1 J2 μ1 μ2 m' Q e a w := by
  intro e a w hq
  cases e with
  | goto l => rcases hq with ⟨h1, h2, h3⟩ | ⟨h1, h2, h3⟩
              · exact .inl ⟨h1, h2, by omega⟩
              · exact .inr ⟨h1, h2, by omega⟩
  | _ => exact hq
theorem wp_scope_two {c r1 r2 : Code} (l1 l2 : Nat) (J1 J2 : Act → World → Prop) (μ1 μ2 : Act → World → Nat) (hf1 : findLabel c l1 = some (.seq .skip r1)) (hf2 : findLabel c l2 = some (.seq .skip r2)) (M : Nat)
    (first : (∀ a w, J1 a w → μ1 a w < M → r1.wp P (jmp2 l1 l2 J1 J2 μ1 μ2 M Q) a w) → c.wp P (jmp2 l1 l2 J1 J2 μ1 μ2 M Q) a w)
    (pass1 : (∀ a w m, J2 a w → μ2 a w < m → r2.wp P (jmp2 l1 l2 J1 J2 μ1 μ2 m Q) a w) → ∀ a w, J1 a w → r1.wp P (jmp2 l1 l2 J1 J2 μ1 μ2 (μ1 a w) Q) a w)
    (pass2 : ∀ a w, J2 a w → r2.wp P (jmp2 l1 l2 J1 J2 μ1 μ2 (μ2 a w) Q) a w) : (Code.scope c).wp P Q a w := by
  have p2 : ∀ a w m, J2 a w → μ2 a w < m → r2.wp P (jmp2 l1 l2 J1 J2 μ1 μ2 m Q) a w := fun a w m hJ hm => wp_mono (pass2 a w hJ) (jmp2_le (by omega))
  have p1 : ∀ a w m, J1 a w → μ1 a w < m → r1.wp P (jmp2 l1 l2 J1 J2 μ1 μ2 m Q) a w := fun a w m hJ hm => wp_mono (pass1 p2 a w hJ) (jmp2_le (by omega))
  have first' := first fun a w hJ hm => p1 a w M hJ hm
  clear first
  intro b k cs
  have hg1 : gotoIn l1 (.inScope c :: k) = some (.code (.seq .skip r1) :: .inScope c :: k) := by simp [gotoIn, hf1]
  have hg2 : gotoIn l2 (.inScope c :: k) = some (.code (.seq .skip r2) :: .inScope c :: k) := by simp [gotoIn, hf2]
  have key : ∀ n a w r, ((r = r1 ∧ J1 a w ∧ μ1 a w = n) ∨ (r = r2 ∧ J2 a w ∧ μ2 a w = n)) → ∃ e a' w', Q e a' w' ∧ Arrives P (lone (b.at a (.code (.seq .skip r) :: .inScope c :: k)) cs w) b k cs e a' w' := by
    intro n
    induction n using Nat.strongRecOn with
    | _ n ih =>
      intro a w r hr
      have hwp : (Code.seq .skip r).wp P (jmp2 l1 l2 J1 J2 μ1 μ2 n Q) a w := by
        refine wp_seq (wp_skip ?_)
        show r.wp P _ a w
        rcases hr with ⟨rfl, hJ, rfl⟩ | ⟨rfl, hJ, rfl⟩
        · exact pass1 p2 a w hJ
        · exact pass2 a w hJ
      obtain ⟨e, a₁, w₁, hq, harr⟩ := hwp b (.inScope c :: k) cs
      cases e with
      | normal => exact ⟨.normal, a₁, w₁, hq, Steps.trans harr (.one step_inScope)⟩
      | exit id => exact ⟨.exit id, a₁, w₁, hq, fun k' hk => harr k' (by simp [exitTo, hk])⟩
      | goto l' =>
        rcases hq with ⟨rfl, hJ', hlt⟩ | ⟨rfl, hJ', hlt⟩
        · obtain ⟨e₂, a₂, w₂, hq₂, harr₂⟩ := ih _ hlt a₁ w₁ r1 (.inl ⟨rfl, hJ', rfl⟩)
          exact ⟨e₂, a₂, w₂, hq₂, .of_steps (harr _ hg1) harr₂⟩
        · obtain ⟨e₂, a₂, w₂, hq₂, harr₂⟩ := ih _ hlt a₁ w₁ r2 (.inr ⟨rfl, hJ', rfl⟩)
          exact ⟨e₂, a₂, w₂, hq₂, .of_steps (harr _ hg2) harr₂⟩
      | ret => exact ⟨_, a₁, w₁, hq, harr⟩
      | panic ch => exact ⟨_, a₁, w₁, hq, harr⟩
      | outgrown => exact ⟨_, a₁, w₁, hq, harr⟩
  obtain ⟨e, a₁, w₁, hq, harr⟩ := first' b (.inScope c :: k) cs
  cases e with
  | normal => exact ⟨.normal, a₁, w₁, hq, .head step_scope (Steps.trans harr (.one step_inScope))⟩
  | exit id => exact ⟨.exit id, a₁, w₁, hq, fun k' hk => .head step_scope (harr k' (by simp [exitTo, hk]))⟩
  | goto l' =>
    rcases hq with ⟨rfl, hJ', hlt⟩ | ⟨rfl, hJ', hlt⟩
    · obtain ⟨e₂, a₂, w₂, hq₂, harr₂⟩ := key _ a₁ w₁ r1 (.inl ⟨rfl, hJ', rfl⟩)
      exact ⟨e₂, a₂, w₂, hq₂, .of_steps (.head step_scope (harr _ hg1)) harr₂⟩
    · obtain ⟨e₂, a₂, w₂, hq₂, harr₂⟩ := key _ a₁ w₁ r2 (.inr ⟨rfl, hJ', rfl⟩)
      exact ⟨e₂, a₂, w₂, hq₂, .of_steps (.head step_scope (harr _ hg2)) harr₂⟩
  | ret => exact ⟨_, a₁, w₁, hq, .of_steps (.one step_scope) harr⟩
  | panic ch => exact ⟨_, a₁, w₁, hq, .of_steps (.one step_scope) harr⟩
  | outgrown => exact ⟨_, a₁, w₁, hq, .of_steps (.one step_scope) harr⟩
end
end Go.Proofs.Yteeideminlcblaa
