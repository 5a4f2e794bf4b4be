/- A list of lists stands while a row apart from it is turned. -/
import Derived.Test.YtpkfjdaedaplfaaMkZ
import Derived.Test.YtpkfjdaedaplfaaHS3
namespace Go.Proofs.Ytpkfjdaedaplfaa
open Go.RowKit

theorem Own2v.keep {B : Nat} {w w' : World} {v : Value} {vs : List Value} {ls : List (List Nat)} {r : Option Nat} (h : Own2v B w v vs ls) (hg : w.grownBy w' r) (h1 : ∀ k, r = some k → v.ownBlock ≠ some k) (h2 : ∀ k, r = some k → ∀ (i : Nat) (u : Value), vs[i]? = some u → u.ownBlock ≠ some k) : Own2v B w' v vs ls := by
  have key : ∀ u : Value, (∀ k, r = some k → u.ownBlock ≠ some k) → u.ownBlock = none ∨ u.ownBlock ≠ r := fun u hu => by
    rcases hb : u.ownBlock with _ | g
    · exact .inl rfl
    · exact .inr fun e => hu g e.symm hb
  exact ⟨h.len, h.row.kept hg (key v h1), fun i u l a b => World.ownsRow.kept (h.each i u l a b) hg (key u fun k hk => h2 k hk i u a), h.dist⟩
theorem Own2v.ge {B : Nat} {w : World} {v : Value} {vs : List Value} {ls : List (List Nat)} (h : Own2v B w v vs ls) : (∀ k, v.ownBlock = some k → B ≤ k) ∧ ∀ (i : Nat) (u : Value), vs[i]? = some u → ∀ k, u.ownBlock = some k → B ≤ k := by
  refine ⟨fun k hk => (h.row.lt k hk).1, fun i u hu k hk => ?_⟩
  have hi : i < ls.length := by rw [← h.len]; exact (List.getElem?_eq_some_iff.1 hu).1
  exact (World.ownsRow.lt (h.each i u _ hu (List.getElem?_eq_getElem hi)) k hk).1
end Go.Proofs.Ytpkfjdaedaplfaa
