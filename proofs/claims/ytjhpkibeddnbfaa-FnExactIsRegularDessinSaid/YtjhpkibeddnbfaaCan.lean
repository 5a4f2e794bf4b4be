/- canonical dessins of the program and of the model -/
import Derived.Test.YtjhpkibeddnbfaaBef
import Derived.Test.YtjhpkibeddnbfaaSNam
import Derived.Test.YtjhpkibeddnbfaaToDs
import Derived.Test.YtjhpkibeddnbfaaEqDs
namespace Go.Proofs.Ytjhpkibeddnbfaa
open Go.RowKit

theorem lstF_perm {f g : Nat → Nat} {m x : Nat} (hd : DesN f g m) (hx : x < m) : PermN (lstF (bfs f g x 16).1) m := by
  have hI := bfs_inv hd.bf.1 hd.bg.1 hx 16
  have hlen : (bfs f g x 16).1.length = m := bfs_full hd.bf hd.bg hd.le hd.conn hx
  have hl := hI.lt
  have hn := hI.nodup
  generalize (bfs f g x 16).1 = l at *
  have at' : ∀ i (h : i < m), lstF l i = l[i] := fun i h => by unfold lstF; rw [List.getD_eq_getElem?_getD, List.getElem?_eq_getElem (by omega)]; rfl
  refine ⟨hd.pos, hd.le, ⟨fun i hi => ?_, fun i j hi hj e => ?_⟩, fun i hi _ => ?_⟩
  · rw [at' i hi]; exact hl _ (List.getElem_mem _)
  · rw [at' i hi, at' j hj] at e
    exact (List.getElem_inj hn).1 e
  · unfold lstF; rw [List.getD_eq_getElem?_getD, List.getElem?_eq_none (by omega)]; rfl
theorem namF_perm {f g : Nat → Nat} {m x : Nat} (hd : DesN f g m) (hx : x < m) : PermN (namF f g m x) m := backF_perm (lstF_perm hd hx)
/-- the form from x -/
def forB (f g : Nat → Nat) (m x : Nat) : Nat → Nat := renF (namF f g m x) f m
def forW (f g : Nat → Nat) (m x : Nat) : Nat → Nat := renF (namF f g m x) g m
theorem forB_perm {f g : Nat → Nat} {m x : Nat} (hd : DesN f g m) (hx : x < m) : PermN (forB f g m x) m := renF_perm (namF_perm hd hx) hd.black
theorem forW_perm {f g : Nat → Nat} {m x : Nat} (hd : DesN f g m) (hx : x < m) : PermN (forW f g m x) m := renF_perm (namF_perm hd hx) hd.white
/-- the least one of the forms from 0 to k -/
noncomputable def canS (f g : Nat → Nat) (m : Nat) : Nat → (Nat → Nat) × (Nat → Nat)
  | 0 => (forB f g m 0, forW f g m 0)
  | k + 1 => if befB (forB f g m (k + 1)) (forW f g m (k + 1)) (canS f g m k).1 (canS f g m k).2 = true then (forB f g m (k + 1), forW f g m (k + 1)) else canS f g m k
theorem canS_perm {f g : Nat → Nat} {m : Nat} (hd : DesN f g m) : ∀ k, k < m → PermN (canS f g m k).1 m ∧ PermN (canS f g m k).2 m := by
  intro k
  induction k with
  | zero => intro h; exact ⟨forB_perm hd h, forW_perm hd h⟩
  | succ k ih =>
    intro h
    rw [canS]
    split
    · exact ⟨forB_perm hd h, forW_perm hd h⟩
    · exact ih (by omega)
theorem befB_self (f g : Nat → Nat) : befB f g f g = false := by
  unfold befB
  rw [if_pos ((sameB_iff f f).2 fun _ _ => rfl)]
  exact ltB_eq fun _ _ => rfl
theorem canS_step (f g : Nat → Nat) (m k : Nat) : canS f g m k = if befB (forB f g m k) (forW f g m k) (canS f g m (k - 1)).1 (canS f g m (k - 1)).2 = true then (forB f g m k, forW f g m k) else canS f g m (k - 1) := by
  rcases k with _ | k
  · show canS f g m 0 = if befB (forB f g m 0) (forW f g m 0) (forB f g m 0) (forW f g m 0) = true then _ else canS f g m 0
    rw [befB_self, if_neg (by simp)]
  · rfl

-- left out here: loop.example/g01200/impl.canonical loop.example/g01200/impl.compareDessins
-- left out here: loop.example/g01200/spec.l02Before loop.example/g01200/spec.l02Canonical
noncomputable def canR (n : Int) (f g : Nat → Nat) : Value := if desB n f g = true then .tuple #[.agg (dv n (canS f g n.toNat (n.toNat - 1)).1 (canS f g n.toNat (n.toNat - 1)).2), .int .i64 0] else .tuple #[.agg (dv 0 (fun _ => 0) (fun _ => 0)), .int .i64 1]
theorem canR_eq (n : Int) (f g : Nat → Nat) : ∃ (a : Int) (r s : Nat → Nat) (c : Int), canR n f g = .tuple #[.agg (dv a r s), .int .i64 c] := by
  unfold canR; split
  · exact ⟨_, _, _, _, rfl⟩
  · exact ⟨_, _, _, _, rfl⟩

-- left out here: loop.example/g01200/impl.CanonicalDessin
-- left out here: loop.example/g01200/spec.CanonicalDessin
-- left out here: loop.example/g01200/laws.FnExactCanonicalDessin
end Go.Proofs.Ytjhpkibeddnbfaa
