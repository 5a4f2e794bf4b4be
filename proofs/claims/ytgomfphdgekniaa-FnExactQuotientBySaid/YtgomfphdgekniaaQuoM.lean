/- QuotientBy: what the numbers of cycles tell of an automorphism -/
import Derived.Test.YtgomfphdgekniaaPrj
import Derived.Test.YtgomfphdgekniaaSameD
import Derived.Test.YtgomfphdgekniaaRen
namespace Go.Proofs.Ytgomfphdgekniaa
open Go.RowKit

theorem numA_at (c : List Nat) (i : Nat) (h : Nat → Nat) (x : Nat) : ∀ j, j ≤ c.length → numA c i j h x = if x ∈ c.take j then i else h x := by
  intro j
  induction j with
  | zero => intro _; simp [numA]
  | succ j ih =>
    intro hj
    have hg : c.getD j 0 = c[j] := by rw [List.getD_eq_getElem?_getD, List.getElem?_eq_getElem (by omega)]; rfl
    have hm : x ∈ c.take (j + 1) ↔ x ∈ c.take j ∨ x = c[j] := by rw [List.take_succ_eq_append_getElem (by omega), List.mem_append, List.mem_singleton]
    rw [numA, hg]
    unfold fset
    by_cases e : x = c[j]
    · rw [if_pos e, if_pos (hm.2 (.inr e))]
    · rw [if_neg e, ih (by omega)]
      by_cases d : x ∈ c.take j
      · rw [if_pos d, if_pos (hm.2 (.inl d))]
      · rw [if_neg d, if_neg fun h => (hm.1 h).elim d e]
theorem numT_at {cs : List (List Nat)} (hn : cs.flatten.Nodup) : ∀ K, K ≤ cs.length → ∀ i (hi : i < K) (hic : i < cs.length) x, x ∈ cs[i] → numT cs K x = i := by
  intro K
  induction K with
  | zero => intro _ i hi; omega
  | succ K ih =>
    intro hK i hi hic x hx
    have hg : cs.getD K [] = cs[K] := by rw [List.getD_eq_getElem?_getD, List.getElem?_eq_getElem (by omega)]; rfl
    rw [numT, hg, numA_at _ _ _ _ _ (Nat.le_refl _), List.take_length]
    rcases Nat.lt_or_ge i K with c | c
    · rw [if_neg, ih (by omega) i c hic x hx]
      intro hx2
      have h1 := (List.pairwise_flatten.1 hn).2
      have := List.pairwise_iff_getElem.1 h1 i K hic (by omega) c
      exact this x hx x hx2 rfl
    · obtain rfl : i = K := by omega
      rw [if_pos hx]
section
variable {p : Nat → Nat} {m : Nat}
theorem cycs_nodup (hp : PermN p m) : (cycs p m).flatten.Nodup := (cycs_flat hp.2.2.1 hp.2.1).symm.nodup (List.nodup_range)
theorem which_at (hp : PermN p m) {i : Nat} (hi : i < (cycs p m).length) {x : Nat} (hx : x ∈ (cycs p m)[i]) : whichF p m x = i :=
  numT_at (cycs_nodup hp) _ (Nat.le_refl _) i hi hi x hx
theorem which_mem (hp : PermN p m) {x : Nat} (hx : x < m) : ∃ (i : Nat) (hi : i < (cycs p m).length), x ∈ (cycs p m)[i] ∧ whichF p m x = i := by
  have h1 : x ∈ (cycs p m).flatten := (cycs_flat hp.2.2.1 hp.2.1).symm.subset (List.mem_range.2 hx)
  obtain ⟨c, hc, hxc⟩ := List.mem_flatten.1 h1
  obtain ⟨i, hi, rfl⟩ := List.getElem_of_mem hc
  exact ⟨i, hi, hxc, which_at hp hi hxc⟩
theorem which_lt (hp : PermN p m) {x : Nat} (hx : x < m) : whichF p m x < (cycs p m).length := by
  obtain ⟨i, hi, _, e⟩ := which_mem hp hx
  omega
theorem it_comm {f : Nat → Nat} (hb : Bij p m) (hc : ∀ x, x < m → f (p x) = p (f x)) (k : Nat) {x : Nat} (hx : x < m) : f (it p k x) = it p k (f x) := by
  induction k with
  | zero => rfl
  | succ k ih =>
    show f (p (it p k x)) = p (it p k (f x))
    rw [hc _ (hb.it_lt k hx), ih]
theorem which_same (hp : PermN p m) {f : Nat → Nat} (hf : ∀ x, x < m → f x < m) (hc : ∀ x, x < m → f (p x) = p (f x)) {x y : Nat} (hx : x < m) (hy : y < m) (e : whichF p m x = whichF p m y) : whichF p m (f x) = whichF p m (f y) := by
  have hb := hp.2.2.1
  obtain ⟨i, hi, hxi, e1⟩ := which_mem hp hx
  obtain ⟨j, hj, hyj, e2⟩ := which_mem hp hy
  obtain rfl : i = j := by omega
  obtain ⟨z, hz, hcz⟩ := cycs_mem hb hp.2.1 (List.getElem_mem hi)
  rw [hcz] at hxi hyj
  have r1 := (mem_orbit hb hz).1 hxi
  have r2 := (mem_orbit hb hz).1 hyj
  obtain ⟨k, hk⟩ := (R.symm hb hz r1).trans r2
  obtain ⟨i', hi', hm, e3⟩ := which_mem hp (hf x hx)
  obtain ⟨z', hz', hcz'⟩ := cycs_mem hb hp.2.1 (List.getElem_mem hi')
  have hm2 := hm
  rw [hcz'] at hm2
  have r3 := (mem_orbit hb hz').1 hm2
  have r4 : R p z' (f y) := r3.trans ⟨k, by rw [← it_comm hb hc k hx, hk]⟩
  have hm3 := (mem_orbit hb hz').2 r4
  rw [← hcz'] at hm3
  rw [e3, which_at hp hi' hm3]
/-- what renames a dessin to itself -/
theorem ren_comm {f : Nat → Nat} (hp : PermN p m) (h : ∀ i, i < 16 → renF p f m i = f i) : ∀ x, x < m → f (p x) = p (f x) := fun x hx => by
  have h1 := h (p x) (hp.lt x (by have := hp.2.1; omega))
  rw [renF_at hp.2.2.1 hx] at h1
  exact h1.symm
theorem eqDB_parts {n n' : Int} {F G F' G' : Nat → Nat} (h : eqDB n F G n' F' G' = true) : (∀ i, i < 16 → F i = F' i) ∧ ∀ i, i < 16 → G i = G' i := by
  have e := (eqDB_iff n F G n' F' G').1 h
  refine ⟨fun i hi => ?_, fun i hi => ?_⟩
  · have h1 : (dv n F G)[1 + i]? = (dv n' F' G')[1 + i]? := by rw [e]
    rw [dv_b _ _ _ hi, dv_b _ _ _ hi] at h1
    simp at h1; omega
  · have h1 : (dv n F G)[17 + i]? = (dv n' F' G')[17 + i]? := by rw [e]
    rw [dv_w _ _ _ hi, dv_w _ _ _ hi] at h1
    simp at h1; omega
/-- the numbers of the cycles, as a list -/
def whL (p : Nat → Nat) (m : Nat) : List Nat := (List.range m).map (whichF p m)
theorem whL_length (p : Nat → Nat) (m : Nat) : (whL p m).length = m := by unfold whL; simp
theorem whL_at {k : Nat} (hk : k < m) : (whL p m).getD k 0 = whichF p m k := by unfold whL; simp [List.getD_eq_getElem?_getD, hk]
theorem whL_out {k : Nat} (hk : m ≤ k) : (whL p m).getD k 0 = 0 := by unfold whL; simp [List.getD_eq_getElem?_getD, hk]
theorem whL_lt (hp : PermN p m) (k : Nat) : (whL p m).getD k 0 < 16 := by
  rcases Nat.lt_or_ge k m with c | c
  · rw [whL_at c]
    have := which_lt hp c
    have := cycs_le hp
    have := hp.2.1
    omega
  · rw [whL_out c]; omega
theorem prj_at {ns : List Nat} {f : Nat → Nat} {m : Nat} (hc : ∀ i j, i < m → j < m → ns.getD i 0 = ns.getD j 0 → ns.getD (f i) 0 = ns.getD (f j) 0) : ∀ k, k ≤ m → ∀ j, j < k → prjT ns f k (ns.getD j 0) = ns.getD (f j) 0 := by
  intro k
  induction k with
  | zero => intro _ j hj; omega
  | succ k ih =>
    intro hk j hj
    rw [prjT]
    unfold fset
    by_cases e : ns.getD j 0 = ns.getD k 0
    · rw [if_pos e]; exact (hc j k (by omega) (by omega) e).symm
    · rw [if_neg e]
      rcases Nat.lt_or_ge j k with d | d
      · exact ih (by omega) j d
      · obtain rfl : j = k := by omega
        exact absurd rfl e
theorem prj_none {ns : List Nat} {f : Nat → Nat} {y : Nat} : ∀ k, (∀ j, j < k → ns.getD j 0 ≠ y) → prjT ns f k y = 0 := by
  intro k
  induction k with
  | zero => intro _; rfl
  | succ k ih =>
    intro h
    rw [prjT]
    unfold fset
    rw [if_neg (fun e => h k (by omega) e.symm), ih fun j hj => h j (by omega)]
/-- the quotient's places -/
def quoF (p : Nat → Nat) (m : Nat) (f : Nat → Nat) : Nat → Nat := upto (fun k => whichF p m (f (((cycs p m).getD k []).getD 0 0))) (cycs p m).length
theorem cyc_head (hp : PermN p m) {k : Nat} (hk : k < (cycs p m).length) : ((cycs p m).getD k []).getD 0 0 < m ∧ whichF p m (((cycs p m).getD k []).getD 0 0) = k ∧ 0 < ((cycs p m)[k]).length ∧ ((cycs p m).getD k []).getD 0 0 ∈ (cycs p m)[k] := by
  have hg : (cycs p m).getD k [] = (cycs p m)[k] := by rw [List.getD_eq_getElem?_getD, List.getElem?_eq_getElem hk]; rfl
  have hl := (lens_pos hp.2.2.1 hp.2.1 (List.mem_map.2 ⟨_, List.getElem_mem hk, rfl⟩)).1
  have hm : ((cycs p m)[k]).getD 0 0 ∈ (cycs p m)[k] := by
    rw [List.getD_eq_getElem?_getD, List.getElem?_eq_getElem (by omega)]; exact List.getElem_mem _
  rw [hg]
  exact ⟨cyc_lt hp (List.getElem_mem hk) hm, which_at hp hk hm, hl, hm⟩
theorem prj_quo (hp : PermN p m) {f : Nat → Nat} (hf : ∀ x, x < m → f x < m) (hc : ∀ x, x < m → f (p x) = p (f x)) : prjT (whL p m) f m = quoF p m f := by
  have hcc : ∀ i j, i < m → j < m → (whL p m).getD i 0 = (whL p m).getD j 0 → (whL p m).getD (f i) 0 = (whL p m).getD (f j) 0 := fun i j hi hj e => by
    rw [whL_at hi, whL_at hj] at e
    rw [whL_at (hf i hi), whL_at (hf j hj)]
    exact which_same hp hf hc hi hj e
  funext y
  unfold quoF upto
  by_cases hy : y < (cycs p m).length
  · rw [if_pos hy]
    show _ = whichF p m (f (((cycs p m).getD y []).getD 0 0))
    obtain ⟨h1, h2, _, _⟩ := cyc_head hp hy
    generalize ((cycs p m).getD y []).getD 0 0 = z at *
    have h3 := prj_at hcc m (Nat.le_refl _) z h1
    rw [whL_at h1, h2, whL_at (hf z h1)] at h3
    exact h3
  · rw [if_neg hy]
    refine prj_none m fun j hj => ?_
    rw [whL_at hj]
    have := which_lt hp hj
    omega
theorem max_quo (hp : PermN p m) : maxU (whL p m) (m - 1) + 1 = (cycs p m).length := by
  have h1 := hp.1
  obtain ⟨i, hi, e⟩ := maxU_at (whL p m) (m - 1)
  have h2 := which_lt hp (x := i) (by omega)
  rw [whL_at (by omega)] at e
  have h0 : 0 < (cycs p m).length := by omega
  obtain ⟨h3, h4, _, _⟩ := cyc_head hp (k := (cycs p m).length - 1) (by omega)
  generalize ((cycs p m).getD ((cycs p m).length - 1) []).getD 0 0 = z at *
  have h5 := maxU_ge (whL p m) (m - 1) z (by omega)
  rw [whL_at h3, h4] at h5
  omega
end
/-- the answer -/
noncomputable def quoOk (n : Int) (f g p : Nat → Nat) : Nat := if desB n f g = true ∧ permB p n = true then if eqDB n (renF p f n.toNat) (renF p g n.toNat) n f g = true then 0 else 5 else 1
noncomputable def quoA (n : Int) (f g p : Nat → Nat) : Array Value := if quoOk n f g p = 0 then dv (cycs p n.toNat).length (quoF p n.toNat f) (quoF p n.toNat g) else dv 0 (fun _ => 0) (fun _ => 0)
noncomputable def quoL (n : Int) (f g p : Nat → Nat) : List Nat := if quoOk n f g p = 0 then whL p n.toNat else []
end Go.Proofs.Ytgomfphdgekniaa
