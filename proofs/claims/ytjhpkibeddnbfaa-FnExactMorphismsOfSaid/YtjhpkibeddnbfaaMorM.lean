/- Morphisms: when the pairs that are reached from one are the graph of a map. -/
import Derived.Test.YtjhpkibeddnbfaaPfr
import Derived.Test.YtjhpkibeddnbfaaSPr
namespace Go.Proofs.Ytjhpkibeddnbfaa
open Go.RowKit

theorem bfs_all {P : Nat → Prop} {p q : Nat → Nat} {z : Nat} (h0 : P z) (hp : ∀ x, P x → P (p x)) (hq : ∀ x, P x → P (q x)) (i : Nat) : ∀ x ∈ (bfs p q z i).1, P x := by
  have add : ∀ (s : List Nat × (Nat → Bool)) (y : Nat), (∀ x ∈ s.1, P x) → P y → ∀ x ∈ (badd s y).1, P x := by
    intro s y hs hy x hx
    unfold badd at hx
    split at hx
    · exact hs x hx
    · rcases List.mem_append.1 hx with c | c
      · exact hs x c
      · simp at c; subst c; exact hy
  induction i with
  | zero => intro x hx; simp [bfs] at hx; subst hx; exact h0
  | succ i ih =>
    rw [bfs]
    rcases e : (bfs p q z i).1[i]? with _ | y
    · exact ih
    · have hy := ih y (List.mem_of_getElem? e)
      exact add _ _ (add _ _ ih (hp y hy)) (hq y hy)
/-- all darts of a dessin have what 0 has and steps keep -/
theorem DesN.all {f g : Nat → Nat} {m : Nat} (hd : DesN f g m) {C : Nat → Prop} (h0 : C 0) (hf : ∀ x, x < m → C x → C (f x)) (hg : ∀ x, x < m → C x → C (g x)) : ∀ x, x < m → C x := by
  intro x hx
  have hall := bfs_all (P := fun x => x < m ∧ C x) (p := f) (q := g) (z := 0) ⟨hd.pos, h0⟩ (fun x h => ⟨hd.bf.1 x h.1, hf x h.1 h.2⟩) (fun x h => ⟨hd.bg.1 x h.1, hg x h.1 h.2⟩) 16
  have hn := (bfs_inv hd.bf.1 hd.bg.1 hd.pos 16).nodup
  have hl : (bfs f g 0 16).1.length = m := hd.conn
  by_cases hm : x ∈ (bfs f g 0 16).1
  · exact (hall x hm).2
  · have := nodup_le (x :: (bfs f g 0 16).1) (List.range m) (List.nodup_cons.2 ⟨hm, hn⟩) fun y hy => by
      rcases List.mem_cons.1 hy with rfl | hy
      · exact List.mem_range.2 hx
      · exact List.mem_range.2 (hall y hy).1
    simp only [List.length_cons, List.length_range] at this
    omega
def fsts (l : List Nat) : List Nat := l.map (· / 16)
theorem fsts_length (l : List Nat) : (fsts l).length = l.length := by unfold fsts; simp
theorem fsts_snoc (l : List Nat) (z : Nat) : fsts (l ++ [z]) = fsts l ++ [z / 16] := by unfold fsts; simp
theorem dup_erase : ∀ {l : List Nat}, ¬ l.Nodup → ∃ x, x ∈ l.erase x := by
  intro l
  induction l with
  | nil => intro h; exact absurd List.nodup_nil h
  | cons a l ih =>
    intro h
    by_cases c : a ∈ l
    · exact ⟨a, by rw [List.erase_cons_head]; exact c⟩
    · have hn : ¬ l.Nodup := fun hn => h (List.nodup_cons.2 ⟨c, hn⟩)
      obtain ⟨x, hx⟩ := ih hn
      by_cases e : a = x
      · subst e; exact absurd (List.mem_of_mem_erase hx) c
      · refine ⟨x, ?_⟩
        rw [List.erase_cons_tail (by simpa using e)]
        exact List.mem_cons_of_mem _ hx
section
variable {f g f' g' : Nat → Nat} {m n : Nat}
theorem prs_lt (hd : DesN f g m) (he : DesN f' g' n) {y : Nat} (hy : y < 16) (i : Nat) : ∀ z ∈ (bfs (bF f f') (bF g g') y i).1, z / 16 < m := by
  have hq : ∀ z, f' (z % 16) < 16 := fun z => he.black.lt16 (by omega)
  have hq' : ∀ z, g' (z % 16) < 16 := fun z => he.white.lt16 (by omega)
  exact bfs_all (P := fun z => z / 16 < m) (by have := hd.pos; omega) (fun z h => by rw [bF_1 (hq z)]; exact hd.bf.1 _ h) (fun z h => by rw [bF_1 (hq' z)]; exact hd.bg.1 _ h) i
theorem prs_cover (hd : DesN f g m) (he : DesN f' g' n) {y : Nat} (hy : y < 16) : ∀ x, x < m → x ∈ fsts (bfs (bF f f') (bF g g') y 256).1 := by
  have hq : ∀ z, f' (z % 16) < 16 := fun z => he.black.lt16 (by omega)
  have hq' : ∀ z, g' (z % 16) < 16 := fun z => he.white.lt16 (by omega)
  have hB := fun z hz => bF_lt hd.black he.black z hz
  have hW := fun z hz => bF_lt hd.white he.white z hz
  have hz0 : y ∈ (bfs (bF f f') (bF g g') y 256).1 := (bfs_pre' _ _ _ (show 0 ≤ 256 by omega)).subset (by simp [bfs])
  refine hd.all ?_ ?_ ?_
  · exact List.mem_map.2 ⟨y, hz0, by omega⟩
  · intro x _ hx
    obtain ⟨z, hz, e⟩ := List.mem_map.1 hx
    exact List.mem_map.2 ⟨_, (bfs_clos hB hW (by omega) (Nat.le_refl _) hz).1, by rw [bF_1 (hq z), e]⟩
  · intro x _ hx
    obtain ⟨z, hz, e⟩ := List.mem_map.1 hx
    exact List.mem_map.2 ⟨_, (bfs_clos hB hW (by omega) (Nat.le_refl _) hz).2, by rw [bF_1 (hq' z), e]⟩
/-- as many pairs as darts: no dart in two of them -/
theorem prs_graph (hd : DesN f g m) (he : DesN f' g' n) {y : Nat} (hy : y < 16) : (bfs (bF f f') (bF g g') y 256).1.length = m ↔ (fsts (bfs (bF f f') (bF g g') y 256).1).Nodup := by
  have hlt := prs_lt hd he hy 256
  have hcv := prs_cover hd he hy
  generalize (bfs (bF f f') (bF g g') y 256).1 = R at *
  have hsub : ∀ x ∈ fsts R, x ∈ List.range m := fun x hx => by
    obtain ⟨z, hz, e⟩ := List.mem_map.1 hx
    exact List.mem_range.2 (by rw [← e]; exact hlt z hz)
  constructor
  · intro hl
    refine Classical.byContradiction fun hn => ?_
    obtain ⟨x, hx⟩ := dup_erase hn
    have := nodup_le (List.range m) ((fsts R).erase x) List.nodup_range fun y hy => by
      have hy' := hcv y (List.mem_range.1 hy)
      by_cases e : y = x
      · subst e; exact hx
      · exact (List.mem_erase_of_ne e).2 hy'
    rw [List.length_erase_of_mem (List.mem_of_mem_erase hx), fsts_length, List.length_range] at this
    have : 0 < R.length := by
      rw [← fsts_length]; exact List.length_pos_of_mem (List.mem_of_mem_erase hx)
    omega
  · intro hn
    have h1 := nodup_le (fsts R) (List.range m) hn hsub
    have h2 := nodup_le (List.range m) (fsts R) List.nodup_range fun x hx => hcv x (List.mem_range.1 hx)
    rw [fsts_length, List.length_range] at h1 h2
    omega
end
/-- what the pairs give a dart, or -1 -/
def sndF (l : List Nat) (x : Nat) : Int := match l.find? (fun z => z / 16 == x) with
  | some z => ((z % 16 : Nat) : Int)
  | none => -1
theorem sndF_none {l : List Nat} {x : Nat} (h : x ∉ fsts l) : sndF l x = -1 := by
  unfold sndF
  have : l.find? (fun z => z / 16 == x) = none := List.find?_eq_none.2 fun z hz => by simpa using fun e => h (List.mem_map.2 ⟨z, hz, e⟩)
  rw [this]
theorem sndF_add {l : List Nat} {z : Nat} (h : z / 16 ∉ fsts l) : hset (sndF l) (z / 16) ((z % 16 : Nat) : Int) = sndF (l ++ [z]) := by
  funext x
  unfold hset
  by_cases c : x = z / 16
  · subst c
    rw [if_pos rfl]
    unfold sndF
    have : l.find? (fun y => y / 16 == z / 16) = none := List.find?_eq_none.2 fun y hy => by simpa using fun e => h (List.mem_map.2 ⟨y, hy, e⟩)
    rw [List.find?_append, this]
    simp
  · rw [if_neg c]
    unfold sndF
    rw [List.find?_append]
    rcases l.find? (fun y => y / 16 == x) with _ | y
    · have : ¬ z / 16 = x := fun e => c e.symm
      simp [this]
    · rfl
theorem sndF_mem {l : List Nat} {z : Nat} (hn : (fsts l).Nodup) (h : z ∈ l) : sndF l (z / 16) = ((z % 16 : Nat) : Int) := by
  induction l with
  | nil => simp at h
  | cons a l ih =>
    have hc : a / 16 ∉ fsts l ∧ (fsts l).Nodup := List.nodup_cons.1 hn
    unfold sndF
    rcases List.mem_cons.1 h with rfl | h
    · simp
    · have : ¬ a / 16 = z / 16 := fun e => hc.1 (List.mem_map.2 ⟨z, h, e.symm⟩)
      rw [List.find?_cons_of_neg (by simpa using this)]
      exact ih hc.2 h
theorem sndF_ge {l : List Nat} {x : Nat} (h : x ∈ fsts l) : 0 ≤ sndF l x := by
  unfold sndF
  rcases e : l.find? (fun z => z / 16 == x) with _ | z
  · obtain ⟨z, hz, e'⟩ := List.mem_map.1 h
    have := List.find?_eq_none.1 e z hz
    simp [e'] at this
  · simp only; omega
theorem sndF_lt {l : List Nat} {x : Nat} : sndF l x < 16 := by
  unfold sndF
  split
  · omega
  · omega
/-- one step of the model's search, as one of the pairs' search -/
theorem snd_new {l : List Nat} {z : Nat} (h : z / 16 ∉ fsts l) : z ∉ l := fun hz => h (List.mem_map.2 ⟨z, hz, rfl⟩)
theorem snd_same {l : List Nat} {z : Nat} (hn : (fsts l).Nodup) (h : z / 16 ∈ fsts l) : z ∈ l ↔ sndF l (z / 16) = ((z % 16 : Nat) : Int) := by
  constructor
  · exact sndF_mem hn
  · intro e
    obtain ⟨y, hy, e'⟩ := List.mem_map.1 h
    have h2 := sndF_mem hn hy
    rw [e', e] at h2
    have : y = z := by omega
    rw [← this]; exact hy
theorem snd_clash {l r : List Nat} {z : Nat} (h : z / 16 ∈ fsts l) (hz : z ∉ l) (hp : l ++ [z] <+: r) : ¬ (fsts r).Nodup := by
  intro hn
  obtain ⟨t, ht⟩ := hp
  have : (fsts (l ++ [z])).Nodup := by
    rw [← ht] at hn
    unfold fsts at hn ⊢
    rw [List.map_append] at hn
    exact (List.nodup_append.1 hn).1
  rw [fsts_snoc, List.nodup_append] at this
  exact this.2.2 _ h _ (by simp) rfl
/-- the list of the images -/
def morL (l : List Nat) (m : Nat) : List Nat := (List.range m).map fun x => (sndF l x).toNat
theorem morL_length (l : List Nat) (m : Nat) : (morL l m).length = m := by unfold morL; simp
/-- numbers in a row -/
def rv (h : Nat → Int) (m : Nat) : List Value := (List.range m).map fun x => Value.int .i64 (h x)
theorem rv_length (h : Nat → Int) (m : Nat) : (rv h m).length = m := by unfold rv; simp
theorem rv_at (h : Nat → Int) {m j : Nat} (hj : j < m) : (rv h m)[j]? = some (.int .i64 (h j)) := by unfold rv; simp [hj]
theorem rv_set (h : Nat → Int) (m j : Nat) (v : Int) : (rv h m).set j (.int .i64 v) = rv (hset h j v) m := by
  apply List.ext_getElem?
  intro i
  rw [List.getElem?_set]
  by_cases c : i < m
  · rw [rv_at _ c]
    by_cases e : j = i
    · subst e; rw [if_pos rfl, if_pos (by rw [rv_length]; exact c), rv_at _ c]; unfold hset; rw [if_pos rfl]
    · rw [if_neg e, rv_at _ c]; unfold hset; rw [if_neg (fun h => e h.symm)]
  · have h1 : ∀ h' : Nat → Int, (rv h' m)[i]? = none := fun h' => List.getElem?_eq_none (by rw [rv_length]; omega)
    rw [h1, h1]
    by_cases e : j = i
    · subst e; rw [if_pos rfl, if_neg (by rw [rv_length]; omega)]
    · rw [if_neg e]
theorem rv_congr {h h' : Nat → Int} {m : Nat} (e : ∀ x, x < m → h x = h' x) : rv h m = rv h' m := by
  unfold rv
  exact List.map_congr_left fun x hx => by rw [e x (List.mem_range.1 hx)]
theorem rv_zero (m : Nat) : List.replicate m (Value.int .i64 0) = rv (fun _ => 0) m := by
  unfold rv
  rw [List.map_const', List.length_range]
theorem rv_nums {l : List Nat} {m : Nat} (h : ∀ x, x < m → 0 ≤ sndF l x) : rv (sndF l) m = nums (morL l m) := by
  unfold rv nums morL
  rw [List.map_map]
  exact List.map_congr_left fun x hx => by
    have := h x (List.mem_range.1 hx)
    simp only [Function.comp]
    rw [Int.toNat_of_nonneg this]
/-- seconds laid down by firsts -/
def secT (l : List Nat) : Nat → Nat → Int
  | 0 => fun _ => 0
  | k + 1 => hset (secT l k) (l.getD k 0 / 16) ((l.getD k 0 % 16 : Nat) : Int)
theorem secT_at {l : List Nat} (hn : (fsts l).Nodup) {k : Nat} (hk : k ≤ l.length) : ∀ j, j < k → secT l k (l.getD j 0 / 16) = ((l.getD j 0 % 16 : Nat) : Int) := by
  have gd : ∀ j, j < l.length → ∀ h : j < (fsts l).length, (fsts l)[j] = l.getD j 0 / 16 := fun j hj h => by
    rw [List.getD_eq_getElem?_getD, List.getElem?_eq_getElem hj]
    simp [fsts]
  induction k with
  | zero => intro j hj; omega
  | succ k ih =>
    intro j hj
    show hset (secT l k) (l.getD k 0 / 16) ((l.getD k 0 % 16 : Nat) : Int) (l.getD j 0 / 16) = _
    unfold hset
    by_cases c : j = k
    · subst c; rw [if_pos rfl]
    · rw [if_neg, ih (by omega) j (by omega)]
      intro e
      have h1 := gd j (by omega) (by rw [fsts_length]; omega)
      have h2 := gd k (by omega) (by rw [fsts_length]; omega)
      exact (List.pairwise_iff_getElem.1 hn) j k (by rw [fsts_length]; omega) (by rw [fsts_length]; omega) (by omega) (by rw [h1, h2, e])
theorem secT_all {l : List Nat} {m : Nat} (hn : (fsts l).Nodup) (hc : ∀ x, x < m → x ∈ fsts l) : rv (secT l l.length) m = rv (sndF l) m := by
  refine rv_congr fun x hx => ?_
  obtain ⟨z, hz, e⟩ := List.mem_map.1 (hc x hx)
  obtain ⟨j, hj, e2⟩ := List.getElem_of_mem hz
  have h1 := secT_at hn (Nat.le_refl _) j hj
  have : l.getD j 0 = z := by rw [List.getD_eq_getElem?_getD, List.getElem?_eq_getElem hj, ← e2]; rfl
  rw [this] at h1
  have h2 := sndF_mem hn hz
  rw [e] at h1 h2
  rw [h1, h2]
end Go.Proofs.Ytjhpkibeddnbfaa
