/- laws.eqInt64S, markInt64S, heldInt64S and those on lists of lists -/
import Derived.Test.YtpkfjdaedaplfaaOwn
import Derived.RegionTactic
import Derived.Deep.RegionWith
namespace Go.Proofs.Ytpkfjdaedaplfaa
open Go.RowKit

theorem Own1.len {B : Nat} {w : World} {A : Option Addr} {n c : Nat} {l : List Nat} (h : Own1 B w (.slice A n c) l) : n = l.length := by
  rcases h.2 with ⟨e, h0⟩ | ⟨g, cap, cur, e, _⟩
  · injection e with _ e _; omega
  · injection e
theorem Own1.at {B : Nat} {w : World} {A : Option Addr} {n c k : Nat} {l : List Nat} (h : Own1 B w (.slice A n c) l) (hk : k < l.length) :
    ∃ g, A = some ⟨g, 0, none⟩ ∧ B ≤ g ∧ g < w.heap.size ∧ w.cell? ⟨g, k, none⟩ = some (.int .i64 (l[k] : Nat)) ∧ w.frozen? ⟨g, k, none⟩ = false := by
  rcases h.2 with ⟨_, h0⟩ | ⟨g, cap, cur, e, hB, hh, h1, h2, h3, h4⟩
  · omega
  · injection e with e1 e2 e3
    have hlt : g < w.heap.size := (Array.getElem?_eq_some_iff.1 hh).1
    refine ⟨g, e1, hB, hlt, ?_, by simp [World.frozen?, hh]⟩
    rw [cell_of_cells, cellsOf_heap hh]
    have : (cur.toList.take (l.length * 1))[k]? = (nums l)[k]? := by rw [h4]
    rw [List.getElem?_take_of_lt (by omega), Array.getElem?_toList] at this
    rw [this]
    simp [nums, hk]

set_option maxRecDepth 100000 in
set_option maxHeartbeats 400000 in
theorem eqInt64S_same (l : List Nat) (A A' : Option Addr) (c c' B B' : Nat) (hl : l.length ≤ 140737488351232) (w : World) (h : Own1 B w (.slice A l.length c) l) (h' : Own1 B' w (.slice A' l.length c') l) :
    Calls Try.prog 79 #[.slice A l.length c, .slice A' l.length c'] w fun e w' => e = .returned (.bool true) ∧ Below w.heap.size w w' := by
  have H := hide h; clear h
  have H' := hide h'; clear h'
  have hne : ((l.length : Int) != (l.length : Int)) = false := by simp
  go_enter Try.func79, Try.ntmps79
  go_wp2
  go_loopw [5] (fun i wr => ∃ k : Nat, k ≤ l.length ∧ i = .int .i64 k ∧ Below w.heap.size w wr) (fun i _ => l.length - (intOf i).toNat)
  case atStart => exact ⟨0, by omega, rfl, Below.refl _ _⟩
  case round =>
    obtain ⟨k, hk, rfl, hb⟩ := hrel
    by_cases hlt : k < l.length
    · obtain ⟨g, rfl, _, hg, h1, _⟩ := H.out.at hlt
      obtain ⟨g', rfl, _, hg', h1', _⟩ := H'.out.at hlt
      have c1 : wr.cell? ⟨g, k, none⟩ = some (.int .i64 (l[k] : Nat)) := (hb.cell (p := ⟨g, k, none⟩) hg).trans h1
      have c1' : wr.cell? ⟨g', k, none⟩ = some (.int .i64 (l[k] : Nat)) := (hb.cell (p := ⟨g', k, none⟩) hg').trans h1'
      clear h1 h1'
      generalize l[k] = x at *
      have hx : ((x : Int) != (x : Int)) = false := by simp
      go_wp2
      go_region
      all_goals go_wp2
      all_goals go_roundw
      case rel => exact ⟨k + 1, by omega, by go_num, hb.drew⟩
      case measure => simp [intOf]; omega
    · go_wp2
      go_ret
      exact ⟨rfl, hb⟩

/-- k, k + 1, .. -/
def marks (k n : Nat) : List Nat := (List.range n).map fun i => k + i
theorem marks_length (k n : Nat) : (marks k n).length = n := by unfold marks; simp
theorem marks_get (k n i : Nat) (h : i < n) : (marks k n)[i]? = some (k + i) := by unfold marks; simp [h]

theorem own_set {B : Nat} {w : World} {g n c k x : Nat} {l : List Nat} (h : Own1 B w (.slice (some ⟨g, 0, none⟩) n c) l) (hk : k < l.length) : Own1 B (w.setCell ⟨g, k, none⟩ (.int .i64 (x : Nat))) (.slice (some ⟨g, 0, none⟩) n c) (l.set k x) := by
  unfold Own1 at *
  rcases h.2 with ⟨e, _⟩ | ⟨g', cap, cur, e, hB, hh, h1, h2, h3, h4⟩
  · cases e
  · injection e with e1 e2 e3
    have : g = g' := by injection e1 with e1; injection e1
    subst this
    refine ⟨by simp [nums], .inr ⟨g, cap, cur.setIfInBounds k (.int .i64 (x : Nat)), by rw [e2, e3, List.length_set], hB, heap_setCell_same w g k cur _ _ hh, by simpa using h1, h2, by simpa using h3, ?_⟩⟩
    simp only [Array.toList_setIfInBounds, List.length_set, List.take_set]
    rw [h4]
    simp [nums, List.map_set]

set_option maxRecDepth 100000 in
set_option maxHeartbeats 400000 in
theorem markInt64S_any (l : List Nat) (A : Option Addr) (c B k0 : Nat) (hl : l.length ≤ 140737488351232) (hk0 : k0 ≤ 140737488351232) (w : World) (h : Own1 B w (.slice A l.length c) l) :
    Calls Try.prog 80 #[.slice A l.length c, .int .i64 k0] w fun e w' => e = .returned (.int .i64 (k0 + l.length : Nat)) ∧ w.grownBy w' (Value.slice A l.length c).ownBlock ∧ Own1 B w' (.slice A l.length c) (marks k0 l.length) := by
  go_enter Try.func80, Try.ntmps80
  go_wp2
  go_loopw [1, 5] (fun q i wr => ∃ k : Nat, k ≤ l.length ∧ i = .int .i64 k ∧ q = .int .i64 (k0 + k : Nat) ∧ w.grownBy wr (Value.slice A l.length c).ownBlock ∧ Own1 B wr (.slice A l.length c) (marks k0 k ++ l.drop k)) (fun _ i _ => l.length - (intOf i).toNat)
  case atStart => exact ⟨0, by omega, rfl, by simp, grown_refl _ _, by simpa [marks] using h⟩
  case round =>
    obtain ⟨k, hk, rfl, rfl, hg, ho⟩ := hrel
    by_cases hlt : k < l.length
    · have hlen : (marks k0 k ++ l.drop k).length = l.length := by rw [List.length_append, marks_length, List.length_drop]; omega
      obtain ⟨g, hA, hgB, hglt, h1, h2⟩ := ho.at (k := k) (by omega)
      have hs := own_set (x := k0 + k) (hA ▸ ho) (k := k) (by omega)
      have hset : (marks k0 k ++ l.drop k).set k (k0 + k) = marks k0 (k + 1) ++ l.drop (k + 1) := by
        rw [List.set_append_right _ _ (by rw [marks_length]; omega), marks_length, Nat.sub_self, List.drop_eq_getElem_cons hlt, List.set_cons_zero]
        unfold marks
        rw [List.range_succ, List.map_append, List.append_assoc]; rfl
      rw [hset] at hs
      generalize (marks k0 k ++ l.drop k)[k] = y at h1
      have hg2 : w.grownBy (wr.setCell ⟨g, k, none⟩ (.int .i64 (k0 + k : Nat))) (Value.slice A l.length c).ownBlock := by rw [hA]; rw [hA] at hg; exact grown_setCell hg
      subst hA
      have HS := hide hs; clear hs
      have HG := hide hg2; clear hg2
      clear hset hlen ho hg
      have hcast : ((k0 + k : Nat) : Int) = (k0 : Int) + (k : Int) := by omega
      rw [hcast] at HS HG
      rw [hcast]
      clear hcast
      go_wp2
      go_roundw
      case rel => exact ⟨k + 1, by omega, by go_num, by go_num, HG.out, HS.out⟩
      case measure => simp [intOf]; omega
    · obtain rfl : k = l.length := by omega
      go_wp2
      go_ret
      exact ⟨rfl, hg, by simpa using ho⟩

set_option maxRecDepth 100000 in
set_option maxHeartbeats 400000 in
theorem heldInt64S_any (n : Nat) (A : Option Addr) (c B k0 : Nat) (hl : n ≤ 140737488351232) (hk0 : k0 ≤ 140737488351232) (w : World) (h : Own1 B w (.slice A n c) (marks k0 n)) :
    Calls Try.prog 81 #[.slice A n c, .int .i64 k0] w fun e w' => e = .returned (.int .i64 (k0 + n : Nat)) ∧ Below w.heap.size w w' := by
  have H := hide h; clear h
  go_enter Try.func81, Try.ntmps81
  go_wp2
  go_loopw [1, 5] (fun q i wr => ∃ k : Nat, k ≤ n ∧ i = .int .i64 k ∧ q = .int .i64 (k0 + k : Nat) ∧ wr = w) (fun _ i _ => n - (intOf i).toNat)
  case atStart => exact ⟨0, by omega, rfl, by simp, rfl⟩
  case round =>
    obtain ⟨k, hk, rfl, rfl, rfl⟩ := hrel
    have hcast : ((k0 + k : Nat) : Int) = (k0 : Int) + (k : Int) := by omega
    by_cases hlt : k < n
    · have hlen : k < (marks k0 n).length := by rw [marks_length]; exact hlt
      obtain ⟨g, rfl, _, _, h1, _⟩ := H.out.at hlen
      have hv : (marks k0 n)[k] = k0 + k := by have := marks_get k0 n k hlt; rw [List.getElem?_eq_getElem hlen] at this; exact Option.some.inj this
      rw [hv, hcast] at h1
      rw [hcast]
      clear hv hcast hlen
      have hne : (((k0 : Int) + (k : Int)) != ((k0 : Int) + (k : Int))) = false := by simp
      go_wp2
      go_roundw
      case rel => exact ⟨k + 1, by omega, by go_num, by go_num, by first | rfl | trivial⟩
      case measure => simp [intOf]; omega
    · obtain rfl : k = n := by omega
      clear hcast
      go_wp2
      go_ret
      exact ⟨rfl, Below.refl _ _⟩

/-- a list of lists whose slices are known -/
structure Own2v (B : Nat) (w : World) (v : Value) (vs : List Value) (ls : List (List Nat)) : Prop where
  len : vs.length = ls.length
  row : w.ownsRow B 79 1 v vs.length vs
  each : ∀ (i : Nat) (u : Value) (l : List Nat), vs[i]? = some u → ls[i]? = some l → Own1 B w u l
  dist : ∀ (i j : Nat) (u u' : Value), i < j → vs[i]? = some u → vs[j]? = some u' → u.ownBlock = none ∨ u.ownBlock ≠ u'.ownBlock
theorem own2v {B : Nat} {w : World} {v : Value} {ls : List (List Nat)} : Own2 B w v ls ↔ ∃ vs, Own2v B w v vs ls := ⟨fun ⟨vs, a, b, c, d⟩ => ⟨vs, a, b, c, d⟩, fun ⟨vs, h⟩ => ⟨vs, h.len, h.row, h.each, h.dist⟩⟩
theorem Own2v.below {B C : Nat} {w w' : World} {v : Value} {vs : List Value} {ls : List (List Nat)} (h : Own2v B w v vs ls) (hb : Below C w w') (hC : w.heap.size ≤ C) : Own2v B w' v vs ls := by
  have hg := grown_of_below (hb.mono hC) none
  have far : ∀ u : Value, u.ownBlock = none ∨ u.ownBlock ≠ none := fun u => Classical.em _
  exact ⟨h.len, h.row.kept hg (far _), fun i u l a b => (h.each i u l a b).kept hg (far _), h.dist⟩
/-- what lies below C stays, whatever is written from C on -/
theorem Own2v.lower {B C : Nat} {w w' : World} {v : Value} {vs : List Value} {ls : List (List Nat)} (h : Own2v B w v vs ls) (hb : Below C w w') (hC : ∀ k, v.ownBlock = some k → k < C) (hC' : ∀ (i : Nat) (u : Value), vs[i]? = some u → ∀ k, u.ownBlock = some k → k < C) : Own2v B w' v vs ls := by
  have key : ∀ {e : TypeId} {s n : Nat} {u : Value} {xs : List Value}, w.ownsRow B e s u n xs → (∀ k, u.ownBlock = some k → k < C) → w'.ownsRow B e s u n xs := by
    intro e s n u xs hu hk
    refine ⟨hu.1, ?_⟩
    rcases hu.2 with c | ⟨g, cap, cur, rfl, h1, h2, h3⟩
    · exact .inl c
    · exact .inr ⟨g, cap, cur, rfl, h1, by rw [hb.block g (hk g rfl)]; exact h2, h3⟩
  exact ⟨h.len, key h.row hC, fun i u l a b => key (h.each i u l a b) (hC' i u a), h.dist⟩
/-- the i-th slice out of the row -/
theorem Own2v.at {B : Nat} {w : World} {A : Option Addr} {n c i : Nat} {vs : List Value} {ls : List (List Nat)} (h : Own2v B w (.slice A n c) vs ls) (hi : i < ls.length) :
    ∃ g A' c', A = some ⟨g, 0, none⟩ ∧ g < w.heap.size ∧ vs[i]? = some (.slice A' ls[i].length c') ∧ w.cell? ⟨g, i, none⟩ = some (.slice A' ls[i].length c') ∧ Own1 B w (.slice A' ls[i].length c') ls[i] := by
  have hv : i < vs.length := by rw [h.len]; exact hi
  have h1 := h.each i _ _ (List.getElem?_eq_getElem hv) (List.getElem?_eq_getElem hi)
  obtain ⟨A', c', e⟩ := own_slice h1
  rcases h.row.2 with ⟨_, h0⟩ | ⟨g, cap, cur, e', hB, hh, h2, h3, h4, h5⟩
  · omega
  · injection e' with e1 e2 e3
    have hlt : g < w.heap.size := (Array.getElem?_eq_some_iff.1 hh).1
    refine ⟨g, A', c', e1, hlt, by rw [List.getElem?_eq_getElem hv, e], ?_, by rw [← e]; exact h1⟩
    rw [cell_of_cells, cellsOf_heap hh]
    have : (cur.toList.take (vs.length * 1))[i]? = vs[i]? := by rw [h5]
    rw [List.getElem?_take_of_lt (by omega), Array.getElem?_toList] at this
    rw [this, List.getElem?_eq_getElem hv, e]
/-- one row is turned -/
theorem Own2v.upd {B i : Nat} {w w' : World} {v u : Value} {l : List Nat} {vs : List Value} {ls : List (List Nat)} (h : Own2v B w v vs ls) (hi : i < ls.length) (hu : vs[i]? = some u) (hg : w.grownBy w' u.ownBlock) (hn : Own1 B w' u l) : Own2v B w' v vs (ls.set i l) := by
  have hiu := h.each i u _ hu (List.getElem?_eq_getElem hi)
  refine ⟨by rw [List.length_set]; exact h.len, h.row.kept hg (own_ne h.row hiu (by decide)), ?_, h.dist⟩
  intro j x m hx hm
  by_cases e : i = j
  · subst e
    rw [hu] at hx
    simp only [Option.some.injEq] at hx
    subst hx
    rw [List.getElem?_set_self hi] at hm
    simp only [Option.some.injEq] at hm
    subst hm
    exact hn
  · rw [List.getElem?_set_ne e] at hm
    refine (h.each j x m hx hm).kept hg ?_
    rcases Nat.lt_or_ge i j with c | c
    · rcases hb : x.ownBlock with _ | k
      · exact .inl rfl
      · refine .inr fun e' => ?_
        rcases h.dist i j u x c hu hx with d | d
        · rw [d] at e'; cases e'
        · exact d (by rw [hb, e'])
    · exact h.dist j i x u (by omega) hx hu

def total (ls : List (List Nat)) : Nat := (ls.map List.length).sum
/-- all numbers counted through -/
def marksL (k : Nat) : List (List Nat) → List (List Nat)
  | [] => []
  | l :: ls => marks k l.length :: marksL (k + l.length) ls
theorem marksL_length (ls : List (List Nat)) : ∀ k, (marksL k ls).length = ls.length := by
  induction ls with
  | nil => intro k; rfl
  | cons l ls ih => intro k; simp [marksL, ih]
theorem marksL_get (ls : List (List Nat)) : ∀ (k i : Nat) (h : i < ls.length), (marksL k ls)[i]? = some (marks (k + total (ls.take i)) ls[i].length) := by
  induction ls with
  | nil => intro k i h; simp at h
  | cons l ls ih =>
    intro k i h
    rcases i with _ | i
    · simp [marksL, total]
    · simp only [List.length_cons] at h
      simp only [marksL, List.getElem?_cons_succ, List.take_succ_cons, List.getElem_cons_succ]
      rw [ih (k + l.length) i (by omega)]
      simp [total, Nat.add_assoc]
theorem total_take_succ (ls : List (List Nat)) (i : Nat) (h : i < ls.length) : total (ls.take (i + 1)) = total (ls.take i) + ls[i].length := by
  unfold total
  rw [List.take_succ_eq_append_getElem h, List.map_append, List.sum_append]
  simp
theorem total_take_le (ls : List (List Nat)) (i : Nat) : total (ls.take i) ≤ total ls := by
  unfold total
  conv => rhs; rw [← List.take_append_drop i ls, List.map_append, List.sum_append]
  omega
theorem len_le_total (ls : List (List Nat)) (i : Nat) (h : i < ls.length) : ls[i].length ≤ total ls := by
  have := total_take_succ ls i h
  have := total_take_le ls (i + 1)
  omega

set_option maxRecDepth 100000 in
set_option maxHeartbeats 400000 in
theorem markInt64SS_any (ls : List (List Nat)) (A : Option Addr) (c B k0 : Nat) (vs : List Value) (hl : total ls ≤ 1000000) (hl2 : ls.length ≤ 1000000) (hk0 : k0 ≤ 1000000) (w : World) (hBw : B ≤ w.heap.size) (h : Own2v B w (.slice A ls.length c) vs ls) :
    Calls Try.prog 54 #[.slice A ls.length c, .int .i64 k0] w fun e w' => e = .returned (.int .i64 (k0 + total ls : Nat)) ∧ Below B w w' ∧ w.heap.size ≤ w'.heap.size ∧ Own2v B w' (.slice A ls.length c) vs (marksL k0 ls) := by
  go_enter Try.func54, Try.ntmps54
  go_wp2
  go_loopw [1, 5] (fun q i wr => ∃ k : Nat, k ≤ ls.length ∧ i = .int .i64 k ∧ q = .int .i64 (k0 + total (ls.take k) : Nat) ∧ Below B w wr ∧ Own2v B wr (.slice A ls.length c) vs ((marksL k0 ls).take k ++ ls.drop k)) (fun _ i _ => ls.length - (intOf i).toNat)
  case atStart => exact ⟨0, by omega, rfl, by simp [total], Below.refl _ _, by simpa using h⟩
  case round =>
    obtain ⟨k, hk, rfl, rfl, hb, ho⟩ := hrel
    have ht := total_take_le ls k
    by_cases hlt : k < ls.length
    · have hml : ((marksL k0 ls).take k).length = k := by rw [List.length_take, marksL_length]; omega
      have hlen : k < ((marksL k0 ls).take k ++ ls.drop k).length := by rw [List.length_append, hml, List.length_drop]; omega
      have hge : ((marksL k0 ls).take k ++ ls.drop k)[k] = ls[k] := by
        rw [List.getElem_append_right (by omega)]
        simp only [hml, Nat.sub_self, List.getElem_drop, Nat.add_zero]
      obtain ⟨g, A', c', rfl, hg, hv, hc, h1⟩ := ho.at hlen
      rw [hge] at hv hc h1
      have hle := len_le_total ls k hlt
      have hts := total_take_succ ls k hlt
      have hset : ((marksL k0 ls).take k ++ ls.drop k).set k (marks (k0 + total (ls.take k)) ls[k].length) = (marksL k0 ls).take (k + 1) ++ ls.drop (k + 1) := by
        have hkm : k < (marksL k0 ls).length := by rw [marksL_length]; exact hlt
        have e : (marksL k0 ls)[k] = marks (k0 + total (ls.take k)) ls[k].length := by
          have := marksL_get ls k0 k hlt
          rw [List.getElem?_eq_getElem hkm] at this
          exact Option.some.inj this
        rw [List.set_append_right _ _ (by omega), hml, Nat.sub_self, List.drop_eq_getElem_cons hlt, List.set_cons_zero, List.take_succ_eq_append_getElem hkm, e, List.append_assoc]
        rfl
      have C := hide (markInt64S_any ls[k] A' c' B (k0 + total (ls.take k)) (by omega) (by omega) wr h1)
      have hrow : ∀ x, (Value.slice A' ls[k].length c').ownBlock = some x → B ≤ x := fun x hx => (World.ownsRow.lt h1 x hx).1
      have hBr : B ≤ wr.heap.size := Nat.le_trans hBw hb.size
      clear hge
      have HSET := hide hset; clear hset
      have HV := hide hv; clear hv
      have HO := hide ho; clear ho
      have HT := hide hts; clear hts
      have H1 := hide h1; clear h1
      have HR := hide hrow; clear hrow
      have HLEN := hide hlen; clear hlen
      clear hml
      go_wp2_with fail
      refine C.out.mono ?_
      rintro e w1 ⟨rfl, hg1, hn⟩
      have hO := HO.out.upd HLEN.out HV.out hg1 hn
      rw [HSET.out] at hO
      have hbw : Below B w w1 := below_grown hb hg1 hBr HR.out
      have HOO := hide hO; clear hO
      clear hn hg1 hc
      go_wp2
      go_roundw
      case rel => exact ⟨k + 1, by omega, by go_num, by rw [HT.out]; go_num, hbw, HOO.out⟩
      case measure => simp [intOf]; omega
    · obtain rfl : k = ls.length := by omega
      go_wp2
      go_ret
      exact ⟨by simp, hb, hb.size, by have := ho; rwa [List.drop_length, List.append_nil, List.take_of_length_le (by rw [marksL_length]; omega)] at this⟩

set_option maxRecDepth 100000 in
set_option maxHeartbeats 400000 in
theorem heldInt64SS_any (ls : List (List Nat)) (A : Option Addr) (c B k0 : Nat) (vs : List Value) (hl : total ls ≤ 1000000) (hl2 : ls.length ≤ 1000000) (hk0 : k0 ≤ 1000000) (w : World) (h : Own2v B w (.slice A ls.length c) vs (marksL k0 ls)) :
    Calls Try.prog 55 #[.slice A ls.length c, .int .i64 k0] w fun e w' => e = .returned (.int .i64 (k0 + total ls : Nat)) ∧ Below w.heap.size w w' := by
  have H := hide h; clear h
  go_enter Try.func55, Try.ntmps55
  go_wp2
  go_loopw [1, 5] (fun q i wr => ∃ k : Nat, k ≤ ls.length ∧ i = .int .i64 k ∧ q = .int .i64 (k0 + total (ls.take k) : Nat) ∧ Below w.heap.size w wr) (fun _ i _ => ls.length - (intOf i).toNat)
  case atStart => exact ⟨0, by omega, rfl, by simp [total], Below.refl _ _⟩
  case round =>
    obtain ⟨k, hk, rfl, rfl, hb⟩ := hrel
    have ht := total_take_le ls k
    by_cases hlt : k < ls.length
    · have hmk : k < (marksL k0 ls).length := by rw [marksL_length]; exact hlt
      have e : (marksL k0 ls)[k] = marks (k0 + total (ls.take k)) ls[k].length := by
        have := marksL_get ls k0 k hlt
        rw [List.getElem?_eq_getElem hmk] at this
        exact Option.some.inj this
      obtain ⟨g, A', c', rfl, hg, hv, hc, h1⟩ := (H.out.below hb (Nat.le_refl _)).at hmk
      rw [e, marks_length] at hc h1
      clear hv
      have hle := len_le_total ls k hlt
      have hts := total_take_succ ls k hlt
      have C := hide (heldInt64S_any ls[k].length A' c' B (k0 + total (ls.take k)) (by omega) (by omega) wr h1)
      have HT := hide hts; clear hts
      clear e hmk h1
      have hneg : decide (((k0 + total (ls.take k) + ls[k].length : Nat) : Int) < 0) = false := by simp; omega
      go_wp2_with fail
      refine C.out.mono ?_
      rintro e w1 ⟨rfl, hb1⟩
      have hbb := hb.trans (hb1.mono hb.size)
      clear hc hb1
      go_wp2
      go_roundw
      case rel => exact ⟨k + 1, by omega, by go_num, by rw [HT.out]; go_num, hbb⟩
      case measure => simp [intOf]; omega
    · obtain rfl : k = ls.length := by omega
      go_wp2
      go_ret
      exact ⟨by simp, hb⟩

set_option maxRecDepth 100000 in
set_option maxHeartbeats 400000 in
theorem eqInt64SS_same (ls : List (List Nat)) (A A' : Option Addr) (c c' B B' : Nat) (vs vs' : List Value) (hl : total ls ≤ 1000000) (hl2 : ls.length ≤ 1000000) (w : World)
    (h : Own2v B w (.slice A ls.length c) vs ls) (h' : Own2v B' w (.slice A' ls.length c') vs' ls) :
    Calls Try.prog 53 #[.slice A ls.length c, .slice A' ls.length c'] w fun e w' => e = .returned (.bool true) ∧ Below w.heap.size w w' := by
  have H := hide h; clear h
  have H' := hide h'; clear h'
  have hne : ((ls.length : Int) != (ls.length : Int)) = false := by simp
  go_enter Try.func53, Try.ntmps53
  go_wp2
  go_loopw [5] (fun i wr => ∃ k : Nat, k ≤ ls.length ∧ i = .int .i64 k ∧ Below w.heap.size w wr) (fun i _ => ls.length - (intOf i).toNat)
  case atStart => exact ⟨0, by omega, rfl, Below.refl _ _⟩
  case round =>
    obtain ⟨k, hk, rfl, hb⟩ := hrel
    by_cases hlt : k < ls.length
    · obtain ⟨g, B1, b1, rfl, hg, _, hc, h1⟩ := H.out.at hlt
      obtain ⟨g', B2, b2, rfl, hg', _, hc', h1'⟩ := H'.out.at hlt
      have c1 : wr.cell? ⟨g, k, none⟩ = some (.slice B1 ls[k].length b1) := (hb.cell (p := ⟨g, k, none⟩) hg).trans hc
      have c2 : wr.cell? ⟨g', k, none⟩ = some (.slice B2 ls[k].length b2) := (hb.cell (p := ⟨g', k, none⟩) hg').trans hc'
      have hle := len_le_total ls k hlt
      have far : ∀ u : Value, u.ownBlock = none ∨ u.ownBlock ≠ none := fun u => Classical.em _
      have o1 := h1.kept (grown_of_below hb none) (far _)
      have o2 := h1'.kept (grown_of_below hb none) (far _)
      have C := hide fun W (e : W.heap = wr.heap) => eqInt64S_same ls[k] B1 B2 b1 b2 B B' (by omega) W (show W.ownsRow _ _ _ _ _ _ by unfold Own1 World.ownsRow at o1; unfold World.ownsRow; rw [e]; exact o1) (show W.ownsRow _ _ _ _ _ _ by unfold Own1 World.ownsRow at o2; unfold World.ownsRow; rw [e]; exact o2)
      clear hc hc' h1 h1' far o1 o2
      go_wp2
      go_region_with (go_at_call 79; refine (C.out _ ?_).mono ?_; rfl; rintro e w1 ⟨rfl, hb1⟩)
      all_goals
        have hbb : Below w.heap.size w w1 := hb.drew.trans (hb1.mono hb.size)
        clear hb1 c1 c2
        go_wp2
        go_roundw
        case rel => exact ⟨k + 1, by omega, by go_num, hbb⟩
        case measure => simp [intOf]; omega
    · go_wp2
      go_ret
      exact ⟨rfl, hb⟩
theorem own2_form {B : Nat} {w : World} {v : Value} {ls : List (List Nat)} (h : Own2 B w v ls) : ∃ A c vs, v = .slice A ls.length c ∧ Own2v B w (.slice A ls.length c) vs ls := by
  obtain ⟨A, c, rfl⟩ := h.form
  obtain ⟨vs, hv⟩ := own2v.1 h
  exact ⟨A, c, vs, rfl, hv⟩
theorem Own2v.lt {B : Nat} {w : World} {v : Value} {vs : List Value} {ls : List (List Nat)} (h : Own2v B w v vs ls) : (∀ k, v.ownBlock = some k → k < w.heap.size) ∧ ∀ (i : Nat) (u : Value), vs[i]? = some u → ∀ k, u.ownBlock = some k → k < w.heap.size := by
  refine ⟨fun k hk => (h.row.lt k hk).2, fun i u hu k hk => ?_⟩
  have hi : i < ls.length := by rw [← h.len]; exact (List.getElem?_eq_some_iff.1 hu).1
  exact (World.ownsRow.lt (h.each i u _ hu (List.getElem?_eq_getElem hi)) k hk).2
theorem mark1 (ls : List (List Nat)) (A : Option Addr) (c B : Nat) (vs : List Value) (hl : total ls ≤ 1000000) (hl2 : ls.length ≤ 1000000) (w : World) (hBw : B ≤ w.heap.size) (h : Own2v B w (.slice A ls.length c) vs ls) :
    Calls Try.prog 54 #[.slice A ls.length c, .int .i64 1] w fun e w' => e = .returned (.int .i64 (1 + total ls : Nat)) ∧ Below B w w' ∧ w.heap.size ≤ w'.heap.size ∧ Own2v B w' (.slice A ls.length c) vs (marksL 1 ls) :=
  markInt64SS_any ls A c B 1 vs hl hl2 (by omega) w hBw h
theorem held1 (ls : List (List Nat)) (A : Option Addr) (c B : Nat) (vs : List Value) (hl : total ls ≤ 1000000) (hl2 : ls.length ≤ 1000000) (w : World) (h : Own2v B w (.slice A ls.length c) vs (marksL 1 ls)) :
    Calls Try.prog 55 #[.slice A ls.length c, .int .i64 1] w fun e w' => e = .returned (.int .i64 (1 + total ls : Nat)) ∧ Below w.heap.size w w' :=
  heldInt64SS_any ls A c B 1 vs hl hl2 (by omega) w h

end Go.Proofs.Ytpkfjdaedaplfaa
