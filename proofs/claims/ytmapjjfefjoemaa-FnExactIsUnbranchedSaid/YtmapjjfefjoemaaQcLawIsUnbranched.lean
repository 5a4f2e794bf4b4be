/- Texts put together: Mark, Mk1, HS, AppH, Ints, HS2, MkZ, HS3, MkS, ZZ, Wr, Nin, Bfs -/
import Derived.Test.YtmapjjfefjoemaaQbLawIsUnbranched
import Derived.Test.YtmapjjfefjoemaaChecked
import Derived.WalkKit
import Derived.WalkSpells
import Derived.WalkLawsBesides
import Derived.Deep.LoopGhost
import Derived.Deep.OwnRows
import Derived.Laws.Rows
import Derived.Laws.Tables
import Derived.Laws.CopyOwn
import Derived.ProofKit
import Derived.OpenShut
import Derived.ShutString
import Derived.ChangeOld
import Derived.Below
import Derived.Laws.OwnMore
import Derived.BigQuiet
import Derived.Deep.QuietTactic
import Derived.OwnWalk
import Derived.ChangeSlices
import Derived.RegionTactic
import Derived.Deep.Quiet
import Derived.StillTail
import Derived.Deep.Slices
import Derived.WideShapes
import Derived.Laws.CopyRow
import Derived.Deep.MidRow
import Derived.Deep.RegionWith
import Derived.ChangeKeysEq
namespace Go.Proofs.Ytmapjjfefjoemaa
open Go.RowKit

theorem Own1.len {B : Nat} {w : World} {A : Option Addr} {n c : Nat} {l : List Nat} (h : Own1 B w (.slice A n c) l) : n = l.length := by
  rcases h.2 with ⟨e, h0⟩ | ⟨g, cap, cur, e, _⟩
  · injection e with _ e _; omega
  · injection e
theorem Own1.at {B : Nat} {w : World} {A : Option Addr} {n c k : Nat} {l : List Nat} (h : Own1 B w (.slice A n c) l) (hk : k < l.length) :
    ∃ g, A = some ⟨g, 0, none⟩ ∧ B ≤ g ∧ g < w.heap.size ∧ w.cell? ⟨g, k, none⟩ = some (.int .i64 (l[k] : Nat)) ∧ w.frozen? ⟨g, k, none⟩ = false := by
  rcases h.2 with ⟨_, h0⟩ | ⟨g, cap, cur, e, hB, hh, h1, h2, h3, h4⟩
  · omega
  · injection e with e1 e2 e3
    have hlt : g < w.heap.size := (Array.getElem?_eq_some_iff.1 hh).1
    refine ⟨g, e1, hB, hlt, ?_, by simp [World.frozen?, hh]⟩
    rw [cell_of_cells, cellsOf_heap hh]
    have : (cur.toList.take (l.length * 1))[k]? = (nums l)[k]? := by rw [h4]
    rw [List.getElem?_take_of_lt (by omega), Array.getElem?_toList] at this
    rw [this]
    simp [nums, hk]

set_option maxRecDepth 100000 in
set_option maxHeartbeats 400000 in
theorem eqInt64S_same (l : List Nat) (A A' : Option Addr) (c c' B B' : Nat) (hl : l.length ≤ 140737488351232) (w : World) (h : Own1 B w (.slice A l.length c) l) (h' : Own1 B' w (.slice A' l.length c') l) :
    Calls Try.prog 20 #[.slice A l.length c, .slice A' l.length c'] w fun e w' => e = .returned (.bool true) ∧ Below w.heap.size w w' := by
  have H := hide h; clear h
  have H' := hide h'; clear h'
  have hne : ((l.length : Int) != (l.length : Int)) = false := by simp
  go_enter Try.func20, Try.ntmps20
  go_wp2
  go_loopw [5] (fun i wr => ∃ k : Nat, k ≤ l.length ∧ i = .int .i64 k ∧ Below w.heap.size w wr) (fun i _ => l.length - (intOf i).toNat)
  case atStart => exact ⟨0, by omega, rfl, Below.refl _ _⟩
  case round =>
    obtain ⟨k, hk, rfl, hb⟩ := hrel
    by_cases hlt : k < l.length
    · obtain ⟨g, rfl, _, hg, h1, _⟩ := H.out.at hlt
      obtain ⟨g', rfl, _, hg', h1', _⟩ := H'.out.at hlt
      have c1 : wr.cell? ⟨g, k, none⟩ = some (.int .i64 (l[k] : Nat)) := (hb.cell (p := ⟨g, k, none⟩) hg).trans h1
      have c1' : wr.cell? ⟨g', k, none⟩ = some (.int .i64 (l[k] : Nat)) := (hb.cell (p := ⟨g', k, none⟩) hg').trans h1'
      clear h1 h1'
      generalize l[k] = x at *
      have hx : ((x : Int) != (x : Int)) = false := by simp
      go_wp2
      go_region
      all_goals go_wp2
      all_goals go_roundw
      case rel => exact ⟨k + 1, by omega, by go_num, hb.drew⟩
      case measure => simp [intOf]; omega
    · go_wp2
      go_ret
      exact ⟨rfl, hb⟩

/-- k, k + 1, .. -/
def marks (k n : Nat) : List Nat := (List.range n).map fun i => k + i
theorem marks_length (k n : Nat) : (marks k n).length = n := by unfold marks; simp
theorem marks_get (k n i : Nat) (h : i < n) : (marks k n)[i]? = some (k + i) := by unfold marks; simp [h]

theorem own_set {B : Nat} {w : World} {g n c k x : Nat} {l : List Nat} (h : Own1 B w (.slice (some ⟨g, 0, none⟩) n c) l) (hk : k < l.length) : Own1 B (w.setCell ⟨g, k, none⟩ (.int .i64 (x : Nat))) (.slice (some ⟨g, 0, none⟩) n c) (l.set k x) := by
  unfold Own1 at *
  rcases h.2 with ⟨e, _⟩ | ⟨g', cap, cur, e, hB, hh, h1, h2, h3, h4⟩
  · cases e
  · injection e with e1 e2 e3
    have : g = g' := by injection e1 with e1; injection e1
    subst this
    refine ⟨by simp [nums], .inr ⟨g, cap, cur.setIfInBounds k (.int .i64 (x : Nat)), by rw [e2, e3, List.length_set], hB, heap_setCell_same w g k cur _ _ hh, by simpa using h1, h2, by simpa using h3, ?_⟩⟩
    simp only [Array.toList_setIfInBounds, List.length_set, List.take_set]
    rw [h4]
    simp [nums, List.map_set]

set_option maxRecDepth 100000 in
set_option maxHeartbeats 400000 in
theorem markInt64S_any (l : List Nat) (A : Option Addr) (c B k0 : Nat) (hl : l.length ≤ 140737488351232) (hk0 : k0 ≤ 140737488351232) (w : World) (h : Own1 B w (.slice A l.length c) l) :
    Calls Try.prog 21 #[.slice A l.length c, .int .i64 k0] w fun e w' => e = .returned (.int .i64 (k0 + l.length : Nat)) ∧ w.grownBy w' (Value.slice A l.length c).ownBlock ∧ Own1 B w' (.slice A l.length c) (marks k0 l.length) := by
  go_enter Try.func21, Try.ntmps21
  go_wp2
  go_loopw [1, 5] (fun q i wr => ∃ k : Nat, k ≤ l.length ∧ i = .int .i64 k ∧ q = .int .i64 (k0 + k : Nat) ∧ w.grownBy wr (Value.slice A l.length c).ownBlock ∧ Own1 B wr (.slice A l.length c) (marks k0 k ++ l.drop k)) (fun _ i _ => l.length - (intOf i).toNat)
  case atStart => exact ⟨0, by omega, rfl, by simp, grown_refl _ _, by simpa [marks] using h⟩
  case round =>
    obtain ⟨k, hk, rfl, rfl, hg, ho⟩ := hrel
    by_cases hlt : k < l.length
    · have hlen : (marks k0 k ++ l.drop k).length = l.length := by rw [List.length_append, marks_length, List.length_drop]; omega
      obtain ⟨g, hA, hgB, hglt, h1, h2⟩ := ho.at (k := k) (by omega)
      have hs := own_set (x := k0 + k) (hA ▸ ho) (k := k) (by omega)
      have hset : (marks k0 k ++ l.drop k).set k (k0 + k) = marks k0 (k + 1) ++ l.drop (k + 1) := by
        rw [List.set_append_right _ _ (by rw [marks_length]; omega), marks_length, Nat.sub_self, List.drop_eq_getElem_cons hlt, List.set_cons_zero]
        unfold marks
        rw [List.range_succ, List.map_append, List.append_assoc]; rfl
      rw [hset] at hs
      generalize (marks k0 k ++ l.drop k)[k] = y at h1
      have hg2 : w.grownBy (wr.setCell ⟨g, k, none⟩ (.int .i64 (k0 + k : Nat))) (Value.slice A l.length c).ownBlock := by rw [hA]; rw [hA] at hg; exact grown_setCell hg
      subst hA
      have HS := hide hs; clear hs
      have HG := hide hg2; clear hg2
      clear hset hlen ho hg
      have hcast : ((k0 + k : Nat) : Int) = (k0 : Int) + (k : Int) := by omega
      rw [hcast] at HS HG
      rw [hcast]
      clear hcast
      go_wp2
      go_roundw
      case rel => exact ⟨k + 1, by omega, by go_num, by go_num, HG.out, HS.out⟩
      case measure => simp [intOf]; omega
    · obtain rfl : k = l.length := by omega
      go_wp2
      go_ret
      exact ⟨rfl, hg, by simpa using ho⟩

set_option maxRecDepth 100000 in
set_option maxHeartbeats 400000 in
theorem heldInt64S_any (n : Nat) (A : Option Addr) (c B k0 : Nat) (hl : n ≤ 140737488351232) (hk0 : k0 ≤ 140737488351232) (w : World) (h : Own1 B w (.slice A n c) (marks k0 n)) :
    Calls Try.prog 31 #[.slice A n c, .int .i64 k0] w fun e w' => e = .returned (.int .i64 (k0 + n : Nat)) ∧ Below w.heap.size w w' := by
  have H := hide h; clear h
  go_enter Try.func31, Try.ntmps31
  go_wp2
  go_loopw [1, 5] (fun q i wr => ∃ k : Nat, k ≤ n ∧ i = .int .i64 k ∧ q = .int .i64 (k0 + k : Nat) ∧ wr = w) (fun _ i _ => n - (intOf i).toNat)
  case atStart => exact ⟨0, by omega, rfl, by simp, rfl⟩
  case round =>
    obtain ⟨k, hk, rfl, rfl, rfl⟩ := hrel
    have hcast : ((k0 + k : Nat) : Int) = (k0 : Int) + (k : Int) := by omega
    by_cases hlt : k < n
    · have hlen : k < (marks k0 n).length := by rw [marks_length]; exact hlt
      obtain ⟨g, rfl, _, _, h1, _⟩ := H.out.at hlen
      have hv : (marks k0 n)[k] = k0 + k := by have := marks_get k0 n k hlt; rw [List.getElem?_eq_getElem hlen] at this; exact Option.some.inj this
      rw [hv, hcast] at h1
      rw [hcast]
      clear hv hcast hlen
      have hne : (((k0 : Int) + (k : Int)) != ((k0 : Int) + (k : Int))) = false := by simp
      go_wp2
      go_roundw
      case rel => exact ⟨k + 1, by omega, by go_num, by go_num, by first | rfl | trivial⟩
      case measure => simp [intOf]; omega
    · obtain rfl : k = n := by omega
      clear hcast
      go_wp2
      go_ret
      exact ⟨rfl, Below.refl _ _⟩

/-- a list of lists whose slices are known -/
structure Own2v (B : Nat) (w : World) (v : Value) (vs : List Value) (ls : List (List Nat)) : Prop where
  len : vs.length = ls.length
  row : w.ownsRow B 25 1 v vs.length vs
  each : ∀ (i : Nat) (u : Value) (l : List Nat), vs[i]? = some u → ls[i]? = some l → Own1 B w u l
  dist : ∀ (i j : Nat) (u u' : Value), i < j → vs[i]? = some u → vs[j]? = some u' → u.ownBlock = none ∨ u.ownBlock ≠ u'.ownBlock
theorem own2v {B : Nat} {w : World} {v : Value} {ls : List (List Nat)} : Own2 B w v ls ↔ ∃ vs, Own2v B w v vs ls := ⟨fun ⟨vs, a, b, c, d⟩ => ⟨vs, a, b, c, d⟩, fun ⟨vs, h⟩ => ⟨vs, h.len, h.row, h.each, h.dist⟩⟩
theorem Own2v.below {B C : Nat} {w w' : World} {v : Value} {vs : List Value} {ls : List (List Nat)} (h : Own2v B w v vs ls) (hb : Below C w w') (hC : w.heap.size ≤ C) : Own2v B w' v vs ls := by
  have hg := grown_of_below (hb.mono hC) none
  have far : ∀ u : Value, u.ownBlock = none ∨ u.ownBlock ≠ none := fun u => Classical.em _
  exact ⟨h.len, h.row.kept hg (far _), fun i u l a b => (h.each i u l a b).kept hg (far _), h.dist⟩
/-- what lies below C stays, whatever is written from C on -/
theorem Own2v.lower {B C : Nat} {w w' : World} {v : Value} {vs : List Value} {ls : List (List Nat)} (h : Own2v B w v vs ls) (hb : Below C w w') (hC : ∀ k, v.ownBlock = some k → k < C) (hC' : ∀ (i : Nat) (u : Value), vs[i]? = some u → ∀ k, u.ownBlock = some k → k < C) : Own2v B w' v vs ls := by
  have key : ∀ {e : TypeId} {s n : Nat} {u : Value} {xs : List Value}, w.ownsRow B e s u n xs → (∀ k, u.ownBlock = some k → k < C) → w'.ownsRow B e s u n xs := by
    intro e s n u xs hu hk
    refine ⟨hu.1, ?_⟩
    rcases hu.2 with c | ⟨g, cap, cur, rfl, h1, h2, h3⟩
    · exact .inl c
    · exact .inr ⟨g, cap, cur, rfl, h1, by rw [hb.block g (hk g rfl)]; exact h2, h3⟩
  exact ⟨h.len, key h.row hC, fun i u l a b => key (h.each i u l a b) (hC' i u a), h.dist⟩
/-- the i-th slice out of the row -/
theorem Own2v.at {B : Nat} {w : World} {A : Option Addr} {n c i : Nat} {vs : List Value} {ls : List (List Nat)} (h : Own2v B w (.slice A n c) vs ls) (hi : i < ls.length) :
    ∃ g A' c', A = some ⟨g, 0, none⟩ ∧ g < w.heap.size ∧ vs[i]? = some (.slice A' ls[i].length c') ∧ w.cell? ⟨g, i, none⟩ = some (.slice A' ls[i].length c') ∧ Own1 B w (.slice A' ls[i].length c') ls[i] := by
  have hv : i < vs.length := by rw [h.len]; exact hi
  have h1 := h.each i _ _ (List.getElem?_eq_getElem hv) (List.getElem?_eq_getElem hi)
  obtain ⟨A', c', e⟩ := own_slice h1
  rcases h.row.2 with ⟨_, h0⟩ | ⟨g, cap, cur, e', hB, hh, h2, h3, h4, h5⟩
  · omega
  · injection e' with e1 e2 e3
    have hlt : g < w.heap.size := (Array.getElem?_eq_some_iff.1 hh).1
    refine ⟨g, A', c', e1, hlt, by rw [List.getElem?_eq_getElem hv, e], ?_, by rw [← e]; exact h1⟩
    rw [cell_of_cells, cellsOf_heap hh]
    have : (cur.toList.take (vs.length * 1))[i]? = vs[i]? := by rw [h5]
    rw [List.getElem?_take_of_lt (by omega), Array.getElem?_toList] at this
    rw [this, List.getElem?_eq_getElem hv, e]
/-- one row is turned -/
theorem Own2v.upd {B i : Nat} {w w' : World} {v u : Value} {l : List Nat} {vs : List Value} {ls : List (List Nat)} (h : Own2v B w v vs ls) (hi : i < ls.length) (hu : vs[i]? = some u) (hg : w.grownBy w' u.ownBlock) (hn : Own1 B w' u l) : Own2v B w' v vs (ls.set i l) := by
  have hiu := h.each i u _ hu (List.getElem?_eq_getElem hi)
  refine ⟨by rw [List.length_set]; exact h.len, h.row.kept hg (own_ne h.row hiu (by decide)), ?_, h.dist⟩
  intro j x m hx hm
  by_cases e : i = j
  · subst e
    rw [hu] at hx
    simp only [Option.some.injEq] at hx
    subst hx
    rw [List.getElem?_set_self hi] at hm
    simp only [Option.some.injEq] at hm
    subst hm
    exact hn
  · rw [List.getElem?_set_ne e] at hm
    refine (h.each j x m hx hm).kept hg ?_
    rcases Nat.lt_or_ge i j with c | c
    · rcases hb : x.ownBlock with _ | k
      · exact .inl rfl
      · refine .inr fun e' => ?_
        rcases h.dist i j u x c hu hx with d | d
        · rw [d] at e'; cases e'
        · exact d (by rw [hb, e'])
    · exact h.dist j i x u (by omega) hx hu

def total (ls : List (List Nat)) : Nat := (ls.map List.length).sum
/-- all numbers counted through -/
def marksL (k : Nat) : List (List Nat) → List (List Nat)
  | [] => []
  | l :: ls => marks k l.length :: marksL (k + l.length) ls
theorem marksL_length (ls : List (List Nat)) : ∀ k, (marksL k ls).length = ls.length := by
  induction ls with
  | nil => intro k; rfl
  | cons l ls ih => intro k; simp [marksL, ih]
theorem marksL_get (ls : List (List Nat)) : ∀ (k i : Nat) (h : i < ls.length), (marksL k ls)[i]? = some (marks (k + total (ls.take i)) ls[i].length) := by
  induction ls with
  | nil => intro k i h; simp at h
  | cons l ls ih =>
    intro k i h
    rcases i with _ | i
    · simp [marksL, total]
    · simp only [List.length_cons] at h
      simp only [marksL, List.getElem?_cons_succ, List.take_succ_cons, List.getElem_cons_succ]
      rw [ih (k + l.length) i (by omega)]
      simp [total, Nat.add_assoc]
theorem total_take_succ (ls : List (List Nat)) (i : Nat) (h : i < ls.length) : total (ls.take (i + 1)) = total (ls.take i) + ls[i].length := by
  unfold total
  rw [List.take_succ_eq_append_getElem h, List.map_append, List.sum_append]
  simp
theorem total_take_le (ls : List (List Nat)) (i : Nat) : total (ls.take i) ≤ total ls := by
  unfold total
  conv => rhs; rw [← List.take_append_drop i ls, List.map_append, List.sum_append]
  omega
theorem len_le_total (ls : List (List Nat)) (i : Nat) (h : i < ls.length) : ls[i].length ≤ total ls := by
  have := total_take_succ ls i h
  have := total_take_le ls (i + 1)
  omega

set_option maxRecDepth 100000 in
set_option maxHeartbeats 400000 in
theorem markInt64SS_any (ls : List (List Nat)) (A : Option Addr) (c B k0 : Nat) (vs : List Value) (hl : total ls ≤ 1000000) (hl2 : ls.length ≤ 1000000) (hk0 : k0 ≤ 1000000) (w : World) (hBw : B ≤ w.heap.size) (h : Own2v B w (.slice A ls.length c) vs ls) :
    Calls Try.prog 22 #[.slice A ls.length c, .int .i64 k0] w fun e w' => e = .returned (.int .i64 (k0 + total ls : Nat)) ∧ Below B w w' ∧ w.heap.size ≤ w'.heap.size ∧ Own2v B w' (.slice A ls.length c) vs (marksL k0 ls) := by
  go_enter Try.func22, Try.ntmps22
  go_wp2
  go_loopw [1, 5] (fun q i wr => ∃ k : Nat, k ≤ ls.length ∧ i = .int .i64 k ∧ q = .int .i64 (k0 + total (ls.take k) : Nat) ∧ Below B w wr ∧ Own2v B wr (.slice A ls.length c) vs ((marksL k0 ls).take k ++ ls.drop k)) (fun _ i _ => ls.length - (intOf i).toNat)
  case atStart => exact ⟨0, by omega, rfl, by simp [total], Below.refl _ _, by simpa using h⟩
  case round =>
    obtain ⟨k, hk, rfl, rfl, hb, ho⟩ := hrel
    have ht := total_take_le ls k
    by_cases hlt : k < ls.length
    · have hml : ((marksL k0 ls).take k).length = k := by rw [List.length_take, marksL_length]; omega
      have hlen : k < ((marksL k0 ls).take k ++ ls.drop k).length := by rw [List.length_append, hml, List.length_drop]; omega
      have hge : ((marksL k0 ls).take k ++ ls.drop k)[k] = ls[k] := by
        rw [List.getElem_append_right (by omega)]
        simp only [hml, Nat.sub_self, List.getElem_drop, Nat.add_zero]
      obtain ⟨g, A', c', rfl, hg, hv, hc, h1⟩ := ho.at hlen
      rw [hge] at hv hc h1
      have hle := len_le_total ls k hlt
      have hts := total_take_succ ls k hlt
      have hset : ((marksL k0 ls).take k ++ ls.drop k).set k (marks (k0 + total (ls.take k)) ls[k].length) = (marksL k0 ls).take (k + 1) ++ ls.drop (k + 1) := by
        have hkm : k < (marksL k0 ls).length := by rw [marksL_length]; exact hlt
        have e : (marksL k0 ls)[k] = marks (k0 + total (ls.take k)) ls[k].length := by
          have := marksL_get ls k0 k hlt
          rw [List.getElem?_eq_getElem hkm] at this
          exact Option.some.inj this
        rw [List.set_append_right _ _ (by omega), hml, Nat.sub_self, List.drop_eq_getElem_cons hlt, List.set_cons_zero, List.take_succ_eq_append_getElem hkm, e, List.append_assoc]
        rfl
      have C := hide (markInt64S_any ls[k] A' c' B (k0 + total (ls.take k)) (by omega) (by omega) wr h1)
      have hrow : ∀ x, (Value.slice A' ls[k].length c').ownBlock = some x → B ≤ x := fun x hx => (World.ownsRow.lt h1 x hx).1
      have hBr : B ≤ wr.heap.size := Nat.le_trans hBw hb.size
      clear hge
      have HSET := hide hset; clear hset
      have HV := hide hv; clear hv
      have HO := hide ho; clear ho
      have HT := hide hts; clear hts
      have H1 := hide h1; clear h1
      have HR := hide hrow; clear hrow
      have HLEN := hide hlen; clear hlen
      clear hml
      go_wp2_with fail
      refine C.out.mono ?_
      rintro e w1 ⟨rfl, hg1, hn⟩
      have hO := HO.out.upd HLEN.out HV.out hg1 hn
      rw [HSET.out] at hO
      have hbw : Below B w w1 := below_grown hb hg1 hBr HR.out
      have HOO := hide hO; clear hO
      clear hn hg1 hc
      go_wp2
      go_roundw
      case rel => exact ⟨k + 1, by omega, by go_num, by rw [HT.out]; go_num, hbw, HOO.out⟩
      case measure => simp [intOf]; omega
    · obtain rfl : k = ls.length := by omega
      go_wp2
      go_ret
      exact ⟨by simp, hb, hb.size, by have := ho; rwa [List.drop_length, List.append_nil, List.take_of_length_le (by rw [marksL_length]; omega)] at this⟩

set_option maxRecDepth 100000 in
set_option maxHeartbeats 400000 in
theorem heldInt64SS_any (ls : List (List Nat)) (A : Option Addr) (c B k0 : Nat) (vs : List Value) (hl : total ls ≤ 1000000) (hl2 : ls.length ≤ 1000000) (hk0 : k0 ≤ 1000000) (w : World) (h : Own2v B w (.slice A ls.length c) vs (marksL k0 ls)) :
    Calls Try.prog 23 #[.slice A ls.length c, .int .i64 k0] w fun e w' => e = .returned (.int .i64 (k0 + total ls : Nat)) ∧ Below w.heap.size w w' := by
  have H := hide h; clear h
  go_enter Try.func23, Try.ntmps23
  go_wp2
  go_loopw [1, 5] (fun q i wr => ∃ k : Nat, k ≤ ls.length ∧ i = .int .i64 k ∧ q = .int .i64 (k0 + total (ls.take k) : Nat) ∧ Below w.heap.size w wr) (fun _ i _ => ls.length - (intOf i).toNat)
  case atStart => exact ⟨0, by omega, rfl, by simp [total], Below.refl _ _⟩
  case round =>
    obtain ⟨k, hk, rfl, rfl, hb⟩ := hrel
    have ht := total_take_le ls k
    by_cases hlt : k < ls.length
    · have hmk : k < (marksL k0 ls).length := by rw [marksL_length]; exact hlt
      have e : (marksL k0 ls)[k] = marks (k0 + total (ls.take k)) ls[k].length := by
        have := marksL_get ls k0 k hlt
        rw [List.getElem?_eq_getElem hmk] at this
        exact Option.some.inj this
      obtain ⟨g, A', c', rfl, hg, hv, hc, h1⟩ := (H.out.below hb (Nat.le_refl _)).at hmk
      rw [e, marks_length] at hc h1
      clear hv
      have hle := len_le_total ls k hlt
      have hts := total_take_succ ls k hlt
      have C := hide (heldInt64S_any ls[k].length A' c' B (k0 + total (ls.take k)) (by omega) (by omega) wr h1)
      have HT := hide hts; clear hts
      clear e hmk h1
      have hneg : decide (((k0 + total (ls.take k) + ls[k].length : Nat) : Int) < 0) = false := by simp; omega
      go_wp2_with fail
      refine C.out.mono ?_
      rintro e w1 ⟨rfl, hb1⟩
      have hbb := hb.trans (hb1.mono hb.size)
      clear hc hb1
      go_wp2
      go_roundw
      case rel => exact ⟨k + 1, by omega, by go_num, by rw [HT.out]; go_num, hbb⟩
      case measure => simp [intOf]; omega
    · obtain rfl : k = ls.length := by omega
      go_wp2
      go_ret
      exact ⟨by simp, hb⟩

set_option maxRecDepth 100000 in
set_option maxHeartbeats 400000 in
theorem eqInt64SS_same (ls : List (List Nat)) (A A' : Option Addr) (c c' B B' : Nat) (vs vs' : List Value) (hl : total ls ≤ 1000000) (hl2 : ls.length ≤ 1000000) (w : World)
    (h : Own2v B w (.slice A ls.length c) vs ls) (h' : Own2v B' w (.slice A' ls.length c') vs' ls) :
    Calls Try.prog 19 #[.slice A ls.length c, .slice A' ls.length c'] w fun e w' => e = .returned (.bool true) ∧ Below w.heap.size w w' := by
  have H := hide h; clear h
  have H' := hide h'; clear h'
  have hne : ((ls.length : Int) != (ls.length : Int)) = false := by simp
  go_enter Try.func19, Try.ntmps19
  go_wp2
  go_loopw [5] (fun i wr => ∃ k : Nat, k ≤ ls.length ∧ i = .int .i64 k ∧ Below w.heap.size w wr) (fun i _ => ls.length - (intOf i).toNat)
  case atStart => exact ⟨0, by omega, rfl, Below.refl _ _⟩
  case round =>
    obtain ⟨k, hk, rfl, hb⟩ := hrel
    by_cases hlt : k < ls.length
    · obtain ⟨g, B1, b1, rfl, hg, _, hc, h1⟩ := H.out.at hlt
      obtain ⟨g', B2, b2, rfl, hg', _, hc', h1'⟩ := H'.out.at hlt
      have c1 : wr.cell? ⟨g, k, none⟩ = some (.slice B1 ls[k].length b1) := (hb.cell (p := ⟨g, k, none⟩) hg).trans hc
      have c2 : wr.cell? ⟨g', k, none⟩ = some (.slice B2 ls[k].length b2) := (hb.cell (p := ⟨g', k, none⟩) hg').trans hc'
      have hle := len_le_total ls k hlt
      have far : ∀ u : Value, u.ownBlock = none ∨ u.ownBlock ≠ none := fun u => Classical.em _
      have o1 := h1.kept (grown_of_below hb none) (far _)
      have o2 := h1'.kept (grown_of_below hb none) (far _)
      have C := hide fun W (e : W.heap = wr.heap) => eqInt64S_same ls[k] B1 B2 b1 b2 B B' (by omega) W (show W.ownsRow _ _ _ _ _ _ by unfold Own1 World.ownsRow at o1; unfold World.ownsRow; rw [e]; exact o1) (show W.ownsRow _ _ _ _ _ _ by unfold Own1 World.ownsRow at o2; unfold World.ownsRow; rw [e]; exact o2)
      clear hc hc' h1 h1' far o1 o2
      go_wp2
      go_region_with (go_at_call 20; refine (C.out _ ?_).mono ?_; rfl; rintro e w1 ⟨rfl, hb1⟩)
      all_goals
        have hbb : Below w.heap.size w w1 := hb.drew.trans (hb1.mono hb.size)
        clear hb1 c1 c2
        go_wp2
        go_roundw
        case rel => exact ⟨k + 1, by omega, by go_num, hbb⟩
        case measure => simp [intOf]; omega
    · go_wp2
      go_ret
      exact ⟨rfl, hb⟩
theorem own2_form {B : Nat} {w : World} {v : Value} {ls : List (List Nat)} (h : Own2 B w v ls) : ∃ A c vs, v = .slice A ls.length c ∧ Own2v B w (.slice A ls.length c) vs ls := by
  obtain ⟨A, c, rfl⟩ := h.form
  obtain ⟨vs, hv⟩ := own2v.1 h
  exact ⟨A, c, vs, rfl, hv⟩
theorem Own2v.lt {B : Nat} {w : World} {v : Value} {vs : List Value} {ls : List (List Nat)} (h : Own2v B w v vs ls) : (∀ k, v.ownBlock = some k → k < w.heap.size) ∧ ∀ (i : Nat) (u : Value), vs[i]? = some u → ∀ k, u.ownBlock = some k → k < w.heap.size := by
  refine ⟨fun k hk => (h.row.lt k hk).2, fun i u hu k hk => ?_⟩
  have hi : i < ls.length := by rw [← h.len]; exact (List.getElem?_eq_some_iff.1 hu).1
  exact (World.ownsRow.lt (h.each i u _ hu (List.getElem?_eq_getElem hi)) k hk).2
theorem mark1 (ls : List (List Nat)) (A : Option Addr) (c B : Nat) (vs : List Value) (hl : total ls ≤ 1000000) (hl2 : ls.length ≤ 1000000) (w : World) (hBw : B ≤ w.heap.size) (h : Own2v B w (.slice A ls.length c) vs ls) :
    Calls Try.prog 22 #[.slice A ls.length c, .int .i64 1] w fun e w' => e = .returned (.int .i64 (1 + total ls : Nat)) ∧ Below B w w' ∧ w.heap.size ≤ w'.heap.size ∧ Own2v B w' (.slice A ls.length c) vs (marksL 1 ls) :=
  markInt64SS_any ls A c B 1 vs hl hl2 (by omega) w hBw h
theorem held1 (ls : List (List Nat)) (A : Option Addr) (c B : Nat) (vs : List Value) (hl : total ls ≤ 1000000) (hl2 : ls.length ≤ 1000000) (w : World) (h : Own2v B w (.slice A ls.length c) vs (marksL 1 ls)) :
    Calls Try.prog 23 #[.slice A ls.length c, .int .i64 1] w fun e w' => e = .returned (.int .i64 (1 + total ls : Nat)) ∧ Below w.heap.size w w' :=
  heldInt64SS_any ls A c B 1 vs hl hl2 (by omega) w h

end Go.Proofs.Ytmapjjfefjoemaa

namespace Go.Proofs.Ytmapjjfefjoemaa
open Go.RowKit

theorem own1_form {B : Nat} {w : World} {v : Value} {l : List Nat} (h : Own1 B w v l) : ∃ A c, v = .slice A l.length c ∧ Own1 B w (.slice A l.length c) l := by
  obtain ⟨A, c, rfl⟩ := own_slice h
  exact ⟨A, c, rfl, h⟩
theorem Own1.below {B C : Nat} {w w' : World} {v : Value} {l : List Nat} (h : Own1 B w v l) (hb : Below C w w') (hC : w.heap.size ≤ C) : Own1 B w' v l := h.kept (grown_of_below (hb.mono hC) none) (Classical.em _)
theorem Own1.lower {B C : Nat} {w w' : World} {v : Value} {l : List Nat} (h : Own1 B w v l) (hb : Below C w w') (hC : ∀ k, v.ownBlock = some k → k < C) : Own1 B w' v l := by
  refine ⟨h.1, ?_⟩
  rcases h.2 with c | ⟨g, cap, cur, rfl, h1, h2, h3⟩
  · exact .inl c
  · exact .inr ⟨g, cap, cur, rfl, h1, by rw [hb.block g (hC g rfl)]; exact h2, h3⟩
theorem Own1.low {B : Nat} {w : World} {v : Value} {l : List Nat} (h : Own1 B w v l) : ∀ k, v.ownBlock = some k → k < w.heap.size := fun k hk => (World.ownsRow.lt h k hk).2
theorem mk1 (l : List Nat) (A : Option Addr) (c B : Nat) (hl : l.length ≤ 1000000) (w : World) (hBw : B ≤ w.heap.size) (h : Own1 B w (.slice A l.length c) l) :
    Calls Try.prog 21 #[.slice A l.length c, .int .i64 1] w fun e w' => e = .returned (.int .i64 (1 + l.length : Nat)) ∧ Below B w w' ∧ w.heap.size ≤ w'.heap.size ∧ Own1 B w' (.slice A l.length c) (marks 1 l.length) :=
  (markInt64S_any l A c B 1 (by omega) (by omega) w h).mono fun e w' ⟨h1, h2, h3⟩ => ⟨h1, (Below.refl B w).grown h2 hBw (fun g hg => (World.ownsRow.lt h g hg).1), h2.size, h3⟩
theorem hd1 (l : List Nat) (A : Option Addr) (c B : Nat) (hl : l.length ≤ 1000000) (w : World) (h : Own1 B w (.slice A l.length c) (marks 1 l.length)) :
    Calls Try.prog 31 #[.slice A l.length c, .int .i64 1] w fun e w' => e = .returned (.int .i64 (1 + l.length : Nat)) ∧ Below w.heap.size w w' :=
  heldInt64S_any l.length A c B 1 (by omega) (by omega) w h
end Go.Proofs.Ytmapjjfefjoemaa

namespace Go.Proofs.Ytmapjjfefjoemaa
open Go.RowKit

/-- a part of memory: its blocks, and what holds of them -/
structure Part where
  own : Nat → Prop
  ok : World → Prop
  keep : ∀ w w' : World, ok w → (∀ g, own g → w'.heap[g]? = w.heap[g]?) → ok w'
  lt : ∀ (w : World) (g : Nat), ok w → own g → g < w.heap.size

theorem lt_of_some {w : World} {g : Nat} {o : Obj} (h : w.heap[g]? = some o) : g < w.heap.size := (Array.getElem?_eq_some_iff.1 h).1

/-- a whole block of cells -/
def pBlk (g : Nat) (c : Array Value) (t : TypeId) : Part where
  own k := k = g
  ok w := w.heap[g]? = some (.cells c t (0, 0))
  keep _ _ h k := (k g rfl).trans h
  lt _ _ h k := by subst k; exact lt_of_some h
/-- another object -/
def pObj (g : Nat) (o : Obj) : Part where
  own k := k = g
  ok w := w.heap[g]? = some o
  keep _ _ h k := (k g rfl).trans h
  lt _ _ h k := by subst k; exact lt_of_some h
/-- a row that grows -/
def pRow (v : Value) (e : TypeId) (s n : Nat) (xs : List Value) : Part where
  own k := v.ownBlock = some k
  ok w := w.ownsRow 0 e s v n xs
  keep w w' h k := by
    refine ⟨h.1, ?_⟩
    rcases h.2 with ⟨rfl, rfl⟩ | ⟨g, cap, cur, rfl, hb, hg, h1⟩
    · exact .inl ⟨rfl, rfl⟩
    · exact .inr ⟨g, cap, cur, rfl, hb, (k g rfl).trans hg, h1⟩
  lt w g h k := (World.ownsRow.lt h g k).2
/-- all of some parts -/
def Holds (w0 w : World) (L : List Part) : Prop :=
  Below w0.heap.size w0 w ∧ (∀ a ∈ L, a.ok w ∧ ∀ g, a.own g → w0.heap.size ≤ g) ∧ L.Pairwise (fun a b => ∀ g, a.own g → b.own g → False)

theorem Holds.start (w : World) : Holds w w [] := ⟨Below.refl _ _, by simp, List.Pairwise.nil⟩
theorem Holds.low {w0 w : World} {L : List Part} (h : Holds w0 w L) : Below w0.heap.size w0 w := h.1
theorem Holds.size {w0 w : World} {L : List Part} (h : Holds w0 w L) : w0.heap.size ≤ w.heap.size := h.1.size
theorem Holds.at {w0 w : World} {L : List Part} (h : Holds w0 w L) (i : Nat) {a : Part} (hi : L[i]? = some a) : a.ok w := (h.2.1 a (List.mem_of_getElem? hi)).1
theorem Holds.above {w0 w : World} {L : List Part} (h : Holds w0 w L) (i : Nat) {a : Part} (hi : L[i]? = some a) {g : Nat} (hg : a.own g) : w0.heap.size ≤ g := (h.2.1 a (List.mem_of_getElem? hi)).2 g hg
theorem Holds.apart {w0 w : World} {L : List Part} (h : Holds w0 w L) {i j : Nat} (hij : i ≠ j) {a b : Part} (hi : L[i]? = some a) (hj : L[j]? = some b) {g : Nat} (ha : a.own g) (hb : b.own g) : False := by
  have hp := List.pairwise_iff_getElem.1 h.2.2
  obtain ⟨hi', rfl⟩ := List.getElem?_eq_some_iff.1 hi
  obtain ⟨hj', rfl⟩ := List.getElem?_eq_some_iff.1 hj
  rcases Nat.lt_or_gt_of_ne hij with c | c
  · exact hp i j hi' hj' c g ha hb
  · exact hp j i hj' hi' c g hb ha
theorem Holds.sub {w0 w : World} {L L' : List Part} (h : Holds w0 w L) (hs : L'.Sublist L) : Holds w0 w L' := ⟨h.1, fun a ha => h.2.1 a (hs.subset ha), h.2.2.sublist hs⟩
theorem Holds.tail {w0 w : World} {a : Part} {L : List Part} (h : Holds w0 w (a :: L)) : Holds w0 w L := h.sub (List.sublist_cons_self a L)
/-- nothing that existed has turned -/
theorem Holds.call {w0 w w' : World} {L : List Part} (h : Holds w0 w L) (hb : Below w.heap.size w w') : Holds w0 w' L :=
  ⟨h.1.trans (hb.mono h.1.size), fun a ha => ⟨a.keep _ _ (h.2.1 a ha).1 fun g hg => hb.block g (a.lt _ _ (h.2.1 a ha).1 hg), (h.2.1 a ha).2⟩, h.2.2⟩
theorem Holds.drew {w0 w : World} {L : List Part} (h : Holds w0 w L) : Holds w0 w.drew L :=
  ⟨h.1.drew, fun a ha => ⟨a.keep _ _ (h.2.1 a ha).1 fun _ _ => rfl, (h.2.1 a ha).2⟩, h.2.2⟩
theorem Holds.drewN {w0 w : World} {L : List Part} (h : Holds w0 w L) (n : Nat) : Holds w0 (w.drewN n) L :=
  ⟨⟨h.1.os, h.1.tape, h.1.output, h.1.size, h.1.block⟩, fun a ha => ⟨a.keep _ _ (h.2.1 a ha).1 fun _ _ => rfl, (h.2.1 a ha).2⟩, h.2.2⟩
/-- a part more, all of it new -/
theorem Holds.new {w0 w w' : World} {L : List Part} (h : Holds w0 w L) (hb : Below w.heap.size w w') (a : Part) (ha : a.ok w') (hn : ∀ g, a.own g → w.heap.size ≤ g) : Holds w0 w' (a :: L) := by
  have h' := h.call hb
  refine ⟨h'.1, fun b hb => ?_, List.pairwise_cons.2 ⟨fun b hb' g hg hg' => ?_, h'.2.2⟩⟩
  · rcases List.mem_cons.1 hb with rfl | hb
    · exact ⟨ha, fun g hg => Nat.le_trans h.1.size (hn g hg)⟩
    · exact h'.2.1 b hb
  · have := b.lt _ _ (h.2.1 b hb').1 hg'
    have := hn g hg
    omega
theorem Holds.alloc {w0 w : World} {L : List Part} (h : Holds w0 w L) (o : Obj) : Holds w0 (w.alloc o) L := h.call (below1 w o)
theorem Holds.blk {w0 w : World} {L : List Part} (h : Holds w0 w L) (c : Array Value) (t : TypeId) (g : Nat) (hg : g = w.heap.size) : Holds w0 (w.alloc (.cells c t)) (pBlk g c t :: L) :=
  h.new (below1 w _) _ (heap_at _ _ _ hg) fun k hk => by cases hk; omega
theorem Holds.obj {w0 w : World} {L : List Part} (h : Holds w0 w L) (o : Obj) (g : Nat) (hg : g = w.heap.size) : Holds w0 (w.alloc o) (pObj g o :: L) :=
  h.new (below1 w _) _ (heap_at _ _ _ hg) fun k hk => by cases hk; omega
/-- one part is turned, alone -/
theorem Holds.turn {w0 w w' : World} {L : List Part} (h : Holds w0 w L) (i : Nat) {a : Part} (hi : L[i]? = some a) (a' : Part) (ha' : a'.ok w') (ho : w'.os = w.os) (ht : w'.tape = w.tape) (hu : w'.output = w.output) (hs : w.heap.size ≤ w'.heap.size)
    (hk : ∀ g, g < w.heap.size → ¬ a.own g → w'.heap[g]? = w.heap[g]?) (hn : ∀ g, a'.own g → a.own g ∨ w.heap.size ≤ g) : Holds w0 w' (L.set i a') := by
  obtain ⟨hil, hie⟩ := List.getElem?_eq_some_iff.1 hi
  have low : Below w0.heap.size w0 w' := h.1.trans ⟨ho, ht, hu, hs, fun g hg => hk g (Nat.lt_of_lt_of_le hg h.1.size) fun hg' => by have := h.above i hi hg'; omega⟩
  have old : ∀ j (b : Part), j ≠ i → L[j]? = some b → b.ok w' := fun j b hj hb => b.keep _ _ (h.at j hb) fun g hg => hk g (b.lt _ _ (h.at j hb) hg) fun hg' => h.apart hj hb hi hg hg'
  have ab : ∀ g, a'.own g → w0.heap.size ≤ g := fun g hg => by
    rcases hn g hg with c | c
    · exact h.above i hi c
    · exact Nat.le_trans h.1.size c
  have far : ∀ j (b : Part) g, j ≠ i → L[j]? = some b → b.own g → a'.own g → False := fun j b g hj hb hg hg' => by
    rcases hn g hg' with c | c
    · exact h.apart hj hb hi hg c
    · have := b.lt _ _ (h.at j hb) hg; omega
  refine ⟨low, fun b hb => ?_, List.pairwise_iff_getElem.2 fun j k hj hk' hjk g h1 h2 => ?_⟩
  · obtain ⟨j, hj⟩ := List.getElem?_of_mem hb
    rw [List.getElem?_set] at hj
    by_cases e : i = j
    · rw [if_pos e, if_pos hil] at hj
      cases hj
      exact ⟨ha', ab⟩
    · rw [if_neg e] at hj
      exact ⟨old j b (Ne.symm e) hj, fun g hg => h.above j hj hg⟩
  · rw [List.length_set] at hj hk'
    rw [List.getElem_set] at h1 h2
    by_cases e : i = j
    · rw [if_pos e] at h1
      rw [if_neg (by omega)] at h2
      exact far k _ g (by omega) (List.getElem?_eq_getElem hk') h2 h1
    · rw [if_neg e] at h1
      by_cases e' : i = k
      · rw [if_pos e'] at h2
        exact far j _ g (by omega) (List.getElem?_eq_getElem hj) h1 h2
      · rw [if_neg e'] at h2
        exact h.apart (by omega) (List.getElem?_eq_getElem hj) (List.getElem?_eq_getElem hk') h1 h2
/-- .. by a row of cells of its own that has grown -/
theorem Holds.grow {w0 w w' : World} {L : List Part} (h : Holds w0 w L) (i : Nat) {a : Part} (hi : L[i]? = some a) (a' : Part) (ha' : a'.ok w') {r : Option Nat} (hg : w.grownBy w' r) (hr : ∀ g, r = some g → a.own g) (hn : ∀ g, a'.own g → a.own g ∨ w.heap.size ≤ g) : Holds w0 w' (L.set i a') :=
  h.turn i hi a' ha' hg.os hg.tape hg.output hg.size (fun g hl ho => hg.block g hl fun e => ho (hr g e.symm)) hn
theorem heap_setCell_ne (w : World) (g j k : Nat) (v : Value) (h : k ≠ g) : (w.setCell ⟨g, j, none⟩ v).heap[k]? = w.heap[k]? := Below.heap_setCell w ⟨g, j, none⟩ v k h
/-- a store into a cell of a block -/
theorem Holds.set {w0 w : World} {L : List Part} (h : Holds w0 w L) (i : Nat) {g : Nat} {c : Array Value} {t : TypeId} (hi : L[i]? = some (pBlk g c t)) (j : Nat) (v : Value) : Holds w0 (w.setCell ⟨g, j, none⟩ v) (L.set i (pBlk g (c.setIfInBounds j v) t)) :=
  h.turn i hi _ (heap_setCell_same _ _ _ _ _ _ (h.at i hi)) rfl rfl rfl (by simp) (fun k _ ho => heap_setCell_ne _ _ _ _ _ ho) fun k hk => .inl hk
/-- a store of a whole block -/
theorem Holds.setRow {w0 w : World} {L : List Part} (h : Holds w0 w L) (i : Nat) {g : Nat} {c : Array Value} {t : TypeId} (hi : L[i]? = some (pBlk g c t)) (c' : Array Value) : Holds w0 (w.setRow g c') (L.set i (pBlk g c' t)) :=
  h.turn i hi _ (setRow_heap _ _ _ _ t (0, 0) (h.at i hi)) rfl rfl rfl (by simp) (fun k _ ho => setRow_other _ _ _ _ ho) fun k hk => .inl hk
/-- what the walk asks of a block -/
theorem Holds.cells {w0 w : World} {L : List Part} (h : Holds w0 w L) (i : Nat) {g : Nat} {c : Array Value} {t : TypeId} (hi : L[i]? = some (pBlk g c t)) : cellsOf w g = c := cellsOf_heap (h.at i hi)
theorem Holds.rowOk {w0 w : World} {L : List Part} (h : Holds w0 w L) (i : Nat) {g : Nat} {c : Array Value} {t : TypeId} (hi : L[i]? = some (pBlk g c t)) {n : Nat} (hn : c.size = n) : rowOk w g n := ⟨c, t, h.at i hi, hn⟩
theorem Holds.cell {w0 w : World} {L : List Part} (h : Holds w0 w L) (i : Nat) {g : Nat} {c : Array Value} {t : TypeId} (hi : L[i]? = some (pBlk g c t)) {j : Nat} {v : Value} (hv : c[j]? = some v) : w.cell? ⟨g, j, none⟩ = some v := by rw [cell_of_cells, h.cells i hi]; exact hv
theorem Holds.frozen {w0 w : World} {L : List Part} (h : Holds w0 w L) (i : Nat) {g : Nat} {c : Array Value} {t : TypeId} (hi : L[i]? = some (pBlk g c t)) (j : Nat) : w.frozen? ⟨g, j, none⟩ = false := by
  have := h.at i hi
  simp only [pBlk] at this
  simp [World.frozen?, this]
theorem Holds.lt {w0 w : World} {L : List Part} (h : Holds w0 w L) (i : Nat) {g : Nat} {c : Array Value} {t : TypeId} (hi : L[i]? = some (pBlk g c t)) : g < w.heap.size := lt_of_some (h.at i hi)
/-- a row by its cells -/
theorem row_at {w : World} {B : Nat} {v : Value} {e : TypeId} {s n : Nat} {xs : List Value} (h : w.ownsRow B e s v n xs) (hn : 0 < n) :
    ∃ g c, v = .slice (some ⟨g, 0, none⟩) n c ∧ B ≤ g ∧ g < w.heap.size ∧ n ≤ c ∧ c ≤ maxLen ∧ (∀ j u, xs[j]? = some u → w.cell? ⟨g, j, none⟩ = some u) ∧ ∀ j, w.frozen? ⟨g, j, none⟩ = false := by
  rcases h.2 with ⟨_, e⟩ | ⟨g, cap, cur, rfl, hB, hh, h1, h2, h3, h4⟩
  · omega
  · refine ⟨g, cap, rfl, hB, lt_of_some hh, h1, h2, fun j u hu => ?_, fun j => by simp [World.frozen?, hh]⟩
    rw [cell_of_cells, cellsOf_heap hh]
    have hj : j < xs.length := (List.getElem?_eq_some_iff.1 hu).1
    rw [h.1] at hj
    rw [← h4, List.getElem?_take_of_lt hj, Array.getElem?_toList] at hu
    exact hu
theorem Holds.row {w0 w : World} {L : List Part} (h : Holds w0 w L) (i : Nat) {v : Value} {e : TypeId} {s n : Nat} {xs : List Value} (hi : L[i]? = some (pRow v e s n xs)) : w.ownsRow w0.heap.size e s v n xs := by
  have h1 : w.ownsRow 0 e s v n xs := h.at i hi
  refine ⟨h1.1, ?_⟩
  rcases h1.2 with c | ⟨g, cap, cur, rfl, _, k⟩
  · exact .inl c
  · exact .inr ⟨g, cap, cur, rfl, h.above i hi rfl, k⟩
theorem row_low {w : World} {B B' : Nat} {e : TypeId} {s n : Nat} {v : Value} {xs : List Value} (h : w.ownsRow B e s v n xs) (hB : B' ≤ B) : w.ownsRow B' e s v n xs :=
  ⟨h.1, h.2.imp id fun ⟨g, cap, cur, h1, h2, h3⟩ => ⟨g, cap, cur, h1, by omega, h3⟩⟩
/-- a new row -/
theorem Holds.newRow {w0 w w' : World} {L : List Part} (h : Holds w0 w L) (hb : Below w.heap.size w w') {v : Value} {e : TypeId} {s n : Nat} {xs : List Value} (hr : w'.ownsRow w.heap.size e s v n xs) : Holds w0 w' (pRow v e s n xs :: L) :=
  h.new hb _ (row_low hr (Nat.zero_le _)) fun g hg => (hr.lt g hg).1
/-- a block that is a row -/
theorem Holds.rowNew {w0 w : World} {L : List Part} (h : Holds w0 w L) (cs : Array Value) (e : TypeId) (s n g : Nat) (hg : g = w.heap.size) (hs : cs.size = n * s) (hn : n ≤ maxLen) : Holds w0 (w.alloc (.cells cs e)) (pRow (.slice (some ⟨g, 0, none⟩) n n) e s n cs.toList :: L) :=
by
  have hr : (w.alloc (.cells cs e)).ownsRow 0 e s (.slice (some ⟨g, 0, none⟩) n n) n cs.toList :=
    ⟨by rw [Array.length_toList]; exact hs, .inr ⟨g, n, cs, rfl, Nat.zero_le _, heap_at _ _ _ hg, Nat.le_refl _, hn, hs, by rw [← hs, ← Array.length_toList, List.take_length]⟩⟩
  refine h.new (below1 w _) _ hr fun k hk => ?_
  have : g = k := by simpa [pRow, Value.ownBlock] using hk
  omega
theorem Holds.nilRow {w0 w : World} {L : List Part} (h : Holds w0 w L) (e : TypeId) (s : Nat) : Holds w0 w (pRow (.slice none 0 0) e s 0 [] :: L) :=
  h.new (Below.refl _ _) _ (World.ownsRow_nil _ _ _ _) fun g hg => by cases hg
end Go.Proofs.Ytmapjjfefjoemaa

namespace Go.Proofs.Ytmapjjfefjoemaa
open Go.RowKit

section
variable {P : Program} {w : World}
/-- where a grown row lies -/
theorem append_lies (B : Nat) (t ty e : TypeId) (i : TypeInfo) (z : Value) (size bytes : Nat) (ht : P.underlying t = some (.slice e)) (hi : P.info? e = some i) (hz : i.zero = some z)
    (hsize : i.size = size) (hby : i.bytes = bytes) (hzs : z.cells.size = size) (hsz : 0 < size)
    (v : Value) (n : Nat) (xs : List Value) (hown : w.ownsRow B e size v n xs)
    (a : Addr) (m c : Nat) (news : List Value) (hl : news.length = m * size) (hnews : ∀ j u, news[j]? = some u → w.cell? (a.add j) = some u) (h1 : ∀ u ∈ news, u.oneCell' = true)
    (h63 : n + m ≤ maxLen) (hbytes : (n + m) * bytes ≤ 140737488355328) (hbase : B ≤ w.heap.size) {v' : Value} {w' : World} (hr : (Builtin.append_ #[t, t] ty #[v, .slice (some a) m c]).run P w = .ok v' w') :
    ∀ g, v'.ownBlock = some g → v.ownBlock = some g ∨ w.heap.size ≤ g := by
  intro g hg
  rcases hown.2 with ⟨rfl, rfl⟩ | ⟨g0, cap, cur, rfl, hbg, hg0, hnc, hcm, hcs, htake⟩
  · have hx : xs = [] := List.eq_nil_of_length_eq_zero (by simpa using hown.1)
    obtain ⟨v2, w2, hr2, ho2, _⟩ := run_append_own (P := P) w w.heap.size t ty e i z size bytes ht hi hz hsize hby hzs hsz (.slice none 0 0) 0 [] (World.ownsRow_nil _ _ _ _) a m c news hl hnews h1 h63 hbytes (Nat.le_refl _)
    rw [hr] at hr2
    cases hr2
    exact .inr (ho2.lt g hg).1
  · by_cases hroom : n + m ≤ cap
    · subst hsize
      have hfit : n * i.size + news.length ≤ cur.size := by rw [hl, hcs, ← Nat.add_mul]; exact Nat.mul_le_mul_right _ hroom
      rw [run_append_room (P := P) w t ty e i ht hi g0 n cap cur hg0 a m c news hl hnews h1 hroom hfit] at hr
      cases hr
      exact .inl hg
    · subst hsize
      subst hby
      have h63' : n + m ≤ 9223372036854775807 := by simp only [maxLen] at h63; omega
      rw [run_append_grow (P := P) w t ty e i z ht hi hz ⟨g0, 0, none⟩ n cap xs hown.1 (hown.cells (g := g0) rfl) a m c news hl hnews (by omega) (by omega) (growslice_fits (by omega) hbytes)] at hr
      cases hr
      refine .inr ?_
      have : w.heap.size = g := by simpa [Value.ownBlock] using hg
      omega

theorem appH {ops : Array Oper} {rest : List Oper} {o : Oper} {a : Act} {Q : Exit → Act → World → Prop} (hgd : o.guard = none) (s x : Operand) (t : TypeId)
    (ho : o.op = .call { callee := .builtin .append, args := #[s, x], argTypes := #[t, t] })
    (e : TypeId) (i : TypeInfo) (z : Value) (size bytes : Nat) (ht : P.underlying t = some (.slice e)) (hi : P.info? e = some i) (hz : i.zero = some z)
    (hsize : i.size = size) (hby : i.bytes = bytes) (hzs : z.cells.size = size) (hsz : 0 < size)
    (v : Value) (n : Nat) (xs : List Value) (hs : a.eval s = v) {w0 : World} {L : List Part} (H : Holds w0 w L) (k : Nat) (hk : L[k]? = some (pRow v e size n xs))
    (ad : Addr) (m c : Nat) (news : List Value) (hx : a.eval x = .slice (some ad) m c) (hl : news.length = m * size) (hnews : ∀ j u, news[j]? = some u → w.cell? (ad.add j) = some u) (h1 : ∀ u ∈ news, u.oneCell' = true)
    (h63 : n + m ≤ maxLen) (hbytes : (n + m) * bytes ≤ 140737488355328)
    (h : ∀ v' w', Holds w0 w' (L.set k (pRow v' e size (n + m) (xs ++ news))) → wpList P ops Q rest (a.put o.dst v') w') : wpList P ops Q (o :: rest) a w := by
  have hown := H.row k hk
  refine wpList_plain hgd fun _ hK => ?_
  obtain ⟨v', w', hr, h2, h3, h4⟩ := run_append_own (P := P) w w0.heap.size t o.type e i z size bytes ht hi hz hsize hby hzs hsz v n xs hown ad m c news hl hnews h1 h63 hbytes H.size
  have h5 := append_lies w0.heap.size t o.type e i z size bytes ht hi hz hsize hby hzs hsz v n xs hown ad m c news hl hnews h1 h63 hbytes H.size hr
  unfold Oper.wp execOp
  simp only [ho, resolve, invoke, builtin, Sem.run_bind, Sem.run_pure, Result.andThen_ok, List.map_toArray, List.map_cons, List.map_nil, hs, hx, hr]
  exact hK _ _ (h v' w' (H.grow k hk _ (row_low h2 (Nat.zero_le _)) h3 (fun g hg => hg) h5))
/-- the same as a run -/
theorem run_appH (t ty : TypeId) (e : TypeId) (i : TypeInfo) (z : Value) (size bytes : Nat) (ht : P.underlying t = some (.slice e)) (hi : P.info? e = some i) (hz : i.zero = some z)
    (hsize : i.size = size) (hby : i.bytes = bytes) (hzs : z.cells.size = size) (hsz : 0 < size)
    (v : Value) (n : Nat) (xs : List Value) {w0 : World} {L : List Part} (H : Holds w0 w L) (k : Nat) (hk : L[k]? = some (pRow v e size n xs))
    (ad : Addr) (m c : Nat) (news : List Value) (hl : news.length = m * size) (hnews : ∀ j u, news[j]? = some u → w.cell? (ad.add j) = some u) (h1 : ∀ u ∈ news, u.oneCell' = true)
    (h63 : n + m ≤ maxLen) (hbytes : (n + m) * bytes ≤ 140737488355328) :
    ∃ v' w', (Builtin.append_ #[t, t] ty #[v, .slice (some ad) m c]).run P w = .ok v' w' ∧ Holds w0 w' (L.set k (pRow v' e size (n + m) (xs ++ news))) ∧ w.heap.size ≤ w'.heap.size := by
  have hown := H.row k hk
  obtain ⟨v', w', hr, h2, h3, h4⟩ := run_append_own (P := P) w w0.heap.size t ty e i z size bytes ht hi hz hsize hby hzs hsz v n xs hown ad m c news hl hnews h1 h63 hbytes H.size
  have h5 := append_lies w0.heap.size t ty e i z size bytes ht hi hz hsize hby hzs hsz v n xs hown ad m c news hl hnews h1 h63 hbytes H.size hr
  exact ⟨v', w', hr, H.grow k hk _ (row_low h2 (Nat.zero_le _)) h3 (fun g hg => hg) h5, h3.size⟩
theorem exec_append {o : Oper} {a : Act} {s x : Operand} {t : TypeId} (ho : o.op = .call { callee := .builtin .append, args := #[s, x], argTypes := #[t, t] }) {v v' u : Value} {w' : World} (hs : a.eval s = v) (hx : a.eval x = u)
    (hr : (Builtin.append_ #[t, t] o.type #[v, u]).run P w = .ok v' w') : (execOp a.eval o).run P w = .ok (.value v') w' := by
  unfold execOp
  simp only [ho, resolve, invoke, builtin, Sem.run_bind, Sem.run_pure, Result.andThen_ok, List.map_toArray, List.map_cons, List.map_nil, hs, hx, hr]
end
end Go.Proofs.Ytmapjjfefjoemaa

namespace Go.Proofs.Ytmapjjfefjoemaa
open Go.RowKit

def pInts (v : Value) (l : List Nat) : Part := pRow v 2 1 l.length (nums l)
theorem nums_length (l : List Nat) : (nums l).length = l.length := by unfold nums; simp
theorem nums_at {l : List Nat} {k : Nat} (hk : k < l.length) : (nums l)[k]? = some (.int .i64 (l[k] : Nat)) := by unfold nums; simp [hk]
theorem Holds.ints {w0 w : World} {L : List Part} (h : Holds w0 w L) (i : Nat) {v : Value} {l : List Nat} (hi : L[i]? = some (pInts v l)) {k : Nat} (hk : k < l.length) :
    ∃ g c, v = .slice (some ⟨g, 0, none⟩) l.length c ∧ g < w.heap.size ∧ w.cell? ⟨g, k, none⟩ = some (.int .i64 (l[k] : Nat)) ∧ w.frozen? ⟨g, k, none⟩ = false := by
  obtain ⟨g, c, h1, h2, h3, h4, h5, h6, h7⟩ := row_at (h.row i hi) (by omega : 0 < l.length)
  exact ⟨g, c, h1, h3, h6 _ _ (nums_at hk), h7 k⟩
theorem Holds.intsForm {w0 w : World} {L : List Part} (h : Holds w0 w L) (i : Nat) {v : Value} {l : List Nat} (hi : L[i]? = some (pInts v l)) : ∃ A c, v = .slice A l.length c := own_slice (h.row i hi)
theorem Holds.own1 {w0 w : World} {L : List Part} (h : Holds w0 w L) (i : Nat) {v : Value} {l : List Nat} (hi : L[i]? = some (pInts v l)) : Own1 w0.heap.size w v l := h.row i hi
theorem nums_one {l : List Nat} : ∀ u ∈ nums l, u.oneCell' = true := by
  intro u hu
  obtain ⟨x, _, rfl⟩ := List.mem_map.1 hu
  rfl
/-- one number more -/
theorem appI {ops : Array Oper} {rest : List Oper} {o : Oper} {a : Act} {Q : Exit → Act → World → Prop} {w0 w : World} {L : List Part} (H : Holds w0 w L) (k : Nat) {v : Value} {l : List Nat} (hk : L[k]? = some (pInts v l))
    (g : Nat) (news : List Nat) (t : TypeId) (hc : w.heap[g]? = some (.cells (nums news).toArray t (0, 0))) (hb : l.length + news.length ≤ 1000000)
    (hgd : o.guard = none) (s x : Operand)
    (ho : o.op = .call { callee := .builtin .append, args := #[s, x], argTypes := #[25, 25] })
    (hs : a.eval s = v) (hx : a.eval x = .slice (some ⟨g, 0, none⟩) news.length news.length)
    (h : ∀ v' w', Holds w0 w' (L.set k (pInts v' (l ++ news))) → wpList Try.prog ops Q rest (a.put o.dst v') w') : wpList Try.prog ops Q (o :: rest) a w := by
  obtain ⟨i0, hi, hz0, hz1, hz2⟩ := info_parts info64
  refine appH (P := Try.prog) hgd s x 25 ho 2 i0 (.int .i64 0) 1 8 Try.underlying25 hi hz0 hz1 hz2 rfl (by decide) v l.length (nums l) hs H k hk ⟨g, 0, none⟩ news.length news.length (nums news) hx
    (by rw [nums_length]; omega) (fun j u hu => ?_) nums_one (by unfold maxLen; omega) (by omega) fun v' w' h1 => h v' w' ?_
  · have : ((⟨g, 0, none⟩ : Addr).add j) = ⟨g, j, none⟩ := by simp [Addr.add]; exact Eq.symm
    rw [this, cell_of_cells, cellsOf_heap hc]
    simpa using hu
  · unfold pInts at *
    have e : nums (l ++ news) = nums l ++ nums news := by unfold nums; simp
    rw [List.length_append, e]
    exact h1
end Go.Proofs.Ytmapjjfefjoemaa

namespace Go.Proofs.Ytmapjjfefjoemaa
open Go.RowKit

theorem Holds.perm {w0 w : World} {L L' : List Part} (h : Holds w0 w L) (hp : L.Perm L') : Holds w0 w L' :=
  ⟨h.1, fun a ha => h.2.1 a (hp.mem_iff.2 ha), (hp.pairwise_iff (R := fun a b : Part => ∀ g, a.own g → b.own g → False) (fun {a b} hab g hb ha => hab g ha hb)).1 h.2.2⟩
theorem Holds.third {w0 w : World} {a b c : Part} {L : List Part} (h : Holds w0 w (a :: b :: c :: L)) : Holds w0 w (b :: c :: a :: L) :=
  h.perm ((List.Perm.swap b a (c :: L)).trans ((List.Perm.swap c a L).cons b))
/-- a store into a cell of a row -/
theorem Holds.put {w0 w : World} {L : List Part} (h : Holds w0 w L) (i : Nat) {g n c : Nat} {e : TypeId} {s : Nat} {xs : List Value} (hi : L[i]? = some (pRow (.slice (some ⟨g, 0, none⟩) n c) e s n xs)) (j : Nat) (u : Value) :
    Holds w0 (w.setCell ⟨g, j, none⟩ u) (L.set i (pRow (.slice (some ⟨g, 0, none⟩) n c) e s n (xs.set j u))) := by
  have h1 : w.ownsRow 0 e s (.slice (some ⟨g, 0, none⟩) n c) n xs := h.at i hi
  have h2 := World.ownsRow.stored h1 j u
  exact h.grow i hi _ h2.1 h2.2 (fun k hk => by cases hk; rfl) fun k hk => .inl hk
section
variable {P : Program} {ops : Array Oper} {rest : List Oper} {o : Oper} {a : Act} {Q : Exit → Act → World → Prop} {w : World}
/-- make([]T, n) -/
theorem makeH (hgd : o.guard = none) (t : TypeId) (x y : Operand) (ho : o.op = .makeSlice t x y) (e : TypeId) (i : TypeInfo) (z : Value) (bytes : Nat) (ht : P.underlying t = some (.slice e)) (hi : P.info? e = some i) (hz : i.zero = some z)
    (hsize : i.size = 1) (hby : i.bytes = bytes) (hzs : z.cells = #[z]) (n : Nat) (kx ky : IntKind) (hx : a.eval x = .int kx (n : Int)) (hy : a.eval y = .int ky (n : Int)) (hn : n ≤ 1000000) (hb : bytes ≤ 64)
    {w0 : World} {L : List Part} (H : Holds w0 w L)
    (h : ∀ w', Holds w0 w' (pRow (.slice (some ⟨w.heap.size, 0, none⟩) n n) e 1 n (List.replicate n z) :: L) → wpList P ops Q rest (a.put o.dst (.slice (some ⟨w.heap.size, 0, none⟩) n n)) w') : wpList P ops Q (o :: rest) a w := by
  refine wpList_plain hgd fun _ hK => ?_
  have h1 : bytes * n ≤ 64 * 1000000 := Nat.mul_le_mul hb hn
  obtain ⟨w', hr, ho', hg⟩ := run_makeSlice_full (P := P) w w.heap.size t e i z 1 ht hi hz hsize kx ky n (by omega) (by rw [hby]; omega) (by unfold maxLen; omega) (Nat.le_refl _)
  rw [hzs, Nat.mul_one, toList_madeCells_one] at ho'
  unfold Oper.wp execOp
  simp only [ho, hx, hy, Sem.run_bind, Sem.run_pure, Result.andThen_ok, hr]
  refine hK _ _ (h w' (H.newRow ⟨hg.os, hg.tape, hg.output, hg.size, fun g hl => hg.block g hl (by simp)⟩ ho'))
end
/-- the rows of a list of lists, a part each -/
def rowsP : List Value → List (List Nat) → List Part
  | v :: vs, l :: ls => pInts v l :: rowsP vs ls
  | _, _ => []
theorem rowsP_snoc {vs : List Value} {ls : List (List Nat)} (hl : vs.length = ls.length) (u : Value) (l : List Nat) : rowsP (vs ++ [u]) (ls ++ [l]) = rowsP vs ls ++ [pInts u l] := by
  induction vs generalizing ls with
  | nil => cases ls with
    | nil => rfl
    | cons => simp at hl
  | cons v vs ih => cases ls with
    | nil => simp at hl
    | cons m ls => simp only [List.cons_append, rowsP]; rw [ih (by simpa using hl)]
theorem rowsP_at {vs : List Value} {ls : List (List Nat)} {i : Nat} {u : Value} {l : List Nat} (h1 : vs[i]? = some u) (h2 : ls[i]? = some l) : (rowsP vs ls)[i]? = some (pInts u l) := by
  induction vs generalizing ls i with
  | nil => simp at h1
  | cons v vs ih => cases ls with
    | nil => simp at h2
    | cons m ls =>
      cases i with
      | zero => simp at h1 h2; subst h1 h2; rfl
      | succ i => simp at h1 h2; simp only [rowsP, List.getElem?_cons_succ]; exact ih h1 h2
theorem Holds.rowEnd {w0 w : World} {u : Value} {l : List Nat} {A : List Part} {vs : List Value} {ls : List (List Nat)} (hl : vs.length = ls.length) (h : Holds w0 w (pInts u l :: (A ++ rowsP vs ls))) : Holds w0 w (A ++ rowsP (vs ++ [u]) (ls ++ [l])) := by
  refine h.perm ?_
  rw [rowsP_snoc hl, ← List.append_assoc]
  exact (List.perm_append_comm (l₁ := [pInts u l]) (l₂ := A ++ rowsP vs ls))
/-- a row of slices, its part -/
def pVals (v : Value) (vs : List Value) : Part := pRow v 25 1 vs.length vs
theorem Holds.own2 {w0 w : World} {v : Value} {A : List Part} {vs : List Value} {ls : List (List Nat)} (hl : vs.length = ls.length) (h : Holds w0 w (A ++ pVals v vs :: rowsP vs ls)) : Own2 w0.heap.size w v ls := by
  have h' : Holds w0 w (pVals v vs :: rowsP vs ls) := h.sub (List.sublist_append_right _ _)
  have at_ : ∀ (i : Nat) (u : Value) (l : List Nat), vs[i]? = some u → ls[i]? = some l → (pVals v vs :: rowsP vs ls)[i + 1]? = some (pInts u l) := fun i u l h1 h2 => by rw [List.getElem?_cons_succ]; exact rowsP_at h1 h2
  refine ⟨vs, hl, h'.row 0 rfl, fun i u l h1 h2 => h'.own1 (i + 1) (at_ i u l h1 h2), fun i j u u' hij h1 h2 => ?_⟩
  rcases hb : u.ownBlock with _ | g
  · exact .inl rfl
  · refine .inr fun e => ?_
    have li : i < ls.length := by rw [← hl]; exact (List.getElem?_eq_some_iff.1 h1).1
    have lj : j < ls.length := by rw [← hl]; exact (List.getElem?_eq_some_iff.1 h2).1
    exact h'.apart (i := i + 1) (j := j + 1) (by omega) (at_ i u _ h1 (List.getElem?_eq_getElem li)) (at_ j u' _ h2 (List.getElem?_eq_getElem lj)) (g := g) hb e.symm
theorem Holds.valsForm {w0 w : World} {L : List Part} (h : Holds w0 w L) (i : Nat) {v : Value} {vs : List Value} (hi : L[i]? = some (pVals v vs)) : ∃ A c, v = .slice A vs.length c := own_slice (h.row i hi)
/-- one list more -/
theorem appRow {ops : Array Oper} {rest : List Oper} {o : Oper} {a : Act} {Q : Exit → Act → World → Prop} {w0 w : World} {L : List Part} (H : Holds w0 w L) (k : Nat) {v : Value} {vs : List Value} (hk : L[k]? = some (pVals v vs))
    (g : Nat) (u : Value) (hu : u.oneCell' = true) (t : TypeId) (hc : w.heap[g]? = some (.cells #[u] t (0, 0))) (hb : vs.length ≤ 1000000)
    (hgd : o.guard = none) (s x : Operand)
    (ho : o.op = .call { callee := .builtin .append, args := #[s, x], argTypes := #[26, 26] })
    (hs : a.eval s = v) (hx : a.eval x = .slice (some ⟨g, 0, none⟩) 1 1)
    (h : ∀ v' w', Holds w0 w' (L.set k (pVals v' (vs ++ [u]))) → wpList Try.prog ops Q rest (a.put o.dst v') w') : wpList Try.prog ops Q (o :: rest) a w := by
  obtain ⟨i0, hi, hz0, hz1, hz2⟩ := info_parts infoSl
  refine appH (P := Try.prog) hgd s x 26 ho 25 i0 (.slice none 0 0) 1 24 Try.underlying26 hi hz0 hz1 hz2 rfl (by decide) v vs.length vs hs H k hk ⟨g, 0, none⟩ 1 1 [u] hx
    rfl (fun j x hj => ?_) (fun x hx => by simp at hx; subst hx; exact hu) (by unfold maxLen; omega) (by omega) fun v' w' h1 => h v' w' ?_
  · have : ((⟨g, 0, none⟩ : Addr).add j) = ⟨g, j, none⟩ := by simp [Addr.add]; exact Eq.symm
    rw [this, cell_of_cells, cellsOf_heap hc]
    simpa using hj
  · unfold pVals
    rw [List.length_append]
    exact h1
end Go.Proofs.Ytmapjjfefjoemaa

namespace Go.Proofs.Ytmapjjfefjoemaa
open Go.RowKit

set_option maxRecDepth 100000 in
set_option maxHeartbeats 400000 in
theorem markZ_any (l : List Int) (A : Option Addr) (c B k0 : Nat) (hl : l.length ≤ 140737488351232) (hk0 : k0 ≤ 140737488351232) (w : World) (h : OwnZ B w (.slice A l.length c) l) :
    Calls Try.prog 21 #[.slice A l.length c, .int .i64 k0] w fun e w' => e = .returned (.int .i64 (k0 + l.length : Nat)) ∧ w.grownBy w' (Value.slice A l.length c).ownBlock ∧ w'.ownsRow B 2 1 (.slice A l.length c) l.length (nums (marks k0 l.length)) := by
  have hz : ∀ k, k < l.length → (nums (marks k0 k) ++ (zc l).drop k)[k]? = some (.int .i64 (l.getD k 0)) := fun k hk => by
    rw [List.getElem?_append_right (by rw [nums_length, marks_length]; omega), nums_length, marks_length, Nat.sub_self, List.getElem?_drop, Nat.add_zero, zc_get]
    simp [hk]
  have hs : ∀ k, k < l.length → (nums (marks k0 k) ++ (zc l).drop k).set k (.int .i64 ((k0 + k : Nat) : Int)) = nums (marks k0 (k + 1)) ++ (zc l).drop (k + 1) := fun k hk => by
    rw [List.set_append_right _ _ (by rw [nums_length, marks_length]; omega), nums_length, marks_length, Nat.sub_self, List.drop_eq_getElem_cons (show k < (zc l).length by rw [zc_length]; exact hk), List.set_cons_zero]
    unfold marks nums
    rw [List.range_succ, List.map_append, List.map_append, List.append_assoc]; rfl
  have HZ := hide (And.intro hz hs); clear hz hs
  have h' : w.ownsRow B 2 1 (.slice A l.length c) l.length (zc l) := h
  clear h
  go_enter Try.func21, Try.ntmps21
  go_wp2
  go_loopw [1, 5] (fun q i wr => ∃ k : Nat, k ≤ l.length ∧ i = .int .i64 k ∧ q = .int .i64 (k0 + k : Nat) ∧ w.grownBy wr (Value.slice A l.length c).ownBlock ∧ wr.ownsRow B 2 1 (.slice A l.length c) l.length (nums (marks k0 k) ++ (zc l).drop k)) (fun _ i _ => l.length - (intOf i).toNat)
  case atStart => exact ⟨0, by omega, rfl, by simp, grown_refl _ _, by simpa [marks, nums] using h'⟩
  case round =>
    clear h'
    obtain ⟨k, hk, rfl, rfl, hg, ho⟩ := hrel
    by_cases hlt : k < l.length
    · obtain ⟨g, c', hA, _, _, _, _, hcell, hfr⟩ := row_at ho (by omega)
      injection hA with hA hA1 hA2
      subst hA
      clear hA1 hA2
      have h1 := hcell k _ (HZ.out.1 k hlt)
      have h2 := hfr k
      have hs := World.ownsRow.stored ho k (.int .i64 ((k0 + k : Nat) : Int))
      have hs1 := hs.1
      rw [HZ.out.2 k hlt] at hs1
      have hg2 : w.grownBy (wr.setCell ⟨g, k, none⟩ (.int .i64 ((k0 + k : Nat) : Int))) (Value.slice (some ⟨g, 0, none⟩) l.length c).ownBlock := grown_setCell hg
      have HS := hide hs1; clear hs1 hs
      have HG := hide hg2; clear hg2 ho hg hcell hfr
      generalize l.getD k 0 = y at h1
      have hcast : ((k0 + k : Nat) : Int) = (k0 : Int) + (k : Int) := by omega
      rw [hcast] at HS HG
      rw [hcast]
      clear hcast
      go_wp2
      go_roundw
      case rel => exact ⟨k + 1, by omega, by go_num, by go_num, HG.out, HS.out⟩
      case measure => simp [intOf]; omega
    · obtain rfl : k = l.length := by omega
      rw [List.drop_of_length_le (by rw [zc_length]; exact Nat.le_refl _), List.append_nil] at ho
      go_wp2
      go_ret
      exact ⟨rfl, hg, ho⟩
theorem Own1.as {B : Nat} {w : World} {v : Value} {n : Nat} (h : Own1 B w v (marks 1 n)) : w.ownsRow B 2 1 v n (nums (marks 1 n)) := by
  have h' : w.ownsRow B 2 1 v (marks 1 n).length (nums (marks 1 n)) := h
  rwa [marks_length] at h'
theorem Own1.of {B : Nat} {w : World} {v : Value} {n : Nat} (h : w.ownsRow B 2 1 v n (nums (marks 1 n))) : Own1 B w v (marks 1 n) := by
  show w.ownsRow B 2 1 v (marks 1 n).length (nums (marks 1 n))
  rwa [marks_length]
end Go.Proofs.Ytmapjjfefjoemaa

namespace Go.Proofs.Ytmapjjfefjoemaa
open Go.RowKit

theorem Holds.joinL {w0 w w' : World} {L A : List Part} (h : Holds w0 w L) (k : Holds w w' A) : Holds w0 w' (L ++ A) := by
  have h' := h.call k.low
  refine ⟨h'.1, fun b hb => ?_, List.pairwise_append.2 ⟨h'.2.2, k.2.2, fun a ha b hb g hg hg' => ?_⟩⟩
  · rcases List.mem_append.1 hb with hb | hb
    · exact h'.2.1 b hb
    · exact ⟨(k.2.1 b hb).1, fun g hg => Nat.le_trans h.size ((k.2.1 b hb).2 g hg)⟩
  · have h1 := a.lt _ _ (h.2.1 a ha).1 hg
    have h2 := (k.2.1 b hb).2 g hg'
    omega
theorem rowsP_length {vs : List Value} {ls : List (List Nat)} (hl : vs.length = ls.length) : (rowsP vs ls).length = ls.length := by
  induction vs generalizing ls with
  | nil => cases ls with
    | nil => rfl
    | cons => simp at hl
  | cons v vs ih => cases ls with
    | nil => simp at hl
    | cons m ls => simp only [rowsP, List.length_cons]; rw [ih (by simpa using hl)]
theorem Holds.ofOwn2 {w w' : World} {v : Value} {vs : List Value} {ls : List (List Nat)} (hb : Below w.heap.size w w') (ho : Own2v w.heap.size w' v vs ls) : Holds w w' (pVals v vs :: rowsP vs ls) := by
  have rl := rowsP_length ho.len
  have each : ∀ (i : Nat) (h : i < (rowsP vs ls).length), ∃ u l, vs[i]? = some u ∧ ls[i]? = some l ∧ (rowsP vs ls)[i] = pInts u l := fun i h => by
    have h1 : i < ls.length := by omega
    have h2 : i < vs.length := by rw [ho.len]; exact h1
    have := rowsP_at (List.getElem?_eq_getElem h2) (List.getElem?_eq_getElem h1)
    rw [List.getElem?_eq_getElem h] at this
    exact ⟨_, _, List.getElem?_eq_getElem h2, List.getElem?_eq_getElem h1, Option.some.inj this⟩
  refine ⟨hb, fun a ha => ?_, List.pairwise_cons.2 ⟨fun a ha g hg hg' => ?_, List.pairwise_iff_getElem.2 fun i j hi hj hij g hg hg' => ?_⟩⟩
  · rcases List.mem_cons.1 ha with rfl | ha
    · exact ⟨row_low ho.row (Nat.zero_le _), fun g hg => (ho.row.lt g hg).1⟩
    · obtain ⟨i, hi, rfl⟩ := List.getElem_of_mem ha
      obtain ⟨u, l, h1, h2, h3⟩ := each i hi
      rw [h3]
      have h4 := ho.each i u l h1 h2
      exact ⟨row_low h4 (Nat.zero_le _), fun g hg => (World.ownsRow.lt h4 g hg).1⟩
  · obtain ⟨i, hi, rfl⟩ := List.getElem_of_mem ha
    obtain ⟨u, l, h1, h2, h3⟩ := each i hi
    rw [h3] at hg'
    have h4 := ho.each i u l h1 h2
    change v.ownBlock = some g at hg
    change u.ownBlock = some g at hg'
    rcases own_ne ho.row h4 (by decide) with c | c
    · rw [c] at hg; cases hg
    · exact c (by rw [hg]; exact hg'.symm)
  · obtain ⟨u, l, h1, h2, h3⟩ := each i hi
    obtain ⟨u', l', h1', h2', h3'⟩ := each j hj
    rw [h3] at hg
    rw [h3'] at hg'
    change u.ownBlock = some g at hg
    change u'.ownBlock = some g at hg'
    rcases ho.dist i j u u' hij h1 h1' with c | c
    · rw [c] at hg; cases hg
    · exact c (by rw [hg]; exact hg'.symm)
/-- the i-th list, and the cell that holds its slice -/
theorem Holds.rowAt {w0 w : World} {L : List Part} {v : Value} {vs : List Value} {ls : List (List Nat)} (h : Holds w0 w L) (hl : vs.length = ls.length) (a : Nat) (ha : L[a]? = some (pVals v vs)) (hr : ∀ i, L[i + (a + 1)]? = (rowsP vs ls)[i]?) {i : Nat} (hi : i < ls.length) :
    ∃ g c A' c', v = .slice (some ⟨g, 0, none⟩) vs.length c ∧ vs[i]? = some (.slice A' ls[i].length c') ∧ w.cell? ⟨g, i, none⟩ = some (.slice A' ls[i].length c') ∧ L[i + (a + 1)]? = some (pInts (.slice A' ls[i].length c') ls[i]) := by
  have hv : i < vs.length := by omega
  have hpart : L[i + (a + 1)]? = some (pInts vs[i] ls[i]) := by rw [hr]; exact rowsP_at (List.getElem?_eq_getElem hv) (List.getElem?_eq_getElem hi)
  obtain ⟨A', c', e⟩ := h.intsForm _ hpart
  obtain ⟨g, c, h1, _, _, _, _, h6, _⟩ := row_at (h.row a ha) (by omega)
  have h7 := h6 i _ (List.getElem?_eq_getElem hv)
  rw [e] at h7 hpart
  exact ⟨g, c, A', c', h1, by rw [List.getElem?_eq_getElem hv, e], h7, hpart⟩
end Go.Proofs.Ytmapjjfefjoemaa

namespace Go.Proofs.Ytmapjjfefjoemaa
open Go.RowKit

theorem Own2v.keep {B : Nat} {w w' : World} {v : Value} {vs : List Value} {ls : List (List Nat)} {r : Option Nat} (h : Own2v B w v vs ls) (hg : w.grownBy w' r) (h1 : ∀ k, r = some k → v.ownBlock ≠ some k) (h2 : ∀ k, r = some k → ∀ (i : Nat) (u : Value), vs[i]? = some u → u.ownBlock ≠ some k) : Own2v B w' v vs ls := by
  have key : ∀ u : Value, (∀ k, r = some k → u.ownBlock ≠ some k) → u.ownBlock = none ∨ u.ownBlock ≠ r := fun u hu => by
    rcases hb : u.ownBlock with _ | g
    · exact .inl rfl
    · exact .inr fun e => hu g e.symm hb
  exact ⟨h.len, h.row.kept hg (key v h1), fun i u l a b => World.ownsRow.kept (h.each i u l a b) hg (key u fun k hk => h2 k hk i u a), h.dist⟩
theorem Own2v.ge {B : Nat} {w : World} {v : Value} {vs : List Value} {ls : List (List Nat)} (h : Own2v B w v vs ls) : (∀ k, v.ownBlock = some k → B ≤ k) ∧ ∀ (i : Nat) (u : Value), vs[i]? = some u → ∀ k, u.ownBlock = some k → B ≤ k := by
  refine ⟨fun k hk => (h.row.lt k hk).1, fun i u hu k hk => ?_⟩
  have hi : i < ls.length := by rw [← h.len]; exact (List.getElem?_eq_some_iff.1 hu).1
  exact (World.ownsRow.lt (h.each i u _ hu (List.getElem?_eq_getElem hi)) k hk).1
end Go.Proofs.Ytmapjjfefjoemaa

namespace Go.Proofs.Ytmapjjfefjoemaa
open Go.RowKit

/-- numbers as whole numbers -/
def zs9 (l : List Nat) : List Int := l.map fun x => Int.ofNat x
theorem zs9_length (l : List Nat) : (zs9 l).length = l.length := by simp [zs9]
theorem zc_zs9 (l : List Nat) : zc (zs9 l) = nums l := by unfold zc zs9 nums; rw [List.map_map]; rfl
/-- a list of lists whose slices are known -/
structure Own2z (B : Nat) (w : World) (v : Value) (vs : List Value) (ls : List (List Int)) : Prop where
  len : vs.length = ls.length
  row : w.ownsRow B 25 1 v vs.length vs
  each : ∀ (i : Nat) (u : Value) (l : List Int), vs[i]? = some u → ls[i]? = some l → OwnZ B w u l
  dist : ∀ (i j : Nat) (u u' : Value), i < j → vs[i]? = some u → vs[j]? = some u' → u.ownBlock = none ∨ u.ownBlock ≠ u'.ownBlock
theorem own2z_of {B : Nat} {w : World} {v : Value} {vs : List Value} {ls : List (List Nat)} : Own2v B w v vs ls ↔ Own2z B w v vs (ls.map zs9) := by
  constructor
  · intro h
    refine ⟨by rw [List.length_map]; exact h.len, h.row, fun i u l h1 h2 => ?_, h.dist⟩
    rw [List.getElem?_map] at h2
    rcases h3 : ls[i]? with _ | m
    · rw [h3] at h2; cases h2
    · rw [h3] at h2
      simp only [Option.map_some, Option.some.injEq] at h2
      subst h2
      have := h.each i u m h1 h3
      unfold OwnZ; rw [zc_zs9, zs9_length]; exact this
  · intro h
    refine ⟨by have := h.len; rwa [List.length_map] at this, h.row, fun i u l h1 h2 => ?_, h.dist⟩
    have := h.each i u (zs9 l) h1 (by rw [List.getElem?_map, h2]; rfl)
    unfold OwnZ at this; rw [zc_zs9, zs9_length] at this; exact this
theorem Own2z.below {B C : Nat} {w w' : World} {v : Value} {vs : List Value} {ls : List (List Int)} (h : Own2z B w v vs ls) (hb : Below C w w') (hC : w.heap.size ≤ C) : Own2z B w' v vs ls := by
  have hg := grown_of_below (hb.mono hC) none
  have far : ∀ u : Value, u.ownBlock = none ∨ u.ownBlock ≠ none := fun u => Classical.em _
  exact ⟨h.len, h.row.kept hg (far _), fun i u l a b => (h.each i u l a b).kept hg (far _), h.dist⟩
theorem Own2z.lower {B C : Nat} {w w' : World} {v : Value} {vs : List Value} {ls : List (List Int)} (h : Own2z B w v vs ls) (hb : Below C w w') (hC : ∀ k, v.ownBlock = some k → k < C) (hC' : ∀ (i : Nat) (u : Value), vs[i]? = some u → ∀ k, u.ownBlock = some k → k < C) : Own2z B w' v vs ls := by
  have key : ∀ {e : TypeId} {s n : Nat} {u : Value} {xs : List Value}, w.ownsRow B e s u n xs → (∀ k, u.ownBlock = some k → k < C) → w'.ownsRow B e s u n xs := by
    intro e s n u xs hu hk
    refine ⟨hu.1, ?_⟩
    rcases hu.2 with c | ⟨g, cap, cur, rfl, h1, h2, h3⟩
    · exact .inl c
    · exact .inr ⟨g, cap, cur, rfl, h1, by rw [hb.block g (hk g rfl)]; exact h2, h3⟩
  exact ⟨h.len, key h.row hC, fun i u l a b => key (h.each i u l a b) (hC' i u a), h.dist⟩
theorem Own2z.keep {B : Nat} {w w' : World} {v : Value} {vs : List Value} {ls : List (List Int)} {r : Option Nat} (h : Own2z B w v vs ls) (hg : w.grownBy w' r) (h1 : ∀ k, r = some k → v.ownBlock ≠ some k) (h2 : ∀ k, r = some k → ∀ (i : Nat) (u : Value), vs[i]? = some u → u.ownBlock ≠ some k) : Own2z B w' v vs ls := by
  have key : ∀ u : Value, (∀ k, r = some k → u.ownBlock ≠ some k) → u.ownBlock = none ∨ u.ownBlock ≠ r := fun u hu => by
    rcases hb : u.ownBlock with _ | g
    · exact .inl rfl
    · exact .inr fun e => hu g e.symm hb
  exact ⟨h.len, h.row.kept hg (key v h1), fun i u l a b => World.ownsRow.kept (h.each i u l a b) hg (key u fun k hk => h2 k hk i u a), h.dist⟩
theorem Own2z.ge {B : Nat} {w : World} {v : Value} {vs : List Value} {ls : List (List Int)} (h : Own2z B w v vs ls) : (∀ k, v.ownBlock = some k → B ≤ k) ∧ ∀ (i : Nat) (u : Value), vs[i]? = some u → ∀ k, u.ownBlock = some k → B ≤ k := by
  refine ⟨fun k hk => (h.row.lt k hk).1, fun i u hu k hk => ?_⟩
  have hi : i < ls.length := by rw [← h.len]; exact (List.getElem?_eq_some_iff.1 hu).1
  exact (World.ownsRow.lt (h.each i u _ hu (List.getElem?_eq_getElem hi)) k hk).1
theorem Own2z.lt {B : Nat} {w : World} {v : Value} {vs : List Value} {ls : List (List Int)} (h : Own2z B w v vs ls) : (∀ k, v.ownBlock = some k → k < w.heap.size) ∧ ∀ (i : Nat) (u : Value), vs[i]? = some u → ∀ k, u.ownBlock = some k → k < w.heap.size := by
  refine ⟨fun k hk => (h.row.lt k hk).2, fun i u hu k hk => ?_⟩
  have hi : i < ls.length := by rw [← h.len]; exact (List.getElem?_eq_some_iff.1 hu).1
  exact (World.ownsRow.lt (h.each i u _ hu (List.getElem?_eq_getElem hi)) k hk).2
theorem Own2z.at {B : Nat} {w : World} {A : Option Addr} {n c i : Nat} {vs : List Value} {ls : List (List Int)} (h : Own2z B w (.slice A n c) vs ls) (hi : i < ls.length) :
    ∃ g A' c', A = some ⟨g, 0, none⟩ ∧ g < w.heap.size ∧ vs[i]? = some (.slice A' ls[i].length c') ∧ w.cell? ⟨g, i, none⟩ = some (.slice A' ls[i].length c') ∧ OwnZ B w (.slice A' ls[i].length c') ls[i] := by
  have hv : i < vs.length := by rw [h.len]; exact hi
  have h1 := h.each i _ _ (List.getElem?_eq_getElem hv) (List.getElem?_eq_getElem hi)
  obtain ⟨A', c', e⟩ := own_slice h1
  rcases h.row.2 with ⟨_, h0⟩ | ⟨g, cap, cur, e', hB, hh, h2, h3, h4, h5⟩
  · omega
  · injection e' with e1 e2 e3
    have hlt : g < w.heap.size := (Array.getElem?_eq_some_iff.1 hh).1
    refine ⟨g, A', c', e1, hlt, by rw [List.getElem?_eq_getElem hv, e], ?_, by rw [← e]; exact h1⟩
    rw [cell_of_cells, cellsOf_heap hh]
    have : (cur.toList.take (vs.length * 1))[i]? = vs[i]? := by rw [h5]
    rw [List.getElem?_take_of_lt (by omega), Array.getElem?_toList] at this
    rw [this, List.getElem?_eq_getElem hv, e]
theorem Own2z.form {B : Nat} {w : World} {v : Value} {vs : List Value} {ls : List (List Int)} (h : Own2z B w v vs ls) : ∃ A c, v = .slice A ls.length c := by
  obtain ⟨A, c, e⟩ := own_slice h.row
  exact ⟨A, c, by rw [e, h.len]⟩
theorem Own2z.upd {B i : Nat} {w w' : World} {v u : Value} {l : List Int} {vs : List Value} {ls : List (List Int)} (h : Own2z B w v vs ls) (hi : i < ls.length) (hu : vs[i]? = some u) (hg : w.grownBy w' u.ownBlock) (hn : OwnZ B w' u l) : Own2z B w' v vs (ls.set i l) := by
  have hiu := h.each i u _ hu (List.getElem?_eq_getElem hi)
  refine ⟨by rw [List.length_set]; exact h.len, h.row.kept hg (own_ne h.row hiu (by decide)), ?_, h.dist⟩
  intro j x m hx hm
  by_cases e : i = j
  · subst e
    rw [hu] at hx
    simp only [Option.some.injEq] at hx
    subst hx
    rw [List.getElem?_set_self hi] at hm
    simp only [Option.some.injEq] at hm
    subst hm
    exact hn
  · rw [List.getElem?_set_ne e] at hm
    refine (h.each j x m hx hm).kept hg ?_
    rcases Nat.lt_or_ge i j with c | c
    · rcases hb : x.ownBlock with _ | k
      · exact .inl rfl
      · refine .inr fun e' => ?_
        rcases h.dist i j u x c hu hx with d | d
        · rw [d] at e'; cases e'
        · exact d (by rw [hb, e'])
    · exact h.dist j i x u (by omega) hx hu
theorem Own2z.rd {B : Nat} {w : World} {v : Value} {vs : List Value} {ls : List (List Int)} (h : Own2z B w v vs ls) (hl : ls.length ≤ 1000000) (hs : ∀ l ∈ ls, l.length ≤ 1000000) : RdZ2 w v ls := by
  obtain ⟨A, c, rfl⟩ := h.form
  refine ⟨A, c, vs, rfl, by omega, h.len, fun i u hu => ?_, fun i u l hu hl => (h.each i u l hu hl).rd (by have := hs l (List.mem_of_getElem? hl); omega)⟩
  have hi : i < ls.length := by rw [← h.len]; exact (List.getElem?_eq_some_iff.1 hu).1
  obtain ⟨g, A', c', e1, e2, e3, e4, e5⟩ := h.at hi
  rw [hu] at e3
  simp only [Option.some.injEq] at e3
  subst e3
  exact ⟨⟨g, 0, none⟩, e1, e2, by rw [show ((⟨g, 0, none⟩ : Addr).add i) = ⟨g, i, none⟩ by simp [Addr.add]; exact Eq.symm]; exact e4⟩

def totZ (ls : List (List Int)) : Nat := (ls.map List.length).sum
theorem totZ_take_succ (ls : List (List Int)) (i : Nat) (h : i < ls.length) : totZ (ls.take (i + 1)) = totZ (ls.take i) + ls[i].length := by
  unfold totZ
  rw [List.take_succ_eq_append_getElem h, List.map_append, List.sum_append]
  simp
theorem totZ_take_le (ls : List (List Int)) (i : Nat) : totZ (ls.take i) ≤ totZ ls := by
  unfold totZ
  conv => rhs; rw [← List.take_append_drop i ls, List.map_append, List.sum_append]
  omega
theorem len_le_totZ (ls : List (List Int)) (i : Nat) (h : i < ls.length) : ls[i].length ≤ totZ ls := by
  have := totZ_take_succ ls i h
  have := totZ_take_le ls (i + 1)
  omega
theorem mem_le_totZ {ls : List (List Int)} {l : List Int} (h : l ∈ ls) : l.length ≤ totZ ls := by
  obtain ⟨i, hi, rfl⟩ := List.getElem_of_mem h
  exact len_le_totZ ls i hi
/-- lists of as many numbers, of those of Nat -/
def shapeN (ls : List (List Int)) : List (List Nat) := ls.map fun l => List.replicate l.length 0
theorem shapeN_length (ls : List (List Int)) : (shapeN ls).length = ls.length := by simp [shapeN]
theorem shapeN_total (ls : List (List Int)) : total (shapeN ls) = totZ ls := by unfold total shapeN totZ; rw [List.map_map]; congr 1; apply List.map_congr_left; intro l _; simp
theorem shapeN_get (ls : List (List Int)) (i : Nat) (h : i < ls.length) (h' : i < (shapeN ls).length) : (shapeN ls)[i].length = ls[i].length := by simp [shapeN]
theorem shapeN_take (ls : List (List Int)) (i : Nat) : (shapeN ls).take i = shapeN (ls.take i) := by simp [shapeN, List.map_take]
def mkZ (k0 : Nat) (ls : List (List Int)) : List (List Int) := (marksL k0 (shapeN ls)).map zs9
theorem mkZ_length (k0 : Nat) (ls : List (List Int)) : (mkZ k0 ls).length = ls.length := by simp [mkZ, marksL_length, shapeN]
theorem mkZ_get (ls : List (List Int)) (k0 i : Nat) (h : i < ls.length) : (mkZ k0 ls)[i]? = some (zs9 (marks (k0 + totZ (ls.take i)) ls[i].length)) := by
  have := marksL_get (shapeN ls) k0 i (by rw [shapeN_length]; exact h)
  unfold mkZ
  rw [List.getElem?_map, this, shapeN_get ls i h, shapeN_take, shapeN_total]; rfl

/-- only what S names is turned -/
structure Sole (w w' : World) (S : Nat → Prop) : Prop where
  os : w'.os = w.os
  tape : w'.tape = w.tape
  output : w'.output = w.output
  size : w.heap.size ≤ w'.heap.size
  block : ∀ k, k < w.heap.size → ¬ S k → w'.heap[k]? = w.heap[k]?
theorem Sole.refl (w : World) (S : Nat → Prop) : Sole w w S := ⟨rfl, rfl, rfl, Nat.le_refl _, fun _ _ _ => rfl⟩
theorem Sole.grown {w a b : World} {S : Nat → Prop} {r : Option Nat} (h : Sole w a S) (k : a.grownBy b r) (hr : ∀ g, r = some g → S g) : Sole w b S :=
  ⟨k.os.trans h.os, k.tape.trans h.tape, k.output.trans h.output, Nat.le_trans h.size k.size, fun g hg hs => (k.block g (Nat.lt_of_lt_of_le hg h.size) fun e => hs (hr g e.symm)).trans (h.block g hg hs)⟩
def ownsZZ (v : Value) (vs : List Value) (k : Nat) : Prop := v.ownBlock = some k ∨ ∃ (i : Nat) (u : Value), vs[i]? = some u ∧ u.ownBlock = some k
theorem Own2z.mono {B B' : Nat} {w : World} {v : Value} {vs : List Value} {ls : List (List Int)} (h : Own2z B w v vs ls) (hB : B' ≤ B) : Own2z B' w v vs ls :=
  ⟨h.len, row_low h.row hB, fun i u l a b => row_low (h.each i u l a b) hB, h.dist⟩
/-- a list of lists as a part -/
def pZZ (v : Value) (vs : List Value) (ls : List (List Int)) : Part where
  own k := ownsZZ v vs k
  ok w := Own2z 0 w v vs ls
  keep w w' h k := by
    have key : ∀ {e : TypeId} {s n : Nat} {u : Value} {xs : List Value}, w.ownsRow 0 e s u n xs → (∀ k, u.ownBlock = some k → ownsZZ v vs k) → w'.ownsRow 0 e s u n xs := by
      intro e s n u xs hu hk
      refine ⟨hu.1, ?_⟩
      rcases hu.2 with c | ⟨g, cap, cur, rfl, h1, h2, h3⟩
      · exact .inl c
      · exact .inr ⟨g, cap, cur, rfl, h1, by rw [k g (hk g rfl)]; exact h2, h3⟩
    exact ⟨h.len, key h.row fun k hk => .inl hk, fun i u l a b => key (h.each i u l a b) fun k hk => .inr ⟨i, u, a, hk⟩, h.dist⟩
  lt w g h k := by
    rcases k with k | ⟨i, u, hu, k⟩
    · exact h.lt.1 g k
    · exact h.lt.2 i u hu g k
def Own2Z (B : Nat) (w : World) (v : Value) (ls : List (List Int)) : Prop := ∃ vs, Own2z B w v vs ls
theorem Own2Z.nil (B : Nat) (w : World) : Own2Z B w (.slice none 0 0) [] := ⟨[], rfl, World.ownsRow_nil _ _ _ _, fun i u l h => by simp at h, fun i j u u' _ h => by simp at h⟩
theorem Own2.z {B : Nat} {w : World} {v : Value} {ls : List (List Nat)} (h : Own2 B w v ls) : Own2Z B w v (ls.map zs9) := by
  obtain ⟨vs, hv⟩ := own2v.1 h
  exact ⟨vs, own2z_of.1 hv⟩
theorem Own1.z {B : Nat} {w : World} {v : Value} {l : List Nat} (h : Own1 B w v l) : OwnZ B w v (zs9 l) := by
  unfold OwnZ; rw [zc_zs9, zs9_length]; exact h
theorem own2Z_form {B : Nat} {w : World} {v : Value} {ls : List (List Int)} (h : Own2Z B w v ls) : ∃ A c vs, v = .slice A ls.length c ∧ Own2z B w (.slice A ls.length c) vs ls := by
  obtain ⟨vs, hv⟩ := h
  obtain ⟨A, c, rfl⟩ := hv.form
  exact ⟨A, c, vs, rfl, hv⟩
theorem Holds.newZZ {w0 w w' : World} {L : List Part} (h : Holds w0 w L) (hb : Below w.heap.size w w') {v : Value} {vs : List Value} {ls : List (List Int)} (ho : Own2z w.heap.size w' v vs ls) : Holds w0 w' (pZZ v vs ls :: L) :=
  h.new hb _ (ho.mono (Nat.zero_le _)) fun g hg => by
    rcases hg with k | ⟨i, u, hu, k⟩
    · exact ho.ge.1 g k
    · exact ho.ge.2 i u hu g k
theorem Holds.turnZZ {w0 w w' : World} {L : List Part} (h : Holds w0 w L) (i : Nat) {v : Value} {vs : List Value} {ls ls' : List (List Int)} (hi : L[i]? = some (pZZ v vs ls)) (hs : Sole w w' (ownsZZ v vs)) (ho : Own2z 0 w' v vs ls') : Holds w0 w' (L.set i (pZZ v vs ls')) :=
  h.turn i hi _ ho hs.os hs.tape hs.output hs.size hs.block fun g hg => .inl hg

set_option maxRecDepth 100000 in
set_option maxHeartbeats 400000 in
theorem markZZ_any (ls : List (List Int)) (A : Option Addr) (c k0 : Nat) (vs : List Value) (hl : totZ ls ≤ 1000000) (hl2 : ls.length ≤ 1000000) (hk0 : k0 ≤ 1000000) (w : World) (h : Own2z 0 w (.slice A ls.length c) vs ls) :
    Calls Try.prog 22 #[.slice A ls.length c, .int .i64 k0] w fun e w' => e = .returned (.int .i64 (k0 + totZ ls : Nat)) ∧ Sole w w' (ownsZZ (.slice A ls.length c) vs) ∧ Own2z 0 w' (.slice A ls.length c) vs (mkZ k0 ls) := by
  go_enter Try.func22, Try.ntmps22
  go_wp2
  go_loopw [1, 5] (fun q i wr => ∃ k : Nat, k ≤ ls.length ∧ i = .int .i64 k ∧ q = .int .i64 (k0 + totZ (ls.take k) : Nat) ∧ Sole w wr (ownsZZ (.slice A ls.length c) vs) ∧ Own2z 0 wr (.slice A ls.length c) vs ((mkZ k0 ls).take k ++ ls.drop k)) (fun _ i _ => ls.length - (intOf i).toNat)
  case atStart => exact ⟨0, by omega, rfl, by simp [totZ], Sole.refl _ _, by simpa using h⟩
  case round =>
    obtain ⟨k, hk, rfl, rfl, hb, ho⟩ := hrel
    have ht := totZ_take_le ls k
    by_cases hlt : k < ls.length
    · have hml : ((mkZ k0 ls).take k).length = k := by rw [List.length_take, mkZ_length]; omega
      have hlen : k < ((mkZ k0 ls).take k ++ ls.drop k).length := by rw [List.length_append, hml, List.length_drop]; omega
      have hge : ((mkZ k0 ls).take k ++ ls.drop k)[k] = ls[k] := by
        rw [List.getElem_append_right (by omega)]
        simp only [hml, Nat.sub_self, List.getElem_drop, Nat.add_zero]
      obtain ⟨g, A', c', rfl, hg, hv, hc, h1⟩ := ho.at hlen
      rw [hge] at hv hc h1
      have hle := len_le_totZ ls k hlt
      have hts := totZ_take_succ ls k hlt
      have hset : ((mkZ k0 ls).take k ++ ls.drop k).set k (zs9 (marks (k0 + totZ (ls.take k)) ls[k].length)) = (mkZ k0 ls).take (k + 1) ++ ls.drop (k + 1) := by
        have hkm : k < (mkZ k0 ls).length := by rw [mkZ_length]; exact hlt
        have e : (mkZ k0 ls)[k] = zs9 (marks (k0 + totZ (ls.take k)) ls[k].length) := by
          have := mkZ_get ls k0 k hlt
          rw [List.getElem?_eq_getElem hkm] at this
          exact Option.some.inj this
        rw [List.set_append_right _ _ (by omega), hml, Nat.sub_self, List.drop_eq_getElem_cons hlt, List.set_cons_zero, List.take_succ_eq_append_getElem hkm, e, List.append_assoc]
        rfl
      have C := hide (markZ_any ls[k] A' c' 0 (k0 + totZ (ls.take k)) (by omega) (by omega) wr h1)
      clear hge
      have HSET := hide hset; clear hset
      have HV := hide hv; clear hv
      have HO := hide ho; clear ho
      have HT := hide hts; clear hts
      have H1 := hide h1; clear h1
      have HLEN := hide hlen; clear hlen
      clear hml
      go_wp2_with fail
      refine C.out.mono ?_
      rintro e w1 ⟨rfl, hg1, hn⟩
      have hn' : OwnZ 0 w1 (.slice A' ls[k].length c') (zs9 (marks (k0 + totZ (ls.take k)) ls[k].length)) := by
        unfold OwnZ; rw [zc_zs9, zs9_length, marks_length]; exact hn
      have hO := HO.out.upd HLEN.out HV.out hg1 hn'
      rw [HSET.out] at hO
      have hbw := hb.grown hg1 (fun g hg => .inr ⟨k, _, HV.out, hg⟩)
      have HOO := hide hO; clear hO
      clear hn hn' hg1 hc hb
      go_wp2
      go_roundw
      case rel => exact ⟨k + 1, by omega, by go_num, by rw [HT.out]; go_num, hbw, HOO.out⟩
      case measure => simp [intOf]; omega
    · obtain rfl : k = ls.length := by omega
      go_wp2
      go_ret
      refine ⟨by simp, hb, ?_⟩
      rw [List.drop_length, List.append_nil, List.take_of_length_le (by rw [mkZ_length]; omega)] at ho
      exact ho
theorem heldZZ_any (ls : List (List Int)) (A : Option Addr) (c k0 : Nat) (vs : List Value) (hl : totZ ls ≤ 1000000) (hl2 : ls.length ≤ 1000000) (hk0 : k0 ≤ 1000000) (w : World) (h : Own2z 0 w (.slice A ls.length c) vs (mkZ k0 ls)) :
    Calls Try.prog 23 #[.slice A ls.length c, .int .i64 k0] w fun e w' => e = .returned (.int .i64 (k0 + totZ ls : Nat)) ∧ Below w.heap.size w w' := by
  have := heldInt64SS_any (shapeN ls) A c 0 k0 vs (by rw [shapeN_total]; exact hl) (by rw [shapeN_length]; exact hl2) hk0 w (by rw [shapeN_length]; exact own2z_of.2 h)
  rwa [shapeN_length, shapeN_total] at this
theorem eqZZ_same (ls : List (List Int)) (A A' : Option Addr) (c c' B B' : Nat) (vs vs' : List Value) (hl : totZ ls ≤ 1000000) (hl2 : ls.length ≤ 1000000) (w : World)
    (h : Own2z B w (.slice A ls.length c) vs ls) (h' : Own2z B' w (.slice A' ls.length c') vs' ls) :
    Calls Try.prog 19 #[.slice A ls.length c, .slice A' ls.length c'] w fun e w' => e = .returned (.bool true) ∧ Below w.heap.size w w' := by
  have hs : ∀ l ∈ ls, l.length ≤ 1000000 := fun l h => by have := mem_le_totZ h; omega
  exact eqInt64SS_rd ls _ _ w (h.rd hl2 hs) (h'.rd hl2 hs)
end Go.Proofs.Ytmapjjfefjoemaa

namespace Go.Proofs.Ytmapjjfefjoemaa
open Go.RowKit
theorem wr64 {x : Int} (h1 : -9223372036854775808 ≤ x) (h2 : x ≤ 9223372036854775807) : wrap64 x = x := by
  unfold wrap64; omega
theorem wr64k {x : Int} (h1 : -9223372036854775808 ≤ x) (h2 : x ≤ 9223372036854775807) : IntKind.i64.wrap x = x := by
  rw [IntKind.wrap_i64]; omega
theorem wr8k {x : Int} (h1 : 0 ≤ x) (h2 : x < 256) : IntKind.u8.wrap x = x := by
  rw [IntKind.wrap_u8]; omega
end Go.Proofs.Ytmapjjfefjoemaa

namespace Go.Proofs.Ytmapjjfefjoemaa
open Go.RowKit

/-- n numbers, all in a range -/
def lstB (l : List Int) (n a b : Int) : Bool := (l.all fun x => decide (a ≤ x ∧ x ≤ b)) && ((l.length : Int) == n)
theorem lstB_true {l : List Int} {n a b : Int} (h : lstB l n a b = true) : (l.length : Int) = n ∧ ∀ x ∈ l, a ≤ x ∧ x ≤ b := by
  unfold lstB at h
  rw [Bool.and_eq_true] at h
  obtain ⟨h1, h2⟩ := h
  rw [List.all_eq_true] at h1
  exact ⟨by simpa using h2, fun x hx => by simpa using h1 x hx⟩
theorem lstB_bad {l : List Int} {n a b : Int} {i : Nat} (hi : i < l.length) (h : ¬ (a ≤ l[i] ∧ l[i] ≤ b)) : lstB l n a b = false := by
  unfold lstB
  have : (l.all fun x => decide (a ≤ x ∧ x ≤ b)) = false := by
    rw [List.all_eq_false]
    exact ⟨l[i], List.getElem_mem _, by simpa using h⟩
  rw [this, Bool.false_and]
theorem lstB_good {l : List Int} {n a b : Int} (h : ∀ i (hi : i < l.length), a ≤ l[i] ∧ l[i] ≤ b) : lstB l n a b = ((l.length : Int) == n) := by
  unfold lstB
  have : (l.all fun x => decide (a ≤ x ∧ x ≤ b)) = true := by
    rw [List.all_eq_true]
    intro x hx
    obtain ⟨i, hi, rfl⟩ := List.getElem_of_mem hx
    simpa using h i hi
  rw [this, Bool.true_and]
set_option maxRecDepth 100000 in
set_option maxHeartbeats 1000000 in
theorem areNumbersIn_any (v : Value) (l : List Int) (n a b : Int) (w : World) (hv : RdZ w v l) :
    Calls Try.prog 89 #[v, .int .i64 n, .int .i64 a, .int .i64 b] w fun e w' => e = .returned (.bool (lstB l n a b)) ∧ w = w' := by
  obtain ⟨A, c, rfl, _⟩ := hv.form
  have HV := hide hv; clear hv
  obtain ⟨r, hr⟩ : ∃ r, r = lstB l n a b := ⟨_, rfl⟩
  rw [← hr]
  have HR := hide hr; clear hr
  go_enter Try.func89, Try.ntmps89
  go_wp2
  go_loopw [13] (fun t wr => ∃ i : Nat, i ≤ l.length ∧ t = .int .i64 i ∧ w = wr ∧ Hid (∀ j (hj : j < l.length), j < i → a ≤ l[j] ∧ l[j] ≤ b)) (fun t _ => l.length - (intOf t).toNat)
  case atStart => exact ⟨0, Nat.zero_le _, rfl, rfl, hide (fun j hj h => by omega)⟩
  case round =>
    obtain ⟨i, hi, rfl, rfl, hA⟩ := hrel
    by_cases hlt : i < l.length
    · obtain ⟨a0, rfl, _, c1⟩ := HV.out.at hlt
      by_cases h1 : l[i] < a
      · have hF := hide (lstB_bad (n := n) hlt (a := a) (b := b) (by omega))
        generalize l[i] = x at *
        go_wp2
        go_ret
        exact ⟨by rw [HR.out, hF.out]; rfl, rfl⟩
      · by_cases h2 : l[i] > b
        · have hF := hide (lstB_bad (n := n) hlt (a := a) (b := b) (by omega))
          generalize l[i] = x at *
          go_wp2
          go_ret
          exact ⟨by rw [HR.out, hF.out]; rfl, rfl⟩
        · have hA' := hide (fun (j : Nat) (hj : j < l.length) (h : j < i + 1) => (by
            by_cases e : j = i
            · subst e; omega
            · exact hA.out j hj (by omega) : a ≤ l[j] ∧ l[j] ≤ b))
          generalize l[i] = x at *
          go_wp2
          go_roundw
          case rel => exact ⟨i + 1, by omega, by go_num, by trivial, hA'⟩
          case measure => simp [intOf]; omega
    · obtain rfl : i = l.length := by omega
      have hF := hide (lstB_good (n := n) (a := a) (b := b) fun j hj => hA.out j hj hj)
      clear hA hlt hi
      go_wp2
      go_ret
      exact ⟨by rw [HR.out, hF.out]; rfl, rfl⟩
set_option maxRecDepth 100000 in
set_option maxHeartbeats 1000000 in
theorem l09List_any (v : Value) (l : List Int) (n a b : Int) (w : World) (hv : RdZ w v l) :
    Calls Try.prog 85 #[v, .int .i64 n, .int .i64 a, .int .i64 b] w fun e w' => e = .returned (.bool (lstB l n a b)) ∧ w = w' := by
  obtain ⟨A, c, rfl, _⟩ := hv.form
  have HV := hide hv; clear hv
  obtain ⟨r, hr⟩ : ∃ r, r = lstB l n a b := ⟨_, rfl⟩
  rw [← hr]
  have HR := hide hr; clear hr
  go_enter Try.func85, Try.ntmps85
  go_wp2
  go_loopw [9] (fun t wr => ∃ i : Nat, i ≤ l.length ∧ t = .int .i64 i ∧ w = wr ∧ Hid (∀ j (hj : j < l.length), j < i → a ≤ l[j] ∧ l[j] ≤ b)) (fun t _ => l.length - (intOf t).toNat)
  case atStart => exact ⟨0, Nat.zero_le _, rfl, rfl, hide (fun j hj h => by omega)⟩
  case round =>
    obtain ⟨i, hi, rfl, rfl, hA⟩ := hrel
    by_cases hlt : i < l.length
    · obtain ⟨a0, rfl, _, c1⟩ := HV.out.at hlt
      have C := hide fun w => in_any l[i] a b w
      by_cases h1 : a ≤ l[i] ∧ l[i] ≤ b
      · rw [decide_eq_true h1] at C
        have hA' := hide (fun (j : Nat) (hj : j < l.length) (h : j < i + 1) => (by
            by_cases e : j = i
            · subst e; exact h1
            · exact hA.out j hj (by omega) : a ≤ l[j] ∧ l[j] ≤ b))
        clear h1
        generalize l[i] = x at *
        go_wp2_with fail
        refine (C.out _).mono ?_
        rintro e w1 ⟨rfl, rfl⟩
        go_wp2
        go_roundw
        case rel => exact ⟨i + 1, by omega, by go_num, by trivial, hA'⟩
        case measure => simp [intOf]; omega
      · rw [decide_eq_false h1] at C
        have hF := hide (lstB_bad (n := n) hlt (a := a) (b := b) h1)
        clear h1
        generalize l[i] = x at *
        go_wp2_with fail
        refine (C.out _).mono ?_
        rintro e w1 ⟨rfl, rfl⟩
        go_wp2
        go_ret
        exact ⟨by rw [HR.out, hF.out]; rfl, rfl⟩
    · obtain rfl : i = l.length := by omega
      have hF := hide (lstB_good (n := n) (a := a) (b := b) fun j hj => hA.out j hj hj)
      clear hA hlt hi
      go_wp2
      go_ret
      exact ⟨by rw [HR.out, hF.out]; rfl, rfl⟩
/-- the sum of the numbers at some places -/
def sm9 (l : List Int) (c : List Nat) : Int := (c.map fun x => l.getD x 0).sum
theorem sm9_nil (l : List Int) : sm9 l [] = 0 := rfl
theorem sm9_snoc (l : List Int) (c : List Nat) (x : Nat) : sm9 l (c ++ [x]) = sm9 l c + l.getD x 0 := by unfold sm9; simp
theorem sm9_take (l : List Int) (c : List Nat) {i : Nat} (h : i < c.length) : sm9 l (c.take (i + 1)) = sm9 l (c.take i) + l.getD c[i] 0 := by
  rw [List.take_succ_eq_append_getElem h, sm9_snoc]
theorem sm9_bound {l : List Int} {K : Int} (hK : 0 ≤ K) (hs : ∀ x ∈ l, -K ≤ x ∧ x ≤ K) (c : List Nat) : -(K * c.length) ≤ sm9 l c ∧ sm9 l c ≤ K * c.length := by
  have one : ∀ x, -K ≤ l.getD x 0 ∧ l.getD x 0 ≤ K := fun x => by
    rw [List.getD_eq_getElem?_getD]
    rcases h : l[x]? with _ | y
    · simp; omega
    · exact hs y (List.mem_of_getElem? h)
  induction c with
  | nil => simp [sm9]
  | cons x c ih =>
    have h1 := one x
    have : sm9 l (x :: c) = l.getD x 0 + sm9 l c := rfl
    rw [this, List.length_cons, Int.natCast_add, Int.mul_add]
    omega
theorem zs9_get {c : List Nat} {i : Nat} (h : i < c.length) (h' : i < (zs9 c).length) : (zs9 c)[i] = ((c[i] : Nat) : Int) := by simp [zs9]
set_option maxRecDepth 100000 in
set_option maxHeartbeats 1000000 in
theorem sumAt_any (v u : Value) (l : List Int) (c : List Nat) (hs : ∀ x ∈ l, -100000 ≤ x ∧ x ≤ 100000) (hc : c.length ≤ 100) (hx : ∀ x ∈ c, x < l.length) (w : World) (hv : RdZ w v l) (hu : RdZ w u (zs9 c)) :
    Calls Try.prog 90 #[v, u] w fun e w' => e = .returned (.int .i64 (sm9 l c)) ∧ w = w' := by
  obtain ⟨A, c0, rfl, _⟩ := hv.form
  obtain ⟨B, c1, rfl, _⟩ := hu.form
  have HV := hide hv; clear hv
  have HU := hide hu; clear hu
  have HX := hide hx; clear hx
  have HS := hide hs; clear hs
  rw [zs9_length]
  go_enter Try.func90, Try.ntmps90
  go_wp2
  go_loopw [5, 10] (fun s t wr => ∃ i : Nat, i ≤ c.length ∧ t = .int .i64 i ∧ s = .int .i64 (sm9 l (c.take i)) ∧ w = wr) (fun _ t _ => c.length - (intOf t).toNat)
  case atStart => exact ⟨0, Nat.zero_le _, rfl, rfl, rfl⟩
  case round =>
    obtain ⟨i, hi, rfl, rfl, rfl⟩ := hrel
    by_cases hlt : i < c.length
    · have hzs := sm9_take l c hlt
      have hlt' : i < (zs9 c).length := by rw [zs9_length]; exact hlt
      obtain ⟨b0, rfl, _, d1⟩ := HU.out.at hlt'
      rw [zs9_get hlt] at d1
      have hxl := HX.out _ (List.getElem_mem hlt)
      generalize c[i] = x at *
      obtain ⟨a0, rfl, _, d2⟩ := HV.out.at hxl
      rw [List.getD_eq_getElem?_getD, List.getElem?_eq_getElem hxl, Option.getD_some] at hzs
      have hb := sm9_bound (K := 100000) (by omega) HS.out (c.take i)
      have hb2 := HS.out _ (List.getElem_mem hxl)
      rw [List.length_take] at hb
      generalize l[x] = y at *
      generalize sm9 l (c.take i) = s at *
      have ws : wrap64 (s + y) = s + y := wr64 (by omega) (by omega)
      have HZS := hide hzs; clear hzs hb hb2 hlt'
      have hx' : (x : Int) < l.length := by omega
      go_wp2
      go_roundw
      case rel => exact ⟨i + 1, by omega, by go_num, by rw [HZS.out, ws], by trivial⟩
      case measure => simp [intOf]; omega
    · obtain rfl : i = c.length := by omega
      rw [List.take_length]
      clear hlt hi
      go_wp2
      go_ret
      exact ⟨rfl, rfl⟩
end Go.Proofs.Ytmapjjfefjoemaa

namespace Go.Proofs.Ytmapjjfefjoemaa
open Go.RowKit

/-- bytes as cells; a list of bytes in a row of its own -/
def bytesL (l : List Nat) : List Value := l.map fun (x : Nat) => Value.int .u8 (x : Int)
def OwnB (B : Nat) (w : World) (v : Value) (l : List Nat) : Prop := w.ownsRow B 5 1 v l.length (bytesL l)
theorem infoU8 : (Try.prog.info? 5).map (fun i => (i.zero, i.size, i.bytes)) = some (some (.int .u8 0), 1, 1) := by kernel_rfl
theorem plainU8 : Try.prog.plainKey 5 = true := by kernel_rfl
/-- an element of an array of bytes that is a value -/
theorem run_index8 {T : TypeId} {n : Nat} (hT : Try.prog.underlying T = some (.array n 5)) {cs : Array Value} {j v : Nat} (hj : j < n) (h : cs[j]? = some (.int .u8 v)) (w : World) :
    (Instr.index T (.agg cs) (.int .i64 j)).run Try.prog w = .ok (.int .u8 v) w := by
  obtain ⟨i0, hi, hz0, hz1, hz2⟩ := info_parts infoU8
  simp [Instr.index, run_underlying hT, asIntOf, hj, go_sem, sizeOf, typeInfo, hi, hz1, h]
theorem OwnB.at {B : Nat} {w : World} {v : Value} {l : List Nat} (h : OwnB B w v l) {k : Nat} (hk : k < l.length) :
    ∃ g c, v = .slice (some ⟨g, 0, none⟩) l.length c ∧ B ≤ g ∧ g < w.heap.size ∧ l.length ≤ c ∧ c ≤ maxLen ∧ w.cell? ⟨g, k, none⟩ = some (.int .u8 (l[k] : Nat)) := by
  rcases h.2 with ⟨_, e⟩ | ⟨g, cap, cur, rfl, hB, hh, h1, h2, h3, h4⟩
  · omega
  · refine ⟨g, cap, rfl, hB, ?_, h1, h2, ?_⟩
    · rcases Nat.lt_or_ge g w.heap.size with c | c
      · exact c
      · rw [Array.getElem?_eq_none c] at hh; cases hh
    · rw [cell_of_cells, cellsOf_heap hh]
      have := congrArg (·[k]?) h4
      simp only [Nat.mul_one, List.getElem?_take_of_lt hk, Array.getElem?_toList] at this
      rw [this]
      unfold bytesL
      rw [List.getElem?_map, List.getElem?_eq_getElem hk]; rfl
theorem ownB_form {B : Nat} {w : World} {v : Value} {l : List Nat} (h : OwnB B w v l) : ∃ A c, v = .slice A l.length c := own_slice h

/-- the search, j of the two steps from X -/
def bst (f g : Nat → Nat) (S : List Nat × (Nat → Bool)) (X : Nat) : Nat → List Nat × (Nat → Bool)
  | 0 => S
  | 1 => badd S (f X)
  | _ + 2 => badd (badd S (f X)) (g X)
def stepY (f g : Nat → Nat) (X j : Nat) : Nat := if j = 0 then f X else g X
theorem bst_step (f g : Nat → Nat) (S : List Nat × (Nat → Bool)) (X : Nat) {j : Nat} (hj : j < 2) : bst f g S X (j + 1) = badd (bst f g S X j) (stepY f g X j) := by
  rcases j with _ | _ | j
  · rfl
  · rfl
  · omega
theorem stepY_lt {f g : Nat → Nat} {X m : Nat} (hf : f X < m) (hg : g X < m) (j : Nat) : stepY f g X j < m := by unfold stepY; split <;> assumption
theorem bst_inv {f g : Nat → Nat} {S : List Nat × (Nat → Bool)} {X m : Nat} (hS : BInv m S) (hf : f X < m) (hg : g X < m) (j : Nat) : BInv m (bst f g S X j) := by
  rcases j with _ | _ | j
  · exact hS
  · exact hS.add hf
  · exact (hS.add hf).add hg
theorem bfs_start (f g : Nat → Nat) (x : Nat) : bfs f g x 0 = ([x], mset (fun _ => false) x) := by rw [bfs]; rfl
theorem bfs_next {f g : Nat → Nat} {x k : Nat} (hk : k < (bfs f g x k).1.length) : bfs f g x (k + 1) = bst f g (bfs f g x k) (bfs f g x k).1[k] 2 := by
  rw [bfs, List.getElem?_eq_getElem hk]; rfl
theorem bst_pre (f g : Nat → Nat) (S : List Nat × (Nat → Bool)) (X j : Nat) : S.1 <+: (bst f g S X j).1 := by
  rcases j with _ | _ | j
  · exact List.prefix_refl _
  · exact badd_le _ _
  · exact (badd_le _ _).trans (badd_le _ _)
theorem badd_old {S : List Nat × (Nat → Bool)} {y : Nat} (h : S.2 y = true) : badd S y = S := by unfold badd; rw [if_pos h]
theorem badd_new {S : List Nat × (Nat → Bool)} {y : Nat} (h : S.2 y = false) : badd S y = (S.1 ++ [y], mset S.2 y) := by unfold badd; rw [if_neg (by simp [h])]; rfl

set_option maxRecDepth 100000 in
set_option maxHeartbeats 1000000 in
theorem dartsFrom_any (f g : Nat → Nat) (m : Nat) (hm : m ≤ 16) (hf : ∀ i, i < m → f i < m) (hg : ∀ i, i < m → g i < m) (x : Nat) (hx : x < m) (n : Int) (w : World) :
    Calls Try.prog 112 #[.agg (dv n f g), .int .u8 x] w fun e w' => ∃ v, e = .returned v ∧ Below w.heap.size w w' ∧ OwnB w.heap.size w' v (bfs f g x 16).1 := by
  have HI := hide fun k => bfs_inv hf hg hx k
  have HF := hide hf; clear hf
  have HG := hide hg; clear hg
  obtain ⟨i0, hi, hz0, hz1, hz2⟩ := info_parts infoU8
  have I0 := hide (And.intro hi (And.intro hz0 (And.intro hz1 hz2))); clear hi hz0 hz1 hz2
  have hx16 : x < 16 := by omega
  have h0 := bv_set (fun _ => false) x
  rw [bv_false] at h0
  go_enter Try.func112, Try.ntmps112
  go_wp2
  go_loopw [5, 7] (fun out i wr => ∃ k : Nat, k ≤ 16 ∧ i = .int .i64 k ∧ Below w.heap.size w wr ∧ cellsOf wr w.heap.size = dv n f g ∧ wr.heap[w.heap.size + 1 + 1]? = some (.cells (bv (bfs f g x k).2) 85 (0, 0)) ∧ OwnB (w.heap.size + 1) wr out (bfs f g x k).1)
    (fun _ i _ => 16 - (intOf i).toNat)
  case atStart => exact ⟨0, by omega, rfl, below3 _ _ _ _, cellsOf_heap (heap2 rfl), by rw [bfs_start]; exact heap_at _ _ _ (by simp), by rw [bfs_start]; exact ⟨by simp [bytesL], .inr ⟨w.heap.size + 1, 1, #[.int .u8 x], rfl, Nat.le_refl _, heap1 (by simp), Nat.le_refl _, by unfold maxLen; omega, by simp, by simp [bytesL]⟩⟩⟩
  case round =>
    obtain ⟨k, hk, rfl, hb, hcd, hhm, hown⟩ := hrel
    have hI := HI.out k
    have hl16 : (bfs f g x k).1.length ≤ 16 := by have := hI.length_le; omega
    by_cases hlt : k < (bfs f g x k).1.length
    · have hnext := bfs_next hlt
      have hX := hI.lt _ (List.getElem_mem hlt)
      obtain ⟨g0, c, rfl, hB0, hg0, hc1, hc2, hcell⟩ := hown.at hlt
      have hsz := hb.size
      have hk16 : k < 16 := by omega
      generalize hS : bfs f g x k = S at *
      generalize S.1[k] = X at *
      have HS := hide hS; clear hS
      have HN := hide hnext; clear hnext
      have hX16 : X < 16 := by omega
      have hfX := HF.out X hX
      have hgX := HG.out X hX
      have cb : wr.cell? ⟨w.heap.size, 1 + X, none⟩ = some (.int .u8 (f X)) := by rw [cell_of_cells, hcd, dv_b _ _ _ hX16]
      have cw : wr.cell? ⟨w.heap.size, 17 + X, none⟩ = some (.int .u8 (g X)) := by rw [cell_of_cells, hcd, dv_w _ _ _ hX16]
      have HCD := hide hcd; clear hcd
      have HM := hide hhm; clear hhm
      have HO := hide hown; clear hown
      have HIV := hide hI; clear hI
      go_wp2
      go_quiet (fail)
      go_wp2
      have hbz : Below w.heap.size w (wr.drewN nq) := ⟨hb.os, hb.tape, hb.output, hb.size, hb.block⟩
      have hcz : cellsOf (wr.drewN nq) w.heap.size = dv n f g := HCD.out
      have hmz : (wr.drewN nq).heap[w.heap.size + 1 + 1]? = some (.cells (bv S.2) 85 (0, 0)) := HM.out
      have hoz : OwnB (w.heap.size + 1) (wr.drewN nq) (.slice (some ⟨g0, 0, none⟩) S.1.length c) S.1 := HO.out
      clear hcell cb cw HCD HM HO hb hg0 hc1 hc2 hlt hsz
      generalize wr.drewN nq = wz at *
      clear wr
      go_loopw [5, 35] (fun out j wr => ∃ jj : Nat, jj ≤ 2 ∧ j = .int .i64 jj ∧ Below w.heap.size w wr ∧ cellsOf wr w.heap.size = dv n f g ∧ wr.heap[w.heap.size + 1 + 1]? = some (.cells (bv (bst f g S X jj).2) 85 (0, 0)) ∧ OwnB (w.heap.size + 1) wr out (bst f g S X jj).1)
        (fun _ j _ => 2 - (intOf j).toNat)
      case atStart => exact ⟨0, by omega, rfl, hbz, hcz, hmz, hoz⟩
      case round =>
        obtain ⟨j, hj, rfl, hb, hcd, hhm, hown⟩ := hrel
        clear hbz hcz hmz hoz
        have hsz := hb.size
        by_cases hj2 : j < 2
        · have hst := bst_step f g S X hj2
          have hYl := stepY_lt hfX hgX j
          have hidx : (#[Value.int .u8 (f X), Value.int .u8 (g X)] : Array Value)[j]? = some (.int .u8 (stepY f g X j)) := by
            rcases j with _ | _ | j
            · rfl
            · rfl
            · omega
          have hrun := run_index8 Try.underlying127 hj2 hidx
          have hIT := bst_inv HIV.out hfX hgX j
          generalize bst f g S X j = T at *
          generalize stepY f g X j = Y at *
          have hTl : T.1.length ≤ 16 := by have := hIT.length_le; omega
          have hY16 : Y < 16 := by omega
          have hlw : w.heap.size + 1 + 1 < wr.heap.size := by
            rcases Nat.lt_or_ge (w.heap.size + 1 + 1) wr.heap.size with e | e
            · exact e
            · rw [Array.getElem?_eq_none e] at hhm; cases hhm
          have hcm : cellsOf wr (w.heap.size + 1 + 1) = bv T.2 := cellsOf_heap hhm
          have HCD := hide hcd; clear hcd
          rcases hTY : T.2 Y with _ | _
          · have c0 : wr.cell? ⟨w.heap.size + 1 + 1, Y, none⟩ = some (.bool false) := by rw [cell_of_cells, hcm, bv_get _ hY16, hTY]
            have f0 : wr.frozen? ⟨w.heap.size + 1 + 1, Y, none⟩ = false := by simp [World.frozen?, hhm]
            have hS : World.grownBy wr (wr.setCell ⟨w.heap.size + 1 + 1, Y, none⟩ (.bool true)) (some (w.heap.size + 1 + 1)) := grown_setCell (grown_refl _ _)
            have hownA : (wr.setCell ⟨w.heap.size + 1 + 1, Y, none⟩ (.bool true)).ownsRow (w.heap.size + 1) 5 1 u5 T.1.length (bytesL T.1) := World.ownsRow.kept hown hS (own_ne_blk hown hhm (by decide))
            have hnb := own_ne_blk hown hhm (by decide)
            have hhs : (wr.setCell ⟨w.heap.size + 1 + 1, Y, none⟩ (.bool true)).heap[w.heap.size + 1 + 1]? = some (.cells (bv (mset T.2 Y)) 85 (0, 0)) := by rw [heap_setCell_same _ _ _ _ _ _ hhm, bv_set]
            have hbs : Below w.heap.size w (wr.setCell ⟨w.heap.size + 1 + 1, Y, none⟩ (.bool true)) := hb.grown hS hsz (fun g hg => by simp at hg; omega)
            have HH := hide hhm; clear hhm hcm
            have HS2 := hide hhs; clear hhs
            have HNB := hide hnb; clear hnb
            have HST := hide hst; clear hst
            have HTY := hide hTY; clear hTY
            have HBS := hide hbs; clear hbs
            have HOA := hide hownA; clear hownA
            go_wp2_with (at_builtin; refine wpList_append_own _ rfl _ _ 72 rfl (w.heap.size + 1) 5 i0 (.int .u8 0) 1 1 Try.underlying72 I0.out.1 I0.out.2.1 I0.out.2.2.1 I0.out.2.2.2 rfl (by decide) _ _ _ rfl (HOA.out.alloc _) ⟨wr.heap.size, 0, none⟩ 1 1 [.int .u8 Y] rfl rfl ?c1 ?c2 ?c3 ?c4 ?c5 ?_)
            case c1 => exact one_new _ _ _ _ (by simp)
            case c2 => intro u hu; simp at hu; subst hu; rfl
            case c3 => unfold maxLen; omega
            case c4 => omega
            case c5 => simp; omega
            intro v' w1 hown' hg' _
            have hrow : ∀ g, u5.ownBlock = some g → w.heap.size + 1 ≤ g := fun g hg => (HOA.out.lt g hg).1
            have hslt : w.heap.size + 1 + 1 < ((wr.setCell ⟨w.heap.size + 1 + 1, Y, none⟩ (.bool true)).alloc (.cells #[.int .u8 Y] 5)).heap.size := by simp; omega
            have hpc : cellsOf w1 w.heap.size = dv n f g := by
              rw [grown_cells hg' (by simp; omega) (fun e => by have := hrow _ e.symm; omega), cellsOf_past (by simp; omega), cellsOf_setCell_ne (by omega)]; exact HCD.out
            have hmc : w1.heap[w.heap.size + 1 + 1]? = some (.cells (bv (mset T.2 Y)) 85 (0, 0)) := by
              rw [hg'.block _ hslt (fun e => by rcases HNB.out with c | c; rw [c] at e; cases e; exact c e.symm), heap_past _ _ _ (by simp; omega)]; exact HS2.out
            have hbw : Below w.heap.size w w1 := (HBS.out.alloc (by simp; omega) _).grown hg' (by simp; omega) (fun g hg => by have := hrow g hg; omega)
            have hO : OwnB (w.heap.size + 1) w1 v' (badd T Y).1 := by
              rw [badd_new HTY.out]
              unfold OwnB bytesL at *
              simpa using hown'
            have H1 := hide hpc; clear hpc
            have H2 := hide hmc; clear hmc
            have H3 := hide hO; clear hO
            clear hown' hg' hrow c0 f0 hS HS2 HBS HOA HH HNB hslt hown
            go_wp2
            go_roundw
            case rel => exact ⟨j + 1, by omega, by go_num, hbw, H1.out, by rw [HST.out, badd_new HTY.out]; exact H2.out, by rw [HST.out]; exact H3.out⟩
            case measure => simp [intOf]; omega
          · have c0 : wr.cell? ⟨w.heap.size + 1 + 1, Y, none⟩ = some (.bool true) := by rw [cell_of_cells, hcm, bv_get _ hY16, hTY]
            have HH := hide hhm; clear hhm hcm
            have HST := hide hst; clear hst
            have HTY := hide hTY; clear hTY
            have HO := hide hown; clear hown
            go_wp2
            go_roundw
            case rel => exact ⟨j + 1, by omega, by go_num, hb, HCD.out, by rw [HST.out, badd_old HTY.out]; exact HH.out, by rw [HST.out, badd_old HTY.out]; exact HO.out⟩
            case measure => simp [intOf]; omega
        · obtain rfl : j = 2 := by omega
          have HH := hide hhm; clear hhm
          have HO := hide hown; clear hown
          have HCD := hide hcd; clear hcd
          go_wp2
          go_roundw
          case rel => exact ⟨k + 1, by omega, by go_num, hb, HCD.out, by rw [HN.out]; exact HH.out, by rw [HN.out]; exact HO.out⟩
          case measure => simp [intOf]; omega
    · obtain ⟨A, c, rfl⟩ := ownB_form hown
      have hst := bfs_stop (p := f) (q := g) (z := x) (i := k) (by omega) (j := 16) hk
      clear hhm hcd hI
      have HST := hide hst; clear hst
      have HO := hide hown; clear hown
      generalize bfs f g x k = S at *
      go_wp2
      go_ret
      exact ⟨_, rfl, hb, by rw [HST.out]; exact ⟨HO.out.1, HO.out.2.imp id (fun ⟨g, cap, cur, h1, h2, h3⟩ => ⟨g, cap, cur, h1, by omega, h3⟩)⟩⟩
end Go.Proofs.Ytmapjjfefjoemaa
