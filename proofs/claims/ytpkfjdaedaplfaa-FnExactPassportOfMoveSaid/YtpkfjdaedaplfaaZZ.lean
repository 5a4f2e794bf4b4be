/- Lists of lists of whole numbers in rows of the call's own: kept, compared, marked. -/
import Derived.Test.YtpkfjdaedaplfaaMkS
import Derived.Test.YtpkfjdaedaplfaaArg2
import Derived.Test.YtpkfjdaedaplfaaHS3
namespace Go.Proofs.Ytpkfjdaedaplfaa
open Go.RowKit

/-- numbers as whole numbers -/
def zs9 (l : List Nat) : List Int := l.map fun x => Int.ofNat x
theorem zs9_length (l : List Nat) : (zs9 l).length = l.length := by simp [zs9]
theorem zc_zs9 (l : List Nat) : zc (zs9 l) = nums l := by unfold zc zs9 nums; rw [List.map_map]; rfl
/-- a list of lists whose slices are known -/
structure Own2z (B : Nat) (w : World) (v : Value) (vs : List Value) (ls : List (List Int)) : Prop where
  len : vs.length = ls.length
  row : w.ownsRow B 79 1 v vs.length vs
  each : ∀ (i : Nat) (u : Value) (l : List Int), vs[i]? = some u → ls[i]? = some l → OwnZ B w u l
  dist : ∀ (i j : Nat) (u u' : Value), i < j → vs[i]? = some u → vs[j]? = some u' → u.ownBlock = none ∨ u.ownBlock ≠ u'.ownBlock
theorem own2z_of {B : Nat} {w : World} {v : Value} {vs : List Value} {ls : List (List Nat)} : Own2v B w v vs ls ↔ Own2z B w v vs (ls.map zs9) := by
  constructor
  · intro h
    refine ⟨by rw [List.length_map]; exact h.len, h.row, fun i u l h1 h2 => ?_, h.dist⟩
    rw [List.getElem?_map] at h2
    rcases h3 : ls[i]? with _ | m
    · rw [h3] at h2; cases h2
    · rw [h3] at h2
      simp only [Option.map_some, Option.some.injEq] at h2
      subst h2
      have := h.each i u m h1 h3
      unfold OwnZ; rw [zc_zs9, zs9_length]; exact this
  · intro h
    refine ⟨by have := h.len; rwa [List.length_map] at this, h.row, fun i u l h1 h2 => ?_, h.dist⟩
    have := h.each i u (zs9 l) h1 (by rw [List.getElem?_map, h2]; rfl)
    unfold OwnZ at this; rw [zc_zs9, zs9_length] at this; exact this
theorem Own2z.below {B C : Nat} {w w' : World} {v : Value} {vs : List Value} {ls : List (List Int)} (h : Own2z B w v vs ls) (hb : Below C w w') (hC : w.heap.size ≤ C) : Own2z B w' v vs ls := by
  have hg := grown_of_below (hb.mono hC) none
  have far : ∀ u : Value, u.ownBlock = none ∨ u.ownBlock ≠ none := fun u => Classical.em _
  exact ⟨h.len, h.row.kept hg (far _), fun i u l a b => (h.each i u l a b).kept hg (far _), h.dist⟩
theorem Own2z.lower {B C : Nat} {w w' : World} {v : Value} {vs : List Value} {ls : List (List Int)} (h : Own2z B w v vs ls) (hb : Below C w w') (hC : ∀ k, v.ownBlock = some k → k < C) (hC' : ∀ (i : Nat) (u : Value), vs[i]? = some u → ∀ k, u.ownBlock = some k → k < C) : Own2z B w' v vs ls := by
  have key : ∀ {e : TypeId} {s n : Nat} {u : Value} {xs : List Value}, w.ownsRow B e s u n xs → (∀ k, u.ownBlock = some k → k < C) → w'.ownsRow B e s u n xs := by
    intro e s n u xs hu hk
    refine ⟨hu.1, ?_⟩
    rcases hu.2 with c | ⟨g, cap, cur, rfl, h1, h2, h3⟩
    · exact .inl c
    · exact .inr ⟨g, cap, cur, rfl, h1, by rw [hb.block g (hk g rfl)]; exact h2, h3⟩
  exact ⟨h.len, key h.row hC, fun i u l a b => key (h.each i u l a b) (hC' i u a), h.dist⟩
theorem Own2z.keep {B : Nat} {w w' : World} {v : Value} {vs : List Value} {ls : List (List Int)} {r : Option Nat} (h : Own2z B w v vs ls) (hg : w.grownBy w' r) (h1 : ∀ k, r = some k → v.ownBlock ≠ some k) (h2 : ∀ k, r = some k → ∀ (i : Nat) (u : Value), vs[i]? = some u → u.ownBlock ≠ some k) : Own2z B w' v vs ls := by
  have key : ∀ u : Value, (∀ k, r = some k → u.ownBlock ≠ some k) → u.ownBlock = none ∨ u.ownBlock ≠ r := fun u hu => by
    rcases hb : u.ownBlock with _ | g
    · exact .inl rfl
    · exact .inr fun e => hu g e.symm hb
  exact ⟨h.len, h.row.kept hg (key v h1), fun i u l a b => World.ownsRow.kept (h.each i u l a b) hg (key u fun k hk => h2 k hk i u a), h.dist⟩
theorem Own2z.ge {B : Nat} {w : World} {v : Value} {vs : List Value} {ls : List (List Int)} (h : Own2z B w v vs ls) : (∀ k, v.ownBlock = some k → B ≤ k) ∧ ∀ (i : Nat) (u : Value), vs[i]? = some u → ∀ k, u.ownBlock = some k → B ≤ k := by
  refine ⟨fun k hk => (h.row.lt k hk).1, fun i u hu k hk => ?_⟩
  have hi : i < ls.length := by rw [← h.len]; exact (List.getElem?_eq_some_iff.1 hu).1
  exact (World.ownsRow.lt (h.each i u _ hu (List.getElem?_eq_getElem hi)) k hk).1
theorem Own2z.lt {B : Nat} {w : World} {v : Value} {vs : List Value} {ls : List (List Int)} (h : Own2z B w v vs ls) : (∀ k, v.ownBlock = some k → k < w.heap.size) ∧ ∀ (i : Nat) (u : Value), vs[i]? = some u → ∀ k, u.ownBlock = some k → k < w.heap.size := by
  refine ⟨fun k hk => (h.row.lt k hk).2, fun i u hu k hk => ?_⟩
  have hi : i < ls.length := by rw [← h.len]; exact (List.getElem?_eq_some_iff.1 hu).1
  exact (World.ownsRow.lt (h.each i u _ hu (List.getElem?_eq_getElem hi)) k hk).2
theorem Own2z.at {B : Nat} {w : World} {A : Option Addr} {n c i : Nat} {vs : List Value} {ls : List (List Int)} (h : Own2z B w (.slice A n c) vs ls) (hi : i < ls.length) :
    ∃ g A' c', A = some ⟨g, 0, none⟩ ∧ g < w.heap.size ∧ vs[i]? = some (.slice A' ls[i].length c') ∧ w.cell? ⟨g, i, none⟩ = some (.slice A' ls[i].length c') ∧ OwnZ B w (.slice A' ls[i].length c') ls[i] := by
  have hv : i < vs.length := by rw [h.len]; exact hi
  have h1 := h.each i _ _ (List.getElem?_eq_getElem hv) (List.getElem?_eq_getElem hi)
  obtain ⟨A', c', e⟩ := own_slice h1
  rcases h.row.2 with ⟨_, h0⟩ | ⟨g, cap, cur, e', hB, hh, h2, h3, h4, h5⟩
  · omega
  · injection e' with e1 e2 e3
    have hlt : g < w.heap.size := (Array.getElem?_eq_some_iff.1 hh).1
    refine ⟨g, A', c', e1, hlt, by rw [List.getElem?_eq_getElem hv, e], ?_, by rw [← e]; exact h1⟩
    rw [cell_of_cells, cellsOf_heap hh]
    have : (cur.toList.take (vs.length * 1))[i]? = vs[i]? := by rw [h5]
    rw [List.getElem?_take_of_lt (by omega), Array.getElem?_toList] at this
    rw [this, List.getElem?_eq_getElem hv, e]
theorem Own2z.form {B : Nat} {w : World} {v : Value} {vs : List Value} {ls : List (List Int)} (h : Own2z B w v vs ls) : ∃ A c, v = .slice A ls.length c := by
  obtain ⟨A, c, e⟩ := own_slice h.row
  exact ⟨A, c, by rw [e, h.len]⟩
theorem Own2z.upd {B i : Nat} {w w' : World} {v u : Value} {l : List Int} {vs : List Value} {ls : List (List Int)} (h : Own2z B w v vs ls) (hi : i < ls.length) (hu : vs[i]? = some u) (hg : w.grownBy w' u.ownBlock) (hn : OwnZ B w' u l) : Own2z B w' v vs (ls.set i l) := by
  have hiu := h.each i u _ hu (List.getElem?_eq_getElem hi)
  refine ⟨by rw [List.length_set]; exact h.len, h.row.kept hg (own_ne h.row hiu (by decide)), ?_, h.dist⟩
  intro j x m hx hm
  by_cases e : i = j
  · subst e
    rw [hu] at hx
    simp only [Option.some.injEq] at hx
    subst hx
    rw [List.getElem?_set_self hi] at hm
    simp only [Option.some.injEq] at hm
    subst hm
    exact hn
  · rw [List.getElem?_set_ne e] at hm
    refine (h.each j x m hx hm).kept hg ?_
    rcases Nat.lt_or_ge i j with c | c
    · rcases hb : x.ownBlock with _ | k
      · exact .inl rfl
      · refine .inr fun e' => ?_
        rcases h.dist i j u x c hu hx with d | d
        · rw [d] at e'; cases e'
        · exact d (by rw [hb, e'])
    · exact h.dist j i x u (by omega) hx hu
theorem Own2z.rd {B : Nat} {w : World} {v : Value} {vs : List Value} {ls : List (List Int)} (h : Own2z B w v vs ls) (hl : ls.length ≤ 1000000) (hs : ∀ l ∈ ls, l.length ≤ 1000000) : RdZ2 w v ls := by
  obtain ⟨A, c, rfl⟩ := h.form
  refine ⟨A, c, vs, rfl, by omega, h.len, fun i u hu => ?_, fun i u l hu hl => (h.each i u l hu hl).rd (by have := hs l (List.mem_of_getElem? hl); omega)⟩
  have hi : i < ls.length := by rw [← h.len]; exact (List.getElem?_eq_some_iff.1 hu).1
  obtain ⟨g, A', c', e1, e2, e3, e4, e5⟩ := h.at hi
  rw [hu] at e3
  simp only [Option.some.injEq] at e3
  subst e3
  exact ⟨⟨g, 0, none⟩, e1, e2, by rw [show ((⟨g, 0, none⟩ : Addr).add i) = ⟨g, i, none⟩ by simp [Addr.add]; exact Eq.symm]; exact e4⟩

def totZ (ls : List (List Int)) : Nat := (ls.map List.length).sum
theorem totZ_take_succ (ls : List (List Int)) (i : Nat) (h : i < ls.length) : totZ (ls.take (i + 1)) = totZ (ls.take i) + ls[i].length := by
  unfold totZ
  rw [List.take_succ_eq_append_getElem h, List.map_append, List.sum_append]
  simp
theorem totZ_take_le (ls : List (List Int)) (i : Nat) : totZ (ls.take i) ≤ totZ ls := by
  unfold totZ
  conv => rhs; rw [← List.take_append_drop i ls, List.map_append, List.sum_append]
  omega
theorem len_le_totZ (ls : List (List Int)) (i : Nat) (h : i < ls.length) : ls[i].length ≤ totZ ls := by
  have := totZ_take_succ ls i h
  have := totZ_take_le ls (i + 1)
  omega
theorem mem_le_totZ {ls : List (List Int)} {l : List Int} (h : l ∈ ls) : l.length ≤ totZ ls := by
  obtain ⟨i, hi, rfl⟩ := List.getElem_of_mem h
  exact len_le_totZ ls i hi
/-- lists of as many numbers, of those of Nat -/
def shapeN (ls : List (List Int)) : List (List Nat) := ls.map fun l => List.replicate l.length 0
theorem shapeN_length (ls : List (List Int)) : (shapeN ls).length = ls.length := by simp [shapeN]
theorem shapeN_total (ls : List (List Int)) : total (shapeN ls) = totZ ls := by unfold total shapeN totZ; rw [List.map_map]; congr 1; apply List.map_congr_left; intro l _; simp
theorem shapeN_get (ls : List (List Int)) (i : Nat) (h : i < ls.length) (h' : i < (shapeN ls).length) : (shapeN ls)[i].length = ls[i].length := by simp [shapeN]
theorem shapeN_take (ls : List (List Int)) (i : Nat) : (shapeN ls).take i = shapeN (ls.take i) := by simp [shapeN, List.map_take]
def mkZ (k0 : Nat) (ls : List (List Int)) : List (List Int) := (marksL k0 (shapeN ls)).map zs9
theorem mkZ_length (k0 : Nat) (ls : List (List Int)) : (mkZ k0 ls).length = ls.length := by simp [mkZ, marksL_length, shapeN]
theorem mkZ_get (ls : List (List Int)) (k0 i : Nat) (h : i < ls.length) : (mkZ k0 ls)[i]? = some (zs9 (marks (k0 + totZ (ls.take i)) ls[i].length)) := by
  have := marksL_get (shapeN ls) k0 i (by rw [shapeN_length]; exact h)
  unfold mkZ
  rw [List.getElem?_map, this, shapeN_get ls i h, shapeN_take, shapeN_total]; rfl

/-- only what S names is turned -/
structure Sole (w w' : World) (S : Nat → Prop) : Prop where
  os : w'.os = w.os
  tape : w'.tape = w.tape
  output : w'.output = w.output
  size : w.heap.size ≤ w'.heap.size
  block : ∀ k, k < w.heap.size → ¬ S k → w'.heap[k]? = w.heap[k]?
theorem Sole.refl (w : World) (S : Nat → Prop) : Sole w w S := ⟨rfl, rfl, rfl, Nat.le_refl _, fun _ _ _ => rfl⟩
theorem Sole.grown {w a b : World} {S : Nat → Prop} {r : Option Nat} (h : Sole w a S) (k : a.grownBy b r) (hr : ∀ g, r = some g → S g) : Sole w b S :=
  ⟨k.os.trans h.os, k.tape.trans h.tape, k.output.trans h.output, Nat.le_trans h.size k.size, fun g hg hs => (k.block g (Nat.lt_of_lt_of_le hg h.size) fun e => hs (hr g e.symm)).trans (h.block g hg hs)⟩
def ownsZZ (v : Value) (vs : List Value) (k : Nat) : Prop := v.ownBlock = some k ∨ ∃ (i : Nat) (u : Value), vs[i]? = some u ∧ u.ownBlock = some k
theorem Own2z.mono {B B' : Nat} {w : World} {v : Value} {vs : List Value} {ls : List (List Int)} (h : Own2z B w v vs ls) (hB : B' ≤ B) : Own2z B' w v vs ls :=
  ⟨h.len, row_low h.row hB, fun i u l a b => row_low (h.each i u l a b) hB, h.dist⟩
/-- a list of lists as a part -/
def pZZ (v : Value) (vs : List Value) (ls : List (List Int)) : Part where
  own k := ownsZZ v vs k
  ok w := Own2z 0 w v vs ls
  keep w w' h k := by
    have key : ∀ {e : TypeId} {s n : Nat} {u : Value} {xs : List Value}, w.ownsRow 0 e s u n xs → (∀ k, u.ownBlock = some k → ownsZZ v vs k) → w'.ownsRow 0 e s u n xs := by
      intro e s n u xs hu hk
      refine ⟨hu.1, ?_⟩
      rcases hu.2 with c | ⟨g, cap, cur, rfl, h1, h2, h3⟩
      · exact .inl c
      · exact .inr ⟨g, cap, cur, rfl, h1, by rw [k g (hk g rfl)]; exact h2, h3⟩
    exact ⟨h.len, key h.row fun k hk => .inl hk, fun i u l a b => key (h.each i u l a b) fun k hk => .inr ⟨i, u, a, hk⟩, h.dist⟩
  lt w g h k := by
    rcases k with k | ⟨i, u, hu, k⟩
    · exact h.lt.1 g k
    · exact h.lt.2 i u hu g k
def Own2Z (B : Nat) (w : World) (v : Value) (ls : List (List Int)) : Prop := ∃ vs, Own2z B w v vs ls
theorem Own2Z.nil (B : Nat) (w : World) : Own2Z B w (.slice none 0 0) [] := ⟨[], rfl, World.ownsRow_nil _ _ _ _, fun i u l h => by simp at h, fun i j u u' _ h => by simp at h⟩
theorem Own2.z {B : Nat} {w : World} {v : Value} {ls : List (List Nat)} (h : Own2 B w v ls) : Own2Z B w v (ls.map zs9) := by
  obtain ⟨vs, hv⟩ := own2v.1 h
  exact ⟨vs, own2z_of.1 hv⟩
theorem Own1.z {B : Nat} {w : World} {v : Value} {l : List Nat} (h : Own1 B w v l) : OwnZ B w v (zs9 l) := by
  unfold OwnZ; rw [zc_zs9, zs9_length]; exact h
theorem own2Z_form {B : Nat} {w : World} {v : Value} {ls : List (List Int)} (h : Own2Z B w v ls) : ∃ A c vs, v = .slice A ls.length c ∧ Own2z B w (.slice A ls.length c) vs ls := by
  obtain ⟨vs, hv⟩ := h
  obtain ⟨A, c, rfl⟩ := hv.form
  exact ⟨A, c, vs, rfl, hv⟩
theorem Holds.newZZ {w0 w w' : World} {L : List Part} (h : Holds w0 w L) (hb : Below w.heap.size w w') {v : Value} {vs : List Value} {ls : List (List Int)} (ho : Own2z w.heap.size w' v vs ls) : Holds w0 w' (pZZ v vs ls :: L) :=
  h.new hb _ (ho.mono (Nat.zero_le _)) fun g hg => by
    rcases hg with k | ⟨i, u, hu, k⟩
    · exact ho.ge.1 g k
    · exact ho.ge.2 i u hu g k
theorem Holds.turnZZ {w0 w w' : World} {L : List Part} (h : Holds w0 w L) (i : Nat) {v : Value} {vs : List Value} {ls ls' : List (List Int)} (hi : L[i]? = some (pZZ v vs ls)) (hs : Sole w w' (ownsZZ v vs)) (ho : Own2z 0 w' v vs ls') : Holds w0 w' (L.set i (pZZ v vs ls')) :=
  h.turn i hi _ ho hs.os hs.tape hs.output hs.size hs.block fun g hg => .inl hg

set_option maxRecDepth 100000 in
set_option maxHeartbeats 400000 in
theorem markZZ_any (ls : List (List Int)) (A : Option Addr) (c k0 : Nat) (vs : List Value) (hl : totZ ls ≤ 1000000) (hl2 : ls.length ≤ 1000000) (hk0 : k0 ≤ 1000000) (w : World) (h : Own2z 0 w (.slice A ls.length c) vs ls) :
    Calls Try.prog 54 #[.slice A ls.length c, .int .i64 k0] w fun e w' => e = .returned (.int .i64 (k0 + totZ ls : Nat)) ∧ Sole w w' (ownsZZ (.slice A ls.length c) vs) ∧ Own2z 0 w' (.slice A ls.length c) vs (mkZ k0 ls) := by
  go_enter Try.func54, Try.ntmps54
  go_wp2
  go_loopw [1, 5] (fun q i wr => ∃ k : Nat, k ≤ ls.length ∧ i = .int .i64 k ∧ q = .int .i64 (k0 + totZ (ls.take k) : Nat) ∧ Sole w wr (ownsZZ (.slice A ls.length c) vs) ∧ Own2z 0 wr (.slice A ls.length c) vs ((mkZ k0 ls).take k ++ ls.drop k)) (fun _ i _ => ls.length - (intOf i).toNat)
  case atStart => exact ⟨0, by omega, rfl, by simp [totZ], Sole.refl _ _, by simpa using h⟩
  case round =>
    obtain ⟨k, hk, rfl, rfl, hb, ho⟩ := hrel
    have ht := totZ_take_le ls k
    by_cases hlt : k < ls.length
    · have hml : ((mkZ k0 ls).take k).length = k := by rw [List.length_take, mkZ_length]; omega
      have hlen : k < ((mkZ k0 ls).take k ++ ls.drop k).length := by rw [List.length_append, hml, List.length_drop]; omega
      have hge : ((mkZ k0 ls).take k ++ ls.drop k)[k] = ls[k] := by
        rw [List.getElem_append_right (by omega)]
        simp only [hml, Nat.sub_self, List.getElem_drop, Nat.add_zero]
      obtain ⟨g, A', c', rfl, hg, hv, hc, h1⟩ := ho.at hlen
      rw [hge] at hv hc h1
      have hle := len_le_totZ ls k hlt
      have hts := totZ_take_succ ls k hlt
      have hset : ((mkZ k0 ls).take k ++ ls.drop k).set k (zs9 (marks (k0 + totZ (ls.take k)) ls[k].length)) = (mkZ k0 ls).take (k + 1) ++ ls.drop (k + 1) := by
        have hkm : k < (mkZ k0 ls).length := by rw [mkZ_length]; exact hlt
        have e : (mkZ k0 ls)[k] = zs9 (marks (k0 + totZ (ls.take k)) ls[k].length) := by
          have := mkZ_get ls k0 k hlt
          rw [List.getElem?_eq_getElem hkm] at this
          exact Option.some.inj this
        rw [List.set_append_right _ _ (by omega), hml, Nat.sub_self, List.drop_eq_getElem_cons hlt, List.set_cons_zero, List.take_succ_eq_append_getElem hkm, e, List.append_assoc]
        rfl
      have C := hide (markZ_any ls[k] A' c' 0 (k0 + totZ (ls.take k)) (by omega) (by omega) wr h1)
      clear hge
      have HSET := hide hset; clear hset
      have HV := hide hv; clear hv
      have HO := hide ho; clear ho
      have HT := hide hts; clear hts
      have H1 := hide h1; clear h1
      have HLEN := hide hlen; clear hlen
      clear hml
      go_wp2_with fail
      refine C.out.mono ?_
      rintro e w1 ⟨rfl, hg1, hn⟩
      have hn' : OwnZ 0 w1 (.slice A' ls[k].length c') (zs9 (marks (k0 + totZ (ls.take k)) ls[k].length)) := by
        unfold OwnZ; rw [zc_zs9, zs9_length, marks_length]; exact hn
      have hO := HO.out.upd HLEN.out HV.out hg1 hn'
      rw [HSET.out] at hO
      have hbw := hb.grown hg1 (fun g hg => .inr ⟨k, _, HV.out, hg⟩)
      have HOO := hide hO; clear hO
      clear hn hn' hg1 hc hb
      go_wp2
      go_roundw
      case rel => exact ⟨k + 1, by omega, by go_num, by rw [HT.out]; go_num, hbw, HOO.out⟩
      case measure => simp [intOf]; omega
    · obtain rfl : k = ls.length := by omega
      go_wp2
      go_ret
      refine ⟨by simp, hb, ?_⟩
      rw [List.drop_length, List.append_nil, List.take_of_length_le (by rw [mkZ_length]; omega)] at ho
      exact ho
theorem heldZZ_any (ls : List (List Int)) (A : Option Addr) (c k0 : Nat) (vs : List Value) (hl : totZ ls ≤ 1000000) (hl2 : ls.length ≤ 1000000) (hk0 : k0 ≤ 1000000) (w : World) (h : Own2z 0 w (.slice A ls.length c) vs (mkZ k0 ls)) :
    Calls Try.prog 55 #[.slice A ls.length c, .int .i64 k0] w fun e w' => e = .returned (.int .i64 (k0 + totZ ls : Nat)) ∧ Below w.heap.size w w' := by
  have := heldInt64SS_any (shapeN ls) A c 0 k0 vs (by rw [shapeN_total]; exact hl) (by rw [shapeN_length]; exact hl2) hk0 w (by rw [shapeN_length]; exact own2z_of.2 h)
  rwa [shapeN_length, shapeN_total] at this
theorem eqZZ_same (ls : List (List Int)) (A A' : Option Addr) (c c' B B' : Nat) (vs vs' : List Value) (hl : totZ ls ≤ 1000000) (hl2 : ls.length ≤ 1000000) (w : World)
    (h : Own2z B w (.slice A ls.length c) vs ls) (h' : Own2z B' w (.slice A' ls.length c') vs' ls) :
    Calls Try.prog 53 #[.slice A ls.length c, .slice A' ls.length c'] w fun e w' => e = .returned (.bool true) ∧ Below w.heap.size w w' := by
  have hs : ∀ l ∈ ls, l.length ≤ 1000000 := fun l h => by have := mem_le_totZ h; omega
  exact eqInt64SS_rd ls _ _ w (h.rd hl2 hs) (h'.rd hl2 hs)
end Go.Proofs.Ytpkfjdaedaplfaa
