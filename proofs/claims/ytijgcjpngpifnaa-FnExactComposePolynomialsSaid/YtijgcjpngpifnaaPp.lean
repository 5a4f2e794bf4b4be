/- Polynomials in memory: what reads as numbers, and a part that is one's own. -/
import Derived.Test.YtijgcjpngpifnaaPoR
import Derived.Test.YtijgcjpngpifnaaHS3
import Derived.Test.YtijgcjpngpifnaaArg
namespace Go.Proofs.Ytijgcjpngpifnaa
open Go.RowKit

/-- a slice that reads as numbers -/
def RdN (w : World) (v : Value) (l : List Nat) : Prop := RdZ w v (l.map Int.ofNat)
theorem RdN.form {w : World} {v : Value} {l : List Nat} (h : RdN w v l) : ∃ A c, v = .slice A l.length c ∧ l.length ≤ 9223372036854775807 := by
  obtain ⟨A, c, h1, h2⟩ := RdZ.form h
  rw [List.length_map] at h1 h2
  exact ⟨A, c, h1, h2⟩
theorem RdN.at {w : World} {A : Option Addr} {n c k : Nat} {l : List Nat} (h : RdN w (.slice A n c) l) (hk : k < l.length) :
    ∃ a, A = some a ∧ a.block < w.heap.size ∧ w.cell? (a.add k) = some (.int .i64 (nth l k : Nat)) := by
  obtain ⟨a, h1, h2, h3⟩ := RdZ.at h (show k < (l.map Int.ofNat).length by rw [List.length_map]; exact hk)
  refine ⟨a, h1, h2, ?_⟩
  rw [h3, nth_lt hk, List.getElem_map]
  rfl
theorem RdN.below {C : Nat} {w w' : World} {v : Value} {l : List Nat} (h : RdN w v l) (hb : Below C w w') (hC : w.heap.size ≤ C) : RdN w' v l := RdZ.below h hb hC
theorem zc_nums (l : List Nat) : zc (l.map Int.ofNat) = nums l := by unfold zc nums; rw [List.map_map]; rfl
theorem RdN.ofRow {w : World} {B : Nat} {e : TypeId} {v : Value} {l : List Nat} (h : w.ownsRow B e 1 v l.length (nums l)) (hl : l.length ≤ 9223372036854775807) : RdN w v l := by
  rcases h.2 with ⟨e1, h0⟩ | ⟨g, cap, cur, e1, hB, hh, h1, h2, h3, h4⟩
  · exact ⟨none, 0, by rw [e1, List.length_map, h0], by rw [List.length_map]; exact hl, fun i x hx => by have := (List.getElem?_eq_some_iff.1 hx).1; rw [List.length_map] at this; omega⟩
  · refine ⟨_, _, by rw [List.length_map]; exact e1, by rw [List.length_map]; exact hl, fun i x hx => ⟨_, rfl, (Array.getElem?_eq_some_iff.1 hh).1, ?_⟩⟩
    have hadd : (⟨g, 0, none⟩ : Addr).add i = ⟨g, i, none⟩ := by unfold Addr.add; split <;> simp_all
    rw [hadd, cell_of_cells, cellsOf_heap hh]
    have hi := (List.getElem?_eq_some_iff.1 hx).1
    rw [List.length_map] at hi
    have e2 : (cur.toList.take (l.length * 1))[i]? = (zc (l.map Int.ofNat))[i]? := by rw [h4, zc_nums]
    rw [List.getElem?_take_of_lt (by omega), Array.getElem?_toList, zc_get, hx] at e2
    exact e2
theorem Holds.intsRd {w0 w : World} {L : List Part} (h : Holds w0 w L) (i : Nat) {v : Value} {l : List Nat} (hi : L[i]? = some (pInts v l)) (hl : l.length ≤ 1000000) : RdN w v l := RdN.ofRow (h.row i hi) (by omega)

/-- a polynomial of one's own: its block, where it has numbers -/
def pPo (v : Value) (l : List Nat) : Part where
  own k := 0 < l.length ∧ v.ownBlock = some k
  ok w := l.length ≤ 1000000 ∧ ((l.length = 0 ∧ ∃ A c, v = .slice A 0 c) ∨ (0 < l.length ∧ ∃ g c cs t, v = .slice (some ⟨g, 0, none⟩) l.length c ∧ l.length ≤ c ∧ w.heap[g]? = some (.cells cs t (0, 0)) ∧ ∀ j, j < l.length → cs[j]? = some (.int .i64 (nth l j : Nat))))
  keep w w' h k := by
    refine ⟨h.1, ?_⟩
    rcases h.2 with c | ⟨h1, g, c, cs, t, rfl, h2, h3, h4⟩
    · exact .inl c
    · exact .inr ⟨h1, g, c, cs, t, rfl, h2, (k g ⟨h1, rfl⟩).trans h3, h4⟩
  lt w g h k := by
    rcases h.2 with ⟨c, _⟩ | ⟨h1, g', c, cs, t, rfl, h2, h3, h4⟩
    · have := k.1; omega
    · have e : g' = g := by simpa [Value.ownBlock] using k.2
      subst e
      exact lt_of_some h3
theorem Holds.poLen {w0 w : World} {L : List Part} (h : Holds w0 w L) (i : Nat) {v : Value} {l : List Nat} (hi : L[i]? = some (pPo v l)) : l.length ≤ 1000000 := (h.at i hi).1
theorem Holds.poForm {w0 w : World} {L : List Part} (h : Holds w0 w L) (i : Nat) {v : Value} {l : List Nat} (hi : L[i]? = some (pPo v l)) : ∃ A c, v = .slice A l.length c ∧ l.length ≤ c := by
  rcases (h.at i hi).2 with ⟨c, A, c', rfl⟩ | ⟨h1, g, c, cs, t, rfl, h2, h3, h4⟩
  · exact ⟨A, c', by rw [c], by omega⟩
  · exact ⟨_, c, rfl, h2⟩
theorem Holds.poAt {w0 w : World} {L : List Part} (h : Holds w0 w L) (i : Nat) {v : Value} {l : List Nat} (hi : L[i]? = some (pPo v l)) (h0 : 0 < l.length) :
    ∃ g c, v = .slice (some ⟨g, 0, none⟩) l.length c ∧ l.length ≤ c ∧ g < w.heap.size ∧ (∀ k, k < l.length → w.cell? ⟨g, k, none⟩ = some (.int .i64 (nth l k : Nat))) ∧ ∀ k, w.frozen? ⟨g, k, none⟩ = false := by
  rcases (h.at i hi).2 with ⟨c, _⟩ | ⟨h1, g, c, cs, t, rfl, h2, h3, h4⟩
  · omega
  · refine ⟨g, c, rfl, h2, lt_of_some h3, fun k hk => ?_, fun k => by simp [World.frozen?, h3]⟩
    rw [cell_of_cells, cellsOf_heap h3]
    exact h4 k hk
theorem Holds.poRd {w0 w : World} {L : List Part} (h : Holds w0 w L) (i : Nat) {v : Value} {l : List Nat} (hi : L[i]? = some (pPo v l)) : RdN w v l := by
  have hl := h.poLen i hi
  obtain ⟨A, c, e, hc⟩ := h.poForm i hi
  refine ⟨A, c, by rw [List.length_map]; exact e, by rw [List.length_map]; omega, fun j x hx => ?_⟩
  have hj := (List.getElem?_eq_some_iff.1 hx).1
  rw [List.length_map] at hj
  obtain ⟨g, c', e', _, h2, h3, _⟩ := h.poAt i hi (by omega)
  rw [e] at e'
  injection e' with e1
  refine ⟨_, e1, h2, ?_⟩
  have hadd : (⟨g, 0, none⟩ : Addr).add j = ⟨g, j, none⟩ := by unfold Addr.add; split <;> simp_all
  rw [hadd, h3 j hj]
  rw [List.getElem?_map, List.getElem?_eq_getElem hj] at hx
  cases hx
  rw [nth_lt hj]
  rfl
/-- one part is told otherwise, and nothing turns -/
theorem Holds.asPart {w0 w : World} {L : List Part} (h : Holds w0 w L) (i : Nat) {a : Part} (hi : L[i]? = some a) (a' : Part) (ha' : a'.ok w) (hn : ∀ g, a'.own g → a.own g) : Holds w0 w (L.set i a') :=
  h.turn i hi a' ha' rfl rfl rfl (Nat.le_refl _) (fun _ _ _ => rfl) fun g hg => .inl (hn g hg)
theorem Holds.poSet {w0 w : World} {L : List Part} (h : Holds w0 w L) (i : Nat) {g n c : Nat} {l : List Nat} (hi : L[i]? = some (pPo (.slice (some ⟨g, 0, none⟩) n c) l)) {k : Nat} (hk : k < l.length) (x : Nat) :
    Holds w0 (w.setCell ⟨g, k, none⟩ (.int .i64 (x : Nat))) (L.set i (pPo (.slice (some ⟨g, 0, none⟩) n c) (l.set k x))) := by
  rcases (h.at i hi).2 with ⟨c, _⟩ | ⟨h1, g', c', cs, t, e, h2, h3, h4⟩
  · omega
  · injection e with e1 e2 e3
    injection e1 with e1
    injection e1 with e1 _ _
    subst e1 e2 e3
    refine h.turn i hi _ ⟨by rw [List.length_set]; exact h.poLen i hi, .inr ⟨by rw [List.length_set]; exact h1, g, c, cs.setIfInBounds k (.int .i64 (x : Nat)), t, by rw [List.length_set], by rw [List.length_set]; exact h2, heap_setCell_same _ _ _ _ _ _ h3, fun j hj => ?_⟩⟩ rfl rfl rfl (by simp)
      (fun k' _ ho => heap_setCell_ne _ _ _ _ _ fun e => ho ⟨h1, by rw [e]; rfl⟩) fun k' hk' => .inl ⟨h1, hk'.2⟩
    rw [List.length_set] at hj
    rw [nth_set hk, Array.getElem?_setIfInBounds]
    by_cases e : j = k
    · subst e
      have := h4 j hj
      have hj2 := (Array.getElem?_eq_some_iff.1 this).1
      rw [if_pos rfl, if_pos rfl, if_pos hj2]
    · rw [if_neg (Ne.symm e), if_neg e]
      exact h4 j hj
theorem Holds.poRow {w0 w : World} {L : List Part} (h : Holds w0 w L) (i : Nat) {v : Value} {e : TypeId} {l : List Nat} (hi : L[i]? = some (pRow v e 1 l.length (nums l))) (hl : l.length ≤ 1000000) : Holds w0 w (L.set i (pPo v l)) := by
  refine h.asPart i hi _ ⟨hl, ?_⟩ fun g hg => hg.2
  rcases (h.at i hi).2 with ⟨rfl, e1⟩ | ⟨g, cap, cur, rfl, hB, hh, h1, h2, h3, h4⟩
  · exact .inl ⟨e1, none, 0, rfl⟩
  · rcases Nat.eq_zero_or_pos l.length with c | c
    · exact .inl ⟨c, _, _, by rw [c]⟩
    · refine .inr ⟨c, g, cap, cur, _, rfl, h1, hh, fun j hj => ?_⟩
      have e2 : (cur.toList.take (l.length * 1))[j]? = (nums l)[j]? := by rw [h4]
      rw [List.getElem?_take_of_lt (by omega), Array.getElem?_toList, nums_at hj] at e2
      rw [e2, nth_lt hj]
theorem Holds.poCut {w0 w : World} {L : List Part} (h : Holds w0 w L) (i : Nat) {A : Option Addr} {n c : Nat} {l : List Nat} (hi : L[i]? = some (pPo (.slice A n c) l)) {m : Nat} (hm : m ≤ l.length) : Holds w0 w (L.set i (pPo (.slice A m m) (l.take m))) := by
  have hlt : (l.take m).length = m := by rw [List.length_take]; omega
  have hl := h.poLen i hi
  refine h.asPart i hi _ ⟨by omega, ?_⟩ fun g hg => ⟨by have := hg.1; omega, by have := hg.2; cases A with | none => simp [Value.ownBlock] at this | some a => simpa [Value.ownBlock] using this⟩
  rcases Nat.eq_zero_or_pos m with c0 | c0
  · exact .inl ⟨by omega, A, m, by rw [c0]⟩
  · rcases (h.at i hi).2 with ⟨c, _⟩ | ⟨h1, g, c, cs, t, e, h2, h3, h4⟩
    · omega
    · injection e with e1 e2 e3
      subst e1
      refine .inr ⟨by omega, g, m, cs, t, by rw [hlt], by omega, h3, fun j hj => ?_⟩
      rw [nth_take, if_pos (by omega)]
      exact h4 j (by omega)
theorem Holds.poNil {w0 w : World} {L : List Part} (h : Holds w0 w L) (A : Option Addr) (c : Nat) : Holds w0 w (pPo (.slice A 0 c) [] :: L) :=
  h.new (Below.refl _ _) _ ⟨by decide, .inl ⟨rfl, A, c, rfl⟩⟩ fun g hg => by have := hg.1; simp at this
theorem Holds.joinA {w0 w w' : World} {L A : List Part} (h : Holds w0 w L) (k : Holds w w' A) : Holds w0 w' (A ++ L) := (h.joinL k).perm List.perm_append_comm
/-- a block that is a list of the field -/
theorem Holds.poNew {w0 w : World} {L : List Part} (h : Holds w0 w L) (cs : Array Value) (t : TypeId) (l : List Nat) (hl : l.length ≤ 1000000) (g n : Nat) (hg : g = w.heap.size) (hn : n = l.length) (hc : ∀ j, j < l.length → cs[j]? = some (.int .i64 (nth l j : Nat))) : Holds w0 (w.alloc (.cells cs t)) (pPo (.slice (some ⟨g, 0, none⟩) n n) l :: L) := by
  subst hn
  refine h.new (below1 w _) _ ⟨hl, ?_⟩ fun k hk => ?_
  · rcases Nat.eq_zero_or_pos l.length with c | c
    · exact .inl ⟨c, _, _, by rw [c]⟩
    · exact .inr ⟨c, g, l.length, cs, t, rfl, Nat.le_refl _, heap_at _ _ _ hg, hc⟩
  · have : g = k := by simpa [pPo, Value.ownBlock] using hk.2
    omega

theorem infoRes : (Try.prog.info? 42).map (fun i => (i.zero, i.size, i.bytes)) = some (some (.int .i64 0), 1, 8) := by kernel_rfl
theorem add_zero' (a : Addr) : a.add 0 = a := by cases a; rename_i b o p; cases p <;> simp [Addr.add]
@[go_sem] theorem run_cutPo (A : Option Addr) (len c m : Nat) (h : m ≤ c) (w : World) :
    (Instr.sliceAt 44 (.slice A len c) none (some (.int .i64 m)) (some (.int .i64 m))).run Try.prog w = .ok (.slice A m m) w := by
  have hu : Try.prog.underlying 44 = some (.slice (Try.prog.elem 44)) := by kernel_rfl
  have hz : Try.prog.cellsOf (Try.prog.elem 44) = 1 := by kernel_rfl
  rw [run_sliceAt_slice w _ _ _ _ _ hu, run_slice_hm w _ A len c hu .i64 .i64 m m (by omega) (by omega) (by omega)]
  have hs : (sizeOf (Try.prog.elem 44)).run Try.prog w = .ok 1 w := by
    have hn : (Try.prog.info? (Try.prog.elem 44)).map (·.size) = some 1 := by kernel_rfl
    rcases hi : Try.prog.info? (Try.prog.elem 44) with _ | it
    · rw [hi] at hn; cases hn
    · rw [run_sizeOf w hi, hz]
  rw [hs]
  simp only [Result.andThen_ok, sliced, Int.toNat_natCast, Nat.sub_zero, Nat.zero_mul]
  congr 2
  cases A with
  | none => simp
  | some a => simp [add_zero']
@[go_sem] theorem run_partPo (A : Option Addr) (len c m n : Nat) (h : m + n ≤ c) (w : World) :
    (Instr.sliceAt 44 (.slice A len c) (some (.int .i64 m)) (some (.int .i64 ((m : Int) + (n : Int)))) (some (.int .i64 ((m : Int) + (n : Int))))).run Try.prog w = .ok (.slice (if n = 0 then A else A.map (·.add m)) n n) w := by
  have hu : Try.prog.underlying 44 = some (.slice (Try.prog.elem 44)) := by kernel_rfl
  have hz : Try.prog.cellsOf (Try.prog.elem 44) = 1 := by kernel_rfl
  rw [run_sliceAt_slice w _ _ _ _ _ hu, run_slice_lhm w _ A len c hu .i64 .i64 .i64 m (m + n) (m + n) (by omega) (by omega) (by omega) (by omega)]
  have hs : (sizeOf (Try.prog.elem 44)).run Try.prog w = .ok 1 w := by
    have hn : (Try.prog.info? (Try.prog.elem 44)).map (·.size) = some 1 := by kernel_rfl
    rcases hi : Try.prog.info? (Try.prog.elem 44) with _ | it
    · rw [hi] at hn; cases hn
    · rw [run_sizeOf w hi, hz]
  rw [hs]
  have e1 : ((m : Int) + (n : Int)).toNat = m + n := by omega
  simp only [Result.andThen_ok, sliced, Int.toNat_natCast, e1, Nat.mul_one, Nat.add_sub_cancel_left]
  by_cases c : n = 0
  · subst c; simp
  · rw [if_neg c, if_neg (by omega)]
@[go_sem] theorem run_cutI (A : Option Addr) (len c m : Nat) (h : m ≤ c) (w : World) :
    (Instr.sliceAt 22 (.slice A len c) none (some (.int .i64 m)) none).run Try.prog w = .ok (.slice A m c) w := by
  have hu : Try.prog.underlying 22 = some (.slice (Try.prog.elem 22)) := by kernel_rfl
  have hz : Try.prog.cellsOf (Try.prog.elem 22) = 1 := by kernel_rfl
  rw [run_sliceAt_slice w _ _ _ _ _ hu, run_slice_h w _ A len c hu .i64 m (by omega) (by omega)]
  have hs : (sizeOf (Try.prog.elem 22)).run Try.prog w = .ok 1 w := by
    have hn : (Try.prog.info? (Try.prog.elem 22)).map (·.size) = some 1 := by kernel_rfl
    rcases hi : Try.prog.info? (Try.prog.elem 22) with _ | it
    · rw [hi] at hn; cases hn
    · rw [run_sizeOf w hi, hz]
  rw [hs]
  simp only [Result.andThen_ok, sliced, Int.toNat_natCast, Nat.sub_zero, Nat.zero_mul]
  congr 2
  cases A with
  | none => simp
  | some a => simp [add_zero']
end Go.Proofs.Ytijgcjpngpifnaa
