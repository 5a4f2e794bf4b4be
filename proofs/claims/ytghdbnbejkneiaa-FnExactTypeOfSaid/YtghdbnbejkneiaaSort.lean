/- The library's sort and reversal at []int64: laid at this program. -/
import Derived.Shelf.SortM.Plain
import Derived.Shelf.SlicesG.Reverse
import Derived.Shelf.SlGeneric
import Derived.Test.YtghdbnbejkneiaaApp
namespace Go.Proofs.Ytghdbnbejkneiaa
open Go.Shelf Go.RowKit

def sortA_ren : Go.Shelf.Ren := ⟨fun | 5 => 80 | 8 => 91 | 7 => 90 | 19 => 104 | 20 => 105 | 10 => 95 | 11 => 96 | 12 => 97 | 13 => 98 | 14 => 99 | 15 => 100 | 16 => 101 | 17 => 102 | 18 => 103 | 30 => 107 | 31 => 108 | 32 => 109 | 33 => 110 | 34 => 111 | 35 => 112 | 40 => 113 | n => n, fun | 23 => 29 | 25 => 2 | 3 => 3 | 32 => 93 | 22 => 29 | 0 => 0 | 44 => 107 | 46 => 109 | 4 => 4 | 36 => 99 | 35 => 98 | 41 => 104 | 5 => 5 | 9 => 9 | 53 => 111 | 57 => 115 | 63 => 117 | 64 => 118 | n => n, fun | n => n⟩
theorem sortA : Go.Proofs.SlLaysM.n5 Try.prog sortA_ren := {
  mixed := by kernel_rfl
  f5 := ⟨Try.f80.name, by decide, Try.func80.trans (congrArg some (by kernel_rfl))⟩
  f7 := ⟨Try.f90.name, by decide, Try.func90.trans (congrArg some (by kernel_rfl))⟩
  f8 := Try.func91.trans (congrArg some (by kernel_rfl))
  f10 := ⟨Try.f95.name, by decide, Try.func95.trans (congrArg some (by kernel_rfl))⟩
  f11 := ⟨Try.f96.name, by decide, Try.func96.trans (congrArg some (by kernel_rfl))⟩
  f12 := ⟨Try.f97.name, by decide, Try.func97.trans (congrArg some (by kernel_rfl))⟩
  f13 := ⟨Try.f98.name, by decide, Try.func98.trans (congrArg some (by kernel_rfl))⟩
  f14 := ⟨Try.f99.name, by decide, Try.func99.trans (congrArg some (by kernel_rfl))⟩
  f15 := ⟨Try.f100.name, by decide, Try.func100.trans (congrArg some (by kernel_rfl))⟩
  f16 := ⟨Try.f101.name, by decide, Try.func101.trans (congrArg some (by kernel_rfl))⟩
  f17 := ⟨Try.f102.name, by decide, Try.func102.trans (congrArg some (by kernel_rfl))⟩
  f18 := ⟨Try.f103.name, by decide, Try.func103.trans (congrArg some (by kernel_rfl))⟩
  f19 := Try.func104.trans (congrArg some (by kernel_rfl))
  f20 := Try.func105.trans (congrArg some (by kernel_rfl))
  f30 := ⟨Try.f107.name, by decide, Try.func107.trans (congrArg some (by kernel_rfl))⟩
  f31 := Try.func108.trans (congrArg some (by kernel_rfl))
  f32 := Try.func109.trans (congrArg some (by kernel_rfl))
  f33 := ⟨Try.f110.name, by decide, Try.func110.trans (congrArg some (by kernel_rfl))⟩
  f34 := ⟨Try.f111.name, by decide, Try.func111.trans (congrArg some (by kernel_rfl))⟩
  f35 := ⟨Try.f112.name, by decide, Try.func112.trans (congrArg some (by kernel_rfl))⟩
  f40 := ⟨Try.f113.name, by decide, Try.func113.trans (congrArg some (by kernel_rfl))⟩
  t0 := Try.underlying0
  a0 := Try.isAgg0
  z0 := Try.sizeOf0
  v0 := Try.zeroValue0
  t3 := Try.underlying3
  a3 := Try.isAgg3
  z3 := Try.sizeOf3
  v3 := Try.zeroValue3
  t4 := Try.underlying4
  a4 := Try.isAgg4
  z4 := Try.sizeOf4
  v4 := Try.zeroValue4
  t5 := Try.underlying5
  a5 := Try.isAgg5
  z5 := Try.sizeOf5
  v5 := Try.zeroValue5
  t9 := Try.underlying9
  a9 := Try.isAgg9
  z9 := Try.sizeOf9
  v9 := Try.zeroValue9
  t22 := Try.underlying29
  a22 := Try.isAgg29
  z22 := Try.sizeOf29
  v22 := Try.zeroValue29
  t23 := Try.underlying29
  a23 := Try.isAgg29
  z23 := Try.sizeOf29
  v23 := Try.zeroValue29
  t25 := Try.underlying2
  a25 := Try.isAgg2
  z25 := Try.sizeOf2
  v25 := Try.zeroValue2
  t32 := Try.underlying93
  a32 := Try.isAgg93
  z32 := Try.sizeOf93
  v32 := Try.zeroValue93
  t35 := Try.underlying98
  a35 := Try.isAgg98
  z35 := Try.sizeOf98
  v35 := Try.zeroValue98
  t36 := Try.underlying99
  a36 := Try.isAgg99
  z36 := Try.sizeOf99
  v36 := Try.zeroValue99
  t41 := Try.underlying104
  a41 := Try.isAgg104
  z41 := Try.sizeOf104
  v41 := Try.zeroValue104
  t44 := Try.underlying107
  a44 := Try.isAgg107
  z44 := Try.sizeOf107
  v44 := Try.zeroValue107
  t46 := Try.underlying109
  a46 := Try.isAgg109
  z46 := Try.sizeOf109
  v46 := Try.zeroValue109
  t53 := Try.underlying111
  a53 := Try.isAgg111
  z53 := Try.sizeOf111
  v53 := Try.zeroValue111
  t57 := Try.underlying115
  a57 := Try.isAgg115
  z57 := Try.sizeOf115
  v57 := Try.zeroValue115
  t63 := Try.underlying117
  a63 := Try.isAgg117
  z63 := Try.sizeOf117
  v63 := Try.zeroValue117
  t64 := Try.underlying118
  a64 := Try.isAgg118
  z64 := Try.sizeOf118
  v64 := Try.zeroValue118 }
def revA_ren : Go.Shelf.Ren := ⟨fun | 35 => 81 | n => n, fun | 22 => 29 | 23 => 2 | 3 => 3 | 4 => 4 | 0 => 0 | n => n, fun | n => n⟩
theorem revA : Go.Proofs.SlLaysN.n35 Try.prog revA_ren := {
  mixed := by kernel_rfl
  f35 := ⟨Try.f81.name, by decide, Try.func81.trans (congrArg some (by kernel_rfl))⟩
  t0 := Try.underlying0
  a0 := Try.isAgg0
  z0 := Try.sizeOf0
  v0 := Try.zeroValue0
  t3 := Try.underlying3
  a3 := Try.isAgg3
  z3 := Try.sizeOf3
  v3 := Try.zeroValue3
  t4 := Try.underlying4
  a4 := Try.isAgg4
  z4 := Try.sizeOf4
  v4 := Try.zeroValue4
  t22 := Try.underlying29
  a22 := Try.isAgg29
  z22 := Try.sizeOf29
  v22 := Try.zeroValue29
  t23 := Try.underlying2
  a23 := Try.isAgg2
  z23 := Try.sizeOf2
  v23 := Try.zeroValue2 }

/-- numbers as integers -/
def ints (l : List Nat) : List Int := l.map fun (x : Nat) => (x : Int)
theorem block_put {w : World} {g n : Nat} {cur : Array Value} {t : TypeId} {fr : Nat × Nat} {os : Array Obj} (d : Array Int) (hb : w.heap[g]? = some (.cells cur t fr)) :
    (Go.Sort.grow (Go.Sort.putRow (Value.int .i64) (Go.Sort.ahead w n) g 0 d) os).heap[g]? = some (.cells (Go.Sort.putCells (Value.int .i64) 0 d cur) t fr) := by
  have hg := (Array.getElem?_eq_some_iff.1 hb).1
  simp only [Go.Sort.grow, Go.Sort.putRow, Go.Sort.mapBlock, Go.Sort.ahead]
  rw [Array.getElem?_append_left (by simpa using hg)]
  simp [Array.getElem?_modify, hb, Go.Sort.onCells]
theorem grown_put {w : World} {g n : Nat} {os : Array Obj} (d : Array Int) : w.grownBy (Go.Sort.grow (Go.Sort.putRow (Value.int .i64) (Go.Sort.ahead w n) g 0 d) os) (some g) := by
  refine ⟨rfl, rfl, rfl, by simp [Go.Sort.grow, Go.Sort.putRow, Go.Sort.mapBlock, Go.Sort.ahead], fun k hk hne => ?_⟩
  have hne' : ¬ g = k := fun e => hne (by rw [e])
  simp only [Go.Sort.grow, Go.Sort.putRow, Go.Sort.mapBlock, Go.Sort.ahead]
  rw [Array.getElem?_append_left (by simpa using hk)]
  simp [Array.getElem?_modify, hne']
theorem own_put {B g c n : Nat} {w : World} {l k : List Nat} {os : Array Obj} (h : Own1 B w (.slice (some ⟨g, 0, none⟩) l.length c) l) (hl : k.length = l.length) :
    Own1 B (Go.Sort.grow (Go.Sort.putRow (Value.int .i64) (Go.Sort.ahead w n) g 0 (ints k).toArray) os) (.slice (some ⟨g, 0, none⟩) l.length c) k := by
  unfold Own1
  rw [hl]
  rcases h.2 with ⟨e, _⟩ | ⟨g', cap, cur, e, hB, hh, h1, h2, h3, h4⟩
  · cases e
  · injection e with e1 _ e3
    injection e1 with e1
    injection e1 with e1
    subst e1 e3
    refine ⟨by simp [nums, hl], .inr ⟨g, c, _, rfl, hB, block_put _ hh, h1, h2, by simp [Go.Sort.putCells, h3], ?_⟩⟩
    apply List.ext_getElem?
    intro j
    by_cases hj : j < k.length
    · rw [List.getElem?_take_of_lt (by omega), Array.getElem?_toList]
      simp [Go.Sort.putCells, ints, nums, hj, show j < cur.size by omega]
    · rw [List.getElem?_eq_none (by simp; omega), List.getElem?_eq_none (by simp [nums]; omega)]
theorem own_holds {B g c : Nat} {w : World} {l : List Nat} (h : Own1 B w (.slice (some ⟨g, 0, none⟩) l.length c) l) : Go.Sort.Holds (Value.int .i64) w g 0 (ints l).toArray := by
  intro j hj
  have hj' : j < l.length := by simpa [ints] using hj
  obtain ⟨g', e, _, _, h1, h2⟩ := h.at hj'
  injection e with e
  injection e with e
  subst e
  rw [Nat.zero_add]
  refine ⟨?_, h2⟩
  rw [h1]
  simp [ints, hj']
def sortU (l : List Nat) : List Nat := l.mergeSort fun a b => decide (a ≤ b)
theorem ints_sort (l : List Nat) : (ints l).mergeSort (fun x y => decide (x ≤ y)) = ints (sortU l) := by
  unfold ints sortU
  rw [List.map_mergeSort]
  intro a _ b _
  simp
theorem Own1.form {B : Nat} {w : World} {v : Value} {l : List Nat} (h : Own1 B w v l) (h0 : 0 < l.length) : ∃ g c, v = .slice (some ⟨g, 0, none⟩) l.length c ∧ B ≤ g ∧ g < w.heap.size := by
  rcases h.2 with ⟨_, e⟩ | ⟨g, c, cur, rfl, hB, hh, _⟩
  · omega
  · exact ⟨g, c, rfl, hB, (Array.getElem?_eq_some_iff.1 hh).1⟩
/-- slices.Sort at a list of the call's own -/
theorem sort_any {B : Nat} {w : World} {v : Value} {l : List Nat} (h : Own1 B w v l) (h0 : 0 < l.length) (hl : l.length ≤ 1000000000) :
    Calls Try.prog 80 #[v] w fun e w' => e = .returned (.tuple #[]) ∧ w.grownBy w' v.ownBlock ∧ Own1 B w' v (sortU l) := by
  obtain ⟨g, c, rfl, _, hg⟩ := h.form h0
  have hc := AnyM.slices_Sort_int sortA g 0 c (ints l) w (own_holds h) hg (by simp [ints]; omega)
  rw [ints_sort] at hc
  have e : (ints l).length = l.length := by simp [ints]
  rw [e] at hc
  refine hc.mono ?_
  rintro e w' ⟨rfl, n, os, rfl⟩
  exact ⟨rfl, grown_put _, own_put h (by unfold sortU; exact (List.mergeSort_perm _ _).length_eq)⟩
/-- slices.Reverse at a list of the call's own -/
theorem rev_any {B : Nat} {w : World} {v : Value} {l : List Nat} (h : Own1 B w v l) (h0 : 0 < l.length) (hl : l.length ≤ 1000000000) :
    Calls Try.prog 81 #[v] w fun e w' => e = .returned (.tuple #[]) ∧ w.grownBy w' v.ownBlock ∧ Own1 B w' v l.reverse := by
  obtain ⟨g, c, rfl, _, _⟩ := h.form h0
  have hc := AnyG.slices_Reverse_int revA g 0 c (ints l) w (own_holds h) (by simp [ints]; omega)
  have e : (ints l).length = l.length := by simp [ints]
  have e2 : (ints l).reverse = ints l.reverse := by simp [ints, List.map_reverse]
  rw [e, e2] at hc
  refine hc.mono ?_
  rintro e w' ⟨rfl, n, rfl⟩
  have hw : ∀ W : World, W = Go.Sort.grow W #[] := fun W => by simp [Go.Sort.grow]
  rw [hw (Go.Sort.putRow _ _ _ _ _)]
  exact ⟨rfl, grown_put _, own_put h (by simp)⟩
theorem sortU_reverse (l : List Nat) : (sortU l).reverse = sortD l := by
  refine sortD_unique (((List.reverse_perm _).trans (List.mergeSort_perm _ _))) ?_
  rw [List.pairwise_reverse]
  have := List.pairwise_mergeSort (le := fun a b : Nat => decide (a ≤ b)) (fun a b c h1 h2 => by simp at *; omega) (fun a b => by simp; omega) l
  exact this.imp fun h => by simpa using h
end Go.Proofs.Ytghdbnbejkneiaa
