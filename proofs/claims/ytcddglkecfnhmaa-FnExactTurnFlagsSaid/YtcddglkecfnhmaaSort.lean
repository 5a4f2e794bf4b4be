/- The library's sort and reversal at []int64: laid at this program. -/
import Derived.Shelf.SortM.Plain
import Derived.Shelf.SlicesG.Reverse
import Derived.Shelf.SlGeneric
import Derived.Test.YtcddglkecfnhmaaApp
namespace Go.Proofs.Ytcddglkecfnhmaa
open Go.Shelf Go.RowKit

def sortA_ren : Go.Shelf.Ren := ⟨fun | 5 => 70 | 8 => 75 | 7 => 74 | 19 => 85 | 20 => 86 | 10 => 76 | 11 => 77 | 12 => 78 | 13 => 79 | 14 => 80 | 15 => 81 | 16 => 82 | 17 => 83 | 18 => 84 | 30 => 87 | 31 => 88 | 32 => 89 | 33 => 90 | 34 => 91 | 35 => 92 | 40 => 93 | n => n, fun | 23 => 42 | 25 => 2 | 3 => 3 | 32 => 103 | 22 => 42 | 0 => 0 | 44 => 115 | 46 => 117 | 4 => 4 | 36 => 107 | 35 => 106 | 41 => 112 | 5 => 5 | 9 => 9 | 53 => 118 | 57 => 122 | 63 => 124 | 64 => 125 | n => n, fun | n => n⟩
theorem sortA : Go.Proofs.SlLaysM.n5 Try.prog sortA_ren := {
  mixed := by kernel_rfl
  f5 := ⟨Try.f70.name, by decide, Try.func70.trans (congrArg some (by kernel_rfl))⟩
  f7 := ⟨Try.f74.name, by decide, Try.func74.trans (congrArg some (by kernel_rfl))⟩
  f8 := Try.func75.trans (congrArg some (by kernel_rfl))
  f10 := ⟨Try.f76.name, by decide, Try.func76.trans (congrArg some (by kernel_rfl))⟩
  f11 := ⟨Try.f77.name, by decide, Try.func77.trans (congrArg some (by kernel_rfl))⟩
  f12 := ⟨Try.f78.name, by decide, Try.func78.trans (congrArg some (by kernel_rfl))⟩
  f13 := ⟨Try.f79.name, by decide, Try.func79.trans (congrArg some (by kernel_rfl))⟩
  f14 := ⟨Try.f80.name, by decide, Try.func80.trans (congrArg some (by kernel_rfl))⟩
  f15 := ⟨Try.f81.name, by decide, Try.func81.trans (congrArg some (by kernel_rfl))⟩
  f16 := ⟨Try.f82.name, by decide, Try.func82.trans (congrArg some (by kernel_rfl))⟩
  f17 := ⟨Try.f83.name, by decide, Try.func83.trans (congrArg some (by kernel_rfl))⟩
  f18 := ⟨Try.f84.name, by decide, Try.func84.trans (congrArg some (by kernel_rfl))⟩
  f19 := Try.func85.trans (congrArg some (by kernel_rfl))
  f20 := Try.func86.trans (congrArg some (by kernel_rfl))
  f30 := ⟨Try.f87.name, by decide, Try.func87.trans (congrArg some (by kernel_rfl))⟩
  f31 := Try.func88.trans (congrArg some (by kernel_rfl))
  f32 := Try.func89.trans (congrArg some (by kernel_rfl))
  f33 := ⟨Try.f90.name, by decide, Try.func90.trans (congrArg some (by kernel_rfl))⟩
  f34 := ⟨Try.f91.name, by decide, Try.func91.trans (congrArg some (by kernel_rfl))⟩
  f35 := ⟨Try.f92.name, by decide, Try.func92.trans (congrArg some (by kernel_rfl))⟩
  f40 := ⟨Try.f93.name, by decide, Try.func93.trans (congrArg some (by kernel_rfl))⟩
  t0 := Try.underlying0
  a0 := Try.isAgg0
  z0 := Try.sizeOf0
  v0 := Try.zeroValue0
  t3 := Try.underlying3
  a3 := Try.isAgg3
  z3 := Try.sizeOf3
  v3 := Try.zeroValue3
  t4 := Try.underlying4
  a4 := Try.isAgg4
  z4 := Try.sizeOf4
  v4 := Try.zeroValue4
  t5 := Try.underlying5
  a5 := Try.isAgg5
  z5 := Try.sizeOf5
  v5 := Try.zeroValue5
  t9 := Try.underlying9
  a9 := Try.isAgg9
  z9 := Try.sizeOf9
  v9 := Try.zeroValue9
  t22 := Try.underlying42
  a22 := Try.isAgg42
  z22 := Try.sizeOf42
  v22 := Try.zeroValue42
  t23 := Try.underlying42
  a23 := Try.isAgg42
  z23 := Try.sizeOf42
  v23 := Try.zeroValue42
  t25 := Try.underlying2
  a25 := Try.isAgg2
  z25 := Try.sizeOf2
  v25 := Try.zeroValue2
  t32 := Try.underlying103
  a32 := Try.isAgg103
  z32 := Try.sizeOf103
  v32 := Try.zeroValue103
  t35 := Try.underlying106
  a35 := Try.isAgg106
  z35 := Try.sizeOf106
  v35 := Try.zeroValue106
  t36 := Try.underlying107
  a36 := Try.isAgg107
  z36 := Try.sizeOf107
  v36 := Try.zeroValue107
  t41 := Try.underlying112
  a41 := Try.isAgg112
  z41 := Try.sizeOf112
  v41 := Try.zeroValue112
  t44 := Try.underlying115
  a44 := Try.isAgg115
  z44 := Try.sizeOf115
  v44 := Try.zeroValue115
  t46 := Try.underlying117
  a46 := Try.isAgg117
  z46 := Try.sizeOf117
  v46 := Try.zeroValue117
  t53 := Try.underlying118
  a53 := Try.isAgg118
  z53 := Try.sizeOf118
  v53 := Try.zeroValue118
  t57 := Try.underlying122
  a57 := Try.isAgg122
  z57 := Try.sizeOf122
  v57 := Try.zeroValue122
  t63 := Try.underlying124
  a63 := Try.isAgg124
  z63 := Try.sizeOf124
  v63 := Try.zeroValue124
  t64 := Try.underlying125
  a64 := Try.isAgg125
  z64 := Try.sizeOf125
  v64 := Try.zeroValue125 }
def revA_ren : Go.Shelf.Ren := ⟨fun | 35 => 71 | n => n, fun | 22 => 42 | 23 => 2 | 3 => 3 | 4 => 4 | 0 => 0 | n => n, fun | n => n⟩
theorem revA : Go.Proofs.SlLaysN.n35 Try.prog revA_ren := {
  mixed := by kernel_rfl
  f35 := ⟨Try.f71.name, by decide, Try.func71.trans (congrArg some (by kernel_rfl))⟩
  t0 := Try.underlying0
  a0 := Try.isAgg0
  z0 := Try.sizeOf0
  v0 := Try.zeroValue0
  t3 := Try.underlying3
  a3 := Try.isAgg3
  z3 := Try.sizeOf3
  v3 := Try.zeroValue3
  t4 := Try.underlying4
  a4 := Try.isAgg4
  z4 := Try.sizeOf4
  v4 := Try.zeroValue4
  t22 := Try.underlying42
  a22 := Try.isAgg42
  z22 := Try.sizeOf42
  v22 := Try.zeroValue42
  t23 := Try.underlying2
  a23 := Try.isAgg2
  z23 := Try.sizeOf2
  v23 := Try.zeroValue2 }

/-- numbers as integers -/
def ints (l : List Nat) : List Int := l.map fun (x : Nat) => (x : Int)
theorem block_put {w : World} {g n : Nat} {cur : Array Value} {t : TypeId} {fr : Nat × Nat} {os : Array Obj} (d : Array Int) (hb : w.heap[g]? = some (.cells cur t fr)) :
    (Go.Sort.grow (Go.Sort.putRow (Value.int .i64) (Go.Sort.ahead w n) g 0 d) os).heap[g]? = some (.cells (Go.Sort.putCells (Value.int .i64) 0 d cur) t fr) := by
  have hg := (Array.getElem?_eq_some_iff.1 hb).1
  simp only [Go.Sort.grow, Go.Sort.putRow, Go.Sort.mapBlock, Go.Sort.ahead]
  rw [Array.getElem?_append_left (by simpa using hg)]
  simp [Array.getElem?_modify, hb, Go.Sort.onCells]
theorem grown_put {w : World} {g n : Nat} {os : Array Obj} (d : Array Int) : w.grownBy (Go.Sort.grow (Go.Sort.putRow (Value.int .i64) (Go.Sort.ahead w n) g 0 d) os) (some g) := by
  refine ⟨rfl, rfl, rfl, by simp [Go.Sort.grow, Go.Sort.putRow, Go.Sort.mapBlock, Go.Sort.ahead], fun k hk hne => ?_⟩
  have hne' : ¬ g = k := fun e => hne (by rw [e])
  simp only [Go.Sort.grow, Go.Sort.putRow, Go.Sort.mapBlock, Go.Sort.ahead]
  rw [Array.getElem?_append_left (by simpa using hk)]
  simp [Array.getElem?_modify, hne']
theorem own_put {B g c n : Nat} {w : World} {l k : List Nat} {os : Array Obj} (h : Own1 B w (.slice (some ⟨g, 0, none⟩) l.length c) l) (hl : k.length = l.length) :
    Own1 B (Go.Sort.grow (Go.Sort.putRow (Value.int .i64) (Go.Sort.ahead w n) g 0 (ints k).toArray) os) (.slice (some ⟨g, 0, none⟩) l.length c) k := by
  unfold Own1
  rw [hl]
  rcases h.2 with ⟨e, _⟩ | ⟨g', cap, cur, e, hB, hh, h1, h2, h3, h4⟩
  · cases e
  · injection e with e1 _ e3
    injection e1 with e1
    injection e1 with e1
    subst e1 e3
    refine ⟨by simp [nums, hl], .inr ⟨g, c, _, rfl, hB, block_put _ hh, h1, h2, by simp [Go.Sort.putCells, h3], ?_⟩⟩
    apply List.ext_getElem?
    intro j
    by_cases hj : j < k.length
    · rw [List.getElem?_take_of_lt (by omega), Array.getElem?_toList]
      simp [Go.Sort.putCells, ints, nums, hj, show j < cur.size by omega]
    · rw [List.getElem?_eq_none (by simp; omega), List.getElem?_eq_none (by simp [nums]; omega)]
theorem own_holds {B g c : Nat} {w : World} {l : List Nat} (h : Own1 B w (.slice (some ⟨g, 0, none⟩) l.length c) l) : Go.Sort.Holds (Value.int .i64) w g 0 (ints l).toArray := by
  intro j hj
  have hj' : j < l.length := by simpa [ints] using hj
  obtain ⟨g', e, _, _, h1, h2⟩ := h.at hj'
  injection e with e
  injection e with e
  subst e
  rw [Nat.zero_add]
  refine ⟨?_, h2⟩
  rw [h1]
  simp [ints, hj']
def sortU (l : List Nat) : List Nat := l.mergeSort fun a b => decide (a ≤ b)
theorem ints_sort (l : List Nat) : (ints l).mergeSort (fun x y => decide (x ≤ y)) = ints (sortU l) := by
  unfold ints sortU
  rw [List.map_mergeSort]
  intro a _ b _
  simp
theorem Own1.form {B : Nat} {w : World} {v : Value} {l : List Nat} (h : Own1 B w v l) (h0 : 0 < l.length) : ∃ g c, v = .slice (some ⟨g, 0, none⟩) l.length c ∧ B ≤ g ∧ g < w.heap.size := by
  rcases h.2 with ⟨_, e⟩ | ⟨g, c, cur, rfl, hB, hh, _⟩
  · omega
  · exact ⟨g, c, rfl, hB, (Array.getElem?_eq_some_iff.1 hh).1⟩
/-- slices.Sort at a list of the call's own -/
theorem sort_any {B : Nat} {w : World} {v : Value} {l : List Nat} (h : Own1 B w v l) (h0 : 0 < l.length) (hl : l.length ≤ 1000000000) :
    Calls Try.prog 70 #[v] w fun e w' => e = .returned (.tuple #[]) ∧ w.grownBy w' v.ownBlock ∧ Own1 B w' v (sortU l) := by
  obtain ⟨g, c, rfl, _, hg⟩ := h.form h0
  have hc := AnyM.slices_Sort_int sortA g 0 c (ints l) w (own_holds h) hg (by simp [ints]; omega)
  rw [ints_sort] at hc
  have e : (ints l).length = l.length := by simp [ints]
  rw [e] at hc
  refine hc.mono ?_
  rintro e w' ⟨rfl, n, os, rfl⟩
  exact ⟨rfl, grown_put _, own_put h (by unfold sortU; exact (List.mergeSort_perm _ _).length_eq)⟩
/-- slices.Reverse at a list of the call's own -/
theorem rev_any {B : Nat} {w : World} {v : Value} {l : List Nat} (h : Own1 B w v l) (h0 : 0 < l.length) (hl : l.length ≤ 1000000000) :
    Calls Try.prog 71 #[v] w fun e w' => e = .returned (.tuple #[]) ∧ w.grownBy w' v.ownBlock ∧ Own1 B w' v l.reverse := by
  obtain ⟨g, c, rfl, _, _⟩ := h.form h0
  have hc := AnyG.slices_Reverse_int revA g 0 c (ints l) w (own_holds h) (by simp [ints]; omega)
  have e : (ints l).length = l.length := by simp [ints]
  have e2 : (ints l).reverse = ints l.reverse := by simp [ints, List.map_reverse]
  rw [e, e2] at hc
  refine hc.mono ?_
  rintro e w' ⟨rfl, n, rfl⟩
  have hw : ∀ W : World, W = Go.Sort.grow W #[] := fun W => by simp [Go.Sort.grow]
  rw [hw (Go.Sort.putRow _ _ _ _ _)]
  exact ⟨rfl, grown_put _, own_put h (by simp)⟩
theorem sortU_reverse (l : List Nat) : (sortU l).reverse = sortD l := by
  refine sortD_unique (((List.reverse_perm _).trans (List.mergeSort_perm _ _))) ?_
  rw [List.pairwise_reverse]
  have := List.pairwise_mergeSort (le := fun a b : Nat => decide (a ≤ b)) (fun a b c h1 h2 => by simp at *; omega) (fun a b => by simp; omega) l
  exact this.imp fun h => by simpa using h
end Go.Proofs.Ytcddglkecfnhmaa
