/- impl.leastBlock, impl.BlockOf -/
import Derived.Test.YtgomfphdgekniaaJoinW
import Derived.Test.YtgomfphdgekniaaInts
import Derived.Test.YtgomfphdgekniaaNamOf
namespace Go.Proofs.Ytgomfphdgekniaa
open Go.RowKit

/-- the darts with the number of x -/
def classL (m : Nat) (c : Nat → Nat) (x : Nat) : List Nat := (List.range m).filter fun i => c i == c x
def classP (k : Nat) (c : Nat → Nat) (x : Nat) : List Nat := (List.range k).filter fun i => c i == c x
theorem classP_yes {k x : Nat} {c : Nat → Nat} (h : c k = c x) : classP k c x ++ [k] = classP (k + 1) c x := by unfold classP; rw [List.range_succ, List.filter_append]; simp [h]
theorem classP_no {k x : Nat} {c : Nat → Nat} (h : ¬ c k = c x) : classP k c x = classP (k + 1) c x := by unfold classP; rw [List.range_succ, List.filter_append]; simp [h]
theorem classP_len (k : Nat) (c : Nat → Nat) (x : Nat) : (classP k c x).length ≤ k := by unfold classP; have := List.length_filter_le (fun i => c i == c x) (List.range k); simpa using this

set_option maxRecDepth 100000 in
set_option maxHeartbeats 1000000 in
theorem leastBlock_any (f g : Nat → Nat) (m : Nat) (hd : DesN f g m) (l : List Nat) (hl : 0 < l.length) (hl16 : l.length ≤ 16) (hlt : ∀ x ∈ l, x < m) (v : Value) (w : World) (hv : RdZ w v (ints l)) :
    Calls Try.prog 67 #[.agg (dv m f g), v] w fun e w' => ∃ u, e = .returned u ∧ Below w.heap.size w w' ∧ Own1 w.heap.size w' u (classL m (joinR f g m l l[0]) l[0]) := by
  have hm := hd.le
  have hn := dv_n m f g
  have C1 := hide fun (w' : World) (h : RdZ w' v (ints l)) => joinedSets_any f g m hd l hl hl16 hlt v w' h
  obtain ⟨A, c, rfl, _⟩ := hv.form
  rw [ints_length] at hv C1 ⊢
  obtain ⟨x, hx0⟩ : ∃ x, x = l[0] := ⟨_, rfl⟩
  have hxm : x < m := by rw [hx0]; exact hlt _ (List.getElem_mem hl)
  rw [← hx0] at C1 ⊢
  generalize joinR f g m l x = R at *
  have HV := hide hv; clear hv
  have HX := hide hx0; clear hx0
  clear hd hlt
  have hx16 : x < 16 := by omega
  have HH0 := (Holds.start w).blk (dv m f g) 30 w.heap.size rfl
  go_enter Try.func67, Try.ntmps67
  go_wp2_with fail
  refine (C1.out _ (HV.out.below HH0.low (Nat.le_refl _))).mono ?_
  rintro e w1 ⟨rfl, hb⟩
  have HH1 := (HH0.call hb).blk (av R) 28 w1.heap.size rfl
  have HH2 := HH1.nilRow 2 1
  have cn := HH1.cell 1 rfl hn
  clear hb HH0 HH1
  go_wp2
  clear cn
  go_loopw [6, 13] (fun u t wr => ∃ k : Nat, k ≤ m ∧ t = .int .i64 k ∧ Holds w wr [pInts u (classP k R x), pBlk w1.heap.size (av R) 28, pBlk w.heap.size (dv m f g) 30]) (fun _ t _ => m - (intOf t).toNat)
  case atStart => exact ⟨0, by omega, rfl, HH2⟩
  case round =>
    clear HH2
    obtain ⟨k, hk, rfl, hH⟩ := hrel
    obtain ⟨A', c', rfl⟩ := hH.intsForm 0 rfl
    by_cases hkm : k < m
    · obtain ⟨q, rfl, _, x0⟩ := (HV.out.below hH.low (Nat.le_refl _)).nat0 hl
      rw [← HX.out] at x0
      have hk16 : k < 16 := by omega
      have z1 : wr.cell? ⟨w1.heap.size, k, none⟩ = some (.int .u8 (R k)) := hH.cell 1 rfl (av_get _ hk16)
      have z2 : wr.cell? ⟨w1.heap.size, x, none⟩ = some (.int .u8 (R x)) := hH.cell 1 rfl (av_get _ hx16)
      have hlen := classP_len k R x
      by_cases e : R k = R x
      · have d := cast_beq e
        have hcl := classP_yes e
        have HC := hide hcl; clear hcl e
        go_wp2
        go_quiet (fail)
        have hHz := hH.drewN nq
        clear hH z1 z2 x0
        generalize wr.drewN nq = wz at *
        go_wp2_with (at_builtin; refine appI (hHz.alloc _) 0 rfl wz.heap.size [k] 2 ?_ ?_ rfl _ _ rfl rfl rfl ?_)
        · exact heap_at _ _ _ rfl
        · simp only [List.length_cons, List.length_nil]; omega
        intro v' w' h1
        clear hHz
        go_wp2
        go_roundw
        case rel => exact ⟨k + 1, by omega, by go_num, by rw [← HC.out]; exact h1⟩
        case measure => simp [intOf]; omega
      · have d := cast_bne e
        have hcl := classP_no e
        have HC := hide hcl; clear hcl e
        go_wp2
        go_quiet (fail)
        have hHz := hH.drewN nq
        clear hH z1 z2 x0
        go_wp2
        go_roundw
        case rel => exact ⟨k + 1, by omega, by go_num, by rw [← HC.out]; exact hHz⟩
        case measure => simp [intOf]; omega
    · obtain rfl : m = k := by omega
      clear hkm hk
      go_wp2
      go_ret
      exact ⟨_, rfl, hH.low, hH.own1 0 rfl⟩

open Classical in
noncomputable def blkR (n : Int) (f g : Nat → Nat) (x y : Int) : List Nat := if desB n f g = true ∧ (0 ≤ x ∧ x < n) ∧ 0 ≤ y ∧ y < n then classL n.toNat (joinR f g n.toNat [x.toNat, y.toNat] x.toNat) x.toNat else []
open Classical in
noncomputable def blkC (n : Int) (f g : Nat → Nat) (x y : Int) : Int := if desB n f g = true then (if (0 ≤ x ∧ x < n) ∧ 0 ≤ y ∧ y < n then 0 else 2) else 1
theorem blkR_bound (n : Int) (f g : Nat → Nat) (x y : Int) : (blkR n f g x y).length ≤ 16 := by
  unfold blkR
  split
  · rename_i h
    obtain ⟨m, rfl, hd⟩ := desB_true h.1
    have := classP_len m (joinR f g m [x.toNat, y.toNat] x.toNat) x.toNat
    have := hd.le
    rw [Int.toNat_natCast]
    show (classP m _ _).length ≤ 16
    omega
  · simp
theorem rd_two {w : World} {g x y : Nat} {t : TypeId} {fr : Nat × Nat} (h : w.heap[g]? = some (.cells #[.int .i64 x, .int .i64 y] t fr)) : RdZ w (.slice (some ⟨g, 0, none⟩) 2 2) (ints [x, y]) := by
  refine ⟨some ⟨g, 0, none⟩, 2, rfl, by simp [ints], fun i z hi => ⟨⟨g, 0, none⟩, rfl, lt_of_some h, ?_⟩⟩
  rcases i with _ | _ | i
  · simp [ints] at hi
    subst hi
    show w.cell? ⟨g, 0, none⟩ = _
    unfold World.cell?
    simp [h]
  · simp [ints] at hi
    subst hi
    show w.cell? ⟨g, 1, none⟩ = _
    unfold World.cell?
    simp [h]
  · simp [ints] at hi

set_option maxRecDepth 100000 in
set_option maxHeartbeats 1000000 in
theorem blockOf_any (n : Int) (f g : Nat → Nat) (hf : ∀ i, f i < 256) (hg : ∀ i, g i < 256) (x y : Int) (w : World) :
    Calls Try.prog 31 #[.agg (dv n f g), .int .i64 x, .int .i64 y] w fun e w' => ∃ v, e = .returned (.tuple #[v, .int .i64 (blkC n f g x y)]) ∧ Below w.heap.size w w' ∧ Own1 w.heap.size w' v (blkR n f g x y) := by
  have C1 := hide fun w => isDessin_any n f g hf hg w
  have C2 := hide fun w => isDart_any n f g x w
  have C3 := hide fun w => isDart_any n f g y w
  have HH0 := (Holds.start w).blk (dv n f g) 30 w.heap.size rfl
  clear hf hg
  rcases h1 : desB n f g with _ | _
  · rw [h1] at C1
    have hr : blkR n f g x y = [] := by unfold blkR; rw [if_neg (by simp [h1])]
    have hc : blkC n f g x y = 1 := by unfold blkC; rw [if_neg (by simp [h1])]
    rw [hr, hc]
    clear h1 hr hc
    go_enter Try.func31, Try.ntmps31
    go_wp2_with fail
    refine (C1.out _).mono ?_
    rintro e w1 ⟨rfl, hb⟩
    have HH1 := HH0.call hb
    clear hb
    go_wp2
    go_ret2
    exact ⟨.slice none 0 0, rfl, HH1.low, Own1.nil _ _⟩
  · rw [h1] at C1
    by_cases hx : 0 ≤ x ∧ x < n
    · rw [decide_eq_true hx] at C2
      by_cases hy : 0 ≤ y ∧ y < n
      · rw [decide_eq_true hy] at C3
        obtain ⟨m, rfl, hd⟩ := desB_true h1
        obtain ⟨a, rfl⟩ := Int.eq_ofNat_of_zero_le hx.1
        obtain ⟨b, rfl⟩ := Int.eq_ofNat_of_zero_le hy.1
        have hr : blkR (m : Int) f g a b = classL m (joinR f g m [a, b] a) a := by unfold blkR; rw [if_pos ⟨h1, hx, hy⟩]; simp only [Int.toNat_natCast]
        have hc : blkC (m : Int) f g a b = 0 := by unfold blkC; rw [if_pos h1, if_pos ⟨hx, hy⟩]
        rw [hr, hc]
        have C4 := hide fun (v : Value) (w' : World) (h : RdZ w' v (ints [a, b])) => leastBlock_any f g m hd [a, b] (by simp) (by simp) (by intro z hz; simp at hz; omega) v w' h
        simp only [List.getElem_cons_zero] at C4
        clear h1 hr hc hx hy hd
        generalize classL m (joinR f g m [a, b] a) a = B at *
        go_enter Try.func31, Try.ntmps31
        go_wp2_with fail
        refine (C1.out _).mono ?_
        rintro e w1 ⟨rfl, hb⟩
        have HH1 := HH0.call hb
        have cd := HH1.cells 0 rfl
        clear hb HH0
        go_wp2_with fail
        refine (C2.out _).mono ?_
        rintro e w2 ⟨rfl, hb⟩
        have HH2 := HH1.call hb
        have cd2 := HH2.cells 0 rfl
        clear hb HH1 cd
        go_wp2_with fail
        refine (C3.out _).mono ?_
        rintro e w3 ⟨rfl, hb⟩
        have HH3 := HH2.call hb
        have cd3 := HH3.cells 0 rfl
        clear hb HH2 cd2
        go_wp2_with fail
        have HH4 := HH3.blk #[.int .i64 a, .int .i64 b] 2 w3.heap.size rfl
        refine (C4.out _ _ (rd_two (HH4.at 0 rfl))).mono ?_
        rintro e w4 ⟨v, rfl, hb, ho⟩
        have HH5 := HH4.newRow hb ho
        clear hb HH3 cd3 ho HH4
        go_wp2
        go_ret2
        exact ⟨v, rfl, HH5.low, HH5.row 0 rfl⟩
      · rw [decide_eq_false hy] at C3
        have hr : blkR n f g x y = [] := by unfold blkR; rw [if_neg (fun k => hy k.2.2)]
        have hc : blkC n f g x y = 2 := by unfold blkC; rw [if_pos h1, if_neg (fun k => hy k.2)]
        rw [hr, hc]
        clear h1 hr hc hx hy
        go_enter Try.func31, Try.ntmps31
        go_wp2_with fail
        refine (C1.out _).mono ?_
        rintro e w1 ⟨rfl, hb⟩
        have HH1 := HH0.call hb
        have cd := HH1.cells 0 rfl
        clear hb HH0
        go_wp2_with fail
        refine (C2.out _).mono ?_
        rintro e w2 ⟨rfl, hb⟩
        have HH2 := HH1.call hb
        have cd2 := HH2.cells 0 rfl
        clear hb HH1 cd
        go_wp2_with fail
        refine (C3.out _).mono ?_
        rintro e w3 ⟨rfl, hb⟩
        have HH3 := HH2.call hb
        clear hb HH2 cd2
        go_wp2
        go_ret2
        exact ⟨.slice none 0 0, rfl, HH3.low, Own1.nil _ _⟩
    · rw [decide_eq_false hx] at C2
      have hr : blkR n f g x y = [] := by unfold blkR; rw [if_neg (fun k => hx k.2.1)]
      have hc : blkC n f g x y = 2 := by unfold blkC; rw [if_pos h1, if_neg (fun k => hx k.1)]
      rw [hr, hc]
      clear h1 hr hc hx
      go_enter Try.func31, Try.ntmps31
      go_wp2_with fail
      refine (C1.out _).mono ?_
      rintro e w1 ⟨rfl, hb⟩
      have HH1 := HH0.call hb
      have cd := HH1.cells 0 rfl
      clear hb HH0
      go_wp2_with fail
      refine (C2.out _).mono ?_
      rintro e w2 ⟨rfl, hb⟩
      have HH2 := HH1.call hb
      clear hb HH1 cd
      go_wp2
      go_ret2
      exact ⟨.slice none 0 0, rfl, HH2.low, Own1.nil _ _⟩
end Go.Proofs.Ytgomfphdgekniaa
