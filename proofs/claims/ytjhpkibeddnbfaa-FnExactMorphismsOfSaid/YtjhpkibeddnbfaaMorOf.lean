/- MorphismsOf of the program and of the model; the walk of FnExactMorphismsOf -/
import Derived.Test.YtjhpkibeddnbfaaSMor
import Derived.Test.YtjhpkibeddnbfaaProAt
import Derived.Test.YtjhpkibeddnbfaaMk1
import Derived.Test.YtjhpkibeddnbfaaToDs
import Derived.Test.YtjhpkibeddnbfaaReg
namespace Go.Proofs.Ytjhpkibeddnbfaa
open Go.RowKit

theorem Holds.third {w0 w : World} {a b c : Part} {L : List Part} (h : Holds w0 w (a :: b :: c :: L)) : Holds w0 w (b :: c :: a :: L) :=
  h.perm ((List.Perm.swap b a (c :: L)).trans ((List.Perm.swap c a L).cons b))
/-- the morphisms that give the dart 0 one of the first darts -/
def morT (f g f' g' : Nat → Nat) (m : Nat) : Nat → List (List Nat)
  | 0 => []
  | y + 1 => if (bfs (bF f f') (bF g g') y 256).1.length = m then morT f g f' g' m y ++ [morL (bfs (bF f f') (bF g g') y 256).1 m] else morT f g f' g' m y
theorem morT_le (f g f' g' : Nat → Nat) (m y : Nat) : (morT f g f' g' m y).length ≤ y ∧ ∀ l ∈ morT f g f' g' m y, l.length = m := by
  induction y with
  | zero => exact ⟨Nat.le_refl _, fun l h => by simp [morT] at h⟩
  | succ y ih =>
    rw [morT]
    split
    · refine ⟨by rw [List.length_append]; simp only [List.length_cons, List.length_nil]; omega, fun l h => ?_⟩
      rcases List.mem_append.1 h with h | h
      · exact ih.2 l h
      · simp at h; subst h; exact morL_length _ _
    · exact ⟨by omega, ih.2⟩
open Classical in
noncomputable def morR (n : Int) (f g : Nat → Nat) (n' : Int) (f' g' : Nat → Nat) : List (List Nat) := if desB n f g = true ∧ desB n' f' g' = true then morT f g f' g' n.toNat n'.toNat else []
open Classical in
noncomputable def bothC (n : Int) (f g : Nat → Nat) (n' : Int) (f' g' : Nat → Nat) : Int := if desB n f g = true ∧ desB n' f' g' = true then 0 else 1
theorem total_le : ∀ (ls : List (List Nat)) (m : Nat), (∀ l ∈ ls, l.length = m) → total ls = m * ls.length := by
  intro ls m h
  induction ls with
  | nil => simp [total]
  | cons l ls ih =>
    have h1 := h l (by simp)
    have h2 := ih fun x hx => h x (by simp [hx])
    unfold total at h2 ⊢
    simp only [List.map_cons, List.sum_cons, List.length_cons] at h2 ⊢
    rw [h1, h2, Nat.mul_succ]; omega
theorem morR_bound (n : Int) (f g : Nat → Nat) (n' : Int) (f' g' : Nat → Nat) : total (morR n f g n' f' g') ≤ 1000 ∧ (morR n f g n' f' g').length ≤ 16 := by
  unfold morR
  split
  · rename_i h
    obtain ⟨m, rfl, hd⟩ := desB_true h.1
    obtain ⟨k, rfl, he⟩ := desB_true h.2
    simp only [Int.toNat_natCast]
    have h1 := morT_le f g f' g' m k
    rw [total_le _ m h1.2]
    have := hd.le
    have := he.le
    have h2 : m * (morT f g f' g' m k).length ≤ 16 * 16 := Nat.mul_le_mul (by omega) (by omega)
    omega
  · exact ⟨by simp [total], by simp⟩

set_option maxRecDepth 100000 in
set_option maxHeartbeats 2000000 in
theorem morphismsOf_any (n : Int) (f g : Nat → Nat) (hf : ∀ i, f i < 256) (hg : ∀ i, g i < 256) (n' : Int) (f' g' : Nat → Nat) (hf' : ∀ i, f' i < 256) (hg' : ∀ i, g' i < 256) (w : World) :
    Calls Try.prog 24 #[.agg (dv n f g), .agg (dv n' f' g')] w fun e w' => ∃ v, e = .returned (.tuple #[v, .int .i64 (bothC n f g n' f' g')]) ∧ Below w.heap.size w w' ∧ Own2 w.heap.size w' v (morR n f g n' f' g') := by
  have C1 := hide fun w => isDessin_any n f g hf hg w
  have C2 := hide fun w => isDessin_any n' f' g' hf' hg' w
  clear hf hg hf' hg'
  have HH0 := ((Holds.start w).blk (dv n f g) 30 w.heap.size rfl).blk (dv n' f' g') 30 (w.heap.size + 1) (by simp)
  rcases h1 : desB n f g with _ | _
  · rw [h1] at C1
    have hr : morR n f g n' f' g' = [] := by unfold morR; rw [if_neg (by simp [h1])]
    have hc : bothC n f g n' f' g' = 1 := by unfold bothC; rw [if_neg (by simp [h1])]
    rw [hr, hc]
    clear h1 hr hc
    go_enter Try.func24, Try.ntmps24
    go_wp2_with fail
    refine (C1.out _).mono ?_
    rintro e w1 ⟨rfl, hb⟩
    have HH1 := HH0.call hb
    clear hb HH0
    go_wp2
    go_ret2
    exact ⟨.slice none 0 0, rfl, HH1.low, Own2.nil _ _⟩
  rw [h1] at C1
  rcases h2 : desB n' f' g' with _ | _
  · rw [h2] at C2
    have hr : morR n f g n' f' g' = [] := by unfold morR; rw [if_neg (by simp [h2])]
    have hc : bothC n f g n' f' g' = 1 := by unfold bothC; rw [if_neg (by simp [h2])]
    rw [hr, hc]
    clear h1 h2 hr hc
    go_enter Try.func24, Try.ntmps24
    go_wp2_with fail
    refine (C1.out _).mono ?_
    rintro e w1 ⟨rfl, hb⟩
    have HH1 := HH0.call hb
    have ce := HH1.cells 0 rfl
    clear hb HH0
    go_wp2_with fail
    refine (C2.out _).mono ?_
    rintro e w2 ⟨rfl, hb⟩
    have HH2 := HH1.call hb
    clear hb HH1 ce
    go_wp2
    go_ret2
    exact ⟨.slice none 0 0, rfl, HH2.low, Own2.nil _ _⟩
  rw [h2] at C2
  obtain ⟨m, rfl, hd⟩ := desB_true h1
  obtain ⟨k, rfl, he⟩ := desB_true h2
  have hr : morR m f g k f' g' = morT f g f' g' m k := by unfold morR; rw [if_pos ⟨h1, h2⟩]; simp only [Int.toNat_natCast]
  have hc : bothC m f g k f' g' = 0 := by unfold bothC; rw [if_pos ⟨h1, h2⟩]
  rw [hr, hc]
  clear h1 h2 hr hc
  have hm := hd.le
  have hk := he.le
  have hk256 : (k : Int) < 256 := by omega
  have hn := dv_n m f g
  have hn' := dv_n k f' g'
  have C3 := hide fun (y : Nat) (hy : y < 16) (w : World) => pairsFrom_any f g f' g' m k hd he 0 y (by omega) hy w
  have HG := hide fun (y : Nat) (hy : y < 16) => prs_graph hd he hy
  have HC := hide fun (y : Nat) (hy : y < 16) => prs_cover hd he hy
  have HLT := hide fun (y : Nat) (hy : y < 16) => prs_lt hd he hy 256
  have HI := hide fun (y : Nat) (hy : y < 16) => bfs_inv (fun z hz => bF_lt hd.black he.black z hz) (fun z hz => bF_lt hd.white he.white z hz) (show y < 256 by omega) 256
  clear hd he
  simp only [Nat.mul_zero, Nat.zero_add] at C3
  go_enter Try.func24, Try.ntmps24
  go_wp2_with fail
  refine (C1.out _).mono ?_
  rintro e w1 ⟨rfl, hb⟩
  have HH1 := HH0.call hb
  have ce := HH1.cells 0 rfl
  clear hb HH0
  go_wp2_with fail
  refine (C2.out _).mono ?_
  rintro e w2 ⟨rfl, hb⟩
  have HH2 := HH1.call hb
  clear hb HH1 ce
  have ce0 := HH2.cell 0 rfl hn'
  have HH3 := (HH2.nilRow 48 1).third
  go_wp2
  clear ce0 HH2
  go_loopw [6, 20] (fun u t wr => ∃ (y : Nat) (vs : List Value), y ≤ k ∧ t = .int .u8 y ∧ vs.length = (morT f g f' g' m y).length ∧ Holds w wr (pBlk (w.heap.size + 1) (dv k f' g') 30 :: pBlk w.heap.size (dv m f g) 30 :: pVals u vs :: rowsP vs (morT f g f' g' m y))) (fun _ t _ => k - (intOf t).toNat)
  case atStart => exact ⟨0, [], by omega, rfl, rfl, HH3⟩
  case round =>
    clear HH3
    obtain ⟨y, vs, hy, rfl, hvs, hH⟩ := hrel
    have hvl : vs.length ≤ y := by rw [hvs]; exact (morT_le f g f' g' m y).1
    have HVS := hide hvs; clear hvs
    by_cases hyk : y < k
    · have hy16 : y < 16 := by omega
      have hyk' : (y : Int) < k := by omega
      have hs : morT f g f' g' m (y + 1) = if (bfs (bF f f') (bF g g') y 256).1.length = m then morT f g f' g' m y ++ [morL (bfs (bF f f') (bF g g') y 256).1 m] else morT f g f' g' m y := rfl
      have hG := HG.out y hy16
      have hC := HC.out y hy16
      have hLT := HLT.out y hy16
      have hI := HI.out y hy16
      have c3 := C3.out y hy16
      have hilt := hI.lt
      have hile := hI.length_le
      clear hI
      generalize (bfs (bF f f') (bF g g') y 256).1 = R at *
      have C4 := hide c3; clear c3
      have HLI := hide hilt; clear hilt
      have cd := hH.cells 1 rfl
      have ce := hH.cells 0 rfl
      obtain ⟨A0, c0, rfl⟩ := hH.valsForm 2 rfl
      go_wp2_with fail
      refine (C4.out _).mono ?_
      rintro e w2 ⟨v, rfl, hb, ho⟩
      have HH2 := hH.newRow hb ho
      have cn := HH2.cell 2 rfl hn
      have hv : RdP w2 v (dec R) := by
        have := row_low (HH2.row 0 rfl) (Nat.zero_le _)
        unfold RdP; rw [dec_length]; exact this
      obtain ⟨A1, c1, rfl⟩ := own_slice (HH2.row 0 rfl)
      have HV := hide hv
      clear hb ho cd ce hH hv
      by_cases hlm : R.length = m
      · have heq : ((((R.length : Nat) : Int)) == (m : Int)) = true := by rw [hlm]; simp
        rw [if_pos hlm] at hs
        have HS := hide hs; clear hs
        have hnd := hG.1 hlm
        have hrow : (fun u => pRow u 2 1 R.length (rv (secT R R.length) R.length)) = fun u => pInts u (morL R m) := by
          funext u
          unfold pInts
          rw [morL_length, hlm, ← rv_nums fun x hx => sndF_ge (hC x hx), ← secT_all hnd hC, hlm]
        have C5 := hide fun (w' : World) (h : RdP w' (.slice A1 R.length c1) (dec R)) => seconds_any R (by omega) (fun z hz => ⟨HLI.out z hz, by have := hLT z hz; omega⟩) (.slice A1 R.length c1) w' h
        have HR := hide hrow; clear hrow hnd hG hC hLT
        have hlm16 : R.length ≤ 16 := by omega
        have HLM := hide hlm; clear hlm
        go_wp2_with fail
        refine (C5.out _ HV.out).mono ?_
        rintro e w3 ⟨u, rfl, hb, ho⟩
        have HH3 := HH2.newRow hb ho
        obtain ⟨A2, c2, rfl⟩ := own_slice (HH3.row 0 rfl)
        have e3 := congrFun HR.out (.slice A2 R.length c2)
        rw [e3] at HH3
        have HH4 := HH3.sub (.cons_cons _ (.cons _ (.refl _)))
        clear hb ho HH2 HH3 cn e3
        go_wp2_with (at_builtin; refine appRow (HH4.alloc _) 3 rfl w3.heap.size (.slice A2 R.length c2) rfl 48 (heap_at _ _ _ rfl) (by omega) rfl _ _ rfl rfl rfl ?_)
        intro v' w5 hH5
        have hH6 := Holds.rowEnd (A := [_, _, _]) HVS.out hH5
        clear hH5 HH4
        go_wp2
        go_roundw
        case rel =>
          refine ⟨y + 1, vs ++ [.slice A2 R.length c2], by omega, by go_num, ?_, ?_⟩
          · rw [HS.out, List.length_append, List.length_append, HVS.out]; rfl
          · rw [HS.out]; exact hH6
        case measure => simp [intOf]; omega
      · have heq : ((((R.length : Nat) : Int)) == (m : Int)) = false := by
          rw [beq_eq_false_iff_ne]; omega
        rw [if_neg hlm] at hs
        have HS := hide hs; clear hs hG hC hLT
        have HH4 := HH2.tail
        go_wp2
        go_roundw
        case rel => exact ⟨y + 1, vs, by omega, by go_num, by rw [HS.out]; exact HVS.out, by rw [HS.out]; exact HH4⟩
        case measure => simp [intOf]; omega
    · obtain rfl : y = k := by omega
      clear hyk hy
      go_wp2
      go_ret2
      exact ⟨_, rfl, hH.low, Holds.own2 (A := [_, _]) HVS.out hH⟩

set_option maxRecDepth 100000 in
set_option maxHeartbeats 2000000 in
theorem sMorphismsOf_any (n : Int) (f g : Nat → Nat) (hf : ∀ i, f i < 256) (hg : ∀ i, g i < 256) (n' : Int) (f' g' : Nat → Nat) (hf' : ∀ i, f' i < 256) (hg' : ∀ i, g' i < 256) (w : World) :
    Calls Try.prog 23 #[.agg (dv n f g), .agg (dv n' f' g')] w fun e w' => ∃ v, e = .returned (.tuple #[v, .int .i64 (bothC n f g n' f' g')]) ∧ Below w.heap.size w w' ∧ Own2 w.heap.size w' v (morR n f g n' f' g') := by
  have C1 := hide fun w => sBoth_any n f g hf hg n' f' g' hf' hg' w
  clear hf hg hf' hg'
  have HH0 := ((Holds.start w).blk (dv n f g) 30 w.heap.size rfl).blk (dv n' f' g') 30 (w.heap.size + 1) (by simp)
  by_cases hde : desB n f g = true ∧ desB n' f' g' = true
  rotate_left
  · rw [if_neg hde] at C1
    have hr : morR n f g n' f' g' = [] := by unfold morR; rw [if_neg hde]
    have hc : bothC n f g n' f' g' = 1 := by unfold bothC; rw [if_neg hde]
    rw [hr, hc]
    clear hde hr hc
    go_enter Try.func23, Try.ntmps23
    go_wp2_with fail
    refine (C1.out _).mono ?_
    rintro e w1 ⟨rfl, hb⟩
    have HH1 := HH0.call hb
    clear hb HH0
    go_wp2
    go_ret2
    exact ⟨.slice none 0 0, rfl, HH1.low, Own2.nil _ _⟩
  rw [if_pos hde] at C1
  have hr : morR n f g n' f' g' = morT f g f' g' n.toNat n'.toNat := by unfold morR; rw [if_pos hde]
  have hc : bothC n f g n' f' g' = 0 := by unfold bothC; rw [if_pos hde]
  rw [hr, hc]
  clear hr hc
  obtain ⟨h1, h2⟩ := hde
  obtain ⟨m, rfl, hd⟩ := desB_true h1
  obtain ⟨k, rfl, he⟩ := desB_true h2
  simp only [Int.toNat_natCast]
  clear h1 h2
  have hm := hd.le
  have hk := he.le
  have hn' := dv_n k f' g'
  have C3 := hide fun (y : Nat) (hy : y < 16) (w : World) => sMor_any f g f' g' m k hd he y hy w
  have HG := hide fun (y : Nat) (hy : y < 16) => prs_graph hd he hy
  have HC := hide fun (y : Nat) (hy : y < 16) => prs_cover hd he hy
  clear hd he
  go_enter Try.func23, Try.ntmps23
  go_wp2_with fail
  refine (C1.out _).mono ?_
  rintro e w1 ⟨rfl, hb⟩
  have HH1 := HH0.call hb
  clear hb HH0
  have HH3 : Holds w (w1.alloc (.cells #[] 48)) _ := (HH1.rowNew #[] 48 1 0 w1.heap.size rfl rfl (by unfold maxLen; omega)).third
  go_wp2
  clear HH1
  go_loopw [7, 8] (fun u t wr => ∃ (y : Nat) (vs : List Value), y ≤ k ∧ t = .int .i64 y ∧ vs.length = (morT f g f' g' m y).length ∧ Holds w wr (pBlk (w.heap.size + 1) (dv k f' g') 30 :: pBlk w.heap.size (dv m f g) 30 :: pVals u vs :: rowsP vs (morT f g f' g' m y))) (fun _ t _ => k - (intOf t).toNat)
  case atStart => exact ⟨0, [], by omega, rfl, rfl, HH3⟩
  case round =>
    clear HH3
    obtain ⟨y, vs, hy, rfl, hvs, hH⟩ := hrel
    have hvl : vs.length ≤ y := by rw [hvs]; exact (morT_le f g f' g' m y).1
    have HVS := hide hvs; clear hvs
    have cn := hH.cell 0 rfl hn'
    by_cases hyk : y < k
    · have hy16 : y < 16 := by omega
      have hyk' : (y : Int) < k := by omega
      have hs : morT f g f' g' m (y + 1) = if (bfs (bF f f') (bF g g') y 256).1.length = m then morT f g f' g' m y ++ [morL (bfs (bF f f') (bF g g') y 256).1 m] else morT f g f' g' m y := rfl
      have hG := HG.out y hy16
      have hC := HC.out y hy16
      have c3 := C3.out y hy16
      generalize (bfs (bF f f') (bF g g') y 256).1 = R at *
      have C4 := hide c3; clear c3
      have cd := hH.cells 1 rfl
      have ce := hH.cells 0 rfl
      obtain ⟨A0, c0, rfl⟩ := hH.valsForm 2 rfl
      go_wp2_with fail
      refine (C4.out _).mono ?_
      rintro e w2 ⟨v, b, rfl, hb, ht, hf⟩
      rcases b with _ | _
      · have hnd := hf rfl
        rw [if_neg (fun h => hnd (hG.1 h))] at hs
        have HS := hide hs; clear hs hG hC ht hf hnd
        have HH2 := hH.call hb
        clear hb cd ce cn hH
        go_wp2
        go_roundw
        case rel => exact ⟨y + 1, vs, by omega, by go_num, by rw [HS.out]; exact HVS.out, by rw [HS.out]; exact HH2⟩
        case measure => simp [intOf]; omega
      · obtain ⟨hnd, ho⟩ := ht rfl
        have hlm := hG.2 hnd
        rw [if_pos hlm] at hs
        have HS := hide hs; clear hs hG ht hf hnd hlm
        have hrow : (fun u => pRow u 2 1 m (rv (sndF R) m)) = fun u => pInts u (morL R m) := by
          funext u
          unfold pInts
          rw [morL_length, ← rv_nums fun x hx => sndF_ge (hC x hx)]
        have HH4 := hH.newRow hb ho
        obtain ⟨A2, c2, rfl⟩ := own_slice (HH4.row 0 rfl)
        have e3 := congrFun hrow (.slice A2 m c2)
        rw [e3] at HH4
        clear hb ho hrow e3 hC cd ce cn hH
        go_wp2_with (at_builtin; refine appRow (HH4.alloc _) 3 rfl w2.heap.size (.slice A2 m c2) rfl 48 (heap_at _ _ _ rfl) (by omega) rfl _ _ rfl rfl rfl ?_)
        intro v' w5 hH5
        have hH6 := Holds.rowEnd (A := [_, _, _]) HVS.out hH5
        clear hH5 HH4
        go_wp2
        go_roundw
        case rel =>
          refine ⟨y + 1, vs ++ [.slice A2 m c2], by omega, by go_num, ?_, ?_⟩
          · rw [HS.out, List.length_append, List.length_append, HVS.out]; rfl
          · rw [HS.out]; exact hH6
        case measure => simp [intOf]; omega
    · obtain rfl : y = k := by omega
      clear hyk hy
      go_wp2
      go_ret2
      exact ⟨_, rfl, hH.low, Holds.own2 (A := [_, _]) HVS.out hH⟩

set_option maxRecDepth 100000 in
set_option maxHeartbeats 2000000 in
theorem fnExactMorphismsOf_walk (n : Int) (f g : Nat → Nat) (_hn : -9223372036854775808 ≤ n ∧ n ≤ 9223372036854775807) (hf : ∀ i, f i < 256) (hg : ∀ i, g i < 256) (n' : Int) (f' g' : Nat → Nat) (_hn' : -9223372036854775808 ≤ n' ∧ n' ≤ 9223372036854775807) (hf' : ∀ i, f' i < 256) (hg' : ∀ i, g' i < 256) (w : World) :
    Calls Try.prog 6 #[.agg (dv n f g), .agg (dv n' f' g')] w fun e w' => e = .returned (.bool true) ∧ Below w.heap.size w w' := by
  have C1 := hide fun w => morphismsOf_any n f g hf hg n' f' g' hf' hg' w
  have C2 := hide fun w => sMorphismsOf_any n f g hf hg n' f' g' hf' hg' w
  obtain ⟨hT, hL⟩ := morR_bound n f g n' f' g'
  generalize morR n f g n' f' g' = L at *
  generalize bothC n f g n' f' g' = c at *
  have T0 := hide fun w => toDessin_any n f g w
  have T1 := hide fun w => toDessin_any n' f' g' w
  clear hf hg _hn hf' hg' _hn'
  have hne : (c != c) = false := by simp
  have hnt : (((1 + total L : Nat) : Int) != ((1 + total L : Nat) : Int)) = false := by simp
  have hneg : decide (((1 + total L : Nat) : Int) < 0) = false := decide_eq_false (by omega)
  go_enter Try.func6, Try.ntmps6
  go_wp2
  generalize hW : ((w.alloc (.cells (dv n f g) 24)).alloc (.cells (dv n' f' g') 24)) = W
  have y0 : cellsOf W w.heap.size = dv n f g := by rw [← hW]; exact cellsOf_heap (heap1 (by simp))
  have k0 : w.heap.size < W.heap.size := by rw [← hW]; simp <;> omega
  have y1 : cellsOf W (w.heap.size + 1) = dv n' f' g' := by rw [← hW]; exact cellsOf_heap (heap_at _ _ _ (by simp))
  have k1 : (w.heap.size + 1) < W.heap.size := by rw [← hW]; simp <;> omega
  have b0 : Below w.heap.size w W := by rw [← hW]; exact below2 _ _ _
  clear hW
  refine region_V (w := W) (fun k => if k = 4 then some (fun w v w' => ∃ u, v = .tuple #[u, .int .i64 c] ∧ Own2 w.heap.size w' u L) else none) (fun _ => false) [4] (.q 0 <| .q 1 <| .q 2 <| .q 3 <| .s1 4 <| .q 5 <| .q 6 <| .q 7 <| .q 8 <| .q 9 .fin) (by kernel_rfl) (by kernel_rfl) (by kernel_rfl) (fun k hk => ?_) ?_
  · simp at hk; simp [hk]
  apply v_other
  · simp only [List.getElem?_toArray, List.getElem?_cons_zero, List.getElem?_cons_succ]; exact rfl
  · rfl
  · rfl
  · go_simp
  · intro wx hx
    have e0 := hx.cells y0 k0
    have e1 := hx.cells y1 k1
    unfold atG
    go_simp
    simp only [uponG]
    exact ⟨by trivial, rfl⟩
  apply v_other
  · simp only [List.getElem?_toArray, List.getElem?_cons_zero, List.getElem?_cons_succ]; exact rfl
  · rfl
  · rfl
  · go_simp
  · intro wx hx
    have e0 := hx.cells y0 k0
    have e1 := hx.cells y1 k1
    unfold atG
    go_simp
    simp only [uponG]
    exact ⟨by trivial, T0.out wx⟩
  apply v_other
  · simp only [List.getElem?_toArray, List.getElem?_cons_zero, List.getElem?_cons_succ]; exact rfl
  · rfl
  · rfl
  · go_simp
  · intro wx hx
    have e0 := hx.cells y0 k0
    have e1 := hx.cells y1 k1
    unfold atG
    go_simp
    simp only [uponG]
    exact ⟨by trivial, rfl⟩
  apply v_other
  · simp only [List.getElem?_toArray, List.getElem?_cons_zero, List.getElem?_cons_succ]; exact rfl
  · rfl
  · rfl
  · go_simp
  · intro wx hx
    have e0 := hx.cells y0 k0
    have e1 := hx.cells y1 k1
    unfold atG
    go_simp
    simp only [uponG]
    exact ⟨by trivial, T1.out wx⟩
  refine v_E (by simp only [List.getElem?_toArray, List.getElem?_cons_zero, List.getElem?_cons_succ]; exact rfl) rfl (by go_simp) (fun wx hx _ => ?_) ?_
  · go_simp
    simp only [uponE]
    exact ⟨by trivial, (C2.out wx).mono fun e w' ⟨u, h1, h2, h3⟩ => ⟨_, h1, h2, u, rfl, h3⟩⟩
  rintro vq ⟨_, _, _, u0, rfl, _⟩
  apply v_other
  · simp only [List.getElem?_toArray, List.getElem?_cons_zero, List.getElem?_cons_succ]; exact rfl
  · rfl
  · rfl
  · go_simp
  · intro wx hx
    unfold atG
    go_simp
    simp only [uponG]
    exact ⟨by trivial, rfl⟩
  apply v_other
  · simp only [List.getElem?_toArray, List.getElem?_cons_zero, List.getElem?_cons_succ]; exact rfl
  · rfl
  · rfl
  · go_simp
  · intro wx hx
    unfold atG
    go_simp
    simp only [uponG]
    exact ⟨by trivial, rfl⟩
  apply v_other
  · simp only [List.getElem?_toArray, List.getElem?_cons_zero, List.getElem?_cons_succ]; exact rfl
  · rfl
  · rfl
  · go_simp
  · intro wx hx
    unfold atG
    go_simp
    simp only [uponG]
    exact ⟨by trivial, rfl⟩
  apply v_other
  · simp only [List.getElem?_toArray, List.getElem?_cons_zero, List.getElem?_cons_succ]; exact rfl
  · rfl
  · rfl
  · go_simp
  · intro wx hx
    unfold atG
    go_simp
    simp only [uponG]
    exact ⟨by trivial, rfl⟩
  apply v_other
  · simp only [List.getElem?_toArray, List.getElem?_cons_zero, List.getElem?_cons_succ]; exact rfl
  · rfl
  · rfl
  · go_simp
  · intro wx hx
    unfold atG
    go_simp
    simp only [uponG]
    exact ⟨by trivial, rfl⟩
  rintro w1 hx ⟨m0, m1, _, k1', k2', ⟨ux, ex, o0⟩, k3'⟩
  injection ex with ex
  have hux : u0 = ux := by
    have := congrArg (fun a : Array Value => a[0]?) ex
    simpa using this
  subst hux
  clear ex
  obtain ⟨A0, c0, vs0, rfl, p0⟩ := own2_form o0
  clear o0
  have q0 := p0.below k3' (Nat.le_refl _)
  have s0a := k1'.size
  have s0b := (k2'.trans k3').size
  have O0 := hide q0; clear p0 q0 k1' k2' k3'
  generalize m0.heap.size = B0 at *
  have b1 : Below w.heap.size w w1 := b0.trans (Below.mono hx b0.size)
  have s1 := hx.size
  have z0 := hx.cells y0 k0
  have l0 := Nat.lt_of_lt_of_le k0 s1
  have z1 := hx.cells y1 k1
  have l1 := Nat.lt_of_lt_of_le k1 s1
  clear y0 k0 y1 k1 hx b0 s1 s0a s0b
  have y0 := z0; have k0 := l0
  clear z0 l0
  have y1 := z1; have k1 := l1
  clear z1 l1
  go_wp2_with fail
  refine region_V (w := w1) (fun k => if k = 4 then some (fun w v w' => ∃ u, v = .tuple #[u, .int .i64 c] ∧ Own2 w.heap.size w' u L) else none) (fun _ => false) [4] (.q 0 <| .q 1 <| .q 2 <| .q 3 <| .s1 4 <| .q 5 <| .q 6 <| .q 7 <| .q 8 <| .q 9 .fin) (by kernel_rfl) (by kernel_rfl) (by kernel_rfl) (fun k hk => ?_) ?_
  · simp at hk; simp [hk]
  apply v_other
  · simp only [List.getElem?_toArray, List.getElem?_cons_zero, List.getElem?_cons_succ]; exact rfl
  · rfl
  · rfl
  · go_simp
  · intro wx hx
    have e0 := hx.cells y0 k0
    have e1 := hx.cells y1 k1
    unfold atG
    go_simp
    simp only [uponG]
    exact ⟨by trivial, rfl⟩
  apply v_other
  · simp only [List.getElem?_toArray, List.getElem?_cons_zero, List.getElem?_cons_succ]; exact rfl
  · rfl
  · rfl
  · go_simp
  · intro wx hx
    have e0 := hx.cells y0 k0
    have e1 := hx.cells y1 k1
    unfold atG
    go_simp
    simp only [uponG]
    exact ⟨by trivial, T0.out wx⟩
  apply v_other
  · simp only [List.getElem?_toArray, List.getElem?_cons_zero, List.getElem?_cons_succ]; exact rfl
  · rfl
  · rfl
  · go_simp
  · intro wx hx
    have e0 := hx.cells y0 k0
    have e1 := hx.cells y1 k1
    unfold atG
    go_simp
    simp only [uponG]
    exact ⟨by trivial, rfl⟩
  apply v_other
  · simp only [List.getElem?_toArray, List.getElem?_cons_zero, List.getElem?_cons_succ]; exact rfl
  · rfl
  · rfl
  · go_simp
  · intro wx hx
    have e0 := hx.cells y0 k0
    have e1 := hx.cells y1 k1
    unfold atG
    go_simp
    simp only [uponG]
    exact ⟨by trivial, T1.out wx⟩
  refine v_E (by simp only [List.getElem?_toArray, List.getElem?_cons_zero, List.getElem?_cons_succ]; exact rfl) rfl (by go_simp) (fun wx hx _ => ?_) ?_
  · go_simp
    simp only [uponE]
    exact ⟨by trivial, (C1.out wx).mono fun e w' ⟨u, h1, h2, h3⟩ => ⟨_, h1, h2, u, rfl, h3⟩⟩
  rintro vq ⟨_, _, _, u1, rfl, _⟩
  apply v_other
  · simp only [List.getElem?_toArray, List.getElem?_cons_zero, List.getElem?_cons_succ]; exact rfl
  · rfl
  · rfl
  · go_simp
  · intro wx hx
    unfold atG
    go_simp
    simp only [uponG]
    exact ⟨by trivial, rfl⟩
  apply v_other
  · simp only [List.getElem?_toArray, List.getElem?_cons_zero, List.getElem?_cons_succ]; exact rfl
  · rfl
  · rfl
  · go_simp
  · intro wx hx
    unfold atG
    go_simp
    simp only [uponG]
    exact ⟨by trivial, rfl⟩
  apply v_other
  · simp only [List.getElem?_toArray, List.getElem?_cons_zero, List.getElem?_cons_succ]; exact rfl
  · rfl
  · rfl
  · go_simp
  · intro wx hx
    unfold atG
    go_simp
    simp only [uponG]
    exact ⟨by trivial, rfl⟩
  apply v_other
  · simp only [List.getElem?_toArray, List.getElem?_cons_zero, List.getElem?_cons_succ]; exact rfl
  · rfl
  · rfl
  · go_simp
  · intro wx hx
    unfold atG
    go_simp
    simp only [uponG]
    exact ⟨by trivial, rfl⟩
  apply v_other
  · simp only [List.getElem?_toArray, List.getElem?_cons_zero, List.getElem?_cons_succ]; exact rfl
  · rfl
  · rfl
  · go_simp
  · intro wx hx
    unfold atG
    go_simp
    simp only [uponG]
    exact ⟨by trivial, rfl⟩
  rintro w2 hx ⟨m0, m1, _, k1', k2', ⟨ux, ex, o1⟩, k3'⟩
  injection ex with ex
  have hux : u1 = ux := by
    have := congrArg (fun a : Array Value => a[0]?) ex
    simpa using this
  subst hux
  clear ex
  obtain ⟨A1, c1, vs1, rfl, p1⟩ := own2_form o1
  clear o1
  have q1 := p1.below k3' (Nat.le_refl _)
  have s1a := k1'.size
  have s1b := (k2'.trans k3').size
  have O1 := hide q1; clear p1 q1 k1' k2' k3'
  generalize m0.heap.size = B1 at *
  have O02 := hide (O0.out.below hx (Nat.le_refl _))
  have G2 := hx
  clear hx
  go_wp2_with fail
  refine (eqInt64SS_same L A1 A0 c1 c0 _ _ vs1 vs0 (by omega) (by omega) _ O1.out O02.out).mono ?_
  rintro e w3 ⟨rfl, h3⟩
  have s3 := h3.size
  have O03 := hide (O02.out.below h3 (Nat.le_refl _))
  have O13 := hide (O1.out.below h3 (Nat.le_refl _))
  have G3 : Grown w1 w3 := Below.trans G2 (h3.mono G2.size)
  clear h3 G2
  go_wp2_with fail
  refine (mark1 L A1 c1 _ vs1 (by omega) (by omega) _ (by omega) O13.out).mono ?_
  rintro e w4 ⟨rfl, h4, s4, o14⟩
  have O14 := hide o14; clear o14
  have O04 := hide (O03.out.lower h4 (fun k hk => by have := O0.out.lt.1 k hk; omega) (fun i u hu k hk => by have := O0.out.lt.2 i u hu k hk; omega))
  have G4 : Grown w1 w4 := Below.trans G3 (h4.mono (by omega))
  clear h4 G3
  go_wp2_with fail
  refine (held1 L A1 c1 _ vs1 (by omega) (by omega) _ O14.out).mono ?_
  rintro e w5 ⟨rfl, h5⟩
  have O15 := hide (O14.out.below h5 (Nat.le_refl _))
  have O05 := hide (O04.out.below h5 (Nat.le_refl _))
  have G5 : Grown w1 w5 := Below.trans G4 (h5.mono G4.size)
  clear h5 G4
  have z0 := G5.cells y0 k0
  have l0 := Nat.lt_of_lt_of_le k0 G5.size
  have z1 := G5.cells y1 k1
  have l1 := Nat.lt_of_lt_of_le k1 G5.size
  clear y0 k0 y1 k1
  have y0 := z0; have k0 := l0
  clear z0 l0
  have y1 := z1; have k1 := l1
  clear z1 l1
  go_wp2_with fail
  refine region_V (w := w5) (fun k => if k = 4 then some (fun w v w' => ∃ u, v = .tuple #[u, .int .i64 c] ∧ Own2 w.heap.size w' u L) else none) (fun _ => false) [4] (.q 0 <| .q 1 <| .q 2 <| .q 3 <| .s1 4 <| .q 5 <| .q 6 <| .q 7 <| .q 8 <| .q 9 .fin) (by kernel_rfl) (by kernel_rfl) (by kernel_rfl) (fun k hk => ?_) ?_
  · simp at hk; simp [hk]
  apply v_other
  · simp only [List.getElem?_toArray, List.getElem?_cons_zero, List.getElem?_cons_succ]; exact rfl
  · rfl
  · rfl
  · go_simp
  · intro wx hx
    have e0 := hx.cells y0 k0
    have e1 := hx.cells y1 k1
    unfold atG
    go_simp
    simp only [uponG]
    exact ⟨by trivial, rfl⟩
  apply v_other
  · simp only [List.getElem?_toArray, List.getElem?_cons_zero, List.getElem?_cons_succ]; exact rfl
  · rfl
  · rfl
  · go_simp
  · intro wx hx
    have e0 := hx.cells y0 k0
    have e1 := hx.cells y1 k1
    unfold atG
    go_simp
    simp only [uponG]
    exact ⟨by trivial, T0.out wx⟩
  apply v_other
  · simp only [List.getElem?_toArray, List.getElem?_cons_zero, List.getElem?_cons_succ]; exact rfl
  · rfl
  · rfl
  · go_simp
  · intro wx hx
    have e0 := hx.cells y0 k0
    have e1 := hx.cells y1 k1
    unfold atG
    go_simp
    simp only [uponG]
    exact ⟨by trivial, rfl⟩
  apply v_other
  · simp only [List.getElem?_toArray, List.getElem?_cons_zero, List.getElem?_cons_succ]; exact rfl
  · rfl
  · rfl
  · go_simp
  · intro wx hx
    have e0 := hx.cells y0 k0
    have e1 := hx.cells y1 k1
    unfold atG
    go_simp
    simp only [uponG]
    exact ⟨by trivial, T1.out wx⟩
  refine v_E (by simp only [List.getElem?_toArray, List.getElem?_cons_zero, List.getElem?_cons_succ]; exact rfl) rfl (by go_simp) (fun wx hx _ => ?_) ?_
  · go_simp
    simp only [uponE]
    exact ⟨by trivial, (C1.out wx).mono fun e w' ⟨u, h1, h2, h3⟩ => ⟨_, h1, h2, u, rfl, h3⟩⟩
  rintro vq ⟨_, _, _, u2, rfl, _⟩
  apply v_other
  · simp only [List.getElem?_toArray, List.getElem?_cons_zero, List.getElem?_cons_succ]; exact rfl
  · rfl
  · rfl
  · go_simp
  · intro wx hx
    unfold atG
    go_simp
    simp only [uponG]
    exact ⟨by trivial, rfl⟩
  apply v_other
  · simp only [List.getElem?_toArray, List.getElem?_cons_zero, List.getElem?_cons_succ]; exact rfl
  · rfl
  · rfl
  · go_simp
  · intro wx hx
    unfold atG
    go_simp
    simp only [uponG]
    exact ⟨by trivial, rfl⟩
  apply v_other
  · simp only [List.getElem?_toArray, List.getElem?_cons_zero, List.getElem?_cons_succ]; exact rfl
  · rfl
  · rfl
  · go_simp
  · intro wx hx
    unfold atG
    go_simp
    simp only [uponG]
    exact ⟨by trivial, rfl⟩
  apply v_other
  · simp only [List.getElem?_toArray, List.getElem?_cons_zero, List.getElem?_cons_succ]; exact rfl
  · rfl
  · rfl
  · go_simp
  · intro wx hx
    unfold atG
    go_simp
    simp only [uponG]
    exact ⟨by trivial, rfl⟩
  apply v_other
  · simp only [List.getElem?_toArray, List.getElem?_cons_zero, List.getElem?_cons_succ]; exact rfl
  · rfl
  · rfl
  · go_simp
  · intro wx hx
    unfold atG
    go_simp
    simp only [uponG]
    exact ⟨by trivial, rfl⟩
  rintro w6 hx ⟨m0, m1, _, k1', k2', ⟨ux, ex, o2⟩, k3'⟩
  injection ex with ex
  have hux : u2 = ux := by
    have := congrArg (fun a : Array Value => a[0]?) ex
    simpa using this
  subst hux
  clear ex
  obtain ⟨A2, c2, vs2, rfl, p2⟩ := own2_form o2
  clear o2
  have q2 := p2.below k3' (Nat.le_refl _)
  have s2a := k1'.size
  have s2b := (k2'.trans k3').size
  have O2 := hide q2; clear p2 q2 k1' k2' k3'
  generalize m0.heap.size = B2 at *
  have O06 := hide (O05.out.below hx (Nat.le_refl _))
  have O16 := hide (O15.out.below hx (Nat.le_refl _))
  have G6 : Grown w1 w6 := Below.trans G5 (Below.mono hx G5.size)
  clear hx G5
  go_wp2_with fail
  refine (eqInt64SS_same L A2 A0 c2 c0 _ _ vs2 vs0 (by omega) (by omega) _ O2.out O06.out).mono ?_
  rintro e w7 ⟨rfl, h7⟩
  have O17 := hide (O16.out.below h7 (Nat.le_refl _))
  have G7 : Grown w1 w7 := Below.trans G6 (h7.mono G6.size)
  clear h7 G6
  go_wp2_with fail
  refine (held1 L A1 c1 _ vs1 (by omega) (by omega) _ O17.out).mono ?_
  rintro e w8 ⟨rfl, h8⟩
  have b8 := b1.trans ((Below.trans G7 (h8.mono G7.size)).mono b1.size)
  clear h8 G7
  go_wp2
  go_ret
  exact ⟨rfl, b8⟩
end Go.Proofs.Ytjhpkibeddnbfaa
