/- ProductAt of the program and of the model; the walk of FnExactProductAt -/
import Derived.Test.YtjhpkibeddnbfaaProd
import Derived.Test.YtjhpkibeddnbfaaSPr
import Derived.Test.YtjhpkibeddnbfaaNamOf
import Derived.Test.YtjhpkibeddnbfaaEqDs
namespace Go.Proofs.Ytjhpkibeddnbfaa
open Go.RowKit

noncomputable def prL (f g f' g' : Nat → Nat) (x y : Nat) : List Nat := (bfs (bF f f') (bF g g') (16 * x + y) 256).1
theorem prL_inv {f g f' g' : Nat → Nat} {m n : Nat} (hd : DesN f g m) (he : DesN f' g' n) {x y : Nat} (hx : x < 16) (hy : y < 16) :
    (prL f g f' g' x y).Nodup ∧ (∀ z ∈ prL f g f' g' x y, z < 256) ∧ (∀ z ∈ prL f g f' g' x y, bF f f' z ∈ prL f g f' g' x y ∧ bF g g' z ∈ prL f g f' g' x y) ∧ (prL f g f' g' x y).length ≤ 256 := by
  have hB := fun z hz => bF_lt hd.black he.black z hz
  have hW := fun z hz => bF_lt hd.white he.white z hz
  have hI := bfs_inv hB hW (show 16 * x + y < 256 by omega) 256
  exact ⟨hI.nodup, hI.lt, fun z hz => bfs_clos hB hW (by omega) (Nat.le_refl _) hz, hI.length_le⟩
theorem inD_any (n a b : Int) (w : World) : Calls Try.prog 54 #[.int .i64 n, .int .i64 a, .int .i64 b] w fun e w' => e = .returned (.bool (decide (a ≤ n ∧ n ≤ b))) ∧ w = w' := by
  by_cases h : a ≤ n ∧ n ≤ b
  · rw [decide_eq_true h]; exact in_yes n a b w h.1 h.2
  · rw [decide_eq_false h]; exact in_no n a b w h
open Classical in
noncomputable def proR (n : Int) (f g : Nat → Nat) (n' : Int) (f' g' : Nat → Nat) (x y : Int) : Value :=
  if desB n f g = true ∧ desB n' f' g' = true then
    if (0 ≤ x ∧ x < n) ∧ (0 ≤ y ∧ y < n') then
      if (prL f g f' g' x.toNat y.toNat).length ≤ 16 then .tuple #[.agg (dv (prL f g f' g' x.toNat y.toNat).length (upto (idxF (prL f g f' g' x.toNat y.toNat) (bF f f')) (prL f g f' g' x.toNat y.toNat).length) (upto (idxF (prL f g f' g' x.toNat y.toNat) (bF g g')) (prL f g f' g' x.toNat y.toNat).length)), .int .i64 0]
      else .tuple #[.agg (dv 0 (fun _ => 0) (fun _ => 0)), .int .i64 3]
    else .tuple #[.agg (dv 0 (fun _ => 0) (fun _ => 0)), .int .i64 2]
  else .tuple #[.agg (dv 0 (fun _ => 0) (fun _ => 0)), .int .i64 1]
theorem proR_eq (n : Int) (f g : Nat → Nat) (n' : Int) (f' g' : Nat → Nat) (x y : Int) : ∃ (a : Int) (r s : Nat → Nat) (c : Int), proR n f g n' f' g' x y = .tuple #[.agg (dv a r s), .int .i64 c] := by
  unfold proR
  split
  · split
    · split
      · exact ⟨_, _, _, _, rfl⟩
      · exact ⟨_, _, _, _, rfl⟩
    · exact ⟨_, _, _, _, rfl⟩
  · exact ⟨_, _, _, _, rfl⟩

set_option maxRecDepth 100000 in
set_option maxHeartbeats 1000000 in
theorem sBoth_any (n : Int) (f g : Nat → Nat) (hf : ∀ i, f i < 256) (hg : ∀ i, g i < 256) (n' : Int) (f' g' : Nat → Nat) (hf' : ∀ i, f' i < 256) (hg' : ∀ i, g' i < 256) (w : World) :
    Calls Try.prog 44 #[.agg (dv n f g), .agg (dv n' f' g')] w fun e w' => e = .returned (.int .i64 (if desB n f g = true ∧ desB n' f' g' = true then 0 else 1)) ∧ Below w.heap.size w w' := by
  have C1 := hide fun w => sIs_any n f g hf hg w
  have C2 := hide fun w => sIs_any n' f' g' hf' hg' w
  clear hf hg hf' hg'
  have HH0 := ((Holds.start w).blk (dv n f g) 30 w.heap.size rfl).blk (dv n' f' g') 30 (w.heap.size + 1) (by simp)
  rcases h1 : desB n f g with _ | _
  · rw [h1] at C1
    rw [if_neg (by simp)]
    go_enter Try.func44, Try.ntmps44
    go_wp2_with fail
    refine (C1.out _).mono ?_
    rintro e w1 ⟨rfl, hb⟩
    have HH1 := HH0.call hb
    go_wp2
    go_ret
    exact ⟨rfl, HH1.low⟩
  · rw [h1] at C1
    have hi : (if true = true ∧ desB n' f' g' = true then (0 : Int) else 1) = if desB n' f' g' = true then 0 else 1 := by simp
    rw [hi]
    clear hi
    rcases h2 : desB n' f' g' with _ | _
    all_goals
      rw [h2] at C2
      first | rw [if_pos rfl] | rw [if_neg (by simp)]
      go_enter Try.func44, Try.ntmps44
      go_wp2_with fail
      refine (C1.out _).mono ?_
      rintro e w1 ⟨rfl, hb⟩
      have HH1 := HH0.call hb
      have cd := HH1.cells 0 rfl
      clear hb
      go_wp2_with fail
      refine (C2.out _).mono ?_
      rintro e w2 ⟨rfl, hb⟩
      have HH2 := HH1.call hb
      go_wp2
      go_ret
      exact ⟨rfl, HH2.low⟩

set_option maxRecDepth 100000 in
set_option maxHeartbeats 4000000 in
theorem productAt_any (n : Int) (f g : Nat → Nat) (hf : ∀ i, f i < 256) (hg : ∀ i, g i < 256) (n' : Int) (f' g' : Nat → Nat) (hf' : ∀ i, f' i < 256) (hg' : ∀ i, g' i < 256) (x y : Int) (w : World) :
    Calls Try.prog 29 #[.agg (dv n f g), .agg (dv n' f' g'), .int .i64 x, .int .i64 y] w fun e w' => e = .returned (proR n f g n' f' g' x y) ∧ Below w.heap.size w w' := by
  have C1 := hide fun w => isDessin_any n f g hf hg w
  have C2 := hide fun w => isDessin_any n' f' g' hf' hg' w
  clear hf hg hf' hg'
  have HH0 := (((Holds.start w).blk (dv n f g) 30 w.heap.size rfl).blk (dv n' f' g') 30 (w.heap.size + 1) (by simp)).blk (dv 0 (fun _ => 0) (fun _ => 0)) 30 (w.heap.size + 1 + 1) (by simp)
  have hn := dv_n n f g
  have hm' := dv_n n' f' g'
  rcases h1 : desB n f g with _ | _
  · rw [h1] at C1
    have hr : proR n f g n' f' g' x y = (.tuple #[.agg (dv 0 (fun _ => 0) (fun _ => 0)), .int .i64 1]) := by unfold proR; rw [if_neg (by simp [h1])]
    rw [hr]
    clear h1 hr
    go_enter Try.func29, Try.ntmps29
    go_wp2_with fail
    try rw [← dv_zero]
    refine (C1.out _).mono ?_
    rintro e w1 ⟨rfl, hb1⟩
    have HH1 := HH0.call hb1
    clear hb1 HH0
    have cd1 := HH1.cells 2 rfl
    have ce1 := HH1.cells 1 rfl
    have cn1 := HH1.cell 2 rfl hn
    have cm1 := HH1.cell 1 rfl hm'
    have rr1 := HH1.rowOk 0 rfl (dv_size _ _ _)
    go_wp2
    try rw [← dv_zero]
    exact res_agg2 (p := 8) (t := 9) (g := (w.heap.size + 1 + 1)) (v := .int .i64 1) aggD (dv_size _ _ _) rfl rfl rfl rfl ((HH1.setRow 0 rfl (dv 0 (fun _ => 0) (fun _ => 0))).at 0 rfl) ⟨rfl, (HH1.setRow 0 rfl (dv 0 (fun _ => 0) (fun _ => 0))).low⟩
  rw [h1] at C1
  rcases h2 : desB n' f' g' with _ | _
  · rw [h2] at C2
    have hr : proR n f g n' f' g' x y = (.tuple #[.agg (dv 0 (fun _ => 0) (fun _ => 0)), .int .i64 1]) := by unfold proR; rw [if_neg (by simp [h2])]
    rw [hr]
    clear h1 h2 hr
    go_enter Try.func29, Try.ntmps29
    go_wp2_with fail
    try rw [← dv_zero]
    refine (C1.out _).mono ?_
    rintro e w1 ⟨rfl, hb1⟩
    have HH1 := HH0.call hb1
    clear hb1 HH0
    have cd1 := HH1.cells 2 rfl
    have ce1 := HH1.cells 1 rfl
    have cn1 := HH1.cell 2 rfl hn
    have cm1 := HH1.cell 1 rfl hm'
    have rr1 := HH1.rowOk 0 rfl (dv_size _ _ _)
    go_wp2_with fail
    refine (C2.out _).mono ?_
    rintro e w2 ⟨rfl, hb2⟩
    have HH2 := HH1.call hb2
    clear hb2 cd1 ce1 cn1 cm1 rr1 HH1
    have cd2 := HH2.cells 2 rfl
    have ce2 := HH2.cells 1 rfl
    have cn2 := HH2.cell 2 rfl hn
    have cm2 := HH2.cell 1 rfl hm'
    have rr2 := HH2.rowOk 0 rfl (dv_size _ _ _)
    go_wp2
    try rw [← dv_zero]
    exact res_agg2 (p := 8) (t := 9) (g := (w.heap.size + 1 + 1)) (v := .int .i64 1) aggD (dv_size _ _ _) rfl rfl rfl rfl ((HH2.setRow 0 rfl (dv 0 (fun _ => 0) (fun _ => 0))).at 0 rfl) ⟨rfl, (HH2.setRow 0 rfl (dv 0 (fun _ => 0) (fun _ => 0))).low⟩
  rw [h2] at C2
  have hdd := And.intro h1 h2
  obtain ⟨m, rfl, hd⟩ := desB_true h1
  obtain ⟨k, rfl, he⟩ := desB_true h2
  have hm := hd.le
  have hk := he.le
  have C3 := hide fun w => isDart_any m f g x w
  have C4 := hide fun w => isDart_any k f' g' y w
  by_cases hx : 0 ≤ x ∧ x < (m : Int)
  rotate_left
  · rw [decide_eq_false hx] at C3
    have hr : proR m f g k f' g' x y = (.tuple #[.agg (dv 0 (fun _ => 0) (fun _ => 0)), .int .i64 2]) := by unfold proR; rw [if_pos hdd, if_neg (fun h => hx h.1)]
    rw [hr]
    clear hr hx hdd h1 h2 hd he
    go_enter Try.func29, Try.ntmps29
    go_wp2_with fail
    try rw [← dv_zero]
    refine (C1.out _).mono ?_
    rintro e w1 ⟨rfl, hb1⟩
    have HH1 := HH0.call hb1
    clear hb1 HH0
    have cd1 := HH1.cells 2 rfl
    have ce1 := HH1.cells 1 rfl
    have cn1 := HH1.cell 2 rfl hn
    have cm1 := HH1.cell 1 rfl hm'
    have rr1 := HH1.rowOk 0 rfl (dv_size _ _ _)
    go_wp2_with fail
    refine (C2.out _).mono ?_
    rintro e w2 ⟨rfl, hb2⟩
    have HH2 := HH1.call hb2
    clear hb2 cd1 ce1 cn1 cm1 rr1 HH1
    have cd2 := HH2.cells 2 rfl
    have ce2 := HH2.cells 1 rfl
    have cn2 := HH2.cell 2 rfl hn
    have cm2 := HH2.cell 1 rfl hm'
    have rr2 := HH2.rowOk 0 rfl (dv_size _ _ _)
    go_wp2_with fail
    refine (C3.out _).mono ?_
    rintro e w3 ⟨rfl, hb3⟩
    have HH3 := HH2.call hb3
    clear hb3 cd2 ce2 cn2 cm2 rr2 HH2
    have cd3 := HH3.cells 2 rfl
    have ce3 := HH3.cells 1 rfl
    have cn3 := HH3.cell 2 rfl hn
    have cm3 := HH3.cell 1 rfl hm'
    have rr3 := HH3.rowOk 0 rfl (dv_size _ _ _)
    go_wp2
    try rw [← dv_zero]
    exact res_agg2 (p := 8) (t := 9) (g := (w.heap.size + 1 + 1)) (v := .int .i64 2) aggD (dv_size _ _ _) rfl rfl rfl rfl ((HH3.setRow 0 rfl (dv 0 (fun _ => 0) (fun _ => 0))).at 0 rfl) ⟨rfl, (HH3.setRow 0 rfl (dv 0 (fun _ => 0) (fun _ => 0))).low⟩
  rw [decide_eq_true hx] at C3
  by_cases hy : 0 ≤ y ∧ y < (k : Int)
  rotate_left
  · rw [decide_eq_false hy] at C4
    have hr : proR m f g k f' g' x y = (.tuple #[.agg (dv 0 (fun _ => 0) (fun _ => 0)), .int .i64 2]) := by unfold proR; rw [if_pos hdd, if_neg (fun h => hy h.2)]
    rw [hr]
    clear hr hx hy hdd h1 h2 hd he
    go_enter Try.func29, Try.ntmps29
    go_wp2_with fail
    try rw [← dv_zero]
    refine (C1.out _).mono ?_
    rintro e w1 ⟨rfl, hb1⟩
    have HH1 := HH0.call hb1
    clear hb1 HH0
    have cd1 := HH1.cells 2 rfl
    have ce1 := HH1.cells 1 rfl
    have cn1 := HH1.cell 2 rfl hn
    have cm1 := HH1.cell 1 rfl hm'
    have rr1 := HH1.rowOk 0 rfl (dv_size _ _ _)
    go_wp2_with fail
    refine (C2.out _).mono ?_
    rintro e w2 ⟨rfl, hb2⟩
    have HH2 := HH1.call hb2
    clear hb2 cd1 ce1 cn1 cm1 rr1 HH1
    have cd2 := HH2.cells 2 rfl
    have ce2 := HH2.cells 1 rfl
    have cn2 := HH2.cell 2 rfl hn
    have cm2 := HH2.cell 1 rfl hm'
    have rr2 := HH2.rowOk 0 rfl (dv_size _ _ _)
    go_wp2_with fail
    refine (C3.out _).mono ?_
    rintro e w3 ⟨rfl, hb3⟩
    have HH3 := HH2.call hb3
    clear hb3 cd2 ce2 cn2 cm2 rr2 HH2
    have cd3 := HH3.cells 2 rfl
    have ce3 := HH3.cells 1 rfl
    have cn3 := HH3.cell 2 rfl hn
    have cm3 := HH3.cell 1 rfl hm'
    have rr3 := HH3.rowOk 0 rfl (dv_size _ _ _)
    go_wp2_with fail
    refine (C4.out _).mono ?_
    rintro e w4 ⟨rfl, hb4⟩
    have HH4 := HH3.call hb4
    clear hb4 cd3 ce3 cn3 cm3 rr3 HH3
    have cd4 := HH4.cells 2 rfl
    have ce4 := HH4.cells 1 rfl
    have cn4 := HH4.cell 2 rfl hn
    have cm4 := HH4.cell 1 rfl hm'
    have rr4 := HH4.rowOk 0 rfl (dv_size _ _ _)
    go_wp2
    try rw [← dv_zero]
    exact res_agg2 (p := 8) (t := 9) (g := (w.heap.size + 1 + 1)) (v := .int .i64 2) aggD (dv_size _ _ _) rfl rfl rfl rfl ((HH4.setRow 0 rfl (dv 0 (fun _ => 0) (fun _ => 0))).at 0 rfl) ⟨rfl, (HH4.setRow 0 rfl (dv 0 (fun _ => 0) (fun _ => 0))).low⟩
  rw [decide_eq_true hy] at C4
  have hxy := And.intro hx hy
  obtain ⟨a, rfl⟩ := Int.eq_ofNat_of_zero_le hx.1
  obtain ⟨b, rfl⟩ := Int.eq_ofNat_of_zero_le hy.1
  have ha : a < m := by omega
  have hb : b < k := by omega
  have ha' : (a : Int) < 16 := by omega
  have hb' : (b : Int) < 16 := by omega
  have C5 := hide fun (w : World) => pairsFrom_any f g f' g' m k hd he a b (by omega) (by omega) w
  have hL := prL_inv hd he (x := a) (y := b) (by omega) (by omega)
  change Hid (∀ w : World, Calls Try.prog _ _ w fun e w' => ∃ v, e = .returned v ∧ Below w.heap.size w w' ∧ w'.ownsRow w.heap.size 68 2 v (prL f g f' g' a b).length (pairB (dec (prL f g f' g' a b)))) at C5
  by_cases hlen : (prL f g f' g' a b).length ≤ 16
  rotate_left
  · have hr : proR m f g k f' g' a b = (.tuple #[.agg (dv 0 (fun _ => 0) (fun _ => 0)), .int .i64 3]) := by unfold proR; rw [if_pos hdd, if_pos hxy, if_neg (by simpa only [Int.toNat_natCast] using hlen)]
    rw [hr]
    clear hr hx hy hdd h1 h2 hd he hxy ha hb
    obtain ⟨L, hLe⟩ : ∃ L, L = prL f g f' g' a b := ⟨_, rfl⟩
    rw [← hLe] at C5 hL hlen
    clear hLe
    have hgt : decide (((L.length : Nat) : Int) > 16) = true := decide_eq_true (by omega)
    go_enter Try.func29, Try.ntmps29
    go_wp2_with fail
    try rw [← dv_zero]
    refine (C1.out _).mono ?_
    rintro e w1 ⟨rfl, hb1⟩
    have HH1 := HH0.call hb1
    clear hb1 HH0
    have cd1 := HH1.cells 2 rfl
    have ce1 := HH1.cells 1 rfl
    have cn1 := HH1.cell 2 rfl hn
    have cm1 := HH1.cell 1 rfl hm'
    have rr1 := HH1.rowOk 0 rfl (dv_size _ _ _)
    go_wp2_with fail
    refine (C2.out _).mono ?_
    rintro e w2 ⟨rfl, hb2⟩
    have HH2 := HH1.call hb2
    clear hb2 cd1 ce1 cn1 cm1 rr1 HH1
    have cd2 := HH2.cells 2 rfl
    have ce2 := HH2.cells 1 rfl
    have cn2 := HH2.cell 2 rfl hn
    have cm2 := HH2.cell 1 rfl hm'
    have rr2 := HH2.rowOk 0 rfl (dv_size _ _ _)
    go_wp2_with fail
    refine (C3.out _).mono ?_
    rintro e w3 ⟨rfl, hb3⟩
    have HH3 := HH2.call hb3
    clear hb3 cd2 ce2 cn2 cm2 rr2 HH2
    have cd3 := HH3.cells 2 rfl
    have ce3 := HH3.cells 1 rfl
    have cn3 := HH3.cell 2 rfl hn
    have cm3 := HH3.cell 1 rfl hm'
    have rr3 := HH3.rowOk 0 rfl (dv_size _ _ _)
    go_wp2_with fail
    refine (C4.out _).mono ?_
    rintro e w4 ⟨rfl, hb4⟩
    have HH4 := HH3.call hb4
    clear hb4 cd3 ce3 cn3 cm3 rr3 HH3
    have cd4 := HH4.cells 2 rfl
    have ce4 := HH4.cells 1 rfl
    have cn4 := HH4.cell 2 rfl hn
    have cm4 := HH4.cell 1 rfl hm'
    have rr4 := HH4.rowOk 0 rfl (dv_size _ _ _)
    go_wp2_with fail
    refine (C5.out _).mono ?_
    rintro e w5 ⟨v, rfl, hb5, ho5⟩
    have HH5 := HH4.newRow hb5 ho5
    clear hb5 ho5 cd4 ce4 cn4 cm4 rr4 HH4
    have cd5 := HH5.cells 3 rfl
    have ce5 := HH5.cells 2 rfl
    have cn5 := HH5.cell 3 rfl hn
    have cm5 := HH5.cell 2 rfl hm'
    have rr5 := HH5.rowOk 1 rfl (dv_size _ _ _)
    obtain ⟨A, c, rfl⟩ := own_slice (HH5.row 0 rfl)
    go_wp2
    try rw [← dv_zero]
    exact res_agg2 (p := 8) (t := 9) (g := (w.heap.size + 1 + 1)) (v := .int .i64 3) aggD (dv_size _ _ _) rfl rfl rfl rfl ((HH5.setRow 1 rfl (dv 0 (fun _ => 0) (fun _ => 0))).at 1 rfl) ⟨rfl, (HH5.setRow 1 rfl (dv 0 (fun _ => 0) (fun _ => 0))).low⟩
  have hr : proR m f g k f' g' a b = .tuple #[.agg (dv (prL f g f' g' a b).length (upto (idxF (prL f g f' g' a b) (bF f f')) (prL f g f' g' a b).length) (upto (idxF (prL f g f' g' a b) (bF g g')) (prL f g f' g' a b).length)), .int .i64 0] := by
    unfold proR; rw [if_pos hdd, if_pos hxy]; simp only [Int.toNat_natCast]; rw [if_pos hlen]
  rw [hr]
  clear hr hx hy hdd h1 h2 hxy ha hb
  have C6 := hide fun (v : Value) (w : World) hv => product_any f g f' g' m k hd he (prL f g f' g' a b) hlen hL.1 hL.2.1 hL.2.2.1 v w hv
  generalize hLL : prL f g f' g' a b = L at *
  generalize upto (idxF L (bF f f')) L.length = U at *
  generalize upto (idxF L (bF g g')) L.length = V at *
  clear hLL hd he
  have hgt : decide (((L.length : Nat) : Int) > 16) = false := decide_eq_false (by omega)
  go_enter Try.func29, Try.ntmps29
  go_wp2_with fail
  try rw [← dv_zero]
  refine (C1.out _).mono ?_
  rintro e w1 ⟨rfl, hb1⟩
  have HH1 := HH0.call hb1
  clear hb1 HH0
  have cd1 := HH1.cells 2 rfl
  have ce1 := HH1.cells 1 rfl
  have cn1 := HH1.cell 2 rfl hn
  have cm1 := HH1.cell 1 rfl hm'
  have rr1 := HH1.rowOk 0 rfl (dv_size _ _ _)
  go_wp2_with fail
  refine (C2.out _).mono ?_
  rintro e w2 ⟨rfl, hb2⟩
  have HH2 := HH1.call hb2
  clear hb2 cd1 ce1 cn1 cm1 rr1 HH1
  have cd2 := HH2.cells 2 rfl
  have ce2 := HH2.cells 1 rfl
  have cn2 := HH2.cell 2 rfl hn
  have cm2 := HH2.cell 1 rfl hm'
  have rr2 := HH2.rowOk 0 rfl (dv_size _ _ _)
  go_wp2_with fail
  refine (C3.out _).mono ?_
  rintro e w3 ⟨rfl, hb3⟩
  have HH3 := HH2.call hb3
  clear hb3 cd2 ce2 cn2 cm2 rr2 HH2
  have cd3 := HH3.cells 2 rfl
  have ce3 := HH3.cells 1 rfl
  have cn3 := HH3.cell 2 rfl hn
  have cm3 := HH3.cell 1 rfl hm'
  have rr3 := HH3.rowOk 0 rfl (dv_size _ _ _)
  go_wp2_with fail
  refine (C4.out _).mono ?_
  rintro e w4 ⟨rfl, hb4⟩
  have HH4 := HH3.call hb4
  clear hb4 cd3 ce3 cn3 cm3 rr3 HH3
  have cd4 := HH4.cells 2 rfl
  have ce4 := HH4.cells 1 rfl
  have cn4 := HH4.cell 2 rfl hn
  have cm4 := HH4.cell 1 rfl hm'
  have rr4 := HH4.rowOk 0 rfl (dv_size _ _ _)
  go_wp2_with fail
  refine (C5.out _).mono ?_
  rintro e w5 ⟨v, rfl, hb5, ho5⟩
  have HH5 := HH4.newRow hb5 ho5
  clear hb5 ho5 cd4 ce4 cn4 cm4 rr4 HH4
  have cd5 := HH5.cells 3 rfl
  have ce5 := HH5.cells 2 rfl
  have cn5 := HH5.cell 3 rfl hn
  have cm5 := HH5.cell 2 rfl hm'
  have rr5 := HH5.rowOk 1 rfl (dv_size _ _ _)
  have hv : RdP w5 v (dec L) := by
    have := row_low (HH5.row 0 rfl) (Nat.zero_le _)
    unfold RdP; rw [dec_length]; exact this
  obtain ⟨A, c, rfl⟩ := own_slice (HH5.row 0 rfl)
  have HV := hide hv; clear hv
  go_wp2_with fail
  refine (C6.out _ _ HV.out).mono ?_
  rintro e w6 ⟨rfl, hb6⟩
  have HH6 := HH5.call hb6
  clear hb6 cd5 ce5 cn5 cm5 rr5 HH5
  have cd6 := HH6.cells 3 rfl
  have ce6 := HH6.cells 2 rfl
  have cn6 := HH6.cell 3 rfl hn
  have cm6 := HH6.cell 2 rfl hm'
  have rr6 := HH6.rowOk 1 rfl (dv_size _ _ _)
  go_wp2
  try rw [← dv_zero]
  exact res_agg2 (p := 8) (t := 9) (g := (w.heap.size + 1 + 1)) (v := .int .i64 0) aggD (dv_size _ _ _) rfl rfl rfl rfl ((HH6.setRow 1 rfl (dv L.length U V)).at 1 rfl) ⟨rfl, (HH6.setRow 1 rfl (dv L.length U V)).low⟩

set_option maxRecDepth 100000 in
set_option maxHeartbeats 4000000 in
theorem sProductAt_any (n : Int) (f g : Nat → Nat) (hf : ∀ i, f i < 256) (hg : ∀ i, g i < 256) (n' : Int) (f' g' : Nat → Nat) (hf' : ∀ i, f' i < 256) (hg' : ∀ i, g' i < 256) (x y : Int) (w : World) :
    Calls Try.prog 28 #[.agg (dv n f g), .agg (dv n' f' g'), .int .i64 x, .int .i64 y] w fun e w' => e = .returned (proR n f g n' f' g' x y) ∧ Below w.heap.size w w' := by
  have C1 := hide fun w => sBoth_any n f g hf hg n' f' g' hf' hg' w
  clear hf hg hf' hg'
  have HH0 := (((Holds.start w).blk (dv n f g) 30 w.heap.size rfl).blk (dv n' f' g') 30 (w.heap.size + 1) (by simp)).blk (dv 0 (fun _ => 0) (fun _ => 0)) 30 (w.heap.size + 1 + 1) (by simp)
  have hn := dv_n n f g
  have hm' := dv_n n' f' g'
  by_cases hde : desB n f g = true ∧ desB n' f' g' = true
  rotate_left
  · rw [if_neg hde] at C1
    have hr : proR n f g n' f' g' x y = (.tuple #[.agg (dv 0 (fun _ => 0) (fun _ => 0)), .int .i64 1]) := by unfold proR; rw [if_neg hde]
    rw [hr]
    clear hr hde
    go_enter Try.func28, Try.ntmps28
    go_wp2_with fail
    try rw [← dv_zero]
    refine (C1.out _).mono ?_
    rintro e w1 ⟨rfl, hb1⟩
    have HH1 := HH0.call hb1
    clear hb1 HH0
    have cd1 := HH1.cells 2 rfl
    have ce1 := HH1.cells 1 rfl
    have cn1 := HH1.cell 2 rfl hn
    have cm1 := HH1.cell 1 rfl hm'
    have rr1 := HH1.rowOk 0 rfl (dv_size _ _ _)
    go_wp2
    try rw [← dv_zero]
    exact res_agg2 (p := 8) (t := 9) (g := (w.heap.size + 1 + 1)) (v := .int .i64 1) aggD (dv_size _ _ _) rfl rfl rfl rfl ((HH1.setRow 0 rfl (dv 0 (fun _ => 0) (fun _ => 0))).at 0 rfl) ⟨rfl, (HH1.setRow 0 rfl (dv 0 (fun _ => 0) (fun _ => 0))).low⟩
  rw [if_pos hde] at C1
  obtain ⟨h1, h2⟩ := hde
  have hdd := And.intro h1 h2
  obtain ⟨m, rfl, hd⟩ := desB_true h1
  obtain ⟨k, rfl, he⟩ := desB_true h2
  have hm := hd.le
  have hk := he.le
  have C3 := hide fun w => inD_any x 0 ((m : Int) - 1) w
  have C4 := hide fun w => inD_any y 0 ((k : Int) - 1) w
  by_cases hx : 0 ≤ x ∧ x < (m : Int)
  rotate_left
  · rw [decide_eq_false (show ¬ (0 ≤ x ∧ x ≤ (m : Int) - 1) by omega)] at C3
    have hr : proR m f g k f' g' x y = (.tuple #[.agg (dv 0 (fun _ => 0) (fun _ => 0)), .int .i64 2]) := by unfold proR; rw [if_pos hdd, if_neg (fun h => hx h.1)]
    rw [hr]
    clear hr hx hdd h1 h2 hd he
    go_enter Try.func28, Try.ntmps28
    go_wp2_with fail
    try rw [← dv_zero]
    refine (C1.out _).mono ?_
    rintro e w1 ⟨rfl, hb1⟩
    have HH1 := HH0.call hb1
    clear hb1 HH0
    have cd1 := HH1.cells 2 rfl
    have ce1 := HH1.cells 1 rfl
    have cn1 := HH1.cell 2 rfl hn
    have cm1 := HH1.cell 1 rfl hm'
    have rr1 := HH1.rowOk 0 rfl (dv_size _ _ _)
    go_wp2_with fail
    refine (C3.out _).mono ?_
    rintro e w2 ⟨rfl, rfl⟩
    have HH2 := HH1
    clear cd1 ce1 cn1 cm1 rr1 HH1
    have cd2 := HH2.cells 2 rfl
    have ce2 := HH2.cells 1 rfl
    have cn2 := HH2.cell 2 rfl hn
    have cm2 := HH2.cell 1 rfl hm'
    have rr2 := HH2.rowOk 0 rfl (dv_size _ _ _)
    go_wp2
    try rw [← dv_zero]
    exact res_agg2 (p := 8) (t := 9) (g := (w.heap.size + 1 + 1)) (v := .int .i64 2) aggD (dv_size _ _ _) rfl rfl rfl rfl ((HH2.setRow 0 rfl (dv 0 (fun _ => 0) (fun _ => 0))).at 0 rfl) ⟨rfl, (HH2.setRow 0 rfl (dv 0 (fun _ => 0) (fun _ => 0))).low⟩
  rw [decide_eq_true (show 0 ≤ x ∧ x ≤ (m : Int) - 1 by omega)] at C3
  by_cases hy : 0 ≤ y ∧ y < (k : Int)
  rotate_left
  · rw [decide_eq_false (show ¬ (0 ≤ y ∧ y ≤ (k : Int) - 1) by omega)] at C4
    have hr : proR m f g k f' g' x y = (.tuple #[.agg (dv 0 (fun _ => 0) (fun _ => 0)), .int .i64 2]) := by unfold proR; rw [if_pos hdd, if_neg (fun h => hy h.2)]
    rw [hr]
    clear hr hx hy hdd h1 h2 hd he
    go_enter Try.func28, Try.ntmps28
    go_wp2_with fail
    try rw [← dv_zero]
    refine (C1.out _).mono ?_
    rintro e w1 ⟨rfl, hb1⟩
    have HH1 := HH0.call hb1
    clear hb1 HH0
    have cd1 := HH1.cells 2 rfl
    have ce1 := HH1.cells 1 rfl
    have cn1 := HH1.cell 2 rfl hn
    have cm1 := HH1.cell 1 rfl hm'
    have rr1 := HH1.rowOk 0 rfl (dv_size _ _ _)
    go_wp2_with fail
    refine (C3.out _).mono ?_
    rintro e w2 ⟨rfl, rfl⟩
    have HH2 := HH1
    clear cd1 ce1 cn1 cm1 rr1 HH1
    have cd2 := HH2.cells 2 rfl
    have ce2 := HH2.cells 1 rfl
    have cn2 := HH2.cell 2 rfl hn
    have cm2 := HH2.cell 1 rfl hm'
    have rr2 := HH2.rowOk 0 rfl (dv_size _ _ _)
    go_wp2_with fail
    refine (C4.out _).mono ?_
    rintro e w3 ⟨rfl, rfl⟩
    have HH3 := HH2
    clear cd2 ce2 cn2 cm2 rr2 HH2
    have cd3 := HH3.cells 2 rfl
    have ce3 := HH3.cells 1 rfl
    have cn3 := HH3.cell 2 rfl hn
    have cm3 := HH3.cell 1 rfl hm'
    have rr3 := HH3.rowOk 0 rfl (dv_size _ _ _)
    go_wp2
    try rw [← dv_zero]
    exact res_agg2 (p := 8) (t := 9) (g := (w.heap.size + 1 + 1)) (v := .int .i64 2) aggD (dv_size _ _ _) rfl rfl rfl rfl ((HH3.setRow 0 rfl (dv 0 (fun _ => 0) (fun _ => 0))).at 0 rfl) ⟨rfl, (HH3.setRow 0 rfl (dv 0 (fun _ => 0) (fun _ => 0))).low⟩
  rw [decide_eq_true (show 0 ≤ y ∧ y ≤ (k : Int) - 1 by omega)] at C4
  have hxy := And.intro hx hy
  obtain ⟨a, rfl⟩ := Int.eq_ofNat_of_zero_le hx.1
  obtain ⟨b, rfl⟩ := Int.eq_ofNat_of_zero_le hy.1
  have ha : a < m := by omega
  have hb : b < k := by omega
  have ha' : (a : Int) < 16 := by omega
  have hb' : (b : Int) < 16 := by omega
  have C5 := hide fun (w : World) => sPairs_any f g f' g' m k hd he a b (by omega) (by omega) w
  have hL := prL_inv hd he (x := a) (y := b) (by omega) (by omega)
  change Hid (∀ w : World, Calls Try.prog _ _ w fun e w' => ∃ v, e = .returned (.tuple #[v, .agg (nv (nmF (prL f g f' g' a b)))]) ∧ Below w.heap.size w w' ∧ w'.ownsRow w.heap.size 76 2 v (prL f g f' g' a b).length (pairB (dec (prL f g f' g' a b)))) at C5
  by_cases hlen : (prL f g f' g' a b).length ≤ 16
  rotate_left
  · have hr : proR m f g k f' g' a b = (.tuple #[.agg (dv 0 (fun _ => 0) (fun _ => 0)), .int .i64 3]) := by unfold proR; rw [if_pos hdd, if_pos hxy, if_neg (by simpa only [Int.toNat_natCast] using hlen)]
    rw [hr]
    clear hr hx hy hdd h1 h2 hd he hxy ha hb
    obtain ⟨L, hLe⟩ : ∃ L, L = prL f g f' g' a b := ⟨_, rfl⟩
    rw [← hLe] at C5 hL hlen
    clear hLe
    have hgt : decide (((L.length : Nat) : Int) > 16) = true := decide_eq_true (by omega)
    go_enter Try.func28, Try.ntmps28
    go_wp2_with fail
    try rw [← dv_zero]
    refine (C1.out _).mono ?_
    rintro e w1 ⟨rfl, hb1⟩
    have HH1 := HH0.call hb1
    clear hb1 HH0
    have cd1 := HH1.cells 2 rfl
    have ce1 := HH1.cells 1 rfl
    have cn1 := HH1.cell 2 rfl hn
    have cm1 := HH1.cell 1 rfl hm'
    have rr1 := HH1.rowOk 0 rfl (dv_size _ _ _)
    go_wp2_with fail
    refine (C3.out _).mono ?_
    rintro e w2 ⟨rfl, rfl⟩
    have HH2 := HH1
    clear cd1 ce1 cn1 cm1 rr1 HH1
    have cd2 := HH2.cells 2 rfl
    have ce2 := HH2.cells 1 rfl
    have cn2 := HH2.cell 2 rfl hn
    have cm2 := HH2.cell 1 rfl hm'
    have rr2 := HH2.rowOk 0 rfl (dv_size _ _ _)
    go_wp2_with fail
    refine (C4.out _).mono ?_
    rintro e w3 ⟨rfl, rfl⟩
    have HH3 := HH2
    clear cd2 ce2 cn2 cm2 rr2 HH2
    have cd3 := HH3.cells 2 rfl
    have ce3 := HH3.cells 1 rfl
    have cn3 := HH3.cell 2 rfl hn
    have cm3 := HH3.cell 1 rfl hm'
    have rr3 := HH3.rowOk 0 rfl (dv_size _ _ _)
    go_wp2_with fail
    refine (C5.out _).mono ?_
    rintro e w4 ⟨v, rfl, hb4, ho5⟩
    have HH4 := HH3.newRow hb4 ho5
    clear hb4 ho5 cd3 ce3 cn3 cm3 rr3 HH3
    have cd4 := HH4.cells 3 rfl
    have ce4 := HH4.cells 2 rfl
    have cn4 := HH4.cell 3 rfl hn
    have cm4 := HH4.cell 2 rfl hm'
    have rr4 := HH4.rowOk 1 rfl (dv_size _ _ _)
    obtain ⟨A, c, rfl⟩ := own_slice (HH4.row 0 rfl)
    have zz := zeroN
    go_wp2_with fail
    have HH5 := HH4.blk (nv (nmF L)) 73 w4.heap.size rfl
    clear zz cd4 ce4 cn4 cm4 rr4 HH4
    generalize w4.alloc (.cells (nv (nmF L)) 73) = w5 at *
    generalize w4.heap.size = G5 at *
    have rr5 := HH5.rowOk 2 rfl (dv_size _ _ _)
    go_simp
    go_wp2
    try rw [← dv_zero]
    exact res_agg2 (p := 8) (t := 9) (g := (w.heap.size + 1 + 1)) (v := .int .i64 3) aggD (dv_size _ _ _) rfl rfl rfl rfl ((HH5.setRow 2 rfl (dv 0 (fun _ => 0) (fun _ => 0))).at 2 rfl) ⟨rfl, (HH5.setRow 2 rfl (dv 0 (fun _ => 0) (fun _ => 0))).low⟩
  have hr : proR m f g k f' g' a b = .tuple #[.agg (dv (prL f g f' g' a b).length (upto (idxF (prL f g f' g' a b) (bF f f')) (prL f g f' g' a b).length) (upto (idxF (prL f g f' g' a b) (bF g g')) (prL f g f' g' a b).length)), .int .i64 0] := by
    unfold proR; rw [if_pos hdd, if_pos hxy]; simp only [Int.toNat_natCast]; rw [if_pos hlen]
  rw [hr]
  clear hr hx hy hdd h1 h2 hxy ha hb
  have hI := hL
  generalize hLL : prL f g f' g' a b = L at *
  clear hLL
  have HL := hide hL; clear hL
  have HP := hide (And.intro (And.intro hd.black hd.white) (And.intro he.black he.white)); clear hd he
  have hgt : decide (((L.length : Nat) : Int) > 16) = false := decide_eq_false (by omega)
  go_enter Try.func28, Try.ntmps28
  go_wp2_with fail
  try rw [← dv_zero]
  refine (C1.out _).mono ?_
  rintro e w1 ⟨rfl, hb1⟩
  have HH1 := HH0.call hb1
  clear hb1 HH0
  have cd1 := HH1.cells 2 rfl
  have ce1 := HH1.cells 1 rfl
  have cn1 := HH1.cell 2 rfl hn
  have cm1 := HH1.cell 1 rfl hm'
  have rr1 := HH1.rowOk 0 rfl (dv_size _ _ _)
  go_wp2_with fail
  refine (C3.out _).mono ?_
  rintro e w2 ⟨rfl, rfl⟩
  have HH2 := HH1
  clear cd1 ce1 cn1 cm1 rr1 HH1
  have cd2 := HH2.cells 2 rfl
  have ce2 := HH2.cells 1 rfl
  have cn2 := HH2.cell 2 rfl hn
  have cm2 := HH2.cell 1 rfl hm'
  have rr2 := HH2.rowOk 0 rfl (dv_size _ _ _)
  go_wp2_with fail
  refine (C4.out _).mono ?_
  rintro e w3 ⟨rfl, rfl⟩
  have HH3 := HH2
  clear cd2 ce2 cn2 cm2 rr2 HH2
  have cd3 := HH3.cells 2 rfl
  have ce3 := HH3.cells 1 rfl
  have cn3 := HH3.cell 2 rfl hn
  have cm3 := HH3.cell 1 rfl hm'
  have rr3 := HH3.rowOk 0 rfl (dv_size _ _ _)
  go_wp2_with fail
  refine (C5.out _).mono ?_
  rintro e w4 ⟨v, rfl, hb4, ho5⟩
  have HH4 := HH3.newRow hb4 ho5
  clear hb4 ho5 cd3 ce3 cn3 cm3 rr3 HH3
  have cd4 := HH4.cells 3 rfl
  have ce4 := HH4.cells 2 rfl
  have cn4 := HH4.cell 3 rfl hn
  have cm4 := HH4.cell 2 rfl hm'
  have rr4 := HH4.rowOk 1 rfl (dv_size _ _ _)
  obtain ⟨A, c, rfl⟩ := own_slice (HH4.row 0 rfl)
  have zz := zeroN
  have hz := dv_lit ((L.length : Nat) : Int)
  have HZ := hide hz; clear hz
  have ho := (ones_dv ((L.length : Nat) : Int) (fun _ => 0) (fun _ => 0)).2 trivial
  rw [HZ.out] at ho
  go_wp2_with fail
  rw [← HZ.out]
  clear zz ho cd4 ce4 cn4 cm4 rr4
  have hrow := HH4.at 0 rfl
  have HHs : Holds w w4 [pPairsB (.slice A L.length c) (dec L), pBlk (w.heap.size + 1 + 1) (dv 0 (fun _ => 0) (fun _ => 0)) 30, pBlk (w.heap.size + 1) (dv k f' g') 30, pBlk w.heap.size (dv m f g) 30] := by
    unfold pPairsB; rw [dec_length]; exact HH4
  have HHt := (HHs.blk (nv (nmF L)) 73 w4.heap.size rfl).blk (dv L.length (fun _ => 0) (fun _ => 0)) 30 (w4.heap.size + 1) (by simp)
  clear HH4 HHs hrow
  generalize (w4.alloc (.cells (nv (nmF L)) 73)).alloc (.cells (dv L.length (fun _ => 0) (fun _ => 0)) 30) = wd at *
  generalize w4.heap.size + 1 = G6 at *
  generalize w4.heap.size = G5 at *
  go_loopw [14] (fun t wr => ∃ j : Nat, j ≤ L.length ∧ t = .int .i64 j ∧ Holds w wr [pBlk G6 (dv L.length (upto (idxF L (bF f f')) j) (upto (idxF L (bF g g')) j)) 30, pBlk G5 (nv (nmF L)) 73, pPairsB (.slice A L.length c) (dec L), pBlk (w.heap.size + 1 + 1) (dv 0 (fun _ => 0) (fun _ => 0)) 30, pBlk (w.heap.size + 1) (dv k f' g') 30, pBlk w.heap.size (dv m f g) 30]) (fun t _ => L.length - (intOf t).toNat)
  case atStart => exact ⟨0, by omega, rfl, by rw [upto_zero, upto_zero]; exact HHt⟩
  case round =>
    clear HHt
    obtain ⟨j, hj, rfl, hH⟩ := hrel
    by_cases hjl : j < L.length
    · obtain ⟨g0, c0, e0, _, y1, y2⟩ := hH.pairsB 2 rfl (k := j) (by rw [dec_length]; exact hjl)
      injection e0 with e0 e1 e2
      subst e0
      clear e1 e2
      rw [dec_at hjl] at y1 y2
      have hg : L.getD j 0 = L[j] := by rw [List.getD_eq_getElem?_getD, List.getElem?_eq_getElem hjl]; rfl
      rw [← hg] at y1 y2
      obtain ⟨p, hp⟩ : ∃ p, p = L.getD j 0 / 16 := ⟨_, rfl⟩
      obtain ⟨q, hq⟩ : ∃ q, q = L.getD j 0 % 16 := ⟨_, rfl⟩
      rw [← hp] at y1
      rw [← hq] at y2
      have hmz : L.getD j 0 ∈ L := by rw [hg]; exact List.getElem_mem hjl
      have hz := HL.out.2.1 _ hmz
      have hc := HL.out.2.2.1 _ hmz
      have hp16 : p < 16 := by omega
      have hq16 : q < 16 := by omega
      have hp' : (p : Int) < 16 := by omega
      have hq' : (q : Int) < 16 := by omega
      have hj' : (j : Int) < 16 := by omega
      have hfp := HP.out.1.1.lt16 hp16
      have hgp := HP.out.1.2.lt16 hp16
      have hfq := HP.out.2.1.lt16 hq16
      have hgq := HP.out.2.2.lt16 hq16
      have eB : f p * 16 + f' q = bF f f' (L.getD j 0) := by
        have h1 := bF_1 (p := f) (q := f') (z := L.getD j 0) (by rw [← hq]; exact hfq)
        have h2 := bF_2 (p := f) (q := f') (z := L.getD j 0) (by rw [← hq]; exact hfq)
        rw [← hp] at h1; rw [← hq] at h2; omega
      have eW : g p * 16 + g' q = bF g g' (L.getD j 0) := by
        have h1 := bF_1 (p := g) (q := g') (z := L.getD j 0) (by rw [← hq]; exact hgq)
        have h2 := bF_2 (p := g) (q := g') (z := L.getD j 0) (by rw [← hq]; exact hgq)
        rw [← hp] at h1; rw [← hq] at h2; omega
      have iB : nmF L (f p * 16 + f' q) = ((idxF L (bF f f') j : Nat) : Int) := by rw [eB]; unfold nmF idxF; rw [if_pos hc.1]
      have iW : nmF L (g p * 16 + g' q) = ((idxF L (bF g g') j : Nat) : Int) := by rw [eW]; unfold nmF idxF; rw [if_pos hc.2]
      have lB : idxF L (bF f f') j < L.length := List.idxOf_lt_length_of_mem hc.1
      have lW : idxF L (bF g g') j < L.length := List.idxOf_lt_length_of_mem hc.2
      have s1 := upto_step (idxF L (bF f f')) j
      have s2 := upto_step (idxF L (bF g g')) j
      have nB : (nv (nmF L))[f p * 16 + f' q]? = some (.int .i64 ((idxF L (bF f f') j : Nat) : Int)) := by rw [nv_get _ (by omega), iB]
      have nW : (nv (nmF L))[g p * 16 + g' q]? = some (.int .i64 ((idxF L (bF g g') j : Nat) : Int)) := by rw [nv_get _ (by omega), iW]
      generalize idxF L (bF f f') j = vB at *
      generalize idxF L (bF g g') j = vW at *
      have lB' : (vB : Int) < 256 := by omega
      have lW' : (vW : Int) < 256 := by omega
      have hf16 : ((f p : Nat) : Int) < 16 := by omega
      have hg16 : ((g p : Nat) : Int) < 16 := by omega
      have hf16' : ((f' q : Nat) : Int) < 16 := by omega
      have hg16' : ((g' q : Nat) : Int) < 16 := by omega
      have SS := hide (And.intro s1 s2); clear s1 s2
      have NN := hide (And.intro nB nW); clear nB nW
      clear hp hq hmz hz hc eB eW iB iW hg
      generalize upto (idxF L (bF f f')) j = U1 at *
      generalize upto (idxF L (bF g g')) j = U2 at *
      generalize hV1 : upto (idxF L (bF f f')) (j + 1) = V1 at *
      generalize hV2 : upto (idxF L (bF g g')) (j + 1) = V2 at *
      have HV := hide (And.intro hV1 hV2); clear hV1 hV2
      have hHb := hH.blk #[.int .u8 (p : Nat), .int .u8 (q : Nat)] 76 wr.heap.size rfl
      have hj16 : j < 16 := by omega
      go_wp2
      clear y1 y2 hH
      generalize wr.alloc (.cells #[.int .u8 (p : Nat), .int .u8 (q : Nat)] 76) = wo at *
      generalize wr.heap.size = G7 at *
      refine region_tail (fun wx => Holds w wx _) 17 (by kernel_rfl) (by kernel_rfl) hHb.drew ?_
      simp only [List.take_succ_cons, List.take_zero, List.drop_succ_cons, List.drop_zero]
      iterate 17
        apply q_step
        · go_simp
        · intro wx hx
          have q1 := hx.cell 0 (j := 0) rfl rfl
          have q2 := hx.cell 0 (j := 1) rfl rfl
          have c3 := hx.cell 6 rfl (dv_b m f g hp16)
          have c4 := hx.cell 5 rfl (dv_b k f' g' hq16)
          have c5 := hx.cell 2 rfl NN.out.1
          go_simp
          try exact rfl
      refine wpQuiet_nil ?_
      intro w6 hx6
      have r1 := hx6.cell 1 rfl (dv_b L.length U1 U2 hj16)
      have r2 := hx6.frozen 1 rfl (1 + j)
      have hS := hx6.set 1 rfl (1 + j) (.int .u8 (vB : Nat))
      rw [dv_setb _ _ _ _ hj16, SS.out.1] at hS
      replace hS : Holds w (w6.setCell ⟨G6, 1 + j, none⟩ (.int .u8 (vB : Nat))) [pBlk G7 #[.int .u8 (p : Nat), .int .u8 (q : Nat)] 76, pBlk G6 (dv L.length V1 U2) 30, pBlk G5 (nv (nmF L)) 73, pPairsB (.slice (some ⟨g0, 0, none⟩) L.length c) (dec L), pBlk (w.heap.size + 1 + 1) (dv 0 (fun _ => 0) (fun _ => 0)) 30, pBlk (w.heap.size + 1) (dv k f' g') 30, pBlk w.heap.size (dv m f g) 30] := hS
      clear hHb
      go_wp2_with fail
      clear r1 r2 hx6
      generalize w6.setCell ⟨G6, 1 + j, none⟩ (.int .u8 (vB : Nat)) = w7 at *
      refine region_tail (fun wx => Holds w wx _) 17 (by kernel_rfl) (by kernel_rfl) hS.drew ?_
      simp only [List.take_succ_cons, List.take_zero, List.drop_succ_cons, List.drop_zero]
      iterate 17
        apply q_step
        · go_simp
        · intro wx hx
          have q1 := hx.cell 0 (j := 0) rfl rfl
          have q2 := hx.cell 0 (j := 1) rfl rfl
          have c3 := hx.cell 6 rfl (dv_w m f g hp16)
          have c4 := hx.cell 5 rfl (dv_w k f' g' hq16)
          have c5 := hx.cell 2 rfl NN.out.2
          go_simp
          try exact rfl
      refine wpQuiet_nil ?_
      intro w8 hx8
      have r1 := hx8.cell 1 rfl (dv_w L.length V1 U2 hj16)
      have r2 := hx8.frozen 1 rfl (17 + j)
      have hT := hx8.set 1 rfl (17 + j) (.int .u8 (vW : Nat))
      rw [dv_setw _ _ _ _ hj16, SS.out.2] at hT
      clear hS
      go_wp2
      clear r1 r2 hx8
      go_roundw
      case rel =>
        refine ⟨j + 1, by omega, by go_num, ?_⟩
        rw [HV.out.1, HV.out.2]
        exact hT.tail
      case measure => simp [intOf]; omega
    · obtain ⟨K, hK⟩ : ∃ K, K = L.length := ⟨_, rfl⟩
      obtain rfl : j = K := by omega
      subst hK
      have cc := hH.cells 0 rfl
      have rr := hH.rowOk 3 rfl (dv_size _ _ _)
      clear hj hjl
      go_wp2
      have H2 := hH.setRow 3 rfl (dv L.length (upto (idxF L (bF f f')) L.length) (upto (idxF L (bF g g')) L.length))
      exact res_agg2 (p := 8) (t := 9) (g := (w.heap.size + 1 + 1)) (v := .int .i64 0) aggD (dv_size _ _ _) rfl rfl rfl rfl (H2.at 3 rfl) ⟨rfl, H2.low⟩

set_option maxRecDepth 100000 in
set_option maxHeartbeats 1000000 in
theorem fnExactProductAt_walk (n : Int) (f g : Nat → Nat) (_hn : -9223372036854775808 ≤ n ∧ n ≤ 9223372036854775807) (hf : ∀ i, f i < 256) (hg : ∀ i, g i < 256) (n' : Int) (f' g' : Nat → Nat) (_hn' : -9223372036854775808 ≤ n' ∧ n' ≤ 9223372036854775807) (hf' : ∀ i, f' i < 256) (hg' : ∀ i, g' i < 256) (x : Int) (_hx : -9223372036854775808 ≤ x ∧ x ≤ 9223372036854775807) (y : Int) (_hy : -9223372036854775808 ≤ y ∧ y ≤ 9223372036854775807) (w : World) :
    Calls Try.prog 7 #[.agg (dv n f g), .agg (dv n' f' g'), .int .i64 x, .int .i64 y] w fun e w' => e = .returned (.bool true) ∧ Below w.heap.size w w' := by
  obtain ⟨a, r, s, c, hR⟩ := proR_eq n f g n' f' g' x y
  have c1 := fun w => productAt_any n f g hf hg n' f' g' hf' hg' x y w
  have c2 := fun w => sProductAt_any n f g hf hg n' f' g' hf' hg' x y w
  rw [hR] at c1 c2
  have C1 := hide c1; clear c1
  have C2 := hide c2; clear c2
  have T0 := hide fun w => toDessin_any n f g w
  have T1 := hide fun w => toDessin_any n' f' g' w
  clear hR hf hg _hn hf' hg' _hn' _hx _hy
  have hne : (c != c) = false := by simp
  go_enter Try.func7, Try.ntmps7
  go_wp2
  generalize hW : ((w.alloc (.cells (dv n f g) 24)).alloc (.cells (dv n' f' g') 24)) = W
  have y0 : cellsOf W w.heap.size = dv n f g := by rw [← hW]; exact cellsOf_heap (heap1 (by simp))
  have k0 : w.heap.size < W.heap.size := by rw [← hW]; simp <;> omega
  have y1 : cellsOf W (w.heap.size + 1) = dv n' f' g' := by rw [← hW]; exact cellsOf_heap (heap_at _ _ _ (by simp))
  have k1 : (w.heap.size + 1) < W.heap.size := by rw [← hW]; simp <;> omega
  have b0 : Below w.heap.size w W := by rw [← hW]; exact below2 _ _ _
  clear hW
  refine region_V (w := W) (fun k => if k = 10 then some (fun _ => newR W.heap.size 33) else none) (fun k => k == 11) [10, 11] (.q 0 <| .q 1 <| .q 2 <| .q 3 <| .q 4 <| .q 5 <| .q 6 <| .q 7 <| .q 8 <| .q 9 <| .s1 10 <| .s1 11 <| .q 12 .fin) (by kernel_rfl) (by kernel_rfl) (by kernel_rfl) (fun k hk => ?_) ?_
  · simp at hk; simp [hk]
  apply v_other
  · simp only [List.getElem?_toArray, List.getElem?_cons_zero, List.getElem?_cons_succ]; exact rfl
  · rfl
  · rfl
  · go_simp
  · intro wx hx
    have e0 := hx.cells y0 k0
    have e1 := hx.cells y1 k1
    unfold atG
    go_simp
    simp only [uponG]
    exact ⟨by trivial, rfl⟩
  apply v_other
  · simp only [List.getElem?_toArray, List.getElem?_cons_zero, List.getElem?_cons_succ]; exact rfl
  · rfl
  · rfl
  · go_simp
  · intro wx hx
    have e0 := hx.cells y0 k0
    have e1 := hx.cells y1 k1
    unfold atG
    go_simp
    simp only [uponG]
    exact ⟨by trivial, T0.out wx⟩
  apply v_other
  · simp only [List.getElem?_toArray, List.getElem?_cons_zero, List.getElem?_cons_succ]; exact rfl
  · rfl
  · rfl
  · go_simp
  · intro wx hx
    have e0 := hx.cells y0 k0
    have e1 := hx.cells y1 k1
    unfold atG
    go_simp
    simp only [uponG]
    exact ⟨by trivial, rfl⟩
  apply v_other
  · simp only [List.getElem?_toArray, List.getElem?_cons_zero, List.getElem?_cons_succ]; exact rfl
  · rfl
  · rfl
  · go_simp
  · intro wx hx
    have e0 := hx.cells y0 k0
    have e1 := hx.cells y1 k1
    unfold atG
    go_simp
    simp only [uponG]
    exact ⟨by trivial, T1.out wx⟩
  apply v_other
  · simp only [List.getElem?_toArray, List.getElem?_cons_zero, List.getElem?_cons_succ]; exact rfl
  · rfl
  · rfl
  · go_simp
  · intro wx hx
    have e0 := hx.cells y0 k0
    have e1 := hx.cells y1 k1
    unfold atG
    go_simp
    simp only [uponG]
    exact ⟨by trivial, rfl⟩
  apply v_other
  · simp only [List.getElem?_toArray, List.getElem?_cons_zero, List.getElem?_cons_succ]; exact rfl
  · rfl
  · rfl
  · go_simp
  · intro wx hx
    have e0 := hx.cells y0 k0
    have e1 := hx.cells y1 k1
    unfold atG
    go_simp
    simp only [uponG]
    exact ⟨by trivial, rfl⟩
  apply v_other
  · simp only [List.getElem?_toArray, List.getElem?_cons_zero, List.getElem?_cons_succ]; exact rfl
  · rfl
  · rfl
  · go_simp
  · intro wx hx
    have e0 := hx.cells y0 k0
    have e1 := hx.cells y1 k1
    unfold atG
    go_simp
    simp only [uponG]
    exact ⟨by trivial, C2.out wx⟩
  apply v_other
  · simp only [List.getElem?_toArray, List.getElem?_cons_zero, List.getElem?_cons_succ]; exact rfl
  · rfl
  · rfl
  · go_simp
  · intro wx hx
    have e0 := hx.cells y0 k0
    have e1 := hx.cells y1 k1
    unfold atG
    go_simp
    simp only [uponG]
    exact ⟨by trivial, rfl⟩
  apply v_other
  · simp only [List.getElem?_toArray, List.getElem?_cons_zero, List.getElem?_cons_succ]; exact rfl
  · rfl
  · rfl
  · go_simp
  · intro wx hx
    have e0 := hx.cells y0 k0
    have e1 := hx.cells y1 k1
    unfold atG
    go_simp
    simp only [uponG]
    exact ⟨by trivial, rfl⟩
  apply v_other
  · simp only [List.getElem?_toArray, List.getElem?_cons_zero, List.getElem?_cons_succ]; exact rfl
  · rfl
  · rfl
  · go_simp
  · intro wx hx
    have e0 := hx.cells y0 k0
    have e1 := hx.cells y1 k1
    unfold atG
    go_simp
    simp only [uponG]
    exact ⟨by trivial, rfl⟩
  refine v_E (by simp only [List.getElem?_toArray, List.getElem?_cons_zero, List.getElem?_cons_succ]; exact rfl) rfl (by go_simp) (fun wx hx _ => ?_) ?_
  · go_simp
    simp only [uponE]
    refine ⟨(Below.refl _ _).alloc (Nat.le_refl _) _, wx.heap.size, rfl, hx.size, ?_⟩
    exact ⟨_, _, heap_at _ _ _ rfl, by first | rfl | simp⟩
  rintro vg ⟨_, _, _, g1, rfl, hg, _⟩
  refine v_S g1 33 (dv a r s) (by simp only [List.getElem?_toArray, List.getElem?_cons_zero, List.getElem?_cons_succ]; exact rfl) rfl rfl (by go_simp) (fun wx hx => (newR.at hx).2) hg (fun wx hx hr => by go_simp) ?_
  apply v_other
  · simp only [List.getElem?_toArray, List.getElem?_cons_zero, List.getElem?_cons_succ]; exact rfl
  · rfl
  · rfl
  · go_simp
  · intro wx hx
    unfold atG
    go_simp
    simp only [uponG]
    exact ⟨by trivial, rfl⟩
  rintro w1 hx ⟨wy, hn, k1', k2'⟩
  obtain ⟨a0, _, a1⟩ := stored (newR.at hn).2 (dv_size _ _ _) k2'
  have s1 := hx.size
  have b1 : Below w.heap.size w w1 := b0.trans (Below.mono hx b0.size)
  have z0 := hx.cells y0 k0
  have m0 := Nat.lt_of_lt_of_le k0 s1
  have z1 := hx.cells y1 k1
  have m1 := Nat.lt_of_lt_of_le k1 s1
  clear k1' k2' hn b0 hx hg s1 y0 k0 y1 k1
  have y0 := z0; have k0 := m0
  clear z0 m0
  have y1 := z1; have k1 := m1
  clear z1 m1
  go_wp2_with fail
  refine region_V (w := w1) (fun k => if k = 10 then some (fun _ => newR w1.heap.size 33) else none) (fun k => k == 11) [10, 11] (.q 0 <| .q 1 <| .q 2 <| .q 3 <| .q 4 <| .q 5 <| .q 6 <| .q 7 <| .q 8 <| .q 9 <| .s1 10 <| .s1 11 <| .q 12 .fin) (by kernel_rfl) (by kernel_rfl) (by kernel_rfl) (fun k hk => ?_) ?_
  · simp at hk; simp [hk]
  apply v_other
  · simp only [List.getElem?_toArray, List.getElem?_cons_zero, List.getElem?_cons_succ]; exact rfl
  · rfl
  · rfl
  · go_simp
  · intro wx hx
    have e0 := hx.cells y0 k0
    have e1 := hx.cells y1 k1
    unfold atG
    go_simp
    simp only [uponG]
    exact ⟨by trivial, rfl⟩
  apply v_other
  · simp only [List.getElem?_toArray, List.getElem?_cons_zero, List.getElem?_cons_succ]; exact rfl
  · rfl
  · rfl
  · go_simp
  · intro wx hx
    have e0 := hx.cells y0 k0
    have e1 := hx.cells y1 k1
    unfold atG
    go_simp
    simp only [uponG]
    exact ⟨by trivial, T0.out wx⟩
  apply v_other
  · simp only [List.getElem?_toArray, List.getElem?_cons_zero, List.getElem?_cons_succ]; exact rfl
  · rfl
  · rfl
  · go_simp
  · intro wx hx
    have e0 := hx.cells y0 k0
    have e1 := hx.cells y1 k1
    unfold atG
    go_simp
    simp only [uponG]
    exact ⟨by trivial, rfl⟩
  apply v_other
  · simp only [List.getElem?_toArray, List.getElem?_cons_zero, List.getElem?_cons_succ]; exact rfl
  · rfl
  · rfl
  · go_simp
  · intro wx hx
    have e0 := hx.cells y0 k0
    have e1 := hx.cells y1 k1
    unfold atG
    go_simp
    simp only [uponG]
    exact ⟨by trivial, T1.out wx⟩
  apply v_other
  · simp only [List.getElem?_toArray, List.getElem?_cons_zero, List.getElem?_cons_succ]; exact rfl
  · rfl
  · rfl
  · go_simp
  · intro wx hx
    have e0 := hx.cells y0 k0
    have e1 := hx.cells y1 k1
    unfold atG
    go_simp
    simp only [uponG]
    exact ⟨by trivial, rfl⟩
  apply v_other
  · simp only [List.getElem?_toArray, List.getElem?_cons_zero, List.getElem?_cons_succ]; exact rfl
  · rfl
  · rfl
  · go_simp
  · intro wx hx
    have e0 := hx.cells y0 k0
    have e1 := hx.cells y1 k1
    unfold atG
    go_simp
    simp only [uponG]
    exact ⟨by trivial, rfl⟩
  apply v_other
  · simp only [List.getElem?_toArray, List.getElem?_cons_zero, List.getElem?_cons_succ]; exact rfl
  · rfl
  · rfl
  · go_simp
  · intro wx hx
    have e0 := hx.cells y0 k0
    have e1 := hx.cells y1 k1
    unfold atG
    go_simp
    simp only [uponG]
    exact ⟨by trivial, C1.out wx⟩
  apply v_other
  · simp only [List.getElem?_toArray, List.getElem?_cons_zero, List.getElem?_cons_succ]; exact rfl
  · rfl
  · rfl
  · go_simp
  · intro wx hx
    have e0 := hx.cells y0 k0
    have e1 := hx.cells y1 k1
    unfold atG
    go_simp
    simp only [uponG]
    exact ⟨by trivial, rfl⟩
  apply v_other
  · simp only [List.getElem?_toArray, List.getElem?_cons_zero, List.getElem?_cons_succ]; exact rfl
  · rfl
  · rfl
  · go_simp
  · intro wx hx
    have e0 := hx.cells y0 k0
    have e1 := hx.cells y1 k1
    unfold atG
    go_simp
    simp only [uponG]
    exact ⟨by trivial, rfl⟩
  apply v_other
  · simp only [List.getElem?_toArray, List.getElem?_cons_zero, List.getElem?_cons_succ]; exact rfl
  · rfl
  · rfl
  · go_simp
  · intro wx hx
    have e0 := hx.cells y0 k0
    have e1 := hx.cells y1 k1
    unfold atG
    go_simp
    simp only [uponG]
    exact ⟨by trivial, rfl⟩
  refine v_E (by simp only [List.getElem?_toArray, List.getElem?_cons_zero, List.getElem?_cons_succ]; exact rfl) rfl (by go_simp) (fun wx hx _ => ?_) ?_
  · go_simp
    simp only [uponE]
    refine ⟨(Below.refl _ _).alloc (Nat.le_refl _) _, wx.heap.size, rfl, hx.size, ?_⟩
    exact ⟨_, _, heap_at _ _ _ rfl, by first | rfl | simp⟩
  rintro vg ⟨_, _, _, g2, rfl, hg, _⟩
  refine v_S g2 33 (dv a r s) (by simp only [List.getElem?_toArray, List.getElem?_cons_zero, List.getElem?_cons_succ]; exact rfl) rfl rfl (by go_simp) (fun wx hx => (newR.at hx).2) hg (fun wx hx hr => by go_simp) ?_
  apply v_other
  · simp only [List.getElem?_toArray, List.getElem?_cons_zero, List.getElem?_cons_succ]; exact rfl
  · rfl
  · rfl
  · go_simp
  · intro wx hx
    unfold atG
    go_simp
    simp only [uponG]
    exact ⟨by trivial, rfl⟩
  rintro w2 hx ⟨wy, hn, k1', k2'⟩
  obtain ⟨x0, _, x1⟩ := stored (newR.at hn).2 (dv_size _ _ _) k2'
  have y9 := hx.cells a0 a1
  have b2 : Below w.heap.size w w2 := b1.trans (Below.mono hx b1.size)
  have k9 : g1 < w2.heap.size := Nat.lt_of_lt_of_le a1 hx.size
  clear k1' k2' hn b1 hx hg a0 a1 y0 k0 y1 k1
  go_wp2_with fail
  refine (eqDessin_same a r s _).mono ?_
  rintro e w5 ⟨rfl, h5⟩
  have b5 := b2.trans (h5.mono b2.size)
  clear h5
  go_wp2
  go_ret
  exact ⟨rfl, b5⟩
end Go.Proofs.Ytjhpkibeddnbfaa
