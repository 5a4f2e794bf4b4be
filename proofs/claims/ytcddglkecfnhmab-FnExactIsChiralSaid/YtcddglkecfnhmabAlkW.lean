/- l07Alike; AreAlike and IsChiral of both; the laws' walks -/
import Derived.Test.YtcddglkecfnhmabAlk
import Derived.Test.YtcddglkecfnhmabFrom
import Derived.Test.YtcddglkecfnhmabMir
namespace Go.Proofs.Ytcddglkecfnhmab
open Go.RowKit

set_option maxRecDepth 100000 in
set_option maxHeartbeats 2000000 in
theorem sAlike_any (f g : Nat → Nat) (m : Nat) (hd : DesN f g m) (f' g' : Nat → Nat) (k : Nat) (he : DesN f' g' k) (w : World) :
    Calls Try.prog 24 #[.agg (dv m f g), .agg (dv k f' g')] w fun e w' => e = .returned (.bool (alkB f g m f' g' k)) ∧ Below w.heap.size w w' := by
  obtain ⟨R, hR⟩ : ∃ R, R = alkB f g m f' g' k := ⟨_, rfl⟩
  rw [← hR]
  have hyes : (m = k ∧ ∃ x, x < k ∧ eqDB k (forB f' g' k x) (forW f' g' k x) m (forB f g m 0) (forW f g m 0) = true) → R = true := fun h => by rw [hR]; unfold alkB; exact decide_eq_true h
  have hno : ¬ (m = k ∧ ∃ x, x < k ∧ eqDB k (forB f' g' k x) (forW f' g' k x) m (forB f g m 0) (forW f g m 0) = true) → R = false := fun h => by rw [hR]; unfold alkB; exact decide_eq_false h
  have c0 := fun w => sFrom_any f g m hd 0 hd.pos w
  simp only [show ((0 : Nat) : Int) = 0 from rfl] at c0
  have C0 := hide c0; clear c0
  have C1 := hide fun x (hx : x < k) w => sFrom_any f' g' k he x hx w
  have hn := dv_n m f g
  have hn' := dv_n k f' g'
  have hm := hd.le
  have hk16 := he.le
  clear hR hd he
  generalize forB f g m 0 = F0 at *
  generalize forW f g m 0 = W0 at *
  generalize forB f' g' k = FB at *
  generalize forW f' g' k = FW at *
  have HY := hide hyes; clear hyes
  have HN := hide hno; clear hno
  have HH0 := ((Holds.start w).blk (dv m f g) 29 w.heap.size rfl).blk (dv k f' g') 29 (w.heap.size + 1) (by simp)
  have x1 := HH0.cell 1 rfl hn
  have x2 := HH0.cell 0 rfl hn'
  by_cases hmk : m = k
  · have e1 : ((m : Int) != (k : Int)) = false := by simp [hmk]
    have HMK := hide hmk; clear hmk
    go_enter Try.func24, Try.ntmps24
    go_wp2_with fail
    refine (C0.out _).mono ?_
    rintro e w1 ⟨rfl, hb⟩
    have HH1 := HH0.call hb
    have HH2 := HH1.blk (dv (m : Int) F0 W0) 29 w1.heap.size rfl
    clear hb HH0 HH1 x1 x2
    go_wp2
    generalize hG : w1.heap.size = G at *
    have HG := hide hG; clear hG
    go_loopw [6] (fun i wr => ∃ x : Nat, x ≤ k ∧ i = .int .i64 x ∧ Holds w wr [pBlk G (dv (m : Int) F0 W0) 29, pBlk (w.heap.size + 1) (dv (k : Int) f' g') 29, pBlk w.heap.size (dv (m : Int) f g) 29] ∧ ∀ y, y < x → eqDB k (FB y) (FW y) m F0 W0 = false) (fun i _ => k - (intOf i).toNat)
    case atStart => exact ⟨0, Nat.zero_le _, rfl, HH2, fun y hy => by omega⟩
    case round =>
      clear HH2
      obtain ⟨x, hx, rfl, hH, hall⟩ := hrel
      have HA := hide hall; clear hall
      have n0 := hH.cell 1 rfl hn'
      by_cases hlt : x < k
      · have CX := hide (C1.out x hlt)
        have hlti : (x : Int) < k := by omega
        go_wp2
        clear n0
        rcases hb : eqDB k (FB x) (FW x) m F0 W0 with _ | _
        · have HB := hide hb
          refine Rd.region_P (w0 := w) [pBlk G (dv (m : Int) F0 W0) 29, pBlk (w.heap.size + 1) (dv (k : Int) f' g') 29, pBlk w.heap.size (dv (m : Int) f g) 29] [pBlk G (dv (m : Int) F0 W0) 29, pBlk (w.heap.size + 1) (dv (k : Int) f' g') 29, pBlk w.heap.size (dv (m : Int) f g) 29] [] (.q 0 <| .q 1 <| .q 2 <| .q 3 <| .q 4 .fin) hH (.refl _) (by kernel_rfl) (by kernel_rfl) (by kernel_rfl) ?_
          iterate 2
            apply Rd.v_q
            · simp only [List.getElem?_toArray, List.getElem?_cons_zero, List.getElem?_cons_succ]; exact rfl
            · rfl
            · go_simp
            · intro wx hx
              have q0 := hx.cells 0 rfl
              have q1 := hx.cells 1 rfl
              unfold atG
              go_simp
              simp only [uponG]
              exact ⟨by trivial, rfl⟩
          iterate 1
            apply Rd.v_q
            · simp only [List.getElem?_toArray, List.getElem?_cons_zero, List.getElem?_cons_succ]; exact rfl
            · rfl
            · go_simp
            · intro wx hx
              have q0 := hx.cells 0 rfl
              have q1 := hx.cells 1 rfl
              unfold atG
              go_simp
              simp only [uponG]
              exact ⟨by trivial, CX.out wx⟩
          iterate 2
            apply Rd.v_q
            · simp only [List.getElem?_toArray, List.getElem?_cons_zero, List.getElem?_cons_succ]; exact rfl
            · rfl
            · go_simp
            · intro wx hx
              have q0 := hx.cells 0 rfl
              have q1 := hx.cells 1 rfl
              unfold atG
              go_simp
              simp only [uponG]
              exact ⟨by trivial, rfl⟩
          rintro wq hH1 -
          go_simp
          clear hb hH
          go_wp2
          go_roundw
          case rel => exact ⟨x + 1, by omega, by go_num, hH1, fun y hy => by
            by_cases c : y = x
            · subst c; exact HB.out
            · exact HA.out y (by omega)⟩
          case measure => simp [intOf]; omega
        · have HB := hide hb
          refine Rd.region_P (w0 := w) [pBlk G (dv (m : Int) F0 W0) 29, pBlk (w.heap.size + 1) (dv (k : Int) f' g') 29, pBlk w.heap.size (dv (m : Int) f g) 29] [pBlk G (dv (m : Int) F0 W0) 29, pBlk (w.heap.size + 1) (dv (k : Int) f' g') 29, pBlk w.heap.size (dv (m : Int) f g) 29] [] (.q 0 <| .q 1 <| .q 2 <| .q 3 <| .q 4 .fin) hH (.refl _) (by kernel_rfl) (by kernel_rfl) (by kernel_rfl) ?_
          iterate 2
            apply Rd.v_q
            · simp only [List.getElem?_toArray, List.getElem?_cons_zero, List.getElem?_cons_succ]; exact rfl
            · rfl
            · go_simp
            · intro wx hx
              have q0 := hx.cells 0 rfl
              have q1 := hx.cells 1 rfl
              unfold atG
              go_simp
              simp only [uponG]
              exact ⟨by trivial, rfl⟩
          iterate 1
            apply Rd.v_q
            · simp only [List.getElem?_toArray, List.getElem?_cons_zero, List.getElem?_cons_succ]; exact rfl
            · rfl
            · go_simp
            · intro wx hx
              have q0 := hx.cells 0 rfl
              have q1 := hx.cells 1 rfl
              unfold atG
              go_simp
              simp only [uponG]
              exact ⟨by trivial, CX.out wx⟩
          iterate 2
            apply Rd.v_q
            · simp only [List.getElem?_toArray, List.getElem?_cons_zero, List.getElem?_cons_succ]; exact rfl
            · rfl
            · go_simp
            · intro wx hx
              have q0 := hx.cells 0 rfl
              have q1 := hx.cells 1 rfl
              unfold atG
              go_simp
              simp only [uponG]
              exact ⟨by trivial, rfl⟩
          rintro wq hH1 -
          go_simp
          clear hb hH
          have hr := HY.out ⟨HMK.out, x, hlt, HB.out⟩
          subst hr
          go_wp2
          go_ret
          exact ⟨rfl, hH1.low⟩
      · obtain rfl : x = k := by omega
        have hr := HN.out fun h => by obtain ⟨_, y, hy, e⟩ := h; rw [HA.out y hy] at e; cases e
        subst hr
        clear hlt
        go_wp2
        go_ret
        exact ⟨rfl, hH.low⟩
  · have e1 : ((m : Int) != (k : Int)) = true := by simp; omega
    have hr := HN.out fun h => hmk h.1
    subst hr
    go_enter Try.func24, Try.ntmps24
    go_wp2
    go_ret
    exact ⟨rfl, HH0.low⟩

open Classical in
noncomputable def areR (n : Int) (f g : Nat → Nat) (n' : Int) (f' g' : Nat → Nat) : Value := if desB n f g = true ∧ desB n' f' g' = true then .tuple #[.bool (alkB f g n.toNat f' g' n'.toNat), .int .i64 0] else .tuple #[.bool false, .int .i64 1]
theorem areR_eq (n : Int) (f g : Nat → Nat) (n' : Int) (f' g' : Nat → Nat) : ∃ (a : Bool) (c : Int), areR n f g n' f' g' = .tuple #[.bool a, .int .i64 c] := by
  unfold areR; split
  · exact ⟨_, _, rfl⟩
  · exact ⟨_, _, rfl⟩

set_option maxRecDepth 100000 in
set_option maxHeartbeats 2000000 in
theorem areAlike_any (n : Int) (f g : Nat → Nat) (hf : ∀ i, f i < 256) (hg : ∀ i, g i < 256) (n' : Int) (f' g' : Nat → Nat) (hf' : ∀ i, f' i < 256) (hg' : ∀ i, g' i < 256) (w : World) :
    Calls Try.prog 11 #[.agg (dv n f g), .agg (dv n' f' g')] w fun e w' => e = .returned (areR n f g n' f' g') ∧ Below w.heap.size w w' := by
  have C1 := hide fun w => isDessin_any n f g hf hg w
  have C2 := hide fun w => isDessin_any n' f' g' hf' hg' w
  clear hf hg hf' hg'
  have HH0 := ((Holds.start w).blk (dv n f g) 29 w.heap.size rfl).blk (dv n' f' g') 29 (w.heap.size + 1) (by simp)
  rcases h1 : desB n f g with _ | _
  · rw [h1] at C1
    have hr : areR n f g n' f' g' = .tuple #[.bool false, .int .i64 1] := by unfold areR; rw [if_neg (by simp [h1])]
    rw [hr]
    clear h1 hr
    go_enter Try.func11, Try.ntmps11
    go_wp2_with fail
    refine (C1.out _).mono ?_
    rintro e w1 ⟨rfl, hb⟩
    have HH1 := HH0.call hb
    clear hb HH0
    go_wp2
    go_ret2
    exact ⟨rfl, HH1.low⟩
  rw [h1] at C1
  rcases h2 : desB n' f' g' with _ | _
  · rw [h2] at C2
    have hr : areR n f g n' f' g' = .tuple #[.bool false, .int .i64 1] := by unfold areR; rw [if_neg (by simp [h2])]
    rw [hr]
    clear h1 h2 hr
    go_enter Try.func11, Try.ntmps11
    go_wp2_with fail
    refine (C1.out _).mono ?_
    rintro e w1 ⟨rfl, hb⟩
    have HH1 := HH0.call hb
    have ce := HH1.cells 0 rfl
    clear hb HH0
    go_wp2_with fail
    refine (C2.out _).mono ?_
    rintro e w2 ⟨rfl, hb⟩
    have HH2 := HH1.call hb
    clear hb HH1 ce
    go_wp2
    go_ret2
    exact ⟨rfl, HH2.low⟩
  rw [h2] at C2
  obtain ⟨m, rfl, hd⟩ := desB_true h1
  obtain ⟨k, rfl, he⟩ := desB_true h2
  have hr : areR (m : Int) f g (k : Int) f' g' = .tuple #[.bool (alkB f g m f' g' k), .int .i64 0] := by unfold areR; rw [if_pos ⟨h1, h2⟩, Int.toNat_natCast, Int.toNat_natCast]
  rw [hr]
  have hA := alike_can hd he
  have C3 := hide fun w => canonical_any f g m hd w
  have C4 := hide fun w => canonical_any f' g' k he w
  generalize alkB f g m f' g' k = B at *
  generalize canS f g m (m - 1) = S at *
  generalize canS f' g' k (k - 1) = S' at *
  clear h1 h2 hr hd he
  go_enter Try.func11, Try.ntmps11
  go_wp2_with fail
  refine (C1.out _).mono ?_
  rintro e w1 ⟨rfl, hb⟩
  have HH1 := HH0.call hb
  have ce := HH1.cells 0 rfl
  clear hb HH0
  go_wp2_with fail
  refine (C2.out _).mono ?_
  rintro e w2 ⟨rfl, hb⟩
  have HH2 := HH1.call hb
  clear hb HH1 ce
  go_wp2
  refine Rd.region_P (w0 := w) [pBlk (w.heap.size + 1) (dv (k : Int) f' g') 29, pBlk w.heap.size (dv (m : Int) f g) 29] [pBlk (w.heap.size + 1) (dv (k : Int) f' g') 29, pBlk w.heap.size (dv (m : Int) f g) 29] [] (.q 0 <| .q 1 <| .q 2 <| .q 3 <| .q 4 <| .q 5 <| .q 6 .fin) HH2 (.refl _) (by kernel_rfl) (by kernel_rfl) (by kernel_rfl) ?_
  iterate 1
    apply Rd.v_q
    · simp only [List.getElem?_toArray, List.getElem?_cons_zero, List.getElem?_cons_succ]; exact rfl
    · rfl
    · go_simp
    · intro wx hx
      have q0 := hx.cells 0 rfl
      have q1 := hx.cells 1 rfl
      unfold atG
      go_simp
      simp only [uponG]
      exact ⟨by trivial, rfl⟩
  iterate 1
    apply Rd.v_q
    · simp only [List.getElem?_toArray, List.getElem?_cons_zero, List.getElem?_cons_succ]; exact rfl
    · rfl
    · go_simp
    · intro wx hx
      have q0 := hx.cells 0 rfl
      have q1 := hx.cells 1 rfl
      unfold atG
      go_simp
      simp only [uponG]
      exact ⟨by trivial, C3.out wx⟩
  iterate 1
    apply Rd.v_q
    · simp only [List.getElem?_toArray, List.getElem?_cons_zero, List.getElem?_cons_succ]; exact rfl
    · rfl
    · go_simp
    · intro wx hx
      have q0 := hx.cells 0 rfl
      have q1 := hx.cells 1 rfl
      unfold atG
      go_simp
      simp only [uponG]
      exact ⟨by trivial, rfl⟩
  iterate 1
    apply Rd.v_q
    · simp only [List.getElem?_toArray, List.getElem?_cons_zero, List.getElem?_cons_succ]; exact rfl
    · rfl
    · go_simp
    · intro wx hx
      have q0 := hx.cells 0 rfl
      have q1 := hx.cells 1 rfl
      unfold atG
      go_simp
      simp only [uponG]
      exact ⟨by trivial, C4.out wx⟩
  iterate 3
    apply Rd.v_q
    · simp only [List.getElem?_toArray, List.getElem?_cons_zero, List.getElem?_cons_succ]; exact rfl
    · rfl
    · go_simp
    · intro wx hx
      have q0 := hx.cells 0 rfl
      have q1 := hx.cells 1 rfl
      unfold atG
      go_simp
      simp only [uponG]
      exact ⟨by trivial, rfl⟩
  rintro wq hq -
  go_simp
  go_wp2
  go_ret2
  exact ⟨rfl, hq.low⟩

set_option maxRecDepth 100000 in
set_option maxHeartbeats 2000000 in
theorem sAreAlike_any (n : Int) (f g : Nat → Nat) (hf : ∀ i, f i < 256) (hg : ∀ i, g i < 256) (n' : Int) (f' g' : Nat → Nat) (hf' : ∀ i, f' i < 256) (hg' : ∀ i, g' i < 256) (w : World) :
    Calls Try.prog 9 #[.agg (dv n f g), .agg (dv n' f' g')] w fun e w' => e = .returned (areR n f g n' f' g') ∧ Below w.heap.size w w' := by
  have C1 := hide fun w => sIs_any n f g hf hg w
  have C2 := hide fun w => sIs_any n' f' g' hf' hg' w
  clear hf hg hf' hg'
  have HH0 := ((Holds.start w).blk (dv n f g) 29 w.heap.size rfl).blk (dv n' f' g') 29 (w.heap.size + 1) (by simp)
  rcases h1 : desB n f g with _ | _
  · rw [h1] at C1
    have hr : areR n f g n' f' g' = .tuple #[.bool false, .int .i64 1] := by unfold areR; rw [if_neg (by simp [h1])]
    rw [hr]
    clear h1 hr
    go_enter Try.func9, Try.ntmps9
    go_wp2_with fail
    refine (C1.out _).mono ?_
    rintro e w1 ⟨rfl, hb⟩
    have HH1 := HH0.call hb
    clear hb HH0
    go_wp2
    go_ret2
    exact ⟨rfl, HH1.low⟩
  rw [h1] at C1
  rcases h2 : desB n' f' g' with _ | _
  · rw [h2] at C2
    have hr : areR n f g n' f' g' = .tuple #[.bool false, .int .i64 1] := by unfold areR; rw [if_neg (by simp [h2])]
    rw [hr]
    clear h1 h2 hr
    go_enter Try.func9, Try.ntmps9
    go_wp2_with fail
    refine (C1.out _).mono ?_
    rintro e w1 ⟨rfl, hb⟩
    have HH1 := HH0.call hb
    have ce := HH1.cells 0 rfl
    clear hb HH0
    go_wp2_with fail
    refine (C2.out _).mono ?_
    rintro e w2 ⟨rfl, hb⟩
    have HH2 := HH1.call hb
    clear hb HH1 ce
    go_wp2
    go_ret2
    exact ⟨rfl, HH2.low⟩
  rw [h2] at C2
  obtain ⟨m, rfl, hd⟩ := desB_true h1
  obtain ⟨k, rfl, he⟩ := desB_true h2
  have hr : areR (m : Int) f g (k : Int) f' g' = .tuple #[.bool (alkB f g m f' g' k), .int .i64 0] := by unfold areR; rw [if_pos ⟨h1, h2⟩, Int.toNat_natCast, Int.toNat_natCast]
  rw [hr]
  have C3 := hide fun w => sAlike_any f g m hd f' g' k he w
  generalize alkB f g m f' g' k = B at *
  clear h1 h2 hr hd he
  go_enter Try.func9, Try.ntmps9
  go_wp2_with fail
  refine (C1.out _).mono ?_
  rintro e w1 ⟨rfl, hb⟩
  have HH1 := HH0.call hb
  have ce := HH1.cells 0 rfl
  clear hb HH0
  go_wp2_with fail
  refine (C2.out _).mono ?_
  rintro e w2 ⟨rfl, hb⟩
  have HH2 := HH1.call hb
  clear hb HH1 ce
  have cd2 := HH2.cells 1 rfl
  have ce2 := HH2.cells 0 rfl
  go_wp2_with fail
  refine (C3.out _).mono ?_
  rintro e w3 ⟨rfl, hb⟩
  have HH3 := HH2.call hb
  clear hb cd2 ce2
  go_wp2
  go_ret2
  exact ⟨rfl, HH3.low⟩

set_option maxRecDepth 100000 in
set_option maxHeartbeats 2000000 in
theorem fnExactAreAlike_walk (n : Int) (f g : Nat → Nat) (_hn : -9223372036854775808 ≤ n ∧ n ≤ 9223372036854775807) (hf : ∀ i, f i < 256) (hg : ∀ i, g i < 256) (n' : Int) (f' g' : Nat → Nat) (_hn' : -9223372036854775808 ≤ n' ∧ n' ≤ 9223372036854775807) (hf' : ∀ i, f' i < 256) (hg' : ∀ i, g' i < 256) (w : World) :
    Calls Try.prog 3 #[.agg (dv n f g), .agg (dv n' f' g')] w fun e w' => e = .returned (.bool true) ∧ Below w.heap.size w w' := by
  clear _hn _hn'
  obtain ⟨a, c, hR⟩ := areR_eq n f g n' f' g'
  have c1 := fun w => areAlike_any n f g hf hg n' f' g' hf' hg' w
  have c2 := fun w => sAreAlike_any n f g hf hg n' f' g' hf' hg' w
  rw [hR] at c1 c2
  have C1 := hide c1; clear c1
  have C2 := hide c2; clear c2
  have TD := hide fun w => toDessin_any n f g w
  have TE := hide fun w => toDessin_any n' f' g' w
  clear hR hf hg hf' hg'
  have hne : (c != c) = false := by simp
  have hna : (a != a) = false := by simp
  have HH0 := ((Holds.start w).blk (dv n f g) 24 w.heap.size rfl).blk (dv n' f' g') 24 (w.heap.size + 1) (by simp)
  go_enter Try.func3, Try.ntmps3
  go_wp2
  refine Rd.region_P (w0 := w) [pBlk (w.heap.size + 1) (dv n' f' g') 24, pBlk w.heap.size (dv n f g) 24] [pBlk (w.heap.size + 1) (dv n' f' g') 24, pBlk w.heap.size (dv n f g) 24] [] (.q 0 <| .q 1 <| .q 2 <| .q 3 <| .q 4 <| .q 5 <| .q 6 <| .q 7 <| .q 8 <| .q 9 .fin) HH0 (.refl _) (by kernel_rfl) (by kernel_rfl) (by kernel_rfl) ?_
  iterate 1
    apply Rd.v_q
    · simp only [List.getElem?_toArray, List.getElem?_cons_zero, List.getElem?_cons_succ]; exact rfl
    · rfl
    · go_simp
    · intro wx hx
      have q0 := hx.cells 0 rfl
      have q1 := hx.cells 1 rfl
      unfold atG
      go_simp
      simp only [uponG]
      exact ⟨by trivial, rfl⟩
  iterate 1
    apply Rd.v_q
    · simp only [List.getElem?_toArray, List.getElem?_cons_zero, List.getElem?_cons_succ]; exact rfl
    · rfl
    · go_simp
    · intro wx hx
      have q0 := hx.cells 0 rfl
      have q1 := hx.cells 1 rfl
      unfold atG
      go_simp
      simp only [uponG]
      exact ⟨by trivial, TD.out wx⟩
  iterate 1
    apply Rd.v_q
    · simp only [List.getElem?_toArray, List.getElem?_cons_zero, List.getElem?_cons_succ]; exact rfl
    · rfl
    · go_simp
    · intro wx hx
      have q0 := hx.cells 0 rfl
      have q1 := hx.cells 1 rfl
      unfold atG
      go_simp
      simp only [uponG]
      exact ⟨by trivial, rfl⟩
  iterate 1
    apply Rd.v_q
    · simp only [List.getElem?_toArray, List.getElem?_cons_zero, List.getElem?_cons_succ]; exact rfl
    · rfl
    · go_simp
    · intro wx hx
      have q0 := hx.cells 0 rfl
      have q1 := hx.cells 1 rfl
      unfold atG
      go_simp
      simp only [uponG]
      exact ⟨by trivial, TE.out wx⟩
  iterate 1
    apply Rd.v_q
    · simp only [List.getElem?_toArray, List.getElem?_cons_zero, List.getElem?_cons_succ]; exact rfl
    · rfl
    · go_simp
    · intro wx hx
      have q0 := hx.cells 0 rfl
      have q1 := hx.cells 1 rfl
      unfold atG
      go_simp
      simp only [uponG]
      exact ⟨by trivial, C2.out wx⟩
  iterate 5
    apply Rd.v_q
    · simp only [List.getElem?_toArray, List.getElem?_cons_zero, List.getElem?_cons_succ]; exact rfl
    · rfl
    · go_simp
    · intro wx hx
      have q0 := hx.cells 0 rfl
      have q1 := hx.cells 1 rfl
      unfold atG
      go_simp
      simp only [uponG]
      exact ⟨by trivial, rfl⟩
  rintro wa hwa -
  go_simp
  go_wp2
  refine Rd.region_P (w0 := w) [pBlk (w.heap.size + 1) (dv n' f' g') 24, pBlk w.heap.size (dv n f g) 24] [pBlk (w.heap.size + 1) (dv n' f' g') 24, pBlk w.heap.size (dv n f g) 24] [] (.q 0 <| .q 1 <| .q 2 <| .q 3 <| .q 4 <| .q 5 <| .q 6 <| .q 7 <| .q 8 <| .q 9 .fin) hwa (.refl _) (by kernel_rfl) (by kernel_rfl) (by kernel_rfl) ?_
  iterate 1
    apply Rd.v_q
    · simp only [List.getElem?_toArray, List.getElem?_cons_zero, List.getElem?_cons_succ]; exact rfl
    · rfl
    · go_simp
    · intro wx hx
      have q0 := hx.cells 0 rfl
      have q1 := hx.cells 1 rfl
      unfold atG
      go_simp
      simp only [uponG]
      exact ⟨by trivial, rfl⟩
  iterate 1
    apply Rd.v_q
    · simp only [List.getElem?_toArray, List.getElem?_cons_zero, List.getElem?_cons_succ]; exact rfl
    · rfl
    · go_simp
    · intro wx hx
      have q0 := hx.cells 0 rfl
      have q1 := hx.cells 1 rfl
      unfold atG
      go_simp
      simp only [uponG]
      exact ⟨by trivial, TD.out wx⟩
  iterate 1
    apply Rd.v_q
    · simp only [List.getElem?_toArray, List.getElem?_cons_zero, List.getElem?_cons_succ]; exact rfl
    · rfl
    · go_simp
    · intro wx hx
      have q0 := hx.cells 0 rfl
      have q1 := hx.cells 1 rfl
      unfold atG
      go_simp
      simp only [uponG]
      exact ⟨by trivial, rfl⟩
  iterate 1
    apply Rd.v_q
    · simp only [List.getElem?_toArray, List.getElem?_cons_zero, List.getElem?_cons_succ]; exact rfl
    · rfl
    · go_simp
    · intro wx hx
      have q0 := hx.cells 0 rfl
      have q1 := hx.cells 1 rfl
      unfold atG
      go_simp
      simp only [uponG]
      exact ⟨by trivial, TE.out wx⟩
  iterate 1
    apply Rd.v_q
    · simp only [List.getElem?_toArray, List.getElem?_cons_zero, List.getElem?_cons_succ]; exact rfl
    · rfl
    · go_simp
    · intro wx hx
      have q0 := hx.cells 0 rfl
      have q1 := hx.cells 1 rfl
      unfold atG
      go_simp
      simp only [uponG]
      exact ⟨by trivial, C1.out wx⟩
  iterate 5
    apply Rd.v_q
    · simp only [List.getElem?_toArray, List.getElem?_cons_zero, List.getElem?_cons_succ]; exact rfl
    · rfl
    · go_simp
    · intro wx hx
      have q0 := hx.cells 0 rfl
      have q1 := hx.cells 1 rfl
      unfold atG
      go_simp
      simp only [uponG]
      exact ⟨by trivial, rfl⟩
  rintro wb hwb -
  go_simp
  go_wp2
  go_ret
  exact ⟨rfl, hwb.low⟩

noncomputable def chiR (n : Int) (f g : Nat → Nat) : Value := if desB n f g = true then .tuple #[.bool (!alkB f g n.toNat (backF f n.toNat) (backF g n.toNat) n.toNat), .int .i64 0] else .tuple #[.bool false, .int .i64 1]
theorem chiR_eq (n : Int) (f g : Nat → Nat) : ∃ (a : Bool) (c : Int), chiR n f g = .tuple #[.bool a, .int .i64 c] := by
  unfold chiR; split
  · exact ⟨_, _, rfl⟩
  · exact ⟨_, _, rfl⟩

set_option maxRecDepth 100000 in
set_option maxHeartbeats 2000000 in
theorem isChiral_any (n : Int) (f g : Nat → Nat) (hf : ∀ i, f i < 256) (hg : ∀ i, g i < 256) (w : World) :
    Calls Try.prog 18 #[.agg (dv n f g)] w fun e w' => e = .returned (chiR n f g) ∧ Below w.heap.size w w' := by
  have C1 := hide fun w => isDessin_any n f g hf hg w
  have HH0 := (Holds.start w).blk (dv n f g) 29 w.heap.size rfl
  clear hf hg
  rcases h1 : desB n f g with _ | _
  · rw [h1] at C1
    have hr : chiR n f g = .tuple #[.bool false, .int .i64 1] := by unfold chiR; rw [if_neg (by simp [h1])]
    rw [hr]
    clear h1 hr
    go_enter Try.func18, Try.ntmps18
    go_wp2_with fail
    refine (C1.out _).mono ?_
    rintro e w1 ⟨rfl, hb⟩
    have HH1 := HH0.call hb
    clear hb HH0
    go_wp2
    go_ret2
    exact ⟨rfl, HH1.low⟩
  rw [h1] at C1
  obtain ⟨m, rfl, hd⟩ := desB_true h1
  have hr : chiR (m : Int) f g = .tuple #[.bool (!alkB f g m (backF f m) (backF g m) m), .int .i64 0] := by unfold chiR; rw [if_pos h1, Int.toNat_natCast]
  rw [hr]
  have he := conn_back hd
  have hA := alike_can hd he
  have C3 := hide fun w => canonical_any f g m hd w
  have C4 := hide fun w => mirror_any f g m hd w
  have C5 := hide fun w => canonical_any (backF f m) (backF g m) m he w
  generalize alkB f g m (backF f m) (backF g m) m = B at *
  generalize canS f g m (m - 1) = S at *
  generalize canS (backF f m) (backF g m) m (m - 1) = S' at *
  generalize backF f m = F at *
  generalize backF g m = G at *
  clear h1 hr hd he
  go_enter Try.func18, Try.ntmps18
  go_wp2_with fail
  refine (C1.out _).mono ?_
  rintro e w1 ⟨rfl, hb⟩
  have HH1 := HH0.call hb
  clear hb HH0
  go_wp2
  refine Rd.region_P (w0 := w) [pBlk w.heap.size (dv (m : Int) f g) 29] [pBlk w.heap.size (dv (m : Int) f g) 29] [] (.q 0 <| .q 1 <| .q 2 <| .q 3 <| .q 4 <| .q 5 <| .q 6 <| .q 7 .fin) HH1 (.refl _) (by kernel_rfl) (by kernel_rfl) (by kernel_rfl) ?_
  iterate 1
    apply Rd.v_q
    · simp only [List.getElem?_toArray, List.getElem?_cons_zero, List.getElem?_cons_succ]; exact rfl
    · rfl
    · go_simp
    · intro wx hx
      have q0 := hx.cells 0 rfl
      unfold atG
      go_simp
      simp only [uponG]
      exact ⟨by trivial, rfl⟩
  iterate 1
    apply Rd.v_q
    · simp only [List.getElem?_toArray, List.getElem?_cons_zero, List.getElem?_cons_succ]; exact rfl
    · rfl
    · go_simp
    · intro wx hx
      have q0 := hx.cells 0 rfl
      unfold atG
      go_simp
      simp only [uponG]
      exact ⟨by trivial, C3.out wx⟩
  iterate 1
    apply Rd.v_q
    · simp only [List.getElem?_toArray, List.getElem?_cons_zero, List.getElem?_cons_succ]; exact rfl
    · rfl
    · go_simp
    · intro wx hx
      have q0 := hx.cells 0 rfl
      unfold atG
      go_simp
      simp only [uponG]
      exact ⟨by trivial, rfl⟩
  iterate 1
    apply Rd.v_q
    · simp only [List.getElem?_toArray, List.getElem?_cons_zero, List.getElem?_cons_succ]; exact rfl
    · rfl
    · go_simp
    · intro wx hx
      have q0 := hx.cells 0 rfl
      unfold atG
      go_simp
      simp only [uponG]
      exact ⟨by trivial, C4.out wx⟩
  iterate 1
    apply Rd.v_q
    · simp only [List.getElem?_toArray, List.getElem?_cons_zero, List.getElem?_cons_succ]; exact rfl
    · rfl
    · go_simp
    · intro wx hx
      have q0 := hx.cells 0 rfl
      unfold atG
      go_simp
      simp only [uponG]
      exact ⟨by trivial, C5.out wx⟩
  iterate 3
    apply Rd.v_q
    · simp only [List.getElem?_toArray, List.getElem?_cons_zero, List.getElem?_cons_succ]; exact rfl
    · rfl
    · go_simp
    · intro wx hx
      have q0 := hx.cells 0 rfl
      unfold atG
      go_simp
      simp only [uponG]
      exact ⟨by trivial, rfl⟩
  rintro wq hq -
  go_simp
  go_wp2
  go_ret2
  exact ⟨rfl, hq.low⟩

set_option maxRecDepth 100000 in
set_option maxHeartbeats 2000000 in
theorem sIsChiral_any (n : Int) (f g : Nat → Nat) (hf : ∀ i, f i < 256) (hg : ∀ i, g i < 256) (w : World) :
    Calls Try.prog 17 #[.agg (dv n f g)] w fun e w' => e = .returned (chiR n f g) ∧ Below w.heap.size w w' := by
  have C1 := hide fun w => sIs_any n f g hf hg w
  have HH0 := (Holds.start w).blk (dv n f g) 29 w.heap.size rfl
  clear hf hg
  rcases h1 : desB n f g with _ | _
  · rw [h1] at C1
    have hr : chiR n f g = .tuple #[.bool false, .int .i64 1] := by unfold chiR; rw [if_neg (by simp [h1])]
    rw [hr]
    clear h1 hr
    go_enter Try.func17, Try.ntmps17
    go_wp2_with fail
    refine (C1.out _).mono ?_
    rintro e w1 ⟨rfl, hb⟩
    have HH1 := HH0.call hb
    clear hb HH0
    go_wp2
    go_ret2
    exact ⟨rfl, HH1.low⟩
  rw [h1] at C1
  obtain ⟨m, rfl, hd⟩ := desB_true h1
  have hr : chiR (m : Int) f g = .tuple #[.bool (!alkB f g m (backF f m) (backF g m) m), .int .i64 0] := by unfold chiR; rw [if_pos h1, Int.toNat_natCast]
  rw [hr]
  have he := conn_back hd
  have C3 := hide fun w => sAlike_any f g m hd (backF f m) (backF g m) m he w
  have C4 := hide fun w => sMirror_any f g m hd w
  generalize alkB f g m (backF f m) (backF g m) m = B at *
  generalize backF f m = F at *
  generalize backF g m = G at *
  clear h1 hr hd he
  go_enter Try.func17, Try.ntmps17
  go_wp2_with fail
  refine (C1.out _).mono ?_
  rintro e w1 ⟨rfl, hb⟩
  have HH1 := HH0.call hb
  clear hb HH0
  go_wp2
  refine Rd.region_P (w0 := w) [pBlk w.heap.size (dv (m : Int) f g) 29] [pBlk w.heap.size (dv (m : Int) f g) 29] [] (.q 0 <| .q 1 <| .q 2 <| .q 3 <| .q 4 <| .q 5 <| .q 6 .fin) HH1 (.refl _) (by kernel_rfl) (by kernel_rfl) (by kernel_rfl) ?_
  iterate 2
    apply Rd.v_q
    · simp only [List.getElem?_toArray, List.getElem?_cons_zero, List.getElem?_cons_succ]; exact rfl
    · rfl
    · go_simp
    · intro wx hx
      have q0 := hx.cells 0 rfl
      unfold atG
      go_simp
      simp only [uponG]
      exact ⟨by trivial, rfl⟩
  iterate 1
    apply Rd.v_q
    · simp only [List.getElem?_toArray, List.getElem?_cons_zero, List.getElem?_cons_succ]; exact rfl
    · rfl
    · go_simp
    · intro wx hx
      have q0 := hx.cells 0 rfl
      unfold atG
      go_simp
      simp only [uponG]
      exact ⟨by trivial, C4.out wx⟩
  iterate 1
    apply Rd.v_q
    · simp only [List.getElem?_toArray, List.getElem?_cons_zero, List.getElem?_cons_succ]; exact rfl
    · rfl
    · go_simp
    · intro wx hx
      have q0 := hx.cells 0 rfl
      unfold atG
      go_simp
      simp only [uponG]
      exact ⟨by trivial, C3.out wx⟩
  iterate 3
    apply Rd.v_q
    · simp only [List.getElem?_toArray, List.getElem?_cons_zero, List.getElem?_cons_succ]; exact rfl
    · rfl
    · go_simp
    · intro wx hx
      have q0 := hx.cells 0 rfl
      unfold atG
      go_simp
      simp only [uponG]
      exact ⟨by trivial, rfl⟩
  rintro wq hq -
  go_simp
  go_wp2
  go_ret2
  exact ⟨rfl, hq.low⟩

end Go.Proofs.Ytcddglkecfnhmab
