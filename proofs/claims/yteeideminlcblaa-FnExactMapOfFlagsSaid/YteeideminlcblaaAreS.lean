/- spec.l07Are, spec.AreFlags -/
import Derived.Test.YteeideminlcblaaAre
import Derived.Test.YteeideminlcblaaSPerm
import Derived.Test.YteeideminlcblaaRegW
namespace Go.Proofs.Yteeideminlcblaa
open Go.RowKit

@[go_sem] theorem guardQ : Try.prog.eqGuardType Try.prog.depth 48 = false := by kernel_rfl
@[irreducible] def sameQ (f g : Nat → Nat) : Bool := (List.range 32).all fun i => ((f i : Nat) : Int) == ((g i : Nat) : Int)
theorem sameQ_iff (f g : Nat → Nat) : sameQ f g = true ↔ ∀ i, i < 32 → f i = g i := by unfold sameQ; simp [Int.ofNat_inj]
theorem run_itemsQ (f g : Nat → Nat) (w : World) : ∀ is : List Nat, (∀ i ∈ is, i < 32) →
    (Op.eqItems 9999 5 1 (qv f) (qv g) is).run Try.prog w = .ok (is.all fun i => ((f i : Nat) : Int) == ((g i : Nat) : Int)) w
  | [], _ => by simp [Op.eqItems]
  | i :: is, h => by
    have hi := h i (by simp)
    have ih := run_itemsQ f g w is fun j hj => h j (by simp [hj])
    have h1 := run_part_plain w plain8 (qv_get f hi)
    have h2 := run_part_plain w plain8 (qv_get g hi)
    have h3 := run_equalIn_int w 9998 5 .u8 .u8 (f i) (g i) Try.underlying5
    simp only [Op.eqItems, Nat.mul_one, Sem.run_bind, h1, h2, h3, Result.andThen_ok, List.all_cons]
    rcases hb : (((f i : Nat) : Int) == ((g i : Nat) : Int)) with _ | _
    · simp
    · simp [ih]
@[go_sem] theorem run_sameQ (f g : Nat → Nat) (w : World) : (Op.equalIn 10000 48 (.agg (qv f)) (.agg (qv g))).run Try.prog w = .ok (sameQ f g) w := by
  obtain ⟨i0, hi, _⟩ := info_parts info8
  have h := run_equalIn_array w 9999 (qv f) (qv g) Try.underlying48 hi
  rw [cells8] at h
  rw [h, run_itemsQ f g w _ (by simp)]
  unfold sameQ; rfl

@[go_sem ↓] theorem run_eqlQ (f g : Nat → Nat) (w : World) : (binOp .eql 48 (.agg (qv f)) (.agg (qv g))).run Try.prog w = .ok (.bool (sameQ f g)) w := by
  rw [run_eql_struct, run_sameQ]; rfl

theorem in07_any (n a b : Int) (w : World) : Calls Try.prog 35 #[.int .i64 n, .int .i64 a, .int .i64 b] w fun e w' => e = .returned (.bool (decide (a ≤ n ∧ n ≤ b))) ∧ Below w.heap.size w w' := by
  by_cases h : a ≤ n ∧ n ≤ b
  · rw [decide_eq_true h]; exact (in_yes n a b w h.1 h.2).mono fun e w' h => ⟨h.1, by rw [← h.2]; exact Below.refl _ _⟩
  · rw [decide_eq_false h]; exact (in_no n a b w h).mono fun e w' h => ⟨h.1, by rw [← h.2]; exact Below.refl _ _⟩

theorem one_set {ps : List (Nat → Nat)} {n : Nat} (hk : Keeps ps n) (hu : Undo ps n) (hn : n ≤ 32) (h0 : 0 < n) : (szL ps n).length = 1 ↔ (cls ps 0).length = n := by
  have hd0 : hdB ps 0 = true := hdB_iff.2 fun y _ => Nat.zero_le y
  have h1 : szL ps 1 = [(cls ps 0).length] := by rw [szL_yes hd0]; rfl
  have hsum := szL_sum hk hu hn
  constructor
  · intro hl
    obtain ⟨a, ha⟩ := List.length_eq_one_iff.1 hl
    rw [ha] at hsum
    have hmem : (cls ps 0).length ∈ szL ps n := by unfold szL; exact List.mem_map.2 ⟨0, List.mem_filter.2 ⟨List.mem_range.2 h0, hd0⟩, rfl⟩
    rw [ha] at hmem
    simp at hmem hsum
    omega
  · intro hl
    have key : ∀ k, 1 ≤ k → k ≤ n → szL ps k = [(cls ps 0).length] := by
      intro k
      induction k with
      | zero => intro h; omega
      | succ k ih =>
        intro _ hkn
        by_cases c : k = 0
        · subst c; exact h1
        · rw [szL_no, ih (by omega) (by omega)]
          rcases e : hdB ps k with _ | _
          · rfl
          · exfalso
            have hin : k ∈ cls ps 0 := by
              have h2 := nodup_le (k :: cls ps 0) (List.range n)
              by_cases hm : k ∈ cls ps 0
              · exact hm
              · have := h2 (List.nodup_cons.2 ⟨hm, cls_nodup hk h0⟩) fun y hy => by
                  rcases List.mem_cons.1 hy with rfl | hy
                  · exact List.mem_range.2 (by omega)
                  · exact List.mem_range.2 (cls_lt hk h0 hy)
                rw [List.length_cons, List.length_range] at this
                omega
            have := hdB_iff.1 e 0 (cls_symm hk hu hn h0 hin)
            omega
    rw [key n (by omega) (Nat.le_refl _)]; rfl
theorem both_at {a b : Nat → Nat} {n x : Nat} (h : x < n) : bothF a b n x = b (a x) := by unfold bothF upto; rw [if_pos h]
theorem both_out {a b : Nat → Nat} {n x : Nat} (h : n ≤ x) : bothF a b n x = 0 := by unfold bothF upto; rw [if_neg (by omega)]
/-- what the model asks of two of the lists -/
theorem both_iff {c s : Nat → Nat} {n : Nat} (hn : n ≤ 32) (hc : prP c n) (hs : prP s n) : (sameQ (bothF c s n) (bothF s c n) = true ∧ prP (bothF c s n) n) ↔ ∀ x, x < n → s (c x) ≠ x ∧ s (c x) = c (s x) := by
  rw [sameQ_iff]
  constructor
  · rintro ⟨h1, h2⟩ x hx
    have e1 := h1 x (by omega)
    have e2 := (h2.1 x hx).2.1
    rw [both_at hx] at e1 e2
    rw [both_at hx] at e1
    exact ⟨e2, e1⟩
  · intro h
    refine ⟨fun x _ => ?_, fun x hx => ?_, fun x hx _ => both_out hx⟩
    · rcases Nat.lt_or_ge x n with d | d
      · rw [both_at d, both_at d]; exact (h x d).2
      · rw [both_out d, both_out d]
    · have l1 := hc.keeps hx
      have l2 := hs.keeps l1
      have l3 := hs.keeps hx
      rw [both_at hx, both_at l2]
      refine ⟨l2, (h x hx).1, ?_⟩
      rw [(h x hx).2, (hc.1 _ l3).2.2, (hs.1 x hx).2.2]
theorem fl_iff {c t s : Nat → Nat} {n : Nat} (h4 : 4 ≤ n) (h32 : n ≤ 32) (hm : n % 4 = 0) (hc : prP c n) (ht : prP t n) (hs : prP s n) :
    flP n c t s ↔ (sameQ (bothF c s n) (bothF s c n) = true ∧ prP (bothF c s n) n) ∧ (szL [c, t, s] n).length = 1 := by
  rw [both_iff h32 hc hs, one_set (keeps3 hc ht hs) (undo3 hc ht hs) h32 (by omega)]
  constructor
  · rintro ⟨_, _, _, _, h1, h2⟩; exact ⟨h1, h2⟩
  · rintro ⟨h1, h2⟩; exact ⟨⟨h4, h32, hm⟩, hc, ht, hs, h1, h2⟩

set_option maxRecDepth 100000 in
set_option maxHeartbeats 3000000 in
theorem sAre_any (n : Int) (c t s : Nat → Nat) (hc : ∀ i, c i < 256) (ht : ∀ i, t i < 256) (hs : ∀ i, s i < 256) (w : World) :
    Calls Try.prog 63 #[.agg (fv n c t s)] w fun e w' => e = .returned (.bool (flB n c t s)) ∧ Below w.heap.size w w' := by
  have HH0 := (Holds.start w).blk (fv n c t s) 53 w.heap.size rfl
  have hn := fv_n n c t s
  have n00 := HH0.cell 0 rfl hn
  have C0 := hide fun w => in07_any n 4 32 w
  by_cases hr : 4 ≤ n ∧ n ≤ 32
  rotate_left
  · rw [flB_out hr]
    rw [decide_eq_false hr] at C0
    go_enter Try.func63, Try.ntmps63
    go_wp2_with fail
    refine (C0.out _).mono ?_
    rintro e w0 ⟨rfl, hb⟩
    have HI0 := HH0.call hb
    have cd0 := HI0.cells 0 rfl
    have n0 := HI0.cell 0 rfl hn
    clear hb
    go_wp2
    go_ret
    exact ⟨rfl, HI0.low⟩
  rw [decide_eq_true hr] at C0
  obtain ⟨n, rfl⟩ := Int.eq_ofNat_of_zero_le (show 0 ≤ n by omega)
  have h4 : 4 ≤ n := by omega
  have h32 : n ≤ 32 := by omega
  have hm4 : (n : Int).tmod 4 = ((n % 4 : Nat) : Int) := by rw [Int.natCast_emod]; rfl
  clear hr
  by_cases hmod : n % 4 = 0
  rotate_left
  · rw [flB_no fun h => hmod h.1.2.2]
    have d3 : (((n % 4 : Nat) : Int) != 0) = true := by simp; omega
    have d4 : ¬ (n : Int) % 4 = 0 := by omega
    go_enter Try.func63, Try.ntmps63
    go_wp2_with fail
    refine (C0.out _).mono ?_
    rintro e w0 ⟨rfl, hb⟩
    have HI0 := HH0.call hb
    have cd0 := HI0.cells 0 rfl
    have n0 := HI0.cell 0 rfl hn
    clear hb
    go_wp2
    go_ret
    exact ⟨rfl, HI0.low⟩
  have d3 : (((n % 4 : Nat) : Int) != 0) = false := by simp [hmod]
  have d4 : (n : Int) % 4 = 0 := by omega
  have HM := hide hmod; clear hmod
  have C1 := hide fun w => sPairs_any c hc n h32 w
  have C2 := hide fun w => sPairs_any t ht n h32 w
  have C3 := hide fun w => sPairs_any s hs n h32 w
  rcases hp1 : prB c n with _ | _
  · rw [flB_no fun h => by have := prB_yes h.2.1; rw [hp1] at this; cases this]
    rw [hp1] at C1
    go_enter Try.func63, Try.ntmps63
    go_wp2_with fail
    refine (C0.out _).mono ?_
    rintro e w0 ⟨rfl, hb⟩
    have HI0 := HH0.call hb
    have cd0 := HI0.cells 0 rfl
    have n0 := HI0.cell 0 rfl hn
    clear hb
    go_wp2_with fail
    refine (C1.out _).mono ?_
    rintro e w1 ⟨rfl, hb⟩
    have HI1 := HI0.call hb
    have cd1 := HI1.cells 0 rfl
    have n1 := HI1.cell 0 rfl hn
    clear hb cd0 n0
    go_wp2
    go_ret
    exact ⟨rfl, HI1.low⟩
  rw [hp1] at C1
  rcases hp2 : prB t n with _ | _
  · rw [flB_no fun h => by have := prB_yes h.2.2.1; rw [hp2] at this; cases this]
    rw [hp2] at C2
    go_enter Try.func63, Try.ntmps63
    go_wp2_with fail
    refine (C0.out _).mono ?_
    rintro e w0 ⟨rfl, hb⟩
    have HI0 := HH0.call hb
    have cd0 := HI0.cells 0 rfl
    have n0 := HI0.cell 0 rfl hn
    clear hb
    go_wp2_with fail
    refine (C1.out _).mono ?_
    rintro e w1 ⟨rfl, hb⟩
    have HI1 := HI0.call hb
    have cd1 := HI1.cells 0 rfl
    have n1 := HI1.cell 0 rfl hn
    clear hb cd0 n0
    go_wp2_with fail
    refine (C2.out _).mono ?_
    rintro e w2 ⟨rfl, hb⟩
    have HI2 := HI1.call hb
    have cd2 := HI2.cells 0 rfl
    have n2 := HI2.cell 0 rfl hn
    clear hb cd1 n1
    go_wp2
    go_ret
    exact ⟨rfl, HI2.low⟩
  rw [hp2] at C2
  rcases hp3 : prB s n with _ | _
  · rw [flB_no fun h => by have := prB_yes h.2.2.2.1; rw [hp3] at this; cases this]
    rw [hp3] at C3
    go_enter Try.func63, Try.ntmps63
    go_wp2_with fail
    refine (C0.out _).mono ?_
    rintro e w0 ⟨rfl, hb⟩
    have HI0 := HH0.call hb
    have cd0 := HI0.cells 0 rfl
    have n0 := HI0.cell 0 rfl hn
    clear hb
    go_wp2_with fail
    refine (C1.out _).mono ?_
    rintro e w1 ⟨rfl, hb⟩
    have HI1 := HI0.call hb
    have cd1 := HI1.cells 0 rfl
    have n1 := HI1.cell 0 rfl hn
    clear hb cd0 n0
    go_wp2_with fail
    refine (C2.out _).mono ?_
    rintro e w2 ⟨rfl, hb⟩
    have HI2 := HI1.call hb
    have cd2 := HI2.cells 0 rfl
    have n2 := HI2.cell 0 rfl hn
    clear hb cd1 n1
    go_wp2_with fail
    refine (C3.out _).mono ?_
    rintro e w3 ⟨rfl, hb⟩
    have HI3 := HI2.call hb
    have cd3 := HI3.cells 0 rfl
    have n3 := HI3.cell 0 rfl hn
    clear hb cd2 n2
    go_wp2
    go_ret
    exact ⟨rfl, HI3.low⟩
  rw [hp3] at C3
  have pc := prB_iff.1 hp1
  have pt := prB_iff.1 hp2
  have ps := prB_iff.1 hp3
  clear hp1 hp2 hp3
  have hiff := fl_iff h4 h32 HM.out pc pt ps
  have C4 := hide fun w => sBoth_any c s n h32 (fun x hx => by have := pc.keeps hx; omega) w
  have C5 := hide fun w => sBoth_any s c n h32 (fun x hx => by have := ps.keeps hx; omega) w
  have C6 := hide fun w => sPairs_any (bothF c s n) (fun i => by unfold bothF upto; split; exact hs _; omega) n h32 w
  have HK := hide (And.intro (keeps3 pc pt ps) (undo3 pc pt ps))
  obtain ⟨R, hR⟩ : ∃ R, R = flB (n : Int) c t s := ⟨_, rfl⟩
  rw [← hR]
  have hno : ¬ flP n c t s → R = false := fun h => by rw [hR]; exact flB_no h
  have hyes : sameQ (bothF c s n) (bothF s c n) = true → prB (bothF c s n) n = true → (((szL [c, t, s] n).length : Int) == 1) = R := fun h1 h2 => by
    rw [hR, Bool.eq_iff_iff]
    constructor
    · intro e; exact flB_yes (hiff.2 ⟨⟨h1, prB_iff.1 h2⟩, by have := beq_iff_eq.1 e; omega⟩)
    · intro e
      obtain ⟨m, em, hm⟩ := flB_true e
      obtain rfl : n = m := by omega
      have := (hiff.1 hm).2
      exact beq_iff_eq.2 (by omega)
  have HN := hide hno; clear hno
  have HY := hide hyes; clear hyes
  have HI := hide hiff; clear hiff
  clear hR hc ht hs pc pt ps
  generalize hb1 : bothF c s n = b1 at *
  generalize hb2 : bothF s c n = b2 at *
  clear hb1 hb2
  go_enter Try.func63, Try.ntmps63
  go_wp2_with fail
  refine (C0.out _).mono ?_
  rintro e w0 ⟨rfl, hb⟩
  have HI0 := HH0.call hb
  have cd0 := HI0.cells 0 rfl
  have n0 := HI0.cell 0 rfl hn
  clear hb
  go_wp2_with fail
  refine (C1.out _).mono ?_
  rintro e w1 ⟨rfl, hb⟩
  have HI1 := HI0.call hb
  have cd1 := HI1.cells 0 rfl
  have n1 := HI1.cell 0 rfl hn
  clear hb cd0 n0
  go_wp2_with fail
  refine (C2.out _).mono ?_
  rintro e w2 ⟨rfl, hb⟩
  have HI2 := HI1.call hb
  have cd2 := HI2.cells 0 rfl
  have n2 := HI2.cell 0 rfl hn
  clear hb cd1 n1
  go_wp2_with fail
  refine (C3.out _).mono ?_
  rintro e w3 ⟨rfl, hb⟩
  have HI3 := HI2.call hb
  have cd3 := HI3.cells 0 rfl
  have n3 := HI3.cell 0 rfl hn
  clear hb cd2 n2
  go_wp2_with fail
  refine (C4.out _).mono ?_
  rintro e w4 ⟨rfl, hb⟩
  have HI4 := HI3.call hb
  have HI5 := HI4.blk (qv b1) 48 w4.heap.size rfl
  clear hb cd3 n3 n00 C0 C1 C2 C3 C4 HI0 HI1 HI2 HI3 HH0 HI4
  go_wp2
  generalize hG3 : w4.heap.size = g3 at *
  generalize w4.alloc (.cells (qv b1) 48) = w5 at *
  clear hG3
  rcases hs1 : sameQ b1 b2 with _ | _
  · have hr := HN.out fun h => by have := (HI.out.1 h).1.1; rw [hs1] at this; cases this
    subst hr
    refine Rd.region_W (w0 := w) [pBlk g3 (qv b1) 48, pBlk w.heap.size (fv (n : Int) c t s) 53] [pBlk g3 (qv b1) 48, pBlk w.heap.size (fv (n : Int) c t s) 53] [22, 25] (.q 0 <| .q 1 <| .q 2 <| .q 3 <| .q 4 <| .q 5 <| .q 6 <| .q 7 <| .q 8 <| .q 9 <| .q 10 <| .q 11 <| .q 12 <| .q 13 <| .q 14 <| .q 15 <| .q 16 <| .q 17 <| .q 18 <| .q 19 <| .q 20 <| .q 21 <| .q 23 <| .q 24 <| .s1 22 <| .s1 25 <| .q 26 <| .q 27 <| .q 28 <| .q 29 .fin) HI5 (.refl _) (by kernel_rfl) (by kernel_rfl) (by kernel_rfl) ?_
    iterate 7
      apply Rd.w_q
      · simp only [List.getElem?_toArray, List.getElem?_cons_zero, List.getElem?_cons_succ]; exact rfl
      · rfl
      · go_simp
      · intro wx hx
        have q0 := hx.cells 0 rfl
        have q1 := hx.cells 1 rfl
        have q2 := hx.cell 1 rfl hn
        unfold atG
        go_simp
        simp only [uponG]
        exact ⟨by trivial, rfl⟩
    iterate 1
      apply Rd.w_q
      · simp only [List.getElem?_toArray, List.getElem?_cons_zero, List.getElem?_cons_succ]; exact rfl
      · rfl
      · go_simp
      · intro wx hx
        have q0 := hx.cells 0 rfl
        have q1 := hx.cells 1 rfl
        have q2 := hx.cell 1 rfl hn
        unfold atG
        go_simp
        simp only [uponG]
        exact ⟨by trivial, C5.out wx⟩
    iterate 2
      apply Rd.w_q
      · simp only [List.getElem?_toArray, List.getElem?_cons_zero, List.getElem?_cons_succ]; exact rfl
      · rfl
      · go_simp
      · intro wx hx
        have q0 := hx.cells 0 rfl
        have q1 := hx.cells 1 rfl
        have q2 := hx.cell 1 rfl hn
        unfold atG
        go_simp
        simp only [uponG]
        exact ⟨by trivial, rfl⟩
    iterate 4
      apply Rd.w_skip
      · simp only [List.getElem?_toArray, List.getElem?_cons_zero, List.getElem?_cons_succ]; exact rfl
      · go_simp
    iterate 2
      apply Rd.w_q
      · simp only [List.getElem?_toArray, List.getElem?_cons_zero, List.getElem?_cons_succ]; exact rfl
      · rfl
      · go_simp
      · intro wx hx
        have q0 := hx.cells 0 rfl
        have q1 := hx.cells 1 rfl
        have q2 := hx.cell 1 rfl hn
        unfold atG
        go_simp
        simp only [uponG]
        exact ⟨by trivial, rfl⟩
    iterate 8
      apply Rd.w_skip
      · simp only [List.getElem?_toArray, List.getElem?_cons_zero, List.getElem?_cons_succ]; exact rfl
      · go_simp
    iterate 2
      apply Rd.w_skips
      · simp only [List.getElem?_toArray, List.getElem?_cons_zero, List.getElem?_cons_succ]; exact rfl
      · go_simp
    iterate 2
      apply Rd.w_skip
      · simp only [List.getElem?_toArray, List.getElem?_cons_zero, List.getElem?_cons_succ]; exact rfl
      · go_simp
    iterate 2
      apply Rd.w_q
      · simp only [List.getElem?_toArray, List.getElem?_cons_zero, List.getElem?_cons_succ]; exact rfl
      · rfl
      · go_simp
      · intro wx hx
        have q0 := hx.cells 0 rfl
        have q1 := hx.cells 1 rfl
        have q2 := hx.cell 1 rfl hn
        unfold atG
        go_simp
        simp only [uponG]
        exact ⟨by trivial, rfl⟩
    refine Rd.w_fin ?_
    rintro wz - hz
    go_simp
    go_wp2
    go_ret
    exact ⟨rfl, hz.low⟩
  rcases hs2 : prB b1 n with _ | _
  · have hr := HN.out fun h => by have := prB_yes (HI.out.1 h).1.2; rw [hs2] at this; cases this
    subst hr
    rw [hs2] at C6
    refine Rd.region_W (w0 := w) [pBlk g3 (qv b1) 48, pBlk w.heap.size (fv (n : Int) c t s) 53] [pBlk g3 (qv b1) 48, pBlk w.heap.size (fv (n : Int) c t s) 53] [22, 25] (.q 0 <| .q 1 <| .q 2 <| .q 3 <| .q 4 <| .q 5 <| .q 6 <| .q 7 <| .q 8 <| .q 9 <| .q 10 <| .q 11 <| .q 12 <| .q 13 <| .q 14 <| .q 15 <| .q 16 <| .q 17 <| .q 18 <| .q 19 <| .q 20 <| .q 21 <| .q 23 <| .q 24 <| .s1 22 <| .s1 25 <| .q 26 <| .q 27 <| .q 28 <| .q 29 .fin) HI5 (.refl _) (by kernel_rfl) (by kernel_rfl) (by kernel_rfl) ?_
    iterate 7
      apply Rd.w_q
      · simp only [List.getElem?_toArray, List.getElem?_cons_zero, List.getElem?_cons_succ]; exact rfl
      · rfl
      · go_simp
      · intro wx hx
        have q0 := hx.cells 0 rfl
        have q1 := hx.cells 1 rfl
        have q2 := hx.cell 1 rfl hn
        unfold atG
        go_simp
        simp only [uponG]
        exact ⟨by trivial, rfl⟩
    iterate 1
      apply Rd.w_q
      · simp only [List.getElem?_toArray, List.getElem?_cons_zero, List.getElem?_cons_succ]; exact rfl
      · rfl
      · go_simp
      · intro wx hx
        have q0 := hx.cells 0 rfl
        have q1 := hx.cells 1 rfl
        have q2 := hx.cell 1 rfl hn
        unfold atG
        go_simp
        simp only [uponG]
        exact ⟨by trivial, C5.out wx⟩
    iterate 2
      apply Rd.w_q
      · simp only [List.getElem?_toArray, List.getElem?_cons_zero, List.getElem?_cons_succ]; exact rfl
      · rfl
      · go_simp
      · intro wx hx
        have q0 := hx.cells 0 rfl
        have q1 := hx.cells 1 rfl
        have q2 := hx.cell 1 rfl hn
        unfold atG
        go_simp
        simp only [uponG]
        exact ⟨by trivial, rfl⟩
    iterate 3
      apply Rd.w_q
      · simp only [List.getElem?_toArray, List.getElem?_cons_zero, List.getElem?_cons_succ]; exact rfl
      · rfl
      · go_simp
      · intro wx hx
        have q0 := hx.cells 0 rfl
        have q1 := hx.cells 1 rfl
        have q2 := hx.cell 1 rfl hn
        unfold atG
        go_simp
        simp only [uponG]
        exact ⟨by trivial, rfl⟩
    iterate 1
      apply Rd.w_q
      · simp only [List.getElem?_toArray, List.getElem?_cons_zero, List.getElem?_cons_succ]; exact rfl
      · rfl
      · go_simp
      · intro wx hx
        have q0 := hx.cells 0 rfl
        have q1 := hx.cells 1 rfl
        have q2 := hx.cell 1 rfl hn
        unfold atG
        go_simp
        simp only [uponG]
        exact ⟨by trivial, C6.out wx⟩
    iterate 2
      apply Rd.w_q
      · simp only [List.getElem?_toArray, List.getElem?_cons_zero, List.getElem?_cons_succ]; exact rfl
      · rfl
      · go_simp
      · intro wx hx
        have q0 := hx.cells 0 rfl
        have q1 := hx.cells 1 rfl
        have q2 := hx.cell 1 rfl hn
        unfold atG
        go_simp
        simp only [uponG]
        exact ⟨by trivial, rfl⟩
    iterate 8
      apply Rd.w_skip
      · simp only [List.getElem?_toArray, List.getElem?_cons_zero, List.getElem?_cons_succ]; exact rfl
      · go_simp
    iterate 2
      apply Rd.w_skips
      · simp only [List.getElem?_toArray, List.getElem?_cons_zero, List.getElem?_cons_succ]; exact rfl
      · go_simp
    iterate 2
      apply Rd.w_skip
      · simp only [List.getElem?_toArray, List.getElem?_cons_zero, List.getElem?_cons_succ]; exact rfl
      · go_simp
    iterate 2
      apply Rd.w_q
      · simp only [List.getElem?_toArray, List.getElem?_cons_zero, List.getElem?_cons_succ]; exact rfl
      · rfl
      · go_simp
      · intro wx hx
        have q0 := hx.cells 0 rfl
        have q1 := hx.cells 1 rfl
        have q2 := hx.cell 1 rfl hn
        unfold atG
        go_simp
        simp only [uponG]
        exact ⟨by trivial, rfl⟩
    refine Rd.w_fin ?_
    rintro wz - hz
    go_simp
    go_wp2
    go_ret
    exact ⟨rfl, hz.low⟩
  · have hr := HY.out hs1 hs2
    subst hr
    rw [hs2] at C6
    refine Rd.region_W (w0 := w) [pBlk g3 (qv b1) 48, pBlk w.heap.size (fv (n : Int) c t s) 53] [pBlk g3 (qv b1) 48, pBlk w.heap.size (fv (n : Int) c t s) 53] [22, 25] (.q 0 <| .q 1 <| .q 2 <| .q 3 <| .q 4 <| .q 5 <| .q 6 <| .q 7 <| .q 8 <| .q 9 <| .q 10 <| .q 11 <| .q 12 <| .q 13 <| .q 14 <| .q 15 <| .q 16 <| .q 17 <| .q 18 <| .q 19 <| .q 20 <| .q 21 <| .q 23 <| .q 24 <| .s1 22 <| .s1 25 <| .q 26 <| .q 27 <| .q 28 <| .q 29 .fin) HI5 (.refl _) (by kernel_rfl) (by kernel_rfl) (by kernel_rfl) ?_
    iterate 7
      apply Rd.w_q
      · simp only [List.getElem?_toArray, List.getElem?_cons_zero, List.getElem?_cons_succ]; exact rfl
      · rfl
      · go_simp
      · intro wx hx
        have q0 := hx.cells 0 rfl
        have q1 := hx.cells 1 rfl
        have q2 := hx.cell 1 rfl hn
        unfold atG
        go_simp
        simp only [uponG]
        exact ⟨by trivial, rfl⟩
    iterate 1
      apply Rd.w_q
      · simp only [List.getElem?_toArray, List.getElem?_cons_zero, List.getElem?_cons_succ]; exact rfl
      · rfl
      · go_simp
      · intro wx hx
        have q0 := hx.cells 0 rfl
        have q1 := hx.cells 1 rfl
        have q2 := hx.cell 1 rfl hn
        unfold atG
        go_simp
        simp only [uponG]
        exact ⟨by trivial, C5.out wx⟩
    iterate 2
      apply Rd.w_q
      · simp only [List.getElem?_toArray, List.getElem?_cons_zero, List.getElem?_cons_succ]; exact rfl
      · rfl
      · go_simp
      · intro wx hx
        have q0 := hx.cells 0 rfl
        have q1 := hx.cells 1 rfl
        have q2 := hx.cell 1 rfl hn
        unfold atG
        go_simp
        simp only [uponG]
        exact ⟨by trivial, rfl⟩
    iterate 3
      apply Rd.w_q
      · simp only [List.getElem?_toArray, List.getElem?_cons_zero, List.getElem?_cons_succ]; exact rfl
      · rfl
      · go_simp
      · intro wx hx
        have q0 := hx.cells 0 rfl
        have q1 := hx.cells 1 rfl
        have q2 := hx.cell 1 rfl hn
        unfold atG
        go_simp
        simp only [uponG]
        exact ⟨by trivial, rfl⟩
    iterate 1
      apply Rd.w_q
      · simp only [List.getElem?_toArray, List.getElem?_cons_zero, List.getElem?_cons_succ]; exact rfl
      · rfl
      · go_simp
      · intro wx hx
        have q0 := hx.cells 0 rfl
        have q1 := hx.cells 1 rfl
        have q2 := hx.cell 1 rfl hn
        unfold atG
        go_simp
        simp only [uponG]
        exact ⟨by trivial, C6.out wx⟩
    iterate 2
      apply Rd.w_q
      · simp only [List.getElem?_toArray, List.getElem?_cons_zero, List.getElem?_cons_succ]; exact rfl
      · rfl
      · go_simp
      · intro wx hx
        have q0 := hx.cells 0 rfl
        have q1 := hx.cells 1 rfl
        have q2 := hx.cell 1 rfl hn
        unfold atG
        go_simp
        simp only [uponG]
        exact ⟨by trivial, rfl⟩
    iterate 8
      apply Rd.w_q
      · simp only [List.getElem?_toArray, List.getElem?_cons_zero, List.getElem?_cons_succ]; exact rfl
      · rfl
      · go_simp
      · intro wx hx
        have q0 := hx.cells 0 rfl
        have q1 := hx.cells 1 rfl
        have q2 := hx.cell 1 rfl hn
        unfold atG
        go_simp
        simp only [uponG]
        exact ⟨by trivial, rfl⟩
    refine Rd.w_build (lsB [c, t, s]).toArray 48 3 (by simp only [List.getElem?_toArray, List.getElem?_cons_zero, List.getElem?_cons_succ]; exact rfl) rfl (by go_simp) (fun wx hx hD => by go_simp) fun gq => ?_
    refine Rd.w_s (fun v wx => Holds w wx (pInts v (szL [c, t, s] n) :: pBlk gq (lsB [c, t, s]).toArray 48 :: [pBlk g3 (qv b1) 48, pBlk w.heap.size (fv (n : Int) c t s) 53])) (fun v _ _ h hb => h.call hb) (by simp only [List.getElem?_toArray, List.getElem?_cons_zero, List.getElem?_cons_succ]; exact rfl) rfl (by go_simp) (fun wx hx hD => ?_) ?_
    · have CF := sSets_any n h32 [c, t, s] HK.out.1 HK.out.2 (by simp) gq wx (hD.at 0 rfl)
      go_simp
      simp only [Rd.uponE]
      refine ⟨by trivial, CF.mono ?_⟩
      rintro e w' ⟨v, rfl, h2⟩
      have h3 := hD.newRow h2.low (h2.row 0 rfl)
      exact ⟨v, rfl, hx.call h2.low, h3⟩
    rintro v ⟨wy, _, hv⟩
    obtain ⟨A, cc, rfl⟩ := hv.intsForm 0 rfl
    clear hv
    iterate 4
      apply Rd.w_q
      · simp only [List.getElem?_toArray, List.getElem?_cons_zero, List.getElem?_cons_succ]; exact rfl
      · rfl
      · go_simp
      · intro wx hx
        have q0 := hx.cells 0 rfl
        have q1 := hx.cells 1 rfl
        have q2 := hx.cell 1 rfl hn
        unfold atG
        go_simp
        simp only [uponG]
        exact ⟨by trivial, rfl⟩
    refine Rd.w_fin ?_
    rintro wz - hz
    go_simp
    go_wp2
    go_ret
    exact ⟨rfl, hz.low⟩

-- left out here: loop.example/g01200/spec.AreFlags
end Go.Proofs.Yteeideminlcblaa

