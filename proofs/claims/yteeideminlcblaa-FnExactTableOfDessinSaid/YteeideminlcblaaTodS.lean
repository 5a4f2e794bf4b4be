/- TableOfDessin: the model. -/
import Derived.Test.YteeideminlcblaaTod
namespace Go.Proofs.Yteeideminlcblaa
open Go.RowKit

theorem upon_appRow8 {o : Oper} {a : Act} {w0 w : World} {L : List Part} (H : Holds w0 w L) (k : Nat) {v : Value} {vs : List Value} (hk : L[k]? = some (pVals v vs))
    (g : Nat) (u : Value) (hu : u.oneCell' = true) (t : TypeId) (hc : w.heap[g]? = some (.cells #[u] t (0, 0))) (hb : vs.length ≤ 100000) {C : World → Prop} {R : Value → World → Prop}
    (h : ∀ v' w', Holds w0 w' (L.set k (pVals v' (vs ++ [u]))) → C w' ∧ R v' w') (s x : Operand)
    (ho : o.op = .call { callee := .builtin .append, args := #[s, x], argTypes := #[28, 28] })
    (hs : a.eval s = v) (hx : a.eval x = .slice (some ⟨g, 0, none⟩) 1 1) : Rd.uponE Try.prog C R w ((execOp a.eval o).run Try.prog w) := by
  obtain ⟨i0, hi, hz0, hz1, hz2⟩ := info_parts infoSl8
  obtain ⟨v', w', hr, h2, _⟩ := run_appH (P := Try.prog) 28 o.type 57 i0 (.slice none 0 0) 1 24 Try.underlying28 hi hz0 hz1 hz2 rfl (by decide) v vs.length vs H k hk ⟨g, 0, none⟩ 1 1 [u] rfl (fun j y hj => by
    have : ((⟨g, 0, none⟩ : Addr).add j) = ⟨g, j, none⟩ := by simp [Addr.add]; exact Eq.symm
    rw [this, cell_of_cells, cellsOf_heap hc]
    simpa using hj) (fun y hy => by simp at hy; subst hy; exact hu) (by unfold maxLen; omega) (by omega)
  rw [exec_append ho hs hx hr]
  refine h v' w' ?_
  unfold pVals at *
  rw [List.length_append]
  exact h2
/-- an empty block is an empty list of lists -/
theorem Holds.noVals {w0 w : World} {L : List Part} (h : Holds w0 w L) (i : Nat) {g : Nat} (hi : L[i]? = some (pBlk g #[] 57)) : Holds w0 w (L.set i (pVals (.slice (some ⟨g, 0, none⟩) 0 0) [])) := by
  refine h.turn i hi _ ?_ rfl rfl rfl (Nat.le_refl _) (fun _ _ _ => rfl) fun k hk => .inl ?_
  · exact ⟨rfl, .inr ⟨g, 0, #[], rfl, Nat.zero_le _, h.at i hi, Nat.le_refl 0, by decide, rfl, rfl⟩⟩
  · have : g = k := by simpa [pVals, pRow, Value.ownBlock] using hk
    exact this.symm
set_option maxRecDepth 100000 in
set_option maxHeartbeats 800000 in
theorem sTableOfDessin_any (n : Int) (f g : Nat → Nat) (hf : ∀ i, f i < 256) (hg : ∀ i, g i < 256) (x : Int) (w : World) :
    Calls Try.prog 23 #[.agg (dv n f g), .int .i64 x] w fun e w' => ∃ v, e = .returned (.tuple #[v, .int .i64 (tbC n f g x)]) ∧ Below w.heap.size w w' ∧ Own2 w.heap.size w' v (tbL n f g x) := by
  have C1 := hide fun w => sIs_any n f g hf hg w
  clear hf hg
  have HH0 := (Holds.start w).blk (dv n f g) 36 w.heap.size rfl
  rcases h1 : desB n f g with _ | _
  · rw [h1] at C1
    have hr : tbL n f g x = [] := by unfold tbL; rw [if_neg (by simp [h1])]
    have hc : tbC n f g x = 1 := by unfold tbC; rw [if_neg (by simp [h1])]
    rw [hr, hc]
    clear h1 hr hc
    go_enter Try.func23, Try.ntmps23
    go_wp2_with fail
    refine (C1.out _).mono ?_
    rintro e w1 ⟨rfl, hb⟩
    have HH1 := HH0.call hb
    go_wp2
    go_ret2
    exact ⟨.slice none 0 0, rfl, HH1.low, Own2.nil _ _⟩
  rw [h1] at C1
  obtain ⟨m, rfl, hd⟩ := desB_true h1
  have hn := dv_n m f g
  by_cases hx : 0 ≤ x ∧ x < (m : Int)
  rotate_left
  · have hr : tbL m f g x = [] := by unfold tbL; rw [if_neg (fun k => hx k.2)]
    have hc : tbC m f g x = 2 := by unfold tbC; rw [if_pos h1, if_neg hx]
    rw [hr, hc]
    have C2 := hide fun w => in_any x 0 ((m : Int) - 1) w
    rw [show (decide (0 ≤ x ∧ x ≤ (m : Int) - 1)) = false from decide_eq_false (by omega)] at C2
    have wm : IntKind.i64.wrap ((m : Int) - 1) = (m : Int) - 1 := wr64k (by have := hd.le; omega) (by have := hd.le; omega)
    have wm2 : wrap64 ((m : Int) - 1) = (m : Int) - 1 := wr64 (by have := hd.le; omega) (by have := hd.le; omega)
    clear h1 hr hc hx hd
    go_enter Try.func23, Try.ntmps23
    go_wp2_with fail
    refine (C1.out _).mono ?_
    rintro e w1 ⟨rfl, hb⟩
    have HH1 := HH0.call hb
    have cd1 := HH1.cells 0 rfl
    have cn1 := HH1.cell 0 rfl hn
    clear hb HH0
    go_wp2_with fail
    refine (C2.out _).mono ?_
    rintro e w2 ⟨rfl, rfl⟩
    go_wp2
    go_ret2
    exact ⟨.slice none 0 0, rfl, HH1.low, Own2.nil _ _⟩
  have C2 := hide fun w => in_any x 0 ((m : Int) - 1) w
  rw [show (decide (0 ≤ x ∧ x ≤ (m : Int) - 1)) = true from decide_eq_true (by omega)] at C2
  have wm2 : wrap64 ((m : Int) - 1) = (m : Int) - 1 := wr64 (by have := hd.le; omega) (by have := hd.le; omega)
  obtain ⟨y, rfl⟩ : ∃ y : Nat, x = (y : Int) := ⟨x.toNat, by omega⟩
  have hy : y < m := by omega
  have hm := hd.le
  have hr : tbL (m : Int) f g y = rowsT (renF (namF f g m y) f m) (renF (namF f g m y) g m) m := by unfold tbL; rw [if_pos ⟨h1, hx⟩, Int.toNat_natCast, Int.toNat_natCast]
  have hc : tbC (m : Int) f g y = 0 := by unfold tbC; rw [if_pos h1, if_pos hx]
  rw [hr, hc]
  have hlb : ∀ i, i < m → renF (namF f g m y) f m i < 256 := fun i hi => by have := (renF_perm (namF_perm8 hd hy) hd.black).lt i (by omega); omega
  have hlw : ∀ i, i < m → renF (namF f g m y) g m i < 256 := fun i hi => by have := (renF_perm (namF_perm8 hd hy) hd.white).lt i (by omega); omega
  have CN := hide fun w => sNaming_any f g m hd y hy w
  have CR := hide fun w => sRename_any f g (namF f g m y) m hd.black hd.white (namF_perm8 hd hy) w
  have LB := hide hlb
  have LW := hide hlw
  clear h1 hr hc hx hd hlb hlw
  generalize renF (namF f g m y) f m = b at *
  generalize renF (namF f g m y) g m = c at *
  generalize namF f g m y = nm at *
  go_enter Try.func23, Try.ntmps23
  go_wp2_with fail
  refine (C1.out _).mono ?_
  rintro e w1 ⟨rfl, hb⟩
  have HH1 := HH0.call hb
  have cd1 := HH1.cells 0 rfl
  have cn1 := HH1.cell 0 rfl hn
  clear hb HH0
  go_wp2_with fail
  refine (C2.out _).mono ?_
  rintro e w2 ⟨rfl, rfl⟩
  clear cd1 cn1
  go_wp2
  apply Rd.region_R2 (w0 := w) [pBlk w.heap.size (dv m f g) 36] [pBlk w.heap.size (dv m f g) 36] [5, 6, 7] (.q 0 <| .q 1 <| .q 2 <| .q 3 <| .q 4 <| .s2 5 (.s1 6 <| .s1 7 <| .q 8 .fin) 6 (.s2 5 (.s1 7 <| .q 8 .fin) 7 (.s1 5 <| .q 8 .fin))) HH1 (.refl _) (by kernel_rfl) (by kernel_rfl) (by kernel_rfl) (F := fun (g6 g7 : Nat) => [pBlk g7 #[] 57, pBlk g6 (dv m b c) 36, pBlk w.heap.size (dv m f g) 36])
  case h =>
    intro K key
    iterate 3
      apply Rd.v_q
      · simp only [List.getElem?_toArray, List.getElem?_cons_zero, List.getElem?_cons_succ]; exact rfl
      · rfl
      · go_simp
      · intro wx hx
        have q1 := hx.cells 0 rfl
        unfold atG
        go_simp
        simp only [uponG]
        exact ⟨by trivial, rfl⟩
    iterate 1
      apply Rd.v_q
      · simp only [List.getElem?_toArray, List.getElem?_cons_zero, List.getElem?_cons_succ]; exact rfl
      · rfl
      · go_simp
      · intro wx hx
        have q1 := hx.cells 0 rfl
        unfold atG
        go_simp
        simp only [uponG]
        exact ⟨by trivial, CN.out wx⟩
    iterate 1
      apply Rd.v_q
      · simp only [List.getElem?_toArray, List.getElem?_cons_zero, List.getElem?_cons_succ]; exact rfl
      · rfl
      · go_simp
      · intro wx hx
        have q1 := hx.cells 0 rfl
        unfold atG
        go_simp
        simp only [uponG]
        exact ⟨by trivial, CR.out wx⟩
    refine ⟨?_, ?_⟩
    · skip
      refine Rd.v_build #[] 57 0 (by simp only [List.getElem?_toArray, List.getElem?_cons_zero, List.getElem?_cons_succ]; exact rfl) rfl (by go_simp) (fun wx hx hD => by go_simp) fun g7 => ?_
      refine Rd.v_box (dv 0 (fun _ => 0) (fun _ => 0)) 36 (by simp only [List.getElem?_toArray, List.getElem?_cons_zero, List.getElem?_cons_succ]; exact rfl) rfl (by go_simp) (fun wx hx hD => by rw [dv_zero]; go_simp) fun g6 => ?_
      refine Rd.v_put 0 g6 (dv 0 (fun _ => 0) (fun _ => 0)) (dv m b c) 36 rfl (.cons _ (.cons _ (.refl _))) (by simp only [List.getElem?_toArray, List.getElem?_cons_zero, List.getElem?_cons_succ]; exact rfl) rfl (by go_simp) (fun wx hx hD => ?_) ?_
      · have rr := hD.rowOk (n := 33) 0 rfl (dv_size _ _ _)
        go_simp
      iterate 1
        apply Rd.v_q
        · simp only [List.getElem?_toArray, List.getElem?_cons_zero, List.getElem?_cons_succ]; exact rfl
        · rfl
        · go_simp
        · intro wx hx
          unfold atG
          go_simp
          simp only [uponG]
          exact ⟨by trivial, rfl⟩
      rintro w4 - hx4
      go_simp
      exact key g6 g7 _ (hx4.perm (List.Perm.swap _ _ _))
    · skip
      refine Rd.v_box (dv 0 (fun _ => 0) (fun _ => 0)) 36 (by simp only [List.getElem?_toArray, List.getElem?_cons_zero, List.getElem?_cons_succ]; exact rfl) rfl (by go_simp) (fun wx hx hD => by rw [dv_zero]; go_simp) fun g6 => ?_
      refine ⟨?_, ?_⟩
      · skip
        refine Rd.v_build #[] 57 0 (by simp only [List.getElem?_toArray, List.getElem?_cons_zero, List.getElem?_cons_succ]; exact rfl) rfl (by go_simp) (fun wx hx hD => by go_simp) fun g7 => ?_
        refine Rd.v_put 1 g6 (dv 0 (fun _ => 0) (fun _ => 0)) (dv m b c) 36 rfl (.cons _ (.cons _ (.refl _))) (by simp only [List.getElem?_toArray, List.getElem?_cons_zero, List.getElem?_cons_succ]; exact rfl) rfl (by go_simp) (fun wx hx hD => ?_) ?_
        · have rr := hD.rowOk (n := 33) 1 rfl (dv_size _ _ _)
          go_simp
        iterate 1
          apply Rd.v_q
          · simp only [List.getElem?_toArray, List.getElem?_cons_zero, List.getElem?_cons_succ]; exact rfl
          · rfl
          · go_simp
          · intro wx hx
            unfold atG
            go_simp
            simp only [uponG]
            exact ⟨by trivial, rfl⟩
        rintro w4 - hx4
        go_simp
        exact key g6 g7 _ hx4
      · skip
        refine Rd.v_put 0 g6 (dv 0 (fun _ => 0) (fun _ => 0)) (dv m b c) 36 rfl (.cons _ (.refl _)) (by simp only [List.getElem?_toArray, List.getElem?_cons_zero, List.getElem?_cons_succ]; exact rfl) rfl (by go_simp) (fun wx hx hD => ?_) ?_
        · have rr := hD.rowOk (n := 33) 0 rfl (dv_size _ _ _)
          go_simp
        refine Rd.v_build #[] 57 0 (by simp only [List.getElem?_toArray, List.getElem?_cons_zero, List.getElem?_cons_succ]; exact rfl) rfl (by go_simp) (fun wx hx hD => by go_simp) fun g7 => ?_
        iterate 1
          apply Rd.v_q
          · simp only [List.getElem?_toArray, List.getElem?_cons_zero, List.getElem?_cons_succ]; exact rfl
          · rfl
          · go_simp
          · intro wx hx
            unfold atG
            go_simp
            simp only [uponG]
            exact ⟨by trivial, rfl⟩
        rintro w4 - hx4
        go_simp
        exact key g6 g7 _ hx4
  intro g6 g7 w4 H4
  have H5 := H4.noVals 0 rfl
  have H6 : Holds w w4 (pVals (.slice (some ⟨g7, 0, none⟩) 0 0) [] :: pBlk g6 (dv m b c) 36 :: pBlk w.heap.size (dv m f g) 36 :: rowsP [] (rowsT b c 0)) := H5
  clear H4 H5 HH1
  go_wp2
  go_loopw [7, 8] (fun q t wr => ∃ (i : Nat) (vs : List Value), i ≤ m ∧ t = .int .i64 i ∧ vs.length = i ∧ Holds w wr (pVals q vs :: pBlk g6 (dv m b c) 36 :: pBlk w.heap.size (dv m f g) 36 :: rowsP vs (rowsT b c i))) (fun _ t _ => m - (intOf t).toNat)
  case atStart => exact ⟨0, [], Nat.zero_le _, rfl, rfl, H6⟩
  case round =>
    clear H6
    obtain ⟨i, vs, hi, rfl, hvs, hH⟩ := hrel
    obtain ⟨A0, c0, rfl⟩ := hH.valsForm 0 rfl
    have hvl : vs.length ≤ 100000 := by omega
    have HVS := hide hvs
    by_cases hlt : i < m
    · have hlti : (i : Int) < (m : Int) := by omega
      have hi16 : i < 16 := by omega
      have hi16i : (i : Int) < 16 := by omega
      have lb := LB.out i hlt
      have lw := LW.out i hlt
      have wb : IntKind.i64.wrap ((b i : Nat) : Int) = ((b i : Nat) : Int) := wr64k (by omega) (by omega)
      have wc : IntKind.i64.wrap ((c i : Nat) : Int) = ((c i : Nat) : Int) := wr64k (by omega) (by omega)
      have hst := rowsT_succ b c i
      have HST := hide hst; clear hst hvs
      have cn0 := hH.cell 2 rfl hn
      obtain ⟨nv, hnv⟩ : ∃ nv, nv = vs.length := ⟨_, rfl⟩
      rw [← hnv] at hH ⊢
      have HNV := hide hnv; clear hnv
      go_wp2
      clear cn0
      refine Rd.region_P (w0 := w) (pBlk g6 (dv m b c) 36 :: pBlk w.heap.size (dv m f g) 36 :: rowsP vs (rowsT b c i)) (pVals (.slice A0 nv c0) vs :: pBlk g6 (dv m b c) 36 :: pBlk w.heap.size (dv m f g) 36 :: rowsP vs (rowsT b c i)) [11, 12, 13] (.q 0 <| .q 1 <| .q 2 <| .q 3 <| .q 4 <| .q 5 <| .q 6 <| .q 7 <| .q 8 <| .q 9 <| .q 10 <| .s1 11 <| .s1 12 <| .s1 13 <| .q 14 .fin) hH (.cons _ (.refl _)) (by kernel_rfl) (by kernel_rfl) (by kernel_rfl) ?_
      iterate 11
        apply Rd.v_q
        · simp only [List.getElem?_toArray, List.getElem?_cons_zero, List.getElem?_cons_succ]; exact rfl
        · rfl
        · go_simp
        · intro wx hx
          have q1 := hx.cell 0 rfl (dv_b (m : Int) b c hi16)
          have q2 := hx.cell 0 rfl (dv_w (m : Int) b c hi16)
          unfold atG
          go_simp
          simp only [uponG]
          exact ⟨by trivial, rfl⟩
      refine Rd.v_build #[.int .i64 (b i : Nat), .int .i64 (c i : Nat)] 2 2 (by simp only [List.getElem?_toArray, List.getElem?_cons_zero, List.getElem?_cons_succ]; exact rfl) rfl (by go_simp) (fun wx hx hD => by rw [exec_buildSl8]; simp only [List.map_toArray, List.map_cons, List.map_nil]; go_simp; exact run_buildSl8 _ _ _) fun gr => ?_
      refine Rd.v_build #[(.slice (some ⟨gr, 0, none⟩) 2 2)] 57 1 (by simp only [List.getElem?_toArray, List.getElem?_cons_zero, List.getElem?_cons_succ]; exact rfl) rfl (by go_simp) (fun wx hx hD => by go_simp) fun gs => ?_
      refine Rd.v_s (fun uu wx => Holds w wx (pBlk gs #[(.slice (some ⟨gr, 0, none⟩) 2 2)] 57 :: pBlk gr #[.int .i64 (b i : Nat), .int .i64 (c i : Nat)] 2 :: pVals uu (vs ++ [(.slice (some ⟨gr, 0, none⟩) 2 2)]) :: (pBlk g6 (dv m b c) 36 :: pBlk w.heap.size (dv m f g) 36 :: rowsP vs (rowsT b c i)))) (fun _ _ _ h hb => h.call hb) (by simp only [List.getElem?_toArray, List.getElem?_cons_zero, List.getElem?_cons_succ]; exact rfl) rfl (by go_simp) (fun wx hx hD => ?_) ?_
      · exact upon_appRow8 hD 2 rfl gs (.slice (some ⟨gr, 0, none⟩) 2 2) rfl 57 (hD.at 0 rfl) hvl (fun v' w' h2 => ⟨h2.sub (.cons _ (.cons _ (.cons _ (.refl _)))), h2⟩) _ _ rfl (by go_simp) (by go_simp)
      rintro v5 -
      iterate 1
        apply Rd.v_q
        · simp only [List.getElem?_toArray, List.getElem?_cons_zero, List.getElem?_cons_succ]; exact rfl
        · rfl
        · go_simp
        · intro wx hx
          unfold atG
          go_simp
          simp only [uponG]
          exact ⟨by trivial, rfl⟩
      rintro wz - hz
      have h2 := (hz.tail).twoRow 0 rfl
      have h3 : Holds w wz (pInts (.slice (some ⟨gr, 0, none⟩) 2 2) [b i, c i] :: ([pVals v5 (vs ++ [(.slice (some ⟨gr, 0, none⟩) 2 2)]), pBlk g6 (dv m b c) 36, pBlk w.heap.size (dv m f g) 36] ++ rowsP vs (rowsT b c i))) := h2
      have h4 := h3.rowEnd (by rw [rowsT_len]; exact HVS.out)
      rw [← HST.out] at h4
      have HZ := hide h4; clear h2 h3 h4 hz hH
      go_simp
      go_wp2
      go_roundw
      case rel => exact ⟨i + 1, vs ++ [_], by omega, by go_num, by rw [List.length_append, HVS.out]; rfl, HZ.out⟩
      case measure => simp [intOf]; omega
    · obtain rfl : i = m := by omega
      have cn0 := hH.cell 2 rfl hn
      have hown : Own2 w.heap.size wr (.slice A0 vs.length c0) (rowsT b c i) := by
        have h2 : Holds w wr ([pBlk g6 (dv i b c) 36, pBlk w.heap.size (dv i f g) 36] ++ pVals (.slice A0 vs.length c0) vs :: rowsP vs (rowsT b c i)) := hH.perm ((List.Perm.swap _ _ _).trans ((List.Perm.swap _ _ _).cons _))
        exact h2.own2 (by rw [rowsT_len]; exact HVS.out)
      have HOW := hide hown
      have lo := hH.low
      obtain ⟨nv, hnv⟩ : ∃ nv, nv = vs.length := ⟨_, rfl⟩
      rw [← hnv] at HOW ⊢
      clear hown hlt hi hvs hnv hH
      go_wp2
      go_ret2
      exact ⟨_, rfl, lo, HOW.out⟩
end Go.Proofs.Yteeideminlcblaa
