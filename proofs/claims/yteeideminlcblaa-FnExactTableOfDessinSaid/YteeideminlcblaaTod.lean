/- TableOfDessin: what it makes; the program. -/
import Derived.Test.YteeideminlcblaaNam
import Derived.Test.YteeideminlcblaaSNam
import Derived.Test.YteeideminlcblaaRen
import Derived.Test.YteeideminlcblaaNamOf
import Derived.Test.YteeideminlcblaaHS3
import Derived.Test.YteeideminlcblaaRegS
import Derived.Test.YteeideminlcblaaMake
import Derived.Test.YteeideminlcblaaWr
import Derived.Test.YteeideminlcblaaBld
import Derived.Test.YteeideminlcblaaToDs
import Derived.Test.YteeideminlcblaaSPoc
namespace Go.Proofs.Yteeideminlcblaa
open Go.RowKit

theorem lstF_perm8 {f g : Nat → Nat} {m x : Nat} (hd : DesN f g m) (hx : x < m) : PermN (lstF (bfs f g x 16).1) m := by
  have hI := bfs_inv hd.bf.1 hd.bg.1 hx 16
  have hlen : (bfs f g x 16).1.length = m := bfs_full hd.bf hd.bg hd.le hd.conn hx
  have hl := hI.lt
  have hn := hI.nodup
  generalize (bfs f g x 16).1 = l at *
  have at' : ∀ i (h : i < m), lstF l i = l[i] := fun i h => by unfold lstF; rw [List.getD_eq_getElem?_getD, List.getElem?_eq_getElem (by omega)]; rfl
  refine ⟨hd.pos, hd.le, ⟨fun i hi => ?_, fun i j hi hj e => ?_⟩, fun i hi _ => ?_⟩
  · rw [at' i hi]; exact hl _ (List.getElem_mem _)
  · rw [at' i hi, at' j hj] at e
    exact (List.getElem_inj hn).1 e
  · unfold lstF; rw [List.getD_eq_getElem?_getD, List.getElem?_eq_none (by omega)]; rfl
theorem namF_perm8 {f g : Nat → Nat} {m x : Nat} (hd : DesN f g m) (hx : x < m) : PermN (namF f g m x) m := backF_perm (lstF_perm8 hd hx)
/-- the first k rows -/
def rowsT (b c : Nat → Nat) (k : Nat) : List (List Nat) := (List.range k).map fun i => [b i, c i]
theorem rowsT_len (b c : Nat → Nat) (k : Nat) : (rowsT b c k).length = k := by unfold rowsT; simp
theorem rowsT_succ (b c : Nat → Nat) (k : Nat) : rowsT b c (k + 1) = rowsT b c k ++ [[b k, c k]] := by unfold rowsT; rw [List.range_succ, List.map_append]; rfl
open Classical in
noncomputable def tbL (n : Int) (f g : Nat → Nat) (x : Int) : List (List Nat) :=
  if desB n f g = true ∧ 0 ≤ x ∧ x < n then rowsT (renF (namF f g n.toNat x.toNat) f n.toNat) (renF (namF f g n.toNat x.toNat) g n.toNat) n.toNat else []
open Classical in
noncomputable def tbC (n : Int) (f g : Nat → Nat) (x : Int) : Int := if desB n f g = true then (if 0 ≤ x ∧ x < n then 0 else 2) else 1
theorem tb_bound (n : Int) (f g : Nat → Nat) (x : Int) : total (tbL n f g x) ≤ 1000 ∧ (tbL n f g x).length ≤ 16 := by
  unfold tbL
  split
  · rename_i h
    obtain ⟨m, rfl, hd⟩ := desB_true h.1
    rw [Int.toNat_natCast]
    have hm := hd.le
    generalize renF (namF f g m x.toNat) f m = b
    generalize renF (namF f g m x.toNat) g m = c
    refine ⟨?_, by rw [rowsT_len]; exact hm⟩
    have : ∀ k, total (rowsT b c k) = 2 * k := by
      intro k
      induction k with
      | zero => rfl
      | succ k ih => rw [rowsT_succ]; unfold total at *; rw [List.map_append, List.sum_append, ih]; simp; omega
    rw [this]; omega
  · simp [total]
theorem fill_at8 {vs : List Value} {i n : Nat} (h : vs.length = i) (hi : i < n) : (vs ++ List.replicate (n - i) (.slice none 0 0 : Value))[i]? = some (.slice none 0 0) := by
  rw [List.getElem?_append_right (by omega), List.getElem?_replicate, if_pos (by omega)]
theorem fill_set8 {vs : List Value} {i n : Nat} {u : Value} (h : vs.length = i) (hi : i < n) : (vs ++ List.replicate (n - i) (.slice none 0 0 : Value)).set i u = (vs ++ [u]) ++ List.replicate (n - (i + 1)) (.slice none 0 0) := by
  rw [List.set_append_right _ _ (by omega), h, Nat.sub_self, show n - i = (n - (i + 1)) + 1 by omega, List.replicate_succ, List.set_cons_zero, List.append_assoc]
  rfl
theorem Holds.rowCell8 {w0 w : World} {L : List Part} (h : Holds w0 w L) (i : Nat) {g n c : Nat} {e : TypeId} {xs : List Value} (hi : L[i]? = some (pRow (.slice (some ⟨g, 0, none⟩) n c) e 1 n xs)) {j : Nat} {u : Value} (hj : xs[j]? = some u) :
    w.cell? ⟨g, j, none⟩ = some u ∧ w.frozen? ⟨g, j, none⟩ = false := by
  have hl : xs.length = n := by have := (h.row i hi).1; omega
  have := (List.getElem?_eq_some_iff.1 hj).1
  obtain ⟨g', c', e, _, _, _, _, h6, h7⟩ := row_at (h.row i hi) (by omega : 0 < n)
  simp only [Value.slice.injEq, Option.some.injEq, Addr.mk.injEq] at e
  obtain ⟨⟨rfl, _, _⟩, _, _⟩ := e
  exact ⟨h6 j u hj, h7 j⟩
theorem infoSl8 : (Try.prog.info? 57).map (fun i => (i.zero, i.size, i.bytes)) = some (some (.slice none 0 0), 1, 24) := by kernel_rfl
/-- a block of two numbers is a row -/
theorem Holds.twoRow {w0 w : World} {L : List Part} (h : Holds w0 w L) (i : Nat) {g : Nat} {x y : Nat} (hi : L[i]? = some (pBlk g #[.int .i64 (x : Nat), .int .i64 (y : Nat)] 2)) : Holds w0 w (L.set i (pInts (.slice (some ⟨g, 0, none⟩) 2 2) [x, y])) := by
  refine h.turn i hi _ ?_ rfl rfl rfl (Nat.le_refl _) (fun _ _ _ => rfl) fun k hk => .inl ?_
  · exact ⟨rfl, .inr ⟨g, 2, #[.int .i64 (x : Nat), .int .i64 (y : Nat)], rfl, Nat.zero_le _, h.at i hi, Nat.le_refl 2, by decide, rfl, rfl⟩⟩
  · have : g = k := by simpa [pInts, pRow, Value.ownBlock] using hk
    exact this.symm
def buildSl8 (n : Nat) (ps : Array (Nat × Value)) : Sem Next := do pure (.value (← Instr.buildSlice 57 n ps))
theorem exec_buildSl8 (ρ : Operand → Value) (dst : Option Tmp) (n : Nat) (parts : Array (Nat × Operand)) (ty : TypeId) (pos : String) (after : Array Edge) (guard : Option (Nat × Bool)) :
    execOp ρ { dst, op := .buildSlice 57 n parts, type := ty, pos, after, guard } = buildSl8 n (parts.map fun (i, x) => (i, ρ x)) := rfl
theorem run_buildSl8 (x y : Int) (w : World) : (buildSl8 2 #[(0, .int .i64 x), (1, .int .i64 y)]).run Try.prog w = .ok (.value (.slice (some ⟨w.heap.size, 0, none⟩) 2 2)) (w.alloc (.cells #[.int .i64 x, .int .i64 y] 2)) := by
  have h := run_buildSl (P := Try.prog) (T := 57) (E := 2) (s := 1) (n := 2) Try.underlying57 (by kernel_rfl) (by kernel_rfl) #[(0, .int .i64 x), (1, .int .i64 y)] (by simp [Fits, Value.cells]) (by simp [flatC, Value.cells]) (by decide) (by decide) w
  simp only [buildSl8, Sem.run_bind, h, Result.andThen_ok, Sem.run_pure]
  simp [flatC, Value.cells]
set_option maxRecDepth 100000 in
set_option maxHeartbeats 800000 in
theorem tableOfDessin_any (n : Int) (f g : Nat → Nat) (hf : ∀ i, f i < 256) (hg : ∀ i, g i < 256) (x : Int) (w : World) :
    Calls Try.prog 25 #[.agg (dv n f g), .int .i64 x] w fun e w' => ∃ v, e = .returned (.tuple #[v, .int .i64 (tbC n f g x)]) ∧ Below w.heap.size w w' ∧ Own2 w.heap.size w' v (tbL n f g x) := by
  have C1 := hide fun w => isDessin_any n f g hf hg w
  clear hf hg
  have HH0 := (Holds.start w).blk (dv n f g) 36 w.heap.size rfl
  rcases h1 : desB n f g with _ | _
  · rw [h1] at C1
    have hr : tbL n f g x = [] := by unfold tbL; rw [if_neg (by simp [h1])]
    have hc : tbC n f g x = 1 := by unfold tbC; rw [if_neg (by simp [h1])]
    rw [hr, hc]
    clear h1 hr hc
    go_enter Try.func25, Try.ntmps25
    go_wp2_with fail
    refine (C1.out _).mono ?_
    rintro e w1 ⟨rfl, hb⟩
    have HH1 := HH0.call hb
    go_wp2
    go_ret2
    exact ⟨.slice none 0 0, rfl, HH1.low, Own2.nil _ _⟩
  rw [h1] at C1
  obtain ⟨m, rfl, hd⟩ := desB_true h1
  have hn := dv_n m f g
  by_cases hx : 0 ≤ x ∧ x < (m : Int)
  rotate_left
  · have hr : tbL m f g x = [] := by unfold tbL; rw [if_neg (fun k => hx k.2)]
    have hc : tbC m f g x = 2 := by unfold tbC; rw [if_pos h1, if_neg hx]
    rw [hr, hc]
    have C2 := hide fun w => isDart_any m f g x w
    rw [show (decide (0 ≤ x ∧ x < (m : Int))) = false from decide_eq_false hx] at C2
    clear h1 hr hc hx hd
    go_enter Try.func25, Try.ntmps25
    go_wp2_with fail
    refine (C1.out _).mono ?_
    rintro e w1 ⟨rfl, hb⟩
    have HH1 := HH0.call hb
    have cd1 := HH1.cells 0 rfl
    have cn1 := HH1.cell 0 rfl hn
    clear hb HH0
    go_wp2_with fail
    refine (C2.out _).mono ?_
    rintro e w2 ⟨rfl, hb⟩
    have HH2 := HH1.call hb
    clear hb HH1 cd1
    go_wp2
    go_ret2
    exact ⟨.slice none 0 0, rfl, HH2.low, Own2.nil _ _⟩
  have C2 := hide fun w => isDart_any m f g x w
  rw [show (decide (0 ≤ x ∧ x < (m : Int))) = true from decide_eq_true hx] at C2
  obtain ⟨y, rfl⟩ : ∃ y : Nat, x = (y : Int) := ⟨x.toNat, by omega⟩
  have hy : y < m := by omega
  have hm := hd.le
  have hr : tbL (m : Int) f g y = rowsT (renF (namF f g m y) f m) (renF (namF f g m y) g m) m := by unfold tbL; rw [if_pos ⟨h1, hx⟩, Int.toNat_natCast, Int.toNat_natCast]
  have hc : tbC (m : Int) f g y = 0 := by unfold tbC; rw [if_pos h1, if_pos hx]
  rw [hr, hc]
  have hlb : ∀ i, i < m → renF (namF f g m y) f m i < 256 := fun i hi => by have := (renF_perm (namF_perm8 hd hy) hd.black).lt i (by omega); omega
  have hlw : ∀ i, i < m → renF (namF f g m y) g m i < 256 := fun i hi => by have := (renF_perm (namF_perm8 hd hy) hd.white).lt i (by omega); omega
  have CN := hide fun w => naming_any f g m hd y hy w
  have CR := hide fun w => rename_any f g (namF f g m y) m hd.black hd.white (namF_perm8 hd hy) w
  obtain ⟨i2, hi2, hz0, hz1, hz2⟩ := info_parts infoSl8
  have I2 := hide (And.intro hi2 (And.intro hz0 (And.intro hz1 hz2))); clear hi2 hz0 hz1 hz2
  have LB := hide hlb
  have LW := hide hlw
  clear h1 hr hc hx hd hlb hlw
  generalize renF (namF f g m y) f m = b at *
  generalize renF (namF f g m y) g m = c at *
  generalize namF f g m y = nm at *
  have wy : IntKind.u8.wrap (y : Int) = y := wr8k (by omega) (by omega)
  go_enter Try.func25, Try.ntmps25
  go_wp2_with fail
  refine (C1.out _).mono ?_
  rintro e w1 ⟨rfl, hb⟩
  have HH1 := HH0.call hb
  have cd1 := HH1.cells 0 rfl
  have cn1 := HH1.cell 0 rfl hn
  clear hb HH0
  go_wp2_with fail
  refine (C2.out _).mono ?_
  rintro e w2 ⟨rfl, hb⟩
  have HH2 := HH1.call hb
  have cd2 := HH2.cells 0 rfl
  clear hb HH1 cd1 cn1
  go_wp2
  refine Rd.region_P (w0 := w) [pBlk w.heap.size (dv m f g) 36] [pBlk w.heap.size (dv m f g) 36] [6, 7] (.q 0 <| .q 1 <| .q 2 <| .q 3 <| .q 4 <| .q 5 <| .s1 6 <| .s1 7 .fin) HH2 (.refl _) (by kernel_rfl) (by kernel_rfl) (by kernel_rfl) ?_
  iterate 4
    apply Rd.v_q
    · simp only [List.getElem?_toArray, List.getElem?_cons_zero, List.getElem?_cons_succ]; exact rfl
    · rfl
    · go_simp
    · intro wx hx
      have q1 := hx.cells 0 rfl
      unfold atG
      go_simp
      simp only [uponG]
      exact ⟨by trivial, rfl⟩
  iterate 1
    apply Rd.v_q
    · simp only [List.getElem?_toArray, List.getElem?_cons_zero, List.getElem?_cons_succ]; exact rfl
    · rfl
    · go_simp
    · intro wx hx
      have q1 := hx.cells 0 rfl
      unfold atG
      go_simp
      simp only [uponG]
      exact ⟨by trivial, CN.out wx⟩
  iterate 1
    apply Rd.v_q
    · simp only [List.getElem?_toArray, List.getElem?_cons_zero, List.getElem?_cons_succ]; exact rfl
    · rfl
    · go_simp
    · intro wx hx
      have q1 := hx.cells 0 rfl
      unfold atG
      go_simp
      simp only [uponG]
      exact ⟨by trivial, CR.out wx⟩
  refine Rd.v_box (dv 0 (fun _ => 0) (fun _ => 0)) 36 (by simp only [List.getElem?_toArray, List.getElem?_cons_zero, List.getElem?_cons_succ]; exact rfl) rfl (by go_simp) (fun wx hx hD => by rw [dv_zero]; go_simp) fun g6 => ?_
  refine Rd.v_put 0 g6 (dv 0 (fun _ => 0) (fun _ => 0)) (dv m b c) 36 rfl (.cons _ (.refl _)) (by simp only [List.getElem?_toArray, List.getElem?_cons_zero, List.getElem?_cons_succ]; exact rfl) rfl (by go_simp) (fun wx hx hD => ?_) ?_
  · have rr := hD.rowOk (n := 33) 0 rfl (dv_size _ _ _)
    go_simp
  rintro w4 - H4
  clear HH2 cd2
  simp only [List.set_cons_zero] at H4
  go_simp
  have cn4 := H4.cell 1 rfl hn
  go_wp2_with (refine makeH (P := Try.prog) rfl 28 _ _ rfl 57 i2 (.slice none 0 0 : Value) 24 Try.underlying28 I2.out.1 I2.out.2.1 I2.out.2.2.1 I2.out.2.2.2 rfl m .i64 .i64 rfl rfl (by omega) (by decide) H4 ?_)
  intro w5 H5
  clear H4 cn4
  generalize w4.heap.size = G at *
  have H6 : Holds w w5 (pRow (.slice (some ⟨G, 0, none⟩) m m) 57 1 m ([] ++ List.replicate (m - 0) (.slice none 0 0 : Value)) :: pBlk g6 (dv m b c) 36 :: pBlk w.heap.size (dv m f g) 36 :: rowsP [] (rowsT b c 0)) := H5
  clear H5
  go_wp2
  go_loopw [27] (fun t wr => ∃ (i : Nat) (vs : List Value), i ≤ m ∧ t = .int .i64 i ∧ vs.length = i ∧ Holds w wr (pRow (.slice (some ⟨G, 0, none⟩) m m) 57 1 m (vs ++ List.replicate (m - i) (.slice none 0 0 : Value)) :: pBlk g6 (dv m b c) 36 :: pBlk w.heap.size (dv m f g) 36 :: rowsP vs (rowsT b c i))) (fun t _ => m - (intOf t).toNat)
  case atStart => exact ⟨0, [], Nat.zero_le _, rfl, rfl, H6⟩
  case round =>
    clear H6
    obtain ⟨i, vs, hi, rfl, hvs, hH⟩ := hrel
    have HVS := hide hvs; clear hvs
    by_cases hlt : i < m
    · have hlti : (i : Int) < (m : Int) := by omega
      have hi16 : i < 16 := by omega
      have hi16i : (i : Int) < 16 := by omega
      have lb := LB.out i hlt
      have lw := LW.out i hlt
      have wb : IntKind.i64.wrap ((b i : Nat) : Int) = ((b i : Nat) : Int) := wr64k (by omega) (by omega)
      have wc : IntKind.i64.wrap ((c i : Nat) : Int) = ((c i : Nat) : Int) := wr64k (by omega) (by omega)
      have hst := rowsT_succ b c i
      have HST := hide hst; clear hst
      go_wp2
      refine Rd.region_P (w0 := w) (pBlk g6 (dv m b c) 36 :: pBlk w.heap.size (dv m f g) 36 :: rowsP vs (rowsT b c i)) (pRow (.slice (some ⟨G, 0, none⟩) m m) 57 1 m (vs ++ List.replicate (m - i) (.slice none 0 0 : Value)) :: pBlk g6 (dv m b c) 36 :: pBlk w.heap.size (dv m f g) 36 :: rowsP vs (rowsT b c i)) [12, 14] (.q 0 <| .q 1 <| .q 2 <| .q 3 <| .q 4 <| .q 5 <| .q 6 <| .q 7 <| .q 8 <| .q 9 <| .q 10 <| .q 11 <| .s1 12 <| .q 13 <| .s1 14 .fin) hH (.cons _ (.refl _)) (by kernel_rfl) (by kernel_rfl) (by kernel_rfl) ?_
      iterate 12
        apply Rd.v_q
        · simp only [List.getElem?_toArray, List.getElem?_cons_zero, List.getElem?_cons_succ]; exact rfl
        · rfl
        · go_simp
        · intro wx hx
          have q1 := hx.cell 0 rfl (dv_b (m : Int) b c hi16)
          have q2 := hx.cell 0 rfl (dv_w (m : Int) b c hi16)
          unfold atG
          go_simp
          simp only [uponG]
          exact ⟨by trivial, rfl⟩
      refine Rd.v_build #[.int .i64 (b i : Nat), .int .i64 (c i : Nat)] 2 2 (by simp only [List.getElem?_toArray, List.getElem?_cons_zero, List.getElem?_cons_succ]; exact rfl) rfl (by go_simp) (fun wx hx hD => by rw [exec_buildSl8]; simp only [List.map_toArray, List.map_cons, List.map_nil]; go_simp; exact run_buildSl8 _ _ _) fun gr => ?_
      iterate 1
        apply Rd.v_q
        · simp only [List.getElem?_toArray, List.getElem?_cons_zero, List.getElem?_cons_succ]; exact rfl
        · rfl
        · go_simp
        · intro wx hx
          unfold atG
          go_simp
          simp only [uponG]
          exact ⟨by trivial, rfl⟩
      refine Rd.v_s (fun uu wx => uu = undef ∧ Holds w wx (pBlk gr #[.int .i64 (b i : Nat), .int .i64 (c i : Nat)] 2 :: pRow (.slice (some ⟨G, 0, none⟩) m m) 57 1 m ((vs ++ [(.slice (some ⟨gr, 0, none⟩) 2 2)]) ++ List.replicate (m - (i + 1)) (.slice none 0 0 : Value)) :: (pBlk g6 (dv m b c) 36 :: pBlk w.heap.size (dv m f g) 36 :: rowsP vs (rowsT b c i)))) (fun _ _ _ h hb => ⟨h.1, h.2.call hb⟩) (by simp only [List.getElem?_toArray, List.getElem?_cons_zero, List.getElem?_cons_succ]; exact rfl) rfl (by go_simp) (fun wx hx hD => ?_) ?_
      · have z0 := (hD.rowCell8 1 rfl (fill_at8 HVS.out hlt)).1
        have z1 := (hD.rowCell8 1 rfl (fill_at8 HVS.out hlt)).2
        have hs := hD.put 1 rfl i (.slice (some ⟨gr, 0, none⟩) 2 2)
        rw [fill_set8 HVS.out hlt] at hs
        have HS := hide hs; clear hs
        go_simp
        simp only [Rd.uponE]
        have hs2 := HS.out
        simp only [List.append_assoc, List.cons_append, List.nil_append, List.set_cons_succ, List.set_cons_zero] at hs2 ⊢
        exact ⟨hs2.sub (.cons _ (.cons _ (.refl _))), by trivial, hs2⟩
      rintro v ⟨_, _, rfl, _⟩
      rintro wz - hz
      have h2 := hz.2.twoRow 0 rfl
      have h3 : Holds w wz (pInts (.slice (some ⟨gr, 0, none⟩) 2 2) [b i, c i] :: ([pRow (.slice (some ⟨G, 0, none⟩) m m) 57 1 m ((vs ++ [(.slice (some ⟨gr, 0, none⟩) 2 2)]) ++ List.replicate (m - (i + 1)) (.slice none 0 0 : Value)), pBlk g6 (dv m b c) 36, pBlk w.heap.size (dv m f g) 36] ++ rowsP vs (rowsT b c i))) := h2
      have h4 := h3.rowEnd (by rw [rowsT_len]; exact HVS.out)
      rw [← HST.out] at h4
      have HZ := hide h4; clear h2 h3 h4 hz hH
      go_simp
      go_wp2
      go_roundw
      case rel => exact ⟨i + 1, vs ++ [_], by omega, by go_num, by rw [List.length_append, HVS.out]; rfl, HZ.out⟩
      case measure => simp [intOf]; omega
    · obtain rfl : i = m := by omega
      have hown : Own2 w.heap.size wr (.slice (some ⟨G, 0, none⟩) i i) (rowsT b c i) := by
        have e : vs ++ List.replicate (i - i) (.slice none 0 0 : Value) = vs := by rw [Nat.sub_self]; simp
        rw [e] at hH
        have h2 : Holds w wr ([pBlk g6 (dv i b c) 36, pBlk w.heap.size (dv i f g) 36] ++ pVals (.slice (some ⟨G, 0, none⟩) i i) vs :: rowsP vs (rowsT b c i)) := by
          unfold pVals
          rw [HVS.out]
          exact hH.perm ((List.Perm.swap _ _ _).trans ((List.Perm.swap _ _ _).cons _))
        exact h2.own2 (by rw [rowsT_len]; exact HVS.out)
      have HOW := hide hown
      have lo := hH.low
      clear hown hlt hi
      go_wp2
      go_ret2
      exact ⟨_, rfl, lo, HOW.out⟩
end Go.Proofs.Yteeideminlcblaa
