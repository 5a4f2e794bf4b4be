/- spec.l03Block -/
import Derived.Test.YtgomfphdgekniaaBlk
import Derived.IntWalk
namespace Go.Proofs.Ytgomfphdgekniaa
open Go.RowKit

/-- sixteen numbers -/
@[irreducible] def zv (f : Nat → Nat) : Array Value := row 16 fun i => .int .i64 (f i)
theorem zv_size (f : Nat → Nat) : (zv f).size = 16 := by unfold zv; exact row_size _ _
theorem zv_get (f : Nat → Nat) {i : Nat} (h : i < 16) : (zv f)[i]? = some (.int .i64 (f i)) := by unfold zv; exact row_get _ _ h
theorem zv_set (f : Nat → Nat) (i v : Nat) : (zv f).setIfInBounds i (.int .i64 v) = zv (fset f i v) := by
  unfold zv
  rw [row_set]
  apply row_congr
  intro j _
  unfold fset
  by_cases c : j = i
  · rw [if_pos c, if_pos c]
  · rw [if_neg c, if_neg c]
theorem zv_zero : zv (fun _ => 0) = #[.int .i64 0, .int .i64 0, .int .i64 0, .int .i64 0, .int .i64 0, .int .i64 0, .int .i64 0, .int .i64 0, .int .i64 0, .int .i64 0, .int .i64 0, .int .i64 0, .int .i64 0, .int .i64 0, .int .i64 0, .int .i64 0] := by
  unfold zv row; rfl
/-- rows of pairs of numbers -/
def pairZ (l : List (Nat × Nat)) : List Value := l.flatMap fun p => [Value.int .i64 (p.1 : Int), Value.int .i64 (p.2 : Int)]
theorem pairZ_length (l : List (Nat × Nat)) : (pairZ l).length = l.length * 2 := by unfold pairZ; induction l <;> simp_all <;> omega
theorem pairZ_append (l l' : List (Nat × Nat)) : pairZ (l ++ l') = pairZ l ++ pairZ l' := by unfold pairZ; simp
theorem pairZ_at {l : List (Nat × Nat)} {k : Nat} (hk : k < l.length) : (pairZ l)[k * 2]? = some (.int .i64 (l[k].1 : Int)) ∧ (pairZ l)[k * 2 + 1]? = some (.int .i64 (l[k].2 : Int)) := by
  induction l generalizing k with
  | nil => simp at hk
  | cons p l ih =>
    rcases k with _ | k
    · exact ⟨rfl, rfl⟩
    · have := ih (k := k) (by simpa using hk)
      have e : pairZ (p :: l) = [Value.int .i64 (p.1 : Int), Value.int .i64 (p.2 : Int)] ++ pairZ l := rfl
      rw [e, List.getElem?_append_right (by simp; omega), List.getElem?_append_right (by simp; omega)]
      simp only [List.length_cons, List.length_nil, List.getElem_cons_succ]
      rw [show (k + 1) * 2 - (0 + 1 + 1) = k * 2 by omega, show (k + 1) * 2 + 1 - (0 + 1 + 1) = k * 2 + 1 by omega]
      exact this
theorem pairZ_one {l : List (Nat × Nat)} : ∀ u ∈ pairZ l, u.oneCell' = true := by
  intro u hu
  unfold pairZ at hu
  obtain ⟨p, _, hp⟩ := List.mem_flatMap.1 hu
  simp at hp
  rcases hp with rfl | rfl <;> rfl
theorem infoPz : (Try.prog.info? 104).map (fun i => (i.zero, i.size, i.bytes)) = some (some (.agg #[.int .i64 0, .int .i64 0]), 2, 16) := by kernel_rfl
def pPairsZ (v : Value) (l : List (Nat × Nat)) : Part := pRow v 104 2 l.length (pairZ l)
theorem Holds.pairsZ {w0 w : World} {L : List Part} (h : Holds w0 w L) (i : Nat) {v : Value} {l : List (Nat × Nat)} (hi : L[i]? = some (pPairsZ v l)) {k : Nat} (hk : k < l.length) :
    ∃ g c, v = .slice (some ⟨g, 0, none⟩) l.length c ∧ g < w.heap.size ∧ w.cell? ⟨g, k * 2, none⟩ = some (.int .i64 (l[k].1 : Int)) ∧ w.cell? ⟨g, k * 2 + 1, none⟩ = some (.int .i64 (l[k].2 : Int)) := by
  obtain ⟨g, c, h1, h2, h3, h4, h5, h6, h7⟩ := row_at (h.row i hi) (by omega : 0 < l.length)
  exact ⟨g, c, h1, h3, h6 _ _ (pairZ_at hk).1, h6 _ _ (pairZ_at hk).2⟩
theorem Holds.pairsZForm {w0 w : World} {L : List Part} (h : Holds w0 w L) (i : Nat) {v : Value} {l : List (Nat × Nat)} (hi : L[i]? = some (pPairsZ v l)) : ∃ A c, v = .slice A l.length c := own_slice (h.row i hi)
theorem appZp {ops : Array Oper} {rest : List Oper} {o : Oper} {a : Act} {Q : Exit → Act → World → Prop} {w0 w : World} {L : List Part} (H : Holds w0 w L) (k : Nat) {v : Value} {l : List (Nat × Nat)} (hk : L[k]? = some (pPairsZ v l))
    (g : Nat) (news : List (Nat × Nat)) (t : TypeId) (hc : w.heap[g]? = some (.cells (pairZ news).toArray t (0, 0))) (hb : l.length + news.length ≤ 1000000)
    (hgd : o.guard = none) (s x : Operand)
    (ho : o.op = .call { callee := .builtin .append, args := #[s, x], argTypes := #[105, 105] })
    (hs : a.eval s = v) (hx : a.eval x = .slice (some ⟨g, 0, none⟩) news.length news.length)
    (h : ∀ v' w', Holds w0 w' (L.set k (pPairsZ v' (l ++ news))) → wpList Try.prog ops Q rest (a.put o.dst v') w') : wpList Try.prog ops Q (o :: rest) a w := by
  obtain ⟨i0, hi, hz0, hz1, hz2⟩ := info_parts infoPz
  refine appH (P := Try.prog) hgd s x 105 ho 104 i0 (.agg #[.int .i64 0, .int .i64 0]) 2 16 Try.underlying105 hi hz0 hz1 hz2 rfl (by decide) v l.length (pairZ l) hs H k hk ⟨g, 0, none⟩ news.length news.length (pairZ news) hx
    (pairZ_length _) (fun j u hu => ?_) pairZ_one (by unfold maxLen; omega) (by omega) fun v' w' h1 => h v' w' ?_
  · have : ((⟨g, 0, none⟩ : Addr).add j) = ⟨g, j, none⟩ := by simp [Addr.add]; exact Eq.symm
    rw [this, cell_of_cells, cellsOf_heap hc]
    simpa using hu
  · unfold pPairsZ at *
    rw [List.length_append, pairZ_append]
    exact h1
theorem upon_appZp {o : Oper} {a : Act} {w0 w : World} {L : List Part} (H : Holds w0 w L) (k : Nat) {v : Value} {l : List (Nat × Nat)} (hk : L[k]? = some (pPairsZ v l))
    (g : Nat) (news : List (Nat × Nat)) (t : TypeId) (hc : w.heap[g]? = some (.cells (pairZ news).toArray t (0, 0))) (hb : l.length + news.length ≤ 1000000) {C : World → Prop} {R : Value → World → Prop}
    (h : ∀ v' w', Holds w0 w' (L.set k (pPairsZ v' (l ++ news))) → C w' ∧ R v' w') (s x : Operand)
    (ho : o.op = .call { callee := .builtin .append, args := #[s, x], argTypes := #[105, 105] })
    (hs : a.eval s = v) (hx : a.eval x = .slice (some ⟨g, 0, none⟩) news.length news.length) : Rc.uponE Try.prog C R w ((execOp a.eval o).run Try.prog w) := by
  obtain ⟨i0, hi, hz0, hz1, hz2⟩ := info_parts infoPz
  obtain ⟨v', w', h1, h2, _⟩ := run_appH (P := Try.prog) (w := w) 105 o.type 104 i0 (.agg #[.int .i64 0, .int .i64 0]) 2 16 Try.underlying105 hi hz0 hz1 hz2 rfl (by decide) v l.length (pairZ l) H k hk ⟨g, 0, none⟩ news.length news.length (pairZ news)
    (pairZ_length _) (fun j u hu => by
      have : ((⟨g, 0, none⟩ : Addr).add j) = ⟨g, j, none⟩ := by simp [Addr.add]; exact Eq.symm
      rw [this, cell_of_cells, cellsOf_heap hc]
      simpa using hu) pairZ_one (by unfold maxLen; omega) (by omega)
  rw [exec_append ho hs hx h1]
  refine h v' w' ?_
  unfold pPairsZ at *
  rw [List.length_append, pairZ_append]
  exact h2

/-- the first k numbers themselves -/
theorem same_step {k m : Nat} (h : k < m) : fset (sameN k) k k = sameN (k + 1) := by
  funext i
  unfold fset sameN
  by_cases e : i = k
  · subst e; simp
  · have : i < k + 1 ↔ i < k := by omega
    simp [e, this]
/-- the merging, j darts on -/
def mgT (j : Nat) (c : Nat → Nat) (a b : Nat) : Nat → Nat := fun i => if i < j ∧ c i = c b then c a else c i
theorem mgT_all (m : Nat) (c : Nat → Nat) (a b : Nat) : mgT m c a b = mgS m c a b := rfl
theorem mgT_zero (c : Nat → Nat) (a b : Nat) : mgT 0 c a b = c := by funext i; simp [mgT]
theorem mgT_at (j : Nat) (c : Nat → Nat) (a b : Nat) : mgT j c a b j = c j := by simp [mgT]
theorem mgT_yes {j : Nat} {c : Nat → Nat} {a b : Nat} (h : c j = c b) : fset (mgT j c a b) j (c a) = mgT (j + 1) c a b := by
  funext i
  unfold fset mgT
  by_cases e : i = j
  · subst e; simp [h]
  · have : i < j + 1 ↔ i < j := by omega
    simp [e, this]
theorem mgT_no {j : Nat} {c : Nat → Nat} {a b : Nat} (h : ¬ c j = c b) : mgT j c a b = mgT (j + 1) c a b := by
  funext i
  unfold mgT
  by_cases e : i = j
  · subst e; simp [h]
  · have : i < j + 1 ↔ i < j := by omega
    simp [this]
@[irreducible] def joinS (f g : Nat → Nat) (m x y : Nat) : Nat → Nat := (jrun (mgS m) f g ([(x, y)], sameN m) 64).2
theorem joinS_fact (f g : Nat → Nat) (m : Nat) (hf : ∀ i, i < m → f i < m) (hg : ∀ i, i < m → g i < m) (x y : Nat) (hx : x < m) (hy : y < m) (hm : m ≤ 16 := by omega) :
    ∃ F : Nat → JS, (∀ k, JInv m 33 (F k)) ∧ F 0 = ([(x, y)], sameN m) ∧ (∀ k, F (k + 1) = jst (mgS m) f g (F k) k) ∧ (∀ k, k ≤ 64 → (F k).1.length ≤ k → joinS f g m x y = (F k).2) := by
  refine ⟨jrun (mgS m) f g ([(x, y)], sameN m), fun k => ?_, rfl, fun k => rfl, fun k h1 h2 => ?_⟩
  · have := jrun_inv (mgS_ok m) hf hg (JInv.start [(x, y)] (by simpa using ⟨hx, hy⟩)) k
    refine ⟨this.lt, this.num, this.far, Nat.le_trans this.len ?_⟩
    simp only [List.length_cons, List.length_nil]; omega
  · unfold joinS
    generalize 64 = K at *
    rw [jrun_stop h2 h1]
theorem class_gen (K : Nat) (f g : Nat → Nat) (m : Nat) (hf : ∀ i, i < m → f i < m) (hg : ∀ i, i < m → g i < m) (x y : Nat) (hx : x < m) (hy : y < m) (hK : 2 * m + 1 ≤ K) :
    classL m (jrun (mgS m) f g ([(x, y)], sameN m) (K + 1)).2 x = classL m (jrun (mgI m) f g ([(x, x), (x, y)], sameN m) (K + 1)).2 x := by
  have I := jrun_inv (mgS_ok m) hf hg (JInv.start [(x, y)] (by simpa using ⟨hx, hy⟩)) K
  have hl := I.len
  simp only [List.length_cons, List.length_nil] at hl
  rw [jrun_stop (i := K) (j := K + 1) (by omega) (by omega)]
  have h2 := (jrun_two (mgI_ok m) (mgS_ok m) hf hg hx hy K).2
  unfold classL
  apply List.filter_congr
  intro i hi
  have := h2 i x (List.mem_range.1 hi) hx
  rw [Bool.eq_iff_iff]
  simp only [beq_iff_eq]
  exact this.symm
/-- both tell the same block -/
theorem class_both (f g : Nat → Nat) (m : Nat) (hf : ∀ i, i < m → f i < m) (hg : ∀ i, i < m → g i < m) (x y : Nat) (hx : x < m) (hy : y < m) (hm : m ≤ 16) : classL m (joinS f g m x y) x = classL m (joinR f g m [x, y] x) x := by
  unfold joinS joinR
  exact class_gen 63 f g m hf hg x y hx hy (by omega)

set_option maxRecDepth 100000 in
set_option maxHeartbeats 2000000 in
theorem sBlock_any (f g : Nat → Nat) (m : Nat) (hd : DesN f g m) (x y : Nat) (hx : x < m) (hy : y < m) (w : World) :
    Calls Try.prog 65 #[.agg (dv m f g), .int .i64 x, .int .i64 y] w fun e w' => ∃ u, e = .returned u ∧ Below w.heap.size w w' ∧ Own1 w.heap.size w' u (classL m (joinS f g m x y) x) := by
  have hm := hd.le
  have hn := dv_n m f g
  have hfg := And.intro hd.bf.1 hd.bg.1
  obtain ⟨F, FI, F0, FS, FE⟩ := joinS_fact f g m hd.bf.1 hd.bg.1 x y hx hy
  generalize joinS f g m x y = R at *
  replace FI := hide FI
  replace F0 := hide F0
  replace FS := hide FS
  replace FE := hide FE
  have HF := hide hfg; clear hfg hd
  have HH0 := (Holds.start w).blk (dv m f g) 30 w.heap.size rfl
  go_enter Try.func65, Try.ntmps65
  go_wp2
  rw [← zv_zero]
  have HH1 := HH0.blk (zv fun _ => 0) 61 (w.heap.size + 1) (by simp)
  clear HH0
  go_loopw [8] (fun t wr => ∃ k : Nat, k ≤ m ∧ t = .int .i64 k ∧ Holds w wr [pBlk (w.heap.size + 1) (zv (sameN k)) 61, pBlk w.heap.size (dv m f g) 30]) (fun t _ => m - (intOf t).toNat)
  case atStart => exact ⟨0, by omega, rfl, HH1⟩
  case round =>
    clear HH1
    obtain ⟨k, hk, rfl, hH⟩ := hrel
    have cn := hH.cell 1 rfl hn
    by_cases hkm : k < m
    · have hk16 : k < 16 := by omega
      have z1 : wr.cell? ⟨w.heap.size + 1, k, none⟩ = some (.int .i64 (sameN k k)) := hH.cell 0 rfl (zv_get _ hk16)
      have f1 := hH.frozen 0 rfl k
      have hs := same_step hkm
      have HS := hide hs; clear hs
      go_wp2
      go_roundw
      case rel => exact ⟨k + 1, by omega, by go_num, by rw [← HS.out, ← zv_set]; exact hH.set 0 rfl k _⟩
      case measure => simp [intOf]; omega
    · obtain rfl : m = k := by omega
      clear hk hkm
      have HH3 : Holds w (wr.alloc (.cells #[.int .i64 x, .int .i64 y] 104)) [pPairsZ (.slice (some ⟨wr.heap.size, 0, none⟩) 1 1) [(x, y)], pBlk (w.heap.size + 1) (zv (sameN m)) 61, pBlk w.heap.size (dv m f g) 30] := hH.rowNew #[.int .i64 x, .int .i64 y] 104 2 1 wr.heap.size rfl rfl (by unfold maxLen; omega)
      clear hH
      go_wp2
      clear cn
      go_loopw [9, 10] (fun u t wr => ∃ k : Nat, k ≤ (F k).1.length ∧ t = .int .i64 k ∧ Holds w wr [pPairsZ u (F k).1, pBlk (w.heap.size + 1) (zv (F k).2) 61, pBlk w.heap.size (dv m f g) 30]) (fun _ t _ => 64 - (intOf t).toNat)
      case atStart => exact ⟨0, by omega, rfl, by rw [F0.out]; exact HH3⟩
      case round =>
        clear HH3
        obtain ⟨k, hk, rfl, hH⟩ := hrel
        have hI := FI.out k
        have hst := FS.out k
        have hle := hI.len
        by_cases hkl : k < (F k).1.length
        · obtain ⟨g0, c0, rfl, _, y1, y2⟩ := hH.pairsZ 0 rfl hkl
          unfold jst at hst
          rw [List.getElem?_eq_getElem hkl] at hst
          have hpl := hI.lt _ (List.getElem_mem hkl)
          have hnum := hI.num
          generalize hS : F k = S at *
          generalize S.1[k] = p at *
          obtain ⟨a, b⟩ := p
          simp only at hst y1 y2 hpl
          obtain ⟨hpa, hpb⟩ := hpl
          have ha16 : (a : Int) < 16 := by omega
          have hb16 : (b : Int) < 16 := by omega
          have hca := (hnum a hpa).1
          have hcb := (hnum b hpb).1
          have HS := hide hS; clear hS
          have HN := hide hnum; clear hnum
          have HI := hide hI; clear hI
          go_wp2
          go_quiet (fail)
          have hHz := hH.drewN nq
          clear y1 y2 hH
          generalize wr.drewN nq = wz at *
          have z1 : wz.cell? ⟨w.heap.size + 1, a, none⟩ = some (.int .i64 (S.2 a)) := hHz.cell 1 rfl (zv_get _ (by omega))
          have z2 : wz.cell? ⟨w.heap.size + 1, b, none⟩ = some (.int .i64 (S.2 b)) := hHz.cell 1 rfl (zv_get _ (by omega))
          by_cases hab : S.2 a = S.2 b
          · have d1 := cast_beq hab
            rw [if_pos hab] at hst
            have HST := hide hst; clear hst hab
            go_wp2
            go_quiet (fail)
            go_wp2
            go_roundw
            case rel => exact ⟨k + 1, by rw [HST.out]; omega, by go_num, by rw [HST.out]; exact hHz.drewN _⟩
            case measure => simp [intOf]; omega
          · have d1 := cast_bne hab
            rw [if_neg hab] at hst
            have HST := hide hst; clear hst
            have HAB := hide hab; clear hab
            go_wp2
            go_quiet (fail)
            have hHy := hHz.drewN nq
            clear z1 z2 hHz
            generalize wz.drewN nq = wy at *
            have z1 : wy.cell? ⟨w.heap.size + 1, a, none⟩ = some (.int .i64 (S.2 a)) := hHy.cell 1 rfl (zv_get _ (by omega))
            have z2 : wy.cell? ⟨w.heap.size + 1, b, none⟩ = some (.int .i64 (S.2 b)) := hHy.cell 1 rfl (zv_get _ (by omega))
            go_wp2
            go_quiet (fail)
            have hHx := hHy.drewN nq
            clear z1 z2 hHy
            generalize wy.drewN nq = wv at *
            go_wp2
            go_loopw [15] (fun t wr => ∃ j : Nat, j ≤ m ∧ t = .int .i64 j ∧ Holds w wr [pPairsZ (.slice (some ⟨g0, 0, none⟩) S.1.length c0) S.1, pBlk (w.heap.size + 1) (zv (mgT j S.2 a b)) 61, pBlk w.heap.size (dv m f g) 30]) (fun t _ => m - (intOf t).toNat)
            case atStart => exact ⟨0, by omega, rfl, by rw [mgT_zero]; exact hHx⟩
            case round =>
              clear hHx
              obtain ⟨j, hj, rfl, hH⟩ := hrel
              have cn := hH.cell 2 rfl hn
              by_cases hjm : j < m
              · have hj16 : j < 16 := by omega
                have z1 : wr.cell? ⟨w.heap.size + 1, j, none⟩ = some (.int .i64 (S.2 j)) := hH.cell 1 rfl (by rw [zv_get _ hj16, mgT_at])
                have f1 := hH.frozen 1 rfl j
                by_cases e1 : S.2 j = S.2 b
                · have d2 := cast_beq e1
                  have hm2 := mgT_yes (a := a) (b := b) e1
                  have HM := hide hm2; clear hm2 e1
                  go_wp2
                  go_roundw
                  case rel => exact ⟨j + 1, by omega, by go_num, by rw [← HM.out, ← zv_set]; exact hH.set 1 rfl j _⟩
                  case measure => simp [intOf]; omega
                · have d2 := cast_bne e1
                  have hm2 := mgT_no (a := a) (b := b) e1
                  have HM := hide hm2; clear hm2 e1
                  go_wp2
                  go_roundw
                  case rel => exact ⟨j + 1, by omega, by go_num, by rw [← HM.out]; exact hH⟩
                  case measure => simp [intOf]; omega
              · obtain rfl : m = j := by omega
                rw [mgT_all] at hH
                clear hj hjm
                go_wp2
                have hql : S.1.length ≤ 48 := by have := HI.out.len; omega
                have hfa := HF.out.1 a hpa
                have hfb := HF.out.1 b hpb
                have hga := HF.out.2 a hpa
                have hgb := HF.out.2 b hpb
                have i1 : IntKind.i64.wrap ((f a : Nat) : Int) = (f a : Nat) := IntWalk.i64_in _ (by omega)
                have i2 : IntKind.i64.wrap ((f b : Nat) : Int) = (f b : Nat) := IntWalk.i64_in _ (by omega)
                have i3 : IntKind.i64.wrap ((g a : Nat) : Int) = (g a : Nat) := IntWalk.i64_in _ (by omega)
                have i4 : IntKind.i64.wrap ((g b : Nat) : Int) = (g b : Nat) := IntWalk.i64_in _ (by omega)
                clear cn
                refine Rc.region_P (w0 := w) [pBlk (w.heap.size + 1) (zv (mgS m S.2 a b)) 61, pBlk w.heap.size (dv m f g) 30] [pPairsZ (.slice (some ⟨g0, 0, none⟩) S.1.length c0) S.1, pBlk (w.heap.size + 1) (zv (mgS m S.2 a b)) 61, pBlk w.heap.size (dv m f g) 30] (fun i => if i = 23 then some (Rc.rBuild w #[.int .i64 (f a), .int .i64 (f b), .int .i64 (g a), .int .i64 (g b)] 104 2 [pPairsZ (.slice (some ⟨g0, 0, none⟩) S.1.length c0) S.1, pBlk (w.heap.size + 1) (zv (mgS m S.2 a b)) 61, pBlk w.heap.size (dv m f g) 30]) else if i = 24 then some (Rc.rHolds w fun v => [pPairsZ v (S.1 ++ [(f a, f b), (g a, g b)]), pBlk (w.heap.size + 1) (zv (mgS m S.2 a b)) 61, pBlk w.heap.size (dv m f g) 30]) else none) [23, 24] (.q 0 <| .q 1 <| .q 2 <| .q 3 <| .q 4 <| .q 5 <| .q 6 <| .q 7 <| .q 8 <| .q 9 <| .q 10 <| .q 11 <| .q 12 <| .q 13 <| .q 14 <| .q 15 <| .q 16 <| .q 17 <| .q 18 <| .q 19 <| .q 20 <| .q 21 <| .q 22 <| .s1 23 <| .s1 24 <| .q 25 .fin) hH (.cons _ (.refl _)) (fun i R hR v => ?_) (by kernel_rfl) (by kernel_rfl) (by kernel_rfl) (fun k hk => ?_) ?_
                · split at hR
                  · cases hR; exact Rc.rBuild_stable v
                  · split at hR
                    · cases hR; exact Rc.rHolds_stable v
                    · cases hR
                · simp at hk; simp [hk]
                iterate 23
                  apply Rc.v_q
                  · simp only [List.getElem?_toArray, List.getElem?_cons_zero, List.getElem?_cons_succ]; exact rfl
                  · rfl
                  · go_simp
                  · intro wx hx
                    have c1 := hx.cell 1 rfl (dv_b m f g (i := a) (by omega))
                    have c2 := hx.cell 1 rfl (dv_b m f g (i := b) (by omega))
                    have c3 := hx.cell 1 rfl (dv_w m f g (i := a) (by omega))
                    have c4 := hx.cell 1 rfl (dv_w m f g (i := b) (by omega))
                    unfold atG
                    go_simp
                    simp only [uponG]
                    exact ⟨by trivial, rfl⟩
                refine Rc.v_s (by simp only [List.getElem?_toArray, List.getElem?_cons_zero, List.getElem?_cons_succ]; exact rfl) rfl (by go_simp) (fun wx hx hD => ?_) ?_
                · go_simp
                  simp only [Rc.uponE]
                  exact ⟨hx.alloc _, _, rfl, hD.blk _ _ _ rfl⟩
                rintro vg ⟨_, _, gq, rfl, _⟩
                refine Rc.v_s (by simp only [List.getElem?_toArray, List.getElem?_cons_zero, List.getElem?_cons_succ]; exact rfl) rfl (by go_simp) (fun wx hx hD => ?_) ?_
                · obtain ⟨gq', eq', hD⟩ := hD
                  injection eq' with eq'
                  injection eq' with eq'
                  injection eq' with eq'
                  subst eq'
                  exact upon_appZp hD 1 rfl gq [(f a, f b), (g a, g b)] 104 (hD.at 0 rfl) (by simp only [List.length_cons, List.length_nil]; omega) (fun vn wn r2 => ⟨Holds.sub (Holds.tail r2) (.cons _ (.refl _)), Holds.tail r2⟩) _ _ rfl (by go_simp) (by go_simp)
                rintro vn -
                iterate 1
                  apply Rc.v_q
                  · simp only [List.getElem?_toArray, List.getElem?_cons_zero, List.getElem?_cons_succ]; exact rfl
                  · rfl
                  · go_simp
                  · intro wx hx
                    unfold atG
                    go_simp
                    simp only [uponG]
                    exact ⟨by trivial, rfl⟩
                rintro w2 - h1
                clear hH
                go_wp2
                go_roundw
                case rel => exact ⟨k + 1, by rw [HST.out]; simp; omega, by go_num, by rw [HST.out]; exact h1⟩
                case measure => simp [intOf]; omega
        · obtain ⟨A1, c1, rfl⟩ := hH.pairsZForm 0 rfl
          have hR := FE.out k (by omega) (by omega)
          have hkk : (F k).1.length = k := by omega
          rw [← hR, hkk] at hH
          rw [hkk]
          have hHq : Holds w (wr.alloc (.cells #[] 2)) [pInts (.slice (some ⟨wr.heap.size, 0, none⟩) 0 0) [], pBlk (w.heap.size + 1) (zv R) 61, pBlk w.heap.size (dv m f g) 30] := (hH.tail).rowNew #[] 2 1 0 wr.heap.size rfl rfl (by unfold maxLen; omega)
          clear hst hR hkk hle hI hk hkl hH
          go_wp2
          go_loopw [16, 17] (fun u t wr => ∃ k : Nat, k ≤ m ∧ t = .int .i64 k ∧ Holds w wr [pInts u (classP k R x), pBlk (w.heap.size + 1) (zv R) 61, pBlk w.heap.size (dv m f g) 30]) (fun _ t _ => m - (intOf t).toNat)
          case atStart => exact ⟨0, by omega, rfl, hHq⟩
          case round =>
            clear hHq
            obtain ⟨k, hk, rfl, hH⟩ := hrel
            obtain ⟨A', c', rfl⟩ := hH.intsForm 0 rfl
            have cn := hH.cell 2 rfl hn
            by_cases hkm : k < m
            · have hk16 : k < 16 := by omega
              have z1 : wr.cell? ⟨w.heap.size + 1, k, none⟩ = some (.int .i64 (R k)) := hH.cell 1 rfl (zv_get _ hk16)
              have z2 : wr.cell? ⟨w.heap.size + 1, x, none⟩ = some (.int .i64 (R x)) := hH.cell 1 rfl (zv_get _ (by omega))
              have hlen := classP_len k R x
              by_cases e : R k = R x
              · have d := cast_beq e
                have hcl := classP_yes e
                have HC := hide hcl; clear hcl e
                go_wp2
                go_quiet (fail)
                have hHz := hH.drewN nq
                clear hH z1 z2 cn
                generalize wr.drewN nq = wz at *
                go_wp2_with (at_builtin; refine appI (hHz.alloc _) 0 rfl wz.heap.size [k] 2 ?_ ?_ rfl _ _ rfl rfl rfl ?_)
                · exact heap_at _ _ _ rfl
                · simp only [List.length_cons, List.length_nil]; omega
                intro v' w' h1
                clear hHz
                go_wp2
                go_roundw
                case rel => exact ⟨k + 1, by omega, by go_num, by rw [← HC.out]; exact h1⟩
                case measure => simp [intOf]; omega
              · have d := cast_bne e
                have hcl := classP_no e
                have HC := hide hcl; clear hcl e
                go_wp2
                go_quiet (fail)
                have hHz := hH.drewN nq
                clear hH z1 z2 cn
                go_wp2
                go_roundw
                case rel => exact ⟨k + 1, by omega, by go_num, by rw [← HC.out]; exact hHz⟩
                case measure => simp [intOf]; omega
            · obtain rfl : m = k := by omega
              clear hkm hk
              go_wp2
              go_ret
              exact ⟨_, rfl, hH.low, hH.own1 0 rfl⟩
end Go.Proofs.Ytgomfphdgekniaa
