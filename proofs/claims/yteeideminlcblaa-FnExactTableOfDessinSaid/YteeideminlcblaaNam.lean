/- Sixteen zeros behind a list of bytes; impl.naming -/
import Derived.Test.YteeideminlcblaaPF
import Derived.Laws.Cover3
namespace Go.Proofs.Yteeideminlcblaa
open Go.RowKit

theorem zeros16 : (Builtin.zeroCells #[Value.int .u8 0] 16).toList = bytesL (List.replicate 16 0) := by kernel_rfl
theorem wrap16 : IntKind.i64.wrap 16 = 16 := by kernel_rfl
theorem run_app16 {w : World} {B : Nat} {v : Value} {l : List Nat} (ty : TypeId) (h : OwnB B w v l) (h0 : 0 < l.length) (hl : l.length ≤ 16) (hBw : B ≤ w.heap.size) :
    ∃ v' w', (Builtin.append_ #[80, 3] ty #[v, .int .i64 16]).run Try.prog w = .ok v' w' ∧ OwnB B w' v' (l ++ List.replicate 16 0) ∧ w.grownBy w' v.ownBlock := by
  obtain ⟨i0, hi, hz0, hz1, hz2⟩ := info_parts infoU8
  rcases h.2 with ⟨_, e⟩ | ⟨g, cap, cur, rfl, hB, hh, h1, h2, h3, h4⟩
  · omega
  · rw [Nat.mul_one] at h3 h4
    have hbl : (bytesL l).length = l.length := by simp [bytesL]
    by_cases hroom : l.length + 16 ≤ cap
    · have hst := run_storeCells_at Try.prog g l.length 5 (bytesL (List.replicate 16 0)) 0 cur w hh (by simp [bytesL]; omega) (by simp [bytesL, Value.oneCell'])
      refine ⟨.slice (some ⟨g, 0, none⟩) (l.length + 16) cap, w.setRow g (cur.toList.take l.length ++ bytesL (List.replicate 16 0) ++ cur.toList.drop (l.length + 16)).toArray, ?_, ?_, ?_⟩
      · have hz := zeros16
        simp only [Nat.add_zero] at hst
        have hZl : (bytesL (List.replicate 16 0)).length = 16 := by simp [bytesL]
        generalize bytesL (List.replicate 16 0) = Z at *
        rw [hZl] at hst
        simp [Builtin.append_, run_underlying Try.underlying80, run_underlying Try.underlying3, sizeOf, typeInfo, zeroValue, hi, hz0, hz1, hz2, hroom, asInt, asIntOf, Addr.add_lit, wrap16, hz, Value.cells, hst, hbl]
      · refine ⟨by simp [bytesL], .inr ⟨g, cap, _, by simp, hB, setRow_heap _ _ _ _ _ _ hh, by simpa using hroom, h2, ?_, ?_⟩⟩
        · simp [bytesL]; omega
        · rw [h4]
          have : (l ++ List.replicate 16 0).length * 1 = (bytesL l ++ bytesL (List.replicate 16 0)).length := by simp [bytesL]
          rw [this]
          simp only [List.take_left]
          simp [bytesL]
      · exact ⟨rfl, rfl, rfl, by simp, fun k _ hk => setRow_other w g k _ (fun e => hk (by simp [Value.ownBlock, e]))⟩
    · have hn : ¬ (l.length + 16 ≤ cap) := hroom
      have h63 : ¬ (9223372036854775807 < ((l.length : Int) + max 16 0)) := by omega
      have h48 : ¬ (281474976710656 < Builtin.nextslicecap (l.length + 16) cap) := by
        have := growslice_fits (need := l.length + 16) (old := cap) (bytes := 1) (by omega) (by omega)
        omega
      have hfo := run_firstCells_some (P := Try.prog) w.drew 1 l.length ⟨g, 0, none⟩ l.length cap (bytesL l) (by simp [bytesL]) (fun j u hu => by
        have := World.ownsRow.cells h (g := g) rfl j u hu
        simpa using this)
      have hz := zeros16
      have hge := grownCap_ge w (l.length + 16) cap 5
      have hcm := grownCap_le_maxLen w (l.length + 16) cap 5 (by unfold maxLen; omega)
      refine ⟨.slice (some ⟨w.heap.size, 0, none⟩) (l.length + 16) (grownCap w (l.length + 16) cap 5), w.drew.alloc (.cells ((bytesL l).toArray ++ (Builtin.zeroCells #[Value.int .u8 0] 16 ++ Builtin.zeroCells #[Value.int .u8 0] (grownCap w (l.length + 16) cap 5 - (l.length + 16)))) 5), ?_, ?_, ?_⟩
      · simp [Builtin.append_, run_underlying Try.underlying80, run_underlying Try.underlying3, sizeOf, typeInfo, zeroValue, hi, hz0, hz1, hz2, hn, h63, h48, asInt, asIntOf, Addr.add_lit, wrap16, hz, Value.cells, Question.forced, hfo, newRow, grownCap]
      · refine ⟨by simp [bytesL], .inr ⟨w.heap.size, _, _, by simp, hBw, heap_alloc_new w.drew _, by simpa using hge, hcm, ?_, ?_⟩⟩
        · simp [size_zeroCells, bytesL]; omega
        · have e : (l ++ List.replicate 16 0).length * 1 = (bytesL l ++ bytesL (List.replicate 16 0)).length := by simp [bytesL]
          rw [e]
          simp only [Array.toList_append, hz]
          rw [← List.append_assoc]
          simp only [List.take_left]
          simp [bytesL]
      · exact ⟨rfl, rfl, rfl, by simp, fun k hk _ => heap_past w.drew _ k hk⟩
/-- the operation -/
theorem appZ {ops : Array Oper} {rest : List Oper} {o : Oper} {a : Act} {Q : Exit → Act → World → Prop} {w : World} (hgd : o.guard = none) (s : Operand)
    (ho : o.op = .call { callee := .builtin .append, args := #[s, .const (.int .i64 16)], argTypes := #[80, 3] }) {B : Nat} {v : Value} {l : List Nat} (hs : a.eval s = v) (hown : OwnB B w v l) (h0 : 0 < l.length) (hl : l.length ≤ 16) (hB : B ≤ w.heap.size)
    (h : ∀ v' w', OwnB B w' v' (l ++ List.replicate 16 0) → w.grownBy w' v.ownBlock → wpList Try.prog ops Q rest (a.put o.dst v') w') : wpList Try.prog ops Q (o :: rest) a w := by
  obtain ⟨v', w', hr, h2, h3⟩ := run_app16 o.type hown h0 hl hB
  refine wpList_plain hgd fun _ hK => ?_
  unfold Oper.wp execOp
  have hc : a.eval (.const (.int .i64 16)) = .int .i64 16 := rfl
  simp only [ho, resolve, invoke, builtin, Sem.run_bind, Sem.run_pure, Result.andThen_ok, List.map_toArray, List.map_cons, List.map_nil, hs, hc, hr]
  exact hK _ _ (h v' w' h2 h3)

/-- the first sixteen of a list of bytes and sixteen zeros behind it -/
def lstF (l : List Nat) : Nat → Nat := fun i => l.getD i 0
theorem lstF_take (l : List Nat) (hl : l.length ≤ 16) : ((bytesL (l ++ List.replicate 16 0)).take 16).toArray = av (lstF l) := by
  apply Array.ext_getElem?
  intro i
  rw [List.getElem?_toArray, av_cases]
  by_cases h : i < 16
  · rw [List.getElem?_take_of_lt h, if_pos h]
    unfold bytesL lstF
    rw [List.getElem?_map]
    rcases Nat.lt_or_ge i l.length with c | c
    · rw [List.getElem?_append_left c, List.getD_eq_getElem?_getD, List.getElem?_eq_getElem c]; rfl
    · rw [List.getElem?_append_right c, List.getD_eq_getElem?_getD, List.getElem?_eq_none c, List.getElem?_replicate, if_pos (by omega)]; rfl
  · rw [List.getElem?_take_eq_none (by omega), if_neg h]
/-- the array that lies at the beginning of such a list -/
theorem own_sixteen {B : Nat} {w : World} {v : Value} {l : List Nat} (h : OwnB B w v (l ++ List.replicate 16 0)) (h0 : 0 < (l ++ List.replicate 16 0).length) (hl : l.length ≤ 16) :
    ∃ g c, v = .slice (some ⟨g, 0, none⟩) (l ++ List.replicate 16 0).length c ∧ B ≤ g ∧ g < w.heap.size ∧
      ∀ wx, cellsOf wx g = cellsOf w g → (loadT 34 (.pointer (some ⟨g, 0, none⟩))).run Try.prog wx = .ok (.value (.agg (av (lstF l)))) wx := by
  rcases h.2 with ⟨_, e⟩ | ⟨g, cap, cur, rfl, hB, hh, h1, h2, h3, h4⟩
  · omega
  · refine ⟨g, cap, rfl, hB, (Array.getElem?_eq_some_iff.1 hh).1, fun wx hx => run_load_mid aggP ?_ (av_size _)⟩
    rw [hx, cellsOf_heap hh, ← lstF_take l hl, ← h4, List.take_take]
    have hm : min 16 ((l ++ List.replicate 16 0).length * 1) = 16 := by simp
    rw [hm]
    apply Array.ext'
    simp
def namF (f g : Nat → Nat) (m x : Nat) : Nat → Nat := backF (lstF (bfs f g x 16).1) m

set_option maxRecDepth 100000 in
set_option maxHeartbeats 1000000 in
theorem naming_any (f g : Nat → Nat) (m : Nat) (hd : DesN f g m) (x : Nat) (hx : x < m) (w : World) :
    Calls Try.prog 55 #[.agg (dv m f g), .int .u8 x] w fun e w' => e = .returned (.agg (av (namF f g m x))) ∧ Below w.heap.size w w' := by
  obtain ⟨l, hl⟩ : ∃ l, l = (bfs f g x 16).1 := ⟨_, rfl⟩
  have c1 := fun w => dartsFrom_any f g m hd.le hd.bf.1 hd.bg.1 x hx m w
  have hI := bfs_inv hd.bf.1 hd.bg.1 hx 16
  have hlen : (bfs f g x 16).1.length = m := bfs_full hd.bf hd.bg hd.le hd.conn hx
  have hil := hI.lt
  have e1 : namF f g m x = backF (lstF (bfs f g x 16).1) m := rfl
  rw [e1]
  rw [← hl] at c1 hlen hil ⊢
  clear e1 hI hl
  have hm := hd.le
  have h0 := hd.pos
  have hn := dv_n m f g
  have hlt : ∀ i, i < m → lstF l i < 16 := fun i hi => by
    unfold lstF
    rw [List.getD_eq_getElem?_getD, List.getElem?_eq_getElem (by omega)]
    have := hil _ (List.getElem_mem (show i < l.length by omega))
    show l[i] < 16
    omega
  have C1 := hide c1; clear c1
  have C2 := hide fun w => undo_any (lstF l) m hm hlt w
  generalize backF (lstF l) m = F at *
  clear hlt hil hd
  go_enter Try.func55, Try.ntmps55
  go_wp2_with fail
  rw [← av_zero]
  refine (C1.out _).mono ?_
  rintro e w1 ⟨v, rfl, hb, ho⟩
  have c1 : cellsOf w1 w.heap.size = dv m f g := (below_cells hb (by simp <;> omega)).trans (cellsOf_heap (heap1 rfl))
  have r1 : rowOk w1 (w.heap.size + 1) 16 := (below_row hb (by simp)).2 ⟨_, _, heap_at _ _ _ (by simp), av_size _⟩
  have b1 := (below2 w (.cells (dv m f g) 36) (.cells (av fun _ => 0) 34)).trans (hb.mono (by simp <;> omega))
  have ho1 : OwnB (w.heap.size + 2) w1 v l := by simpa using ho
  have hlow : ∀ k, v.ownBlock = some k → w.heap.size + 2 ≤ k := fun k hk => (World.ownsRow.lt ho1 k hk).1
  have s1 : w.heap.size + 2 ≤ w1.heap.size := by have := hb.size; simpa using this
  clear hb ho
  go_wp2_with (at_builtin; refine appZ rfl _ rfl rfl ho1 (by omega) (by omega) (by omega) fun v' w2 ho2 hg2 => ?_)
  have b2 := b1.grown hg2 (by omega) (fun k hk => by have := hlow k hk; omega)
  have c2 : cellsOf w2 w.heap.size = dv m f g := by rw [grown_cells hg2 (by omega) (fun e => by have := hlow _ e.symm; omega)]; exact c1
  have r2 : rowOk w2 (w.heap.size + 1) 16 := (grown_row hg2 r1.lt (fun e => by have := hlow _ e.symm; omega)).2 r1
  clear c1 r1 b1 hg2 hlow ho1
  obtain ⟨g0, cp, rfl, hg0, hg1, hx0⟩ := own_sixteen ho2 (by simp) (by rw [hlen]; exact hm)
  have hll : (l ++ List.replicate 16 0).length = m + 16 := by simp [hlen]
  rw [hll]
  clear ho2 hll
  go_wp2
  refine region_tail (Grown w2) 6 (by kernel_rfl) (by kernel_rfl) (Grown.drew w2) ?_
  simp only [List.take_succ_cons, List.take_zero, List.drop_succ_cons, List.drop_zero]
  apply q_step
  · go_simp
  · intro wx hx
    have e0 := hx.cells c2 (by have := r2.lt; omega)
    have z0 := hx0 wx (hx.cells rfl hg1)
    have a0 := run_arrayAt (P := Try.prog) wx 34 5 16 (some ⟨g0, 0, none⟩) (m + 16) cp Try.underlying34 (by omega)
    have n0 : wx.cell? ⟨w.heap.size, 0, none⟩ = some (.int .i64 m) := by rw [cell_of_cells, e0]; exact hn
    go_simp
    exact rfl
  apply q_step
  · go_simp
  · intro wx hx
    have e0 := hx.cells c2 (by have := r2.lt; omega)
    have z0 := hx0 wx (hx.cells rfl hg1)
    have a0 := run_arrayAt (P := Try.prog) wx 34 5 16 (some ⟨g0, 0, none⟩) (m + 16) cp Try.underlying34 (by omega)
    have n0 : wx.cell? ⟨w.heap.size, 0, none⟩ = some (.int .i64 m) := by rw [cell_of_cells, e0]; exact hn
    go_simp
    exact rfl
  apply q_step
  · go_simp
  · intro wx hx
    have e0 := hx.cells c2 (by have := r2.lt; omega)
    have z0 := hx0 wx (hx.cells rfl hg1)
    have a0 := run_arrayAt (P := Try.prog) wx 34 5 16 (some ⟨g0, 0, none⟩) (m + 16) cp Try.underlying34 (by omega)
    have n0 : wx.cell? ⟨w.heap.size, 0, none⟩ = some (.int .i64 m) := by rw [cell_of_cells, e0]; exact hn
    go_simp
    exact rfl
  apply q_step
  · go_simp
  · intro wx hx
    have e0 := hx.cells c2 (by have := r2.lt; omega)
    have z0 := hx0 wx (hx.cells rfl hg1)
    have a0 := run_arrayAt (P := Try.prog) wx 34 5 16 (some ⟨g0, 0, none⟩) (m + 16) cp Try.underlying34 (by omega)
    have n0 : wx.cell? ⟨w.heap.size, 0, none⟩ = some (.int .i64 m) := by rw [cell_of_cells, e0]; exact hn
    go_simp
    exact rfl
  apply q_step
  · go_simp
  · intro wx hx
    have e0 := hx.cells c2 (by have := r2.lt; omega)
    have z0 := hx0 wx (hx.cells rfl hg1)
    have a0 := run_arrayAt (P := Try.prog) wx 34 5 16 (some ⟨g0, 0, none⟩) (m + 16) cp Try.underlying34 (by omega)
    have n0 : wx.cell? ⟨w.heap.size, 0, none⟩ = some (.int .i64 m) := by rw [cell_of_cells, e0]; exact hn
    go_simp
    exact rfl
  apply q_step
  · go_simp
  · intro wx hx
    have e0 := hx.cells c2 (by have := r2.lt; omega)
    have z0 := hx0 wx (hx.cells rfl hg1)
    have a0 := run_arrayAt (P := Try.prog) wx 34 5 16 (some ⟨g0, 0, none⟩) (m + 16) cp Try.underlying34 (by omega)
    have n0 : wx.cell? ⟨w.heap.size, 0, none⟩ = some (.int .i64 m) := by rw [cell_of_cells, e0]; exact hn
    go_simp
    go_at_call 84
    exact Calls.mono (C2.out wx) fun e w' h => ⟨h.1, hx.call h.2⟩
  refine wpQuiet_nil ?_
  intro w3 hx
  have r3 := hx.row r2
  have b3 : Below w.heap.size w w3 := b2.trans (Below.mono hx b2.size)
  clear c2 r2 b2 hx
  go_wp2
  obtain ⟨t, ht, _⟩ := r3.heap
  exact res_agg (p := 4) (g := w.heap.size + 1) aggP (av_size _) rfl rfl rfl (setRow_heap _ _ _ _ t (0, 0) ht) ⟨rfl, below_setRow b3 (by omega) _⟩
end Go.Proofs.Yteeideminlcblaa
