/- impl.flagsFrom: the set of a flag -/
import Derived.Test.YteeideminlcblaaStp
import Derived.Test.YteeideminlcblaaSet
import Derived.Test.YteeideminlcblaaAppH
import Derived.Test.YteeideminlcblaaBfs
namespace Go.Proofs.Yteeideminlcblaa
open Go.RowKit

def pBy (v : Value) (l : List Nat) : Part := pRow v 5 1 l.length (bytesL l)
theorem bytesL_length (l : List Nat) : (bytesL l).length = l.length := by unfold bytesL; simp
theorem bytesL_at {l : List Nat} {k : Nat} (hk : k < l.length) : (bytesL l)[k]? = some (.int .u8 (l[k] : Nat)) := by unfold bytesL; simp [hk]
theorem bytesL_one {l : List Nat} : ∀ u ∈ bytesL l, u.oneCell' = true := by
  intro u hu
  obtain ⟨x, _, rfl⟩ := List.mem_map.1 hu
  rfl
theorem Holds.bys {w0 w : World} {L : List Part} (h : Holds w0 w L) (i : Nat) {v : Value} {l : List Nat} (hi : L[i]? = some (pBy v l)) {k : Nat} (hk : k < l.length) :
    ∃ g c, v = .slice (some ⟨g, 0, none⟩) l.length c ∧ g < w.heap.size ∧ w.cell? ⟨g, k, none⟩ = some (.int .u8 (l[k] : Nat)) := by
  obtain ⟨g, c, h1, h2, h3, h4, h5, h6, h7⟩ := row_at (h.row i hi) (by omega : 0 < l.length)
  exact ⟨g, c, h1, h3, h6 _ _ (bytesL_at hk)⟩
theorem Holds.bysForm {w0 w : World} {L : List Part} (h : Holds w0 w L) (i : Nat) {v : Value} {l : List Nat} (hi : L[i]? = some (pBy v l)) : ∃ A c, v = .slice A l.length c := own_slice (h.row i hi)
theorem Holds.bysAt {w0 w : World} {L : List Part} (h : Holds w0 w L) (i : Nat) {g n c : Nat} {l : List Nat} (hi : L[i]? = some (pBy (.slice (some ⟨g, 0, none⟩) n c) l)) {k : Nat} (hk : k < l.length) : w.cell? ⟨g, k, none⟩ = some (.int .u8 (l[k] : Nat)) := by
  obtain ⟨g', c', e, _, h3⟩ := h.bys i hi hk
  simp only [Value.slice.injEq, Option.some.injEq, Addr.mk.injEq] at e
  obtain ⟨⟨rfl, _, _⟩, _, _⟩ := e
  exact h3
/-- one byte more -/
theorem appBy {ops : Array Oper} {rest : List Oper} {o : Oper} {a : Act} {Q : Exit → Act → World → Prop} {w0 w : World} {L : List Part} (H : Holds w0 w L) (k : Nat) {v : Value} {l : List Nat} (hk : L[k]? = some (pBy v l))
    (g : Nat) (news : List Nat) (t : TypeId) (hc : w.heap[g]? = some (.cells (bytesL news).toArray t (0, 0))) (hb : l.length + news.length ≤ 1000000)
    (hgd : o.guard = none) (s x : Operand)
    (ho : o.op = .call { callee := .builtin .append, args := #[s, x], argTypes := #[80, 80] })
    (hs : a.eval s = v) (hx : a.eval x = .slice (some ⟨g, 0, none⟩) news.length news.length)
    (h : ∀ v' w', Holds w0 w' (L.set k (pBy v' (l ++ news))) → wpList Try.prog ops Q rest (a.put o.dst v') w') : wpList Try.prog ops Q (o :: rest) a w := by
  obtain ⟨i0, hi, hz0, hz1, hz2⟩ := info_parts infoU8
  refine appH (P := Try.prog) hgd s x 80 ho 5 i0 (.int .u8 0) 1 1 Try.underlying80 hi hz0 hz1 hz2 rfl (by decide) v l.length (bytesL l) hs H k hk ⟨g, 0, none⟩ news.length news.length (bytesL news) hx
    (by rw [bytesL_length]; omega) (fun j u hu => ?_) bytesL_one (by unfold maxLen; omega) (by omega) fun v' w' h1 => h v' w' ?_
  · have : ((⟨g, 0, none⟩ : Addr).add j) = ⟨g, j, none⟩ := by simp [Addr.add]; exact Eq.symm
    rw [this, cell_of_cells, cellsOf_heap hc]
    simpa using hu
  · unfold pBy at *
    have e : bytesL (l ++ news) = bytesL l ++ bytesL news := by unfold bytesL; simp
    rw [List.length_append, e]
    exact h1

set_option maxRecDepth 100000 in
set_option maxHeartbeats 2000000 in
theorem flagsFrom_any (n : Nat) (hn : n ≤ 32) (ps : List (Nat → Nat)) (hps : Keeps ps n) (hpl : ps.length ≤ 3) (gs : Nat) (vs : List Value) (hvl : vs.length = ps.length) (hld : ∀ j (h : j < vs.length), LeadV vs[j] (ps.getD j id)) (x : Nat) (hx : x < n) (w : World)
    (hst : (pBlk gs vs.toArray 92).ok w) :
    Calls Try.prog 94 #[.int .u8 x, .slice (some ⟨gs, 0, none⟩) ps.length ps.length] w fun e w' => ∃ v, e = .returned v ∧ Holds w w' [pBy v (cls ps x)] := by
  have hgs : gs < w.heap.size := lt_of_some hst
  have STP := hide (fun (wx : World) (hb : Below w.heap.size w wx) (j : Nat) (u : Value) (h : vs[j]? = some u) => show wx.cell? ⟨gs, j, none⟩ = some u by
    have := (pBlk gs vs.toArray 92).keep _ _ hst fun k hk => hb.block k ((pBlk gs vs.toArray 92).lt _ _ hst hk)
    rw [cell_of_cells, cellsOf_heap this]; simpa using h)
  clear hst
  obtain ⟨F, FI, F0, FN, FS, FE⟩ : ∃ (F : Nat → List Nat × (Nat → Bool)), Hid (∀ k, BInv n (F k)) ∧ Hid (F 0 = ([x], mset noB x)) ∧ Hid (∀ k (hk : k < (F k).1.length), F (k + 1) = gst ps (F k) ((F k).1[k]) ps.length) ∧
      Hid (∀ k, k ≤ 32 → (F k).1.length ≤ k → F 32 = F k) ∧ Hid (cls ps x = (F 32).1) :=
    ⟨gb ps noB x, hide fun k => gb_inv hps hx k, hide rfl, hide fun k hk => gb_next hk, hide fun k h1 h2 => gb_stop h2 h1, hide (cls_eq ps x)⟩
  rw [FE.out]
  clear FE
  have HPS := hide hps; clear hps
  have HLD := hide hld; clear hld
  have hx32 : (x : Int) < 32 := by omega
  have hx32' : x < 32 := by omega
  have h0 := wv_set noB x
  unfold noB at h0
  rw [wv_false] at h0
  have hnb : noB = fun _ => false := rfl
  rw [hnb] at F0
  have HH1 : Holds w _ (pBy (.slice (some ⟨w.heap.size, 0, none⟩) 1 1) [x] :: _) := (Holds.start w).rowNew #[.int .u8 x] 5 1 1 w.heap.size rfl (by simp) (by decide)
  have HH2 := HH1.blk (wv (mset (fun _ => false) x)) 135 (w.heap.size + 1) (by simp)
  have HHS := hide HH2
  clear HH1 HH2
  go_enter Try.func94, Try.ntmps94
  go_wp2
  go_loopw [5, 7] (fun q i wr => ∃ k : Nat, k ≤ (F k).1.length ∧ i = .int .i64 k ∧ Holds w wr [pBy q (F k).1, pBlk (w.heap.size + 1) (wv (F k).2) 135]) (fun _ i _ => 33 - (intOf i).toNat)
  case atStart =>
    refine ⟨0, by omega, rfl, ?_⟩
    rw [F0.out]
    exact HHS.out.perm (List.Perm.swap _ _ _)
  case round =>
    clear h0 HHS
    obtain ⟨k, hk, rfl, hH⟩ := hrel
    have hI := FI.out k
    have hl32 : (F k).1.length ≤ 32 := by have := hI.length_le; omega
    by_cases hlt : k < (F k).1.length
    · have hnext := FN.out k hlt
      have hX := hI.lt _ (List.getElem_mem hlt)
      have hlt' : (k : Int) < (F k).1.length := by omega
      obtain ⟨A0, c0, rfl⟩ := hH.bysForm 0 rfl
      generalize hS : F k = S at *
      have HX := hide (show ∃ X, X = S.1[k] from ⟨_, rfl⟩)
      obtain ⟨X, hXe⟩ := HX.out
      rw [← hXe] at hX hnext
      have HXE := hide hXe; clear hXe HX
      have HS := hide hS; clear hS
      have HN := hide hnext; clear hnext
      have HIV := hide hI; clear hI
      go_wp2
      go_loopw [5, 23] (fun q j wr => ∃ jj : Nat, jj ≤ ps.length ∧ j = .int .i64 jj ∧ Holds w wr [pBy q (gst ps S X jj).1, pBlk (w.heap.size + 1) (wv (gst ps S X jj).2) 135]) (fun _ j _ => ps.length - (intOf j).toNat)
      case atStart => exact ⟨0, by omega, rfl, hH⟩
      case round =>
        clear hH
        obtain ⟨j, hj, rfl, hH⟩ := hrel
        by_cases hj2 : j < ps.length
        · obtain ⟨T, hT⟩ : ∃ T, T = gst ps S X j := ⟨_, rfl⟩
          obtain ⟨Y, hYe⟩ : ∃ Y, Y = ps.getD j id X := ⟨_, rfl⟩
          have hst1 : gst ps S X (j + 1) = badd T Y := by rw [hT, hYe]; rfl
          have hIT := gst_inv HPS.out HIV.out hX j hj
          have hpre := gst_pre (ps := ps) S X j
          have hY := HPS.out j hj2 X hX
          obtain ⟨Ty, xv, Kf, rv, ev, mv, nv, cv, _, CV⟩ := HLD.out j (by omega)
          have CY := hide (CV X (by omega)); clear CV
          rw [← hT] at hIT hpre hH
          rw [← hYe] at hY CY
          clear hT hYe
          have hTl : T.1.length ≤ 32 := by have := hIT.length_le; omega
          have hkT : k < T.1.length := by have := hpre.length_le; omega
          have hXT : T.1[k] = X := by
            refine Eq.trans ?_ HXE.out.symm
            obtain ⟨t, ht⟩ := hpre
            have h1 : T.1[k]? = S.1[k]? := by rw [← ht, List.getElem?_append_left hlt]
            rw [List.getElem?_eq_getElem hkT, List.getElem?_eq_getElem hlt] at h1
            exact Option.some.inj h1
          have hcs := STP.out wr hH.low j (.iface Ty xv) (by rw [List.getElem?_eq_getElem (by omega), ev])
          have hji : (j : Int) < ps.length := by omega
          have hYi : (Y : Int) < 32 := by omega
          have hY32 : Y < 32 := by omega
          have HST := hide hst1; clear hst1
          have hkTi : (k : Int) < T.1.length := by omega
          obtain ⟨g0, c, rfl, hg0, hcell⟩ := hH.bys 0 rfl hkT
          have CI := hide fun wx (LL : List Part) (hx : Holds w wx (pBy (.slice (some ⟨g0, 0, none⟩) T.1.length c) T.1 :: LL)) => (hx.bysAt 0 rfl hkT).trans (by rw [hXT])
          clear ev hpre hcell hXT
          go_wp2
          clear hcs
          rcases hTY : T.2 Y with _ | _
          · have HTY := hide hTY; clear hTY
            refine Rd.region_P (w0 := w) [pBy (.slice (some ⟨g0, 0, none⟩) T.1.length c) T.1, pBlk (w.heap.size + 1) (wv T.2) 135] [pBy (.slice (some ⟨g0, 0, none⟩) T.1.length c) T.1, pBlk (w.heap.size + 1) (wv T.2) 135] [] (.q 0 <| .q 1 <| .q 2 <| .q 3 <| .q 4 <| .q 5 <| .q 6 <| .q 7 <| .q 8 <| .q 9 .fin) hH (.refl _) (by kernel_rfl) (by kernel_rfl) (by kernel_rfl) ?_
            iterate 8
              apply Rd.v_q
              · simp only [List.getElem?_toArray, List.getElem?_cons_zero, List.getElem?_cons_succ]; exact rfl
              · rfl
              · go_simp
              · intro wx hx
                have q0 := CI.out wx _ hx
                unfold atG
                go_simp
                simp only [uponG]
                exact ⟨by trivial, rfl⟩
            iterate 1
              apply Rd.v_q
              · simp only [List.getElem?_toArray, List.getElem?_cons_zero, List.getElem?_cons_succ]; exact rfl
              · rfl
              · go_simp
              · intro wx hx
                have q0 := CI.out wx _ hx
                unfold atG
                go_simp
                simp only [uponG]
                exact ⟨by trivial, CY.out wx⟩
            iterate 1
              apply Rd.v_q
              · simp only [List.getElem?_toArray, List.getElem?_cons_zero, List.getElem?_cons_succ]; exact rfl
              · rfl
              · go_simp
              · intro wx hx
                have q0 := CI.out wx _ hx
                unfold atG
                go_simp
                simp only [uponG]
                exact ⟨by trivial, rfl⟩
            rintro w3 h3 -
            go_simp
            clear hH
            have c0 := h3.cell 1 rfl ((wv_get T.2 hY32).trans (by rw [HTY.out]))
            have f0 := h3.frozen 1 rfl Y
            have hH1 := h3.set 1 rfl Y (.bool true)
            rw [wv_set] at hH1
            have HH1 := hide hH1; clear hH1
            go_wp2_with (at_builtin; refine appBy (HH1.out.alloc _) 0 rfl w3.heap.size [Y] 5 ?_ ?_ rfl _ _ rfl rfl rfl ?_)
            · first | exact heap_at _ _ _ (by simp) | (have hq := Array.getElem?_eq_some_iff.1 (heap_at (w3.setCell ⟨w.heap.size + 1, Y, none⟩ (.bool true)) (.cells (bytesL [Y]).toArray 5) w3.heap.size (by simp)); exact hq.2)
            · first | (simp only [List.length_cons, List.length_nil]; omega) | omega
            intro v' w' h1
            clear h3 c0 f0
            go_wp2
            go_roundw
            case rel => exact ⟨j + 1, by omega, by go_num, by rw [HST.out, badd_new HTY.out]; exact h1⟩
            case measure => simp [intOf]; omega
          · have HTY := hide hTY; clear hTY
            refine Rd.region_P (w0 := w) [pBy (.slice (some ⟨g0, 0, none⟩) T.1.length c) T.1, pBlk (w.heap.size + 1) (wv T.2) 135] [pBy (.slice (some ⟨g0, 0, none⟩) T.1.length c) T.1, pBlk (w.heap.size + 1) (wv T.2) 135] [] (.q 0 <| .q 1 <| .q 2 <| .q 3 <| .q 4 <| .q 5 <| .q 6 <| .q 7 <| .q 8 <| .q 9 .fin) hH (.refl _) (by kernel_rfl) (by kernel_rfl) (by kernel_rfl) ?_
            iterate 8
              apply Rd.v_q
              · simp only [List.getElem?_toArray, List.getElem?_cons_zero, List.getElem?_cons_succ]; exact rfl
              · rfl
              · go_simp
              · intro wx hx
                have q0 := CI.out wx _ hx
                unfold atG
                go_simp
                simp only [uponG]
                exact ⟨by trivial, rfl⟩
            iterate 1
              apply Rd.v_q
              · simp only [List.getElem?_toArray, List.getElem?_cons_zero, List.getElem?_cons_succ]; exact rfl
              · rfl
              · go_simp
              · intro wx hx
                have q0 := CI.out wx _ hx
                unfold atG
                go_simp
                simp only [uponG]
                exact ⟨by trivial, CY.out wx⟩
            iterate 1
              apply Rd.v_q
              · simp only [List.getElem?_toArray, List.getElem?_cons_zero, List.getElem?_cons_succ]; exact rfl
              · rfl
              · go_simp
              · intro wx hx
                have q0 := CI.out wx _ hx
                unfold atG
                go_simp
                simp only [uponG]
                exact ⟨by trivial, rfl⟩
            rintro w3 h3 -
            go_simp
            clear hH
            have c0 := h3.cell 1 rfl ((wv_get T.2 hY32).trans (by rw [HTY.out]))
            go_wp2
            go_roundw
            case rel => exact ⟨j + 1, by omega, by go_num, by rw [HST.out, badd_old HTY.out]; exact h3⟩
            case measure => simp [intOf]; omega
        · obtain rfl : j = ps.length := by omega
          have hlen : k + 1 ≤ (F (k + 1)).1.length := by
            rw [HN.out]
            have := (gst_pre (ps := ps) S X ps.length).length_le
            omega
          clear hj hj2
          go_wp2
          go_roundw
          case rel => exact ⟨k + 1, hlen, by go_num, by rw [HN.out]; exact hH⟩
          case measure => simp [intOf]; omega
    · have hst := FS.out k (by omega) (by omega)
      obtain ⟨A, c, rfl⟩ := hH.bysForm 0 rfl
      have HST := hide hst
      clear hst hI
      have hkl : (F k).1.length = k := by omega
      rw [hkl] at hH ⊢
      clear hkl hlt hk hl32
      go_wp2
      go_ret
      exact ⟨_, rfl, by rw [HST.out]; exact hH.sub (.cons_cons _ (.cons _ (.refl _)))⟩
end Go.Proofs.Yteeideminlcblaa

