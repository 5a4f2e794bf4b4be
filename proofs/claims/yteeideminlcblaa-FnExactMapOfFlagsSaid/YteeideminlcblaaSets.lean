/- spec.l07Sets -/
import Derived.Test.YteeideminlcblaaFlg
import Derived.Test.YteeideminlcblaaSet
import Derived.Test.YteeideminlcblaaInts
import Derived.Test.YteeideminlcblaaHS2
import Derived.Test.YteeideminlcblaaWr
import Derived.Test.YteeideminlcblaaBfs
import Derived.BigQuiet
namespace Go.Proofs.Yteeideminlcblaa
open Go.RowKit

def lsB (l : List (Nat → Nat)) : List Value := l.flatMap fun p => (qv p).toList
theorem qv_len (p : Nat → Nat) : (qv p).toList.length = 32 := by rw [Array.length_toList, qv_size]
theorem lsB_cons (p : Nat → Nat) (l : List (Nat → Nat)) : lsB (p :: l) = (qv p).toList ++ lsB l := rfl
theorem lsB_length (l : List (Nat → Nat)) : (lsB l).length = l.length * 32 := by
  induction l with
  | nil => rfl
  | cons p l ih => rw [lsB_cons, List.length_append, ih, qv_len, List.length_cons, Nat.succ_mul]; omega
theorem lsB_at {l : List (Nat → Nat)} {k : Nat} (hk : k < l.length) {i : Nat} (hi : i < 32) : (lsB l)[k * 32 + i]? = some (.int .u8 (l.getD k id i : Nat)) := by
  induction l generalizing k with
  | nil => simp at hk
  | cons p l ih =>
    rw [lsB_cons]
    rcases k with _ | k
    · rw [Nat.zero_mul, Nat.zero_add, List.getElem?_append_left (by rw [qv_len]; exact hi), Array.getElem?_toList, qv_get _ hi]; rfl
    · rw [List.getElem?_append_right (by rw [qv_len]; omega), qv_len, show (k + 1) * 32 + i - 32 = k * 32 + i by omega]
      exact ih (k := k) (by simpa using hk)

theorem Holds.intsAt {w0 w : World} {L : List Part} (h : Holds w0 w L) (i : Nat) {g n c : Nat} {l : List Nat} (hi : L[i]? = some (pInts (.slice (some ⟨g, 0, none⟩) n c) l)) {k : Nat} (hk : k < l.length) : w.cell? ⟨g, k, none⟩ = some (.int .i64 (l[k] : Nat)) := by
  obtain ⟨g', c', e, _, h3, _⟩ := h.ints i hi hk
  simp only [Value.slice.injEq, Option.some.injEq, Addr.mk.injEq] at e
  obtain ⟨⟨rfl, _, _⟩, _, _⟩ := e
  exact h3

set_option maxRecDepth 100000 in
set_option maxHeartbeats 4000000 in
theorem sSets_any (n : Nat) (hn : n ≤ 32) (ps : List (Nat → Nat)) (hps : Keeps ps n) (hup : Undo ps n) (hpl : ps.length ≤ 3) (gl : Nat) (w : World) (hst : (pBlk gl (lsB ps).toArray 48).ok w) :
    Calls Try.prog 91 #[.slice (some ⟨gl, 0, none⟩) ps.length ps.length, .int .i64 n] w fun e w' => ∃ v, e = .returned v ∧ Holds w w' [pInts v (szL ps n)] := by
  have hgs : gl < w.heap.size := lt_of_some hst
  have STP := hide (fun (wx : World) (hb : Below w.heap.size w wx) (j i : Nat) (hj : j < ps.length) (hi : i < 32) => show wx.cell? ⟨gl, j * 32 + i, none⟩ = some (.int .u8 (ps.getD j id i : Nat)) by
    have := (pBlk gl (lsB ps).toArray 48).keep _ _ hst fun k hk => hb.block k ((pBlk gl (lsB ps).toArray 48).lt _ _ hst hk)
    rw [cell_of_cells, cellsOf_heap this]; simpa using lsB_at hj hi)
  clear hst
  have HP := hide (And.intro hps hup); clear hps hup
  have HH1 : Holds w _ (pInts (.slice (some ⟨w.heap.size, 0, none⟩) 0 0) [] :: _) := (Holds.start w).rowNew #[] 2 1 0 w.heap.size rfl (by simp) (by decide)
  have HH2 := HH1.blk (wv fun _ => false) 135 (w.heap.size + 1) (by simp)
  have HHS := hide HH2
  clear HH1 HH2
  go_enter Try.func91, Try.ntmps91
  go_wp2
  rw [← wv_false]
  go_loopw [5, 7] (fun v t wr => ∃ k : Nat, k ≤ n ∧ t = .int .i64 k ∧ Holds w wr [pInts v (szL ps k), pBlk (w.heap.size + 1) (wv (mtB ps k)) 135]) (fun _ t _ => n - (intOf t).toNat)
  case atStart =>
    refine ⟨0, by omega, rfl, ?_⟩
    rw [mtB_zero]
    exact HHS.out.perm (List.Perm.swap _ _ _)
  case round =>
    clear HHS
    obtain ⟨k, hk, rfl, hH⟩ := hrel
    by_cases hlt : k < n
    · have hk32 : k < 32 := by omega
      have hk32' : (k : Int) < 32 := by omega
      have hlti : (k : Int) < n := by omega
      have hhd := mtB_hd HP.out.1 HP.out.2 hn hlt
      have hold := fun h => mtB_old HP.out.1 HP.out.2 hn hlt h
      have hnew := fun h => mtB_new HP.out.1 HP.out.2 hn hlt h
      have hcl := mtB_closed HP.out.1 hn (show k ≤ n by omega)
      have hyes := fun h => szL_yes (ps := ps) (k := k) h
      have hno := fun h => szL_no (ps := ps) (k := k) h
      have hsl := szL_len ps k
      have HC := hide (And.intro hhd (And.intro hold (And.intro hnew (And.intro hcl (And.intro hyes hno)))))
      clear hhd hold hnew hcl hyes hno
      rcases hm : mtB ps k k with _ | _
      · have c0 := hH.cell 1 rfl ((wv_get (mtB ps k) hk32).trans (by rw [hm]))
        have f0 := hH.frozen 1 rfl k
        have hH1 := hH.set 1 rfl k (.bool true)
        rw [wv_set] at hH1
        simp only [List.set_cons_succ, List.set_cons_zero] at hH1
        have hH2 : Holds w _ (pInts (.slice (some ⟨wr.heap.size, 0, none⟩) 1 1) [k] :: _) := hH1.rowNew #[.int .i64 k] 2 1 1 wr.heap.size (by simp) (by simp) (by decide)
        have hfl := fun i X hX j hj => gst_m0_len HP.out.1 HP.out.2 HC.out.2.2.2.1 hlt hm i (X := X) hX (j := j) hj
        have hnw := HC.out.2.2.1 hm
        have hb0 := fun i => gb_m0 HP.out.1 HP.out.2 HC.out.2.2.2.1 hlt hm i
        have hI := fun i => (gb_inv HP.out.1 hlt i)
        have HM := hide hm; clear hm
        obtain ⟨F, F0, FN, FL, FE, FS, FZ⟩ : ∃ (F : Nat → List Nat × (Nat → Bool)), Hid (F 0 = ([k], mset (mtB ps k) k)) ∧ Hid (∀ i (hi : i < (F i).1.length), F (i + 1) = gst ps (F i) ((F i).1[i]) ps.length) ∧
            Hid (∀ i, ∀ X ∈ (F i).1, ∀ j, j ≤ ps.length → X < n ∧ (gst ps (F i) X j).1.length ≤ n) ∧ Hid ((F 32).2 = mtB ps (k + 1) ∧ (F 32).1 = cls ps k) ∧ Hid (∀ i, i ≤ 32 → (F i).1.length ≤ i → F 32 = F i) ∧ Hid (∀ i, (F i).1.length ≤ n) :=
          ⟨gb ps (mtB ps k) k, hide rfl, hide fun i hi => gb_next hi, hide fun i X hX j hj => hfl i X hX j hj, hide hnw, hide fun i h1 h2 => gb_stop h2 h1, hide fun i => by rw [(hb0 i).1]; exact (hI i).length_le⟩
        clear hfl hnw hb0 hI
        have HH2 := hide hH2; clear hH2 hH1 hH
        go_wp2
        clear c0 f0
        have hH3 := HH2.out
        clear HH2
        go_loopw [8, 9] (fun q i wr => ∃ i' : Nat, i' ≤ (F i').1.length ∧ i = .int .i64 i' ∧ Holds w wr [pInts q (F i').1, pInts u5 (szL ps k), pBlk (w.heap.size + 1) (wv (F i').2) 135]) (fun _ i _ => 33 - (intOf i).toNat)
        case atStart => exact ⟨0, by omega, rfl, by rw [F0.out]; exact hH3⟩
        case round =>
          clear hH3
          obtain ⟨i, hi, rfl, hH⟩ := hrel
          have hl32 : (F i).1.length ≤ 32 := by have := FZ.out i; omega
          by_cases hil : i < (F i).1.length
          · have hnext := FN.out i hil
            have hfl := FL.out i _ (List.getElem_mem hil)
            have hili : (i : Int) < (F i).1.length := by omega
            obtain ⟨A0, c0, rfl⟩ := hH.intsForm 0 rfl
            generalize hS : F i = S at *
            have HX := hide (show ∃ X, X = S.1[i] from ⟨_, rfl⟩)
            obtain ⟨X, hXe⟩ := HX.out
            rw [← hXe] at hfl hnext
            have HXE := hide hXe; clear hXe HX
            have HS := hide hS; clear hS
            have HN := hide hnext; clear hnext
            have HFL := hide hfl; clear hfl
            go_wp2
            go_loopw [8, 10] (fun q j wr => ∃ j' : Nat, j' ≤ ps.length ∧ j = .int .i64 j' ∧ Holds w wr [pInts q (gst ps S X j').1, pInts u5 (szL ps k), pBlk (w.heap.size + 1) (wv (gst ps S X j').2) 135]) (fun _ j _ => ps.length - (intOf j).toNat)
            case atStart => exact ⟨0, by omega, rfl, hH⟩
            case round =>
              clear hH
              obtain ⟨j, hj, rfl, hH⟩ := hrel
              by_cases hj2 : j < ps.length
              · obtain ⟨T, hT⟩ : ∃ T, T = gst ps S X j := ⟨_, rfl⟩
                obtain ⟨Y, hYe⟩ : ∃ Y, Y = ps.getD j id X := ⟨_, rfl⟩
                have hst1 : gst ps S X (j + 1) = badd T Y := by rw [hT, hYe]; rfl
                have hTl := (HFL.out j hj).2
                have hXn := (HFL.out j hj).1
                have hpre := gst_pre (ps := ps) S X j
                have hY := HP.out.1 j hj2 X hXn
                have hcs := STP.out wr hH.low j X hj2 (by omega)
                rw [← hT] at hTl hpre hH
                rw [← hYe] at hY hcs
                clear hT hYe
                have hkT : i < T.1.length := by have := hpre.length_le; omega
                have hXT : T.1[i] = X := by
                  refine Eq.trans ?_ HXE.out.symm
                  obtain ⟨t, ht⟩ := hpre
                  have h1 : T.1[i]? = S.1[i]? := by rw [← ht, List.getElem?_append_left hil]
                  rw [List.getElem?_eq_getElem hkT, List.getElem?_eq_getElem hil] at h1
                  exact Option.some.inj h1
                have hji : (j : Int) < ps.length := by omega
                have hYi : (Y : Int) < 32 := by omega
                have hXi : (X : Int) < 32 := by omega
                have hY32 : Y < 32 := by omega
                have hX32 : X < 32 := by omega
                have hwY : IntKind.i64.wrap (Y : Int) = Y := wr64k (by omega) (by omega)
                have HST := hide hst1; clear hst1
                have hkTi : (i : Int) < T.1.length := by omega
                obtain ⟨g0, c, rfl, hg0, hz1, hz2⟩ := hH.ints 0 rfl hkT
                clear hz1 hz2
                have hq0 := (hH.intsAt 0 rfl hkT).trans (by rw [hXT])
                clear hpre hXT
                go_wp2
                go_quiet (fail)
                have hHz := hH.drewN nq
                have STZ := HST
                clear hq0 hcs hH
                generalize wr.drewN nq = wz at *
                rcases hTY : T.2 Y with _ | _
                · have c1 := hHz.cell 2 rfl ((wv_get T.2 hY32).trans (by rw [hTY]))
                  have f1 := hHz.frozen 2 rfl Y
                  have hH1 := hHz.set 2 rfl Y (.bool true)
                  rw [wv_set] at hH1
                  have HTY := hide hTY; clear hTY
                  have HH1 := hide hH1; clear hH1
                  go_wp2_with (at_builtin; refine appI (HH1.out.alloc _) 0 rfl wz.heap.size [Y] 2 ?_ ?_ rfl _ _ rfl rfl rfl ?_)
                  · first | exact heap_at _ _ _ (by simp) | (have hq := Array.getElem?_eq_some_iff.1 (heap_at (wz.setCell ⟨w.heap.size + 1, Y, none⟩ (.bool true)) (.cells (nums [Y]).toArray 2) wz.heap.size (by simp)); exact hq.2)
                  · first | (simp only [List.length_cons, List.length_nil]; omega) | omega
                  intro v' w' h1
                  clear hHz c1 f1
                  go_wp2
                  go_roundw
                  case rel => exact ⟨j + 1, by omega, by go_num, by rw [HST.out, badd_new HTY.out]; exact h1⟩
                  case measure => simp [intOf]; omega
                · have c1 := hHz.cell 2 rfl ((wv_get T.2 hY32).trans (by rw [hTY]))
                  have HTY := hide hTY; clear hTY
                  go_wp2
                  go_roundw
                  case rel => exact ⟨j + 1, by omega, by go_num, by rw [HST.out, badd_old HTY.out]; exact hHz⟩
                  case measure => simp [intOf]; omega
              · obtain rfl : j = ps.length := by omega
                have hlen : i + 1 ≤ (F (i + 1)).1.length := by
                  rw [HN.out]
                  have := (gst_pre (ps := ps) S X ps.length).length_le
                  omega
                clear hj hj2
                go_wp2
                go_roundw
                case rel => exact ⟨i + 1, hlen, by go_num, by rw [HN.out]; exact hH⟩
                case measure => simp [intOf]; omega
          · have hst := FS.out i (by omega) (by omega)
            have hE := FE.out
            rw [hst] at hE
            obtain ⟨A, c, rfl⟩ := hH.intsForm 0 rfl
            have hcl : (F i).1.length = (cls ps k).length := by rw [hE.2]
            have hc32 : (cls ps k).length ≤ 32 := by omega
            have hnl : ¬ (i : Int) < (cls ps k).length := by omega
            rw [hE.1] at hH
            rw [hcl]
            have hH2 := hH.tail
            have hS1 := HC.out.2.2.2.2.1 (by have := HC.out.1; rw [HM.out] at this; simpa using this)
            have HS1 := hide hS1; clear hS1 hst hE hcl hH hl32 hil
            generalize hz : (cls ps k).length = z at *
            clear hz
            go_wp2_with (at_builtin; refine appI (hH2.alloc _) 0 rfl wr.heap.size [z] 2 ?_ ?_ rfl _ _ rfl rfl rfl ?_)
            · first | exact heap_at _ _ _ rfl | exact (Array.getElem?_eq_some_iff.1 (heap_at wr _ _ rfl)).2
            · first | (simp only [List.length_cons, List.length_nil]; omega) | omega
            intro v' w' h1
            clear hH2
            go_wp2
            go_roundw
            case rel => exact ⟨k + 1, by omega, by go_num, by rw [HS1.out]; exact h1⟩
            case measure => simp [intOf]; omega
      · have c0 := hH.cell 1 rfl ((wv_get (mtB ps k) hk32).trans (by rw [hm]))
        have e1 := HC.out.2.1 hm
        have e2 := HC.out.2.2.2.2.2 (by have := HC.out.1; rw [hm] at this; simpa using this.symm)
        have HE := hide (And.intro e1 e2); clear e1 e2 hm
        go_wp2
        go_roundw
        case rel => exact ⟨k + 1, by omega, by go_num, by rw [HE.out.1, HE.out.2]; exact hH⟩
        case measure => simp [intOf]; omega
    · obtain rfl : k = n := by omega
      obtain ⟨A, c, rfl⟩ := hH.intsForm 0 rfl
      clear hlt hk
      go_wp2
      go_ret
      exact ⟨_, rfl, hH.sub (.cons_cons _ (.cons _ (.refl _)))⟩
end Go.Proofs.Yteeideminlcblaa

