/- the cosets of a table in the order in which they are reached: cosetsFromZero, l08Order -/
import Derived.Test.YteeideminlcblaaTbl
import Derived.Test.YteeideminlcblaaBfs
namespace Go.Proofs.Yteeideminlcblaa
open Go.RowKit

theorem okT.cells {T : List (List Int)} (h : okT T) {w : World} {v : Value} (hv : RdZ2 w v T) : ∃ a c, v = .slice (some a) T.length c := by
  obtain ⟨A, c, rfl, _⟩ := hv.form
  obtain ⟨a, _, _, rfl, _⟩ := hv.at (show 0 < T.length from h.1)
  exact ⟨a, c, rfl⟩
theorem okT.row {T : List (List Int)} (h : okT T) {w : World} {a : Addr} {c : Nat} (hv : RdZ2 w (.slice (some a) T.length c) T) {X : Nat} (hX : X < T.length) :
    ∃ A' c', w.cell? (a.add X) = some (.slice (some A') 2 c') ∧ A'.block < w.heap.size ∧ ∀ j, j < 2 → w.cell? (A'.add j) = some (.int .i64 (tF T j X : Nat)) := by
  obtain ⟨a', A', c', e, h1, h2⟩ := hv.at hX
  injection e with e
  subst e
  have hl : T[X].length = 2 := by have := (h.at hX (show 0 < 2 by omega)).1; rwa [getD_at hX] at this
  obtain ⟨A2, rfl, h3, _⟩ := h2.at (show 0 < T[X].length by omega)
  rw [hl] at h1 h2
  refine ⟨A2, c', h1, h3, fun j hj => ?_⟩
  obtain ⟨A3, e3, _, h5⟩ := h2.at (show j < T[X].length by omega)
  injection e3 with e3
  subst e3
  rw [h5, ← tE_at hX (by omega), (h.at hX hj).2.1]
/-- .. in whatever is made later -/
theorem okT.rows {T : List (List Int)} (h : okT T) {w : World} {a : Addr} {c : Nat} (hv : RdZ2 w (.slice (some a) T.length c) T) (X : Nat) (hX : X < T.length) :
    ∃ A' c', ∀ wx, Below w.heap.size w wx → wx.cell? (a.add X) = some (.slice (some A') 2 c') ∧ ∀ j, j < 2 → wx.cell? (A'.add j) = some (.int .i64 (tF T j X : Nat)) := by
  obtain ⟨A', c', h1, h2, h3⟩ := h.row hv hX
  have h4 := rd2_lt hv hX
  exact ⟨A', c', fun wx hb => ⟨rd_cell hb h1 h4, fun j hj => rd_cell hb (h3 j hj) h2⟩⟩

set_option maxRecDepth 100000 in
set_option maxHeartbeats 2000000 in
theorem cosets_any (T : List (List Int)) (hT : okT T) (v : Value) (w : World) (hv : RdZ2 w v T) :
    Calls Try.prog 45 #[v] w fun e w' => ∃ u, e = .returned u ∧ Holds w w' [pInts u (rch T)] := by
  obtain ⟨a, cc, rfl⟩ := hT.cells hv
  have HV := hide hv; clear hv
  have ROW := hide (hT.rows HV.out)
  have hk := hT.keeps
  have hn := hT.2.1
  have h1 := hT.1
  have ATK := hide (fun (X j : Nat) (hX : X < T.length) (hj : j < 2) => (hT.at hX hj).2.2)
  obtain ⟨ps, hps⟩ : ∃ ps, ps = tps T := ⟨_, rfl⟩
  have hpl : ps.length = 2 := by rw [hps]; rfl
  have PD := hide (fun (j : Nat) (hj : j < 2) (X : Nat) => show ps.getD j id X = tF T j X by rw [hps, tps_at hj])
  obtain ⟨F, FI, F0, FN, FS, FE⟩ : ∃ (F : Nat → List Nat × (Nat → Bool)), Hid (∀ k, BInv T.length (F k)) ∧ Hid (F 0 = ([0], mset (fun _ => false) 0)) ∧ Hid (∀ k (hk : k < (F k).1.length), F (k + 1) = gst ps (F k) ((F k).1[k]) 2) ∧
      Hid (∀ k, k ≤ 100 → (F k).1.length ≤ k → F 100 = F k) ∧ Hid (rch T = (F 100).1) :=
    ⟨gb ps noB 0, hide fun k => by rw [hps]; exact gb_inv hk h1 k, hide rfl, hide fun k hk => by rw [← hpl]; exact gb_next hk, hide fun k h1 h2 => gb_stop h2 h1, hide (by rw [hps]; exact rch_eq T)⟩
  have GI := hide (fun (S : List Nat × (Nat → Bool)) (hS : BInv T.length S) (X : Nat) (hX : X < T.length) (j : Nat) (hj : j ≤ 2) => show BInv T.length (gst ps S X j) from gst_inv (by rw [hps]; exact hk) hS hX j (by omega))
  rw [FE.out]
  clear FE hk hps hpl
  have HT := hide hT; clear hT
  have HN := hide hn; clear hn
  clear h1
  generalize hnn : T.length = n at *
  have HNN := hide hnn; clear hnn
  have HH1 : Holds w _ (pInts (.slice (some ⟨w.heap.size, 0, none⟩) 1 1) [0] :: _) := (Holds.start w).rowNew #[.int .i64 0] 2 1 1 w.heap.size rfl (by simp) (by decide)
  have HH2 := HH1.blk (cv (mset (fun _ => false) 0)) 66 (w.heap.size + 1) (by simp)
  have HHS := hide HH2
  clear HH1 HH2
  go_enter Try.func45, Try.ntmps45
  go_wp2
  go_loopw [3, 5] (fun q i wr => ∃ k : Nat, k ≤ (F k).1.length ∧ i = .int .i64 k ∧ Holds w wr [pInts q (F k).1, pBlk (w.heap.size + 1) (cv (F k).2) 66]) (fun _ i _ => 101 - (intOf i).toNat)
  case atStart =>
    refine ⟨0, by omega, rfl, ?_⟩
    rw [F0.out]
    exact HHS.out.perm (List.Perm.swap _ _ _)
  case round =>
    clear HHS
    obtain ⟨k, hk, rfl, hH⟩ := hrel
    have hI := FI.out k
    have hl : (F k).1.length ≤ 100 := by have := hI.length_le; have := HN.out; omega
    by_cases hlt : k < (F k).1.length
    · have hnext := FN.out k hlt
      have hX := hI.lt _ (List.getElem_mem hlt)
      have hlt' : (k : Int) < (F k).1.length := by omega
      obtain ⟨g0, c0, rfl, hg0, c1, _⟩ := hH.ints 0 rfl hlt
      generalize hS : F k = S at *
      have HX := hide (show ∃ X, X = S.1[k] from ⟨_, rfl⟩)
      obtain ⟨X, hXe⟩ := HX.out
      rw [← hXe] at hX hnext c1
      have HXE := hide hXe; clear hXe HX
      have HS := hide hS; clear hS
      have HNX := hide hnext; clear hnext
      have HIV := hide hI; clear hI
      obtain ⟨A', c', hrw⟩ := ROW.out X hX
      have c2 := (hrw wr hH.low).1
      have HR := hide hrw; clear hrw
      have hXi : (X : Int) < (n : Int) := by omega
      go_wp2
      clear c1 c2
      go_loopw [3, 24] (fun q j wr2 => ∃ jj : Nat, jj ≤ 2 ∧ j = .int .i64 jj ∧ Holds w wr2 [pInts q (gst ps S X jj).1, pBlk (w.heap.size + 1) (cv (gst ps S X jj).2) 66] ) (fun _ j _ => 2 - (intOf j).toNat)
      case atStart => exact ⟨0, by omega, rfl, hH⟩
      case round =>
        clear hH
        obtain ⟨j, hj, rfl, hH⟩ := hrel
        by_cases hj2 : j < 2
        · have hji : (j : Int) < 2 := by omega
          have c3 := (HR.out wr hH.low).2 j hj2
          have hY := ATK.out X j hX hj2
          have hst1 : gst ps S X (j + 1) = badd (gst ps S X j) (tF T j X) := by rw [gst, PD.out j hj2]
          have hIT := GI.out S HIV.out X hX j (by omega)
          generalize gst ps S X j = U at *
          obtain ⟨Y, hYe⟩ : ∃ Y, Y = tF T j X := ⟨_, rfl⟩
          rw [← hYe] at hst1 hY c3
          clear hYe
          have hY100 : Y < 100 := by have := HN.out; omega
          have hYi : (Y : Int) < 100 := by omega
          have hUl : U.1.length ≤ 100 := by have := hIT.length_le; have := HN.out; omega
          have HST := hide hst1; clear hst1 hIT
          rcases hTY : U.2 Y with _ | _
          · have c4 := hH.cell 1 rfl ((cv_get U.2 hY100).trans (by rw [hTY]))
            have f4 := hH.frozen 1 rfl Y
            have hH1 := hH.set 1 rfl Y (.bool true)
            rw [cv_set] at hH1
            have HH1 := hide hH1; clear hH1
            have HTY := hide hTY; clear hTY
            obtain ⟨A0, c0, rfl⟩ := hH.intsForm 0 rfl
            clear hH
            go_wp2_with (at_builtin; refine appI (HH1.out.alloc _) 0 rfl wr.heap.size [Y] 2 ?_ ?_ rfl _ _ rfl rfl rfl ?_)
            · first | exact heap_at _ _ _ (by simp) | (have hq := Array.getElem?_eq_some_iff.1 (heap_at (wr.setCell ⟨w.heap.size + 1, Y, none⟩ (.bool true)) (.cells (nums [Y]).toArray 2) wr.heap.size (by simp)); exact hq.2)
            · first | (simp only [List.length_cons, List.length_nil]; omega) | omega
            intro v' w' h1
            clear c4 f4 c3
            go_wp2
            go_roundw
            case rel => exact ⟨j + 1, by omega, by go_num, by rw [HST.out, badd_new HTY.out]; exact h1⟩
            case measure => simp [intOf]; omega
          · have c4 := hH.cell 1 rfl ((cv_get U.2 hY100).trans (by rw [hTY]))
            have HTY := hide hTY; clear hTY
            obtain ⟨A0, c0, rfl⟩ := hH.intsForm 0 rfl
            go_wp2
            go_roundw
            case rel => exact ⟨j + 1, by omega, by go_num, by rw [HST.out, badd_old HTY.out]; exact hH⟩
            case measure => simp [intOf]; omega
        · obtain rfl : j = 2 := by omega
          have hlen : k + 1 ≤ (F (k + 1)).1.length := by
            rw [HNX.out]
            have := (gst_pre (ps := ps) S X 2).length_le
            omega
          clear hj hj2
          go_wp2
          go_roundw
          case rel => exact ⟨k + 1, hlen, by go_num, by rw [HNX.out]; exact hH⟩
          case measure => simp [intOf]; omega
    · have hst := FS.out k (by omega) (by omega)
      obtain ⟨A, c, rfl⟩ := hH.intsForm 0 rfl
      have HST := hide hst
      clear hst hI
      have hkl : (F k).1.length = k := by omega
      rw [hkl] at hH ⊢
      clear hkl hlt hk hl
      go_wp2
      go_ret
      exact ⟨_, rfl, by rw [HST.out]; exact hH.sub (.cons_cons _ (.cons _ (.refl _)))⟩
end Go.Proofs.Yteeideminlcblaa
