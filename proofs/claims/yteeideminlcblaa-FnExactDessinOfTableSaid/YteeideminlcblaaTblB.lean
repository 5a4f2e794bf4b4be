/- the cosets of a table in the order in which they are reached: l08Order -/
import Derived.Test.YteeideminlcblaaTblA
namespace Go.Proofs.Yteeideminlcblaa
open Go.RowKit

/-- n bools -/
def bls (f : Nat → Bool) (n : Nat) : List Value := (List.range n).map fun i => .bool (f i)
theorem bls_false (n : Nat) : bls (fun _ => false) n = List.replicate n (.bool false) := by
  unfold bls
  rw [List.eq_replicate_iff]
  refine ⟨by simp, fun x hx => ?_⟩
  obtain ⟨i, _, rfl⟩ := List.mem_map.1 hx
  rfl
theorem bls_at (f : Nat → Bool) {n i : Nat} (h : i < n) : (bls f n)[i]? = some (.bool (f i)) := by unfold bls; simp [h]
theorem bls_set (f : Nat → Bool) (n i : Nat) : (bls f n).set i (.bool true) = bls (mset f i) n := by
  apply List.ext_getElem?
  intro j
  rw [List.getElem?_set]
  unfold bls mset
  simp only [List.length_map, List.length_range, List.getElem?_map]
  by_cases c : i = j
  · subst c
    by_cases h : i < n
    · simp [h]
    · simp [h]
  · rw [if_neg c]
    by_cases h : j < n
    · simp [h, Ne.symm c]
    · simp [h]
theorem Holds.rowCell {w0 w : World} {L : List Part} (h : Holds w0 w L) (i : Nat) {g n c : Nat} {e : TypeId} {xs : List Value} (hi : L[i]? = some (pRow (.slice (some ⟨g, 0, none⟩) n c) e 1 n xs)) {j : Nat} {u : Value} (hj : xs[j]? = some u) :
    w.cell? ⟨g, j, none⟩ = some u ∧ w.frozen? ⟨g, j, none⟩ = false := by
  have hl : xs.length = n := by have := (h.row i hi).1; omega
  have := (List.getElem?_eq_some_iff.1 hj).1
  obtain ⟨g', c', e, _, _, _, _, h6, h7⟩ := row_at (h.row i hi) (by omega : 0 < n)
  simp only [Value.slice.injEq, Option.some.injEq, Addr.mk.injEq] at e
  obtain ⟨⟨rfl, _, _⟩, _, _⟩ := e
  exact ⟨h6 j u hj, h7 j⟩
theorem infoBl' : (Try.prog.info? 4).map (fun i => (i.zero, i.size, i.bytes)) = some (some (.bool false), 1, 1) := by kernel_rfl
theorem infoBl : ∃ i, Try.prog.info? 4 = some i ∧ i.zero = some (.bool false) ∧ i.size = 1 ∧ i.bytes = 1 := by
  obtain ⟨i, h1, h2, h3, h4⟩ := info_parts infoBl'
  exact ⟨i, h1, h2, h3, h4⟩

set_option maxRecDepth 100000 in
set_option maxHeartbeats 2000000 in
theorem sOrder_any (T : List (List Int)) (hT : okT T) (v : Value) (w : World) (hv : RdZ2 w v T) :
    Calls Try.prog 79 #[v] w fun e w' => ∃ u, e = .returned u ∧ Holds w w' [pInts u (rch T)] := by
  obtain ⟨a, cc, rfl⟩ := hT.cells hv
  have HV := hide hv; clear hv
  have ROW := hide (hT.rows HV.out)
  have hk := hT.keeps
  have hn := hT.2.1
  have h1 := hT.1
  have ATK := hide (fun (X j : Nat) (hX : X < T.length) (hj : j < 2) => (hT.at hX hj).2.2)
  obtain ⟨ps, hps⟩ : ∃ ps, ps = tps T := ⟨_, rfl⟩
  have hpl : ps.length = 2 := by rw [hps]; rfl
  have PD := hide (fun (j : Nat) (hj : j < 2) (X : Nat) => show ps.getD j id X = tF T j X by rw [hps, tps_at hj])
  obtain ⟨F, FI, F0, FN, FS, FE⟩ : ∃ (F : Nat → List Nat × (Nat → Bool)), Hid (∀ k, BInv T.length (F k)) ∧ Hid (F 0 = ([0], mset (fun _ => false) 0)) ∧ Hid (∀ k (hk : k < (F k).1.length), F (k + 1) = gst ps (F k) ((F k).1[k]) 2) ∧
      Hid (∀ k, k ≤ 100 → (F k).1.length ≤ k → F 100 = F k) ∧ Hid (rch T = (F 100).1) :=
    ⟨gb ps noB 0, hide fun k => by rw [hps]; exact gb_inv hk h1 k, hide rfl, hide fun k hk => by rw [← hpl]; exact gb_next hk, hide fun k h1 h2 => gb_stop h2 h1, hide (by rw [hps]; exact rch_eq T)⟩
  have GI := hide (fun (S : List Nat × (Nat → Bool)) (hS : BInv T.length S) (X : Nat) (hX : X < T.length) (j : Nat) (hj : j ≤ 2) => show BInv T.length (gst ps S X j) from gst_inv (by rw [hps]; exact hk) hS hX j (by omega))
  rw [FE.out]
  clear FE hk hps hpl
  have HT := hide hT; clear hT
  have HN := hide hn; clear hn
  clear h1
  generalize hnn : T.length = n at *
  have HNN := hide hnn; clear hnn
  obtain ⟨ib, hib, hz0, hz1, hz2⟩ := infoBl
  have IB := hide (And.intro hib (And.intro hz0 (And.intro hz1 hz2))); clear hib hz0 hz1 hz2
  have H0 := Holds.start w
  have hn1 : 0 < n := by rw [← HNN.out]; exact HT.out.1
  have hn100 := HN.out
  have hn1i : (0 : Int) < (n : Int) := by omega
  go_enter Try.func79, Try.ntmps79
  go_wp2_with (refine makeH (P := Try.prog) rfl 112 _ _ rfl 4 ib (.bool false) 1 Try.underlying112 IB.out.1 IB.out.2.1 IB.out.2.2.1 IB.out.2.2.2 rfl n .i64 .i64 rfl rfl (by omega) (by decide) H0 ?_)
  intro w1 H1
  generalize hB0 : w.heap.size = B0 at *
  rw [← bls_false] at H1
  have HH1 : Holds w _ (pInts (.slice (some ⟨w1.heap.size, 0, none⟩) 1 1) [0] :: _) := H1.rowNew #[.int .i64 0] 2 1 1 w1.heap.size rfl (by simp) (by decide)
  have q0 := HH1.rowCell 1 rfl (bls_at (fun _ => false) hn1)
  have HH2 := HH1.put 1 rfl 0 (.bool true)
  rw [bls_set] at HH2
  have HHS := hide HH2
  clear HH1 HH2 H1
  obtain ⟨q1, q2⟩ := q0
  go_wp2
  clear q1 q2
  generalize hG1 : w1.heap.size = G1 at *
  go_loopw [4, 5] (fun q i wr => ∃ k : Nat, k ≤ (F k).1.length ∧ i = .int .i64 k ∧ Holds w wr [pInts q (F k).1, pRow (.slice (some ⟨B0, 0, none⟩) n n) 4 1 n (bls (F k).2 n)]) (fun _ i _ => 101 - (intOf i).toNat)
  case atStart =>
    refine ⟨0, by omega, rfl, ?_⟩
    rw [F0.out]
    exact HHS.out
  case round =>
    clear HHS
    obtain ⟨k, hk, rfl, hH⟩ := hrel
    have hI := FI.out k
    have hl : (F k).1.length ≤ 100 := by have := hI.length_le; have := HN.out; omega
    by_cases hlt : k < (F k).1.length
    · have hnext := FN.out k hlt
      have hX := hI.lt _ (List.getElem_mem hlt)
      have hlt' : (k : Int) < (F k).1.length := by omega
      obtain ⟨A00, c00, rfl⟩ := hH.intsForm 0 rfl
      generalize hS : F k = S at *
      have HX := hide (show ∃ X, X = S.1[k] from ⟨_, rfl⟩)
      obtain ⟨X, hXe⟩ := HX.out
      rw [← hXe] at hX hnext
      have HXE := hide hXe; clear hXe HX
      have HS := hide hS; clear hS
      have HNX := hide hnext; clear hnext
      have HIV := hide hI; clear hI
      obtain ⟨A', c', hrw⟩ := ROW.out X hX
      have HR := hide hrw; clear hrw
      have hXi : (X : Int) < (n : Int) := by omega
      go_wp2
      go_loopw [4, 6] (fun q j wr2 => ∃ jj : Nat, jj ≤ 2 ∧ j = .int .i64 jj ∧ Holds w wr2 [pInts q (gst ps S X jj).1, pRow (.slice (some ⟨B0, 0, none⟩) n n) 4 1 n (bls (gst ps S X jj).2 n)]) (fun _ j _ => 2 - (intOf j).toNat)
      case atStart => exact ⟨0, by omega, rfl, hH⟩
      case round =>
        clear hH
        obtain ⟨j, hj, rfl, hH⟩ := hrel
        by_cases hj2 : j < 2
        · have hji : (j : Int) < 2 := by omega
          have c2 := (HR.out wr (by rw [← hB0]; exact hH.low)).1
          have c3 := (HR.out wr (by rw [← hB0]; exact hH.low)).2 j hj2
          have hY := ATK.out X j hX hj2
          have hst1 : gst ps S X (j + 1) = badd (gst ps S X j) (tF T j X) := by rw [gst, PD.out j hj2]
          have hIT := GI.out S HIV.out X hX j (by omega)
          have hpre := gst_pre (ps := ps) S X j
          generalize gst ps S X j = U at *
          obtain ⟨Y, hYe⟩ : ∃ Y, Y = tF T j X := ⟨_, rfl⟩
          rw [← hYe] at hst1 hY c3
          clear hYe
          have hYi : (Y : Int) < (n : Int) := by omega
          have hUl : U.1.length ≤ 100 := by have := hIT.length_le; have := HN.out; omega
          have hkU : k < U.1.length := by have := hpre.length_le; omega
          have hXU : U.1[k] = X := by
            refine Eq.trans ?_ HXE.out.symm
            obtain ⟨t, ht⟩ := hpre
            have h1 : U.1[k]? = S.1[k]? := by rw [← ht, List.getElem?_append_left hlt]
            rw [List.getElem?_eq_getElem hkU, List.getElem?_eq_getElem hlt] at h1
            exact Option.some.inj h1
          have hkUi : (k : Int) < U.1.length := by omega
          obtain ⟨g0, c0, rfl, hg0, c1, _⟩ := hH.ints 0 rfl hkU
          rw [hXU] at c1
          have HST := hide hst1; clear hst1 hIT hpre hXU
          rcases hTY : U.2 Y with _ | _
          · obtain ⟨c4, f4⟩ := hH.rowCell 1 rfl ((bls_at U.2 hY).trans (by rw [hTY]))
            have hH1 := hH.put 1 rfl Y (.bool true)
            rw [bls_set] at hH1
            have HH1 := hide hH1; clear hH1
            have HTY := hide hTY; clear hTY
            clear hH
            go_wp2_with (at_builtin; refine appI (HH1.out.alloc _) 0 rfl wr.heap.size [Y] 2 ?_ ?_ rfl _ _ rfl rfl rfl ?_)
            · first | exact heap_at _ _ _ (by simp) | (have hq := Array.getElem?_eq_some_iff.1 (heap_at (wr.setCell ⟨B0, Y, none⟩ (.bool true)) (.cells (nums [Y]).toArray 2) wr.heap.size (by simp)); exact hq.2)
            · first | (simp only [List.length_cons, List.length_nil]; omega) | omega
            intro v' w' h1
            clear c4 f4 c3 c2 c1
            go_wp2
            go_roundw
            case rel => exact ⟨j + 1, by omega, by go_num, by rw [HST.out, badd_new HTY.out]; exact h1⟩
            case measure => simp [intOf]; omega
          · obtain ⟨c4, f4⟩ := hH.rowCell 1 rfl ((bls_at U.2 hY).trans (by rw [hTY]))
            have HTY := hide hTY; clear hTY
            go_wp2
            go_roundw
            case rel => exact ⟨j + 1, by omega, by go_num, by rw [HST.out, badd_old HTY.out]; exact hH⟩
            case measure => simp [intOf]; omega
        · obtain rfl : j = 2 := by omega
          have hlen : k + 1 ≤ (F (k + 1)).1.length := by
            rw [HNX.out]
            have := (gst_pre (ps := ps) S X 2).length_le
            omega
          obtain ⟨A0, c0, rfl⟩ := hH.intsForm 0 rfl
          clear hj hj2
          go_wp2
          go_roundw
          case rel => exact ⟨k + 1, hlen, by go_num, by rw [HNX.out]; exact hH⟩
          case measure => simp [intOf]; omega
    · have hst := FS.out k (by omega) (by omega)
      obtain ⟨A, c, rfl⟩ := hH.intsForm 0 rfl
      have HST := hide hst
      clear hst hI
      have hkl : (F k).1.length = k := by omega
      rw [hkl] at hH ⊢
      clear hkl hlt hk hl
      go_wp2
      go_ret
      exact ⟨_, rfl, by rw [HST.out]; exact hH.sub (.cons_cons _ (.cons _ (.refl _)))⟩
end Go.Proofs.Yteeideminlcblaa
