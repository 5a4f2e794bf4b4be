/- spec.l02Morphism -/
import Derived.Test.YtjhpkibeddnbfaaMor
namespace Go.Proofs.Ytjhpkibeddnbfaa
open Go.RowKit

/-- a row of bytes, its part -/
def pBytes (v : Value) (l : List Nat) : Part := pRow v 5 1 l.length (bytesL l)
theorem bytesL_length (l : List Nat) : (bytesL l).length = l.length := by unfold bytesL; simp
theorem bytesL_at {l : List Nat} {k : Nat} (hk : k < l.length) : (bytesL l)[k]? = some (.int .u8 (l[k] : Nat)) := by unfold bytesL; simp [hk]
theorem bytesL_one {l : List Nat} : ∀ u ∈ bytesL l, u.oneCell' = true := by
  intro u hu
  obtain ⟨x, _, rfl⟩ := List.mem_map.1 hu
  rfl
theorem Holds.bytes {w0 w : World} {L : List Part} (h : Holds w0 w L) (i : Nat) {v : Value} {l : List Nat} (hi : L[i]? = some (pBytes v l)) {k : Nat} (hk : k < l.length) :
    ∃ g c, v = .slice (some ⟨g, 0, none⟩) l.length c ∧ g < w.heap.size ∧ w.cell? ⟨g, k, none⟩ = some (.int .u8 (l[k] : Nat)) := by
  obtain ⟨g, c, h1, h2, h3, h4, h5, h6, h7⟩ := row_at (h.row i hi) (by omega : 0 < l.length)
  exact ⟨g, c, h1, h3, h6 _ _ (bytesL_at hk)⟩
theorem Holds.bytesForm {w0 w : World} {L : List Part} (h : Holds w0 w L) (i : Nat) {v : Value} {l : List Nat} (hi : L[i]? = some (pBytes v l)) : ∃ A c, v = .slice A l.length c := own_slice (h.row i hi)
/-- one byte more -/
theorem appBy {ops : Array Oper} {rest : List Oper} {o : Oper} {a : Act} {Q : Exit → Act → World → Prop} {w0 w : World} {L : List Part} (H : Holds w0 w L) (k : Nat) {v : Value} {l : List Nat} (hk : L[k]? = some (pBytes v l))
    (g : Nat) (news : List Nat) (t : TypeId) (hc : w.heap[g]? = some (.cells (bytesL news).toArray t (0, 0))) (hb : l.length + news.length ≤ 1000000)
    (hgd : o.guard = none) (s x : Operand)
    (ho : o.op = .call { callee := .builtin .append, args := #[s, x], argTypes := #[113, 113] })
    (hs : a.eval s = v) (hx : a.eval x = .slice (some ⟨g, 0, none⟩) news.length news.length)
    (h : ∀ v' w', Holds w0 w' (L.set k (pBytes v' (l ++ news))) → wpList Try.prog ops Q rest (a.put o.dst v') w') : wpList Try.prog ops Q (o :: rest) a w := by
  obtain ⟨i0, hi, hz0, hz1, hz2⟩ := info_parts infoU8
  refine appH (P := Try.prog) hgd s x 113 ho 5 i0 (.int .u8 0) 1 1 Try.underlying113 hi hz0 hz1 hz2 rfl (by decide) v l.length (bytesL l) hs H k hk ⟨g, 0, none⟩ news.length news.length (bytesL news) hx
    (by rw [bytesL_length]; omega) (fun j u hu => ?_) bytesL_one (by unfold maxLen; omega) (by omega) fun v' w' h1 => h v' w' ?_
  · have : ((⟨g, 0, none⟩ : Addr).add j) = ⟨g, j, none⟩ := by simp [Addr.add]; exact Eq.symm
    rw [this, cell_of_cells, cellsOf_heap hc]
    simpa using hu
  · unfold pBytes at *
    have e : bytesL (l ++ news) = bytesL l ++ bytesL news := by unfold bytesL; simp
    rw [List.length_append, e]
    exact h1
def neg1 (k : Nat) : Nat → Int := fun z => if 1 ≤ z ∧ z < k then -1 else 0
theorem neg1_step {k : Nat} (hk : 1 ≤ k) : hset (neg1 k) k (-1) = neg1 (k + 1) := by
  funext z
  unfold hset neg1
  by_cases c : z = k
  · subst c; simp [hk]
  · have : z < k + 1 ↔ z < k := by omega
    simp [c, this]
theorem neg1_all (m y : Nat) (hy : y < 16) : rv (hset (neg1 m) 0 (y : Nat)) m = rv (sndF [y]) m := by
  refine rv_congr fun x hx => ?_
  unfold hset neg1 sndF
  by_cases c : x = 0
  · subst c
    have h1 : y / 16 = 0 := by omega
    have h2 : y % 16 = y := by omega
    simp [h1, h2]
  · have h1 : y / 16 = 0 := by omega
    have h2 : 1 ≤ x := by omega
    have h3 : ¬ 0 = x := by omega
    simp [c, h1, h2, hx, h3]

set_option maxRecDepth 100000 in
set_option maxHeartbeats 4000000 in
theorem sMor_any (f g f' g' : Nat → Nat) (m n : Nat) (hd : DesN f g m) (he : DesN f' g' n) (y : Nat) (hy : y < 16) (w : World) :
    Calls Try.prog 51 #[.agg (dv m f g), .agg (dv n f' g'), .int .i64 y] w fun e w' => ∃ u b, e = .returned (.tuple #[u, .bool b]) ∧ Below w.heap.size w w' ∧
      (b = true → (fsts (bfs (bF f f') (bF g g') y 256).1).Nodup ∧ w'.ownsRow w.heap.size 2 1 u m (rv (sndF (bfs (bF f f') (bF g g') y 256).1) m)) ∧ (b = false → ¬ (fsts (bfs (bF f f') (bF g g') y 256).1).Nodup) := by
  have hm := hd.le
  have h0 := hd.pos
  have hn := dv_n m f g
  have hB := fun z hz => bF_lt hd.black he.black z hz
  have hW := fun z hz => bF_lt hd.white he.white z hz
  have hz0 : y < 256 := by omega
  have hlt := fun i => prs_lt hd he hy i
  obtain ⟨F, FI, F0, FN, FE, HFP, HLT⟩ : ∃ (F : Nat → List Nat × (Nat → Bool)), Hid (∀ k, BInv 256 (F k)) ∧ Hid (F 0 = ([y], mset (fun _ => false) y)) ∧ Hid (∀ k (hk : k < (F k).1.length), F (k + 1) = bst (bF f f') (bF g g') (F k) ((F k).1[k]) 2) ∧
      Hid (∀ k, k ≤ 256 → (F k).1.length ≤ k → (bfs (bF f f') (bF g g') y 256).1 = (F k).1) ∧ Hid (∀ k, k ≤ 256 → (F k).1 <+: (bfs (bF f f') (bF g g') y 256).1) ∧ Hid (∀ k, ∀ z ∈ (F k).1, z / 16 < m) :=
    ⟨bfs (bF f f') (bF g g') y, hide fun k => bfs_inv hB hW hz0 k, hide (bfs_start _ _ _), hide fun k hk => bfs_next hk, hide fun k h1 h2 => by
      generalize 256 = K at *
      rw [bfs_stop h2 h1], hide fun k hk => bfs_pre' _ _ _ hk, hide hlt⟩
  obtain ⟨R, hR⟩ : ∃ R, R = (bfs (bF f f') (bF g g') y 256).1 := ⟨_, rfl⟩
  rw [← hR] at FE HFP ⊢
  clear hR hlt
  have HBW := hide (And.intro hB hW); clear hB hW
  have HBJ := hide (And.intro hd.bf.1 hd.bg.1)
  have HP := hide (And.intro (And.intro hd.black hd.white) (And.intro he.black he.white)); clear hd he
  obtain ⟨i0, hi, hz0', hz1, hz2⟩ := info_parts info64
  have I0 := hide (And.intro hi (And.intro hz0' (And.intro hz1 hz2))); clear hi hz0' hz1 hz2
  have HH0 := ((Holds.start w).blk (dv m f g) 30 w.heap.size rfl).blk (dv n f' g') 30 (w.heap.size + 1) (by simp)
  have cn := HH0.cell 1 rfl hn
  go_enter Try.func51, Try.ntmps51
  go_wp2_with (refine makeH (P := Try.prog) rfl 48 _ _ rfl 2 i0 (.int .i64 0) 8 Try.underlying48 I0.out.1 I0.out.2.1 I0.out.2.2.1 I0.out.2.2.2 rfl m .i64 .i64 rfl rfl (by omega) (by decide) HH0 ?_)
  intro w1 HH1
  clear HH0 cn
  rw [rv_zero] at HH1
  have HH2 := HH1.rowNew #[.int .u8 0] 5 1 1 w1.heap.size rfl rfl (by unfold maxLen; omega)
  clear HH1
  replace HH2 : Holds w (w1.alloc (.cells #[.int .u8 0] 5)) [pBytes (.slice (some ⟨w1.heap.size, 0, none⟩) 1 1) [0], pRow (.slice (some ⟨w.heap.size + 1 + 1, 0, none⟩) m m) 2 1 m (rv (neg1 1) m), pBlk (w.heap.size + 1) (dv n f' g') 30, pBlk w.heap.size (dv m f g) 30] := by
    have e1 : neg1 1 = fun _ => 0 := by funext z; unfold neg1; rw [if_neg (by omega)]
    rw [e1]; exact HH2
  go_wp2
  generalize w1.alloc (.cells #[.int .u8 0] 5) = w2 at *
  generalize w1.heap.size = G3 at *
  go_loopw [10] (fun t wr => ∃ k : Nat, 1 ≤ k ∧ k ≤ m ∧ t = .int .i64 k ∧ Holds w wr [pBytes (.slice (some ⟨G3, 0, none⟩) 1 1) [0], pRow (.slice (some ⟨w.heap.size + 1 + 1, 0, none⟩) m m) 2 1 m (rv (neg1 k) m), pBlk (w.heap.size + 1) (dv n f' g') 30, pBlk w.heap.size (dv m f g) 30]) (fun t _ => m - (intOf t).toNat)
  case atStart => exact ⟨1, by omega, by omega, rfl, HH2⟩
  case round =>
    clear HH2
    obtain ⟨k, hk1, hk, rfl, hH⟩ := hrel
    have cn := hH.cell 3 rfl hn
    by_cases hkm : k < m
    · have hkm' : (k : Int) < m := by omega
      have r0 := hH.cellR 1 rfl (rv_at (neg1 k) hkm)
      have r1 := hH.frozenR 1 rfl (by omega) k
      have hP := hH.put 1 rfl k (.int .i64 (-1))
      rw [rv_set, neg1_step hk1] at hP
      go_wp2
      go_roundw
      case rel => exact ⟨k + 1, by omega, by omega, by go_num, hP⟩
      case measure => simp [intOf]; omega
    · obtain rfl : m = k := by omega
      clear hk hkm
      have h00 : (0 : Int) < m := by omega
      have r0 := hH.cellR 1 rfl (rv_at (neg1 m) h0)
      have r1 := hH.frozenR 1 rfl (by omega) 0
      have hP := hH.put 1 rfl 0 (.int .i64 (y : Nat))
      rw [rv_set, neg1_all m y hy] at hP
      have hF0 := F0.out
      have hf0 : fsts (F 0).1 = [0] := by rw [hF0]; unfold fsts; simp; omega
      go_wp2
      clear r0 r1 cn hH
      go_loopw [9, 11] (fun u t wr => ∃ k : Nat, k ≤ (F k).1.length ∧ t = .int .i64 k ∧ (fsts (F k).1).Nodup ∧ Holds w wr [pBytes u (fsts (F k).1), pRow (.slice (some ⟨w.heap.size + 1 + 1, 0, none⟩) m m) 2 1 m (rv (sndF (F k).1) m), pBlk (w.heap.size + 1) (dv n f' g') 30, pBlk w.heap.size (dv m f g) 30]) (fun _ t _ => 257 - (intOf t).toNat)
      case atStart => exact ⟨0, by omega, rfl, by rw [hf0]; simp, by rw [hf0, hF0]; exact hP⟩
      case round =>
        clear hP hF0 hf0
        obtain ⟨k, hk, rfl, hnd, hH⟩ := hrel
        have hI := FI.out k
        have hle := hI.length_le
        by_cases hkl : k < (F k).1.length
        · obtain ⟨g0, c0, rfl, _, y1⟩ := hH.bytes 0 rfl (k := k) (by rw [fsts_length]; exact hkl)
          have hnx := FN.out k hkl
          have hX := hI.lt _ (List.getElem_mem hkl)
          have hXm := List.getElem_mem hkl
          have hXa := HLT.out k _ hXm
          have hfk : ∀ h, (fsts (F k).1)[k]'h = (F k).1[k] / 16 := fun h => by simp [fsts]
          rw [hfk] at y1
          clear hfk
          obtain ⟨a, hab1⟩ : ∃ a, a = (F k).1[k] / 16 := ⟨_, rfl⟩
          obtain ⟨b, hab2⟩ : ∃ b, b = (F k).1[k] % 16 := ⟨_, rfl⟩
          rw [← hab1] at y1 hXa
          have hb16 : b < 16 := by omega
          have ha' : (a : Int) < m := by omega
          have ha16 : a < 16 := by omega
          have ha16' : (a : Int) < 16 := by omega
          have hb16' : (b : Int) < 16 := by omega
          rw [fsts_length] at hH ⊢
          generalize hS : F k = S at *
          generalize S.1[k] = X at *
          have HS := hide hS; clear hS
          have HNX := hide hnx; clear hnx
          have HI := hide hI; clear hI
          have hfa := HBJ.out.1 a hXa
          have hga := HBJ.out.2 a hXa
          have hfb := HP.out.2.1.lt16 hb16
          have hgb := HP.out.2.2.lt16 hb16
          have hB := HBW.out.1 X hX
          have hW := HBW.out.2 X hX
          have vB : bF f f' X / 16 = f a ∧ bF f f' X % 16 = f' b := by rw [hab1, hab2]; rw [hab2] at hfb; exact ⟨bF_1 hfb, bF_2 hfb⟩
          have vW : bF g g' X / 16 = g a ∧ bF g g' X % 16 = g' b := by rw [hab1, hab2]; rw [hab2] at hgb; exact ⟨bF_1 hgb, bF_2 hgb⟩
          have EE := hide (And.intro (And.intro vB.1 (And.intro vB.2 hfa)) (And.intro vW.1 (And.intro vW.2 hga))); clear vB vW
          have HAB := hide (And.intro hab1 (And.intro hab2 hXm)); clear hab1 hab2 hXm
          have HBX := hide (And.intro hB hW); clear hB hW hX
          go_wp2
          clear y1
          go_loopw [9, 13] (fun u t wr => ∃ i : Nat, i ≤ 2 ∧ t = .int .i64 i ∧ (fsts (bst (bF f f') (bF g g') S X i).1).Nodup ∧ Holds w wr [pBytes u (fsts (bst (bF f f') (bF g g') S X i).1), pRow (.slice (some ⟨w.heap.size + 1 + 1, 0, none⟩) m m) 2 1 m (rv (sndF (bst (bF f f') (bF g g') S X i).1) m), pBlk (w.heap.size + 1) (dv n f' g') 30, pBlk w.heap.size (dv m f g) 30]) (fun _ t _ => 2 - (intOf t).toNat)
          case atStart => exact ⟨0, by omega, rfl, hnd, hH⟩
          case round =>
            clear hH hnd
            obtain ⟨i, hi, rfl, hnd, hH⟩ := hrel
            by_cases hi2 : i < 2
            · have hIT := bst_inv HI.out HBX.out.1 HBX.out.2 i
              have hXT : X ∈ (bst (bF f f') (bF g g') S X i).1 := (bst_pre _ _ _ _ _).subset HAB.out.2.2
              have hsa : sndF (bst (bF f f') (bF g g') S X i).1 a = ((b : Nat) : Int) := by
                have := sndF_mem hnd hXT
                rw [← HAB.out.1, ← HAB.out.2.1] at this; exact this
              clear hXT
              have q0 : wr.cell? ⟨w.heap.size + 1 + 1, a, none⟩ = some (.int .i64 (b : Nat)) := by
                rw [← hsa]; exact hH.cellR 1 rfl (rv_at _ hXa)
              have c3 := hH.cell 3 rfl (dv_b m f g ha16)
              have c4 := hH.cell 2 rfl (dv_b n f' g' hb16)
              go_wp2
              go_quiet (fail)
              have hH' := hH.drewN nq
              clear q0 c3 c4 hH
              generalize wr.drewN nq = wr at *
              have hH := hH'
              clear hH'
              have hii : i = 0 ∨ i = 1 := by omega
              rcases hii with hi0 | hi1
              · obtain rfl := hi0
                have hst : bst (bF f f') (bF g g') S X 1 = badd (bst (bF f f') (bF g g') S X 0) (bF f f' X) := rfl
                clear hsa
                generalize bst (bF f f') (bF g g') S X 0 = T at *
                have HIT := hide hIT; clear hIT
                have HST := hide hst; clear hst
                have hzt : (bF f f' X) / 16 = f a := EE.out.1.1
                have hzh : (bF f f' X) % 16 = f' b := EE.out.1.2.1
                have hto : f a < m := EE.out.1.2.2
                have hto' : ((f a : Nat) : Int) < m := by omega
                have hz256 := HBX.out.1
                have hTl := HIT.out.length_le
                by_cases hin : f a ∈ fsts T.1
                · have hge := sndF_ge hin
                  have hneg : decide (sndF T.1 (f a) < 0) = false := decide_eq_false (by omega)
                  by_cases hsm : sndF T.1 (f a) = ((f' b : Nat) : Int)
                  · have hmz : bF f f' X ∈ T.1 := (snd_same hnd (by rw [hzt]; exact hin)).2 (by rw [hzt, hzh]; exact hsm)
                    have hneq : (sndF T.1 (f a) != ((f' b : Nat) : Int)) = false := by rw [hsm]; simp
                    have hTY : T.2 (bF f f' X) = true := (HIT.out.mem _).2 hmz
                    have HX := hide (And.intro hnd (And.intro hTY hto)); clear hnd hTY hmz hsm hin hzt hzh hge hTl
                    have r0 := hH.cellR 1 rfl (rv_at (sndF T.1) (j := f a) HX.out.2.2)
                    go_wp2
                    go_roundw
                    case rel =>
                      refine ⟨1, by omega, by go_num, ?_⟩
                      rw [HST.out, badd_old HX.out.2.1]
                      exact ⟨HX.out.1, hH⟩
                    case measure => simp [intOf]
                  · have hmz : bF f f' X ∉ T.1 := fun h => hsm (by have := sndF_mem hnd h; rw [hzt, hzh] at this; exact this)
                    have hneq : (sndF T.1 (f a) != ((f' b : Nat) : Int)) = true := by simpa using hsm
                    have hTN : T.2 (bF f f' X) = false := by
                      rcases h : T.2 (bF f f' X) with _ | _
                      · rfl
                      · exact absurd ((HIT.out.mem _).1 h) hmz
                    have hpre : T.1 ++ [bF f f' X] <+: R := by
                      have h1 : T.1 ++ [bF f f' X] <+: (bst (bF f f') (bF g g') S X 2).1 := by
                        have h2 : (bst (bF f f') (bF g g') S X 1).1 = T.1 ++ [bF f f' X] := by rw [HST.out, badd_new hTN]
                        rw [← h2]
                        exact badd_le _ _
                      rw [← HNX.out] at h1
                      exact h1.trans (HFP.out (k + 1) (by omega))
                    have hcl := snd_clash (by rw [hzt]; exact hin) hmz hpre
                    have HX := hide (And.intro hcl hto); clear hcl hpre hTN hmz hsm hin hnd hzt hzh hge hTl
                    have r0 := hH.cellR 1 rfl (rv_at (sndF T.1) (j := f a) HX.out.2)
                    go_wp2
                    go_ret2
                    exact ⟨_, false, rfl, hH.low, (fun h => by cases h), fun _ => HX.out.1⟩
                · have hmin : sndF T.1 (f a) = -1 := sndF_none hin
                  have hneg : decide (sndF T.1 (f a) < 0) = true := by rw [hmin]; rfl
                  have hadd := sndF_add (l := T.1) (z := bF f f' X) (by rw [hzt]; exact hin)
                  rw [hzt, hzh] at hadd
                  have hTN : T.2 (bF f f' X) = false := by
                    rcases h : T.2 (bF f f' X) with _ | _
                    · rfl
                    · exact absurd (List.mem_map.2 ⟨_, (HIT.out.mem _).1 h, hzt⟩) hin
                  have hnd' : (fsts (T.1 ++ [bF f f' X])).Nodup := by
                    rw [fsts_snoc, List.nodup_append]
                    exact ⟨hnd, by simp, fun x hx y hy e => by simp at hy; rw [hzt] at hy; subst e; subst hy; exact hin hx⟩
                  have hsn : fsts (T.1 ++ [bF f f' X]) = fsts T.1 ++ [f a] := by rw [fsts_snoc, hzt]
                  have HX := hide (And.intro hnd' (And.intro hTN (And.intro hto (And.intro hadd hsn)))); clear hnd hnd' hTN hmin hin hadd hsn hzt hzh
                  have r0 := hH.cellR 1 rfl (rv_at (sndF T.1) (j := f a) HX.out.2.2.1)
                  have r1 := hH.frozenR 1 rfl (by omega) (f a)
                  have hP := hH.put 1 rfl (f a) (.int .i64 (f' b : Nat))
                  rw [rv_set, HX.out.2.2.2.1] at hP
                  obtain ⟨A', c', rfl⟩ := hH.bytesForm 0 rfl
                  rw [fsts_length] at hH hP ⊢
                  have hneq : (((f' b : Nat) : Int) != ((f' b : Nat) : Int)) = false := by simp
                  go_wp2_with (at_builtin; refine appBy (hP.alloc _) 0 rfl wr.heap.size [f a] 5 ?_ ?_ rfl _ _ rfl rfl rfl ?_)
                  · exact heap_at _ _ _ (by simp)
                  · rw [fsts_length]; simp only [List.length_cons, List.length_nil]; omega
                  intro v' w5 hH5
                  clear r0 r1 hP hH
                  have hH6 : Holds w w5 [pBytes v' (fsts T.1 ++ [f a]), pRow (.slice (some ⟨w.heap.size + 1 + 1, 0, none⟩) m m) 2 1 m (rv (sndF (T.1 ++ [bF f f' X])) m), pBlk (w.heap.size + 1) (dv n f' g') 30, pBlk w.heap.size (dv m f g) 30] := hH5
                  clear hH5
                  have hsv : sndF (T.1 ++ [bF f f' X]) (f a) = ((f' b : Nat) : Int) := by
                    rw [← HX.out.2.2.2.1]; unfold hset; rw [if_pos rfl]
                  have r2 := hH6.cellR 1 rfl (rv_at (sndF (T.1 ++ [bF f f' X])) (j := f a) HX.out.2.2.1)
                  rw [hsv] at r2
                  clear hsv
                  go_wp2
                  go_roundw
                  case rel =>
                    refine ⟨1, by omega, by go_num, ?_⟩
                    rw [HST.out, badd_new HX.out.2.1]
                    refine ⟨HX.out.1, ?_⟩
                    show Holds w w5 [pBytes v' (fsts (T.1 ++ [bF f f' X])), _, _, _]
                    rw [HX.out.2.2.2.2]
                    exact hH6
                  case measure => simp [intOf]

              · obtain rfl := hi1
                have hst : bst (bF f f') (bF g g') S X 2 = badd (bst (bF f f') (bF g g') S X 1) (bF g g' X) := rfl
                have q0 : wr.cell? ⟨w.heap.size + 1 + 1, a, none⟩ = some (.int .i64 (b : Nat)) := by
                  rw [← hsa]; exact hH.cellR 1 rfl (rv_at _ hXa)
                have c3 := hH.cell 3 rfl (dv_w m f g ha16)
                have c4 := hH.cell 2 rfl (dv_w n f' g' hb16)
                clear hsa
                generalize bst (bF f f') (bF g g') S X 1 = T at *
                have HIT := hide hIT; clear hIT
                have HST := hide hst; clear hst
                have hzt : (bF g g' X) / 16 = g a := EE.out.2.1
                have hzh : (bF g g' X) % 16 = g' b := EE.out.2.2.1
                have hto : g a < m := EE.out.2.2.2
                have hto' : ((g a : Nat) : Int) < m := by omega
                have hz256 := HBX.out.2
                have hTl := HIT.out.length_le
                by_cases hin : g a ∈ fsts T.1
                · have hge := sndF_ge hin
                  have hneg : decide (sndF T.1 (g a) < 0) = false := decide_eq_false (by omega)
                  by_cases hsm : sndF T.1 (g a) = ((g' b : Nat) : Int)
                  · have hmz : bF g g' X ∈ T.1 := (snd_same hnd (by rw [hzt]; exact hin)).2 (by rw [hzt, hzh]; exact hsm)
                    have hneq : (sndF T.1 (g a) != ((g' b : Nat) : Int)) = false := by rw [hsm]; simp
                    have hTY : T.2 (bF g g' X) = true := (HIT.out.mem _).2 hmz
                    have HX := hide (And.intro hnd (And.intro hTY hto)); clear hnd hTY hmz hsm hin hzt hzh hge hTl
                    have r0 := hH.cellR 1 rfl (rv_at (sndF T.1) (j := g a) HX.out.2.2)
                    go_wp2
                    go_roundw
                    case rel =>
                      refine ⟨2, by omega, by go_num, ?_⟩
                      rw [HST.out, badd_old HX.out.2.1]
                      exact ⟨HX.out.1, hH⟩
                    case measure => simp [intOf]
                  · have hmz : bF g g' X ∉ T.1 := fun h => hsm (by have := sndF_mem hnd h; rw [hzt, hzh] at this; exact this)
                    have hneq : (sndF T.1 (g a) != ((g' b : Nat) : Int)) = true := by simpa using hsm
                    have hTN : T.2 (bF g g' X) = false := by
                      rcases h : T.2 (bF g g' X) with _ | _
                      · rfl
                      · exact absurd ((HIT.out.mem _).1 h) hmz
                    have hpre : T.1 ++ [bF g g' X] <+: R := by
                      have h1 : T.1 ++ [bF g g' X] <+: (bst (bF f f') (bF g g') S X 2).1 := by
                        have h2 : (bst (bF f f') (bF g g') S X 2).1 = T.1 ++ [bF g g' X] := by rw [HST.out, badd_new hTN]
                        rw [← h2]
                        exact List.prefix_refl _
                      rw [← HNX.out] at h1
                      exact h1.trans (HFP.out (k + 1) (by omega))
                    have hcl := snd_clash (by rw [hzt]; exact hin) hmz hpre
                    have HX := hide (And.intro hcl hto); clear hcl hpre hTN hmz hsm hin hnd hzt hzh hge hTl
                    have r0 := hH.cellR 1 rfl (rv_at (sndF T.1) (j := g a) HX.out.2)
                    go_wp2
                    go_ret2
                    exact ⟨_, false, rfl, hH.low, (fun h => by cases h), fun _ => HX.out.1⟩
                · have hmin : sndF T.1 (g a) = -1 := sndF_none hin
                  have hneg : decide (sndF T.1 (g a) < 0) = true := by rw [hmin]; rfl
                  have hadd := sndF_add (l := T.1) (z := bF g g' X) (by rw [hzt]; exact hin)
                  rw [hzt, hzh] at hadd
                  have hTN : T.2 (bF g g' X) = false := by
                    rcases h : T.2 (bF g g' X) with _ | _
                    · rfl
                    · exact absurd (List.mem_map.2 ⟨_, (HIT.out.mem _).1 h, hzt⟩) hin
                  have hnd' : (fsts (T.1 ++ [bF g g' X])).Nodup := by
                    rw [fsts_snoc, List.nodup_append]
                    exact ⟨hnd, by simp, fun x hx y hy e => by simp at hy; rw [hzt] at hy; subst e; subst hy; exact hin hx⟩
                  have hsn : fsts (T.1 ++ [bF g g' X]) = fsts T.1 ++ [g a] := by rw [fsts_snoc, hzt]
                  have HX := hide (And.intro hnd' (And.intro hTN (And.intro hto (And.intro hadd hsn)))); clear hnd hnd' hTN hmin hin hadd hsn hzt hzh
                  have r0 := hH.cellR 1 rfl (rv_at (sndF T.1) (j := g a) HX.out.2.2.1)
                  have r1 := hH.frozenR 1 rfl (by omega) (g a)
                  have hP := hH.put 1 rfl (g a) (.int .i64 (g' b : Nat))
                  rw [rv_set, HX.out.2.2.2.1] at hP
                  obtain ⟨A', c', rfl⟩ := hH.bytesForm 0 rfl
                  rw [fsts_length] at hH hP ⊢
                  have hneq : (((g' b : Nat) : Int) != ((g' b : Nat) : Int)) = false := by simp
                  go_wp2_with (at_builtin; refine appBy (hP.alloc _) 0 rfl wr.heap.size [g a] 5 ?_ ?_ rfl _ _ rfl rfl rfl ?_)
                  · exact heap_at _ _ _ (by simp)
                  · rw [fsts_length]; simp only [List.length_cons, List.length_nil]; omega
                  intro v' w5 hH5
                  clear r0 r1 hP hH
                  have hH6 : Holds w w5 [pBytes v' (fsts T.1 ++ [g a]), pRow (.slice (some ⟨w.heap.size + 1 + 1, 0, none⟩) m m) 2 1 m (rv (sndF (T.1 ++ [bF g g' X])) m), pBlk (w.heap.size + 1) (dv n f' g') 30, pBlk w.heap.size (dv m f g) 30] := hH5
                  clear hH5
                  have hsv : sndF (T.1 ++ [bF g g' X]) (g a) = ((g' b : Nat) : Int) := by
                    rw [← HX.out.2.2.2.1]; unfold hset; rw [if_pos rfl]
                  have r2 := hH6.cellR 1 rfl (rv_at (sndF (T.1 ++ [bF g g' X])) (j := g a) HX.out.2.2.1)
                  rw [hsv] at r2
                  clear hsv
                  go_wp2
                  go_roundw
                  case rel =>
                    refine ⟨2, by omega, by go_num, ?_⟩
                    rw [HST.out, badd_new HX.out.2.1]
                    refine ⟨HX.out.1, ?_⟩
                    show Holds w w5 [pBytes v' (fsts (T.1 ++ [bF g g' X])), _, _, _]
                    rw [HX.out.2.2.2.2]
                    exact hH6
                  case measure => simp [intOf]

            · obtain rfl : i = 2 := by omega
              have hn2 := HNX.out
              rw [← hn2] at hH hnd
              have hln : k + 1 ≤ (F (k + 1)).1.length := by
                have h1 := (bst_pre (bF f f') (bF g g') S X 2).length_le
                rw [hn2]; omega
              clear hi hi2 hn2
              go_wp2
              go_roundw
              case rel => exact ⟨k + 1, hln, by go_num, hnd, hH⟩
              case measure => simp [intOf]; omega
        · have hR := FE.out k (by omega) (by omega)
          have hkk : (F k).1.length = k := by omega
          obtain ⟨A', c', rfl⟩ := hH.bytesForm 0 rfl
          have hdl : (fsts (F k).1).length = k := by rw [fsts_length]; exact hkk
          rw [hdl] at hH ⊢
          rw [← hR] at hH hnd
          have HND := hide hnd
          clear hR hkk hdl hI hle hk hkl hnd
          go_wp2
          go_ret2
          exact ⟨_, true, rfl, hH.low, (fun _ => ⟨HND.out, hH.row 1 rfl⟩), fun h => by cases h⟩
end Go.Proofs.Ytjhpkibeddnbfaa
