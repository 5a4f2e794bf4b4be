/- impl.product -/
import Derived.Test.YtjhpkibeddnbfaaPfr
import Derived.Test.YtjhpkibeddnbfaaCell
namespace Go.Proofs.Ytjhpkibeddnbfaa
open Go.RowKit

/-- names by a map, so many laid -/
noncomputable def Mn (l : List Nat) : Nat → Value → Option Value
  | 0 => fun _ => none
  | k + 1 => mput (Mn l k) (encP (l.getD k 0)) (.int .u8 (k : Nat))
theorem Mn_at {l : List Nat} (hn : l.Nodup) {k i : Nat} (hk : k ≤ l.length) (hi : i < k) : Mn l k (encP (l.getD i 0)) = some (.int .u8 (i : Nat)) := by
  induction k with
  | zero => omega
  | succ k ih =>
    show mput (Mn l k) (encP (l.getD k 0)) (.int .u8 (k : Nat)) (encP (l.getD i 0)) = _
    by_cases e : i = k
    · subst e; exact mput_same _ _ _
    · rw [mput_ne]
      · exact ih (by omega) (by omega)
      · intro h
        have := encP_inj h
        have h1 : l.getD i 0 = l[i]'(by omega) := by rw [List.getD_eq_getElem?_getD, List.getElem?_eq_getElem (by omega)]; rfl
        have h2 : l.getD k 0 = l[k]'(by omega) := by rw [List.getD_eq_getElem?_getD, List.getElem?_eq_getElem (by omega)]; rfl
        rw [h1, h2] at this
        rcases Nat.lt_or_gt_of_ne e with c | c
        · exact List.pairwise_iff_getElem.1 hn i k (by omega) (by omega) c this
        · exact List.pairwise_iff_getElem.1 hn k i (by omega) (by omega) c this.symm
theorem Mn_mem {l : List Nat} (hn : l.Nodup) {z : Nat} (hz : z ∈ l) : Mn l l.length (encP z) = some (.int .u8 (l.idxOf z : Nat)) := by
  have hl := List.idxOf_lt_length_of_mem hz
  have h1 : l.getD (l.idxOf z) 0 = z := by rw [List.getD_eq_getElem?_getD, List.getElem?_eq_getElem hl, List.getElem_idxOf hl]; rfl
  have := Mn_at hn (Nat.le_refl _) hl
  rw [h1] at this
  exact this
def idxF (l : List Nat) (p : Nat → Nat) : Nat → Nat := fun i => l.idxOf (p (l.getD i 0))
theorem zeroU8 (w : World) : (zeroValue 5).run Try.prog w = .ok (.int .u8 0) w := by
  have h : (Try.prog.info? 5).map (·.zero) = some (some (.int .u8 0)) := by kernel_rfl
  rcases hi : Try.prog.info? 5 with _ | i
  · rw [hi] at h; cases h
  · rw [hi] at h
    have hz : i.zero = some (.int .u8 0) := by simpa using h
    simp [zeroValue, typeInfo, hi, hz]
theorem look_name {w0 w : World} {L : List Part} (H : Holds w0 w L) (i : Nat) {G : Nat} {l : List Nat} (hi : L[i]? = some (pMap Try.prog 68 G (Mn l l.length))) (hn : l.Nodup) {z : Nat} (hz : z < 256) (hm : z ∈ l) :
    (Instr.lookup 117 (.map (some G)) (encP z) false).run Try.prog w = .ok (.int .u8 (l.idxOf z : Nat)) w := by
  rw [run_mlook keyedPr Try.underlying117 zeroU8 (H.at i hi) (isK_code hz) false, Mn_mem hn hm]
  rfl
/-- a row of pairs wherever it lies -/
def RdP (w : World) (v : Value) (l : List (Nat × Nat)) : Prop := w.ownsRow 0 68 2 v l.length (pairB l)
theorem RdP.below {C : Nat} {w w' : World} {v : Value} {l : List (Nat × Nat)} (h : RdP w v l) (hb : Below C w w') (hC : w.heap.size ≤ C) : RdP w' v l := World.ownsRow.kept h (grown_of_below (hb.mono hC) none) (Classical.em _)
theorem RdP.form {w : World} {v : Value} {l : List (Nat × Nat)} (h : RdP w v l) : ∃ A c, v = .slice A l.length c := own_slice h
theorem RdP.at {w : World} {A : Option Addr} {n c k : Nat} {l : List Nat} (h : RdP w (.slice A n c) (dec l)) (hk : k < l.length) :
    ∃ g, A = some ⟨g, 0, none⟩ ∧ g < w.heap.size ∧ w.cell? ⟨g, k * 2, none⟩ = some (.int .u8 ((l.getD k 0 / 16 : Nat) : Int)) ∧ w.cell? ⟨g, k * 2 + 1, none⟩ = some (.int .u8 ((l.getD k 0 % 16 : Nat) : Int)) := by
  have hk' : k < (dec l).length := by rw [dec_length]; exact hk
  obtain ⟨g, c, h1, h2, h3, h4, h5, h6, h7⟩ := row_at h (by omega : 0 < (dec l).length)
  injection h1 with e1 e2 e3
  have a1 := h6 _ _ (pairB_at hk').1
  have a2 := h6 _ _ (pairB_at hk').2
  rw [dec_at hk] at a1 a2
  have hg : l.getD k 0 = l[k] := by rw [List.getD_eq_getElem?_getD, List.getElem?_eq_getElem hk]; rfl
  rw [hg]
  exact ⟨g, e1, h3, a1, a2⟩

set_option maxRecDepth 100000 in
set_option maxHeartbeats 2000000 in
theorem product_any (f g f' g' : Nat → Nat) (m n : Nat) (hd : DesN f g m) (he : DesN f' g' n) (l : List Nat) (hl : l.length ≤ 16) (hn : l.Nodup) (hlt : ∀ z ∈ l, z < 256) (hcl : ∀ z ∈ l, bF f f' z ∈ l ∧ bF g g' z ∈ l) (v : Value) (w : World) (hv : RdP w v (dec l)) :
    Calls Try.prog 57 #[.agg (dv m f g), .agg (dv n f' g'), v] w fun e w' => e = .returned (.agg (dv l.length (upto (idxF l (bF f f')) l.length) (upto (idxF l (bF g g')) l.length))) ∧ Below w.heap.size w w' := by
  have C2 := hide fun (p q : Nat → Nat) (a b : Nat) (ha : a < 16) (hb : b < 16) w => pairAfter_any p q a b ha hb w
  obtain ⟨A, c, rfl⟩ := hv.form
  rw [dec_length] at hv ⊢
  have HV := hide hv; clear hv
  have HL := hide (And.intro hn (And.intro hlt hcl)); clear hn hlt hcl
  have HP := hide (And.intro (And.intro hd.black hd.white) (And.intro he.black he.white)); clear hd he
  have mk := fun w => run_mk (P := Try.prog) 117 w
  have HH := ((((Holds.start w).blk (dv m f g) 30 w.heap.size rfl).blk (dv n f' g') 30 (w.heap.size + 1) (by simp)).blk (dv 0 (fun _ => 0) (fun _ => 0)) 30 (w.heap.size + 1 + 1) (by simp)).newMap Try.prog 68 (w.heap.size + 1 + 1 + 1) (by simp)
  go_enter Try.func57, Try.ntmps57
  go_wp2
  rw [← dv_zero]
  clear mk
  go_loopw [16] (fun t wr => ∃ k : Nat, k ≤ l.length ∧ t = .int .i64 k ∧ Holds w wr [pMap Try.prog 68 (w.heap.size + 1 + 1 + 1) (Mn l k), pBlk (w.heap.size + 1 + 1) (dv 0 (fun _ => 0) (fun _ => 0)) 30, pBlk (w.heap.size + 1) (dv n f' g') 30, pBlk w.heap.size (dv m f g) 30])
    (fun t _ => l.length - (intOf t).toNat)
  case atStart => exact ⟨0, by omega, rfl, HH⟩
  case round =>
    clear HH
    obtain ⟨k, hk, rfl, hH⟩ := hrel
    by_cases hkl : k < l.length
    · obtain ⟨q, rfl, hq, x1, x2⟩ := (HV.out.below hH.low (Nat.le_refl _)).at hkl
      obtain ⟨a, ha⟩ : ∃ a, a = l.getD k 0 / 16 := ⟨_, rfl⟩
      obtain ⟨b, hb⟩ : ∃ b, b = l.getD k 0 % 16 := ⟨_, rfl⟩
      rw [← ha] at x1
      rw [← hb] at x2
      have hz : l.getD k 0 < 256 := HL.out.2.1 _ (by rw [List.getD_eq_getElem?_getD, List.getElem?_eq_getElem hkl]; exact List.getElem_mem hkl)
      have eK : encP (l.getD k 0) = .agg #[.int .u8 (a : Nat), .int .u8 (b : Nat)] := by unfold encP; rw [← ha, ← hb]
      have hK := isK_code hz
      rw [eK] at hK
      have hM : Mn l (k + 1) = mput (Mn l k) (.agg #[.int .u8 (a : Nat), .int .u8 (b : Nat)]) (.int .u8 (k : Nat)) := by rw [← eK]; rfl
      have HM := hide hM; clear hM
      have HK := hide hK; clear hK
      clear ha hb hz eK
      have hHb := hH.blk #[.int .u8 (a : Nat), .int .u8 (b : Nat)] 68 wr.heap.size rfl
      have hk256 : (k : Int) < 256 := by omega
      go_wp2_with (refine mputH (k := .agg #[.int .u8 (a : Nat), .int .u8 (b : Nat)]) (v := .int .u8 (k : Nat)) keyedPr rfl _ _ _ rfl Try.underlying117 hHb 1 rfl rfl rfl rfl HK.out ?_)
      intro w4 hH4 hs4
      clear hs4 hHb x1 x2
      rw [← HM.out] at hH4
      go_wp2
      go_roundw
      case rel => exact ⟨k + 1, by omega, by go_num, hH4.tail⟩
      case measure => simp [intOf]; omega
    · obtain ⟨K, hK⟩ : ∃ K, K = l.length := ⟨_, rfl⟩
      obtain rfl : K = k := by omega
      rw [hK] at hH
      have HK := hide hK
      rw [← HK.out]
      clear hK hk hkl
      have hHd := hH.blk (dv K (fun _ => 0) (fun _ => 0)) 30 wr.heap.size rfl
      have hz := dv_lit (K : Int)
      have HZ := hide hz; clear hz
      have ho := (ones_dv (K : Int) (fun _ => 0) (fun _ => 0)).2 trivial
      rw [HZ.out] at ho
      have hK16 : K ≤ 16 := by rw [HK.out]; exact hl
      go_wp2
      rw [← HZ.out]
      clear hH ho
      generalize wr.alloc (.cells (dv K (fun _ => 0) (fun _ => 0)) 30) = wd at *
      generalize wr.heap.size = G at *
      go_loopw [31] (fun t wr => ∃ k : Nat, k ≤ K ∧ t = .int .i64 k ∧ Holds w wr [pBlk G (dv K (upto (idxF l (bF f f')) k) (upto (idxF l (bF g g')) k)) 30, pMap Try.prog 68 (w.heap.size + 1 + 1 + 1) (Mn l l.length), pBlk (w.heap.size + 1 + 1) (dv 0 (fun _ => 0) (fun _ => 0)) 30, pBlk (w.heap.size + 1) (dv n f' g') 30, pBlk w.heap.size (dv m f g) 30]) (fun t _ => K - (intOf t).toNat)
      case atStart => exact ⟨0, by omega, rfl, by rw [upto_zero, upto_zero]; exact hHd⟩
      case round =>
        clear hHd
        obtain ⟨k, hk, rfl, hH⟩ := hrel
        by_cases hkl : k < K
        · have hkl' : k < l.length := by rw [← HK.out]; exact hkl
          obtain ⟨q, rfl, hq, x1, x2⟩ := (HV.out.below hH.low (Nat.le_refl _)).at hkl'
          obtain ⟨a, ha⟩ : ∃ a, a = l.getD k 0 / 16 := ⟨_, rfl⟩
          obtain ⟨b, hb⟩ : ∃ b, b = l.getD k 0 % 16 := ⟨_, rfl⟩
          rw [← ha] at x1
          rw [← hb] at x2
          have hm : l.getD k 0 ∈ l := by rw [List.getD_eq_getElem?_getD, List.getElem?_eq_getElem hkl']; exact List.getElem_mem hkl'
          have hz : l.getD k 0 < 256 := HL.out.2.1 _ hm
          have hc := HL.out.2.2 _ hm
          have ha16 : a < 16 := by omega
          have hb16 : b < 16 := by omega
          have hfa := HP.out.1.1.lt16 ha16
          have hga := HP.out.1.2.lt16 ha16
          have hfb := HP.out.2.1.lt16 hb16
          have hgb := HP.out.2.2.lt16 hb16
          have eB : encP (bF f f' (l.getD k 0)) = .agg #[.int .u8 (f a : Nat), .int .u8 (f' b : Nat)] := by
            unfold encP; rw [bF_1 (by rw [← hb]; exact hfb), bF_2 (by rw [← hb]; exact hfb), ← ha, ← hb]
          have eW : encP (bF g g' (l.getD k 0)) = .agg #[.int .u8 (g a : Nat), .int .u8 (g' b : Nat)] := by
            unfold encP; rw [bF_1 (by rw [← hb]; exact hgb), bF_2 (by rw [← hb]; exact hgb), ← ha, ← hb]
          have zB : bF f f' (l.getD k 0) < 256 := HL.out.2.1 _ hc.1
          have zW : bF g g' (l.getD k 0) < 256 := HL.out.2.1 _ hc.2
          have iB : idxF l (bF f f') k = l.idxOf (bF f f' (l.getD k 0)) := rfl
          have iW : idxF l (bF g g') k = l.idxOf (bF g g' (l.getD k 0)) := rfl
          have lB := fun (wx : World) (Lx : List Part) (hx : Holds w wx Lx) (i : Nat) (hi : Lx[i]? = some (pMap Try.prog 68 (w.heap.size + 1 + 1 + 1) (Mn l l.length))) => look_name hx i hi HL.out.1 zB hc.1
          have lW := fun (wx : World) (Lx : List Part) (hx : Holds w wx Lx) (i : Nat) (hi : Lx[i]? = some (pMap Try.prog 68 (w.heap.size + 1 + 1 + 1) (Mn l l.length))) => look_name hx i hi HL.out.1 zW hc.2
          rw [eB, ← iB] at lB
          rw [eW, ← iW] at lW
          have LB := hide lB; clear lB
          have LW := hide lW; clear lW
          clear eB eW iB iW zB zW hc hm hz ha hb
          generalize hVB : idxF l (bF f f') k = vB at *
          generalize hVW : idxF l (bF g g') k = vW at *
          have s1 := upto_step (idxF l (bF f f')) k
          have s2 := upto_step (idxF l (bF g g')) k
          rw [hVB] at s1
          rw [hVW] at s2
          have SS := hide (And.intro s1 s2); clear s1 s2 hVB hVW
          have hk16 : k < 16 := by omega
          generalize upto (idxF l (bF f f')) k = U1 at *
          generalize upto (idxF l (bF g g')) k = U2 at *
          generalize hW1 : upto (idxF l (bF f f')) (k + 1) = V1 at *
          generalize hW2 : upto (idxF l (bF g g')) (k + 1) = V2 at *
          have HW := hide (And.intro hW1 hW2); clear hW1 hW2
          have hHb := hH.blk #[.int .u8 (a : Nat), .int .u8 (b : Nat)] 68 wr.heap.size rfl
          have cd := hHb.cells 5 rfl
          have ce := hHb.cells 4 rfl
          clear hH
          go_wp2_with fail
          refine (C2.out f f' a b ha16 hb16 _).mono ?_
          rintro e w3 ⟨rfl, hb3⟩
          have hH3 := hHb.call hb3
          have lk := LB.out w3 _ hH3 2 rfl
          have c0 : w3.cell? ⟨wr.heap.size, 0, none⟩ = some (.int .u8 (a : Nat)) := hH3.cell 0 rfl rfl
          have c1 : w3.cell? ⟨wr.heap.size, 1, none⟩ = some (.int .u8 (b : Nat)) := hH3.cell 0 rfl rfl
          have cd3 := hH3.cells 5 rfl
          have ce3 := hH3.cells 4 rfl
          have g1 := hH3.cell 1 rfl (dv_b K U1 U2 hk16)
          have g2 := hH3.frozen 1 rfl (1 + k)
          have hH4 := hH3.set 1 rfl (1 + k) (.int .u8 (vB : Nat))
          rw [dv_setb _ _ _ _ hk16, SS.out.1] at hH4
          have c04 : (w3.setCell ⟨G, 1 + k, none⟩ (.int .u8 (vB : Nat))).cell? ⟨wr.heap.size, 0, none⟩ = some (.int .u8 (a : Nat)) := hH4.cell 0 rfl rfl
          have c14 : (w3.setCell ⟨G, 1 + k, none⟩ (.int .u8 (vB : Nat))).cell? ⟨wr.heap.size, 1, none⟩ = some (.int .u8 (b : Nat)) := hH4.cell 0 rfl rfl
          have cd4 : cellsOf (w3.setCell ⟨G, 1 + k, none⟩ (.int .u8 (vB : Nat))) w.heap.size = dv m f g := hH4.cells 5 rfl
          have ce4 : cellsOf (w3.setCell ⟨G, 1 + k, none⟩ (.int .u8 (vB : Nat))) (w.heap.size + 1) = dv n f' g' := hH4.cells 4 rfl
          clear hb3 hHb cd ce x1 x2
          go_wp2_with fail
          refine (C2.out g g' a b ha16 hb16 _).mono ?_
          rintro e w5 ⟨rfl, hb5⟩
          have hH5 := hH4.call hb5
          have lk5 := LW.out w5 _ hH5 2 rfl
          have g3 := hH5.cell 1 rfl (dv_w K V1 U2 hk16)
          have g4 := hH5.frozen 1 rfl (17 + k)
          clear hb5 lk c0 c1 cd3 ce3 g1 g2 c04 c14 cd4 ce4 hH4 hH3
          go_wp2
          go_roundw
          case rel =>
            refine ⟨k + 1, by omega, by go_num, ?_⟩
            rw [HW.out.1, HW.out.2, ← SS.out.2, ← dv_setw _ _ _ _ hk16]
            exact (hH5.set 1 rfl (17 + k) (.int .u8 (vW : Nat))).tail
          case measure => simp [intOf]; omega
        · obtain rfl : K = k := by omega
          rw [HK.out]
          rw [HK.out] at hH
          have cc := hH.cells 0 rfl
          have rr := hH.rowOk 2 rfl (dv_size _ _ _)
          clear hk hkl
          go_wp2
          have H2 := hH.setRow 2 rfl (dv l.length (upto (idxF l (bF f f')) l.length) (upto (idxF l (bF g g')) l.length))
          exact res_agg (p := 6) (g := w.heap.size + 1 + 1) aggD (dv_size _ _ _) rfl rfl rfl (H2.at 2 rfl) ⟨rfl, H2.low⟩
end Go.Proofs.Ytjhpkibeddnbfaa
