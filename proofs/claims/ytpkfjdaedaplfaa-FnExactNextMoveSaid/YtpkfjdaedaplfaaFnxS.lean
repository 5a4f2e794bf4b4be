/- The next move of a set, of the model; the law's walk. -/
import Derived.Test.YtpkfjdaedaplfaaFnx
namespace Go.Proofs.Ytpkfjdaedaplfaa
open Go.RowKit

theorem res_agg3 {fn : Func} {p t u : Tmp} {T U : TypeId} {n : Nat} {cs : Array Value} {v v2 : Value} {R : Ending → World → Prop} {a : Act} {w : World} {g : Nat} (hT : AggT T n) (hs : cs.size = n) (h : fn.results = #[.cell p T, .tmp t, .tmp u])
    (hp : a.tmps.getD p undef = .pointer (some ⟨g, 0, none⟩)) (hv : a.tmps.getD t undef = v) (hv2 : a.tmps.getD u undef = v2) (hd : a.defers = []) (hg : w.heap[g]? = some (.cells cs U (0, 0))) (hR : R (.returned (.tuple #[.agg cs, v, v2])) w) : bodyPost Try.prog fn R .ret a w := by
  obtain ⟨d, h1, h2⟩ := hT.und
  have hl := run_loadVar_row (P := Try.prog) w g U T cs (0, 0) d hg h1 (by cases d <;> first | rfl | simp at h2) (by rw [hs]; exact hT.siz)
  refine bodyPost_ret (v := .tuple #[.agg cs, v, v2]) ?_ hd hR
  have hp' : a.tmps[p]?.getD undef = .pointer (some ⟨g, 0, none⟩) := by simpa using hp
  have hv' : a.tmps[t]?.getD undef = v := by simpa using hv
  have hv2' : a.tmps[u]?.getD undef = v2 := by simpa using hv2
  simp [results, h, hp', hv', hv2', asAddr, hl]
theorem tm_fr {n d : Int} (h : frB n d = true) : tmB (n, d) = !((d == 0) || ((n == 0) || (n == d))) := by
  obtain ⟨_, h2, h3, h4⟩ := frB_true h
  have k1 : eqF n d 0 1 = true ↔ n = 0 := by
    rw [eqF_iff]
    constructor
    · exact fun h => h.1
    · rintro rfl
      rw [Int.gcd_zero_left] at h3
      omega
  have k2 : eqF n d 1 1 = true ↔ (n = d ∧ d ≠ 0) := by
    rw [eqF_iff]
    constructor
    · omega
    · rintro ⟨rfl, h0⟩
      rw [Int.gcd_self] at h3
      omega
  have k3 : eqF n d 1 0 = true ↔ d = 0 := by
    rw [eqF_iff]
    omega
  have : tmB (n, d) = true ↔ ¬ (d = 0 ∨ n = 0 ∨ n = d) := by
    unfold tmB
    rw [Bool.not_eq_true', Bool.or_eq_false_iff, Bool.or_eq_false_iff, ← Bool.not_eq_true, ← Bool.not_eq_true, ← Bool.not_eq_true, k1, k2, k3]
    omega
  rw [Bool.eq_iff_iff, this]
  simp
/-- of lists of fractions -/
def allF (l : List (Int × Int)) : Prop := ∀ i (hi : i < l.length), frB l[i].1 l[i].2 = true
def nmK (l : List (Int × Int)) : Int := if ix l < l.length then moK (nxF l) else 0
def nmX (l : List (Int × Int)) : Int := if ix l < l.length then moA (nxF l) else 0
def nmY (l : List (Int × Int)) : Int := if ix l < l.length then moB (nxF l) else 0
def nmO (l : List (Int × Int)) : Bool := if ix l < l.length then mvB (moK (nxF l)) (moA (nxF l)) (moB (nxF l)) else true
def nmD (l : List (Int × Int)) : Bool := !decide (ix l < l.length)
set_option maxRecDepth 100000 in
set_option maxHeartbeats 4000000 in
theorem l10Next_any (l : List (Int × Int)) (v : Value) (w : World) (h : RdF w v l) (hf : allF l) :
    Calls Try.prog 71 #[v] w fun e w' => e = .returned (.tuple #[.agg #[.int .i64 (nmK l), .int .i64 (nmX l), .int .i64 (nmY l)], .bool (nmO l), .bool (nmD l)]) ∧ Below w.heap.size w w' := by
  obtain ⟨A, c, rfl, hl⟩ := h.form
  have H := hide h; clear h
  have HF := hide hf; clear hf
  obtain ⟨rK, hrK⟩ : ∃ r, r = nmK l := ⟨_, rfl⟩
  obtain ⟨rX, hrX⟩ : ∃ r, r = nmX l := ⟨_, rfl⟩
  obtain ⟨rY, hrY⟩ : ∃ r, r = nmY l := ⟨_, rfl⟩
  obtain ⟨rO, hrO⟩ : ∃ r, r = nmO l := ⟨_, rfl⟩
  obtain ⟨rD, hrD⟩ : ∃ r, r = nmD l := ⟨_, rfl⟩
  rw [← hrK, ← hrX, ← hrY, ← hrO, ← hrD]
  have HR := hide (And.intro hrK (And.intro hrX (And.intro hrY (And.intro hrO hrD))))
  clear hrK hrX hrY hrO hrD
  have H0 := (Holds.start w).blk #[.int .i64 0, .int .i64 0, .int .i64 0] 38 w.heap.size rfl
  go_enter Try.func71, Try.ntmps71
  go_wp2
  go_loopw [5] (fun i wr => ∃ k : Nat, k ≤ l.length ∧ i = .int .i64 k ∧ Hid (∀ i (hi : i < l.length), i < k → tmB l[i] = false) ∧ Holds w wr [pBlk w.heap.size #[.int .i64 0, .int .i64 0, .int .i64 0] 38]) (fun i _ => l.length - (intOf i).toNat)
  case atStart => exact ⟨0, by omega, rfl, hide (fun i hi h => by omega), H0⟩
  case round =>
    clear H0
    obtain ⟨k, hk, rfl, hK, hH⟩ := hrel
    by_cases hlt : k < l.length
    · obtain ⟨a, rfl, k1, c1, c2⟩ := (H.out.below hH.low (Nat.le_refl _)).at hlt
      clear k1
      have hfk := HF.out k hlt
      have htm := tm_fr hfk
      obtain ⟨x1, x2, x3, x4⟩ := frB_true hfk
      have HN := hide (show tmB (l[k].1, l[k].2) = false → ∀ i (hi : i < l.length), i < k + 1 → tmB l[i] = false from fun e i hi h => by
        by_cases ce : i = k
        · subst ce; exact e
        · exact hK.out i hi (by omega))
      have HT := hide (show tmB (l[k].1, l[k].2) = true → rK = moK (l[k].1, l[k].2) ∧ rX = moA (l[k].1, l[k].2) ∧ rY = moB (l[k].1, l[k].2) ∧ rO = mvB (moK (l[k].1, l[k].2)) (moA (l[k].1, l[k].2)) (moB (l[k].1, l[k].2)) ∧ rD = false from fun e => by
        have e1 := ix_at hlt (fun i hi h => hK.out i hi h) e
        have e2 : nxF l = l[k] := by unfold nxF; rw [e1, List.getD_eq_getElem?_getD, List.getElem?_eq_getElem hlt]; rfl
        obtain ⟨h1, h2, h3, h4, h5⟩ := HR.out
        exact ⟨by rw [h1]; unfold nmK; rw [e1, if_pos hlt, e2], by rw [h2]; unfold nmX; rw [e1, if_pos hlt, e2], by rw [h3]; unfold nmY; rw [e1, if_pos hlt, e2], by rw [h4]; unfold nmO; rw [e1, if_pos hlt, e2], by rw [h5]; unfold nmD; rw [e1, decide_eq_true hlt]; rfl⟩)
      clear hK hfk x3 x4
      generalize l[k].1 = x at *
      generalize l[k].2 = y at *
      have hH2 : Holds w (wr.alloc (.cells #[.int .i64 x, .int .i64 y] 25)) [pBlk w.heap.size #[.int .i64 0, .int .i64 0, .int .i64 0] 38] := (hH.blk #[.int .i64 x, .int .i64 y] 25 wr.heap.size rfl).tail
      obtain ⟨b1, h1⟩ : ∃ b, (y == 0) = b := ⟨_, rfl⟩
      obtain ⟨b2, h2⟩ : ∃ b, (x == 0) = b := ⟨_, rfl⟩
      obtain ⟨b3, h3⟩ : ∃ b, (x == y) = b := ⟨_, rfl⟩
      rw [h1, h2, h3] at htm
      cases b1
      case true =>
        have HN' := hide (HN.out htm)
        clear HN HT htm x1 x2 h2 h3 hH
        go_wp2_with fail
        go_roundw
        case rel => exact ⟨k + 1, by omega, by go_num, HN', hH2⟩
        case measure => simp [intOf]; omega
      cases b2
      case true =>
        have HN' := hide (HN.out htm)
        clear HN HT htm x1 x2 h3 hH
        go_wp2_with fail
        go_roundw
        case rel => exact ⟨k + 1, by omega, by go_num, HN', hH2⟩
        case measure => simp [intOf]; omega
      cases b3
      case true =>
        have HN' := hide (HN.out htm)
        clear HN HT htm x1 x2 hH
        go_wp2_with fail
        go_roundw
        case rel => exact ⟨k + 1, by omega, by go_num, HN', hH2⟩
        case measure => simp [intOf]; omega
      have ht := HT.out htm
      clear HN HT htm hH2
      have hw : wrap64 (y - x) = y - x := wr64 (by omega) (by omega)
      unfold moK moA moB at ht
      dsimp only at ht
      by_cases n1 : x < 0
      · rw [if_pos n1, if_pos n1, if_pos n1] at ht
        obtain ⟨rfl, rfl, rfl, e4, rfl⟩ := ht
        obtain rfl : rO = true := e4
        have d1 := decide_eq_true n1
        clear n1 x1 x2 hw
        have H5 := (hH.blk #[.int .i64 x, .int .i64 y] 25 wr.heap.size rfl)
        have H6 := (hH.set3 0 rfl (.int .i64 (0)) (.int .i64 (0)) (.int .i64 (0))).blk #[.int .i64 x, .int .i64 y] 25 wr.heap.size (by simp)
        have lX := hH.lt 0 rfl
        have z0 := hH.cell 0 rfl (j := 0) (v := .int .i64 0) rfl
        have z1 := hH.cell 0 rfl (j := 1) (v := .int .i64 0) rfl
        have z2 := hH.cell 0 rfl (j := 2) (v := .int .i64 0) rfl
        have f0 := hH.frozen 0 rfl 0
        have f1 := hH.frozen 0 rfl 1
        have f2 := hH.frozen 0 rfl 2
        clear hH H5
        go_wp2_with fail
        exact res_agg3 (p := 2) (t := 3) (u := 4) (g := w.heap.size) (v := .bool true) (v2 := .bool false) aggMv (by rfl) rfl rfl rfl rfl rfl (H6.at 1 rfl) ⟨rfl, H6.low⟩
      · rw [if_neg n1, if_neg n1, if_neg n1] at ht
        have d1 := decide_eq_false n1
        by_cases n2 : y < x
        · rw [if_pos n2, if_pos n2, if_pos n2] at ht
          obtain ⟨rfl, rfl, rfl, e4, rfl⟩ := ht
          obtain rfl : rO = true := e4
          have d2 := decide_eq_true n2
          clear n1 n2 x1 x2 hw
          have H5 := (hH.blk #[.int .i64 x, .int .i64 y] 25 wr.heap.size rfl)
          have H6 := (hH.set3 0 rfl (.int .i64 (1)) (.int .i64 (0)) (.int .i64 (0))).blk #[.int .i64 x, .int .i64 y] 25 wr.heap.size (by simp)
          have lX := hH.lt 0 rfl
          have z0 := hH.cell 0 rfl (j := 0) (v := .int .i64 0) rfl
          have z1 := hH.cell 0 rfl (j := 1) (v := .int .i64 0) rfl
          have z2 := hH.cell 0 rfl (j := 2) (v := .int .i64 0) rfl
          have f0 := hH.frozen 0 rfl 0
          have f1 := hH.frozen 0 rfl 1
          have f2 := hH.frozen 0 rfl 2
          clear hH H5
          go_wp2_with fail
          exact res_agg3 (p := 2) (t := 3) (u := 4) (g := w.heap.size) (v := .bool true) (v2 := .bool false) aggMv (by rfl) rfl rfl rfl rfl rfl (H6.at 1 rfl) ⟨rfl, H6.low⟩
        · rw [if_neg n2, if_neg n2, if_neg n2] at ht
          have d2 := decide_eq_false n2
          obtain ⟨rfl, rfl, e3, e4, rfl⟩ := ht
          rw [← e3] at e4
          have CM := hide fun w => l10Move_any 2 rX rY w
          rw [← e4] at CM
          clear n1 n2 x1 x2 e4
          have hw2 : wrap64 (y - rX) = rY := hw.trans e3.symm
          clear e3 hw
          have H2 := (hH.blk #[.int .i64 rX, .int .i64 y] 25 wr.heap.size rfl).blk #[.int .i64 2, .int .i64 rX, .int .i64 rY] 38 (wr.heap.size + 1) (by simp)
          clear hH
          go_wp2_with fail
          generalize ((wr.alloc (.cells #[.int .i64 rX, .int .i64 y] 25)).alloc (.cells #[.int .i64 2, .int .i64 rX, .int .i64 rY] 38)) = W at *
          refine region_tail (fun wx => Holds w wx (pBlk (wr.heap.size + 1) #[.int .i64 2, .int .i64 rX, .int .i64 rY] 38 :: [pBlk wr.heap.size #[.int .i64 rX, .int .i64 y] 25, pBlk w.heap.size #[.int .i64 0, .int .i64 0, .int .i64 0] 38])) 3 (by kernel_rfl) (by kernel_rfl) H2.drew ?_
          simp only [List.take_succ_cons, List.take_zero, List.drop_succ_cons, List.drop_zero]
          apply q_step
          · go_simp
          · intro wx hx
            have c0 := hx.cell 0 rfl (j := 0) (v := .int .i64 2) rfl
            have c1 := hx.cell 0 rfl (j := 1) (v := .int .i64 rX) rfl
            have c2 := hx.cell 0 rfl (j := 2) (v := .int .i64 rY) rfl
            go_simp
            exact rfl
          apply q_step
          · go_simp
          · intro wx hx
            have c0 := hx.cell 0 rfl (j := 0) (v := .int .i64 2) rfl
            have c1 := hx.cell 0 rfl (j := 1) (v := .int .i64 rX) rfl
            have c2 := hx.cell 0 rfl (j := 2) (v := .int .i64 rY) rfl
            go_simp
            exact rfl
          apply q_step
          · go_simp
          · intro wx hx
            go_simp
            go_at_call 63
            exact Calls.mono (CM.out wx) fun e w' h => ⟨h.1, hx.call h.2⟩
          refine wpQuiet_nil ?_
          intro w2 hx
          have z0 := hx.cell 2 rfl (j := 0) (v := .int .i64 0) rfl
          have z1 := hx.cell 2 rfl (j := 1) (v := .int .i64 0) rfl
          have z2 := hx.cell 2 rfl (j := 2) (v := .int .i64 0) rfl
          have f0 := hx.frozen 2 rfl 0
          have f1 := hx.frozen 2 rfl 1
          have f2 := hx.frozen 2 rfl 2
          have lX := hx.lt 2 rfl
          have H6 := hx.set3 2 rfl (.int .i64 2) (.int .i64 rX) (.int .i64 rY)
          clear hx H2 CM
          go_wp2
          exact res_agg3 (p := 2) (t := 3) (u := 4) (g := w.heap.size) (v := .bool rO) (v2 := .bool false) aggMv (by rfl) rfl rfl rfl rfl rfl (H6.at 2 rfl) ⟨rfl, H6.low⟩
    · obtain rfl : k = l.length := by omega
      have hx := ix_end (fun i hi => hK.out i hi hi)
      obtain ⟨h1, h2, h3, h4, h5⟩ := HR.out
      obtain rfl : rK = 0 := by rw [h1]; unfold nmK; rw [if_neg (by omega)]
      obtain rfl : rX = 0 := by rw [h2]; unfold nmX; rw [if_neg (by omega)]
      obtain rfl : rY = 0 := by rw [h3]; unfold nmY; rw [if_neg (by omega)]
      obtain rfl : rO = true := by rw [h4]; unfold nmO; rw [if_neg (by omega)]
      obtain rfl : rD = true := by rw [h5]; unfold nmD; rw [decide_eq_false (by omega)]; rfl
      clear HR h1 h2 h3 h4 h5 hx hlt hk hK HF
      have H6 := hH.set3 0 rfl (.int .i64 0) (.int .i64 0) (.int .i64 0)
      have lX := hH.lt 0 rfl
      have z0 := hH.cell 0 rfl (j := 0) (v := .int .i64 0) rfl
      have z1 := hH.cell 0 rfl (j := 1) (v := .int .i64 0) rfl
      have z2 := hH.cell 0 rfl (j := 2) (v := .int .i64 0) rfl
      have f0 := hH.frozen 0 rfl 0
      have f1 := hH.frozen 0 rfl 1
      have f2 := hH.frozen 0 rfl 2
      clear hH
      go_wp2_with fail
      exact res_agg3 (p := 2) (t := 3) (u := 4) (g := w.heap.size) (v := .bool true) (v2 := .bool true) aggMv (by rfl) rfl rfl rfl rfl rfl (H6.at 0 rfl) ⟨rfl, H6.low⟩
theorem nx_nm {l : List (Int × Int)} (h : stB l = true) : nxC l = (if nmD l = true then 5 else if nmO l = true then 0 else 3) := by
  unfold nxC nmD nmO
  rw [if_pos h]
  by_cases c : ix l < l.length
  · rw [if_pos c, decide_eq_true c, if_pos c]; rfl
  · rw [if_neg c, decide_eq_false c]; rfl
set_option maxRecDepth 100000 in
set_option maxHeartbeats 4000000 in
theorem sNextMove_any (l : List (Int × Int)) (v : Value) (w : World) (h : RdF w v l) :
    Calls Try.prog 37 #[v] w fun e w' => e = .returned (.tuple #[.agg #[.int .i64 (nxK l), .int .i64 (nxX l), .int .i64 (nxY l)], .int .i64 (nxC l)]) ∧ Below w.heap.size w w' := by
  have H0 := (Holds.start w).blk #[.int .i64 0, .int .i64 0, .int .i64 0] 38 w.heap.size rfl
  have H := hide (h.below H0.low (Nat.le_refl _))
  have CS := hide fun w h => l10Set_any l v w h
  clear h
  rcases hs : stB l with _ | _
  · have hC : nxC l = 1 := by unfold nxC; rw [if_neg (by rw [hs]; decide)]
    have e1 : nxK l = 0 := by unfold nxK; rw [if_neg (by rw [hC]; decide)]
    have e2 : nxX l = 0 := by unfold nxX; rw [if_neg (by rw [hC]; decide)]
    have e3 : nxY l = 0 := by unfold nxY; rw [if_neg (by rw [hC]; decide)]
    rw [hC, e1, e2, e3]
    rw [hs] at CS
    clear hC e1 e2 e3 hs
    go_enter Try.func37, Try.ntmps37
    go_wp2_with fail
    refine (CS.out _ H.out).mono ?_
    rintro e w1 ⟨rfl, hb⟩
    have H1 := H0.call hb
    clear hb CS
    have c0 := H1.cell 0 rfl (j := 0) (v := .int .i64 0) rfl
    have c1 := H1.cell 0 rfl (j := 1) (v := .int .i64 0) rfl
    have c2 := H1.cell 0 rfl (j := 2) (v := .int .i64 0) rfl
    have f0 := H1.frozen 0 rfl 0
    have f1 := H1.frozen 0 rfl 1
    have f2 := H1.frozen 0 rfl 2
    have lX := H1.lt 0 rfl
    have H2 := H1.set3 0 rfl (.int .i64 0) (.int .i64 0) (.int .i64 0)
    clear H1
    go_wp2_with fail
    exact res_agg2 (p := 2) (t := 3) (g := w.heap.size) (v := .int .i64 1) aggMv (by rfl) rfl rfl rfl rfl (H2.at 0 rfl) ⟨rfl, H2.low⟩
  have CN := hide fun w h => l10Next_any l v w h (fun i hi => stB_fr hs hi)
  have hC := nx_nm hs
  have hK : nxC l = 0 → nxK l = nmK l ∧ nxX l = nmX l ∧ nxY l = nmY l := by
    intro h0
    have hi : ix l < l.length := by
      rcases Nat.lt_or_ge (ix l) l.length with c | c
      · exact c
      · exfalso
        unfold nxC at h0
        rw [if_pos hs, if_neg (by omega)] at h0
        cases h0
    unfold nxK nxX nxY nmK nmX nmY
    rw [if_pos h0, if_pos h0, if_pos h0, if_pos hi, if_pos hi, if_pos hi]
    exact ⟨rfl, rfl, rfl⟩
  rw [hs] at CS
  generalize nmK l = p at *
  generalize nmX l = q at *
  generalize nmY l = r at *
  rcases hd : nmD l with _ | _
  · rcases ho : nmO l with _ | _
    · rw [hd, ho, if_neg (by decide), if_neg (by decide)] at hC
      rw [hd, ho] at CN
      have e1 : nxK l = 0 := by unfold nxK; rw [if_neg (by rw [hC]; decide)]
      have e2 : nxX l = 0 := by unfold nxX; rw [if_neg (by rw [hC]; decide)]
      have e3 : nxY l = 0 := by unfold nxY; rw [if_neg (by rw [hC]; decide)]
      rw [hC, e1, e2, e3]
      clear hC e1 e2 e3 hs hd ho hK
      go_enter Try.func37, Try.ntmps37
      go_wp2_with fail
      refine (CS.out _ H.out).mono ?_
      rintro e w1 ⟨rfl, hb⟩
      have H1 := H0.call hb
      have b1 := hb
      clear hb CS H0
      go_wp2_with fail
      refine (CN.out _ (H.out.below b1 (Nat.le_refl _))).mono ?_
      rintro e w2 ⟨rfl, hb⟩
      have H2 := H1.call hb
      clear hb CN H1 b1 H
      have c0 := H2.cell 0 rfl (j := 0) (v := .int .i64 0) rfl
      have c1 := H2.cell 0 rfl (j := 1) (v := .int .i64 0) rfl
      have c2 := H2.cell 0 rfl (j := 2) (v := .int .i64 0) rfl
      have f0 := H2.frozen 0 rfl 0
      have f1 := H2.frozen 0 rfl 1
      have f2 := H2.frozen 0 rfl 2
      have lX := H2.lt 0 rfl
      have H5 := (H2.set3 0 rfl (.int .i64 0) (.int .i64 0) (.int .i64 0)).blk #[.int .i64 p, .int .i64 q, .int .i64 r] 38 w2.heap.size (by simp)
      clear H2
      go_wp2_with fail
      exact res_agg2 (p := 2) (t := 3) (g := w.heap.size) (v := .int .i64 3) aggMv (by rfl) rfl rfl rfl rfl (H5.at 1 rfl) ⟨rfl, H5.low⟩
    · rw [hd, ho, if_neg (by decide), if_pos rfl] at hC
      rw [hd, ho] at CN
      obtain ⟨e1, e2, e3⟩ := hK hC
      rw [hC, e1, e2, e3]
      clear hC e1 e2 e3 hs hd ho hK
      go_enter Try.func37, Try.ntmps37
      go_wp2_with fail
      refine (CS.out _ H.out).mono ?_
      rintro e w1 ⟨rfl, hb⟩
      have H1 := H0.call hb
      have b1 := hb
      clear hb CS H0
      go_wp2_with fail
      refine (CN.out _ (H.out.below b1 (Nat.le_refl _))).mono ?_
      rintro e w2 ⟨rfl, hb⟩
      have H2 := H1.call hb
      clear hb CN H1 b1 H
      have c0 := H2.cell 0 rfl (j := 0) (v := .int .i64 0) rfl
      have c1 := H2.cell 0 rfl (j := 1) (v := .int .i64 0) rfl
      have c2 := H2.cell 0 rfl (j := 2) (v := .int .i64 0) rfl
      have f0 := H2.frozen 0 rfl 0
      have f1 := H2.frozen 0 rfl 1
      have f2 := H2.frozen 0 rfl 2
      have lX := H2.lt 0 rfl
      have H5 := (H2.set3 0 rfl (.int .i64 p) (.int .i64 q) (.int .i64 r)).blk #[.int .i64 p, .int .i64 q, .int .i64 r] 38 w2.heap.size (by simp)
      clear H2
      go_wp2_with fail
      exact res_agg2 (p := 2) (t := 3) (g := w.heap.size) (v := .int .i64 0) aggMv (by rfl) rfl rfl rfl rfl (H5.at 1 rfl) ⟨rfl, H5.low⟩
  · rw [hd, if_pos rfl] at hC
    rw [hd] at CN
    have e1 : nxK l = 0 := by unfold nxK; rw [if_neg (by rw [hC]; decide)]
    have e2 : nxX l = 0 := by unfold nxX; rw [if_neg (by rw [hC]; decide)]
    have e3 : nxY l = 0 := by unfold nxY; rw [if_neg (by rw [hC]; decide)]
    rw [hC, e1, e2, e3]
    clear hC e1 e2 e3 hs hd hK
    generalize nmO l = o at *
    go_enter Try.func37, Try.ntmps37
    go_wp2_with fail
    refine (CS.out _ H.out).mono ?_
    rintro e w1 ⟨rfl, hb⟩
    have H1 := H0.call hb
    have b1 := hb
    clear hb CS H0
    go_wp2_with fail
    refine (CN.out _ (H.out.below b1 (Nat.le_refl _))).mono ?_
    rintro e w2 ⟨rfl, hb⟩
    have H2 := H1.call hb
    clear hb CN H1 b1 H
    have c0 := H2.cell 0 rfl (j := 0) (v := .int .i64 0) rfl
    have c1 := H2.cell 0 rfl (j := 1) (v := .int .i64 0) rfl
    have c2 := H2.cell 0 rfl (j := 2) (v := .int .i64 0) rfl
    have f0 := H2.frozen 0 rfl 0
    have f1 := H2.frozen 0 rfl 1
    have f2 := H2.frozen 0 rfl 2
    have lX := H2.lt 0 rfl
    have H5 := (H2.set3 0 rfl (.int .i64 0) (.int .i64 0) (.int .i64 0)).blk #[.int .i64 p, .int .i64 q, .int .i64 r] 38 w2.heap.size (by simp)
    clear H2
    go_wp2_with fail
    exact res_agg2 (p := 2) (t := 3) (g := w.heap.size) (v := .int .i64 5) aggMv (by rfl) rfl rfl rfl rfl (H5.at 1 rfl) ⟨rfl, H5.low⟩
end Go.Proofs.Ytpkfjdaedaplfaa
