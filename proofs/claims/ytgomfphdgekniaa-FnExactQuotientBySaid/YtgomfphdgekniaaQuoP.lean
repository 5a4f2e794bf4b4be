/- slices.Clone; impl.QuotientBy -/
import Derived.Test.YtgomfphdgekniaaQuoM
import Derived.Test.YtgomfphdgekniaaRegD
import Derived.Test.YtgomfphdgekniaaAppH
import Derived.Test.YtgomfphdgekniaaIsDes
namespace Go.Proofs.Ytgomfphdgekniaa
open Go.RowKit

/-- three results: a whole value out of its cell, two slots -/
theorem res_agg3 {fn : Func} {p t s : Tmp} {T U : TypeId} {n : Nat} {cs : Array Value} {v u : Value} {R : Ending → World → Prop} {a : Act} {w : World} {g : Nat} (hT : AggT T n) (hs : cs.size = n) (h : fn.results = #[.cell p T, .tmp t, .tmp s])
    (hp : a.tmps.getD p undef = .pointer (some ⟨g, 0, none⟩)) (hv : a.tmps.getD t undef = v) (hu : a.tmps.getD s undef = u) (hd : a.defers = []) (hg : w.heap[g]? = some (.cells cs U (0, 0))) (hR : R (.returned (.tuple #[.agg cs, v, u])) w) : bodyPost Try.prog fn R .ret a w := by
  obtain ⟨d, h1, h2⟩ := hT.und
  have hl := run_loadVar_row (P := Try.prog) w g U T cs (0, 0) d hg h1 (by cases d <;> first | rfl | simp at h2) (by rw [hs]; exact hT.siz)
  refine bodyPost_ret (v := .tuple #[.agg cs, v, u]) ?_ hd hR
  have hp' : a.tmps[p]?.getD undef = .pointer (some ⟨g, 0, none⟩) := by simpa using hp
  have hv' : a.tmps[t]?.getD undef = v := by simpa using hv
  have hu' : a.tmps[s]?.getD undef = u := by simpa using hu
  simp [results, h, hp', hv', hu', asAddr, hl]

set_option maxRecDepth 100000 in
set_option maxHeartbeats 1000000 in
theorem clone_any (g n c : Nat) (ns : List Nat) (hn : ns.length = n) (hb : n ≤ 1000000) (w : World) (hc : ∀ (j : Nat) (u : Value), (nums ns)[j]? = some u → w.cell? ⟨g, j, none⟩ = some u) :
    Calls Try.prog 60 #[.slice (some ⟨g, 0, none⟩) n c] w fun e w' => ∃ v, e = .returned v ∧ Below w.heap.size w w' ∧ Own1 w.heap.size w' v ns := by
  have hc2 : ∀ (j : Nat) (u : Value), (nums ns)[j]? = some u → (w.alloc (.cells #[] 2)).cell? ((⟨g, 0, none⟩ : Addr).add j) = some u := fun j u h => by
    have e : ((⟨g, 0, none⟩ : Addr).add j) = ⟨g, j, none⟩ := by simp [Addr.add]; exact Eq.symm
    rw [e]
    have h1 := hc j u h
    have hlt : g < w.heap.size := by
      rcases Nat.lt_or_ge g w.heap.size with d | d
      · exact d
      · unfold World.cell? at h1
        rw [show w.heap[(⟨g, j, none⟩ : Addr).block]? = none from Array.getElem?_eq_none d] at h1
        simp at h1
    rw [cell_of_cells] at h1 ⊢
    rw [cellsOf_past hlt]
    exact h1
  have HC := hide hc2; clear hc hc2
  have H1 := (Holds.start w).rowNew #[] 2 1 0 w.heap.size rfl rfl (by unfold maxLen; omega)
  obtain ⟨i0, hi, hz0, hz1, hz2⟩ := info_parts info64
  have I0 := hide (And.intro hi (And.intro hz0 (And.intro hz1 hz2))); clear hi hz0 hz1 hz2
  go_enter Try.func60, Try.ntmps60
  have qe : ∀ (w : World), (binOp .eql 35 (.slice (some ⟨g, 0, none⟩) n c) (.slice none 0 0)).run Try.prog w = .ok (.bool false) w := fun w => Lib.run_eql_slice_nil w _ _ (some ⟨g, 0, none⟩) n c 0 0 Try.underlying35
  go_wp2_with (at_builtin; refine appH (P := Try.prog) rfl _ _ 35 rfl 2 i0 (.int .i64 0) 1 8 Try.underlying35 I0.out.1 I0.out.2.1 I0.out.2.2.1 I0.out.2.2.2 rfl (by decide) _ _ _ rfl H1 0 rfl ⟨g, 0, none⟩ n c (nums ns) rfl (by rw [nums_length]; omega) HC.out nums_one (by unfold maxLen; omega) (by omega) ?_)
  intro v' w' H2
  go_wp2
  go_ret
  have h3 := H2.row 0 rfl
  refine ⟨v', rfl, H2.low, ?_⟩
  unfold Own1
  rw [hn]
  simpa using h3

set_option maxRecDepth 100000 in
set_option maxHeartbeats 2000000 in
theorem quotientBy_any (n : Int) (f g : Nat → Nat) (hf : ∀ i, f i < 256) (hg : ∀ i, g i < 256) (p : Nat → Nat) (hp : ∀ i, p i < 256) (w : World) :
    Calls Try.prog 23 #[.agg (dv n f g), .agg (av p)] w fun e w' => ∃ v, e = .returned (.tuple #[.agg (quoA n f g p), v, .int .i64 (quoOk n f g p : Nat)]) ∧ Below w.heap.size w w' ∧ Own1 w.heap.size w' v (quoL n f g p) := by
  have C1 := hide fun w => isDessin_any n f g hf hg w
  have C2 := hide fun w => isPerm_any p hp n w
  clear hf hg hp
  rcases h1 : desB n f g with _ | _
  · rw [h1] at C1
    have ha : quoOk n f g p = 1 := by unfold quoOk; rw [if_neg (by simp [h1])]
    have hb1 : quoA n f g p = dv 0 (fun _ => 0) (fun _ => 0) := by unfold quoA; rw [if_neg (by omega)]
    have hb2 : quoL n f g p = [] := by unfold quoL; rw [if_neg (by omega)]
    rw [ha, hb1, hb2]
    clear h1 ha hb1 hb2
    have HH0 := ((((Holds.start w).blk (dv n f g) 30 w.heap.size rfl).blk (av p) 28 (w.heap.size + 1) (by simp)).blk (dv 0 (fun _ => 0) (fun _ => 0)) 30 (w.heap.size + 1 + 1) (by simp))
    have hn := dv_n n f g
    go_enter Try.func23, Try.ntmps23
    go_wp2_with fail
    try rw [← dv_zero]
    refine (C1.out _).mono ?_
    rintro e w1 ⟨rfl, hb⟩
    have HH1 := HH0.call hb
    clear hb HH0
    have r1 := HH1.rowOk 0 rfl (dv_size _ _ _)
    have H2 := HH1.setRow 0 rfl (dv 0 (fun _ => 0) (fun _ => 0))
    go_wp2
    exact res_agg3 (p := 4) (t := 5) (s := 6) (g := (w.heap.size + 1 + 1)) (v := .slice none 0 0) (u := .int .i64 1) aggD (dv_size _ _ _) rfl rfl rfl rfl rfl (H2.at 0 rfl) ⟨_, rfl, H2.low, Own1.nil _ _⟩

  rw [h1] at C1
  rcases h2 : permB p n with _ | _
  · rw [h2] at C2
    have ha : quoOk n f g p = 1 := by unfold quoOk; rw [if_neg (by simp [h2])]
    have hb1 : quoA n f g p = dv 0 (fun _ => 0) (fun _ => 0) := by unfold quoA; rw [if_neg (by omega)]
    have hb2 : quoL n f g p = [] := by unfold quoL; rw [if_neg (by omega)]
    rw [ha, hb1, hb2]
    clear h1 h2 ha hb1 hb2
    have HH0 := ((((Holds.start w).blk (dv n f g) 30 w.heap.size rfl).blk (av p) 28 (w.heap.size + 1) (by simp)).blk (dv 0 (fun _ => 0) (fun _ => 0)) 30 (w.heap.size + 1 + 1) (by simp))
    have hn := dv_n n f g
    go_enter Try.func23, Try.ntmps23
    go_wp2_with fail
    try rw [← dv_zero]
    refine (C1.out _).mono ?_
    rintro e w1 ⟨rfl, hb⟩
    have HH1 := HH0.call hb
    clear hb HH0
    have c1 := HH1.cells 2 rfl
    have d1 := HH1.cells 1 rfl
    have r1 := HH1.rowOk 0 rfl (dv_size _ _ _)
    have n1 := HH1.cell 2 rfl hn
    go_wp2_with fail
    try rw [← dv_zero]
    refine (C2.out _).mono ?_
    rintro e w2 ⟨rfl, hb⟩
    have HH2 := HH1.call hb
    clear hb HH1
    have r2 := HH2.rowOk 0 rfl (dv_size _ _ _)
    clear c1 d1 r1 n1
    have H2 := HH2.setRow 0 rfl (dv 0 (fun _ => 0) (fun _ => 0))
    go_wp2
    exact res_agg3 (p := 4) (t := 5) (s := 6) (g := (w.heap.size + 1 + 1)) (v := .slice none 0 0) (u := .int .i64 1) aggD (dv_size _ _ _) rfl rfl rfl rfl rfl (H2.at 0 rfl) ⟨_, rfl, H2.low, Own1.nil _ _⟩

  rw [h2] at C2
  obtain ⟨m, rfl, hd⟩ := desB_true h1
  obtain ⟨m', e, hpm⟩ := permB_true h2
  obtain rfl : m = m' := by omega
  clear e
  have hm := hd.le
  have C3 := hide fun w => rename_any f g p m hd.black hd.white hpm w
  have HH0 := ((((Holds.start w).blk (dv m f g) 30 w.heap.size rfl).blk (av p) 28 (w.heap.size + 1) (by simp)).blk (dv 0 (fun _ => 0) (fun _ => 0)) 30 (w.heap.size + 1 + 1) (by simp))
  have hn := dv_n m f g
  go_enter Try.func23, Try.ntmps23
  go_wp2_with fail
  try rw [← dv_zero]
  refine (C1.out _).mono ?_
  rintro e w1 ⟨rfl, hb⟩
  have HH1 := HH0.call hb
  clear hb HH0
  have c1 := HH1.cells 2 rfl
  have d1 := HH1.cells 1 rfl
  have r1 := HH1.rowOk 0 rfl (dv_size _ _ _)
  have n1 := HH1.cell 2 rfl hn
  go_wp2_with fail
  try rw [← dv_zero]
  refine (C2.out _).mono ?_
  rintro e w2 ⟨rfl, hb⟩
  have HH2 := HH1.call hb
  clear hb HH1
  have c2 := HH2.cells 2 rfl
  have d2 := HH2.cells 1 rfl
  have r2 := HH2.rowOk 0 rfl (dv_size _ _ _)
  have n2 := HH2.cell 2 rfl hn
  clear c1 d1 r1 n1
  have ha0 : quoOk m f g p = if eqDB m (renF p f m) (renF p g m) m f g = true then 0 else 5 := by unfold quoOk; rw [if_pos ⟨h1, h2⟩, Int.toNat_natCast]
  have hpar := fun h => eqDB_parts (n := (m : Int)) (n' := (m : Int)) (F := renF p f m) (G := renF p g m) (F' := f) (G' := g) h
  have HPAR := hide hpar; clear hpar
  have HA0 := hide ha0; clear ha0 h1 h2
  go_wp2
  refine Rd.region_P (w0 := w) [pBlk (w.heap.size + 1 + 1) (dv 0 (fun _ => 0) (fun _ => 0)) 30, pBlk (w.heap.size + 1) (av p) 28, pBlk w.heap.size (dv m f g) 30] [pBlk (w.heap.size + 1 + 1) (dv 0 (fun _ => 0) (fun _ => 0)) 30, pBlk (w.heap.size + 1) (av p) 28, pBlk w.heap.size (dv m f g) 30] [] (.q 0 <| .q 1 <| .q 2 <| .q 3 <| .q 4 .fin) HH2 (.refl _) (by kernel_rfl) (by kernel_rfl) (by kernel_rfl) ?_
  iterate 2
    apply Rd.v_q
    · simp only [List.getElem?_toArray, List.getElem?_cons_zero, List.getElem?_cons_succ]; exact rfl
    · rfl
    · go_simp
    · intro wx hx
      have q1 := hx.cells 2 rfl
      have q2 := hx.cells 1 rfl
      unfold atG
      go_simp
      simp only [uponG]
      exact ⟨by trivial, rfl⟩
  iterate 1
    apply Rd.v_q
    · simp only [List.getElem?_toArray, List.getElem?_cons_zero, List.getElem?_cons_succ]; exact rfl
    · rfl
    · go_simp
    · intro wx hx
      have q1 := hx.cells 2 rfl
      have q2 := hx.cells 1 rfl
      unfold atG
      go_simp
      simp only [uponG]
      exact ⟨by trivial, C3.out wx⟩
  iterate 2
    apply Rd.v_q
    · simp only [List.getElem?_toArray, List.getElem?_cons_zero, List.getElem?_cons_succ]; exact rfl
    · rfl
    · go_simp
    · intro wx hx
      have q1 := hx.cells 2 rfl
      have q2 := hx.cells 1 rfl
      unfold atG
      go_simp
      simp only [uponG]
      exact ⟨by trivial, rfl⟩
  rintro w3 - HH3
  clear HH2 c2 d2 r2 n2
  rcases hq : eqDB m (renF p f m) (renF p g m) m f g with _ | _
  · have ha : quoOk m f g p = 5 := by rw [HA0.out, if_neg (by simp [hq])]
    have hb1 : quoA m f g p = dv 0 (fun _ => 0) (fun _ => 0) := by unfold quoA; rw [if_neg (by omega)]
    have hb2 : quoL m f g p = [] := by unfold quoL; rw [if_neg (by omega)]
    have HANS := hide (And.intro ha (And.intro hb1 hb2)); clear ha hb1 hb2
    clear hd hpm HPAR HA0 hm
    have r3 := HH3.rowOk 0 rfl (dv_size _ _ _)
    go_simp
    have H2 := HH3.setRow 0 rfl (dv 0 (fun _ => 0) (fun _ => 0))
    go_wp2
    exact res_agg3 (p := 4) (t := 5) (s := 6) (g := (w.heap.size + 1 + 1)) (v := .slice none 0 0) (u := .int .i64 5) aggD (dv_size _ _ _) rfl rfl rfl rfl rfl (H2.at 0 rfl) ⟨_, by rw [HANS.out.1, HANS.out.2.1]; rfl, H2.low, by rw [HANS.out.2.2]; exact Own1.nil _ _⟩
  have ha : quoOk m f g p = 0 := by rw [HA0.out, if_pos hq]
  obtain ⟨e1, e2⟩ := HPAR.out hq
  have c1 := ren_comm (f := f) hpm e1
  have c2 := ren_comm (f := g) hpm e2
  have hb1 : quoA m f g p = dv (cycs p m).length (quoF p m f) (quoF p m g) := by unfold quoA; rw [if_pos ha, Int.toNat_natCast]
  have hb2 : quoL m f g p = whL p m := by unfold quoL; rw [if_pos ha, Int.toNat_natCast]
  have c4 := fun v w (hv : RdI w v (whL p m)) => project_any f g m hd.black hd.white (whL p m) (whL_length p m) (whL_lt hpm) v w hv
  rw [prj_quo hpm hd.bf.1 c1, prj_quo hpm hd.bg.1 c2, max_quo hpm, ← hb1] at c4
  rw [← hb2] at c4
  have hwl := whL_length p m
  have hnz : ∀ (j : Nat) (u : Value), (nums (whL p m))[j]? = some u → (zv (whichF p m))[j]? = some u := fun j u h => by
    have hj : j < m := by
      have := (List.getElem?_eq_some_iff.1 h).1
      rwa [nums_length, hwl] at this
    rw [zv_get _ (by omega)]
    rw [nums_at (by rw [hwl]; exact hj)] at h
    have h5 := whL_at (p := p) (m := m) hj
    rw [List.getD_eq_getElem?_getD, List.getElem?_eq_getElem (by rw [hwl]; exact hj)] at h5
    rw [← h, ← h5]; rfl
  rw [← hb2] at hnz hwl
  have C3' := hide fun w => cycleNumbers_any p m hpm w
  have C4 := hide c4; clear c4
  have HNZ := hide hnz; clear hnz hb1 hb2 e1 e2 c1 c2
  have HAA := hide ha; clear ha hq HA0 HPAR C3 hd hpm
  generalize whichF p m = h at *
  obtain ⟨Q, hQ⟩ : ∃ Q, Q = quoA m f g p := ⟨_, rfl⟩
  obtain ⟨NS, hNS⟩ : ∃ NS, NS = quoL m f g p := ⟨_, rfl⟩
  rw [← hNS] at C4 HNZ hwl
  rw [← hQ] at C4
  have HQQ := hide (And.intro hQ hNS); clear hQ hNS
  have c3 := HH3.cells 2 rfl
  have d3 := HH3.cells 1 rfl
  have n3 := HH3.cell 2 rfl hn
  go_simp
  go_wp2_with fail
  refine (C3'.out _).mono ?_
  rintro e w4 ⟨rfl, hb⟩
  have HH4 := (HH3.call hb).blk (zv h) 61 w4.heap.size rfl
  clear hb HH3 c3 d3 n3
  have n4 := HH4.cell 3 rfl hn
  have z4 := HH4.cells 0 rfl
  have C5 := hide fun w hc => clone_any w4.heap.size m 16 NS hwl (by omega) w hc
  have hm16 : (m : Int) ≤ 16 := by omega
  go_wp2_with fail
  try rw [← zv_zero]
  refine (C5.out _ (fun j u hj => by rw [cell_of_cells, z4]; exact HNZ.out j u hj)).mono ?_
  rintro e w5 ⟨v, rfl, hb, ho⟩
  have HH5 := HH4.newRow hb ho
  clear hb ho HH4 n4 z4
  have c5 := HH5.cells 4 rfl
  have hrd : RdI w5 v NS := row_low (HH5.row 0 rfl) (Nat.zero_le _)
  have HRD := hide hrd; clear hrd
  go_wp2_with fail
  refine (C4.out _ _ HRD.out).mono ?_
  rintro e w6 ⟨rfl, hb⟩
  have HH6 := HH5.call hb
  have r6 := HH6.rowOk 2 rfl (dv_size _ _ _)
  clear hb HH5 c5
  have hQs : Q.size = 33 ∧ Q.all (·.oneCell') = true := by
    rw [HQQ.out.1]
    unfold quoA
    split
    · exact ⟨dv_size _ _ _, dv_cells _ _ _⟩
    · exact ⟨dv_size _ _ _, dv_cells _ _ _⟩
  have i33 : Is33 Q := hQs.1
  have ones : Ones Q := hQs.2
  have HQS := hide hQs; clear hQs
  have H7 := HH6.setRow 2 rfl Q
  go_wp2
  exact res_agg3 (p := 4) (t := 5) (s := 6) (g := (w.heap.size + 1 + 1)) (v := v) (u := .int .i64 0) aggD HQS.out.1 rfl rfl rfl rfl rfl (H7.at 2 rfl) ⟨v, by rw [HAA.out, ← HQQ.out.1]; rfl, H7.low, by rw [← HQQ.out.2]; exact H7.row 0 rfl⟩
end Go.Proofs.Ytgomfphdgekniaa
