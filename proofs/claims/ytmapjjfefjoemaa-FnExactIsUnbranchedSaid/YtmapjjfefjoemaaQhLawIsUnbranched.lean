/- Texts put together: Smv, PlR, Smo, Unb, UnbS, EqDs, LUnb -/
import Derived.Test.YtmapjjfefjoemaaQgLawIsUnbranched
import Derived.Test.YtmapjjfefjoemaaChecked
import Derived.WalkKit
import Derived.WalkSpells
import Derived.WalkLawsBesides
import Derived.Deep.LoopGhost
import Derived.Deep.OwnRows
import Derived.Laws.Rows
import Derived.Laws.Tables
import Derived.Laws.CopyOwn
import Derived.ProofKit
import Derived.OpenShut
import Derived.ShutString
import Derived.ChangeOld
import Derived.Below
import Derived.Laws.OwnMore
import Derived.BigQuiet
import Derived.Deep.QuietTactic
import Derived.OwnWalk
import Derived.ChangeSlices
import Derived.RegionTactic
import Derived.Deep.Quiet
import Derived.StillTail
import Derived.Deep.Slices
import Derived.WideShapes
import Derived.Laws.CopyRow
import Derived.Deep.MidRow
import Derived.Deep.RegionWith
import Derived.ChangeKeysEq
import Derived.StillTailTactics
import Derived.Deep.RegionHeld3
import Derived.DataElems
import Derived.Laws.Cover3
import Derived.IntWalk
import Derived.Laws.StructEq
namespace Go.Proofs.Ytmapjjfefjoemaa
open Go.RowKit

/-- one of three -/
def pk3 {α : Type _} (a b c : α) (k : Nat) : α := if k = 0 then a else if k = 1 then b else c
theorem pk3_arr (u v x : Value) {k : Nat} (hk : k < 3) : (#[u, v, x] : Array Value)[k]? = some (pk3 u v x k) := by
  have : k = 0 ∨ k = 1 ∨ k = 2 := by omega
  rcases this with rfl | rfl | rfl <;> rfl
theorem agg3v : AggT 63 3 := ⟨⟨_, Try.underlying63, rfl⟩, by kernel_rfl⟩
def Is3v (c : Array Value) : Prop := c.size = 3
@[go_sem] theorem is3v_lit (a b c : Value) : Is3v #[a, b, c] ↔ True := ⟨fun _ => trivial, fun _ => rfl⟩
@[go_sem ↓] theorem exec_store3v (ρ : Operand → Value) (dst : Option Tmp) (x y : Operand) (ty : TypeId) (pos : String) (after : Array Edge) (guard : Option (Nat × Bool)) :
    execOp ρ { dst, op := .store 63 x y, type := ty, pos, after, guard } = storeT 63 (ρ x) (ρ y) := rfl
@[go_sem] theorem run_store3v {w : World} {g : Nat} {cs : Array Value} (h : rowOk w g 3) (hs : Is3v cs) (hc : Ones cs) : (storeT 63 (.pointer (some ⟨g, 0, none⟩)) (.agg cs)).run Try.prog w = .ok .skip (w.setRow g cs) := run_storeT agg3v h hs hc
@[go_sem] theorem ones_3v (A1 A2 A3 : Option Addr) (n1 c1 n2 c2 n3 c3 : Nat) : Ones #[.slice A1 n1 c1, .slice A2 n2 c2, .slice A3 n3 c3] ↔ True := ⟨fun _ => trivial, fun _ => by unfold Ones; simp [Value.oneCell']⟩
def build3v (ps : Array (Nat × Value)) : Sem Next := do pure (.value (← Instr.build 63 ps))
@[go_sem ↓] theorem exec_build3v (ρ : Operand → Value) (dst : Option Tmp) (parts : Array (Nat × Operand)) (ty : TypeId) (pos : String) (after : Array Edge) (guard : Option (Nat × Bool)) :
    execOp ρ { dst, op := .build 63 parts, type := ty, pos, after, guard } = build3v (parts.map fun (i, x) => (i, ρ x)) := rfl
@[go_sem] theorem run_build3v (A1 A2 A3 : Option Addr) (n1 c1 n2 c2 n3 c3 : Nat) (w : World) : (build3v #[(0, .slice A1 n1 c1), (1, .slice A2 n2 c2), (2, .slice A3 n3 c3)]).run Try.prog w = .ok (.value (.agg #[.slice A1 n1 c1, .slice A2 n2 c2, .slice A3 n3 c3])) w := by
  have h := built_arr (P := Try.prog) (T := 63) (E := 25) (n := 3) (s := 1) (N := 3) Try.underlying63 (by kernel_rfl) (by kernel_rfl) [(0, .slice A1 n1 c1), (1, .slice A2 n2 c2), (2, .slice A3 n3 c3)]
    (by simp [Fits, Value.cells]) (by simp [flatC, Value.cells])
  simp only [build3v, Sem.run_bind, run_build (P := Try.prog) w 63 #[(0, .slice A1 n1 c1), (1, .slice A2 n2 c2), (2, .slice A3 n3 c3)] _ h, Result.andThen_ok, Sem.run_pure]
  simp [flatC, Value.cells]
/-- one slice behind those of a list -/
theorem Rd.upon_app9 {o : Oper} {a : Act} {w0 w : World} {L : List Part} (H : Holds w0 w L) (k : Nat) {v : Value} {vs : List Value} (hk : L[k]? = some (pVals v vs)) (g : Nat) (u : Value) (hu : u.oneCell' = true) (t : TypeId) (hc : w.heap[g]? = some (.cells #[u] t (0, 0))) (hb : vs.length ≤ 100000) {C : World → Prop} {R : Value → World → Prop}
    (h : ∀ v' w', Holds w0 w' (L.set k (pVals v' (vs ++ [u]))) → C w' ∧ R v' w') (s x : Operand)
    (ho : o.op = .call { callee := .builtin .append, args := #[s, x], argTypes := #[26, 26] })
    (hs : a.eval s = v) (hx : a.eval x = .slice (some ⟨g, 0, none⟩) 1 1) : Rd.upon9 Try.prog C R w ((execOp a.eval o).run Try.prog w) := by
  obtain ⟨i0, hi, hz0, hz1, hz2⟩ := info_parts infoSl
  obtain ⟨v', w', hr, h2, _⟩ := run_appH (P := Try.prog) 26 o.type 25 i0 (.slice none 0 0) 1 24 Try.underlying26 hi hz0 hz1 hz2 rfl (by decide) v vs.length vs H k hk ⟨g, 0, none⟩ 1 1 [u] rfl (fun j y hj => by
    have : ((⟨g, 0, none⟩ : Addr).add j) = ⟨g, j, none⟩ := by simp [Addr.add]; exact Eq.symm
    rw [this, cell_of_cells, cellsOf_heap hc]
    simpa using hj) (fun x hx => by simp at hx; subst hx; exact hu) (by unfold maxLen; omega) (by omega)
  rw [Rd.upon9_eq, exec_append ho hs hx hr]
  refine h v' w' ?_
  unfold pVals at *
  rw [List.length_append]
  exact h2
/-- the sums of voltages -/
def sv9 (f g : Nat → Nat) (N : Nat) (m : Int) (a b : List Int) : List (List Int) := [ml9 a f N m, ml9 b g N m, ml9 (both9 a b f N) (faceF f g N) N m]
open Classical in
noncomputable def svL9 (n : Int) (f g : Nat → Nat) (m : Int) (a b : List Int) : List (List Int) := if desB n f g = true then (if volB n m a b = true then sv9 f g n.toNat m a b else []) else []
theorem ml9_length (l : List Int) (p : Nat → Nat) (N : Nat) (m : Int) : (ml9 l p N m).length = (cycs p N).length := by unfold ml9; rw [List.length_map]
theorem sv9_bound {f g : Nat → Nat} {N : Nat} (hd : DesN f g N) (m : Int) (a b : List Int) : (sv9 f g N m a b).length = 3 ∧ ∀ l ∈ sv9 f g N m a b, l.length ≤ 16 := by
  refine ⟨rfl, fun l hl => ?_⟩
  have h1 := cycs_le hd.black
  have h2 := cycs_le hd.white
  have h3 := cycs_le hd.face
  have hm := hd.le
  unfold sv9 at hl
  simp only [List.mem_cons, List.not_mem_nil, or_false] at hl
  rcases hl with rfl | rfl | rfl <;> rw [ml9_length] <;> omega
theorem sv_bound9 (n : Int) (f g : Nat → Nat) (m : Int) (a b : List Int) : totZ (svL9 n f g m a b) ≤ 1000000 ∧ (svL9 n f g m a b).length ≤ 1000000 := by
  unfold svL9
  split
  · rename_i h
    obtain ⟨N, rfl, hd⟩ := desB_true h
    rw [Int.toNat_natCast]
    split
    · obtain ⟨h1, h2⟩ := sv9_bound hd m a b
      refine ⟨?_, by omega⟩
      have x0 := h2 (ml9 a f N m) (by simp [sv9])
      have x1 := h2 (ml9 b g N m) (by simp [sv9])
      have x2 := h2 (ml9 (both9 a b f N) (faceF f g N) N m) (by simp [sv9])
      unfold totZ sv9
      simp; omega
    · simp [totZ]
  · simp [totZ]

set_option maxRecDepth 100000 in
set_option maxHeartbeats 2000000 in
theorem sumsOfVoltages_any (n : Int) (f g : Nat → Nat) (hf : ∀ i, f i < 256) (hg : ∀ i, g i < 256) (m : Int) (va : Value) (a : List Int) (vb : Value) (b : List Int) (w : World) (ha : RdZ w va a) (hb : RdZ w vb b) :
    Calls Try.prog 18 #[.agg (dv n f g), .int .i64 m, va, vb] w fun e w' => ∃ v, e = .returned (.tuple #[v, .int .i64 (vcd9 n f g m a b)]) ∧ Below w.heap.size w w' ∧ Own2Z w.heap.size w' v (svL9 n f g m a b) := by
  have C1 := hide fun w => isDessin_any n f g hf hg w
  clear hf hg
  have HA := hide ha
  have HB := hide hb
  have CV := hide fun w ha hb => areVoltages_any n f g m va a vb b w ha hb
  have HH0 := (Holds.start w).blk (dv n f g) 31 w.heap.size rfl
  rcases h1 : desB n f g with _ | _
  · rw [h1] at C1
    rw [show svL9 n f g m a b = [] from if_neg (by simp [h1]), show vcd9 n f g m a b = 1 from if_neg (by simp [h1])]
    clear h1 ha hb
    go_enter Try.func18, Try.ntmps18
    go_wp2_with fail
    refine (C1.out _).mono ?_
    rintro e w1 ⟨rfl, hb⟩
    have HH1 := HH0.call hb
    go_wp2
    go_ret2
    exact ⟨.slice none 0 0, rfl, HH1.low, Own2Z.nil _ _⟩
  rw [h1] at C1
  have hV : svL9 n f g m a b = if volB n m a b = true then sv9 f g n.toNat m a b else [] := if_pos h1
  have hV2 : vcd9 n f g m a b = if volB n m a b = true then 0 else 2 := if_pos h1
  rw [hV, hV2]
  clear hV hV2
  rcases h2 : volB n m a b with _ | _
  · rw [h2] at CV
    rw [if_neg (by decide), if_neg (by decide)]
    clear h1 h2 ha hb
    go_enter Try.func18, Try.ntmps18
    go_wp2_with fail
    refine (C1.out _).mono ?_
    rintro e w1 ⟨rfl, hb⟩
    have HH1 := HH0.call hb
    have cd1 := HH1.cells 0 rfl
    clear hb HH0
    go_wp2_with fail
    refine (CV.out _ (HA.out.below HH1.low (Nat.le_refl _)) (HB.out.below HH1.low (Nat.le_refl _))).mono ?_
    rintro e w2 ⟨rfl, hb⟩
    have HH2 := HH1.call hb
    go_wp2
    go_ret2
    exact ⟨.slice none 0 0, rfl, HH2.low, Own2Z.nil _ _⟩
  rw [h2] at CV
  rw [if_pos rfl, if_pos rfl]
  obtain ⟨N, rfl, hd⟩ := desB_true h1
  rw [Int.toNat_natCast]
  obtain ⟨hm, la, lb, sa, sb⟩ := volB_true h2
  clear h1 h2
  have la' : a.length = N := by omega
  have lb' : b.length = N := by omega
  have sa' : ∀ x ∈ a, 0 ≤ x ∧ x ≤ 15 := fun x hx => by have := sa x hx; omega
  have sb' : ∀ x ∈ b, 0 ≤ x ∧ x ≤ 15 := fun x hx => by have := sb x hx; omega
  have CB := hide fun w ha hb => backFaceNumbers_any f g N hd.le (fun x hx => hd.bf.1 x hx) va a vb b la' lb' sa' sb' w ha hb
  have CT := hide fun w => turnsOf_any f g N hd w
  have CS := hide fun (k : Nat) (hk : k < 3) (v : Value) w (hv : RdZ w v (pk3 a b (both9 a b f N) k)) => (by
    have : k = 0 ∨ k = 1 ∨ k = 2 := by omega
    rcases this with rfl | rfl | rfl
    · exact cycleSums_any f N hd.black m hm v a la' (fun x hx => by have := sa' x hx; omega) w hv
    · exact cycleSums_any g N hd.white m hm v b lb' (fun x hx => by have := sb' x hx; omega) w hv
    · exact cycleSums_any (faceF f g N) N hd.face m hm v (both9 a b f N) (both9_length _ _ _ _) (both9_mem sa' sb') w hv : Calls Try.prog 55 #[.agg (av (pick3 f g (faceF f g N) k)), .int .i64 m, v] w fun e w' => ∃ u, e = .returned u ∧ Holds w w' [pZ9 u ((sv9 f g N m a b).getD k [])])
  obtain ⟨hR3, hR16⟩ := sv9_bound hd m a b
  have hN := hd.le
  have hbl := both9_length a b f N
  generalize both9 a b f N = bo at *
  generalize sv9 f g N m a b = R at *
  generalize faceF f g N = F at *
  clear sa sb sa' sb' hd la lb
  obtain ⟨A1, c1, rfl, _⟩ := ha.form
  obtain ⟨A2, c2, rfl, _⟩ := hb.form
  clear ha hb
  have HR3 := hide hR3; clear hR3
  have HR16 := hide hR16; clear hR16
  have HLA := hide la'; clear la'
  have HLB := hide lb'; clear lb'
  have HBL := hide hbl; clear hbl
  go_enter Try.func18, Try.ntmps18
  go_wp2_with fail
  refine (C1.out _).mono ?_
  rintro e w1 ⟨rfl, hb⟩
  have HH1 := HH0.call hb
  have cd1 := HH1.cells 0 rfl
  clear hb HH0
  go_wp2_with fail
  refine (CV.out _ (HA.out.below HH1.low (Nat.le_refl _)) (HB.out.below HH1.low (Nat.le_refl _))).mono ?_
  rintro e w2 ⟨rfl, hb⟩
  have HH2 := HH1.call hb
  have cd2 := HH2.cells 0 rfl
  clear hb HH1 cd1
  go_wp2_with fail
  refine (CB.out _ (HA.out.below HH2.low (Nat.le_refl _)) (HB.out.below HH2.low (Nat.le_refl _))).mono ?_
  rintro e w3 ⟨u, rfl, hk⟩
  have H3 := (HH2.joinL hk).perm List.perm_append_comm
  clear hk HH2 cd2
  obtain ⟨Au, cu, rfl⟩ : ∃ A c, u = .slice A bo.length c := own_slice (H3.row 0 rfl)
  rw [HBL.out] at H3 ⊢
  have H4 := H3.blk #[.slice none 0 0, .slice none 0 0, .slice none 0 0] 63 w3.heap.size rfl
  have rr := H4.rowOk (n := 3) 0 rfl rfl
  have H5 := H3.blk #[.slice A1 a.length c1, .slice A2 b.length c2, .slice Au N cu] 63 w3.heap.size rfl
  have cd5 := H5.cells 2 rfl
  clear H3 H4
  go_wp2_with fail
  clear rr
  refine (CT.out _).mono ?_
  rintro e w4 ⟨rfl, hb⟩
  have H6 := H5.call hb
  clear hb H5 cd5
  generalize w3.heap.size = g3 at *
  have H7 : Holds w w4 (pVals (.slice none 0 0) ([] : List Value) :: pBlk g3 #[.slice A1 a.length c1, .slice A2 b.length c2, .slice Au N cu] 63 :: pZ9 (.slice Au N cu) bo :: pBlk w.heap.size (dv N f g) 31 :: rowsZ9 ([] : List Value) (R.take 0)) := H6.nilRow 25 1
  clear H6
  go_wp2
  go_loopw [11, 32] (fun q t wr => ∃ (k : Nat) (vs : List Value), k ≤ 3 ∧ t = .int .i64 k ∧ Hid (vs.length = k) ∧ Holds w wr (pVals (q) vs :: pBlk g3 #[.slice A1 a.length c1, .slice A2 b.length c2, .slice Au N cu] 63 :: pZ9 (.slice Au N cu) bo :: pBlk w.heap.size (dv N f g) 31 :: rowsZ9 vs (R.take k))) (fun _ t _ => 3 - (intOf t).toNat)
  case atStart => exact ⟨0, [], Nat.zero_le _, rfl, hide rfl, H7⟩
  case round =>
    clear H7
    obtain ⟨k, vs, hk, rfl, HVS, hH⟩ := hrel
    by_cases hlt : k < 3
    · have hki : (k : Int) < 3 := by omega
      have hkR : k < R.length := by have := HR3.out; omega
      obtain ⟨A0, c0, rfl⟩ := hH.valsForm 0 rfl
      obtain ⟨nv, hnv⟩ : ∃ nv, nv = vs.length := ⟨_, rfl⟩
      rw [← hnv] at hH ⊢
      have HNV := hide hnv; clear hnv
      have HB2 := hH.blk (av (pick3 f g F k)) 29 wr.heap.size rfl
      have hst : R.take (k + 1) = R.take k ++ [R.getD k []] := by rw [List.take_succ_eq_append_getElem hkR, List.getD_eq_getElem?_getD, List.getElem?_eq_getElem hkR]; rfl
      have HST := hide hst; clear hst
      have HBV := hide (show vs.length ≤ 100000 by have := HVS.out; omega)
      have CSK := hide fun v w hv => CS.out k hlt v w hv
      have HRD : Hid (∀ wx, Holds w wx (pBlk wr.heap.size (av (pick3 f g F k)) 29 :: pVals (.slice A0 nv c0) vs :: pBlk g3 #[.slice A1 a.length c1, .slice A2 b.length c2, .slice Au N cu] 63 :: pZ9 (.slice Au N cu) bo :: pBlk w.heap.size (dv N f g) 31 :: rowsZ9 vs (R.take k)) → RdZ wx (pk3 (.slice A1 a.length c1) (.slice A2 b.length c2) (.slice Au N cu) k) (pk3 a b bo k)) := hide fun wx hx => by
        have : k = 0 ∨ k = 1 ∨ k = 2 := by omega
        rcases this with rfl | rfl | rfl
        · exact HA.out.below hx.low (Nat.le_refl _)
        · exact HB.out.below hx.low (Nat.le_refl _)
        · exact hx.rdZ9 3 (l := bo) (by unfold pZ9; rw [HBL.out]; rfl) (by have := HBL.out; omega)
      generalize R.getD k [] = row at *
      go_wp2
      generalize wr.alloc (.cells (av (pick3 f g F k)) 29) = wa at *
      refine Rd.region_P (w0 := w) [pBlk wr.heap.size (av (pick3 f g F k)) 29, pBlk g3 #[.slice A1 a.length c1, .slice A2 b.length c2, .slice Au N cu] 63, pZ9 (.slice Au N cu) bo, pBlk w.heap.size (dv N f g) 31] (pBlk wr.heap.size (av (pick3 f g F k)) 29 :: pVals (.slice A0 nv c0) vs :: pBlk g3 #[.slice A1 a.length c1, .slice A2 b.length c2, .slice Au N cu] 63 :: pZ9 (.slice Au N cu) bo :: pBlk w.heap.size (dv N f g) 31 :: rowsZ9 vs (R.take k)) [6, 7, 8] (.q 0 <| .q 1 <| .q 2 <| .q 3 <| .q 4 <| .q 5 <| .s1 6 <| .s1 7 <| .s1 8 <| .q 9 .fin) HB2 (.cons_cons _ (.cons _ (.cons_cons _ (.cons_cons _ (.cons_cons _ (List.nil_sublist _)))))) (by kernel_rfl) (by kernel_rfl) (by kernel_rfl) ?_
      iterate 6
        apply Rd.v_q
        · simp only [List.getElem?_toArray, List.getElem?_cons_zero, List.getElem?_cons_succ]; exact rfl
        · rfl
        · go_simp
        · intro wx hx
          have q1 := hx.cells 0 rfl
          have q2 := hx.cell 1 rfl (pk3_arr (.slice A1 a.length c1) (.slice A2 b.length c2) (.slice Au N cu) hlt)
          unfold atG
          go_simp
          simp only [uponG]
          exact ⟨by trivial, rfl⟩
      refine Rd.v_s9 (fun v wx => (∃ A c, v = .slice A row.length c) ∧ Holds w wx (pZ9 v row :: pBlk wr.heap.size (av (pick3 f g F k)) 29 :: pVals (.slice A0 nv c0) vs :: pBlk g3 #[.slice A1 a.length c1, .slice A2 b.length c2, .slice Au N cu] 63 :: pZ9 (.slice Au N cu) bo :: pBlk w.heap.size (dv N f g) 31 :: rowsZ9 vs (R.take k))) (fun _ _ _ h hb => ⟨h.1, h.2.call hb⟩) (by simp only [List.getElem?_toArray, List.getElem?_cons_zero, List.getElem?_cons_succ]; exact rfl) rfl (by go_simp) (fun wx hx hD => ?_) ?_
      · go_simp
        simp only [Rd.upon9_eq, Rd.uponE]
        refine ⟨by trivial, (CSK.out _ _ (HRD.out _ hD)).mono ?_⟩
        rintro e wy ⟨u, rfl, hk⟩
        have H6 : Holds w wy (pZ9 u row :: pBlk wr.heap.size (av (pick3 f g F k)) 29 :: pVals (.slice A0 nv c0) vs :: pBlk g3 #[.slice A1 a.length c1, .slice A2 b.length c2, .slice Au N cu] 63 :: pZ9 (.slice Au N cu) bo :: pBlk w.heap.size (dv N f g) 31 :: rowsZ9 vs (R.take k)) := (hD.joinL hk).perm List.perm_append_comm
        exact ⟨_, rfl, hx.call hk.low, own_slice (H6.row 0 rfl), H6⟩
      rintro v ⟨wq, _, ⟨Av, cv, rfl⟩, hvq⟩
      have HOO := hide (valsZ_one9 0 hvq rfl)
      clear hvq
      refine Rd.v_s9 (fun v wx => ∃ g8, v = .slice (some ⟨g8, 0, none⟩) 1 1 ∧ Holds w wx (pBlk g8 #[.slice Av row.length cv] 25 :: pZ9 (.slice Av row.length cv) row :: pBlk wr.heap.size (av (pick3 f g F k)) 29 :: pVals (.slice A0 nv c0) vs :: pBlk g3 #[.slice A1 a.length c1, .slice A2 b.length c2, .slice Au N cu] 63 :: pZ9 (.slice Au N cu) bo :: pBlk w.heap.size (dv N f g) 31 :: rowsZ9 vs (R.take k))) (fun _ _ _ ⟨g8, e, h⟩ hb => ⟨g8, e, h.call hb⟩) (by simp only [List.getElem?_toArray, List.getElem?_cons_zero, List.getElem?_cons_succ]; exact rfl) rfl (by go_simp) (fun wx hx hD => ?_) ?_
      · go_simp
        simp only [Rd.upon9_eq, Rd.uponE]
        exact ⟨hx.alloc _, _, rfl, hD.2.blk _ _ _ rfl⟩
      rintro v ⟨_, _, g8, rfl, _⟩
      refine Rd.v_s9 (fun v wx => Holds w wx (pZ9 (.slice Av row.length cv) row :: pBlk wr.heap.size (av (pick3 f g F k)) 29 :: pVals (v) (vs ++ [.slice Av row.length cv]) :: pBlk g3 #[.slice A1 a.length c1, .slice A2 b.length c2, .slice Au N cu] 63 :: pZ9 (.slice Au N cu) bo :: pBlk w.heap.size (dv N f g) 31 :: rowsZ9 vs (R.take k))) (fun _ _ _ h hb => h.call hb) (by simp only [List.getElem?_toArray, List.getElem?_cons_zero, List.getElem?_cons_succ]; exact rfl) rfl (by go_simp) (fun wx hx hD => ?_) ?_
      · obtain ⟨g8', e, hD⟩ := hD
        injection e with e
        injection e with e
        injection e with e
        subst e
        refine Rd.upon_app9 hD 3 rfl g8 (.slice Av row.length cv) HOO.out 25 (hD.at 0 rfl) (by have := HBV.out; omega) (fun v' w' h2 => ?_) _ _ rfl (by go_simp) (by go_simp)
        have h3 : Holds w w' (pBlk g8 #[.slice Av row.length cv] 25 :: pZ9 (.slice Av row.length cv) row :: pBlk wr.heap.size (av (pick3 f g F k)) 29 :: pVals (v') (vs ++ [.slice Av row.length cv]) :: pBlk g3 #[.slice A1 a.length c1, .slice A2 b.length c2, .slice Au N cu] 63 :: pZ9 (.slice Au N cu) bo :: pBlk w.heap.size (dv N f g) 31 :: rowsZ9 vs (R.take k)) := h2
        exact ⟨h3.sub (.cons _ (.cons _ (.cons_cons _ (.cons _ (.cons_cons _ (.cons_cons _ (.cons_cons _ (List.nil_sublist _)))))))), h3.tail⟩
      rintro v' -
      iterate 1
        apply Rd.v_q
        · simp only [List.getElem?_toArray, List.getElem?_cons_zero, List.getElem?_cons_succ]; exact rfl
        · rfl
        · go_simp
        · intro wx hx
          unfold atG
          go_simp
          simp only [uponG]
          exact ⟨by trivial, rfl⟩
      rintro wz - hz
      have h2 : Holds w wz (pZ9 (.slice Av row.length cv) row :: ([pBlk wr.heap.size (av (pick3 f g F k)) 29, pVals v' (vs ++ [.slice Av row.length cv]), pBlk g3 #[.slice A1 a.length c1, .slice A2 b.length c2, .slice Au N cu] 63, pZ9 (.slice Au N cu) bo, pBlk w.heap.size (dv N f g) 31] ++ rowsZ9 vs (R.take k))) := hz
      have h3 := h2.rowEndZ9 (by rw [List.length_take, HVS.out]; have := HR3.out; omega)
      rw [← HST.out] at h3
      have HQ := hide h3.tail
      clear hH HB2 hz h2 h3
      go_simp
      go_wp2
      go_roundw
      case rel => exact ⟨k + 1, vs ++ [_], by omega, by go_num, hide (by rw [List.length_append, HVS.out]; rfl), HQ.out⟩
      case measure => simp [intOf]; omega
    · obtain rfl : k = 3 := by omega
      rw [show R.take 3 = R from List.take_of_length_le (by have := HR3.out; omega)] at hH
      have h2 := (hH.perm ((List.Perm.swap _ _ _).trans ((List.Perm.cons _ ((List.Perm.swap _ _ _).trans (List.Perm.cons _ (List.Perm.swap _ _ _))))))).tail.tail.tail
      have ho := h2.own2z9 (by rw [HVS.out, HR3.out])
      have HO := hide ho
      have lo := hH.low
      clear hlt hk hH h2 ho
      go_wp2
      go_ret2
      exact ⟨_, rfl, lo, vs, HO.out⟩
end Go.Proofs.Ytmapjjfefjoemaa

namespace Go.Proofs.Ytmapjjfefjoemaa
open Go.RowKit

def plB (l : List (Nat → Nat)) : List Value := l.flatMap fun p => (av p).toList
theorem av_len (p : Nat → Nat) : (av p).toList.length = 16 := by rw [Array.length_toList, av_size]
theorem plB_cons (p : Nat → Nat) (l : List (Nat → Nat)) : plB (p :: l) = (av p).toList ++ plB l := rfl
theorem plB_length (l : List (Nat → Nat)) : (plB l).length = l.length * 16 := by
  induction l with
  | nil => rfl
  | cons p l ih => rw [plB_cons, List.length_append, ih, av_len, List.length_cons, Nat.succ_mul]; omega
theorem plB_append (l l' : List (Nat → Nat)) : plB (l ++ l') = plB l ++ plB l' := by unfold plB; simp
theorem plB_one {l : List (Nat → Nat)} : ∀ u ∈ plB l, u.oneCell' = true := by
  intro u hu
  unfold plB at hu
  obtain ⟨p, _, hp⟩ := List.mem_flatMap.1 hu
  have := Array.all_eq_true_iff_forall_mem.1 (av_cells p) u (by simpa using hp)
  exact this
theorem plB_at {l : List (Nat → Nat)} {k : Nat} (hk : k < l.length) {i : Nat} (hi : i < 16) : (plB l)[k * 16 + i]? = some (.int .u8 (l[k] i : Nat)) := by
  induction l generalizing k with
  | nil => simp at hk
  | cons p l ih =>
    rw [plB_cons]
    rcases k with _ | k
    · rw [Nat.zero_mul, Nat.zero_add, List.getElem?_append_left (by rw [av_len]; exact hi), Array.getElem?_toList, av_get _ hi]; rfl
    · rw [List.getElem?_append_right (by rw [av_len]; omega), av_len, show (k + 1) * 16 + i - 16 = k * 16 + i by omega]
      exact ih (k := k) (by simpa using hk)
theorem plB_ext {l : List (Nat → Nat)} {cur : Array Value} (h : cur.toList.take (l.length * 16) = plB l) {k : Nat} (hk : k < l.length) : cur.extract (k * 16) (k * 16 + 16) = av l[k] := by
  have hlen : l.length * 16 ≤ cur.size := by
    have h1 := congrArg List.length h
    rw [plB_length, List.length_take] at h1
    have h2 : cur.toList.length = cur.size := Array.length_toList
    rw [← h2, ← h1]
    exact Nat.min_le_right _ _
  have hk16 : k * 16 + 16 ≤ l.length * 16 := by omega
  apply Array.ext_getElem?
  intro i
  rw [Array.getElem?_extract]
  by_cases c : i < 16
  · rw [if_pos (by omega), av_get _ c]
    have h1 := plB_at hk c
    rw [← h, List.getElem?_take_of_lt (by omega), Array.getElem?_toList] at h1
    exact h1
  · rw [if_neg (by omega), Array.getElem?_eq_none (by rw [av_size]; omega)]
theorem infoPlc : (Try.prog.info? 29).map (fun i => (i.zero, i.size, i.bytes)) = some (some (.agg #[.int .u8 0, .int .u8 0, .int .u8 0, .int .u8 0, .int .u8 0, .int .u8 0, .int .u8 0, .int .u8 0, .int .u8 0, .int .u8 0, .int .u8 0, .int .u8 0, .int .u8 0, .int .u8 0, .int .u8 0, .int .u8 0]), 16, 16) := by kernel_rfl
/-- a row of permutations, its part -/
def pPl (v : Value) (l : List (Nat → Nat)) : Part := pRow v 29 16 l.length (plB l)
theorem Holds.plForm {w0 w : World} {L : List Part} (h : Holds w0 w L) (i : Nat) {v : Value} {l : List (Nat → Nat)} (hi : L[i]? = some (pPl v l)) : ∃ A c, v = .slice A l.length c := own_slice (h.row i hi)
theorem row_extract {w : World} {B : Nat} {v : Value} {l : List (Nat → Nat)} (h : w.ownsRow B 29 16 v l.length (plB l)) {k : Nat} (hk : k < l.length) :
    ∃ g c, v = .slice (some ⟨g, 0, none⟩) l.length c ∧ B ≤ g ∧ g < w.heap.size ∧ (cellsOf w g).extract (k * 16) (k * 16 + 16) = av l[k] := by
  rcases h.2 with ⟨_, e⟩ | ⟨g, cap, cur, rfl, hB, hh, h1, h2, h3, h4⟩
  · omega
  · exact ⟨g, cap, rfl, hB, lt_of_some hh, by rw [cellsOf_heap hh]; exact plB_ext h4 hk⟩
theorem run_loadR {w : World} {g o : Nat} {p : Nat → Nat} (h : (cellsOf w g).extract o (o + 16) = av p) : (loadT 29 (.pointer (some ⟨g, o, none⟩))).run Try.prog w = .ok (.value (.agg (av p))) w := run_load_mid aggP h (av_size _)
theorem Holds.plAt {w0 w : World} {L : List Part} (h : Holds w0 w L) (i : Nat) {v : Value} {l : List (Nat → Nat)} (hi : L[i]? = some (pPl v l)) {k : Nat} (hk : k < l.length) :
    ∃ g c, v = .slice (some ⟨g, 0, none⟩) l.length c ∧ g < w.heap.size ∧ (loadT 29 (.pointer (some ⟨g, k * 16, none⟩))).run Try.prog w = .ok (.value (.agg (av l[k]))) w := by
  obtain ⟨g, c, h1, _, h2, h3⟩ := row_extract (h.row i hi) hk
  exact ⟨g, c, h1, h2, run_loadR h3⟩
/-- one permutation laid for an append -/
def buildSlP (n : Nat) (ps : Array (Nat × Value)) : Sem Next := do pure (.value (← Instr.buildSlice 95 n ps))
@[go_sem ↓] theorem exec_buildSlP (ρ : Operand → Value) (dst : Option Tmp) (n : Nat) (parts : Array (Nat × Operand)) (ty : TypeId) (pos : String) (after : Array Edge) (guard : Option (Nat × Bool)) :
    execOp ρ { dst, op := .buildSlice 95 n parts, type := ty, pos, after, guard } = buildSlP n (parts.map fun (i, x) => (i, ρ x)) := rfl
theorem fillP (p : Nat → Nat) (cs : Array Value) (hcs : cs.size = 16) : Instr.fill (fun i => some (i * 16, 16)) cs [(0, .agg (av p))] = some (av p) := by
  simp only [Instr.fill, Value.cells, av_size, hcs, splice_eq]
  rw [if_neg (by simp)]
  congr 1
  apply Array.ext_getElem?
  intro i
  rw [foldset, hcs, av_len, Array.getElem?_toList]
  by_cases c : i < 16
  · rw [if_pos (by omega)]; congr 1
  · rw [if_neg (by omega), Array.getElem?_eq_none (by rw [hcs]; omega), Array.getElem?_eq_none (by rw [av_size]; omega)]
@[go_sem] theorem run_bslP (p : Nat → Nat) (w : World) : (buildSlP 1 #[(0, .agg (av p))]).run Try.prog w = .ok (.value (.slice (some ⟨w.heap.size, 0, none⟩) 1 1)) (w.alloc (.cells (av p) 29)) := by
  obtain ⟨i0, hi, hz0, hz1, _⟩ := info_parts infoPlc
  have hsz : ¬ (1 * i0.size > 2 ^ 24) := by rw [hz1]; decide
  have hnz : ¬ (1 * i0.size = 0) := by rw [hz1]; decide
  have hff : ∀ cs : Array Value, cs.size = 16 → Instr.fill (fun i => some (i * i0.size, i0.size)) cs [(0, .agg (av p))] = some (av p) := fun cs h => by rw [hz1]; exact fillP p cs h
  simp only [buildSlP, Instr.buildSlice, run_underlying Try.underlying95, sizeOf, typeInfo, hi, zeroValue, hz0, Sem.run_bind, Sem.run_pure, Result.andThen_ok, run_program, hsz, hnz, if_false]
  rw [hff _ (by simp [hz1])]
  rfl
@[go_sem] theorem run_bslP0 (w : World) : (buildSlP 0 #[]).run Try.prog w = .ok (.value (.slice (some ⟨w.heap.size, 0, none⟩) 0 0)) (w.alloc (.cells #[] 29)) := by
  obtain ⟨i0, hi, hz0, hz1, _⟩ := info_parts infoPlc
  simp [buildSlP, Instr.buildSlice, run_underlying Try.underlying95, sizeOf, typeInfo, hi, Instr.fill, newRow, Array.range_zero']
/-- one permutation more -/
theorem appPl {ops : Array Oper} {rest : List Oper} {o : Oper} {a : Act} {Q : Exit → Act → World → Prop} {w0 w : World} {L : List Part} (H : Holds w0 w L) (k : Nat) {v : Value} {l : List (Nat → Nat)} (hk : L[k]? = some (pPl v l))
    (g : Nat) (p : Nat → Nat) (t : TypeId) (hc : w.heap[g]? = some (.cells (av p) t (0, 0))) (hb : l.length ≤ 100000)
    (hgd : o.guard = none) (s x : Operand)
    (ho : o.op = .call { callee := .builtin .append, args := #[s, x], argTypes := #[95, 95] })
    (hs : a.eval s = v) (hx : a.eval x = .slice (some ⟨g, 0, none⟩) 1 1)
    (h : ∀ v' w', Holds w0 w' (L.set k (pPl v' (l ++ [p]))) → wpList Try.prog ops Q rest (a.put o.dst v') w') : wpList Try.prog ops Q (o :: rest) a w := by
  obtain ⟨i0, hi, hz0, hz1, hz2⟩ := info_parts infoPlc
  refine appH (P := Try.prog) hgd s x 95 ho 29 i0 _ 16 16 Try.underlying95 hi hz0 hz1 hz2 rfl (by decide) v l.length (plB l) hs H k hk ⟨g, 0, none⟩ 1 1 (av p).toList hx
    (by rw [av_len]) (fun j u hu => ?_) (fun u hu => plB_one (l := [p]) u (by unfold plB; simpa using hu)) (by unfold maxLen; omega) (by omega) fun v' w' h1 => h v' w' ?_
  · have : ((⟨g, 0, none⟩ : Addr).add j) = ⟨g, j, none⟩ := by simp [Addr.add]; exact Eq.symm
    rw [this, cell_of_cells, cellsOf_heap hc]
    simpa using hu
  · unfold pPl at *
    have e : plB (l ++ [p]) = plB l ++ (av p).toList := by rw [plB_append]; unfold plB; simp
    rw [List.length_append, e]
    exact h1
theorem run_appPl {o : Oper} {a : Act} {w0 w : World} {L : List Part} (H : Holds w0 w L) (k : Nat) {v : Value} {l : List (Nat → Nat)} (hk : L[k]? = some (pPl v l))
    (g : Nat) (p : Nat → Nat) (t : TypeId) (hc : w.heap[g]? = some (.cells (av p) t (0, 0))) (hb : l.length ≤ 100000) (s x : Operand)
    (ho : o.op = .call { callee := .builtin .append, args := #[s, x], argTypes := #[95, 95] })
    (hs : a.eval s = v) (hx : a.eval x = .slice (some ⟨g, 0, none⟩) 1 1) :
    ∃ v' w', (execOp a.eval o).run Try.prog w = .ok (.value v') w' ∧ Holds w0 w' (L.set k (pPl v' (l ++ [p]))) := by
  obtain ⟨i0, hi, hz0, hz1, hz2⟩ := info_parts infoPlc
  obtain ⟨v', w', h1, h2, _⟩ := run_appH (P := Try.prog) (w := w) 95 o.type 29 i0 _ 16 16 Try.underlying95 hi hz0 hz1 hz2 rfl (by decide) v l.length (plB l) H k hk ⟨g, 0, none⟩ 1 1 (av p).toList
    (by rw [av_len]) (fun j u hu => by
      have : ((⟨g, 0, none⟩ : Addr).add j) = ⟨g, j, none⟩ := by simp [Addr.add]; exact Eq.symm
      rw [this, cell_of_cells, cellsOf_heap hc]
      simpa using hu) (fun u hu => plB_one (l := [p]) u (by unfold plB; simpa using hu)) (by unfold maxLen; omega) (by omega)
  refine ⟨v', w', exec_append ho hs hx h1, ?_⟩
  unfold pPl at *
  have e : plB (l ++ [p]) = plB l ++ (av p).toList := by rw [plB_append]; unfold plB; simp
  rw [List.length_append, e]
  exact h2
end Go.Proofs.Ytmapjjfefjoemaa

namespace Go.Proofs.Ytmapjjfefjoemaa
open Go.RowKit

theorem tv_flat9 (f g h : Nat → Nat) : (flatC [(0, .agg (av f)), (1, .agg (av g)), (2, .agg (av h))]).toArray = tv f g h := by
  have h1 := built_arr (P := Try.prog) (T := 64) (E := 29) (n := 3) (s := 16) (N := 48) Try.underlying64 (by kernel_rfl) infoP [(0, .agg (av f)), (1, .agg (av g)), (2, .agg (av h))]
    (by simp [Fits, Value.cells, av_size]) (by simp [flatC, Value.cells, av_size])
  rw [builtT] at h1
  exact (Option.some.inj h1).symm
theorem run_bslP3 (f g h : Nat → Nat) (w : World) : (buildSlP 3 #[(0, .agg (av f)), (1, .agg (av g)), (2, .agg (av h))]).run Try.prog w = .ok (.value (.slice (some ⟨w.heap.size, 0, none⟩) 3 3)) (w.alloc (.cells (tv f g h) 29)) := by
  have h1 := run_buildSl (P := Try.prog) (T := 95) (E := 29) (s := 16) (n := 3) Try.underlying95 (by kernel_rfl) infoP #[(0, .agg (av f)), (1, .agg (av g)), (2, .agg (av h))] (by simp [Fits, Value.cells, av_size]) (by simp [flatC, Value.cells, av_size]) (by decide) (by decide) w
  simp only [buildSlP, Sem.run_bind, h1, Result.andThen_ok, Sem.run_pure]
  rw [← tv_flat9]
theorem run_bSS93 (A1 A2 A3 : Option Addr) (n1 c1 n2 c2 n3 c3 : Nat) (w : World) : (buildSS9 3 #[(0, .slice A1 n1 c1), (1, .slice A2 n2 c2), (2, .slice A3 n3 c3)]).run Try.prog w = .ok (.value (.slice (some ⟨w.heap.size, 0, none⟩) 3 3)) (w.alloc (.cells #[.slice A1 n1 c1, .slice A2 n2 c2, .slice A3 n3 c3] 25)) := by
  have h := run_buildSl (P := Try.prog) (T := 26) (E := 25) (s := 1) (n := 3) Try.underlying26 (by kernel_rfl) (by kernel_rfl) #[(0, .slice A1 n1 c1), (1, .slice A2 n2 c2), (2, .slice A3 n3 c3)] (by simp [Fits, Value.cells]) (by simp [flatC, Value.cells]) (by decide) (by decide) w
  simp only [buildSS9, Sem.run_bind, h, Result.andThen_ok, Sem.run_pure]
  simp [flatC, Value.cells]
theorem Holds.noZ9 {w0 w : World} {L : List Part} (h : Holds w0 w L) (i : Nat) {g : Nat} (hi : L[i]? = some (pBlk g #[] 2)) : Holds w0 w (L.set i (pZ9 (.slice (some ⟨g, 0, none⟩) 0 0) [])) := by
  refine h.turn i hi _ ?_ rfl rfl rfl (Nat.le_refl _) (fun _ _ _ => rfl) fun k hk => .inl ?_
  · exact ⟨rfl, .inr ⟨g, 0, #[], rfl, Nat.zero_le _, h.at i hi, Nat.le_refl 0, by decide, rfl, rfl⟩⟩
  · have : g = k := by simpa [pZ9, pRow, Value.ownBlock] using hk
    exact this.symm
/-- whole numbers behind those of a list -/
theorem Rd.upon_appZ9 {o : Oper} {a : Act} {w0 w : World} {L : List Part} (H : Holds w0 w L) (k : Nat) {v : Value} {l : List Int} (hk : L[k]? = some (pZ9 v l)) {u : Value} {m : List Int} (hu : RdZ w u m) (hb : l.length + m.length ≤ 100000) {C : World → Prop} {R : Value → World → Prop}
    (h : ∀ v' w', Holds w0 w' (L.set k (pZ9 v' (l ++ m))) → C w' ∧ R v' w') (s x : Operand)
    (ho : o.op = .call { callee := .builtin .append, args := #[s, x], argTypes := #[25, 25] })
    (hs : a.eval s = v) (hx : a.eval x = u) : Rd.upon9 Try.prog C R w ((execOp a.eval o).run Try.prog w) := by
  obtain ⟨v', w', hr, h2⟩ := run_appZ9 o.type H k hk hu hb
  rw [Rd.upon9_eq, exec_append ho hs hx hr]
  exact h v' w' h2
theorem perm_mid9 {α : Type _} (X Y Z : List α) : (X ++ (Y ++ Z)).Perm (Y ++ (X ++ Z)) := by
  rw [← List.append_assoc, ← List.append_assoc]
  exact List.perm_append_comm.append_right _
namespace Rd
theorem region_N9 {P : Program} {id : Nat} {Q : Exit → Act → World → Prop} {a : Act} {w w0 : World} {l : List Oper} (L : List Part) (L1 : List Part) (sp : List Nat) (p : Plan) (H : Holds w0 w L1) (hL : L.Sublist L1)
    (hm : P.follows .mixedOrders = true) (hsel : Region.noSelect l.toArray = true) (hB : planB .any l.toArray sp l.toArray.size p (Array.replicate l.toArray.size false) = true)
    (R : Nat → Option Addr → Nat → World → Prop) (act : Nat → Option Addr → Nat → Act)
    (h : ∀ K : Act → World → Prop, (∀ g A c wx, R g A c wx → K (act g A c) wx) → walkV P l.toArray (fun wx => Holds w0 wx L) (fun k => sp.contains k) K p a (fun wx => Holds w0 wx L1))
    (key : ∀ g A c wx, R g A c wx → Q .normal (act g A c) wx) : (Code.region id l.toArray true).wp P Q a w :=
  region_P L L1 sp p H hL hm hsel hB (h (fun a' w' => Q .normal a' w') key)
end Rd
theorem pk3_form9 {A1 A2 A3 : Option Addr} {n1 c1 n2 c2 n3 c3 : Nat} {a b c : List Int} (h1 : a.length = n1) (h2 : b.length = n2) (h3 : c.length = n3) {k : Nat} (hk : k < 3) : ∃ A d, pk3 (α := Value) (.slice A1 n1 c1) (.slice A2 n2 c2) (.slice A3 n3 c3) k = .slice A (pk3 a b c k).length d := by
  have : k = 0 ∨ k = 1 ∨ k = 2 := by omega
  rcases this with rfl | rfl | rfl
  · exact ⟨A1, c1, by subst h1; rfl⟩
  · exact ⟨A2, c2, by subst h2; rfl⟩
  · exact ⟨A3, c3, by subst h3; rfl⟩

set_option maxRecDepth 100000 in
set_option maxHeartbeats 4000000 in
theorem l09Sums_any (f g : Nat → Nat) (N : Nat) (hd : DesN f g N) (m : Int) (hm : 1 ≤ m ∧ m ≤ 16) (va : Value) (a : List Int) (vb : Value) (b : List Int) (la : a.length = N) (lb : b.length = N) (sa : ∀ x ∈ a, 0 ≤ x ∧ x ≤ 15) (sb : ∀ x ∈ b, 0 ≤ x ∧ x ≤ 15) (w : World) (ha : RdZ w va a) (hb : RdZ w vb b) :
    Calls Try.prog 49 #[.agg (dv N f g), .int .i64 m, va, vb] w fun e w' => ∃ v vs, e = .returned v ∧ vs.length = 3 ∧ Holds w w' (pVals v vs :: rowsZ9 vs (sv9 f g N m a b)) := by
  have hn := dv_n N f g
  have CF := hide fun w => sFace_any f g N hd.le hd.bf.1 hd.bg.1 w
  have CY := hide fun (k : Nat) (hk : k < 3) w => (by
    have : k = 0 ∨ k = 1 ∨ k = 2 := by omega
    rcases this with rfl | rfl | rfl
    · exact sCycles_any f N hd.black w
    · exact sCycles_any g N hd.white w
    · exact sCycles_any (faceF f g N) N hd.face w : Calls Try.prog 67 #[.agg (av (pick3 f g (faceF f g N) k)), .int .i64 (N : Int)] w fun e w' => ∃ v, e = .returned v ∧ Below w.heap.size w w' ∧ Own2 w.heap.size w' v (cycs (pick3 f g (faceF f g N) k) N))
  have CL := hide fun (k : Nat) (hk : k < 3) => (by
    have : k = 0 ∨ k = 1 ∨ k = 2 := by omega
    have hN := hd.le
    have key : ∀ p, PermN p N → (∀ c ∈ cycs p N, c.length ≤ 16 ∧ ∀ x ∈ c, x < N) ∧ (cycs p N).length ≤ 16 := fun p hp => ⟨fun c hc => ⟨cyc_len9 hp hc, fun x hx => cyc_lt9 hp hc hx⟩, by have := cycs_le hp; omega⟩
    rcases this with rfl | rfl | rfl
    · exact key f hd.black
    · exact key g hd.white
    · exact key _ hd.face : (∀ c ∈ cycs (pick3 f g (faceF f g N) k) N, c.length ≤ 16 ∧ ∀ x ∈ c, x < N) ∧ (cycs (pick3 f g (faceF f g N) k) N).length ≤ 16)
  have CR := hide fun (k : Nat) (hk : k < 3) => (by
    have : k = 0 ∨ k = 1 ∨ k = 2 := by omega
    rcases this with rfl | rfl | rfl <;> rfl : (sv9 f g N m a b).getD k [] = (cycs (pick3 f g (faceF f g N) k) N).map fun c => sm9 (pk3 a b (both9 a b f N) k) c % m)
  have hR3 := (sv9_bound hd m a b).1
  have CP := hide fun (k : Nat) (hk : k < 3) => (by
    have : k = 0 ∨ k = 1 ∨ k = 2 := by omega
    rcases this with rfl | rfl | rfl
    · exact ⟨la, fun x hx => by have := sa x hx; omega⟩
    · exact ⟨lb, fun x hx => by have := sb x hx; omega⟩
    · exact ⟨both9_length _ _ _ _, both9_mem sa sb⟩ : (pk3 a b (both9 a b f N) k).length = N ∧ ∀ x ∈ pk3 a b (both9 a b f N) k, 0 ≤ x ∧ x ≤ 30)
  have hN := hd.le
  have HF := hide hd.bf.1
  have HBL := hide (both9_length a b f N)
  clear hd
  generalize sv9 f g N m a b = R at *
  generalize faceF f g N = F at *
  obtain ⟨A1, c1, rfl, _⟩ := ha.form
  obtain ⟨A2, c2, rfl, _⟩ := hb.form
  have HA := hide ha; clear ha
  have HB := hide hb; clear hb
  have SA := hide sa; clear sa
  have SB := hide sb; clear sb
  have HLA := hide la; clear la
  have HLB := hide lb; clear lb
  have HR3 := hide hR3; clear hR3
  have HH0 := (Holds.start w).blk (dv N f g) 31 w.heap.size rfl
  have HH1 := HH0.blk #[] 2 (w.heap.size + 1) (by simp)
  go_enter Try.func49, Try.ntmps49
  go_wp2
  generalize (w.alloc (.cells (dv N f g) 31)).alloc (.cells #[] 2) = w1 at *
  have H2 := HH1.noZ9 0 rfl
  simp only [List.set_cons_zero] at H2
  have H3 : Holds w w1 (pZ9 (.slice (some ⟨w.heap.size + 1, 0, none⟩) 0 0) ((both9 a b f N).take 0) :: [pBlk w.heap.size (dv N f g) 31]) := H2
  clear HH0 HH1 H2
  go_loopw [9, 10] (fun q t wr => ∃ k : Nat, k ≤ N ∧ t = .int .i64 k ∧ Holds w wr (pZ9 q ((both9 a b f N).take k) :: [pBlk w.heap.size (dv N f g) 31])) (fun _ t _ => N - (intOf t).toNat)
  case atStart => exact ⟨0, Nat.zero_le _, rfl, H3⟩
  case round =>
    clear H3
    obtain ⟨k, hk, rfl, hH⟩ := hrel
    have cn0 := hH.cell 1 rfl hn
    by_cases hlt : k < N
    · have hki : (k : Int) < N := by omega
      have hk16 : k < 16 := by omega
      have hk16i : (k : Int) < 16 := by omega
      have hfk := HF.out k hlt
      have ka' : k < a.length := by have := HLA.out; omega
      have kb' : f k < b.length := by have := HLB.out; omega
      obtain ⟨p1, rfl, _, d1⟩ := (HA.out.below hH.low (Nat.le_refl _)).at ka'
      obtain ⟨p2, rfl, _, d2⟩ := (HB.out.below hH.low (Nat.le_refl _)).at kb'
      clear d1 d2
      have hkb : k < (both9 a b f N).length := by rw [HBL.out]; exact hlt
      have hst : (both9 a b f N).take (k + 1) = (both9 a b f N).take k ++ [a[k] + b[f k]] := by
        rw [List.take_succ_eq_append_getElem hkb]
        have e : (both9 a b f N)[k] = bo9 a b f k := by simp [both9]
        rw [e]
        unfold bo9
        rw [getD9 ka', getD9 kb']
      have HLN : Hid (((both9 a b f N).take k).length + 1 ≤ 100000) := hide (by rw [List.length_take]; omega)
      have b1 := SA.out _ (List.getElem_mem ka')
      have b2 := SB.out _ (List.getElem_mem kb')
      have D1 : Hid (∀ wx, Below w.heap.size w wx → wx.cell? (p1.add k) = some (.int .i64 a[k])) := hide fun wx h => by
        obtain ⟨q, e, _, d⟩ := (HA.out.below h (Nat.le_refl _)).at ka'
        injection e with e; subst e; exact d
      have D2 : Hid (∀ wx, Below w.heap.size w wx → wx.cell? (p2.add (f k)) = some (.int .i64 b[f k])) := hide fun wx h => by
        obtain ⟨q, e, _, d⟩ := (HB.out.below h (Nat.le_refl _)).at kb'
        injection e with e; subst e; exact d
      generalize a[k] = x1 at *
      generalize b[f k] = x2 at *
      have wv : wrap64 (x1 + x2) = x1 + x2 := wr64 (by omega) (by omega)
      have wv2 : IntKind.i64.wrap (x1 + x2) = x1 + x2 := wr64k (by omega) (by omega)
      have zf := dv_b (N : Int) f g hk16
      have ka : (k : Int) < a.length := by omega
      have kb : ((f k : Nat) : Int) < b.length := by omega
      have HST := hide hst; clear hst
      have hfi : ((f k : Nat) : Int) < N := by omega
      generalize (both9 a b f N).take k = old at *
      generalize f k = y at *
      go_wp2
      clear cn0
      have hQ := hH
      refine Rd.region_W (w0 := w) [pBlk w.heap.size (dv N f g) 31] _ [13, 14] (.q 0 <| .q 1 <| .q 2 <| .q 3 <| .q 4 <| .q 5 <| .q 6 <| .q 7 <| .q 8 <| .q 9 <| .q 10 <| .q 11 <| .q 12 <| .s1 13 <| .s1 14 <| .q 15 .fin) hH (.cons _ (.refl _)) (by kernel_rfl) (by kernel_rfl) (by kernel_rfl) ?_

      iterate 13
        apply Rd.w_q
        · simp only [List.getElem?_toArray, List.getElem?_cons_zero, List.getElem?_cons_succ]; exact rfl
        · rfl
        · go_simp
        · intro wx hx
          have q0 := hx.cell 0 rfl zf
          have q1 := D1.out wx hx.low
          have q2 := D2.out wx hx.low
          unfold atG
          go_simp
          simp only [uponG]
          exact ⟨by trivial, rfl⟩
      refine Rd.w_s9 (fun v wx => ∃ g8, v = .slice (some ⟨g8, 0, none⟩) 1 1 ∧ Holds w wx (pBlk g8 #[.int .i64 (x1 + x2)] 2 :: pZ9 u9 old :: [pBlk w.heap.size (dv N f g) 31])) (fun _ _ _ ⟨g8, e, h⟩ hb => ⟨g8, e, h.call hb⟩) (by simp only [List.getElem?_toArray, List.getElem?_cons_zero, List.getElem?_cons_succ]; exact rfl) rfl (by go_simp) (fun wx hx hD => ?_) ?_
      · go_simp
        simp only [Rd.upon9_eq, Rd.uponE]
        exact ⟨hx.alloc _, _, rfl, hD.blk _ _ _ rfl⟩
      rintro v ⟨_, _, g8, rfl, _⟩
      refine Rd.w_s9 (fun v wx => Holds w wx (pZ9 v (old ++ [x1 + x2]) :: [pBlk w.heap.size (dv N f g) 31])) (fun _ _ _ h hb => h.call hb) (by simp only [List.getElem?_toArray, List.getElem?_cons_zero, List.getElem?_cons_succ]; exact rfl) rfl (by go_simp) (fun wx hx hD => ?_) ?_
      · obtain ⟨g8', e, hD⟩ := hD
        injection e with e
        injection e with e
        injection e with e
        subst e
        refine Rd.upon_appZ9 hD 1 (l := old) rfl (u := .slice (some ⟨g8, 0, none⟩) 1 1) (m := [x1 + x2]) (rd_lit9 (hD.at 0 rfl)) HLN.out (fun v' w' h2 => ?_) _ _ rfl (by go_simp) (by go_simp)
        have h3 : Holds w w' (pBlk g8 #[.int .i64 (x1 + x2)] 2 :: pZ9 v' (old ++ [x1 + x2]) :: [pBlk w.heap.size (dv N f g) 31]) := h2
        exact ⟨h3.tail.tail, h3.tail⟩
      rintro v' -
      iterate 1
        apply Rd.w_q
        · simp only [List.getElem?_toArray, List.getElem?_cons_zero, List.getElem?_cons_succ]; exact rfl
        · rfl
        · go_simp
        · intro wx hx
          unfold atG
          go_simp
          simp only [uponG]
          exact ⟨by trivial, rfl⟩
      refine Rd.w_fin ?_
      rintro wz - hz
      have hz2 : Holds w wz (pZ9 v' (old ++ [x1 + x2]) :: [pBlk w.heap.size (dv N f g) 31]) := hz
      rw [← HST.out] at hz2
      have HQ := hide hz2
      clear hz hz2 hH hQ
      go_simp
      go_wp2
      go_roundw
      case rel => exact ⟨k + 1, by omega, by go_num, HQ.out⟩
      case measure => simp [intOf]; omega
    · obtain rfl : N = k := by omega
      rw [List.take_of_length_le (by rw [HBL.out]; exact Nat.le_refl _)] at hH
      have H3 := hH
      have hbl := HBL.out
      generalize both9 a b f N = bo at *
      clear hlt hk hH cn0
      obtain ⟨A9, c9, rfl⟩ : ∃ A c, u9 = .slice A bo.length c := own_slice (H3.row 0 rfl)
      rw [hbl] at H3 ⊢
      have cn0 := H3.cell 1 rfl hn
      go_wp2
      apply Rd.region_R3 (w0 := w) [pZ9 (.slice A9 N c9) bo, pBlk w.heap.size (dv N f g) 31] [pZ9 (.slice A9 N c9) bo, pBlk w.heap.size (dv N f g) 31] [6, 10, 11] (.q 0 <| .q 1 <| .q 2 <| .q 3 <| .q 4 <| .q 5 <| .q 7 <| .q 8 <| .q 9 <| .s3 6 (.q 12 <| .s2 10 (.q 13 <| .s1 11 <| .q 14 <| .fin) 11 (.s1 10 <| .q 13 <| .q 14 <| .fin)) 10 (.s2 6 (.q 12 <| .q 13 <| .s1 11 <| .q 14 <| .fin) 11 (.s1 6 <| .q 12 <| .q 13 <| .q 14 <| .fin)) 11 (.s2 6 (.q 12 <| .s1 10 <| .q 13 <| .q 14 <| .fin) 10 (.s1 6 <| .q 12 <| .q 13 <| .q 14 <| .fin))) H3 (.refl _) (by kernel_rfl) (by kernel_rfl) (by kernel_rfl) (F := fun (g6 : Nat) (g10 : Nat) (g11 : Nat) => pBlk g6 (tv f g F) 29 :: pBlk g10 (#[.slice A1 a.length c1, .slice A2 b.length c2, .slice A9 N c9]) 25 :: pBlk g11 (#[]) 25 :: [pZ9 (.slice A9 N c9) bo, pBlk w.heap.size (dv N f g) 31])
      case h =>
        intro K key
        iterate 5
          apply Rd.v_q
          · simp only [List.getElem?_toArray, List.getElem?_cons_zero, List.getElem?_cons_succ]; exact rfl
          · rfl
          · go_simp
          · intro wx hx
            have q1 := hx.cells 1 rfl
            have q2 := hx.cell 1 rfl hn
            unfold atG
            go_simp
            simp only [uponG]
            exact ⟨by trivial, rfl⟩
        iterate 1
          apply Rd.v_q
          · simp only [List.getElem?_toArray, List.getElem?_cons_zero, List.getElem?_cons_succ]; exact rfl
          · rfl
          · go_simp
          · intro wx hx
            have q1 := hx.cells 1 rfl
            have q2 := hx.cell 1 rfl hn
            unfold atG
            go_simp
            simp only [uponG]
            exact ⟨by trivial, CF.out wx⟩
        iterate 3
          apply Rd.v_q
          · simp only [List.getElem?_toArray, List.getElem?_cons_zero, List.getElem?_cons_succ]; exact rfl
          · rfl
          · go_simp
          · intro wx hx
            have q1 := hx.cells 1 rfl
            have q2 := hx.cell 1 rfl hn
            unfold atG
            go_simp
            simp only [uponG]
            exact ⟨by trivial, rfl⟩
        refine ⟨?_, ?_, ?_⟩
        · skip
          refine Rd.v_build (tv f g F) 29 3 (by simp only [List.getElem?_toArray, List.getElem?_cons_zero, List.getElem?_cons_succ]; exact rfl) rfl (by go_simp) (fun wx hx hD => by go_simp; exact run_bslP3 f g F wx) fun g6 => ?_
          iterate 1
            apply Rd.v_q
            · simp only [List.getElem?_toArray, List.getElem?_cons_zero, List.getElem?_cons_succ]; exact rfl
            · rfl
            · go_simp
            · intro wx hx
              unfold atG
              go_simp
              simp only [uponG]
              exact ⟨by trivial, rfl⟩
          refine ⟨?_, ?_⟩
          · skip
            refine Rd.v_build (#[.slice A1 a.length c1, .slice A2 b.length c2, .slice A9 N c9]) 25 3 (by simp only [List.getElem?_toArray, List.getElem?_cons_zero, List.getElem?_cons_succ]; exact rfl) rfl (by go_simp) (fun wx hx hD => by rw [exec_buildSS9]; simp only [List.map_toArray, List.map_cons, List.map_nil]; go_simp; exact run_bSS93 _ _ _ _ _ _ _ _ _ wx) fun g10 => ?_
            iterate 1
              apply Rd.v_q
              · simp only [List.getElem?_toArray, List.getElem?_cons_zero, List.getElem?_cons_succ]; exact rfl
              · rfl
              · go_simp
              · intro wx hx
                unfold atG
                go_simp
                simp only [uponG]
                exact ⟨by trivial, rfl⟩
            refine Rd.v_build (#[]) 25 0 (by simp only [List.getElem?_toArray, List.getElem?_cons_zero, List.getElem?_cons_succ]; exact rfl) rfl (by go_simp) (fun wx hx hD => by go_simp) fun g11 => ?_
            iterate 1
              apply Rd.v_q
              · simp only [List.getElem?_toArray, List.getElem?_cons_zero, List.getElem?_cons_succ]; exact rfl
              · rfl
              · go_simp
              · intro wx hx
                unfold atG
                go_simp
                simp only [uponG]
                exact ⟨by trivial, rfl⟩
            rintro wz - hz
            go_simp
            exact key g6 g10 g11 _ (hz.perm (((List.Perm.swap _ _ _).cons _).trans ((List.Perm.swap _ _ _).trans (((List.Perm.swap _ _ _).cons _)))))
          · skip
            refine Rd.v_build (#[]) 25 0 (by simp only [List.getElem?_toArray, List.getElem?_cons_zero, List.getElem?_cons_succ]; exact rfl) rfl (by go_simp) (fun wx hx hD => by go_simp) fun g11 => ?_
            refine Rd.v_build (#[.slice A1 a.length c1, .slice A2 b.length c2, .slice A9 N c9]) 25 3 (by simp only [List.getElem?_toArray, List.getElem?_cons_zero, List.getElem?_cons_succ]; exact rfl) rfl (by go_simp) (fun wx hx hD => by rw [exec_buildSS9]; simp only [List.map_toArray, List.map_cons, List.map_nil]; go_simp; exact run_bSS93 _ _ _ _ _ _ _ _ _ wx) fun g10 => ?_
            iterate 2
              apply Rd.v_q
              · simp only [List.getElem?_toArray, List.getElem?_cons_zero, List.getElem?_cons_succ]; exact rfl
              · rfl
              · go_simp
              · intro wx hx
                unfold atG
                go_simp
                simp only [uponG]
                exact ⟨by trivial, rfl⟩
            rintro wz - hz
            go_simp
            exact key g6 g10 g11 _ (hz.perm (((List.Perm.swap _ _ _).cons _).trans ((List.Perm.swap _ _ _))))
        · skip
          refine Rd.v_build (#[.slice A1 a.length c1, .slice A2 b.length c2, .slice A9 N c9]) 25 3 (by simp only [List.getElem?_toArray, List.getElem?_cons_zero, List.getElem?_cons_succ]; exact rfl) rfl (by go_simp) (fun wx hx hD => by rw [exec_buildSS9]; simp only [List.map_toArray, List.map_cons, List.map_nil]; go_simp; exact run_bSS93 _ _ _ _ _ _ _ _ _ wx) fun g10 => ?_
          refine ⟨?_, ?_⟩
          · skip
            refine Rd.v_build (tv f g F) 29 3 (by simp only [List.getElem?_toArray, List.getElem?_cons_zero, List.getElem?_cons_succ]; exact rfl) rfl (by go_simp) (fun wx hx hD => by go_simp; exact run_bslP3 f g F wx) fun g6 => ?_
            iterate 2
              apply Rd.v_q
              · simp only [List.getElem?_toArray, List.getElem?_cons_zero, List.getElem?_cons_succ]; exact rfl
              · rfl
              · go_simp
              · intro wx hx
                unfold atG
                go_simp
                simp only [uponG]
                exact ⟨by trivial, rfl⟩
            refine Rd.v_build (#[]) 25 0 (by simp only [List.getElem?_toArray, List.getElem?_cons_zero, List.getElem?_cons_succ]; exact rfl) rfl (by go_simp) (fun wx hx hD => by go_simp) fun g11 => ?_
            iterate 1
              apply Rd.v_q
              · simp only [List.getElem?_toArray, List.getElem?_cons_zero, List.getElem?_cons_succ]; exact rfl
              · rfl
              · go_simp
              · intro wx hx
                unfold atG
                go_simp
                simp only [uponG]
                exact ⟨by trivial, rfl⟩
            rintro wz - hz
            go_simp
            exact key g6 g10 g11 _ (hz.perm ((List.Perm.swap _ _ _).trans (((List.Perm.swap _ _ _).cons _))))
          · skip
            refine Rd.v_build (#[]) 25 0 (by simp only [List.getElem?_toArray, List.getElem?_cons_zero, List.getElem?_cons_succ]; exact rfl) rfl (by go_simp) (fun wx hx hD => by go_simp) fun g11 => ?_
            refine Rd.v_build (tv f g F) 29 3 (by simp only [List.getElem?_toArray, List.getElem?_cons_zero, List.getElem?_cons_succ]; exact rfl) rfl (by go_simp) (fun wx hx hD => by go_simp; exact run_bslP3 f g F wx) fun g6 => ?_
            iterate 3
              apply Rd.v_q
              · simp only [List.getElem?_toArray, List.getElem?_cons_zero, List.getElem?_cons_succ]; exact rfl
              · rfl
              · go_simp
              · intro wx hx
                unfold atG
                go_simp
                simp only [uponG]
                exact ⟨by trivial, rfl⟩
            rintro wz - hz
            go_simp
            exact key g6 g10 g11 _ (hz.perm (((List.Perm.swap _ _ _).cons _)))
        · skip
          refine Rd.v_build (#[]) 25 0 (by simp only [List.getElem?_toArray, List.getElem?_cons_zero, List.getElem?_cons_succ]; exact rfl) rfl (by go_simp) (fun wx hx hD => by go_simp) fun g11 => ?_
          refine ⟨?_, ?_⟩
          · skip
            refine Rd.v_build (tv f g F) 29 3 (by simp only [List.getElem?_toArray, List.getElem?_cons_zero, List.getElem?_cons_succ]; exact rfl) rfl (by go_simp) (fun wx hx hD => by go_simp; exact run_bslP3 f g F wx) fun g6 => ?_
            iterate 1
              apply Rd.v_q
              · simp only [List.getElem?_toArray, List.getElem?_cons_zero, List.getElem?_cons_succ]; exact rfl
              · rfl
              · go_simp
              · intro wx hx
                unfold atG
                go_simp
                simp only [uponG]
                exact ⟨by trivial, rfl⟩
            refine Rd.v_build (#[.slice A1 a.length c1, .slice A2 b.length c2, .slice A9 N c9]) 25 3 (by simp only [List.getElem?_toArray, List.getElem?_cons_zero, List.getElem?_cons_succ]; exact rfl) rfl (by go_simp) (fun wx hx hD => by rw [exec_buildSS9]; simp only [List.map_toArray, List.map_cons, List.map_nil]; go_simp; exact run_bSS93 _ _ _ _ _ _ _ _ _ wx) fun g10 => ?_
            iterate 2
              apply Rd.v_q
              · simp only [List.getElem?_toArray, List.getElem?_cons_zero, List.getElem?_cons_succ]; exact rfl
              · rfl
              · go_simp
              · intro wx hx
                unfold atG
                go_simp
                simp only [uponG]
                exact ⟨by trivial, rfl⟩
            rintro wz - hz
            go_simp
            exact key g6 g10 g11 _ (hz.perm ((List.Perm.swap _ _ _)))
          · skip
            refine Rd.v_build (#[.slice A1 a.length c1, .slice A2 b.length c2, .slice A9 N c9]) 25 3 (by simp only [List.getElem?_toArray, List.getElem?_cons_zero, List.getElem?_cons_succ]; exact rfl) rfl (by go_simp) (fun wx hx hD => by rw [exec_buildSS9]; simp only [List.map_toArray, List.map_cons, List.map_nil]; go_simp; exact run_bSS93 _ _ _ _ _ _ _ _ _ wx) fun g10 => ?_
            refine Rd.v_build (tv f g F) 29 3 (by simp only [List.getElem?_toArray, List.getElem?_cons_zero, List.getElem?_cons_succ]; exact rfl) rfl (by go_simp) (fun wx hx hD => by go_simp; exact run_bslP3 f g F wx) fun g6 => ?_
            iterate 3
              apply Rd.v_q
              · simp only [List.getElem?_toArray, List.getElem?_cons_zero, List.getElem?_cons_succ]; exact rfl
              · rfl
              · go_simp
              · intro wx hx
                unfold atG
                go_simp
                simp only [uponG]
                exact ⟨by trivial, rfl⟩
            rintro wz - hz
            go_simp
            exact key g6 g10 g11 _ hz
      intro g6 g10 g11 w2 H2
      clear H3 cn0
      have H4 := H2.noVals9 2 rfl
      simp only [List.set_cons_succ, List.set_cons_zero] at H4
      have H5 : Holds w w2 (pVals (.slice (some ⟨g11, 0, none⟩) 0 0) ([] : List Value) :: pBlk g6 (tv f g F) 29 :: pBlk g10 #[.slice A1 a.length c1, .slice A2 b.length c2, .slice A9 N c9] 25 :: pZ9 (.slice A9 N c9) bo :: pBlk w.heap.size (dv N f g) 31 :: rowsZ9 ([] : List Value) (R.take 0)) := H4.perm (((List.Perm.swap _ _ _).cons _).trans (List.Perm.swap _ _ _))
      clear H2 H4
      go_wp2
      go_loopw [13, 14] (fun q t wr => ∃ (k : Nat) (vs : List Value), k ≤ 3 ∧ t = .int .i64 k ∧ Hid (vs.length = k) ∧ Holds w wr (pVals (q) vs :: pBlk g6 (tv f g F) 29 :: pBlk g10 #[.slice A1 a.length c1, .slice A2 b.length c2, .slice A9 N c9] 25 :: pZ9 (.slice A9 N c9) bo :: pBlk w.heap.size (dv N f g) 31 :: rowsZ9 vs (R.take k))) (fun _ t _ => 3 - (intOf t).toNat)
      case atStart => exact ⟨0, [], Nat.zero_le _, rfl, hide rfl, H5⟩
      case round =>
        clear H5
        obtain ⟨k, vs, hk, rfl, HVS, hH⟩ := hrel
        by_cases hlt : k < 3
        · have hki : (k : Int) < 3 := by omega
          have hkR : k < R.length := by have := HR3.out; omega
          have CYK := hide fun w => CY.out k hlt w
          obtain ⟨hcl, hcs16⟩ := CL.out k hlt
          have hRk := CR.out k hlt
          obtain ⟨hpl, hp30⟩ := CP.out k hlt
          have hst : R.take (k + 1) = R.take k ++ [R.getD k []] := by rw [List.take_succ_eq_append_getElem hkR, List.getD_eq_getElem?_getD, List.getElem?_eq_getElem hkR]; rfl
          rw [hRk] at hst
          have HST := hide hst; clear hst hRk
          have ZP : Hid (∀ wx : World, cellsOf wx g6 = tv f g F → (loadT 29 (.pointer (some ⟨g6, k * 16, none⟩))).run Try.prog wx = .ok (.value (.agg (av (pick3 f g F k)))) wx) := hide fun wx h => run_loadR (by rw [h]; exact tv_part f g F hlt)
          have hz3 := pk3_arr (.slice A1 a.length c1) (.slice A2 b.length c2) (.slice A9 N c9) hlt
          have hrd : ∀ (L : List Part) (wx : World), Holds w wx L → L[5]? = some (pZ9 (.slice A9 N c9) bo) → RdZ wx (pk3 (.slice A1 a.length c1) (.slice A2 b.length c2) (.slice A9 N c9) k) (pk3 a b bo k) := fun L wx h h5 => by
            have : k = 0 ∨ k = 1 ∨ k = 2 := by omega
            rcases this with rfl | rfl | rfl
            · exact HA.out.below h.low (Nat.le_refl _)
            · exact HB.out.below h.low (Nat.le_refl _)
            · exact h.rdZ9 5 h5 (by omega)
          obtain ⟨A3, d3, h3⟩ := pk3_form9 (a := a) (b := b) (c := bo) (A1 := A1) (A2 := A2) (A3 := A9) (c1 := c1) (c2 := c2) (c3 := c9) rfl rfl hbl hlt
          rw [h3] at hz3 hrd
          have ZL := hide hz3; clear hz3 h3
          have HRL := hide hrd; clear hrd
          have HPL := hide hpl; clear hpl
          have HP30 := hide hp30; clear hp30
          have HCL := hide hcl; clear hcl
          have HBV : Hid (vs.length ≤ 100000) := hide (by have := HVS.out; omega)
          have HN := hide hN
          generalize cycs (pick3 f g F k) N = cs at *
          generalize pk3 a b bo k = l at *
          have HC16 := hide hcs16; clear hcs16
          go_wp2
          apply Rd.region_N9 (w0 := w) (pVals u13 vs :: pBlk g6 (tv f g F) 29 :: pBlk g10 #[.slice A1 a.length c1, .slice A2 b.length c2, .slice A9 N c9] 25 :: pZ9 (.slice A9 N c9) bo :: pBlk w.heap.size (dv N f g) 31 :: rowsZ9 vs (R.take k)) (pVals u13 vs :: pBlk g6 (tv f g F) 29 :: pBlk g10 #[.slice A1 a.length c1, .slice A2 b.length c2, .slice A9 N c9] 25 :: pZ9 (.slice A9 N c9) bo :: pBlk w.heap.size (dv N f g) 31 :: rowsZ9 vs (R.take k)) [0, 7] (.q 1 <| .q 2 <| .q 3 <| .q 4 <| .q 5 <| .q 6 <| .s2 0 (.s1 7 <| .q 8 <| .q 9 .fin) 7 (.s1 0 <| .q 8 <| .q 9 .fin)) hH (.refl _) (by kernel_rfl) (by kernel_rfl) (by kernel_rfl) (R := fun (g0 : Nat) (A : Option Addr) (c : Nat) wx => ∃ us : List Value, us.length = cs.length ∧ Holds w wx (pVals (.slice A cs.length c) us :: (rowsP us cs ++ pBlk g0 #[] 2 :: pVals u13 vs :: pBlk g6 (tv f g F) 29 :: pBlk g10 #[.slice A1 a.length c1, .slice A2 b.length c2, .slice A9 N c9] 25 :: pZ9 (.slice A9 N c9) bo :: pBlk w.heap.size (dv N f g) 31 :: rowsZ9 vs (R.take k))))
          case h =>
            intro K key
            iterate 6
              apply Rd.v_q
              · simp only [List.getElem?_toArray, List.getElem?_cons_zero, List.getElem?_cons_succ]; exact rfl
              · rfl
              · go_simp
              · intro wx hx
                have q1 := hx.cells 4 rfl
                have q2 := hx.cell 4 rfl hn
                have q3 := ZP.out wx (hx.cells 1 rfl)
                unfold atG
                go_simp
                simp only [uponG]
                exact ⟨by trivial, rfl⟩
            refine ⟨?_, ?_⟩
            · skip
              refine Rd.v_build #[] 2 0 (by simp only [List.getElem?_toArray, List.getElem?_cons_zero, List.getElem?_cons_succ]; exact rfl) rfl (by go_simp) (fun wx hx hD => by go_simp) fun g0 => ?_
              refine Rd.v_s9 (Rd.rV9 w cs.length fun v us => pVals v us :: (rowsP us cs ++ pBlk g0 #[] 2 :: pVals u13 vs :: pBlk g6 (tv f g F) 29 :: pBlk g10 #[.slice A1 a.length c1, .slice A2 b.length c2, .slice A9 N c9] 25 :: pZ9 (.slice A9 N c9) bo :: pBlk w.heap.size (dv N f g) 31 :: rowsZ9 vs (R.take k))) Rd.rV9_stable (by simp only [List.getElem?_toArray, List.getElem?_cons_zero, List.getElem?_cons_succ]; exact rfl) rfl (by go_simp) (fun wx hx hD => ?_) ?_
              · go_simp
                simp only [Rd.upon9_eq, Rd.uponE]
                refine ⟨by trivial, (CYK.out wx).mono ?_⟩
                rintro e wy ⟨v, rfl, hb, ho⟩
                obtain ⟨A, c, us, rfl, hv⟩ := own2_form ho
                have hj := hD.joinL (Holds.ofOwn2 hb hv)
                exact ⟨_, rfl, hx.call hb, A, c, us, rfl, hv.len, hj.perm List.perm_append_comm⟩
              rintro v ⟨_, _, hv⟩
              obtain ⟨A, c, rfl⟩ := Rd.rV9_form hv
              clear hv
              iterate 2
                apply Rd.v_q
                · simp only [List.getElem?_toArray, List.getElem?_cons_zero, List.getElem?_cons_succ]; exact rfl
                · rfl
                · go_simp
                · intro wx hx
                  unfold atG
                  go_simp
                  simp only [uponG]
                  exact ⟨by trivial, rfl⟩
              rintro wz - hz
              go_simp
              exact Rd.rV9_elim hz fun us hl hh => key g0 A c _ ⟨us, hl, hh⟩
            · skip
              refine Rd.v_s9 (Rd.rV9 w cs.length fun v us => pVals v us :: (rowsP us cs ++ pVals u13 vs :: pBlk g6 (tv f g F) 29 :: pBlk g10 #[.slice A1 a.length c1, .slice A2 b.length c2, .slice A9 N c9] 25 :: pZ9 (.slice A9 N c9) bo :: pBlk w.heap.size (dv N f g) 31 :: rowsZ9 vs (R.take k))) Rd.rV9_stable (by simp only [List.getElem?_toArray, List.getElem?_cons_zero, List.getElem?_cons_succ]; exact rfl) rfl (by go_simp) (fun wx hx hD => ?_) ?_
              · go_simp
                simp only [Rd.upon9_eq, Rd.uponE]
                refine ⟨by trivial, (CYK.out wx).mono ?_⟩
                rintro e wy ⟨v, rfl, hb, ho⟩
                obtain ⟨A, c, us, rfl, hv⟩ := own2_form ho
                have hj := hD.joinL (Holds.ofOwn2 hb hv)
                exact ⟨_, rfl, hx.call hb, A, c, us, rfl, hv.len, hj.perm List.perm_append_comm⟩
              rintro v ⟨_, _, hv⟩
              obtain ⟨A, c, rfl⟩ := Rd.rV9_form hv
              clear hv
              refine Rd.v_s9 (Rd.rN9 w cs.length fun g0 us => pBlk g0 #[] 2 :: pVals (.slice A cs.length c) us :: (rowsP us cs ++ pVals u13 vs :: pBlk g6 (tv f g F) 29 :: pBlk g10 #[.slice A1 a.length c1, .slice A2 b.length c2, .slice A9 N c9] 25 :: pZ9 (.slice A9 N c9) bo :: pBlk w.heap.size (dv N f g) 31 :: rowsZ9 vs (R.take k))) Rd.rN9_stable (by simp only [List.getElem?_toArray, List.getElem?_cons_zero, List.getElem?_cons_succ]; exact rfl) rfl (by go_simp) (fun wx hx hD => ?_) ?_
              · refine Rd.rV9_elim hD fun us hl hG => ?_
                go_simp
                simp only [Rd.upon9_eq, Rd.uponE]
                exact ⟨hx.alloc _, _, us, rfl, hl, hG.blk _ _ _ rfl⟩
              rintro v0 ⟨_, _, hv⟩
              obtain ⟨g0, rfl⟩ := Rd.rN9_form hv
              clear hv
              iterate 2
                apply Rd.v_q
                · simp only [List.getElem?_toArray, List.getElem?_cons_zero, List.getElem?_cons_succ]; exact rfl
                · rfl
                · go_simp
                · intro wx hx
                  unfold atG
                  go_simp
                  simp only [uponG]
                  exact ⟨by trivial, rfl⟩
              rintro wz - hz
              go_simp
              exact Rd.rN9_elim hz fun us hl hh => key g0 A c _ ⟨us, hl, hh.perm ((List.Perm.swap _ _ _).trans (List.Perm.cons _ List.perm_middle.symm))⟩
          rintro g0 A c w3 ⟨us, hus, H3⟩
          have HUS := hide hus; clear hus hH
          have H4 : Holds w w3 (pBlk g0 #[] 2 :: pVals (.slice A cs.length c) us :: pVals u13 vs :: pBlk g6 (tv f g F) 29 :: pBlk g10 #[.slice A1 a.length c1, .slice A2 b.length c2, .slice A9 N c9] 25 :: pZ9 (.slice A9 N c9) bo :: pBlk w.heap.size (dv N f g) 31 :: (rowsP us cs ++ rowsZ9 vs (R.take k))) := H3.perm ((List.Perm.cons _ (perm_mid9 (rowsP us cs) [pBlk g0 #[] 2, pVals u13 vs, pBlk g6 (tv f g F) 29, pBlk g10 #[.slice A1 a.length c1, .slice A2 b.length c2, .slice A9 N c9] 25, pZ9 (.slice A9 N c9) bo, pBlk w.heap.size (dv N f g) 31] (rowsZ9 vs (R.take k)))).trans (List.Perm.swap _ _ _))
          have H5 := H4.noZ9 0 rfl
          simp only [List.set_cons_zero] at H5
          have H6 : Holds w w3 (pZ9 (.slice (some ⟨g0, 0, none⟩) 0 0) ((cs.take 0).map fun c => sm9 l c % m) :: pVals (.slice A cs.length c) us :: pVals u13 vs :: pBlk g6 (tv f g F) 29 :: pBlk g10 #[.slice A1 a.length c1, .slice A2 b.length c2, .slice A9 N c9] 25 :: pZ9 (.slice A9 N c9) bo :: pBlk w.heap.size (dv N f g) 31 :: (rowsP us cs ++ rowsZ9 vs (R.take k))) := H5
          clear H3 H4 H5
          go_wp2
          go_loopw [15, 17] (fun own t wr => ∃ i : Nat, i ≤ cs.length ∧ t = .int .i64 i ∧ Holds w wr (pZ9 (own) ((cs.take i).map fun c => sm9 l c % m) :: pVals (.slice A cs.length c) us :: pVals u13 vs :: pBlk g6 (tv f g F) 29 :: pBlk g10 #[.slice A1 a.length c1, .slice A2 b.length c2, .slice A9 N c9] 25 :: pZ9 (.slice A9 N c9) bo :: pBlk w.heap.size (dv N f g) 31 :: (rowsP us cs ++ rowsZ9 vs (R.take k)))) (fun _ t _ => cs.length - (intOf t).toNat)
          case atStart => exact ⟨0, Nat.zero_le _, rfl, H6⟩
          case round =>
            clear H6
            obtain ⟨i, hi, rfl, hH⟩ := hrel
            by_cases hil : i < cs.length
            · have hil' : (i : Int) < cs.length := by omega
              have hS := hH.sub (L' := pVals (.slice A cs.length c) us :: rowsP us cs) (.cons _ (.cons_cons _ (.cons _ (.cons _ (.cons _ (.cons _ (.cons _ (List.sublist_append_left _ _))))))))
              obtain ⟨gc, dc, A', c', e0, hvi, x1, hpart⟩ := hS.rowAt HUS.out 0 rfl (fun _ => rfl) hil
              injection e0 with e0 e0a e0b
              subst e0
              clear e0a e0b hpart hS
              have hmem := List.getElem_mem hil
              obtain ⟨hci, hcx⟩ := HCL.out _ hmem
              have HCX := hide hcx; clear hcx
              have HRU : Hid (∀ own old (wx : World), Holds w wx (pZ9 (own) (old) :: pVals (.slice (some ⟨gc, 0, none⟩) cs.length c) us :: pVals u13 vs :: pBlk g6 (tv f g F) 29 :: pBlk g10 #[.slice A1 a.length c1, .slice A2 b.length c2, .slice A9 N c9] 25 :: pZ9 (.slice A9 N c9) bo :: pBlk w.heap.size (dv N f g) 31 :: (rowsP us cs ++ rowsZ9 vs (R.take k))) → wx.cell? ⟨gc, i, none⟩ = some (.slice A' cs[i].length c') ∧ RdZ wx (.slice A' cs[i].length c') (zs9 cs[i])) := hide fun own old wx h => by
                have hS := h.sub (L' := pVals (.slice (some ⟨gc, 0, none⟩) cs.length c) us :: rowsP us cs) (.cons _ (.cons_cons _ (.cons _ (.cons _ (.cons _ (.cons _ (.cons _ (List.sublist_append_left _ _))))))))
                obtain ⟨g2, d2, A4, c4, e0, hvi2, x2, hp2⟩ := hS.rowAt HUS.out 0 rfl (fun _ => rfl) hil
                injection e0 with e0 _ _
                injection e0 with e0
                injection e0 with e0
                subst e0
                rw [hvi] at hvi2
                injection hvi2 with e1
                injection e1 with e1 _ e3
                subst e1 e3
                exact ⟨x2, rd_nums (hS.own1 (i + (0 + 1)) hp2) (by omega)⟩
              have hst2 : (cs.take (i + 1)).map (fun c => sm9 l c % m) = (cs.take i).map (fun c => sm9 l c % m) ++ [sm9 l cs[i] % m] := by rw [List.take_succ_eq_append_getElem hil, List.map_append]; rfl
              have HST2 := hide hst2; clear hst2
              have HB2 : Hid (((cs.take i).map fun c => sm9 l c % m).length + 1 ≤ 100000) := hide (by have := HC16.out; simp; omega)
              clear hmem hvi
              generalize ((cs.take i).map fun c => sm9 l c % m) = old at *
              generalize cs[i] = ci at *
              go_wp2
              go_loopw [18, 19] (fun s t wx => ∃ j : Nat, j ≤ ci.length ∧ t = .int .i64 j ∧ s = .int .i64 (sm9 l (ci.take j)) ∧ Holds w wx (pZ9 (u15) (old) :: pVals (.slice (some ⟨gc, 0, none⟩) cs.length c) us :: pVals u13 vs :: pBlk g6 (tv f g F) 29 :: pBlk g10 #[.slice A1 a.length c1, .slice A2 b.length c2, .slice A9 N c9] 25 :: pZ9 (.slice A9 N c9) bo :: pBlk w.heap.size (dv N f g) 31 :: (rowsP us cs ++ rowsZ9 vs (R.take k)))) (fun _ t _ => ci.length - (intOf t).toNat)
              case atStart => exact ⟨0, Nat.zero_le _, rfl, rfl, hH⟩
              case round =>
                clear hH x1
                obtain ⟨j, hj, rfl, rfl, hG⟩ := hrel
                obtain ⟨z1, hRU⟩ := HRU.out _ _ _ hG
                obtain ⟨hs0, hs1⟩ := sm9_pos (K := 30) (by omega) HP30.out (ci.take j)
                rw [List.length_take] at hs1
                by_cases hjl : j < ci.length
                · have hzs := sm9_take l ci hjl
                  have hjl' : j < (zs9 ci).length := by rw [zs9_length]; exact hjl
                  obtain ⟨b0, rfl, _, d1⟩ := hRU.at hjl'
                  rw [zs9_get hjl] at d1
                  have hxl := HCX.out _ (List.getElem_mem hjl)
                  have hxm := HPL.out
                  generalize ci[j] = x at *
                  have hxl' : x < l.length := by omega
                  obtain ⟨a0, rfl, _, d2⟩ := (HRL.out _ _ hG rfl).at hxl'
                  rw [List.getD_eq_getElem?_getD, List.getElem?_eq_getElem hxl', Option.getD_some] at hzs
                  have hb2 := HP30.out _ (List.getElem_mem hxl')
                  generalize l[x] = y at *
                  generalize sm9 l (ci.take j) = s at *
                  have ws : wrap64 (s + y) = s + y := wr64 (by omega) (by omega)
                  have HZS := hide hzs; clear hzs hjl' hxm
                  have hx' : (x : Int) < l.length := by omega
                  have hji : (j : Int) < ci.length := by omega
                  have z10 := hG.cell 4 rfl ZL.out
                  clear hRU hb2 hs0 hs1
                  go_wp2
                  go_quiet (fail)
                  have HQ := hide (hG.drewN nq)
                  clear hG z1 z10 d1 d2
                  generalize wr.drewN nq = wz at *
                  go_wp2
                  go_roundw
                  case rel => exact ⟨j + 1, by omega, by go_num, by rw [HZS.out, ws], HQ.out⟩
                  case measure => simp [intOf]; omega
                · obtain rfl : j = ci.length := by omega
                  rw [List.take_length] at hs0 hs1 ⊢
                  have t0 := Int.emod_nonneg (sm9 l ci) (show m ≠ 0 by omega)
                  have t1 := Int.emod_lt_of_pos (sm9 l ci) (show 0 < m by omega)
                  have hsk : sm9 l ci ≤ 480 := by
                    have : ((min ci.length ci.length : Nat) : Int) ≤ 16 := by omega
                    omega
                  generalize sm9 l ci = s at *
                  have wt : wrap64 (s % m) = s % m := wr64 (by omega) (by omega)
                  have wt2 : IntKind.i64.wrap (s % m) = s % m := wr64k (by omega) (by omega)
                  have m0 : ¬ (m = 0) := by omega
                  clear hjl hj hRU
                  go_wp2_with (at_builtin; go_must (refine appZ9 (hG.alloc _) 0 (l := old) rfl (u := .slice (some ⟨wr.heap.size, 0, none⟩) 1 1) (m := [s % m]) ?_ HB2.out rfl _ _ rfl rfl rfl ?_))
                  · exact rd_lit9 (heap_at _ _ _ rfl)
                  intro v' w' h1
                  have h2 : Holds w w' (pZ9 (v') (old ++ [s % m]) :: pVals (.slice (some ⟨gc, 0, none⟩) cs.length c) us :: pVals u13 vs :: pBlk g6 (tv f g F) 29 :: pBlk g10 #[.slice A1 a.length c1, .slice A2 b.length c2, .slice A9 N c9] 25 :: pZ9 (.slice A9 N c9) bo :: pBlk w.heap.size (dv N f g) 31 :: (rowsP us cs ++ rowsZ9 vs (R.take k))) := h1
                  rw [← HST2.out] at h2
                  have HQ := hide h2
                  clear hG h1 h2 z1 t0 t1
                  have h16 := HC16.out
                  go_wp2
                  go_roundw
                  case rel => exact ⟨i + 1, by omega, by go_num, HQ.out⟩
                  case measure => simp [intOf]; omega
            · obtain rfl : i = cs.length := by omega
              rw [List.take_length] at hH
              have hK := hH.sub (L' := pZ9 u15 (cs.map fun c => sm9 l c % m) :: pVals u13 vs :: pBlk g6 (tv f g F) 29 :: pBlk g10 #[.slice A1 a.length c1, .slice A2 b.length c2, .slice A9 N c9] 25 :: pZ9 (.slice A9 N c9) bo :: pBlk w.heap.size (dv N f g) 31 :: rowsZ9 vs (R.take k)) (.cons_cons _ (.cons _ (.cons_cons _ (.cons_cons _ (.cons_cons _ (.cons_cons _ (.cons_cons _ (List.sublist_append_right _ _))))))))
              clear hH hil hi
              generalize (cs.map fun c => sm9 l c % m) = row at *
              have HOO := hide (valsZ_one9 0 hK rfl)
              obtain ⟨Av, cv, rfl⟩ : ∃ A c, u15 = .slice A row.length c := own_slice (hK.row 0 rfl)
              go_wp2_with (at_builtin; go_must (refine appRow (hK.alloc _) 1 rfl wr.heap.size (.slice Av row.length cv) HOO.out 25 ?_ (by have := HBV.out; omega) rfl _ _ rfl rfl rfl ?_))
              · exact heap_at _ _ _ rfl
              intro v' w' h1
              have h2 : Holds w w' (pZ9 (.slice Av row.length cv) row :: ([pVals v' (vs ++ [.slice Av row.length cv]), pBlk g6 (tv f g F) 29, pBlk g10 #[.slice A1 a.length c1, .slice A2 b.length c2, .slice A9 N c9] 25, pZ9 (.slice A9 N c9) bo, pBlk w.heap.size (dv N f g) 31] ++ rowsZ9 vs (R.take k))) := h1
              have h3 := h2.rowEndZ9 (by rw [List.length_take, HVS.out]; have := HR3.out; omega)
              rw [← HST.out] at h3
              have HQ := hide h3
              clear hK h1 h2 h3
              go_wp2
              go_roundw
              case rel => exact ⟨k + 1, vs ++ [_], by omega, by go_num, hide (by rw [List.length_append, HVS.out]; rfl), HQ.out⟩
              case measure => simp [intOf]; omega
        · obtain rfl : k = 3 := by omega
          rw [show R.take 3 = R from List.take_of_length_le (by have := HR3.out; omega)] at hH
          have HQ := hide (hH.sub (L' := pVals u13 vs :: rowsZ9 vs R) (.cons_cons _ (.cons _ (.cons _ (.cons _ (.cons _ (.refl _)))))))
          clear hlt hk hH
          go_wp2
          go_ret
          exact ⟨_, vs, rfl, HVS.out, HQ.out⟩
end Go.Proofs.Ytmapjjfefjoemaa

namespace Go.Proofs.Ytmapjjfefjoemaa
open Go.RowKit

/-- all are 0 -/
def zz9 (l : List Int) : Bool := l.all fun x => x == 0
theorem zz9_bad {l : List Int} {i : Nat} (h : i < l.length) (hx : (l[i] != 0) = true) : zz9 l = false := by
  unfold zz9
  rw [List.all_eq_false]
  exact ⟨_, List.getElem_mem h, by simpa using hx⟩
theorem zz9_good {l : List Int} (h : ∀ i (hi : i < l.length), (l[i] != 0) = false) : zz9 l = true := by
  unfold zz9
  rw [List.all_eq_true]
  intro x hx
  obtain ⟨i, hi, rfl⟩ := List.getElem_of_mem hx
  simpa using h i hi
theorem zz9_flat (ls : List (List Int)) : zz9 (flat9 ls) = ls.all zz9 := by
  unfold zz9 flat9
  induction ls with
  | nil => rfl
  | cons l ls ih => rw [List.flatten_cons, List.all_append, List.all_cons, ih]
open Classical in
noncomputable def ubR9 (n : Int) (f g : Nat → Nat) (m : Int) (a b : List Int) : Bool := if desB n f g = true then (if volB n m a b = true then zz9 (flat9 (sv9 f g n.toNat m a b)) else false) else false
theorem sv9_tot {f g : Nat → Nat} {N : Nat} (hd : DesN f g N) (m : Int) (a b : List Int) : totZ (sv9 f g N m a b) ≤ 48 := by
  obtain ⟨h1, h2⟩ := sv9_bound hd m a b
  have x0 := h2 (ml9 a f N m) (by simp [sv9])
  have x1 := h2 (ml9 b g N m) (by simp [sv9])
  have x2 := h2 (ml9 (both9 a b f N) (faceF f g N) N m) (by simp [sv9])
  unfold totZ sv9
  simp; omega
set_option maxRecDepth 100000 in
set_option maxHeartbeats 2000000 in
theorem isUnbranched_any (n : Int) (f g : Nat → Nat) (hf : ∀ i, f i < 256) (hg : ∀ i, g i < 256) (m : Int) (va : Value) (a : List Int) (vb : Value) (b : List Int) (w : World) (ha : RdZ w va a) (hb : RdZ w vb b) :
    Calls Try.prog 25 #[.agg (dv n f g), .int .i64 m, va, vb] w fun e w' => e = .returned (.tuple #[.bool (ubR9 n f g m a b), .int .i64 (vcd9 n f g m a b)]) ∧ Below w.heap.size w w' := by
  have CV := hide fun w ha hb => sumsOfVoltages_any n f g hf hg m va a vb b w ha hb
  clear hf hg
  have HH0 := (Holds.start w).blk (dv n f g) 31 w.heap.size rfl
  have HA := hide (ha.below HH0.low (Nat.le_refl _))
  have HB := hide (hb.below HH0.low (Nat.le_refl _))
  rcases h1 : desB n f g with _ | _
  · rw [show ubR9 n f g m a b = false from if_neg (by simp [h1])]
    have hV : vcd9 n f g m a b = 1 := if_neg (by simp [h1])
    clear h1 ha hb
    rw [hV] at CV ⊢
    clear hV
    go_enter Try.func25, Try.ntmps25
    go_wp2_with fail
    refine (CV.out _ HA.out HB.out).mono ?_
    rintro e w1 ⟨v, rfl, hb, _⟩
    have HH1 := HH0.call hb
    go_wp2
    go_ret2
    exact ⟨rfl, HH1.low⟩
  have hL : ubR9 n f g m a b = if volB n m a b = true then zz9 (flat9 (sv9 f g n.toNat m a b)) else false := if_pos h1
  have hC : vcd9 n f g m a b = if volB n m a b = true then 0 else 2 := if_pos h1
  rw [hL]
  clear hL
  rcases h2 : volB n m a b with _ | _
  · rw [if_neg (by decide)]
    have hV : vcd9 n f g m a b = 2 := by rw [hC, h2]; rfl
    clear h1 h2 ha hb hC
    rw [hV] at CV ⊢
    clear hV
    go_enter Try.func25, Try.ntmps25
    go_wp2_with fail
    refine (CV.out _ HA.out HB.out).mono ?_
    rintro e w1 ⟨v, rfl, hb, _⟩
    have HH1 := HH0.call hb
    go_wp2
    go_ret2
    exact ⟨rfl, HH1.low⟩
  rw [if_pos rfl]
  have hV : vcd9 n f g m a b = 0 := by rw [hC, h2]; rfl
  rw [hV] at CV ⊢
  have hS : svL9 n f g m a b = sv9 f g n.toNat m a b := by unfold svL9; rw [if_pos h1, if_pos h2]
  rw [hS] at CV
  obtain ⟨N, rfl, hd⟩ := desB_true h1
  rw [Int.toNat_natCast] at CV ⊢
  have HR3 := hide (sv9_bound hd m a b)
  have HRT := hide (sv9_tot hd m a b)
  generalize sv9 f g N m a b = R at *
  obtain ⟨r, hr⟩ : ∃ r, r = zz9 (flat9 R) := ⟨_, rfl⟩
  rw [← hr]
  have HR := hide hr
  clear hr h1 h2 hV hC hS hd ha hb
  go_enter Try.func25, Try.ntmps25
  go_wp2_with fail
  refine (CV.out _ HA.out HB.out).mono ?_
  rintro e w1 ⟨v, rfl, hb, ho⟩
  have HH1 := HH0.call hb
  clear HH0 hb
  obtain ⟨A, c, vs, rfl, ho2⟩ := own2Z_form ho
  have h3 := HR3.out
  have hrd := ho2.rd (by omega) (fun l hl => by have := h3.2 l hl; omega)
  have CC := hide (concat_any9 (.slice A R.length c) R (by have := HRT.out; omega) (by omega) w1 hrd)
  have HFL : Hid ((flat9 R).length ≤ 48) := hide (by rw [flat9_len]; exact HRT.out)
  clear ho ho2 h3 hrd
  generalize flat9 R = L at *
  go_wp2_with fail
  refine CC.out.mono ?_
  rintro e w2 ⟨u, rfl, hk⟩
  have H2 := HH1.joinL hk
  have HRU := hide (hk.rdZ9 0 rfl (by have := HFL.out; omega))
  obtain ⟨Au, cu, rfl⟩ : ∃ A c, u = .slice A L.length c := own_slice (hk.row 0 rfl)
  have LO := hide H2.low
  clear hk H2 HH1
  go_wp2
  go_loopw [28] (fun t wr => ∃ i : Nat, i ≤ L.length ∧ t = .int .i64 i ∧ Hid (∀ j (hj : j < L.length), j < i → (L[j] != 0) = false) ∧ w2 = wr) (fun t _ => L.length - (intOf t).toNat)
  case atStart => exact ⟨0, Nat.zero_le _, rfl, hide (fun j hj h => by omega), rfl⟩
  case round =>
    obtain ⟨i, hi, rfl, hZ, rfl⟩ := hrel
    have hfl := HFL.out
    by_cases hil : i < L.length
    · have hil' : (i : Int) < L.length := by omega
      obtain ⟨a0, rfl, _, d1⟩ := HRU.out.at hil
      rcases hz : (L[i] != 0) with _ | _
      · have hZ' := hide (fun (j : Nat) (hj : j < L.length) (h : j < i + 1) => (by
          by_cases e : j = i
          · subst e; exact hz
          · exact hZ.out j hj (by omega) : (L[j] != 0) = false))
        generalize L[i] = x at *
        go_wp2
        go_roundw
        case rel => exact ⟨i + 1, by omega, by go_num, hZ', by trivial⟩
        case measure => simp [intOf]; omega
      · have hF := hide (show r = false by rw [HR.out]; exact zz9_bad hil hz)
        generalize L[i] = x at *
        go_wp2
        go_ret2
        exact ⟨by rw [hF.out]; rfl, LO.out⟩
    · obtain rfl : i = L.length := by omega
      have hF := hide (show r = true by rw [HR.out]; exact zz9_good fun j hj => hZ.out j hj hj)
      clear hZ hi hil
      go_wp2
      go_ret2
      exact ⟨by rw [hF.out]; rfl, LO.out⟩
end Go.Proofs.Ytmapjjfefjoemaa

namespace Go.Proofs.Ytmapjjfefjoemaa
open Go.RowKit

set_option maxRecDepth 100000 in
set_option maxHeartbeats 2000000 in
theorem sIsUnbranched_any (n : Int) (f g : Nat → Nat) (hf : ∀ i, f i < 256) (hg : ∀ i, g i < 256) (m : Int) (va : Value) (a : List Int) (vb : Value) (b : List Int) (w : World) (ha : RdZ w va a) (hb : RdZ w vb b) :
    Calls Try.prog 24 #[.agg (dv n f g), .int .i64 m, va, vb] w fun e w' => e = .returned (.tuple #[.bool (ubR9 n f g m a b), .int .i64 (vcd9 n f g m a b)]) ∧ Below w.heap.size w w' := by
  have CV := hide fun w ha hb => l09Code_any n f g hf hg m va a vb b w ha hb
  clear hf hg
  have HH0 := (Holds.start w).blk (dv n f g) 31 w.heap.size rfl
  have HA := hide (ha.below HH0.low (Nat.le_refl _))
  have HB := hide (hb.below HH0.low (Nat.le_refl _))
  rcases h1 : desB n f g with _ | _
  · rw [show ubR9 n f g m a b = false from if_neg (by simp [h1])]
    have hV : vcd9 n f g m a b = 1 := if_neg (by simp [h1])
    clear h1 ha hb
    rw [hV] at CV ⊢
    clear hV
    go_enter Try.func24, Try.ntmps24
    go_wp2_with fail
    refine (CV.out _ HA.out HB.out).mono ?_
    rintro e w1 ⟨rfl, hb⟩
    have HH1 := HH0.call hb
    go_wp2
    go_ret2
    exact ⟨rfl, HH1.low⟩
  have hL : ubR9 n f g m a b = if volB n m a b = true then zz9 (flat9 (sv9 f g n.toNat m a b)) else false := if_pos h1
  have hC : vcd9 n f g m a b = if volB n m a b = true then 0 else 2 := if_pos h1
  rw [hL]
  clear hL
  rcases h2 : volB n m a b with _ | _
  · rw [if_neg (by decide)]
    have hV : vcd9 n f g m a b = 2 := by rw [hC, h2]; rfl
    clear h1 h2 ha hb hC
    rw [hV] at CV ⊢
    clear hV
    go_enter Try.func24, Try.ntmps24
    go_wp2_with fail
    refine (CV.out _ HA.out HB.out).mono ?_
    rintro e w1 ⟨rfl, hb⟩
    have HH1 := HH0.call hb
    go_wp2
    go_ret2
    exact ⟨rfl, HH1.low⟩
  rw [if_pos rfl]
  have hV : vcd9 n f g m a b = 0 := by rw [hC, h2]; rfl
  rw [hV] at CV ⊢
  obtain ⟨N, rfl, hd⟩ := desB_true h1
  rw [Int.toNat_natCast]
  obtain ⟨hm, la, lb, sa, sb⟩ := volB_true h2
  have CS := hide fun w ha hb => l09Sums_any f g N hd m hm va a vb b (by omega) (by omega) (fun x hx => by have := sa x hx; omega) (fun x hx => by have := sb x hx; omega) w ha hb
  have HR3 := hide (sv9_bound hd m a b)
  generalize sv9 f g N m a b = R at *
  obtain ⟨r, hr⟩ : ∃ r, r = zz9 (flat9 R) := ⟨_, rfl⟩
  rw [← hr]
  rw [zz9_flat] at hr
  have HR := hide hr
  clear hr h1 h2 hV hC sa sb hd la lb ha hb
  go_enter Try.func24, Try.ntmps24
  go_wp2_with fail
  refine (CV.out _ HA.out HB.out).mono ?_
  rintro e w1 ⟨rfl, hb⟩
  have HH1 := HH0.call hb
  have HA1 := hide (HA.out.below hb (Nat.le_refl _))
  have HB1 := hide (HB.out.below hb (Nat.le_refl _))
  have cd1 := HH1.cells 0 rfl
  clear hb HH0
  go_wp2_with fail
  refine (CS.out _ HA1.out HB1.out).mono ?_
  rintro e w2 ⟨v, vs, rfl, hl, hk⟩
  have LO := hide (HH1.joinL hk).low
  have ho := hk.own2z9 (by rw [hl, HR3.out.1])
  obtain ⟨A, c, rfl⟩ := ho.form
  have HO := hide ho
  have hR3 := HR3.out.1
  clear hk HH1 cd1 ho
  rw [hR3]
  rw [hR3] at HO
  go_wp2
  go_loopw [12] (fun t wr => ∃ k : Nat, k ≤ 3 ∧ t = .int .i64 k ∧ Hid (∀ j (hj : j < R.length), j < k → zz9 R[j] = true) ∧ w2 = wr) (fun t _ => 3 - (intOf t).toNat)
  case atStart => exact ⟨0, Nat.zero_le _, rfl, hide (fun j hj h => by omega), rfl⟩
  case round =>
    obtain ⟨k, hk, rfl, hZ, rfl⟩ := hrel
    by_cases hlt : k < 3
    · have hki : (k : Int) < 3 := by omega
      have hkR : k < R.length := by omega
      obtain ⟨gA, A', c', rfl, _, _, z1, hown⟩ := HO.out.at hkR
      have hln := HR3.out.2 _ (List.getElem_mem hkR)
      have HRU := hide (OwnZ.rd hown (by omega))
      have hZ1 := hide (fun (h : zz9 R[k] = true) => (fun (j : Nat) (hj : j < R.length) (h2 : j < k + 1) => (by
          by_cases e : j = k
          · subst e; exact h
          · exact hZ.out j hj (by omega) : zz9 R[j] = true)))
      have hZ2 := hide (fun (h : zz9 R[k] = false) => (by
          rw [HR.out, List.all_eq_false]
          exact ⟨_, List.getElem_mem hkR, by rw [h]; decide⟩ : r = false))
      clear hown hZ
      generalize R[k] = L at *
      go_wp2
      go_loopw [13] (fun t wr => ∃ i : Nat, i ≤ L.length ∧ t = .int .i64 i ∧ Hid (∀ j (hj : j < L.length), j < i → (L[j] != 0) = false) ∧ w2 = wr) (fun t _ => L.length - (intOf t).toNat)
      case atStart => exact ⟨0, Nat.zero_le _, rfl, hide (fun j hj h => by omega), by trivial⟩
      case round =>
        obtain ⟨i, hi, rfl, hY, rfl⟩ := hrel
        by_cases hil : i < L.length
        · have hil' : (i : Int) < L.length := by omega
          obtain ⟨a0, rfl, _, d1⟩ := HRU.out.at hil
          rcases hz : (L[i] != 0) with _ | _
          · have hY' := hide (fun (j : Nat) (hj : j < L.length) (h : j < i + 1) => (by
              by_cases e : j = i
              · subst e; exact hz
              · exact hY.out j hj (by omega) : (L[j] != 0) = false))
            generalize L[i] = x at *
            go_wp2
            go_roundw
            case rel => exact ⟨i + 1, by omega, by go_num, hY', by trivial⟩
            case measure => simp [intOf]; omega
          · have hF := hide (hZ2.out (zz9_bad hil hz))
            generalize L[i] = x at *
            go_wp2
            go_ret2
            exact ⟨by rw [hF.out]; rfl, LO.out⟩
        · obtain rfl : i = L.length := by omega
          have hF := hide (hZ1.out (zz9_good fun j hj => hY.out j hj hj))
          clear hY hi hil
          go_wp2
          go_roundw
          case rel => exact ⟨k + 1, by omega, by go_num, hF, by trivial⟩
          case measure => simp [intOf]; omega
    · obtain rfl : k = 3 := by omega
      have hF := hide (show r = true by
        rw [HR.out, List.all_eq_true]
        intro x hx
        obtain ⟨j, hj, rfl⟩ := List.getElem_of_mem hx
        exact hZ.out j hj (by omega))
      clear hZ hk hlt
      go_wp2
      go_ret2
      exact ⟨by rw [hF.out]; rfl, LO.out⟩
end Go.Proofs.Ytmapjjfefjoemaa

namespace Go.Proofs.Ytmapjjfefjoemaa
open Go.RowKit

set_option maxRecDepth 100000 in
set_option maxHeartbeats 400000 in
theorem eqDessin_same (n : Int) (f g : Nat → Nat) (w : World) : Calls Try.prog 28 #[.agg (dv n f g), .agg (dv n f g)] w fun e w' => e = .returned (.bool true) ∧ Below w.heap.size w w' := by
  have hn := dv_n n f g
  have hne : (n != n) = false := by simp
  go_enter Try.func28, Try.ntmps28
  go_wp2_with fail
  refine (eqPlaces_same f _).mono ?_
  rintro e w1 ⟨rfl, h1⟩
  have c0 : cellsOf w1 w.heap.size = dv n f g := (below_cells h1 (by simp <;> omega)).trans (cellsOf_heap (heap1 rfl))
  have c1 : cellsOf w1 (w.heap.size + 1) = dv n f g := (below_cells h1 (by simp <;> omega)).trans (cellsOf_heap (heap_at _ _ _ (by simp)))
  have b1 := (below2 w (.cells (dv n f g) 31) (.cells (dv n f g) 31)).trans (h1.mono (by simp <;> omega))
  have l1 := h1.size
  clear h1
  go_wp2_with fail
  refine (eqPlaces_same g _).mono ?_
  rintro e w2 ⟨rfl, h2⟩
  have b2 := b1.trans (h2.mono (by simp at l1; omega))
  clear b1 h2 c0 c1
  go_wp2
  go_ret
  exact ⟨rfl, b2⟩

end Go.Proofs.Ytmapjjfefjoemaa

namespace Go.Proofs.Ytmapjjfefjoemaa
open Go.RowKit

set_option maxRecDepth 100000 in
set_option maxHeartbeats 4000000 in
theorem fnExactIsUnbranched_walk (w : World) (n0 : Int) (f0 g0 : Nat → Nat) (_hn0 : -9223372036854775808 ≤ n0 ∧ n0 ≤ 9223372036854775807) (hf0 : ∀ i, f0 i < 256) (hg0 : ∀ i, g0 i < 256) (x1 : Int) (_hx1 : -9223372036854775808 ≤ x1 ∧ x1 ≤ 9223372036854775807) (v2 : Value) (l2 : List Int) (hv2 : RdZ w v2 l2) (_hz2 : fits64 l2) (v3 : Value) (l3 : List Int) (hv3 : RdZ w v3 l3) (_hz3 : fits64 l3) :
    Calls Try.prog 4 #[.agg (dv n0 f0 g0), .int .i64 x1, v2, v3] w fun e w' => e = .returned (.bool true) ∧ Below w.heap.size w w' := by
  clear _hn0 _hx1 _hz2 _hz3
  have c1 := fun (u2 : Value) (u3 : Value) (wx : World) (h2 : RdZ wx u2 l2) (h3 : RdZ wx u3 l3) => isUnbranched_any n0 f0 g0 hf0 hg0 x1 u2 l2 u3 l3 wx h2 h3
  have c2 := fun (u2 : Value) (u3 : Value) (wx : World) (h2 : RdZ wx u2 l2) (h3 : RdZ wx u3 l3) => sIsUnbranched_any n0 f0 g0 hf0 hg0 x1 u2 l2 u3 l3 wx h2 h3
  clear hf0 hg0
  generalize ubR9 n0 f0 g0 x1 l2 l3 = r at *
  generalize vcd9 n0 f0 g0 x1 l2 l3 = c at *
  have hne : (r != r) = false := by simp
  have hne2 : (c != c) = false := by simp
  have C1 := hide c1; clear c1
  have C2 := hide c2; clear c2
  obtain ⟨B2, d2, rfl, _⟩ := hv2.form
  have HV2 := hide hv2; clear hv2
  obtain ⟨B3, d3, rfl, _⟩ := hv3.form
  have HV3 := hide hv3; clear hv3
  by_cases hbig2 : (1048576 : Int) < l2.length
  · have hd2 := decide_eq_true hbig2
    clear hbig2
    have H0 := (Holds.start w).blk (dv n0 f0 g0) 24 w.heap.size rfl
    go_enter Try.func4, Try.ntmps4
    go_wp2
    go_ret
    exact ⟨rfl, H0.low⟩
  · have hd2 := decide_eq_false hbig2
    have hl2 : l2.length ≤ 1048576 := by omega
    clear hbig2
    by_cases hbig3 : (1048576 : Int) < l3.length
    · have hd3 := decide_eq_true hbig3
      clear hbig3
      have H0 := (Holds.start w).blk (dv n0 f0 g0) 24 w.heap.size rfl
      go_enter Try.func4, Try.ntmps4
      go_wp2
      go_ret
      exact ⟨rfl, H0.low⟩
    · have hd3 := decide_eq_false hbig3
      have hl3 : l3.length ≤ 1048576 := by omega
      clear hbig3
      have H0 := (Holds.start w).blk (dv n0 f0 g0) 24 w.heap.size rfl
      go_enter Try.func4, Try.ntmps4
      go_wp2_with fail
      refine (toDessin_any n0 f0 g0 _).mono ?_
      rintro e w1 ⟨rfl, hb⟩
      have H1 := H0.call hb
      clear hb H0
      go_wp2_with fail
      refine (toInt64S_any l2 _ _ (HV2.out.below H1.low (Nat.le_refl _)) hl2).mono ?_
      rintro e w2 ⟨_, rfl, hb, ho⟩
      obtain ⟨At2, ct2, rfl⟩ := own_slice ho
      have H2 := H1.newRow hb ho
      clear hb ho H1
      go_wp2_with fail
      refine (toInt64S_any l3 _ _ (HV3.out.below H2.low (Nat.le_refl _)) hl3).mono ?_
      rintro e w3 ⟨_, rfl, hb, ho⟩
      obtain ⟨At3, ct3, rfl⟩ := own_slice ho
      have H3 := H2.newRow hb ho
      clear hb ho H2
      go_wp2_with fail
      refine (C2.out _ _ _ (OwnZ.rd (show OwnZ w.heap.size _ _ l2 from H3.row 1 rfl) (by omega)) (OwnZ.rd (show OwnZ w.heap.size _ _ l3 from H3.row 0 rfl) (by omega))).mono ?_
      rintro e w4 ⟨rfl, hb⟩
      have H4 := H3.call hb
      clear hb H3
      have H5 : Holds w w4 _ := H4.sub (.cons _ (.cons _ (.cons_cons _ (.refl _))))
      clear H4
      go_wp2_with fail
      refine (toInt64S_any l2 _ _ (HV2.out.below H5.low (Nat.le_refl _)) hl2).mono ?_
      rintro e w5 ⟨_, rfl, hb, ho⟩
      obtain ⟨Ay2, cy2, rfl⟩ := own_slice ho
      have H6 := H5.newRow hb ho
      clear hb ho H5
      go_wp2_with fail
      refine (toInt64S_any l3 _ _ (HV3.out.below H6.low (Nat.le_refl _)) hl3).mono ?_
      rintro e w6 ⟨_, rfl, hb, ho⟩
      obtain ⟨Ay3, cy3, rfl⟩ := own_slice ho
      have H7 := H6.newRow hb ho
      clear hb ho H6
      have qD := H7.cells 2 rfl
      have rD := H7.lt 2 rfl
      go_wp2_with fail
      refine (toDessin_any n0 f0 g0 _).mono ?_
      rintro e w7 ⟨rfl, hb⟩
      clear qD rD
      have H8 := H7.call hb
      clear hb H7
      go_wp2_with fail
      refine (C1.out _ _ _ (OwnZ.rd (show OwnZ w.heap.size _ _ l2 from H8.row 1 rfl) (by omega)) (OwnZ.rd (show OwnZ w.heap.size _ _ l3 from H8.row 0 rfl) (by omega))).mono ?_
      rintro e w8 ⟨rfl, hb⟩
      have H9 := H8.call hb
      clear hb H8
      go_wp2_with fail
      refine (toInt64S_any l2 _ _ (HV2.out.below H9.low (Nat.le_refl _)) hl2).mono ?_
      rintro e w9 ⟨_, rfl, hb, ho⟩
      obtain ⟨Az2, cz2, rfl⟩ := own_slice ho
      have H10 := H9.newRow hb ho
      clear hb ho H9
      go_wp2_with fail
      refine (eqInt64S_rd l2 _ _ _ (OwnZ.rd (show OwnZ w.heap.size _ _ l2 from H10.row 2 rfl) (by omega)) (OwnZ.rd (show OwnZ w.heap.size _ _ l2 from H10.row 0 rfl) (by omega))).mono ?_
      rintro e w10 ⟨rfl, hb⟩
      have H11 := H10.call hb
      clear hb H10
      have H12 : Holds w w10 _ := H11.sub (.cons _ (.cons_cons _ (.cons_cons _ (.cons_cons _ (.refl _)))))
      clear H11
      go_wp2_with fail
      refine (toInt64S_any l3 _ _ (HV3.out.below H12.low (Nat.le_refl _)) hl3).mono ?_
      rintro e w11 ⟨_, rfl, hb, ho⟩
      obtain ⟨Az3, cz3, rfl⟩ := own_slice ho
      have H13 := H12.newRow hb ho
      clear hb ho H12
      go_wp2_with fail
      refine (eqInt64S_rd l3 _ _ _ (OwnZ.rd (show OwnZ w.heap.size _ _ l3 from H13.row 1 rfl) (by omega)) (OwnZ.rd (show OwnZ w.heap.size _ _ l3 from H13.row 0 rfl) (by omega))).mono ?_
      rintro e w12 ⟨rfl, hb⟩
      have H14 := H13.call hb
      clear hb H13
      have H15 : Holds w w12 _ := H14.sub (.cons _ (.cons_cons _ (.cons_cons _ (.cons_cons _ (.refl _)))))
      clear H14
      go_wp2
      go_ret
      exact ⟨rfl, H15.low⟩
end Go.Proofs.Ytmapjjfefjoemaa

