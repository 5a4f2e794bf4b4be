/- Texts put together: Chn2, ChI, ChM, ChO, ChA, ChS, ChW, ChW2, ChMd, Comm, GOrd, DrS, DrB, DrG, DSr, DrM, DrD, GReg, ChG, Mk1, HS3 -/
import Derived.Test.YtdoehnckolhloaaQcLawIsSolvable
import Derived.Test.YtdoehnckolhloaaChecked
import Derived.WalkKit
import Derived.WalkSpells
import Derived.WalkLawsBesides
import Derived.Deep.LoopGhost
import Derived.Deep.OwnRows
import Derived.Laws.Rows
import Derived.Laws.Tables
import Derived.Laws.CopyOwn
import Derived.ProofKit
import Derived.OpenShut
import Derived.ShutString
import Derived.ChangeOld
import Derived.Below
import Derived.Laws.CopyRow
import Derived.Deep.MidRow
import Derived.Laws.OwnMore
import Derived.Deep.Quiet
import Derived.Deep.QuietTactic
import Derived.BigQuiet
import Derived.StillTail
import Derived.RegionTactic
import Derived.ChangeKeysEq
import Derived.StillTailTactics
import Derived.Deep.RegionWith
import Derived.Deep.RegionHeld3
import Derived.Maps.Keyed
import Derived.DeepKeys4
import Derived.Maps.Own
import Derived.Carry
import Derived.Laws.Cover3
import Derived.Lib.Bytealg
import Derived.Lib.BytesEntry
import Derived.Laws.Externs
import Derived.Laws.StructEq
import Derived.WalkMore
namespace Go.Proofs.Ytdoehnckolhloaa
open Go.RowKit

theorem chv_setBy (n : Nat) (G : Nat → Value) (H : Nat → Bool) (B : Nat → Nat) {j : Nat} (hj : j < 256) (p : Nat → Nat) :
    ((chv n G H B).toList.take (273 + j * 16) ++ (av p).toList ++ (chv n G H B).toList.drop (273 + j * 16 + 16)).toArray = chv n G H (bset B j p) := by
  apply Array.ext_getElem?
  intro i
  have l1 : (chv n G H B).toList.length = 4369 := by rw [Array.length_toList, chv_size]
  have l2 : (av p).toList.length = 16 := by rw [Array.length_toList, av_size]
  have l3 : ((chv n G H B).toList.take (273 + j * 16)).length = 273 + j * 16 := by rw [List.length_take, l1]; omega
  have key : ∀ i, i < 4369 → ¬ (273 + j * 16 ≤ i ∧ i < 273 + j * 16 + 16) → (chv n G H B)[i]? = (chv n G H (bset B j p))[i]? := by
    intro i hi hc
    unfold chv
    rw [row_get _ _ hi, row_get _ _ hi]
    by_cases e : i < 273
    · by_cases e0 : i = 0
      · rw [if_pos e0, if_pos e0]
      · rw [if_neg e0, if_neg e0]
        by_cases e1 : i < 17
        · rw [if_pos e1, if_pos e1]
        · rw [if_neg e1, if_neg e1, if_pos e, if_pos e]
    · rw [if_neg (by omega), if_neg (by omega), if_neg e, if_neg (by omega), if_neg (by omega), if_neg e]
      unfold bset
      rw [if_neg (by omega)]
  rw [List.getElem?_toArray]
  by_cases h1 : i < 273 + j * 16
  · rw [List.append_assoc, List.getElem?_append_left (by rw [l3]; exact h1), List.getElem?_take_of_lt h1, Array.getElem?_toList]
    exact key i (by omega) (by omega)
  · rw [List.append_assoc, List.getElem?_append_right (by rw [l3]; omega), l3]
    by_cases h2 : i < 273 + j * 16 + 16
    · rw [List.getElem?_append_left (by rw [l2]; omega), Array.getElem?_toList, av_get _ (by omega)]
      have := chv_at n G H (bset B j p) (j := i - 273) (by omega)
      rw [show 273 + (i - 273) = i by omega] at this
      rw [this]
      unfold bset
      rw [if_pos (by omega), show i - 273 - j * 16 = i - (273 + j * 16) by omega]
    · rw [List.getElem?_append_right (by rw [l2]; omega), l2, List.getElem?_drop, show 273 + j * 16 + 16 + (i - (273 + j * 16) - 16) = i by omega, Array.getElem?_toList]
      rcases Nat.lt_or_ge i 4369 with c | c
      · exact key i c (by omega)
      · rw [Array.getElem?_eq_none (by rw [chv_size]; exact c), Array.getElem?_eq_none (by rw [chv_size]; exact c)]
theorem run_storeBy {w : World} {g n : Nat} {G : Nat → Value} {H : Nat → Bool} {B : Nat → Nat} (hr : rowOk w g 4369) (hc : cellsOf w g = chv n G H B) {j : Nat} (hj : j < 256) (p : Nat → Nat) :
    (storeT 27 (.pointer (some ⟨g, 273 + j * 16, none⟩)) (.agg (av p))).run Try.prog w = .ok .skip (w.setRow g (chv n G H (bset B j p))) := by
  rw [run_store_mid aggP hr (by omega) (av_size p) (av_cells p), hc, chv_setBy n G H B hj p]
theorem run_loadBy {w : World} {g n : Nat} {G : Nat → Value} {H : Nat → Bool} {B : Nat → Nat} (hc : cellsOf w g = chv n G H B) {j : Nat} (hj : j < 256) :
    (loadT 27 (.pointer (some ⟨g, 273 + j * 16, none⟩))).run Try.prog w = .ok (.value (.agg (av fun i => B (j * 16 + i)))) w :=
  run_load_mid aggP (by rw [hc]; exact chv_by n G H B hj) (av_size _)
set_option maxRecDepth 100000 in
theorem builtCh (n : Nat) : Try.prog.built 155 [(0, .int .i64 n)] = some (chv n (fun _ => .slice none 0 0) (fun _ => false) (fun _ => 0)) := by
  have hu : Try.prog.underlying 155 = some (.struct _) := Try.underlying155
  have hz := chv_zero
  unfold Program.built
  rcases hi : Try.prog.info? 155 with _ | it
  · rw [hi] at hz; cases hz
  · rw [hi] at hz
    have hz' : it.zero = some (.agg (chv 0 (fun _ => .slice none 0 0) (fun _ => false) (fun _ => 0))) := by simpa using hz
    rw [hu]
    simp only [hz']
    generalize he : List.mapM (fun (f : Field) => Option.map (fun i => (f.offset, i.size)) (Try.prog.info? f.type)) _ = z
    have hz2 : z = some [(0, 1), (1, 16), (17, 256), (273, 4096)] := he.symm.trans (by kernel_rfl)
    subst hz2
    simp only [Instr.fill, Value.cells, List.getElem?_toArray, List.getElem?_cons_zero, splice_eq, chv_size]
    rw [if_neg (by simp)]
    congr 1
    apply Array.ext_getElem?
    intro i
    rw [foldset, chv_size]
    by_cases h0 : i = 0
    · subst h0; rw [if_pos (by simp)]; rw [chv_n]; rfl
    · rw [if_neg (by simp; omega)]
      unfold chv
      by_cases c : i < 4369
      · rw [row_get _ _ c, row_get _ _ c, if_neg h0, if_neg h0]
      · rw [row_none _ _ c, row_none _ _ c]
def buildCh (ps : Array (Nat × Value)) : Sem Next := do pure (.value (← Instr.build 155 ps))
@[go_sem ↓] theorem exec_buildCh (ρ : Operand → Value) (dst : Option Tmp) (parts : Array (Nat × Operand)) (ty : TypeId) (pos : String) (after : Array Edge) (guard : Option (Nat × Bool)) :
    execOp ρ { dst, op := .build 155 parts, type := ty, pos, after, guard } = buildCh (parts.map fun (i, x) => (i, ρ x)) := rfl
@[go_sem] theorem run_buildCh (n : Nat) (w : World) : (buildCh #[(0, .int .i64 n)]).run Try.prog w = .ok (.value (.agg (chv n (fun _ => .slice none 0 0) (fun _ => false) (fun _ => 0)))) w := by
  simp only [buildCh, Sem.run_bind, run_build (P := Try.prog) w 155 #[(0, .int .i64 n)] _ (builtCh n), Result.andThen_ok, Sem.run_pure]
end Go.Proofs.Ytdoehnckolhloaa

namespace Go.Proofs.Ytdoehnckolhloaa
open Go.RowKit

def byF (B : Nat → Nat) (j : Nat) : Nat → Nat := fun i => B (j * 16 + i)
/-- whether a permutation is used up by the ways from a level on -/
def insideT (H : Nat → Bool) (B : Nat → Nat) (n : Nat) : Nat → (Nat → Nat) → Bool
  | 0, _ => true
  | j + 1, p => if H ((n - (j + 1)) * 16 + p (n - (j + 1))) then insideT H B n j (thenF p (backF (byF B ((n - (j + 1)) * 16 + p (n - (j + 1)))) n) n) else false
theorem inside_yes {H : Nat → Bool} {B : Nat → Nat} {n x : Nat} {q : Nat → Nat} (hx : x < n) (h : H (x * 16 + q x) = true) : insideT H B n (n - x) q = insideT H B n (n - (x + 1)) (thenF q (backF (byF B (x * 16 + q x)) n) n) := by
  obtain ⟨j, hj⟩ : ∃ j, n - x = j + 1 := ⟨n - x - 1, by omega⟩
  rw [hj, insideT, show n - (j + 1) = x by omega, if_pos h, show n - (x + 1) = j by omega]
theorem inside_no {H : Nat → Bool} {B : Nat → Nat} {n x : Nat} {q : Nat → Nat} (hx : x < n) (h : H (x * 16 + q x) = false) : insideT H B n (n - x) q = false := by
  obtain ⟨j, hj⟩ : ∃ j, n - x = j + 1 := ⟨n - x - 1, by omega⟩
  rw [hj, insideT, show n - (j + 1) = x by omega, if_neg (by rw [h]; simp)]
def ChAt (w : World) (g n : Nat) (G : Nat → Value) (H : Nat → Bool) (B : Nat → Nat) : Prop := (pBlk g (chv n G H B) 155).ok w
theorem ChAt.below {w w' : World} {g n : Nat} {G : Nat → Value} {H : Nat → Bool} {B : Nat → Nat} (h : ChAt w g n G H B) (hb : Below w.heap.size w w') : ChAt w' g n G H B :=
  (pBlk g (chv n G H B) 155).keep _ _ h fun k hk => hb.block k ((pBlk g (chv n G H B) 155).lt _ _ h hk)
theorem ChAt.cell {w : World} {g n : Nat} {G : Nat → Value} {H : Nat → Bool} {B : Nat → Nat} (h : ChAt w g n G H B) {i : Nat} {v : Value} (hv : (chv n G H B)[i]? = some v) : w.cell? ⟨g, i, none⟩ = some v := by
  rw [cell_of_cells, cellsOf_heap h]; exact hv

set_option maxRecDepth 100000 in
set_option maxHeartbeats 600000 in
theorem l03Inside_any (m : Nat) (hm : m ≤ 16) (g : Nat) (G : Nat → Value) (H : Nat → Bool) (B : Nat → Nat) (hBy : ∀ j, j < 256 → H j = true → PermN (byF B j) m) (k : Nat) (hk : k ≤ m) (p : Nat → Nat) (hp : PermN p m) (w : World) (hS : ChAt w g m G H B) :
    Calls Try.prog 129 #[.pointer (some ⟨g, 0, none⟩), .int .i64 k, .agg (av p)] w fun e w' => e = .returned (.bool (insideT H B m (m - k) p)) ∧ Below w.heap.size w w' := by
  have HS := hide hS; clear hS
  have HBY := hide hBy; clear hBy
  have hgs : g < w.heap.size := lt_of_some HS.out
  have HH := (Holds.start w).blk (av p) 27 w.heap.size rfl
  obtain ⟨RES, hRES⟩ : ∃ RES, RES = insideT H B m (m - k) p := ⟨_, rfl⟩
  rw [← hRES]
  have HR := hide hRES; clear hRES
  go_enter Try.func129, Try.ntmps129
  go_wp2
  generalize w.alloc (.cells (av p) 27) = w1 at *
  go_loopw [1] (fun t wr => ∃ (x : Nat) (q : Nat → Nat), x ≤ m ∧ t = .int .i64 x ∧ PermN q m ∧ RES = insideT H B m (m - x) q ∧ Holds w wr [pBlk w.heap.size (av q) 27]) (fun t _ => m - (intOf t).toNat)
  case atStart => exact ⟨k, p, hk, rfl, hp, HR.out, HH⟩
  case round =>
    clear HH HR hp
    obtain ⟨x, q, hx, rfl, hq, hres, hH⟩ := hrel
    have HRES := hide hres; clear hres
    have HQ := hide hq; clear hq
    have hSr := HS.out.below hH.low
    have n0 := hSr.cell (chv_n m G H B)
    by_cases hxm : x < m
    · have hx16 : (x : Int) < 16 := by omega
      have hxm' : (x : Int) < m := by omega
      have hqx : q x < m := HQ.out.2.2.1.1 x hxm
      have hqx16 : q x < 16 := by omega
      have hqxi : ((q x : Nat) : Int) < 16 := by omega
      have hj : x * 16 + q x < 256 := by omega
      have y1 := hH.cell 0 rfl (av_get q (i := x) (by omega))
      have y2 : wr.cell? ⟨g, 17 + x * 16 + q x, none⟩ = some (.bool (H (x * 16 + q x))) := by rw [Nat.add_assoc]; exact hSr.cell (chv_has m G H B hj)
      have hyes := inside_yes (H := H) (B := B) (q := q) hxm
      have hno := inside_no (H := H) (B := B) (q := q) hxm
      have hby := HBY.out _ hj
      have HYES := hide hyes; clear hyes
      have HNO := hide hno; clear hno
      have HBP := hide hby; clear hby
      clear hSr
      rcases hb : H (x * 16 + q x) with _ | _
      · rw [hb] at y2
        have hr0 := HNO.out hb
        have hrr : RES = false := by rw [HRES.out, hr0]
        clear hr0
        subst hrr
        go_wp2
        go_ret
        exact ⟨rfl, hH.low⟩
      · rw [hb] at y2
        have hyq := HYES.out hb
        have hpj := HBP.out hb
        obtain ⟨u, hu⟩ : ∃ u, u = byF B (x * 16 + q x) := ⟨_, rfl⟩
        rw [← hu] at hyq hpj
        have hrr : RES = insideT H B m (m - (x + 1)) (thenF q (backF u m) m) := by rw [HRES.out, hyq]
        have HRR := hide hrr; clear hrr hyq
        have HU := hide hu; clear hu
        have hq2 : PermN (thenF q (backF u m) m) m := thenF_perm HQ.out (backF_perm hpj)
        have HQ2 := hide hq2; clear hq2
        have CU := hide fun w => sBack_any u m hm (fun i hi => hpj.lt i (by omega)) w
        have CF := hide fun w => sThen_any q (backF u m) m hm (fun i hi => HQ.out.lt i (by omega)) w
        clear hpj
        have nS : ∀ wx, Holds w wx [pBlk w.heap.size (av q) 27] → wx.cell? ⟨g, 0, none⟩ = some (.int .i64 m) ∧ (loadT 27 (.pointer (some ⟨g, 273 + x * 256 + q x * 16, none⟩))).run Try.prog wx = .ok (.value (.agg (av u))) wx := fun wx hx' => by
          have h1 := HS.out.below hx'.low
          refine ⟨h1.cell (chv_n m G H B), ?_⟩
          have h2 := run_loadBy (cellsOf_heap h1) hj
          rw [show 273 + x * 256 + q x * 16 = 273 + (x * 16 + q x) * 16 by omega, HU.out]
          exact h2
        have NS := hide nS; clear nS
        go_wp2
        clear n0 y1 y2
        refine region_tail (fun wx => Holds w wx _) 19 (by kernel_rfl) (by kernel_rfl) hH.drew ?_
        simp only [List.take_succ_cons, List.take_zero, List.drop_succ_cons, List.drop_zero]
        iterate 13
          apply q_step
          · go_simp
          · intro wx hx
            have q1 := hx.cells 0 rfl
            have q3 := (NS.out wx hx).1
            have q4 := (NS.out wx hx).2
            go_simp
            try exact rfl
        iterate 1
          apply q_step
          · go_simp
          · intro wx hx
            have q1 := hx.cells 0 rfl
            have q3 := (NS.out wx hx).1
            have q4 := (NS.out wx hx).2
            go_simp
            exact Calls.mono (CU.out wx) fun e w' h => ⟨h.1, hx.call h.2⟩
        iterate 4
          apply q_step
          · go_simp
          · intro wx hx
            have q1 := hx.cells 0 rfl
            have q3 := (NS.out wx hx).1
            have q4 := (NS.out wx hx).2
            go_simp
            try exact rfl
        iterate 1
          apply q_step
          · go_simp
          · intro wx hx
            have q1 := hx.cells 0 rfl
            have q3 := (NS.out wx hx).1
            have q4 := (NS.out wx hx).2
            go_simp
            exact Calls.mono (CF.out wx) fun e w' h => ⟨h.1, hx.call h.2⟩
        refine wpQuiet_nil ?_
        intro w4 H4
        have rr := H4.rowOk 0 rfl (av_size _)
        have H5 := H4.setRow 0 rfl (av (thenF q (backF u m) m))
        go_wp2
        go_roundw
        case rel => exact ⟨x + 1, thenF q (backF u m) m, by omega, by go_num, HQ2.out, HRR.out, H5⟩
        case measure => simp [intOf]; omega
    · obtain ⟨X, hX⟩ : ∃ X, X = m := ⟨_, rfl⟩
      obtain rfl : X = x := by omega
      have hres : RES = true := by rw [HRES.out, hX, Nat.sub_self]; rfl
      subst hres
      rw [hX]
      clear hxm hx hX hSr
      go_wp2
      go_ret
      exact ⟨rfl, hH.low⟩
end Go.Proofs.Ytdoehnckolhloaa

namespace Go.Proofs.Ytdoehnckolhloaa

theorem back_at' {p : Nat → Nat} {m y : Nat} (h : PermN p m) (hy : y < m) : p (backF p m y) = y :=
  (backF_perm h).2.2.1.2 _ _ (h.2.2.1.1 _ ((backF_perm h).2.2.1.1 y hy)) hy (backF_at h.2.2.1 ((backF_perm h).2.2.1.1 y hy))
/-- the ways of a level of the chain -/
def Uc (H : Nat → Bool) (B : Nat → Nat) (n : Nat) : Nat → List (Nat → Nat) := fun k => ((List.range n).filter fun x => H (k * 16 + x)).map fun x => byF B (k * 16 + x)
theorem Uc_mem {H : Nat → Bool} {B : Nat → Nat} {n k : Nat} {u : Nat → Nat} : u ∈ Uc H B n k ↔ ∃ x, x < n ∧ H (k * 16 + x) = true ∧ u = byF B (k * 16 + x) := by
  unfold Uc
  rw [List.mem_map]
  constructor
  · rintro ⟨x, hx, rfl⟩
    obtain ⟨h1, h2⟩ := List.mem_filter.1 hx
    exact ⟨x, List.mem_range.1 h1, h2, rfl⟩
  · rintro ⟨x, h1, h2, rfl⟩
    exact ⟨x, List.mem_filter.2 ⟨List.mem_range.2 h1, h2⟩, rfl⟩
theorem inside_in {H : Nat → Bool} {B : Nat → Nat} {n : Nat} (hn : n ≤ 16) (hb : ∀ k x, k < n → x < n → H (k * 16 + x) = true → PermN (byF B (k * 16 + x)) n ∧ (∀ z, z < k → byF B (k * 16 + x) z = z) ∧ byF B (k * 16 + x) k = x) :
    ∀ j, j ≤ n → ∀ p, PermN p n → (∀ x, x < n - j → p x = x) → (insideT H B n j p = true ↔ In n (Uc H B n) (n - j) p)
  | 0, _, p, _, hx => by
    rw [Nat.sub_zero] at hx ⊢
    exact ⟨fun _ => .done hx, fun _ => rfl⟩
  | j + 1, hj, p, hp, hx => by
    obtain ⟨k, hk⟩ : ∃ k, k = n - (j + 1) := ⟨_, rfl⟩
    have hk1 : n - j = k + 1 := by omega
    have hkn : k < n := by omega
    rw [insideT, ← hk]
    rw [← hk] at hx
    have hpk : p k < n := hp.2.2.1.1 k hkn
    have rest : H (k * 16 + p k) = true → PermN (thenF p (backF (byF B (k * 16 + p k)) n) n) n ∧ ∀ x, x < n - j → thenF p (backF (byF B (k * 16 + p k)) n) n x = x := by
      intro h
      obtain ⟨b1, b2, b3⟩ := hb k (p k) hkn hpk h
      refine ⟨thenF_perm hp (backF_perm b1), fun x hx' => ?_⟩
      rw [thenF_at (by omega)]
      by_cases c : x = k
      · subst c
        have := backF_at b1.2.2.1 hkn
        rwa [b3] at this
      · have e1 := hx x (by omega)
        have := backF_at b1.2.2.1 (show x < n by omega)
        rw [b2 x (by omega)] at this
        rw [e1]; exact this
    constructor
    · intro h
      split at h
      · rename_i hh
        obtain ⟨b1, b2, b3⟩ := hb k (p k) hkn hpk hh
        obtain ⟨r1, r2⟩ := rest hh
        have ih := (inside_in hn hb j (by omega) _ r1 r2).1 h
        rw [hk1] at ih
        refine .step hkn (Uc_mem.2 ⟨p k, hpk, hh, rfl⟩) ih fun x hx' => ?_
        rw [thenF_at hx']
        exact (back_at' b1 (hp.2.2.1.1 x hx')).symm
      · cases h
    · intro h
      cases h with
      | done e => omega
      | step h1 hu hq e =>
        rename_i u q
        obtain ⟨x, hxn, hh, rfl⟩ := Uc_mem.1 hu
        obtain ⟨b1, b2, b3⟩ := hb k x hkn hxn hh
        have hqk : q k = k := hq.fix (fun k' hk' u' hu' z hz => by
          obtain ⟨x', hx', hh', rfl⟩ := Uc_mem.1 hu'
          exact (hb k' x' hk' hx' hh').2.1 z hz) k (by omega)
        have hpx : p k = x := by rw [e k hkn, hqk, b3]
        subst hpx
        rw [if_pos hh]
        obtain ⟨r1, r2⟩ := rest hh
        refine (inside_in hn hb j (by omega) _ r1 r2).2 ?_
        rw [hk1]
        have hqb : Bij q n := hq.bij fun k' hk' u' hu' => by
          obtain ⟨x', hx', hh', rfl⟩ := Uc_mem.1 hu'
          exact (hb k' x' hk' hx' hh').1.2.2.1
        refine hq.ext fun z hz => ?_
        rw [thenF_at hz, e z hz]
        exact (backF_at b1.2.2.1 (hqb.1 z hz)).symm
end Go.Proofs.Ytdoehnckolhloaa

namespace Go.Proofs.Ytdoehnckolhloaa
open Go.RowKit

/-- how many darts a level reaches, of those below x; the product over the levels below k -/
def cntH (H : Nat → Bool) (k : Nat) : Nat → Nat
  | 0 => 0
  | x + 1 => if H (k * 16 + x) then cntH H k x + 1 else cntH H k x
def ordH (H : Nat → Bool) (n : Nat) : Nat → Nat
  | 0 => 1
  | k + 1 => ordH H n k * cntH H k n
theorem cntH_le (H : Nat → Bool) (k : Nat) : ∀ x, cntH H k x ≤ x
  | 0 => Nat.le_refl _
  | x + 1 => by have := cntH_le H k x; rw [cntH]; split <;> omega

set_option maxRecDepth 100000 in
set_option maxHeartbeats 1000000 in
theorem l03Order_any (m : Nat) (hm : m ≤ 16) (g : Nat) (G : Nat → Value) (H : Nat → Bool) (B : Nat → Nat) (hO : ∀ k, k ≤ m → ordH H m k ≤ 9223372036854775807) (w : World) (hS : ChAt w g m G H B) :
    Calls Try.prog 108 #[.pointer (some ⟨g, 0, none⟩)] w fun e w' => e = .returned (.int .i64 (ordH H m m)) ∧ w' = w := by
  have n0 := hS.cell (chv_n m G H B)
  have HS := hide hS; clear hS
  have HO := hide hO; clear hO
  go_enter Try.func108, Try.ntmps108
  go_wp2
  go_loopw [3, 4] (fun o t wr => ∃ k : Nat, k ≤ m ∧ t = .int .i64 k ∧ o = .int .i64 (ordH H m k) ∧ w = wr) (fun _ t _ => m - (intOf t).toNat)
  case atStart => exact ⟨0, by omega, rfl, rfl, rfl⟩
  case round =>
    obtain ⟨k, hk, rfl, rfl, rfl⟩ := hrel
    by_cases hkm : k < m
    · have hk16 : (k : Int) < 16 := by omega
      have hkm' : (k : Int) < m := by omega
      have ho1 := HO.out (k + 1) (by omega)
      have ho2 : ordH H m (k + 1) = ordH H m k * cntH H k m := rfl
      rw [ho2] at ho1
      have HO2 := hide ho2; clear ho2
      obtain ⟨o, ho⟩ : ∃ o, o = ordH H m k := ⟨_, rfl⟩
      rw [← ho] at ho1 HO2
      rw [← ho]
      clear ho
      go_wp2
      go_loopw [5, 6] (fun c t wr => ∃ x : Nat, x ≤ m ∧ t = .int .i64 x ∧ c = .int .i64 (cntH H k x) ∧ w = wr) (fun _ t _ => m - (intOf t).toNat)
      case atStart => exact ⟨0, by omega, rfl, rfl, rfl⟩
      case round =>
        obtain ⟨x, hx, rfl, rfl, rfl⟩ := hrel
        by_cases hxm : x < m
        · have hx16 : (x : Int) < 16 := by omega
          have hxm' : (x : Int) < m := by omega
          have y2 : w.cell? ⟨g, 17 + k * 16 + x, none⟩ = some (.bool (H (k * 16 + x))) := by rw [Nat.add_assoc]; exact HS.out.cell (chv_has m G H B (by omega))
          have hcl := cntH_le H k x
          have hst : cntH H k (x + 1) = if H (k * 16 + x) then cntH H k x + 1 else cntH H k x := rfl
          have HST := hide hst; clear hst
          obtain ⟨c, hc⟩ : ∃ c, c = cntH H k x := ⟨_, rfl⟩
          rw [← hc] at hcl HST
          rw [← hc]
          clear hc
          have hwr : IntKind.i64.wrap ((c : Int) + 1) = (c : Int) + 1 := by rw [IntKind.wrap_i64]; omega
          rcases hb : H (k * 16 + x) with _ | _
          · rw [hb] at y2 HST
            go_wp2
            go_roundw
            case rel => exact ⟨x + 1, by omega, by go_num, by rw [HST.out]; rfl, by trivial⟩
            case measure => simp [intOf]; omega
          · rw [hb] at y2 HST
            go_wp2
            go_roundw
            case rel => exact ⟨x + 1, by omega, by go_num, by rw [HST.out]; rfl, by trivial⟩
            case measure => simp [intOf]; omega
        · obtain rfl : x = m := by omega
          clear hxm hx
          have hw : IntKind.i64.wrap (((o * cntH H k x : Nat)) : Int) = ((o * cntH H k x : Nat) : Int) := by rw [IntKind.wrap_i64]; omega
          have hwm : wrap64 ((o : Int) * (cntH H k x : Int)) = ((o * cntH H k x : Nat) : Int) := by rw [← Int.natCast_mul, ← IntWalk.i64_left]; exact hw
          have HWM := hide hwm; clear hwm hw
          go_wp2
          go_roundw
          case rel => exact ⟨k + 1, by omega, by go_num, by rw [HO2.out, Int.natCast_mul], by trivial⟩
          case measure => simp [intOf]; omega
    · obtain rfl : k = m := by omega
      go_wp2
      go_ret
      exact ⟨rfl, rfl⟩
end Go.Proofs.Ytdoehnckolhloaa

namespace Go.Proofs.Ytdoehnckolhloaa

/-- the number of entries that stand -/
def totH (H : Nat → Bool) : Nat → Nat
  | 0 => 0
  | j + 1 => totH H j + if H j then 1 else 0
theorem totH_le (H : Nat → Bool) : ∀ j, totH H j ≤ j
  | 0 => Nat.le_refl _
  | j + 1 => by have := totH_le H j; rw [totH]; split <;> omega
theorem totH_mono {H H' : Nat → Bool} (h : ∀ j, H j = true → H' j = true) : ∀ j, totH H j ≤ totH H' j
  | 0 => Nat.le_refl _
  | j + 1 => by
    have h1 := totH_mono h j
    have h2 := h j
    rw [totH, totH]
    rcases e : H j with _ | _
    · simp; omega
    · rw [h2 e]; simp; exact h1
theorem totH_same {H H' : Nat → Bool} (h : ∀ j, H j = true → H' j = true) : ∀ j, totH H' j ≤ totH H j → ∀ i, i < j → H' i = H i
  | 0, _, i, hi => by omega
  | j + 1, hle, i, hi => by
    have h1 := totH_mono h j
    have h2 := h j
    rw [totH, totH] at hle
    have hj : H' j = H j := by
      rcases e : H j with _ | _
      · rcases e' : H' j with _ | _
        · rfl
        · rw [e, e'] at hle; simp at hle; omega
      · exact h2 e
    rw [hj] at hle
    rcases Nat.lt_or_ge i j with c | c
    · exact totH_same h j (by omega) i c
    · obtain rfl : i = j := by omega
      exact hj
theorem totH_set {H : Nat → Bool} {i : Nat} (h : H i = false) : ∀ j, i < j → totH (hset H i true) j = totH H j + 1 := by
  have low : ∀ j, j ≤ i → totH (hset H i true) j = totH H j := by
    intro j
    induction j with
    | zero => intro _; rfl
    | succ j ih =>
      intro hj
      have e : hset H i true j = H j := by unfold hset; rw [if_neg (by omega)]
      rw [totH, totH, ih (by omega), e]
  intro j
  induction j with
  | zero => intro hj; omega
  | succ j ih =>
    intro hj
    rw [totH, totH]
    rcases Nat.lt_or_ge i j with c | c
    · rw [ih c]
      have : hset H i true j = H j := by unfold hset; rw [if_neg (by omega)]
      rw [this]; omega
    · obtain rfl : i = j := by omega
      rw [low i (Nat.le_refl _), h]
      have : hset H i true i = true := by unfold hset; rw [if_pos rfl]
      rw [this]; simp

/-- all levels keep what they must -/
structure Lv (n : Nat) (H : Nat → Bool) (B : Nat → Nat) (M : Nat → List (Nat → Nat)) : Prop where
  way : ∀ k x, k < n → x < n → H (k * 16 + x) = true → PermN (byF B (k * 16 + x)) n ∧ (∀ z, z < k → byF B (k * 16 + x) z = z) ∧ byF B (k * 16 + x) k = x ∧ Gen n (Mk n M k) (byF B (k * 16 + x))
  one : ∀ k, k < n → H (k * 16 + k) = true ∧ EqN n (byF B (k * 16 + k)) (fun x => x)
  mks : ∀ k, k < n → ∀ s ∈ M k, PermN s n ∧ ∀ x, x < k → s x = x
  down : ∀ k, k + 1 < n → ∀ s ∈ M (k + 1), Gen n (Mk n M k) s
  dom : ∀ j, j < 256 → H j = true → j / 16 < n ∧ j % 16 < n
/-- from a level on, products of ways and makers are products of ways -/
def Pr (n : Nat) (H : Nat → Bool) (B : Nat → Nat) (M : Nat → List (Nat → Nat)) (k0 : Nat) : Prop :=
  ∀ k x, k0 ≤ k → k < n → x < n → H (k * 16 + x) = true → ∀ s ∈ M k, In n (Uc H B n) k (fun z => s (byF B (k * 16 + x) z))
/-- nothing is lost -/
structure Ext (n : Nat) (H : Nat → Bool) (B : Nat → Nat) (M : Nat → List (Nat → Nat)) (H' : Nat → Bool) (B' : Nat → Nat) (M' : Nat → List (Nat → Nat)) : Prop where
  has : ∀ j, H j = true → H' j = true
  by' : ∀ k x, k < n → x < n → H (k * 16 + x) = true → EqN 16 (byF B' (k * 16 + x)) (byF B (k * 16 + x))
  mks : ∀ k, ∀ s ∈ M k, s ∈ M' k
/-- a level is as it was -/
def LvSame (n : Nat) (H : Nat → Bool) (B : Nat → Nat) (M : Nat → List (Nat → Nat)) (H' : Nat → Bool) (B' : Nat → Nat) (M' : Nat → List (Nat → Nat)) (k : Nat) : Prop :=
  M' k = M k ∧ ∀ x, x < n → H' (k * 16 + x) = H (k * 16 + x) ∧ EqN 16 (byF B' (k * 16 + x)) (byF B (k * 16 + x))
def Bd (M : Nat → List (Nat → Nat)) (H : Nat → Bool) (k : Nat) : Prop := ∀ j, k ≤ j → (M j).length ≤ totH H 256
theorem PermN.congr {n : Nat} {p q : Nat → Nat} (h : PermN p n) (e : EqN 16 q p) : PermN q n := by
  have h2 := h.2.1
  exact ⟨h.1, h.2.1, h.2.2.1.congr fun x hx => (e x (by omega)).symm, fun i h1 h3 => by rw [e i h3]; exact h.2.2.2 i h1 h3⟩
section
variable {n : Nat} {H H' H2 : Nat → Bool} {B B' B2 : Nat → Nat} {M M' M2 : Nat → List (Nat → Nat)}
theorem Ext.refl (H : Nat → Bool) (B : Nat → Nat) (M : Nat → List (Nat → Nat)) : Ext n H B M H B M := ⟨fun _ h => h, fun _ _ _ _ _ _ _ => rfl, fun _ _ h => h⟩
theorem Ext.trans (h : Ext n H B M H' B' M') (k : Ext n H' B' M' H2 B2 M2) : Ext n H B M H2 B2 M2 :=
  ⟨fun j hj => k.has j (h.has j hj), fun i x hi hx hh => (k.by' i x hi hx (h.has _ hh)).trans (h.by' i x hi hx hh), fun i s hs => k.mks i s (h.mks i s hs)⟩
theorem LvSame.refl (k : Nat) : LvSame n H B M H B M k := ⟨rfl, fun _ _ => ⟨rfl, fun _ _ => rfl⟩⟩
theorem LvSame.trans {k : Nat} (h : LvSame n H B M H' B' M' k) (h' : LvSame n H' B' M' H2 B2 M2 k) : LvSame n H B M H2 B2 M2 k :=
  ⟨h'.1.trans h.1, fun x hx => ⟨(h'.2 x hx).1.trans (h.2 x hx).1, (h'.2 x hx).2.trans (h.2 x hx).2⟩⟩
theorem Lv.ub (h : Lv n H B M) : ∀ k, k < n → ∀ u ∈ Uc H B n k, Bij u n := fun k hk u hu => by
  obtain ⟨x, hx, hh, rfl⟩ := Uc_mem.1 hu
  exact (h.way k x hk hx hh).1.2.2.1
theorem In.ext' {k : Nat} {p : Nat → Nat} (hn : n ≤ 16) (hl : Lv n H B M) (h : In n (Uc H B n) k p) (e : Ext n H B M H' B' M') : In n (Uc H' B' n) k p := by
  induction h with
  | done h => exact .done h
  | step h1 h2 h3 h4 ih =>
    obtain ⟨x, hx, hh, rfl⟩ := Uc_mem.1 h2
    have hb := h3.bij hl.ub
    exact .step h1 (Uc_mem.2 ⟨x, hx, e.has _ hh, rfl⟩) ih fun z hz => by rw [h4 z hz]; exact (e.by' _ x h1 hx hh _ (by have := hb.1 z hz; omega)).symm
theorem Lv.inside (h : Lv n H B M) (hn : n ≤ 16) {k : Nat} (hk : k ≤ n) {p : Nat → Nat} (hp : PermN p n) (hx : ∀ x, x < k → p x = x) : insideT H B n (n - k) p = true ↔ In n (Uc H B n) k p := by
  have := inside_in hn (H := H) (B := B) (fun k x hk hx hh => by have := h.way k x hk hx hh; exact ⟨this.1, this.2.1, this.2.2.1⟩) (n - k) (by omega) p hp (by rw [show n - (n - k) = k by omega]; exact hx)
  rwa [show n - (n - k) = k by omega] at this
theorem Lv.byPerm (h : Lv n H B M) (j : Nat) (hj : j < 256) (hh : H j = true) : PermN (byF B j) n := by
  obtain ⟨h1, h2⟩ := h.dom j hj hh
  have e : j = j / 16 * 16 + j % 16 := by omega
  rw [e] at hh ⊢
  exact (h.way _ _ h1 h2 hh).1
theorem Lv.ones (h : Lv n H B M) : ∀ j k, k + j = n → In n (Uc H B n) k (fun x => x)
  | 0, k, e => by obtain rfl : k = n := by omega
                  exact .done fun _ _ => rfl
  | j + 1, k, e => by
    have h1 := h.one k (by omega)
    exact .step (by omega) (Uc_mem.2 ⟨k, by omega, h1.1, rfl⟩) (h.ones j (k + 1) (by omega)) fun x hx => (h1.2 x hx).symm
theorem Lv.mb (h : Lv n H B M) (k : Nat) : ∀ s, Mk n M k s → Bij s n := fun s hs => (h.mks k hs.1 s hs.2).1.2.2.1
theorem rest_ok {k : Nat} {q u : Nat → Nat} (hq : PermN q n) (hu : PermN u n) (hk : k < n) (fq : ∀ z, z < k → q z = z) (fu : ∀ z, z < k → u z = z) (e : u k = q k) :
    PermN (thenF q (backF u n) n) n ∧ (∀ z, z < k + 1 → thenF q (backF u n) n z = z) ∧ ∀ z, z < n → q z = u (thenF q (backF u n) n z) := by
  have key : ∀ z, z < n → q z = u (thenF q (backF u n) n z) := fun z hz => by
    rw [thenF_at hz]
    exact (back_at' hu (hq.2.2.1.1 z hz)).symm
  have hr := thenF_perm hq (backF_perm hu)
  refine ⟨hr, fun z hz => ?_, key⟩
  have hzn : z < n := by omega
  refine hu.2.2.1.2 _ _ (hr.2.2.1.1 z hzn) hzn ?_
  rw [← key z hzn]
  rcases Nat.lt_or_ge z k with c | c
  · rw [fq z c, fu z c]
  · obtain rfl : z = k := by omega
    exact e.symm
theorem Lv.genInv (h : Lv n H B M) (hn : n ≤ 16) {k : Nat} {q u : Nat → Nat} (hu : PermN u n) (gq : Gen n (Mk n M k) q) (gu : Gen n (Mk n M k) u) : Gen n (Mk n M k) (thenF q (backF u n) n) :=
  gq.prod (h.mb k) (gu.inv hn (h.mb k) fun x hx => backF_at hu.2.2.1 hx) fun x hx => thenF_at hx
theorem Bd.up {k k1 : Nat} (h : Bd M H k) (hk : k ≤ k1) : Bd M H k1 := fun j hj => h j (by omega)
theorem Pr.up {k k1 : Nat} (h : Pr n H B M k) (hk : k ≤ k1) : Pr n H B M k1 := fun j x hj => h j x (by omega)

/-- what adding a permutation at a level makes -/
structure Added (n k : Nat) (p : Nat → Nat) (H : Nat → Bool) (B : Nat → Nat) (M : Nat → List (Nat → Nat)) (H' : Nat → Bool) (B' : Nat → Nat) (M' : Nat → List (Nat → Nat)) : Prop where
  lv : Lv n H' B' M'
  pr : Pr n H' B' M' k
  bd : Bd M' H' k
  ext : Ext n H B M H' B' M'
  same : ∀ j, j < k → LvSame n H B M H' B' M' j
  own : M' k = M k ∨ M' k = M k ++ [p]
  mem : In n (Uc H' B' n) k p
/-- what a step at a level makes -/
structure Stepped (n k : Nat) (q : Nat → Nat) (H : Nat → Bool) (B : Nat → Nat) (M : Nat → List (Nat → Nat)) (H' : Nat → Bool) (B' : Nat → Nat) (M' : Nat → List (Nat → Nat)) : Prop where
  lv : Lv n H' B' M'
  pr : Pr n H' B' M' (k + 1)
  bd : Bd M' H' (k + 1)
  ext : Ext n H B M H' B' M'
  same : ∀ j, j < k → LvSame n H B M H' B' M' j
  own : M' k = M k
  mem : In n (Uc H' B' n) k q
  new : ∀ x, x < n → H' (k * 16 + x) = true → H (k * 16 + x) = false → ∀ s ∈ M k, In n (Uc H' B' n) k (fun z => s (byF B' (k * 16 + x) z))
/-- nothing to add -/
theorem Added.none {k : Nat} {p : Nat → Nat} (h : Lv n H B M) (hp : Pr n H B M k) (hb : Bd M H k) (hi : In n (Uc H B n) k p) : Added n k p H B M H B M :=
  ⟨h, hp, hb, .refl _ _ _, fun _ _ => .refl _, .inl rfl, hi⟩
/-- a step to a number that is reached: what is left has been added below -/
theorem Stepped.old {k : Nat} {q : Nat → Nat} (h : Lv n H B M) (hk : k < n) (hq : PermN q n) (fq : ∀ z, z < k → q z = z) (hh : H (k * 16 + q k) = true)
    (ha : Added n (k + 1) (thenF q (backF (byF B (k * 16 + q k)) n) n) H B M H' B' M') : Stepped n k q H B M H' B' M' := by
  obtain ⟨w1, w2, w3, w4⟩ := h.way k (q k) hk (hq.2.2.1.1 k hk) hh
  obtain ⟨r1, r2, r3⟩ := rest_ok hq w1 hk fq w2 w3
  have hs := ha.same k (by omega)
  refine ⟨ha.lv, ha.pr, ha.bd, ha.ext, fun j hj => ha.same j (by omega), hs.1, ?_, fun x hx h1 h2 => ?_⟩
  · refine .step hk (Uc_mem.2 ⟨q k, hq.2.2.1.1 k hk, ha.ext.has _ hh, rfl⟩) ha.mem fun z hz => ?_
    rw [r3 z hz]
    have h16 := hq.2.1
    exact (ha.ext.by' k (q k) hk (hq.2.2.1.1 k hk) hh _ (by have := r1.2.2.1.1 z hz; omega)).symm
  · rw [(hs.2 x hx).1, h2] at h1; cases h1
/-- .. at the last level nothing is left -/
theorem Stepped.last {k : Nat} {q : Nat → Nat} (h : Lv n H B M) (hp : Pr n H B M (k + 1)) (hb : Bd M H (k + 1)) (hk : k + 1 = n) (hq : PermN q n) (fq : ∀ z, z < k → q z = z) (hh : H (k * 16 + q k) = true) : Stepped n k q H B M H B M := by
  have hkn : k < n := by omega
  obtain ⟨w1, w2, w3, w4⟩ := h.way k (q k) hkn (hq.2.2.1.1 k hkn) hh
  obtain ⟨r1, r2, r3⟩ := rest_ok hq w1 hkn fq w2 w3
  refine ⟨h, hp, hb, .refl _ _ _, fun _ _ => .refl _, rfl, ?_, fun x hx h1 h2 => by rw [h1] at h2; cases h2⟩
  refine .step hkn (Uc_mem.2 ⟨q k, hq.2.2.1.1 k hkn, hh, rfl⟩) ?_ r3
  rw [hk]
  exact .done fun x hx => r2 x (by omega)
theorem idx_ne {k x k' x' : Nat} (hx : x < 16) (hx' : x' < 16) (h : ¬ (k = k' ∧ x = x')) : k * 16 + x ≠ k' * 16 + x' := by omega
theorem byF_bset_same (B : Nat → Nat) (j : Nat) (p : Nat → Nat) {x : Nat} (hx : x < 16) : byF (bset B j p) j x = p x := by
  unfold byF bset
  rw [if_pos (by omega)]
  congr 1
  omega
theorem byF_bset_ne (B : Nat → Nat) {i j : Nat} (p : Nat → Nat) (h : i ≠ j) {x : Nat} (hx : x < 16) : byF (bset B j p) i x = byF B i x := by
  unfold byF bset
  rw [if_neg (by omega)]
/-- a new way -/
theorem Lv.new (h : Lv n H B M) {k : Nat} {q : Nat → Nat} (hk : k < n) (hq : PermN q n) (fq : ∀ z, z < k → q z = z) (gq : Gen n (Mk n M k) q) (hh : H (k * 16 + q k) = false) :
    Lv n (hset H (k * 16 + q k) true) (bset B (k * 16 + q k) q) M ∧ Ext n H B M (hset H (k * 16 + q k) true) (bset B (k * 16 + q k) q) M := by
  have h16 := hq.2.1
  have hqk := hq.2.2.1.1 k hk
  have ext : Ext n H B M (hset H (k * 16 + q k) true) (bset B (k * 16 + q k) q) M := by
    refine ⟨fun j hj => ?_, fun k' x hk' hx hj z hz => ?_, fun _ _ h => h⟩
    · unfold hset; split
      · rfl
      · exact hj
    · refine byF_bset_ne B q (fun e => ?_) hz
      rw [e, hh] at hj; cases hj
  have key : ∀ k' x, k' < n → x < n → hset H (k * 16 + q k) true (k' * 16 + x) = true → (k' = k ∧ x = q k) ∨ H (k' * 16 + x) = true := fun k' x hk' hx hj => by
    unfold hset at hj
    split at hj
    · left; omega
    · exact .inr hj
  refine ⟨⟨fun k' x hk' hx hj => ?_, fun k' hk' => ?_, h.mks, h.down, fun j hj hh' => ?_⟩, ext⟩
  · rcases key k' x hk' hx hj with ⟨rfl, rfl⟩ | c
    · have e : EqN 16 (byF (bset B (k' * 16 + q k') q) (k' * 16 + q k')) q := fun z hz => byF_bset_same B _ q hz
      exact ⟨hq.congr e, fun z hz => by rw [e z (by omega)]; exact fq z hz, by rw [e k' (by omega)], gq.ext fun z hz => (e z (by omega)).symm⟩
    · obtain ⟨w1, w2, w3, w4⟩ := h.way k' x hk' hx c
      have e := ext.by' k' x hk' hx c
      exact ⟨w1.congr e, fun z hz => by rw [e z (by omega)]; exact w2 z hz, by rw [e k' (by omega)]; exact w3, w4.ext fun z hz => (e z (by omega)).symm⟩
  · obtain ⟨o1, o2⟩ := h.one k' hk'
    exact ⟨ext.has _ o1, fun z hz => by rw [ext.by' k' k' hk' hk' o1 z (by omega)]; exact o2 z hz⟩
  · unfold hset at hh'
    split at hh'
    · omega
    · exact h.dom j hj hh'
theorem Pr.ext' {k : Nat} (hn : n ≤ 16) (h : Lv n H B M) (hp : Pr n H B M k) (e : Ext n H B M H' B' M') (hs : ∀ j, k ≤ j → j < n → LvSame n H B M H' B' M' j) : Pr n H' B' M' k := fun j x hj hjn hx hh s hsm => by
  have hl := hs j hj hjn
  rw [(hl.2 x hx).1] at hh
  rw [hl.1] at hsm
  refine (In.ext' hn h (hp j x hj hjn hx hh s hsm) e).ext fun z hz => ?_
  rw [(hl.2 x hx).2 z (by omega)]
/-- other levels do not feel a new way -/
theorem new_same {k j : Nat} {q : Nat → Nat} (hn : n ≤ 16) (hk : k < n) (hj : j ≠ k) (hq : PermN q n) : LvSame n H B M (hset H (k * 16 + q k) true) (bset B (k * 16 + q k) q) M j := by
  have hqk := hq.2.2.1.1 k hk
  refine ⟨rfl, fun x hx => ⟨?_, fun z hz => byF_bset_ne B q (by omega) hz⟩⟩
  unfold hset
  rw [if_neg (by omega)]
theorem Bd.more {k : Nat} (h : Bd M H k) (e : ∀ j, H j = true → H' j = true) : Bd M H' k := fun j hj => Nat.le_trans (h j hj) (totH_mono e 256)

/-- the loop of a step behind a new way -/
structure Looped (n k : Nat) (q : Nat → Nat) (H : Nat → Bool) (B : Nat → Nat) (M : Nat → List (Nat → Nat)) (i : Nat) (H' : Nat → Bool) (B' : Nat → Nat) (M' : Nat → List (Nat → Nat)) : Prop where
  lv : Lv n H' B' M'
  pr : Pr n H' B' M' (k + 1)
  bd : Bd M' H' (k + 1)
  ext : Ext n H B M H' B' M'
  same : ∀ j, j < k → LvSame n H B M H' B' M' j
  own : M' k = M k
  way : H' (k * 16 + q k) = true ∧ EqN 16 (byF B' (k * 16 + q k)) q
  big : totH H 256 + 1 ≤ totH H' 256
  done : ∀ j s, j < i → (M k)[j]? = some s → In n (Uc H' B' n) k (fun z => s (q z))
  new : ∀ x, x < n → H' (k * 16 + x) = true → H (k * 16 + x) = false → x ≠ q k → ∀ s ∈ M k, In n (Uc H' B' n) k (fun z => s (byF B' (k * 16 + x) z))
theorem Looped.start {k : Nat} {q : Nat → Nat} (hn : n ≤ 16) (h : Lv n H B M) (hp : Pr n H B M (k + 1)) (hb : Bd M H (k + 1)) (hk : k < n) (hq : PermN q n) (fq : ∀ z, z < k → q z = z) (gq : Gen n (Mk n M k) q) (hh : H (k * 16 + q k) = false) :
    Looped n k q H B M 0 (hset H (k * 16 + q k) true) (bset B (k * 16 + q k) q) M := by
  obtain ⟨l1, l2⟩ := h.new hk hq fq gq hh
  have hqk := hq.2.2.1.1 k hk
  have hj : k * 16 + q k < 256 := by omega
  refine ⟨l1, hp.ext' hn h l2 fun j hj _ => new_same hn hk (by omega) hq, hb.more l2.has, l2, fun j hj => new_same hn hk (by omega) hq, rfl, ⟨by unfold hset; rw [if_pos rfl], fun z hz => byF_bset_same B _ q hz⟩, by rw [totH_set hh 256 hj]; exact Nat.le_refl _, fun j s hj => absurd hj (Nat.not_lt_zero j), fun x hx h1 h2 h3 => ?_⟩
  unfold hset at h1
  rw [if_neg (by omega), h2] at h1
  cases h1
theorem Looped.next {k i : Nat} {q s : Nat → Nat} (hn : n ≤ 16) (hk : k < n) (h : Looped n k q H B M i H' B' M') (hs : (M k)[i]? = some s) (hq : PermN q n) (hl : Lv n H B M)
    (st : Stepped n k (thenF q s n) H' B' M' H2 B2 M2) : Looped n k q H B M (i + 1) H2 B2 M2 := by
  have hqk := hq.2.2.1.1 k hk
  refine ⟨st.lv, st.pr, st.bd, h.ext.trans st.ext, fun j hj => (h.same j hj).trans (st.same j hj), st.own.trans h.own, ⟨st.ext.has _ h.way.1, (st.ext.by' k (q k) hk hqk h.way.1).trans h.way.2⟩, Nat.le_trans h.big (totH_mono st.ext.has 256), fun j t hj ht => ?_, fun x hx h1 h2 h3 t ht => ?_⟩
  · rcases Nat.lt_or_ge j i with c | c
    · exact In.ext' hn h.lv (h.done j t c ht) st.ext
    · obtain rfl : j = i := by omega
      rw [hs] at ht
      cases ht
      exact st.mem.ext fun z hz => thenF_at hz
  · rcases hc : H' (k * 16 + x) with _ | _
    · exact st.new x hx h1 hc t (by rw [h.own]; exact ht)
    · refine (In.ext' hn h.lv (h.new x hx hc h2 h3 t ht) st.ext).ext fun z hz => ?_
      rw [st.ext.by' k x hk hx hc z (by omega)]
theorem Looped.end' {k : Nat} {q : Nat → Nat} (hn : n ≤ 16) (hk : k < n) (hq : PermN q n) (h : Looped n k q H B M (M k).length H' B' M') : Stepped n k q H B M H' B' M' := by
  have hqk := hq.2.2.1.1 k hk
  refine ⟨h.lv, h.pr, h.bd, h.ext, h.same, h.own, ?_, fun x hx h1 h2 s hs => ?_⟩
  · refine .step hk (Uc_mem.2 ⟨q k, hqk, h.way.1, rfl⟩) (h.lv.ones (n - (k + 1)) (k + 1) (by omega)) fun z hz => (h.way.2 z (by omega)).symm
  · by_cases c : x = q k
    · subst c
      obtain ⟨j, hj, rfl⟩ := List.getElem_of_mem hs
      refine (h.done j _ hj (List.getElem?_eq_getElem hj)).ext fun z hz => ?_
      rw [h.way.2 z (by omega)]
    · exact h.new x hx h1 h2 c s hs

/-- the loop of adding a maker -/
structure Adding (n k : Nat) (p : Nat → Nat) (H : Nat → Bool) (B : Nat → Nat) (M : Nat → List (Nat → Nat)) (i : Nat) (H' : Nat → Bool) (B' : Nat → Nat) (M' : Nat → List (Nat → Nat)) : Prop where
  lv : Lv n H' B' M'
  pr : Pr n H' B' M' (k + 1)
  bd : Bd M' H' (k + 1)
  ext : Ext n H B M H' B' M'
  same : ∀ j, j < k → LvSame n H B M H' B' M' j
  own : M' k = M k ++ [p]
  old : ∀ x, x < n → H' (k * 16 + x) = true → ∀ s ∈ M k, In n (Uc H' B' n) k (fun z => s (byF B' (k * 16 + x) z))
  new : ∀ x, x < n → H' (k * 16 + x) = true → (x < i ∨ H (k * 16 + x) = false) → In n (Uc H' B' n) k (fun z => p (byF B' (k * 16 + x) z))
theorem Adding.start {k : Nat} {p : Nat → Nat} (h : Lv n H B M) (hp : Pr n H B M k) (hb : Bd M H k) (hk : k < n) (hq : PermN p n) (fq : ∀ z, z < k → p z = z) (gq : ∀ j, k = j + 1 → Gen n (Mk n M j) p) :
    Adding n k p H B M 0 H B (rset M k (M k ++ [p])) := by
  have hmem : ∀ j, ∀ s ∈ M j, s ∈ rset M k (M k ++ [p]) j := fun j s hs => by
    unfold rset; split
    · rename_i e; subst e; exact List.mem_append_left _ hs
    · exact hs
  have hmm : ∀ j q, Gen n (Mk n M j) q → Gen n (Mk n (rset M k (M k ++ [p])) j) q := fun j q hg => hg.mono fun s hs => ⟨hs.1, hmem j s hs.2⟩
  have hcase : ∀ j s, s ∈ rset M k (M k ++ [p]) j → s ∈ M j ∨ (j = k ∧ s = p) := fun j s hs => by
    unfold rset at hs
    split at hs
    · rename_i e
      subst e
      rcases List.mem_append.1 hs with c | c
      · exact .inl c
      · exact .inr ⟨rfl, List.mem_singleton.1 c⟩
    · exact .inl hs
  have ne : ∀ j, j ≠ k → rset M k (M k ++ [p]) j = M j := fun j hj => by unfold rset; rw [if_neg hj]
  refine ⟨⟨fun k' x hk' hx hh => ?_, h.one, fun k' hk' s hs => ?_, fun k' hk' s hs => ?_, h.dom⟩, fun j x hj hjn hx hh s hs => ?_, fun j hj => ?_, ⟨fun _ h => h, fun _ _ _ _ _ _ _ => rfl, hmem⟩, fun j hj => ⟨ne j (by omega), fun _ _ => ⟨rfl, fun _ _ => rfl⟩⟩, by unfold rset; rw [if_pos rfl], fun x hx hh s hs => hp k x (Nat.le_refl _) hk hx hh s hs, fun x hx hh hc => ?_⟩
  · obtain ⟨w1, w2, w3, w4⟩ := h.way k' x hk' hx hh
    exact ⟨w1, w2, w3, hmm k' _ w4⟩
  · rcases hcase k' s hs with c | ⟨rfl, rfl⟩
    · exact h.mks k' hk' s c
    · exact ⟨hq, fq⟩
  · rcases hcase (k' + 1) s hs with c | ⟨e, rfl⟩
    · exact hmm k' s (h.down k' hk' s c)
    · exact hmm k' s (gq k' e.symm)
  · rw [ne j (by omega)] at hs
    exact hp j x (by omega) hjn hx hh s hs
  · rw [ne j (by omega)]
    exact hb j (by omega)
  · rcases hc with c | c
    · omega
    · rw [hh] at c; cases c
theorem Adding.skip {k i : Nat} {p : Nat → Nat} (h : Adding n k p H B M i H' B' M') (hh : H' (k * 16 + i) = false) : Adding n k p H B M (i + 1) H' B' M' :=
  ⟨h.lv, h.pr, h.bd, h.ext, h.same, h.own, h.old, fun x hx h1 h2 => by
    rcases h2 with c | c
    · rcases Nat.lt_or_ge x i with d | d
      · exact h.new x hx h1 (.inl d)
      · obtain rfl : x = i := by omega
        rw [hh] at h1; cases h1
    · exact h.new x hx h1 (.inr c)⟩
theorem Adding.next {k i : Nat} {p : Nat → Nat} (hn : n ≤ 16) (hk : k < n) (hi : i < n) (h : Adding n k p H B M i H' B' M') (hh : H' (k * 16 + i) = true)
    (st : Stepped n k (thenF (byF B' (k * 16 + i)) p n) H' B' M' H2 B2 M2) : Adding n k p H B M (i + 1) H2 B2 M2 := by
  have grow : ∀ x, x < n → H' (k * 16 + x) = true → ∀ s : Nat → Nat, In n (Uc H' B' n) k (fun z => s (byF B' (k * 16 + x) z)) → In n (Uc H2 B2 n) k (fun z => s (byF B2 (k * 16 + x) z)) := fun x hx hc s hin =>
    (In.ext' hn h.lv hin st.ext).ext fun z hz => by rw [st.ext.by' k x hk hx hc z (by omega)]
  have fresh : ∀ x, x < n → H2 (k * 16 + x) = true → H' (k * 16 + x) = false → ∀ s, s ∈ M k ++ [p] → In n (Uc H2 B2 n) k (fun z => s (byF B2 (k * 16 + x) z)) := fun x hx h1 hc s hs => st.new x hx h1 hc s (by rw [h.own]; exact hs)
  refine ⟨st.lv, st.pr, st.bd, h.ext.trans st.ext, fun j hj => (h.same j hj).trans (st.same j hj), st.own.trans h.own, fun x hx h1 s hs => ?_, fun x hx h1 h2 => ?_⟩
  · rcases hc : H' (k * 16 + x) with _ | _
    · exact fresh x hx h1 hc s (List.mem_append_left _ hs)
    · exact grow x hx hc s (h.old x hx hc s hs)
  · rcases hc : H' (k * 16 + x) with _ | _
    · exact fresh x hx h1 hc p (by simp)
    · by_cases e : x = i
      · subst e
        refine st.mem.ext fun z hz => ?_
        rw [thenF_at hz, st.ext.by' k x hk hx hc z (by omega)]
      · refine grow x hx hc p (h.new x hx hc ?_)
        rcases h2 with c | c
        · exact .inl (by omega)
        · exact .inr c
theorem Adding.end' {k : Nat} {p : Nat → Nat} (hn : n ≤ 16) (hk : k < n) (hl : Lv n H B M) (hb : Bd M H k) (hni : ¬ In n (Uc H B n) k p) (h : Adding n k p H B M n H' B' M') : Added n k p H B M H' B' M' := by
  have hpr : Pr n H' B' M' k := fun j x hj hjn hx hh s hs => by
    by_cases e : j = k
    · subst e
      rw [h.own] at hs
      rcases List.mem_append.1 hs with c | c
      · exact h.old x hx hh s c
      · rw [List.mem_singleton.1 c]; exact h.new x hx hh (.inl hx)
    · exact h.pr j x (by omega) hjn hx hh s hs
  have hmem : In n (Uc H' B' n) k p := by
    obtain ⟨o1, o2⟩ := h.lv.one k hk
    have hp := (h.lv.mks k hk p (by rw [h.own]; simp)).1.2.2.1
    refine (h.new k hk o1 (.inl hk)).ext fun z hz => ?_
    show p (byF B' (k * 16 + k) z) = p z
    rw [o2 z hz]
  have hbig : totH H 256 + 1 ≤ totH H' 256 := by
    refine Classical.byContradiction fun c => hni ?_
    have hs := totH_same h.ext.has 256 (by omega)
    -- nothing new: the ways are the old ones
    have back : ∀ {j r}, k ≤ j → In n (Uc H' B' n) j r → In n (Uc H B n) j r := by
      intro j r hj hin
      induction hin with
      | done e => exact .done e
      | step h1 h2 h3 h4 ih =>
        obtain ⟨x, hx, hh, rfl⟩ := Uc_mem.1 h2
        rw [hs _ (by omega)] at hh
        have hbij := h3.bij h.lv.ub
        refine .step h1 (Uc_mem.2 ⟨x, hx, hh, rfl⟩) (ih (by omega)) fun z hz => ?_
        rw [h4 z hz]
        exact h.ext.by' _ x h1 hx hh _ (by have := hbij.1 z hz; omega)
    exact back (Nat.le_refl _) hmem
  refine ⟨h.lv, hpr, fun j hj => ?_, h.ext, h.same, .inr h.own, hmem⟩
  by_cases e : j = k
  · subst e
    rw [h.own, List.length_append, List.length_singleton]
    have := hb j (Nat.le_refl _)
    omega
  · exact h.bd j (by omega)
end
end Go.Proofs.Ytdoehnckolhloaa

namespace Go.Proofs.Ytdoehnckolhloaa
open Go.RowKit

def hS (x : Nat) : Nat → Bool := fun j => decide (j % 16 = j / 16 ∧ j / 16 < x)
def bS (m x : Nat) : Nat → Nat := fun i => if i / 16 % 16 = i / 256 ∧ i / 256 < x then sameF m (i % 16) else 0
theorem hS_step {x : Nat} (hx : x < 16) : hset (hS x) (x * 16 + x) true = hS (x + 1) := by
  funext j
  unfold hset hS
  by_cases c : j = x * 16 + x
  · subst c; rw [if_pos rfl]; exact (decide_eq_true (by omega)).symm
  · rw [if_neg c]; exact decide_eq_decide.2 (by omega)
theorem bS_step {m x : Nat} (hx : x < 16) : bset (bS m x) (x * 16 + x) (sameF m) = bS m (x + 1) := by
  funext i
  unfold bset bS
  by_cases c : (x * 16 + x) * 16 ≤ i ∧ i < (x * 16 + x) * 16 + 16
  · have e1 : i / 16 = x * 16 + x := by omega
    have e2 : i / 256 = x := by omega
    rw [if_pos c, if_pos (by rw [e1, e2]; omega), show i % 16 = i - (x * 16 + x) * 16 by omega]
  · rw [if_neg c]
    by_cases d : i / 16 % 16 = i / 256 ∧ i / 256 < x
    · rw [if_pos d, if_pos ⟨d.1, by omega⟩]
    · rw [if_neg d, if_neg (fun h => ?_)]
      by_cases e : i / 256 = x
      · have e1 : i / 16 = x * 16 + x := by
          have h1 := h.1
          rw [e] at h1
          have h2 : i / 16 / 16 = x := by rw [Nat.div_div_eq_div_mul]; exact e
          omega
        exact c (by omega)
      · exact d ⟨h.1, by omega⟩
/-- the rows of a chain's generators -/
def gRows (G : Nat → Value) (M : Nat → List (Nat → Nat)) : List Part := (List.range 16).map fun k => pPl (G k) (M k)
theorem gRows_nil : gRows (fun _ => .slice none 0 0) (fun _ => []) = List.replicate 16 (pPl (.slice none 0 0) []) := by
  apply List.ext_getElem?
  intro i
  unfold gRows
  rw [List.getElem?_map, List.getElem?_replicate]
  rcases Nat.lt_or_ge i 16 with c | c
  · rw [if_pos c, List.getElem?_range c]; rfl
  · rw [if_neg (by omega), List.getElem?_eq_none (by rw [List.length_range]; exact c)]; rfl

set_option maxRecDepth 100000 in
set_option maxHeartbeats 1000000 in
theorem l03Start_any (m : Nat) (hm : m ≤ 16) (w : World) :
    Calls Try.prog 126 #[.int .i64 m] w fun e w' => ∃ g, e = .returned (.pointer (some ⟨g, 0, none⟩)) ∧ Holds w w' (pBlk g (chv m (fun _ => .slice none 0 0) (hS m) (bS m m)) 155 :: gRows (fun _ => .slice none 0 0) (fun _ => [])) := by
  have C1 := hide fun w => sSame_any m hm w
  have hh0 : hS 0 = fun _ => false := by funext j; unfold hS; simp
  have hb0 : bS m 0 = fun _ => 0 := by funext j; unfold bS; simp
  have HH : Holds w (w.alloc (.cells (chv m (fun _ => .slice none 0 0) (fun _ => false) (fun _ => 0)) 155)) (pBlk w.heap.size (chv m (fun _ => .slice none 0 0) (hS 0) (bS m 0)) 155 :: gRows (fun _ => .slice none 0 0) (fun _ => [])) := by
    rw [gRows_nil, hh0, hb0]
    exact ((Holds.start w).blk _ _ _ rfl).nils w 16
  clear hh0 hb0
  go_enter Try.func126, Try.ntmps126
  go_wp2
  generalize w.alloc (.cells (chv m (fun _ => .slice none 0 0) (fun _ => false) (fun _ => 0)) 155) = w1 at *
  generalize w.heap.size = g at *
  go_loopw [4] (fun t wr => ∃ x : Nat, x ≤ m ∧ t = .int .i64 x ∧ Holds w wr (pBlk g (chv m (fun _ => .slice none 0 0) (hS x) (bS m x)) 155 :: gRows (fun _ => .slice none 0 0) (fun _ => []))) (fun t _ => m - (intOf t).toNat)
  case atStart => exact ⟨0, by omega, rfl, HH⟩
  case round =>
    clear HH
    obtain ⟨x, hx, rfl, hH⟩ := hrel
    by_cases hxm : x < m
    · have hx16 : (x : Int) < 16 := by omega
      have hxm' : (x : Int) < m := by omega
      have hj : x * 16 + x < 256 := by omega
      have c0 : wr.cell? ⟨g, 17 + x * 16 + x, none⟩ = some (.bool (hS x (x * 16 + x))) := by rw [Nat.add_assoc]; exact hH.cell 0 rfl (chv_has m _ (hS x) (bS m x) hj)
      have f0 := hH.frozen 0 rfl (17 + x * 16 + x)
      have h1 := hH.set 0 rfl (17 + (x * 16 + x)) (.bool true)
      rw [chv_setHas m _ _ _ hj, hS_step (by omega)] at h1
      have h2 : Holds w (wr.setCell ⟨g, 17 + x * 16 + x, none⟩ (.bool true)) (pBlk g (chv m (fun _ => .slice none 0 0) (hS (x + 1)) (bS m x)) 155 :: gRows (fun _ => .slice none 0 0) (fun _ => [])) := by rw [Nat.add_assoc]; exact h1
      have hbs := bS_step (m := m) (x := x) (by omega)
      have HBS := hide hbs; clear hbs h1 hH
      go_wp2
      clear c0 f0
      generalize wr.setCell ⟨g, 17 + x * 16 + x, none⟩ (.bool true) = w2 at *
      refine region_tail (fun wx => Holds w wx _) 9 (by kernel_rfl) (by kernel_rfl) h2.drew ?_
      simp only [List.take_succ_cons, List.take_zero, List.drop_succ_cons, List.drop_zero]
      iterate 4
        apply q_step
        · go_simp
        · intro wx hx
          go_simp
          try exact rfl
      iterate 1
        apply q_step
        · go_simp
        · intro wx hx
          go_simp
          exact Calls.mono (C1.out wx) fun e w' h => ⟨h.1, hx.call h.2⟩
      iterate 4
        apply q_step
        · go_simp
        · intro wx hx
          go_simp
          try exact rfl
      refine wpQuiet_nil ?_
      intro w4 H4
      have rr := H4.rowOk 0 rfl (chv_size _ _ _ _)
      have sb := run_storeBy rr (H4.cells 0 rfl) hj (sameF m)
      rw [HBS.out] at sb
      rw [show 273 + (x * 16 + x) * 16 = 273 + x * 256 + x * 16 by omega] at sb
      have H5 := H4.setRow 0 rfl (chv m (fun _ => .slice none 0 0) (hS (x + 1)) (bS m (x + 1)))
      clear rr
      go_wp2
      go_roundw
      case rel => exact ⟨x + 1, by omega, by go_num, H5⟩
      case measure => simp [intOf]; omega
    · obtain rfl : x = m := by omega
      clear hxm hx
      go_wp2
      go_ret
      exact ⟨g, rfl, hH⟩
end Go.Proofs.Ytdoehnckolhloaa

namespace Go.Proofs.Ytdoehnckolhloaa
open Go.RowKit

theorem gRows_length (G : Nat → Value) (M : Nat → List (Nat → Nat)) : (gRows G M).length = 16 := by unfold gRows; simp
theorem gRows_at (G : Nat → Value) (M : Nat → List (Nat → Nat)) (L : List Part) {i : Nat} (hi : i < 16) : (gRows G M ++ L)[i]? = some (pPl (G i) (M i)) := by
  rw [List.getElem?_append_left (by rw [gRows_length]; exact hi)]; unfold gRows; simp [hi]
theorem gRows_past (G : Nat → Value) (M : Nat → List (Nat → Nat)) (a : Part) (L : List Part) : (gRows G M ++ (a :: L))[16]? = some a := by
  rw [List.getElem?_append_right (by rw [gRows_length]; exact Nat.le_refl _), gRows_length]; rfl
theorem atP (b a : Part) (G : Nat → Value) (M : Nat → List (Nat → Nat)) (L : List Part) : (b :: (gRows G M ++ (a :: L)))[17]? = some a := gRows_past G M a L
theorem gRows_set (G : Nat → Value) (M : Nat → List (Nat → Nat)) (L : List Part) {i : Nat} (hi : i < 16) (v : Value) (l : List (Nat → Nat)) : (gRows G M ++ L).set i (pPl v l) = gRows (vset G i v) (rset M i l) ++ L := by
  rw [List.set_append_left _ _ (by rw [gRows_length]; exact hi)]
  congr 1
  apply List.ext_getElem?
  intro j
  rw [List.getElem?_set, gRows_length]
  rcases Nat.lt_or_ge j 16 with c | c
  · by_cases e : i = j
    · subst e; unfold gRows vset rset; simp [hi]
    · unfold gRows vset rset; simp [c, e, Ne.symm e]
  · rw [if_neg (by omega), List.getElem?_eq_none (by rw [gRows_length]; exact c), List.getElem?_eq_none (by rw [gRows_length]; exact c)]
theorem Holds.toL {w0 w : World} {a b : Part} {R L : List Part} (h : Holds w0 w (a :: b :: (R ++ L))) : Holds w0 w (b :: (R ++ (a :: L))) :=
  h.perm ((List.Perm.swap b a (R ++ L)).trans (.cons _ List.perm_middle.symm))
theorem Holds.offL {w0 w : World} {a b : Part} {R L : List Part} (h : Holds w0 w (b :: (R ++ (a :: L)))) : Holds w0 w (b :: (R ++ L)) :=
  h.sub (.cons_cons _ (List.Sublist.append (List.Sublist.refl _) (List.sublist_cons_self _ _)))

abbrev chP (g n : Nat) (G : Nat → Value) (H : Nat → Bool) (B : Nat → Nat) : Part := pBlk g (chv n G H B) 155
def StepSt (n N : Nat) : Prop := ∀ (k : Nat) (q : Nat → Nat) (G : Nat → Value) (H : Nat → Bool) (B : Nat → Nat) (M : Nat → List (Nat → Nat)) (g : Nat) (w0 w : World) (L : List Part),
  100 * (256 - totH H 256) + 2 * (n - k) ≤ N → k < n → PermN q n → (∀ z, z < k → q z = z) → Gen n (Mk n M k) q → Lv n H B M → Pr n H B M (k + 1) → Bd M H (k + 1) → (M k).length ≤ 257 →
  Holds w0 w (pBlk g (chv n G H B) 155 :: (gRows G M ++ L)) →
  Calls Try.prog 136 #[.pointer (some ⟨g, 0, none⟩), .int .i64 k, .agg (av q)] w fun e w' => (∃ v, e = .returned v) ∧ ∃ G' H' B' M', Holds w0 w' (pBlk g (chv n G' H' B') 155 :: (gRows G' M' ++ L)) ∧ Stepped n k q H B M H' B' M'
def AddSt (n N : Nat) : Prop := ∀ (k : Nat) (p : Nat → Nat) (G : Nat → Value) (H : Nat → Bool) (B : Nat → Nat) (M : Nat → List (Nat → Nat)) (g : Nat) (w0 w : World) (L : List Part),
  100 * (256 - totH H 256) + 2 * (n - k) + 1 ≤ N → k < n → PermN p n → (∀ z, z < k → p z = z) → (∀ j, k = j + 1 → Gen n (Mk n M j) p) → Lv n H B M → Pr n H B M k → Bd M H k →
  Holds w0 w (pBlk g (chv n G H B) 155 :: (gRows G M ++ L)) →
  Calls Try.prog 127 #[.pointer (some ⟨g, 0, none⟩), .int .i64 k, .agg (av p)] w fun e w' => (∃ v, e = .returned v) ∧ ∃ G' H' B' M', Holds w0 w' (pBlk g (chv n G' H' B') 155 :: (gRows G' M' ++ L)) ∧ Added n k p H B M H' B' M'

set_option maxRecDepth 100000 in
set_option maxHeartbeats 4000000 in
theorem chStep (n N : Nat) (hn : n ≤ 16) (hA : AddSt n N) (hSt : StepSt n N) : StepSt n (N + 1) := by
  intro k q G H B M g w0 w L hN hk hq fq gq hl hp hb hM hH
  have HA := hide hA; clear hA
  have HSt := hide hSt; clear hSt
  have H1 := (hH.blk (av q) 27 w.heap.size rfl).toL
  clear hH
  have hqk := hq.2.2.1.1 k hk
  have hj : k * 16 + q k < 256 := by omega
  have hk16 : (k : Int) < 16 := by omega
  have hkn : (k : Int) < n := by omega
  have hqi : ((q k : Nat) : Int) < 16 := by omega
  have hn16 : (n : Int) ≤ 16 := by omega
  have n0 := H1.cell 0 rfl (chv_n n G H B)
  have y1 := H1.cell 17 (atP _ _ G M L) (av_get q (i := k) (by omega))
  have y2 : (w.alloc (.cells (av q) 27)).cell? ⟨g, 17 + k * 16 + q k, none⟩ = some (.bool (H (k * 16 + q k))) := by rw [Nat.add_assoc]; exact H1.cell 0 rfl (chv_has n G H B hj)
  rcases hb' : H (k * 16 + q k) with _ | _
  · -- a new way
    rw [hb'] at y2
    have f0 := H1.frozen 0 rfl (17 + k * 16 + q k)
    have h1 := H1.set 0 rfl (17 + (k * 16 + q k)) (.bool true)
    rw [chv_setHas n _ _ _ hj] at h1
    have h2 : Holds w0 ((w.alloc (.cells (av q) 27)).setCell ⟨g, 17 + k * 16 + q k, none⟩ (.bool true)) (pBlk g (chv n G (hset H (k * 16 + q k) true) B) 155 :: (gRows G M ++ (pBlk w.heap.size (av q) 27 :: L))) := by rw [Nat.add_assoc]; exact h1
    have LO := hide (Looped.start hn hl hp hb hk hq fq gq hb')
    have HQ := hide (And.intro hq (And.intro fq (And.intro gq (And.intro hl hb')))); clear hq fq gq hl hp hb hb' h1
    have HN := hide hN; clear hN
    go_enter Try.func136, Try.ntmps136
    go_wp2
    clear n0 y1 y2 f0 H1
    generalize (w.alloc (.cells (av q) 27)).setCell ⟨g, 17 + k * 16 + q k, none⟩ (.bool true) = w2 at *
    generalize w.heap.size = Gp at *
    refine region_tail (fun wx => Holds w0 wx _) 8 (by kernel_rfl) (by kernel_rfl) h2.drew ?_
    simp only [List.take_succ_cons, List.take_zero, List.drop_succ_cons, List.drop_zero]
    iterate 8
      apply q_step
      · go_simp
      · intro wx hx
        have q1 := hx.cells 17 (atP _ _ G M L)
        go_simp
        try exact rfl
    refine wpQuiet_nil ?_
    intro w4 H4
    have rr := H4.rowOk 0 rfl (chv_size _ _ _ _)
    have sb := run_storeBy rr (H4.cells 0 rfl) hj q
    rw [show 273 + (k * 16 + q k) * 16 = 273 + k * 256 + q k * 16 by omega] at sb
    have H5 := H4.setRow 0 rfl (chv n G (hset H (k * 16 + q k) true) (bset B (k * 16 + q k) q))
    clear rr h2
    go_wp2
    clear sb H4
    generalize w4.setRow g _ = w5 at *
    go_loopw [7] (fun t wr => ∃ i G' H' B' M', i ≤ (M k).length ∧ t = .int .i64 ((i : Nat) : Int) ∧ Looped n k q H B M i H' B' M' ∧ Holds w0 wr (pBlk g (chv n G' H' B') 155 :: (gRows G' M' ++ (pBlk Gp (av q) 27 :: L)))) (fun t _ => (M k).length - (intOf t).toNat)
    case atStart => exact ⟨0, G, _, _, M, by omega, rfl, LO.out, H5⟩
    case round =>
      clear H5 LO
      obtain ⟨i, G', H', B', M', hi, rfl, hlo, hH⟩ := hrel
      obtain ⟨A, c, hv⟩ := hH.plForm (k + 1) (gRows_at G' M' _ (by omega))
      rw [hlo.own] at hv
      have x1 := hH.cell 0 rfl (chv_gens n G' H' B' (k := k) (by omega))
      rw [hv] at x1
      have HV := hide hv; clear hv
      have HLO := hide hlo; clear hlo
      by_cases hil : i < (M k).length
      · have hs : (M k)[i]? = some (M k)[i] := List.getElem?_eq_getElem hil
        obtain ⟨s, hse⟩ : ∃ s, s = (M k)[i] := ⟨_, rfl⟩
        rw [← hse] at hs
        obtain ⟨q0, c0, e0, -, -⟩ := plOk_load (v := G' k) (l := M' k) (hH.at (k + 1) (gRows_at G' M' _ (by omega))) (k := i) (by rw [HLO.out.own]; exact hil)
        rw [HLO.out.own, HV.out] at e0
        injection e0 with e1 e2 e3
        subst e1
        clear e2 e3
        have hsp : PermN s n := (HLO.out.lv.mks k hk s (by rw [HLO.out.own, hse]; exact List.getElem_mem hil)).1
        have nS : ∀ wx, Holds w0 wx (pBlk g (chv n G' H' B') 155 :: (gRows G' M' ++ (pBlk Gp (av q) 27 :: L))) → wx.cell? ⟨g, 0, none⟩ = some (.int .i64 n) ∧ wx.cell? ⟨g, 1 + k, none⟩ = some (.slice (some ⟨q0, 0, none⟩) (M k).length c) ∧ cellsOf wx Gp = av q ∧ (loadT 27 (.pointer (some ⟨q0, i * 16, none⟩))).run Try.prog wx = .ok (.value (.agg (av s))) wx := fun wx hx' => by
          refine ⟨hx'.cell 0 rfl (chv_n n G' H' B'), ?_, hx'.cells 17 (atP _ _ G' M' L), ?_⟩
          · have := hx'.cell 0 rfl (chv_gens n G' H' B' (k := k) (by omega))
            rwa [HV.out] at this
          · obtain ⟨q1, c1, e1, _, lk⟩ := plOk_load (v := G' k) (l := M' k) (hx'.at (k + 1) (gRows_at G' M' _ (by omega))) (k := i) (by rw [HLO.out.own]; exact hil)
            rw [HV.out] at e1
            injection e1 with e1 _ _
            injection e1 with e1
            injection e1 with e1
            subst e1
            have e2 : (M' k)[i]'(by rw [HLO.out.own]; exact hil) = s := by rw [hse]; congr 1; exact HLO.out.own
            rw [e2] at lk
            exact lk
        have NS := hide nS; clear nS
        have CF := hide fun w => sThen_any q s n hn (fun i hi => HQ.out.1.lt i (by omega)) w
        have HSP := hide (And.intro hsp (And.intro hs hse)); clear hsp hs hse
        have hil' : (i : Int) < (M k).length := by omega
        have hbig := HLO.out.big
        have h256 := totH_le H' 256
        have hms : 100 * (256 - totH H' 256) + 2 * (n - k) ≤ N := by have := HN.out; omega
        have HMS := hide hms; clear hms hbig h256
        go_wp2
        clear x1
        refine region_tail (fun wx => Holds w0 wx _) 17 (by kernel_rfl) (by kernel_rfl) hH.drew ?_
        simp only [List.take_succ_cons, List.take_zero, List.drop_succ_cons, List.drop_zero]
        iterate 16
          apply q_step
          · go_simp
          · intro wx hx
            have q1 := (NS.out wx hx).1
            have q2 := (NS.out wx hx).2.1
            have q3 := (NS.out wx hx).2.2.1
            have q4 := (NS.out wx hx).2.2.2
            go_simp
            try exact rfl
        iterate 1
          apply q_step
          · go_simp
          · intro wx hx
            go_simp
            exact Calls.mono (CF.out wx) fun e w' h => ⟨h.1, hx.call h.2⟩
        refine wpQuiet_nil ?_
        intro w6 H6
        clear hH
        go_wp2_with fail
        refine (HSt.out k (thenF q s n) G' H' B' M' g w0 w6 _ HMS.out hk (thenF_perm HQ.out.1 HSP.out.1) (fun z hz => ?_) ?_ HLO.out.lv HLO.out.pr HLO.out.bd (by rw [HLO.out.own]; exact hM) H6).mono ?_
        · rw [thenF_at (by omega), HQ.out.2.1 z hz]
          exact (HLO.out.lv.mks k hk s (by rw [HLO.out.own]; exact List.mem_of_getElem? HSP.out.2.1)).2 z hz
        · have g1 : Gen n (Mk n M' k) q := HQ.out.2.2.1.mono fun t ht => ⟨ht.1, by rw [HLO.out.own]; exact ht.2⟩
          exact g1.prod (HLO.out.lv.mb k) (.of ⟨hk, by rw [HLO.out.own]; exact List.mem_of_getElem? HSP.out.2.1⟩) fun x hx => thenF_at hx
        rintro e w7 ⟨⟨v, rfl⟩, G2, H2, B2, M2, H7, st⟩
        have HST := hide st; clear st H6
        go_wp2
        go_roundw
        case rel => exact ⟨i + 1, G2, H2, B2, M2, by omega, by go_num, HLO.out.next hn hk HSP.out.2.1 HQ.out.1 HQ.out.2.2.2.1 HST.out, H7⟩
        case measure => simp [intOf]; omega
      · have hie : i = (M k).length := by omega
        have hil' : ¬ (i : Int) < (M k).length := by omega
        have hlo := HLO.out
        rw [hie] at hlo
        have HE := hide (And.intro hie (hlo.end' hn hk HQ.out.1)); clear hlo hie HLO hil
        go_wp2
        go_end0
        exact ⟨⟨_, rfl⟩, G', H', B', M', hH.offL, HE.out.2⟩
  · -- a number that is reached
    rw [hb'] at y2
    obtain ⟨w1, w2, w3, w4⟩ := hl.way k (q k) hk hqk hb'
    obtain ⟨r1, r2, r3⟩ := rest_ok hq w1 hk fq w2 w3
    have r4 := hl.genInv hn w1 gq w4
    obtain ⟨u, hu⟩ : ∃ u, u = byF B (k * 16 + q k) := ⟨_, rfl⟩
    rw [← hu] at w1 w2 w3 w4 r1 r2 r3 r4
    by_cases hk1 : k + 1 < n
    · have hk1' : (k : Int) + 1 < n := by omega
      have nS : ∀ wx, Holds w0 wx (pBlk g (chv n G H B) 155 :: (gRows G M ++ (pBlk w.heap.size (av q) 27 :: L))) → wx.cell? ⟨g, 0, none⟩ = some (.int .i64 n) ∧ cellsOf wx w.heap.size = av q ∧ (loadT 27 (.pointer (some ⟨g, 273 + k * 256 + q k * 16, none⟩))).run Try.prog wx = .ok (.value (.agg (av u))) wx := fun wx hx' => by
        refine ⟨hx'.cell 0 rfl (chv_n n G H B), hx'.cells 17 (atP _ _ G M L), ?_⟩
        have h2 := run_loadBy (hx'.cells 0 rfl) hj
        rw [show 273 + k * 256 + q k * 16 = 273 + (k * 16 + q k) * 16 by omega, hu]
        exact h2
      have NS := hide nS; clear nS
      have CU := hide fun w => sBack_any u n hn (fun i hi => w1.lt i (by omega)) w
      have CF := hide fun w => sThen_any q (backF u n) n hn (fun i hi => hq.lt i (by omega)) w
      have HS4 := hide (show ∀ H' B' M', Added n (k + 1) (thenF q (backF (byF B (k * 16 + q k)) n) n) H B M H' B' M' → Stepped n k q H B M H' B' M' from fun H' B' M' => Stepped.old hl hk hq fq hb')
      have HQ := hide (And.intro r1 (And.intro r2 (And.intro r4 (And.intro hl (And.intro hp hb))))); clear hq fq gq hl hp hb hb' r1 r2 r3 r4 w1 w2 w3 w4
      have HU := hide hu; clear hu
      have HN := hide hN; clear hN
      generalize hr : thenF q (backF u n) n = r at *
      have HR := hide hr; clear hr
      go_enter Try.func136, Try.ntmps136
      go_wp2
      clear n0 y1 y2
      generalize w.alloc (.cells (av q) 27) = w1 at *
      generalize w.heap.size = Gp at *
      refine region_tail (fun wx => Holds w0 wx _) 22 (by kernel_rfl) (by kernel_rfl) H1.drew ?_
      simp only [List.take_succ_cons, List.take_zero, List.drop_succ_cons, List.drop_zero]
      iterate 16
        apply q_step
        · go_simp
        · intro wx hx
          have q1 := (NS.out wx hx).1
          have q2 := (NS.out wx hx).2.1
          have q3 := (NS.out wx hx).2.2
          go_simp
          try exact rfl
      iterate 1
        apply q_step
        · go_simp
        · intro wx hx
          go_simp
          exact Calls.mono (CU.out wx) fun e w' h => ⟨h.1, hx.call h.2⟩
      iterate 4
        apply q_step
        · go_simp
        · intro wx hx
          have q1 := (NS.out wx hx).1
          go_simp
          try exact rfl
      iterate 1
        apply q_step
        · go_simp
        · intro wx hx
          go_simp
          exact Calls.mono (CF.out wx) fun e w' h => ⟨h.1, hx.call h.2⟩
      refine wpQuiet_nil ?_
      intro w4 H4
      clear H1
      have hms : 100 * (256 - totH H 256) + 2 * (n - (k + 1)) + 1 ≤ N := by have := HN.out; omega
      have HMS := hide hms; clear hms
      have HG1 := hide (show ∀ j, k + 1 = j + 1 → Gen n (Mk n M j) r from fun j e => (show k = j by omega) ▸ HQ.out.2.2.1)
      have ca := HA.out (k + 1) r G H B M g w0 w4 _ HMS.out hk1 HQ.out.1 HQ.out.2.1 HG1.out HQ.out.2.2.2.1 HQ.out.2.2.2.2.1 HQ.out.2.2.2.2.2 H4
      have CA := hide ca; clear ca H4
      go_wp2_with fail
      refine CA.out.mono ?_
      rintro e w7 ⟨⟨v, rfl⟩, G2, H2, B2, M2, H7, ad⟩
      have HST := hide ad; clear ad CA
      go_wp2
      (try simp only [Exit.inBlock, Exit.then]); refine bodyPost_ret (results_none rfl _ _ _) rfl ?_
      refine ⟨⟨_, rfl⟩, G2, H2, B2, M2, H7.offL, HS4.out _ _ _ ?_⟩
      rw [← HU.out, HR.out]
      exact HST.out
    · have hk1' : ¬ (k : Int) + 1 < n := by omega
      have HST := hide (Stepped.last hl hp hb (show k + 1 = n by omega) hq fq hb')
      clear hq fq gq hl hp hb hb' r1 r2 r3 r4 w1 w2 w3 w4
      go_enter Try.func136, Try.ntmps136
      go_wp2
      (try simp only [Exit.inBlock, Exit.then]); refine bodyPost_ret (results_none rfl _ _ _) rfl ?_
      exact ⟨⟨_, rfl⟩, G, H, B, M, H1.offL, HST.out⟩
end Go.Proofs.Ytdoehnckolhloaa

namespace Go.Proofs.Ytdoehnckolhloaa
open Go.RowKit

set_option maxRecDepth 100000 in
set_option maxHeartbeats 4000000 in
theorem chAdd (n N : Nat) (hn : n ≤ 16) (hSt : StepSt n N) : AddSt n (N + 1) := by
  intro k p G H B M g w0 w L hN hk hq fq gq hl hp hb hH
  have HSt := hide hSt; clear hSt
  have H1 := (hH.blk (av p) 27 w.heap.size rfl).toL
  clear hH
  have hin := hl.inside hn (Nat.le_of_lt hk) hq fq
  have hS0 : ChAt (w.alloc (.cells (av p) 27)) g n G H B := H1.at 0 rfl
  have ci := l03Inside_any n hn g G H B hl.byPerm k (Nat.le_of_lt hk) p hq _ hS0
  have hk16 : (k : Int) < 16 := by omega
  have hn16 : (n : Int) ≤ 16 := by omega
  have hml : (M k).length ≤ 256 := Nat.le_trans (hb k (Nat.le_refl _)) (totH_le H 256)
  have d1 := H1.cells 17 (atP _ _ G M L)
  rcases hb' : insideT H B n (n - k) p with _ | _
  · rw [hb'] at ci
    have hni : ¬ In n (Uc H B n) k p := fun h => by rw [hin.2 h] at hb'; cases hb'
    have CI := hide ci; clear ci
    have ADS := hide (Adding.start hl hp hb hk hq fq gq)
    have ADE := hide (show ∀ H' B' M', Adding n k p H B M n H' B' M' → Added n k p H B M H' B' M' from fun H' B' M' h => h.end' hn hk hl hb hni)
    have HQ := hide (And.intro hq fq)
    clear hq fq gq hl hp hb hb' hin hS0 hni
    have HN := hide hN; clear hN
    go_enter Try.func127, Try.ntmps127
    go_wp2_with fail
    refine CI.out.mono ?_
    rintro e w2 ⟨rfl, hb2⟩
    have H2 := H1.call hb2
    clear hb2 H1 d1 CI
    generalize w.heap.size = Gp at *
    obtain ⟨A, c, hv⟩ := H2.plForm (k + 1) (gRows_at G M _ (by omega))
    have HV := hide hv; clear hv
    go_wp2
    refine Rd.region_PT (w0 := w0) [pBlk g (chv n G H B) 155, pBlk Gp (av p) 27] (pBlk g (chv n G H B) 155 :: (gRows G M ++ (pBlk Gp (av p) 27 :: L))) [9, 10] 13 (.q 0 <| .q 1 <| .q 2 <| .q 3 <| .q 4 <| .q 5 <| .q 6 <| .q 7 <| .q 8 <| .q 11 <| .q 12 <| .s1 9 <| .s1 10 .fin) H2 (.cons_cons _ (List.Sublist.trans (List.Sublist.cons_cons _ (List.nil_sublist _)) (List.sublist_append_right _ _))) (by kernel_rfl) (by kernel_rfl) ?_
    iterate 11
      apply Rd.v_q
      · simp only [List.getElem?_toArray, List.getElem?_cons_zero, List.getElem?_cons_succ]; exact rfl
      · rfl
      · go_simp
      · intro wx hx
        have q0 := hx.cells 1 rfl
        have q1 : wx.cell? ⟨g, 1 + k, none⟩ = some (.slice A (M k).length c) := by have := hx.cell 0 rfl (chv_gens n G H B (k := k) (by omega)); rw [HV.out] at this; exact this
        unfold atG
        go_simp
        simp only [uponG]
        exact ⟨by trivial, rfl⟩
    refine Rd.v_build (av p) 27 1 (by simp only [List.getElem?_toArray, List.getElem?_cons_zero, List.getElem?_cons_succ]; exact rfl) rfl (by go_simp) (fun wx hx hD => by go_simp) fun gq => ?_
    refine Rd.v_s (fun u wx => Holds w0 wx (pBlk g (chv n G H B) 155 :: (gRows (vset G k u) (rset M k (M k ++ [p])) ++ (pBlk Gp (av p) 27 :: L)))) (fun u _ _ h hb => h.call hb) (by simp only [List.getElem?_toArray, List.getElem?_cons_zero, List.getElem?_cons_succ]; exact rfl) rfl (by go_simp) (fun wx hx hD => ?_) ?_
    · refine upon_appPl hD (k + 2) (v := .slice A (M k).length c) (l := M k) (by rw [← HV.out]; exact gRows_at G M _ (by omega)) gq p 27 (hD.at 0 rfl) (by omega) (fun v' w' h2 => ?_) _ _ rfl (by go_simp) (by go_simp)
      have h3 : Holds w0 w' (pBlk gq (av p) 27 :: pBlk g (chv n G H B) 155 :: ((gRows G M ++ (pBlk Gp (av p) 27 :: L)).set k (pPl v' (M k ++ [p])))) := h2
      rw [gRows_set _ _ _ (by omega)] at h3
      exact ⟨h3.sub (.cons _ (.cons_cons _ (List.Sublist.trans (List.Sublist.cons_cons _ (List.nil_sublist _)) (List.sublist_append_right _ _)))), h3.tail⟩
    rintro u ⟨wy, hwy, hu⟩
    obtain ⟨Au, cu, hvu⟩ := hu.plForm (k + 1) (gRows_at _ _ _ (by omega))
    obtain ⟨nu, hnu⟩ : ∃ nu, nu = (rset M k (M k ++ [p]) k).length := ⟨_, rfl⟩
    rw [show vset G k u k = u from if_pos rfl, ← hnu] at hvu
    subst hvu
    clear hu hnu hwy wy
    rintro w6 - hx6
    have hx7 : Holds w0 w6 (pBlk g (chv n G H B) 155 :: (gRows (vset G k (.slice Au nu cu)) (rset M k (M k ++ [p])) ++ (pBlk Gp (av p) 27 :: L))) := hx6
    have c0 : w6.cell? ⟨g, 1 + k, none⟩ = some (.slice A (M k).length c) := by have := hx7.cell 0 rfl (chv_gens n G H B (k := k) (by omega)); rw [HV.out] at this; exact this
    have f0 := hx7.frozen 0 rfl (1 + k)
    have h7 := hx7.set 0 rfl (1 + k) (.slice Au nu cu)
    rw [chv_setGens n _ _ _ (by omega)] at h7
    obtain ⟨G1, hG1⟩ : ∃ G1, G1 = vset G k (.slice Au nu cu) := ⟨_, rfl⟩
    rw [← hG1] at h7
    have h8 : Holds w0 (w6.setCell ⟨g, 1 + k, none⟩ (.slice Au nu cu)) (pBlk g (chv n G1 H B) 155 :: (gRows G1 (rset M k (M k ++ [p])) ++ (pBlk Gp (av p) 27 :: L))) := h7
    clear h7 hx6 hx7 H2 hG1
    go_simp
    go_wp2
    clear c0 f0
    generalize w6.setCell ⟨g, 1 + k, none⟩ (.slice Au nu cu) = w7 at *
    go_loopw [6] (fun t wr => ∃ x G' H' B' M', x ≤ n ∧ t = .int .i64 ((x : Nat) : Int) ∧ Adding n k p H B M x H' B' M' ∧ Holds w0 wr (pBlk g (chv n G' H' B') 155 :: (gRows G' M' ++ (pBlk Gp (av p) 27 :: L)))) (fun t _ => n - (intOf t).toNat)
    case atStart => exact ⟨0, G1, _, _, _, by omega, rfl, ADS.out, h8⟩
    case round =>
      clear h8 ADS
      obtain ⟨x, G', H', B', M', hx, rfl, had, hH⟩ := hrel
      have HAD := hide had; clear had
      have n0 := hH.cell 0 rfl (chv_n n G' H' B')
      by_cases hxn : x < n
      · have hx16 : (x : Int) < 16 := by omega
        have hxn' : (x : Int) < n := by omega
        have hj : k * 16 + x < 256 := by omega
        have y2 : wr.cell? ⟨g, 17 + k * 16 + x, none⟩ = some (.bool (H' (k * 16 + x))) := by rw [Nat.add_assoc]; exact hH.cell 0 rfl (chv_has n G' H' B' hj)
        rcases hb' : H' (k * 16 + x) with _ | _
        · rw [hb'] at y2
          have HSK := hide (HAD.out.skip hb'); clear hb' HAD
          go_wp2
          go_roundw
          case rel => exact ⟨x + 1, G', H', B', M', by omega, by go_num, HSK.out, hH⟩
          case measure => simp [intOf]; omega
        · rw [hb'] at y2
          obtain ⟨w1, w2, w3, w4⟩ := HAD.out.lv.way k x hk hxn hb'
          obtain ⟨u, hu⟩ : ∃ u, u = byF B' (k * 16 + x) := ⟨_, rfl⟩
          rw [← hu] at w1 w2 w3 w4
          have nS : ∀ wx, Holds w0 wx (pBlk g (chv n G' H' B') 155 :: (gRows G' M' ++ (pBlk Gp (av p) 27 :: L))) → wx.cell? ⟨g, 0, none⟩ = some (.int .i64 n) ∧ cellsOf wx Gp = av p ∧ (loadT 27 (.pointer (some ⟨g, 273 + k * 256 + x * 16, none⟩))).run Try.prog wx = .ok (.value (.agg (av u))) wx := fun wx hx' => by
            refine ⟨hx'.cell 0 rfl (chv_n n G' H' B'), hx'.cells 17 (atP _ _ G' M' L), ?_⟩
            have h2 := run_loadBy (hx'.cells 0 rfl) hj
            rw [show 273 + k * 256 + x * 16 = 273 + (k * 16 + x) * 16 by omega, hu]
            exact h2
          have NS := hide nS; clear nS
          have CF := hide fun w => sThen_any u p n hn (fun i hi => w1.lt i (by omega)) w
          have hpM : p ∈ M' k := by rw [HAD.out.own]; simp
          have hq1 := thenF_perm w1 HQ.out.1
          have hf1 : ∀ z, z < k → thenF u p n z = z := fun z hz => by rw [thenF_at (by omega), w2 z hz, HQ.out.2 z hz]
          have hg1 : Gen n (Mk n M' k) (thenF u p n) := w4.prod (HAD.out.lv.mb k) (.of ⟨hk, hpM⟩) fun z hz => thenF_at hz
          have hms : 100 * (256 - totH H' 256) + 2 * (n - k) ≤ N := by have := HN.out; have := totH_mono HAD.out.ext.has 256; omega
          have hlen : (M' k).length ≤ 257 := by rw [HAD.out.own, List.length_append, List.length_singleton]; omega
          have HS := hide (And.intro hms (And.intro hq1 (And.intro hf1 (And.intro hg1 (And.intro hlen hb'))))); clear hms hq1 hf1 hg1 hlen hb' hpM w1 w2 w3 w4
          have HU := hide hu; clear hu
          go_wp2
          clear n0 y2
          refine region_tail (fun wx => Holds w0 wx _) 16 (by kernel_rfl) (by kernel_rfl) hH.drew ?_
          simp only [List.take_succ_cons, List.take_zero, List.drop_succ_cons, List.drop_zero]
          iterate 15
            apply q_step
            · go_simp
            · intro wx hx
              have q1 := (NS.out wx hx).1
              have q2 := (NS.out wx hx).2.1
              have q3 := (NS.out wx hx).2.2
              go_simp
              try exact rfl
          iterate 1
            apply q_step
            · go_simp
            · intro wx hx
              go_simp
              exact Calls.mono (CF.out wx) fun e w' h => ⟨h.1, hx.call h.2⟩
          refine wpQuiet_nil ?_
          intro w8 H8
          clear hH
          have cs := HSt.out k (thenF u p n) G' H' B' M' g w0 w8 _ HS.out.1 hk HS.out.2.1 HS.out.2.2.1 HS.out.2.2.2.1 HAD.out.lv HAD.out.pr HAD.out.bd HS.out.2.2.2.2.1 H8
          have CS := hide cs; clear cs H8
          go_wp2_with fail
          refine CS.out.mono ?_
          rintro e w9 ⟨⟨v, rfl⟩, G2, H2, B2, M2, H9, st⟩
          have HST := hide st; clear st CS
          go_wp2
          go_roundw
          case rel => exact ⟨x + 1, G2, H2, B2, M2, by omega, by go_num, HAD.out.next hn hk hxn HS.out.2.2.2.2.2 (HU.out ▸ HST.out), H9⟩
          case measure => simp [intOf]; omega
      · have hxe : x = n := by omega
        have hxn' : ¬ (x : Int) < n := by omega
        have hE := HAD.out
        rw [hxe] at hE
        have HE := hide (ADE.out _ _ _ hE); clear hE HAD hxn hxe
        go_wp2
        go_end0
        exact ⟨⟨_, rfl⟩, G', H', B', M', hH.offL, HE.out⟩
  · rw [hb'] at ci
    have CI := hide ci; clear ci
    have HAD := hide (Added.none hl hp hb (hin.1 hb'))
    clear hq fq gq hl hp hb hb' hin hS0
    go_enter Try.func127, Try.ntmps127
    go_wp2_with fail
    refine CI.out.mono ?_
    rintro e w2 ⟨rfl, hb2⟩
    have H2 := H1.call hb2
    clear hb2 H1 d1 CI
    go_wp2
    (try simp only [Exit.inBlock, Exit.then]); refine bodyPost_ret (results_none rfl _ _ _) rfl ?_
    exact ⟨⟨_, rfl⟩, G, H, B, M, H2.offL, HAD.out⟩

theorem chBoth (n : Nat) (hn : n ≤ 16) : ∀ N, AddSt n N ∧ StepSt n N
  | 0 => ⟨fun k p G H B M g w0 w L hN hk => absurd hN (by omega), fun k p G H B M g w0 w L hN hk => absurd hN (by omega)⟩
  | N + 1 => ⟨chAdd n N hn (chBoth n hn N).2, chStep n N hn (chBoth n hn N).1 (chBoth n hn N).2⟩
/-- adding a permutation to a chain -/
theorem l03Add_any (n : Nat) (hn : n ≤ 16) (k : Nat) (p : Nat → Nat) (G : Nat → Value) (H : Nat → Bool) (B : Nat → Nat) (M : Nat → List (Nat → Nat)) (g : Nat) (w0 w : World) (L : List Part)
    (hk : k < n) (hq : PermN p n) (fq : ∀ z, z < k → p z = z) (gq : ∀ j, k = j + 1 → Gen n (Mk n M j) p) (hl : Lv n H B M) (hp : Pr n H B M k) (hb : Bd M H k)
    (hH : Holds w0 w (pBlk g (chv n G H B) 155 :: (gRows G M ++ L))) :
    Calls Try.prog 127 #[.pointer (some ⟨g, 0, none⟩), .int .i64 k, .agg (av p)] w fun e w' => (∃ v, e = .returned v) ∧ ∃ G' H' B' M', Holds w0 w' (pBlk g (chv n G' H' B') 155 :: (gRows G' M' ++ L)) ∧ Added n k p H B M H' B' M' :=
  (chBoth n hn _).1 k p G H B M g w0 w L (Nat.le_refl _) hk hq fq gq hl hp hb hH
end Go.Proofs.Ytdoehnckolhloaa

namespace Go.Proofs.Ytdoehnckolhloaa
open Go.RowKit

def fac16 : Nat → Nat
  | 0 => 1
  | k + 1 => (k + 1) * fac16 k
/-- what holds of a chain when a list of permutations has been added -/
structure MadeI (n : Nat) (l : List (Nat → Nat)) (H : Nat → Bool) (B : Nat → Nat) (M : Nat → List (Nat → Nat)) : Prop where
  lv : Lv n H B M
  pr : Pr n H B M 0
  bd : Bd M H 0
  top : ∀ s ∈ M 0, s ∈ l
  goal : ∀ s ∈ l, In n (Uc H B n) 0 s
section
variable {n : Nat} {l : List (Nat → Nat)} {H H' : Nat → Bool} {B B' : Nat → Nat} {M M' : Nat → List (Nat → Nat)}
theorem bS_way {k i : Nat} (hk : k < n) (hi : i < 16) (hn : n ≤ 16) : byF (bS n n) (k * 16 + k) i = sameF n i := by
  unfold byF bS
  have e1 : ((k * 16 + k) * 16 + i) / 16 = k * 16 + k := by omega
  have e2 : ((k * 16 + k) * 16 + i) / 256 = k := by
    have : (k * 16 + k) * 16 + i = k * 256 + (k * 16 + i) := by omega
    rw [this, Nat.add_comm, Nat.add_mul_div_right _ _ (by omega), Nat.div_eq_of_lt (by omega)]
    omega
  rw [e1, e2, if_pos ⟨by omega, hk⟩, show ((k * 16 + k) * 16 + i) % 16 = i by omega]
theorem MadeI.start (hn : n ≤ 16) : MadeI n [] (hS n) (bS n n) (fun _ => []) where
  lv := by
    have key : ∀ k x, k < n → x < n → hS n (k * 16 + x) = true → x = k := fun k x hk hx hh => by
      unfold hS at hh
      have := of_decide_eq_true hh
      omega
    refine ⟨fun k x hk hx hh => ?_, fun k hk => ⟨?_, fun z hz => ?_⟩, fun k hk s hs => (by cases hs), fun k hk s hs => (by cases hs), fun j hj hh => ?_⟩
    · obtain rfl := key k x hk hx hh
      have e : EqN 16 (byF (bS n n) (x * 16 + x)) (sameF n) := fun z hz => bS_way hk hz hn
      have hi : ∀ z, z < n → byF (bS n n) (x * 16 + x) z = z := fun z hz => by rw [e z (by omega)]; exact upto_in hz
      exact ⟨(sameF_perm (by omega) hn).congr e, fun z hz => hi z (by omega), hi x hk, .one hi⟩
    · unfold hS; exact decide_eq_true (by omega)
    · rw [bS_way hk (by omega) hn]; exact upto_in hz
    · unfold hS at hh
      have := of_decide_eq_true hh
      omega
  pr := fun k x _ _ _ _ s hs => by cases hs
  bd := fun j _ => Nat.zero_le _
  top := fun s hs => by cases hs
  goal := fun s hs => by cases hs
theorem MadeI.next {p : Nat → Nat} (hn : n ≤ 16) (h : MadeI n l H B M) (ad : Added n 0 p H B M H' B' M') : MadeI n (l ++ [p]) H' B' M' where
  lv := ad.lv
  pr := ad.pr
  bd := ad.bd
  top := fun s hs => by
    rcases ad.own with e | e
    · rw [e] at hs; exact List.mem_append_left _ (h.top s hs)
    · rw [e] at hs
      rcases List.mem_append.1 hs with c | c
      · exact List.mem_append_left _ (h.top s c)
      · exact List.mem_append_right _ c
  goal := fun s hs => by
    rcases List.mem_append.1 hs with c | c
    · exact In.ext' hn h.lv (h.goal s c) ad.ext
    · rw [List.mem_singleton.1 c]; exact ad.mem
theorem MadeI.comp (h : MadeI n l H B M) : Comp n (Uc H B n) M 0 where
  way k _ hk u hu := by
    obtain ⟨x, hx, hh, rfl⟩ := Uc_mem.1 hu
    have := h.lv.way k x hk hx hh
    exact ⟨this.1.2.2.1, this.2.1, this.2.2.2⟩
  one k _ hk := by
    have := h.lv.one k hk
    exact ⟨_, Uc_mem.2 ⟨k, hk, this.1, rfl⟩, this.2⟩
  mks k _ hk s hs := ⟨(h.lv.mks k hk s hs).1.2.2.1, (h.lv.mks k hk s hs).2⟩
  down k _ hk := h.lv.down k hk
  prod k _ hk u hu s hs := by
    obtain ⟨x, hx, hh, rfl⟩ := Uc_mem.1 hu
    exact h.pr k x (Nat.zero_le _) hk hx hh s hs
theorem MadeI.dist (h : MadeI n l H B M) : Dist n (Uc H B n) := fun k hk => by
  unfold Uc
  rw [List.map_map]
  have e : ((List.range n).filter fun x => H (k * 16 + x)).map ((fun u => u k) ∘ fun x => byF B (k * 16 + x)) = (List.range n).filter fun x => H (k * 16 + x) := by
    conv => rhs; rw [← List.map_id ((List.range n).filter fun x => H (k * 16 + x))]
    refine List.map_congr_left fun x hx => ?_
    obtain ⟨h1, h2⟩ := List.mem_filter.1 hx
    exact (h.lv.way k x hk (List.mem_range.1 h1) h2).2.2.1
  rw [e]
  exact List.Pairwise.filter _ List.nodup_range
theorem MadeI.group (h : MadeI n l H B M) (hl : ∀ s ∈ l, Bij s n) (p : Nat → Nat) : Gen n (· ∈ l) p ↔ Gen n (Mk n M 0) p := by
  have hc := h.comp
  constructor
  · exact fun hp => hp.sub (h.lv.mb 0) fun s hs => (hc.inGen (Nat.le_refl _) (Nat.zero_le _) s).1 (h.goal s hs)
  · exact fun hp => hp.mono fun s hs => h.top s hs.2
theorem cntH_len (H : Nat → Bool) (B : Nat → Nat) (k : Nat) : ∀ x, cntH H k x = ((List.range x).filter fun x => H (k * 16 + x)).length
  | 0 => rfl
  | x + 1 => by
    rw [cntH, cntH_len H B k x, List.range_succ, List.filter_append, List.length_append]
    rcases e : H (k * 16 + x) with _ | _
    · simp [e]
    · simp [e]
theorem ordH_way (H : Nat → Bool) (B : Nat → Nat) (n : Nat) : ∀ k, ordH H n k = wayN (Uc H B n) k
  | 0 => rfl
  | k + 1 => by
    rw [ordH, wayN, ordH_way H B n k, cntH_len H B k n]
    unfold Uc
    rw [List.length_map]
theorem MadeI.order (h : MadeI n l H B M) (hl : ∀ s ∈ l, Bij s n) : ordH H n n = ordT n (Gen n (· ∈ l)) n := by
  rw [ordH_way H B n n]
  exact h.comp.order h.dist (h.group hl) n (Nat.le_refl _)
/-- small enough to be told -/
theorem cntH_low (h : MadeI n l H B M) (hn : n ≤ 16) {k : Nat} (hk : k < n) : cntH H k n ≤ n - k := by
  rw [cntH_len H B k n]
  have h1 := nodup_le ((List.range n).filter fun x => H (k * 16 + x)) ((List.range (n - k)).map (· + k)) (List.Pairwise.filter _ List.nodup_range) fun x hx => by
    obtain ⟨h1, h2⟩ := List.mem_filter.1 hx
    have hx := List.mem_range.1 h1
    obtain ⟨w1, w2, w3, _⟩ := h.lv.way k x hk hx h2
    have hge : k ≤ x := by
      rcases Nat.lt_or_ge x k with c | c
      · have e := w2 x c
        have := w1.2.2.1.2 x k hx hk (by rw [e, w3])
        omega
      · exact c
    exact List.mem_map.2 ⟨x - k, List.mem_range.2 (by omega), by omega⟩
  rwa [List.length_map, List.length_range] at h1
theorem MadeI.small (h : MadeI n l H B M) (hn : n ≤ 16) : ∀ k, k ≤ n → ordH H n k * fac16 (n - k) ≤ fac16 n
  | 0, _ => by simp [ordH]
  | k + 1, hk => by
    have h1 := h.small hn k (by omega)
    have h2 := cntH_low h hn (show k < n by omega)
    obtain ⟨j, hj⟩ : ∃ j, n - k = j + 1 := ⟨n - k - 1, by omega⟩
    rw [show n - (k + 1) = j by omega, ordH]
    rw [hj, fac16] at h1
    rw [hj] at h2
    refine Nat.le_trans ?_ h1
    rw [Nat.mul_assoc]
    exact Nat.mul_le_mul_left _ (Nat.mul_le_mul_right _ h2)
theorem fac16_pos : ∀ k, 1 ≤ fac16 k
  | 0 => Nat.le_refl _
  | k + 1 => Nat.mul_pos (Nat.succ_pos k) (fac16_pos k)
theorem fac16_mono (k : Nat) : ∀ j, fac16 k ≤ fac16 (k + j)
  | 0 => Nat.le_refl _
  | j + 1 => Nat.le_trans (fac16_mono k j) (by rw [← Nat.add_assoc, fac16]; exact Nat.le_mul_of_pos_left _ (Nat.succ_pos _))
theorem MadeI.big (h : MadeI n l H B M) (hn : n ≤ 16) {k : Nat} (hk : k ≤ n) : ordH H n k ≤ 9223372036854775807 := by
  have h1 := h.small hn k hk
  have h2 := Nat.le_mul_of_pos_right (ordH H n k) (fac16_pos (n - k))
  have h3 := fac16_mono n (16 - n)
  rw [show n + (16 - n) = 16 by omega] at h3
  have h4 : fac16 16 = 20922789888000 := by decide
  omega
/-- what belongs to the group -/
theorem MadeI.inside (h : MadeI n l H B M) (hl : ∀ s ∈ l, Bij s n) (hn : n ≤ 16) {p : Nat → Nat} (hp : PermN p n) : insideT H B n n p = true ↔ Gen n (· ∈ l) p := by
  have h1 := h.lv.inside hn (Nat.zero_le _) hp (fun x hx => absurd hx (Nat.not_lt_zero x))
  rw [Nat.sub_zero] at h1
  rw [h1, h.comp.inGen (Nat.le_refl _) (Nat.zero_le _), h.group hl]
end

set_option maxRecDepth 100000 in
set_option maxHeartbeats 1000000 in
theorem l03Made_any (n : Nat) (h1 : 1 ≤ n) (hn : n ≤ 16) (v : Value) (l : List (Nat → Nat)) (hl : ∀ p ∈ l, PermN p n) (hlen : l.length ≤ 1000000) (w : World) (hv : (pPl v l).ok w) :
    Calls Try.prog 109 #[v, .int .i64 n] w fun e w' => ∃ g G H B M, e = .returned (.pointer (some ⟨g, 0, none⟩)) ∧ Holds w w' (pBlk g (chv n G H B) 155 :: gRows G M) ∧ MadeI n l H B M := by
  obtain ⟨A, c, rfl⟩ := own_slice hv
  have HV := hide hv; clear hv
  have HL := hide hl; clear hl
  have CS := hide fun w => l03Start_any n hn w
  go_enter Try.func109, Try.ntmps109
  go_wp2_with fail
  refine (CS.out _).mono ?_
  rintro e w1 ⟨g, rfl, hN⟩
  go_wp2
  go_loopw [6] (fun t wr => ∃ i G H B M, i ≤ l.length ∧ t = .int .i64 ((i : Nat) : Int) ∧ MadeI n (l.take i) H B M ∧ Holds w wr (pBlk g (chv n G H B) 155 :: (gRows G M ++ []))) (fun t _ => l.length - (intOf t).toNat)
  case atStart => exact ⟨0, _, _, _, _, by omega, rfl, MadeI.start hn, by rw [List.append_nil]; exact hN⟩
  case round =>
    clear hN CS
    obtain ⟨i, G, H, B, M, hi, rfl, hM, hH⟩ := hrel
    have HM := hide hM; clear hM
    by_cases hil : i < l.length
    · obtain ⟨q0, c0, e0, -, lk⟩ := plOk_load (plOk_below HV.out hH.low) hil
      injection e0 with e0 e1 e2
      subst e0
      clear e1 e2
      have hp := HL.out _ (List.getElem_mem hil)
      have htk : l.take (i + 1) = l.take i ++ [l[i]] := List.take_succ_eq_append_getElem hil
      obtain ⟨p, hpe⟩ : ∃ p, p = l[i] := ⟨_, rfl⟩
      rw [← hpe] at hp lk htk
      have HTK := hide htk; clear htk hpe
      have ca := l03Add_any n hn 0 p G H B M g w wr [] (by omega) hp (fun z hz => absurd hz (Nat.not_lt_zero z)) (fun j e => absurd e (by omega)) HM.out.lv HM.out.pr HM.out.bd hH
      have CA := hide ca; clear ca hH hp
      have hil' : (i : Int) < l.length := by omega
      go_wp2_with fail
      refine CA.out.mono ?_
      rintro e w2 ⟨⟨v, rfl⟩, G2, H2, B2, M2, hH2, ad⟩
      have HAD := hide ad; clear ad CA lk
      go_wp2
      go_roundw
      case rel => exact ⟨i + 1, G2, H2, B2, M2, by omega, by go_num, by rw [HTK.out]; exact HM.out.next hn HAD.out, hH2⟩
      case measure => simp [intOf]; omega
    · have hie : i = l.length := by omega
      have hil' : ¬ (i : Int) < l.length := by omega
      have hM := HM.out
      rw [hie, List.take_length] at hM
      rw [List.append_nil] at hH
      have HM2 := hide hM; clear hM HM hie hil
      go_wp2
      go_ret
      refine ⟨g, ?_⟩
      first | exact ⟨G, H, B, M, rfl, hH, HM2.out⟩ | exact ⟨rfl, G, H, B, M, hH, HM2.out⟩
end Go.Proofs.Ytdoehnckolhloaa

namespace Go.Proofs.Ytdoehnckolhloaa
open Go.RowKit

theorem backF_out {p : Nat → Nat} {m : Nat} (h : Bij p m) {x : Nat} (hx : m ≤ x) : backF p m x = 0 := backTo_none m fun y hy e => by have := h.1 y hy; omega
/-- the program's form of it -/
theorem mixF_eq {p q : Nat → Nat} {m : Nat} (hp : PermN p m) (hq : PermN q m) : thenF (thenF p q m) (backF (thenF q p m) m) m = mixF m p q := by
  have e : backF (thenF q p m) m = thenF (backF p m) (backF q m) m := by
    funext i
    have hb := (thenF_perm hq hp).2.2.1
    rcases Nat.lt_or_ge i m with c | c
    · obtain ⟨x, hx, rfl⟩ := hb.onto c
      have h1 := hq.2.2.1.1 x hx
      rw [backF_at hb hx, thenF_at c, thenF_at hx, backF_at hp.2.2.1 h1, backF_at hq.2.2.1 hx]
    · rw [backF_out hb c, thenF_out c]
  rw [e]; rfl
/-- the commutators of the first i permutations, and of the next one with k of them -/
def comI (m : Nat) (L : List (Nat → Nat)) (i k : Nat) : List (Nat → Nat) := (List.range i).flatMap (fun j => (L.take j).map fun q => mixF m (L.getD j id) q) ++ ((L.take i).take k).map fun q => mixF m (L.getD i id) q
theorem comI_zero (m : Nat) (L : List (Nat → Nat)) : comI m L 0 0 = [] := rfl
theorem comI_full (m : Nat) (L : List (Nat → Nat)) (i : Nat) (hi : i ≤ L.length) : comI m L i i = comI m L (i + 1) 0 := by
  unfold comI
  rw [List.range_succ, List.flatMap_append]
  simp [List.take_take]
theorem comI_end (m : Nat) (L : List (Nat → Nat)) : comI m L L.length 0 = comL m L := by unfold comI comL; simp
theorem comI_next (m : Nat) (L : List (Nat → Nat)) {i k : Nat} (hk : k < i) (hi : i < L.length) : comI m L i (k + 1) = comI m L i k ++ [mixF m (L[i]) (L[k]'(by omega))] := by
  unfold comI
  have h1 : k < (L.take i).length := by rw [List.length_take]; omega
  rw [List.take_succ_eq_append_getElem h1, List.map_append, ← List.append_assoc]
  congr 1
  simp [List.getD_eq_getElem?_getD, hi]
theorem comI_len (m : Nat) (L : List (Nat → Nat)) (i k : Nat) (hk : k ≤ i) : (comI m L i k).length ≤ i * i + i := by
  have h : ∀ i, ((List.range i).flatMap (fun j => (L.take j).map fun q => mixF m (L.getD j id) q)).length ≤ i * i := by
    intro i
    induction i with
    | zero => simp
    | succ i ih =>
      rw [List.range_succ, List.flatMap_append, List.length_append]
      have : ((List.flatMap (fun j => (L.take j).map fun q => mixF m (L.getD j id) q) [i])).length ≤ i := by simp [List.length_take]; omega
      have e : (i + 1) * (i + 1) = i * i + 2 * i + 1 := by rw [Nat.add_mul, Nat.mul_add]; omega
      omega
  have h1 := h i
  have h2 : (((L.take i).take k).map fun q => mixF m (L.getD i id) q).length ≤ k := by simp [List.length_take]; omega
  unfold comI
  rw [List.length_append]
  omega

theorem plOk_cap {w : World} {A : Option Addr} {n c : Nat} {l : List (Nat → Nat)} (h : (pPl (.slice A n c) l).ok w) : l.length ≤ c := by
  rcases h.2 with ⟨e1, e2⟩ | ⟨g, cap, cur, e, _, _, h1, h2, _⟩
  · injection e1 with _ _ e3
    omega
  · injection e with _ _ e3
    omega

set_option maxRecDepth 100000 in
set_option maxHeartbeats 4000000 in
theorem commutators_any (m : Nat) (hm : m ≤ 16) (v : Value) (l : List (Nat → Nat)) (hl : ∀ p ∈ l, PermN p m) (hlen : l.length ≤ 300) (w : World) (hv : (pPl v l).ok w) :
    Calls Try.prog 113 #[v, .int .i64 m] w fun e w' => ∃ u, e = .returned u ∧ Holds w w' [pPl u (comL m l)] := by
  obtain ⟨A, c, rfl⟩ := own_slice hv
  have hcap := plOk_cap hv
  have HV := hide hv; clear hv
  have HL := hide hl; clear hl
  have H0 := (Holds.start w).nilRow 27 16
  go_enter Try.func113, Try.ntmps113
  go_wp2
  go_loopw [5, 12] (fun u t wr => ∃ i : Nat, i ≤ l.length ∧ t = .int .i64 i ∧ Holds w wr [pPl u (comI m l i 0)]) (fun _ t _ => l.length - (intOf t).toNat)
  case atStart => exact ⟨0, by omega, rfl, H0⟩
  case round =>
    clear H0
    obtain ⟨i, hi, rfl, hH⟩ := hrel
    by_cases hil : i < l.length
    · obtain ⟨q0, c0, e0, -, lk⟩ := plOk_load (plOk_below HV.out hH.low) hil
      injection e0 with e0 e1 e2
      subst e0
      clear e1 e2
      have hil' : (i : Int) < l.length := by omega
      have hic : i ≤ c := by omega
      have hpp := HL.out _ (List.getElem_mem hil)
      have H1 := hH.blk (av l[i]) 27 wr.heap.size rfl
      obtain ⟨p, hpe⟩ : ∃ p, p = l[i] := ⟨_, rfl⟩
      rw [← hpe] at lk hpp H1
      have HPE := hide hpe; clear hpe
      clear hH
      go_wp2
      clear lk
      generalize wr.alloc (.cells (av p) 27) = wg at *
      generalize wr.heap.size = G7 at *
      go_loopw [5, 21] (fun u t wr => ∃ k : Nat, k ≤ i ∧ t = .int .i64 k ∧ Holds w wr [pBlk G7 (av p) 27, pPl u (comI m l i k)]) (fun _ t _ => i - (intOf t).toNat)
      case atStart => exact ⟨0, by omega, rfl, H1⟩
      case round =>
        clear H1
        obtain ⟨k, hk, rfl, hH⟩ := hrel
        by_cases hki : k < i
        · have hkl : k < l.length := by omega
          obtain ⟨q1, c1, e0, -, lk⟩ := plOk_load (plOk_below HV.out hH.low) hkl
          cases e0
          have hki' : (k : Int) < i := by omega
          have hq := HL.out _ (List.getElem_mem hkl)
          have hnx := comI_next m l hki hil
          rw [← HPE.out] at hnx
          have hln := comI_len m l i k hk
          have hbd : (comI m l i k).length ≤ 100000 := by
            have : i * i ≤ 300 * 300 := Nat.mul_le_mul (by omega) (by omega)
            omega
          clear hln
          obtain ⟨q, hqe⟩ : ∃ q, q = l[k]'hkl := ⟨_, rfl⟩
          rw [← hqe] at lk hq hnx
          clear hqe
          rw [← mixF_eq hpp hq] at hnx
          have C1 := hide fun w => follow_any p q m hm (fun x hx => hpp.lt x (by omega)) w
          have C2 := hide fun w => follow_any q p m hm (fun x hx => hq.lt x (by omega)) w
          have C3 := hide fun w => undo_any (thenF q p m) m hm (fun x hx => (thenF_perm hq hpp).lt x (by omega)) w
          have C4 := hide fun w => follow_any (thenF p q m) (backF (thenF q p m) m) m hm (fun x hx => (thenF_perm hpp hq).lt x (by omega)) w
          generalize thenF (thenF p q m) (backF (thenF q p m) m) m = r at *
          generalize backF (thenF q p m) m = Z at *
          generalize thenF q p m = Y at *
          generalize thenF p q m = X at *
          have HNX := hide hnx; clear hnx
          generalize comI m l i k = M at *
          obtain ⟨A', c', rfl⟩ := hH.plForm 1 rfl
          have H2 := hH.blk (av q) 27 wr.heap.size rfl
          clear hH
          go_wp2
          clear lk
          generalize wr.alloc (.cells (av q) 27) = wh at *
          generalize wr.heap.size = G9 at *
          refine Rd.region_P (w0 := w) [pBlk G9 (av q) 27, pBlk G7 (av p) 27] [pBlk G9 (av q) 27, pBlk G7 (av p) 27, pPl (.slice A' M.length c') M] [13, 14] (.q 0 <| .q 1 <| .q 2 <| .q 3 <| .q 4 <| .q 5 <| .q 6 <| .q 7 <| .q 8 <| .q 9 <| .q 10 <| .q 11 <| .q 12 <| .s1 13 <| .s1 14 <| .q 15 .fin) H2 (.cons_cons _ (.cons_cons _ (.cons _ (.refl _)))) (by kernel_rfl) (by kernel_rfl) (by kernel_rfl) ?_
          iterate 4
            apply Rd.v_q
            · simp only [List.getElem?_toArray, List.getElem?_cons_zero, List.getElem?_cons_succ]; exact rfl
            · rfl
            · go_simp
            · intro wx hx
              have q0 := hx.cells 0 rfl
              have q1 := hx.cells 1 rfl
              unfold atG
              go_simp
              simp only [uponG]
              exact ⟨by trivial, rfl⟩
          iterate 1
            apply Rd.v_q
            · simp only [List.getElem?_toArray, List.getElem?_cons_zero, List.getElem?_cons_succ]; exact rfl
            · rfl
            · go_simp
            · intro wx hx
              have q0 := hx.cells 0 rfl
              have q1 := hx.cells 1 rfl
              unfold atG
              go_simp
              simp only [uponG]
              exact ⟨by trivial, C1.out wx⟩
          iterate 3
            apply Rd.v_q
            · simp only [List.getElem?_toArray, List.getElem?_cons_zero, List.getElem?_cons_succ]; exact rfl
            · rfl
            · go_simp
            · intro wx hx
              have q0 := hx.cells 0 rfl
              have q1 := hx.cells 1 rfl
              unfold atG
              go_simp
              simp only [uponG]
              exact ⟨by trivial, rfl⟩
          iterate 1
            apply Rd.v_q
            · simp only [List.getElem?_toArray, List.getElem?_cons_zero, List.getElem?_cons_succ]; exact rfl
            · rfl
            · go_simp
            · intro wx hx
              have q0 := hx.cells 0 rfl
              have q1 := hx.cells 1 rfl
              unfold atG
              go_simp
              simp only [uponG]
              exact ⟨by trivial, C2.out wx⟩
          iterate 1
            apply Rd.v_q
            · simp only [List.getElem?_toArray, List.getElem?_cons_zero, List.getElem?_cons_succ]; exact rfl
            · rfl
            · go_simp
            · intro wx hx
              have q0 := hx.cells 0 rfl
              have q1 := hx.cells 1 rfl
              unfold atG
              go_simp
              simp only [uponG]
              exact ⟨by trivial, rfl⟩
          iterate 1
            apply Rd.v_q
            · simp only [List.getElem?_toArray, List.getElem?_cons_zero, List.getElem?_cons_succ]; exact rfl
            · rfl
            · go_simp
            · intro wx hx
              have q0 := hx.cells 0 rfl
              have q1 := hx.cells 1 rfl
              unfold atG
              go_simp
              simp only [uponG]
              exact ⟨by trivial, C3.out wx⟩
          iterate 1
            apply Rd.v_q
            · simp only [List.getElem?_toArray, List.getElem?_cons_zero, List.getElem?_cons_succ]; exact rfl
            · rfl
            · go_simp
            · intro wx hx
              have q0 := hx.cells 0 rfl
              have q1 := hx.cells 1 rfl
              unfold atG
              go_simp
              simp only [uponG]
              exact ⟨by trivial, rfl⟩
          iterate 1
            apply Rd.v_q
            · simp only [List.getElem?_toArray, List.getElem?_cons_zero, List.getElem?_cons_succ]; exact rfl
            · rfl
            · go_simp
            · intro wx hx
              have q0 := hx.cells 0 rfl
              have q1 := hx.cells 1 rfl
              unfold atG
              go_simp
              simp only [uponG]
              exact ⟨by trivial, C4.out wx⟩
          refine Rd.v_build (av r) 27 1 (by simp only [List.getElem?_toArray, List.getElem?_cons_zero, List.getElem?_cons_succ]; exact rfl) rfl (by go_simp) (fun wx hx hD => by go_simp) fun gq => ?_
          refine Rd.v_s (fun u wx => Holds w wx [pBlk G9 (av q) 27, pBlk G7 (av p) 27, pPl u (M ++ [r])]) (fun u _ _ h hb => h.call hb) (by simp only [List.getElem?_toArray, List.getElem?_cons_zero, List.getElem?_cons_succ]; exact rfl) rfl (by go_simp) (fun wx hx hD => ?_) ?_
          · exact upon_appPl hD 3 rfl gq r 27 (hD.at 0 rfl) hbd (fun v' w' h2 => ⟨h2.sub (.cons _ (.cons_cons _ (.cons_cons _ (.cons _ (.refl _))))), h2.sub (.cons _ (.refl _))⟩) _ _ rfl (by go_simp) (by go_simp)
          rintro v' -
          iterate 1
            apply Rd.v_q
            · simp only [List.getElem?_toArray, List.getElem?_cons_zero, List.getElem?_cons_succ]; exact rfl
            · rfl
            · go_simp
            · intro wx hx
              unfold atG
              go_simp
              simp only [uponG]
              exact ⟨by trivial, rfl⟩
          rintro w4 - H4
          have H5 := H4.tail
          rw [← HNX.out] at H5
          clear H2
          go_simp
          go_wp2
          go_roundw
          case rel => exact ⟨k + 1, by omega, by go_num, H5⟩
          case measure => simp [intOf]; omega
        · obtain rfl : k = i := by omega
          have H2 := hH.tail
          rw [comI_full m l k hi] at H2
          go_wp2
          go_roundw
          case rel => exact ⟨k + 1, by omega, by go_num, H2⟩
          case measure => simp [intOf]; omega
    · obtain rfl : i = l.length := by omega
      rw [comI_end] at hH
      go_wp2
      go_ret
      exact ⟨_, rfl, hH⟩
end Go.Proofs.Ytdoehnckolhloaa

namespace Go.Proofs.Ytdoehnckolhloaa
open Go.RowKit

def fact : Nat → Nat
  | 0 => 1
  | k + 1 => (k + 1) * fact k
section
variable {n : Nat} {G Q : (Nat → Nat) → Prop} {U M : Nat → List (Nat → Nat)} {W : List ((Nat → Nat) × Nat)}
theorem SInv.few (h : SInv n G Q U M W) {k : Nat} (hk : k < n) : (U k).length ≤ n - k := by
  have h1 := nodup_le ((U k).map fun u => u k) ((List.range (n - k)).map (· + k)) (h.dist k hk) fun x hx => by
    obtain ⟨u, hu, rfl⟩ := List.mem_map.1 hx
    have hw := h.way k hk u hu
    have hb := hw.1.2.2.1
    have hlt := hb.1 k hk
    have hge : k ≤ u k := by
      rcases Nat.lt_or_ge (u k) k with c | c
      · have := hw.2.1 (u k) c
        have := hb.2 (u k) k hlt hk this
        omega
      · exact c
    exact List.mem_map.2 ⟨u k - k, List.mem_range.2 (by omega), by omega⟩
  rwa [List.length_map, List.length_map, List.length_range] at h1
theorem SInv.way_le (h : SInv n G Q U M W) : ∀ k, k ≤ n → wayN U k * fact (n - k) ≤ fact n
  | 0, _ => by simp [wayN]
  | k + 1, hk => by
    have h1 := h.way_le k (by omega)
    have h2 := h.few (show k < n by omega)
    obtain ⟨j, hj⟩ : ∃ j, n - k = j + 1 := ⟨n - k - 1, by omega⟩
    rw [show n - (k + 1) = j by omega, wayN]
    rw [hj, fact] at h1
    rw [hj] at h2
    refine Nat.le_trans ?_ h1
    rw [Nat.mul_assoc]
    exact Nat.mul_le_mul_left _ (Nat.mul_le_mul_right _ h2)
theorem fact_pos : ∀ k, 1 ≤ fact k
  | 0 => Nat.le_refl _
  | k + 1 => Nat.mul_pos (Nat.succ_pos k) (fact_pos k)
theorem fact_mono (k : Nat) : ∀ j, fact k ≤ fact (k + j)
  | 0 => Nat.le_refl _
  | j + 1 => Nat.le_trans (fact_mono k j) (by rw [← Nat.add_assoc, fact]; exact Nat.le_mul_of_pos_left _ (Nat.succ_pos _))
theorem SInv.way_big (h : SInv n G Q U M W) (hn : n ≤ 16) {k : Nat} (hk : k ≤ n) : wayN U k ≤ 20922789888000 := by
  have h1 := h.way_le k hk
  have h2 := Nat.le_mul_of_pos_right (wayN U k) (fact_pos (n - k))
  have h3 := fact_mono n (16 - n)
  rw [show n + (16 - n) = 16 by omega] at h3
  have h4 : fact 16 = 20922789888000 := by decide
  omega
/-- the order that the sieve tells -/
theorem SInv.order {S : (Nat → Nat) → Prop} (h : SInv n (Gen n S) S U M []) (hS : ∀ s, S s → Bij s n) : wayN U n = ordT n (Gen n S) n := h.comp.order h.dist (h.group hS) n (Nat.le_refl _)
/-- what the sieve keeps is not in the group -/
theorem SInv.sift_in {S : (Nat → Nat) → Prop} (h : SInv n (Gen n S) S U M []) (hS : ∀ s, S s → Bij s n) (hn : n ≤ 16) {p : Nat → Nat} (hp : PermN p n) : (Proofs.Ytdoehnckolhloaa.sift U n n p).2 = n ↔ Gen n S p := by
  obtain ⟨s1, _, s3, s4, s5, s6, s7, _⟩ := h.sift hn n (Nat.le_refl _) p hp (fun x hx => by omega)
  have hc := h.comp
  rw [h.group hS p]
  generalize Proofs.Ytdoehnckolhloaa.sift U n n p = ry at *
  obtain ⟨r, y⟩ := ry
  simp only at s1 s3 s4 s5 s6 s7 ⊢
  constructor
  · intro e
    have := s6 U (fun _ _ hu => hu) (by rw [e]; exact .done fun x hx => s4 x (by omega))
    rw [Nat.sub_self] at this
    exact (hc.inGen (Nat.le_refl _) (Nat.zero_le _) p).1 this
  · intro hg
    rcases Nat.lt_or_ge y n with c | c
    · exfalso
      have lift : ∀ k, k < n → ∀ u ∈ U k, Gen n (Mk n M 0) u := fun k hk u hu => by
        have : ∀ j, j ≤ n → ∀ q, Gen n (Mk n M j) q → Gen n (Mk n M 0) q := by
          intro j
          induction j with
          | zero => exact fun _ _ hq => hq
          | succ j ih => exact fun hj q hq => ih (by omega) q (hc.genUp (Nat.zero_le _) hq)
        exact this k (by omega) u (h.way k hk u hu).2.2
      have hr := s7 (Mk n M 0) 0 (h.mb 0) (fun x hx _ => absurd hx (by omega)) (fun k _ hk u hu => lift k hk u hu) hg
      have hi := (hc.inGen (Nat.le_refl _) (Nat.zero_le _) _).2 hr
      have hi2 := h.from (by omega) hi s4
      cases hi2 with
      | done e => omega
      | step hk hu hq e =>
        exact s5 c _ hu (by
          have e1 := e y c
          rw [hq.fix h.wf y (by omega)] at e1
          exact e1.symm)
    · omega
end

/-- the order of the group of a dessin, and the error -/
noncomputable def ordN (n : Int) (f g : Nat → Nat) : Nat := if desB n f g then ordT n.toNat (Gen n.toNat (Two f g)) n.toNat else 0

-- left out here: loop.example/g01200/impl.GroupOrder
end Go.Proofs.Ytdoehnckolhloaa

namespace Go.Proofs.Ytdoehnckolhloaa
open Go.RowKit

theorem SInv.monoG {n : Nat} {G G' Q : (Nat → Nat) → Prop} {U M : Nat → List (Nat → Nat)} {W : List ((Nat → Nat) × Nat)} (h : SInv n G Q U M W) (hG : ∀ q, G q → G' q) : SInv n G' Q U M W where
  way := h.way
  one := h.one
  mks := h.mks
  down := h.down
  dist := h.dist
  prod := h.prod
  grain w hw := ⟨(h.grain w hw).1, (h.grain w hw).2.1, fun e => hG _ ((h.grain w hw).2.2.1 e), (h.grain w hw).2.2.2⟩
  top s hs := hG _ (h.top s hs)
  goal := h.goal
/-- the sieve of a list -/
structure SvI (m : Nat) (K : List (Nat → Nat)) (R : Nat → List (Nat → Nat)) : Prop where
  inv : SInv m (Gen m (· ∈ K)) (· ∈ K) (Uf R) (Mf R) []
  len : ∀ i, (R i).length ≤ totN R m
theorem SvI.start {m : Nat} (h0 : 0 < m) (hm : m ≤ 16) : SvI m [] (R0 m m) where
  inv := by
    have e : (fun p : Nat → Nat => p ∈ ([] : List (Nat → Nat))) = fun _ => False := by funext p; simp
    rw [e]
    exact sInv_start m hm _
  len := R0_len m h0
section
variable {m : Nat} {K : List (Nat → Nat)} {R : Nat → List (Nat → Nat)}
theorem SvI.has (h : SvI m K R) (hm : m ≤ 16) (hK : ∀ p ∈ K, PermN p m) {p : Nat → Nat} (hp : PermN p m) : (sift (Uf R) m m p).2 = m ↔ Gen m (· ∈ K) p := h.inv.sift_in (fun s hs => (hK s hs).2.2.1) hm hp
theorem SvI.order (h : SvI m K R) (hK : ∀ p ∈ K, PermN p m) : wayN (Uf R) m = ordT m (Gen m (· ∈ K)) m := h.inv.order fun s hs => (hK s hs).2.2.1
open Classical in
theorem dStep_yes {p : Nat → Nat} (h : Gen m (· ∈ K) p) : dStep m K p = K := by unfold dStep; rw [if_pos h]
open Classical in
theorem dStep_no {p : Nat → Nat} (h : ¬ Gen m (· ∈ K) p) : dStep m K p = K ++ [p] := by unfold dStep; rw [if_neg h]
end
/-- one more of them -/
theorem addK_any (m : Nat) (hm : m ≤ 16) (g : Nat) (vs : Nat → Value) (K : List (Nat → Nat)) (R : Nat → List (Nat → Nat)) (hK : ∀ p ∈ K, PermN p m) (h : SvI m K R) (p : Nat → Nat) (hp : PermN p m) (w0 w : World) (L : List Part) (H : Holds w0 w (pBlk g (sv m vs) 136 :: (svRows vs R ++ L))) :
    Calls Try.prog 112 #[.pointer (some ⟨g, 0, none⟩), .agg (av p)] w fun e w' => (∃ v, e = .returned v) ∧ ∃ vs' R', Holds w0 w' (pBlk g (sv m vs') 136 :: (svRows vs' R' ++ L)) ∧ SvI m (K ++ [p]) R' := by
  have hS : ∀ s, s ∈ K ++ [p] → Bij s m := fun s hs => by
    rcases List.mem_append.1 hs with c | c
    · exact (hK s c).2.2.1
    · rw [List.mem_singleton] at c; subst c; exact hp.2.2.1
  have h1 : SInv m (Gen m (· ∈ K ++ [p])) (· ∈ K) (Uf R) (Mf R) [] := h.inv.monoG fun q hq => hq.mono fun s hs => List.mem_append_left _ hs
  refine (add_any m hm g vs R (· ∈ K ++ [p]) (· ∈ K) hS h1 h.len p hp (.of (List.mem_append_right _ (List.mem_singleton.2 rfl))) w0 w L H).mono ?_
  rintro e w' ⟨hv, vs', R', h2, h3, h4⟩
  refine ⟨hv, vs', R', h2, ?_, h4⟩
  have e : (fun q : Nat → Nat => q ∈ K ∨ q = p) = (· ∈ K ++ [p]) := by funext q; simp
  rwa [e] at h3
theorem svAt_of {w0 w : World} {m g : Nat} {vs : Nat → Value} {R : Nat → List (Nat → Nat)} {L : List Part} (H : Holds w0 w (pBlk g (sv m vs) 136 :: (svRows vs R ++ L))) : SvAt w g m vs R :=
  ⟨H.at 0 rfl, fun k hk => H.at (k + 1) (by
    rw [List.getElem?_cons_succ, List.getElem?_append_left (by rw [svRows_length]; omega)]
    exact svRows_at vs R hk)⟩
open Classical in
theorem hasK_any (m : Nat) (hm : m ≤ 16) (g : Nat) (vs : Nat → Value) (K : List (Nat → Nat)) (R : Nat → List (Nat → Nat)) (hK : ∀ p ∈ K, PermN p m) (h : SvI m K R) (p : Nat → Nat) (hp : PermN p m) (w0 w : World) (L : List Part) (H : Holds w0 w (pBlk g (sv m vs) 136 :: (svRows vs R ++ L))) :
    Calls Try.prog 114 #[.pointer (some ⟨g, 0, none⟩), .agg (av p)] w fun e w' => e = .returned (.bool (decide (Gen m (· ∈ K) p))) ∧ Below w.heap.size w w' := by
  have htot := h.inv.tot hm
  have ch := has_any m hm g vs R (fun k hk u hu => (h.inv.way k hk u hu).1) (fun i => by have := h.len i; omega) p hp w (svAt_of H)
  have e : decide ((sift (fun k => R (k * 2)) m m p).2 = m) = decide (Gen m (· ∈ K) p) := decide_eq_decide.2 (h.has hm hK hp)
  rwa [e] at ch
theorem orderK_any (m : Nat) (hm : m ≤ 16) (g : Nat) (vs : Nat → Value) (K : List (Nat → Nat)) (R : Nat → List (Nat → Nat)) (hK : ∀ p ∈ K, PermN p m) (h : SvI m K R) (w0 w : World) (L : List Part) (H : Holds w0 w (pBlk g (sv m vs) 136 :: (svRows vs R ++ L))) :
    Calls Try.prog 82 #[.pointer (some ⟨g, 0, none⟩)] w fun e w' => e = .returned (.int .i64 (ordT m (Gen m (· ∈ K)) m)) ∧ Below w.heap.size w w' := by
  have co := order_any m hm g vs R (fun k hk => Nat.le_trans (h.inv.way_big hm hk) (by omega)) w (svAt_of H)
  have e : wayN (fun k => R (k * 2)) m = ordT m (Gen m (· ∈ K)) m := h.order hK
  rwa [e] at co
end Go.Proofs.Ytdoehnckolhloaa

namespace Go.Proofs.Ytdoehnckolhloaa

theorem filt_le {l : List Nat} {P Q : Nat → Bool} (h : ∀ y ∈ l, P y = true → Q y = true) : (l.filter P).length ≤ (l.filter Q).length ∧ ((l.filter Q).length ≤ (l.filter P).length → ∀ y ∈ l, Q y = true → P y = true) := by
  induction l with
  | nil => exact ⟨Nat.le_refl _, fun _ y hy => by cases hy⟩
  | cons a l ih =>
    obtain ⟨h1, h2⟩ := ih fun y hy => h y (List.mem_cons_of_mem _ hy)
    have h3 := h a (List.mem_cons_self ..)
    rcases hP : P a with _ | _
    · rcases hQ : Q a with _ | _
      · rw [List.filter_cons_of_neg (by simp [hP]), List.filter_cons_of_neg (by simp [hQ])]
        refine ⟨h1, fun e y hy hq => ?_⟩
        rcases List.mem_cons.1 hy with rfl | hy
        · rw [hQ] at hq; cases hq
        · exact h2 e y hy hq
      · rw [List.filter_cons_of_neg (by simp [hP]), List.filter_cons_of_pos hQ, List.length_cons]
        exact ⟨by omega, fun e => by omega⟩
    · have hQ := h3 hP
      rw [List.filter_cons_of_pos hP, List.filter_cons_of_pos hQ, List.length_cons, List.length_cons]
      refine ⟨by omega, fun e y hy hq => ?_⟩
      rcases List.mem_cons.1 hy with rfl | hy
      · exact hP
      · exact h2 (by omega) y hy hq
theorem range_ge (k : Nat) : ∀ n, ((List.range n).filter fun y => decide (k ≤ y)).length = n - k
  | 0 => by simp
  | n + 1 => by
    rw [List.range_succ, List.filter_append, List.length_append, range_ge k n]
    by_cases c : k ≤ n
    · rw [List.filter_cons_of_pos (by simpa using c)]; simp; omega
    · rw [List.filter_cons_of_neg (by simpa using c)]; simp; omega
section
variable {n : Nat} {S T : (Nat → Nat) → Prop}
theorem orbN_mono {G G' : (Nat → Nat) → Prop} (h : ∀ p, G p → G' p) (k : Nat) : orbN n G k ≤ orbN n G' k := by
  unfold orbN
  exact (filt_le fun y _ hy => by
    simp only [decide_eq_true_eq] at hy ⊢
    obtain ⟨p, hp, h2⟩ := hy
    exact ⟨p, h p hp, h2⟩).1
theorem orbN_same {G G' : (Nat → Nat) → Prop} (h : ∀ p, G p → G' p) {k : Nat} (he : orbN n G' k ≤ orbN n G k) {y : Nat} (hy : y < n) (ho : Orb G' k y) : Orb G k y := by
  unfold orbN at he
  have := (filt_le (l := List.range n) (P := fun y => @decide (Orb G k y) (Classical.propDecidable _)) (Q := fun y => @decide (Orb G' k y) (Classical.propDecidable _)) fun y _ hy => by
    simp only [decide_eq_true_eq] at hy ⊢
    obtain ⟨p, hp, h2⟩ := hy
    exact ⟨p, h p hp, h2⟩).2 he y (List.mem_range.2 hy) (by simpa using ho)
  simpa using this
theorem orbN_few (hS : ∀ s, S s → Bij s n) {k : Nat} (hk : k < n) : orbN n (Gen n S) k ≤ n - k := by
  rw [← range_ge k n]
  unfold orbN
  refine (filt_le fun y hy h => ?_).1
  simp only [decide_eq_true_eq] at h ⊢
  obtain ⟨p, hp, h1, h2⟩ := h
  rcases Nat.lt_or_ge y k with c | c
  · have hb := hp.bij hS
    have := hb.2 y k (by omega) hk (by rw [h1 y c, h2])
    omega
  · exact c
/-- the sum of the orbits -/
noncomputable def orbS (n : Nat) (G : (Nat → Nat) → Prop) : Nat → Nat
  | 0 => 0
  | k + 1 => orbS n G k + orbN n G k
theorem orbS_few (hS : ∀ s, S s → Bij s n) : ∀ j, j ≤ n → 2 * orbS n (Gen n S) j ≤ j * (2 * n + 1 - j)
  | 0, _ => by simp [orbS]
  | j + 1, hj => by
    have h1 := orbS_few hS j (by omega)
    have h2 := orbN_few hS (show j < n by omega)
    obtain ⟨a, ha⟩ : ∃ a, a + j = 2 * n := ⟨2 * n - j, by omega⟩
    rw [show 2 * n + 1 - j = a + 1 by omega, Nat.mul_succ] at h1
    rw [show 2 * n + 1 - (j + 1) = a by omega, Nat.succ_mul j a, orbS]
    omega
theorem orbS_136 (hn : n ≤ 16) (hS : ∀ s, S s → Bij s n) : orbS n (Gen n S) n ≤ 136 := by
  have h := orbS_few hS n (Nat.le_refl n)
  have h2 : n * (2 * n + 1 - n) ≤ 16 * 17 := Nat.mul_le_mul hn (by omega)
  omega
theorem orbS_mono {G G' : (Nat → Nat) → Prop} (h : ∀ p, G p → G' p) : ∀ j, orbS n G j ≤ orbS n G' j ∧ (orbS n G' j ≤ orbS n G j → ∀ k, k < j → orbN n G' k ≤ orbN n G k)
  | 0 => ⟨Nat.le_refl _, fun _ k hk => absurd hk (Nat.not_lt_zero k)⟩
  | j + 1 => by
    obtain ⟨h1, h2⟩ := orbS_mono h j
    have h3 := orbN_mono (n := n) h j
    rw [orbS, orbS]
    refine ⟨by omega, fun e k hk => ?_⟩
    rcases Nat.lt_or_ge k j with c | c
    · exact h2 (by omega) k c
    · obtain rfl : k = j := by omega
      omega
/-- equal orbits, equal groups -/
theorem Gen.of_orb (hn : n ≤ 16) (hS : ∀ s, S s → Bij s n) (hT : ∀ s, T s → Bij s n) (hsub : ∀ p, Gen n S p → Gen n T p) (he : ∀ k, k < n → ∀ y, y < n → Orb (Gen n T) k y → Orb (Gen n S) k y) :
    ∀ j, j ≤ n → ∀ p, Gen n T p → (∀ x, x < n - j → p x = x) → Gen n S p := by
  intro j
  induction j with
  | zero => intro _ p _ h; exact .one fun x hx => h x (by omega)
  | succ j ih =>
    intro hj p hp hfix
    obtain ⟨k, hk⟩ : ∃ k, k + (j + 1) = n := ⟨n - (j + 1), by omega⟩
    have hpb := hp.bij hT
    have hkn : k < n := by omega
    obtain ⟨q, hq, h1, h2⟩ := he k hkn (p k) (hpb.1 k hkn) ⟨p, hp, fun x hx => hfix x (by omega), rfl⟩
    have hqb := hq.bij hS
    have hi : Gen n T (backF q n) := Gen.inv hn hT (hsub q hq) fun x hx => backF_at hqb hx
    have hr : Gen n T (fun x => backF q n (p x)) := Gen.prod hT hp hi fun _ _ => rfl
    have hr2 := ih (by omega) _ hr fun x hx => by
      rcases Nat.lt_or_ge x k with c | c
      · have e1 := hfix x (by omega)
        have e2 := backF_at hqb (show x < n by omega)
        rw [h1 x c] at e2
        rw [e1]; exact e2
      · obtain rfl : x = k := by omega
        rw [← h2]; exact backF_at hqb hkn
    refine Gen.prod hS hr2 hq fun x hx => ?_
    obtain ⟨z, hz, e⟩ := hqb.onto (hpb.1 x hx)
    rw [← e, backF_at hqb hz]
/-- a greater group has greater orbits -/
theorem orbS_lt (hn : n ≤ 16) (hS : ∀ s, S s → Bij s n) (hT : ∀ s, T s → Bij s n) (hsub : ∀ p, Gen n S p → Gen n T p) {p : Nat → Nat} (hp : Gen n T p) (hq : ¬ Gen n S p) : orbS n (Gen n S) n < orbS n (Gen n T) n := by
  rcases Nat.lt_or_ge (orbS n (Gen n S) n) (orbS n (Gen n T) n) with c | c
  · exact c
  · have h := (orbS_mono (n := n) hsub n).2 c
    exact absurd (Gen.of_orb hn hS hT hsub (fun k hk y hy ho => orbN_same hsub (h k hk) hy ho) n (Nat.le_refl n) p hp fun x hx => absurd hx (by omega)) hq
end
section
variable {m : Nat} {L K : List (Nat → Nat)}
theorem dStep_len (hm : m ≤ 16) (hK : ∀ p ∈ K, PermN p m) {p : Nat → Nat} (hp : PermN p m) (h : K.length ≤ orbS m (Gen m (· ∈ K)) m) : (dStep m K p).length ≤ orbS m (Gen m (· ∈ dStep m K p)) m := by
  unfold dStep
  split
  · exact h
  · rename_i hn
    have hT : ∀ s, s ∈ K ++ [p] → Bij s m := fun s hs => by
      rcases List.mem_append.1 hs with c | c
      · exact (hK s c).2.2.1
      · rw [List.mem_singleton] at c; subst c; exact hp.2.2.1
    have h3 : orbS m (Gen m (· ∈ K)) m < orbS m (Gen m (· ∈ K ++ [p])) m := orbS_lt hm (fun s hs => (hK s hs).2.2.1) hT (fun q hq => hq.mono fun s hs => List.mem_append_left _ hs) (.of (List.mem_append_right _ (List.mem_singleton.2 rfl))) hn
    rw [List.length_append, List.length_singleton]
    omega
theorem KF_len (hm : m ≤ 16) (hL : ∀ p ∈ L, PermN p m) (t : Nat) : (KF m L t).length ≤ 136 := by
  have hP := KF_perm (L := L) (comL_perm hL) (conL_perm hL)
  have h : (KF m L t).length ≤ orbS m (Gen m (· ∈ KF m L t)) m := by
    induction t with
    | zero => exact Nat.zero_le _
    | succ t ih =>
      have hs := hP (t + 1)
      rcases hw : (waitL m L (KF m L t))[t]? with _ | p
      · rw [KF, hw]; exact ih
      · rw [KF_at hw]
        have hp : PermN p m := by
          have hmem := List.mem_of_getElem? hw
          unfold waitL at hmem
          rcases List.mem_append.1 hmem with c | c
          · exact comL_perm hL _ c
          · obtain ⟨s, hs, h2⟩ := List.mem_flatMap.1 c
            exact conL_perm hL s (hP t s hs) _ h2
        exact dStep_len hm (hP t) hp ih
  exact Nat.le_trans h (orbS_136 hm fun s hs => (hP t s hs).2.2.1)
end
end Go.Proofs.Ytdoehnckolhloaa

namespace Go.Proofs.Ytdoehnckolhloaa
open Go.RowKit

theorem comL_len (m : Nat) (l : List (Nat → Nat)) : (comL m l).length ≤ l.length * l.length + l.length := by
  have := comI_len m l l.length 0 (Nat.zero_le _)
  rwa [comI_end] at this
theorem waitL_len {m : Nat} {l K : List (Nat → Nat)} (hl : l.length ≤ 136) (hK : K.length ≤ 136) : (waitL m l K).length ≤ 37200 := by
  have h1 := comL_len m l
  have h2 : (K.flatMap (conL m l)).length ≤ K.length * l.length := by
    induction K with
    | nil => simp
    | cons a K ih =>
      rw [List.flatMap_cons, List.length_append, List.length_cons, Nat.succ_mul K.length]
      have := ih (by simp at hK; omega)
      have e : (conL m l a).length = l.length := by unfold conL; simp
      omega
  have h3 : l.length * l.length ≤ 136 * 136 := Nat.mul_le_mul hl hl
  have h4 : K.length * l.length ≤ 136 * 136 := Nat.mul_le_mul hK hl
  unfold waitL
  rw [List.length_append]
  omega
open Classical in
set_option maxRecDepth 100000 in
set_option maxHeartbeats 4000000 in
theorem derivedGroup_any (m : Nat) (h0 : 0 < m) (hm : m ≤ 16) (v : Value) (l : List (Nat → Nat)) (hl : ∀ p ∈ l, PermN p m) (hlen : l.length ≤ 136) (w : World) (hv : (pPl v l).ok w) :
    Calls Try.prog 83 #[v, .int .i64 m] w fun e w' => ∃ u t, e = .returned (.tuple #[u, .int .i64 (ordT m (Gen m (· ∈ KF m l t)) m)]) ∧ Holds w w' [pPl u (KF m l t)] ∧ (waitL m l (KF m l t)).length ≤ t := by
  obtain ⟨A, c, rfl⟩ := own_slice hv
  have HV := hide hv; clear hv
  have CE := hide fun w => emptySieve_any m hm w
  have CC := hide fun (w' : World) (h : (pPl (.slice A l.length c) l).ok w') => commutators_any m hm _ l hl (by omega) w' h
  have KP := hide (KF_perm (L := l) (comL_perm hl) (conL_perm hl))
  have KL := hide (fun t => waitL_len (m := m) hlen (KF_len hm hl t))
  have S0 := hide (SvI.start h0 hm)
  have HL := hide hl; clear hl
  go_enter Try.func83, Try.ntmps83
  go_wp2_with fail
  refine (CE.out _).mono ?_
  rintro e w1 ⟨g, vs0, rfl, hN⟩
  go_wp2_with fail
  refine (CC.out _ (plOk_below HV.out hN.low)).mono ?_
  rintro e w2 ⟨u, rfl, hC⟩
  have H0 : Holds w w2 (pPl (.slice none 0 0) (KF m l 0) :: pPl u (waitL m l (KF m l 0)) :: pBlk g (sv m vs0) 136 :: svRows vs0 (R0 m m)) := by
    have e : waitL m l (KF m l 0) = comL m l := by unfold waitL KF; simp
    rw [e]
    exact (hN.join hC).nilRow 27 16
  clear hN hC
  go_wp2
  go_loopw [7, 8, 9] (fun u7 u8 x wr => ∃ (t : Nat) (vs : Nat → Value) (R : Nat → List (Nat → Nat)), t ≤ (waitL m l (KF m l t)).length ∧ x = .int .i64 t ∧ SvI m (KF m l t) R ∧ Holds w wr (pPl u7 (KF m l t) :: pPl u8 (waitL m l (KF m l t)) :: pBlk g (sv m vs) 136 :: svRows vs R)) (fun _ _ x _ => 40000 - (intOf x).toNat)
  case atStart => exact ⟨0, vs0, R0 m m, Nat.zero_le _, rfl, S0.out, H0⟩
  case round =>
    clear H0
    obtain ⟨t, vs, R, ht, rfl, hI, hH⟩ := hrel
    have hwl := KL.out t
    by_cases htl : t < (waitL m l (KF m l t)).length
    · obtain ⟨A8, c8, e8⟩ := hH.plForm 1 rfl
      subst e8
      obtain ⟨q1, c1, e0, -, lk⟩ := hH.plAt 1 rfl htl
      cases e0
      have htl' : (t : Int) < (waitL m l (KF m l t)).length := by omega
      obtain ⟨p, hpe⟩ : ∃ p, p = (waitL m l (KF m l t))[t] := ⟨_, rfl⟩
      have hwt : (waitL m l (KF m l t))[t]? = some p := by rw [List.getElem?_eq_getElem htl, hpe]
      rw [← hpe] at lk
      clear hpe
      have hkf := KF_at hwt
      have hK := KP.out t
      have hp : PermN p m := by
        have hmem := List.mem_of_getElem? hwt
        unfold waitL at hmem
        rcases List.mem_append.1 hmem with c | c
        · exact comL_perm HL.out _ c
        · obtain ⟨s, hs, h2⟩ := List.mem_flatMap.1 c
          exact conL_perm HL.out s (KP.out t s hs) _ h2
      have hle := KL.out (t + 1)
      have H1 := hH.blk (av p) 27 wr.heap.size rfl
      have ch := hasK_any m hm g vs (KF m l t) R hK hI p hp w _ [_, _, _] (H1.perm (List.perm_append_comm (l₁ := [_, _, _])))
      by_cases hin : Gen m (· ∈ KF m l t) p
      · rw [dStep_yes hin] at hkf
        rw [decide_eq_true hin] at ch
        have CH := hide ch; clear ch hin hp hwt
        have HI := hide hI; clear hI
        go_wp2_with fail
        refine CH.out.mono ?_
        rintro e w5 ⟨rfl, hb⟩
        have H2 := (H1.call hb).tail
        clear hb H1 hH lk
        go_wp2
        go_roundw
        case rel => exact ⟨t + 1, vs, R, by rw [hkf]; omega, by go_num, by rw [hkf]; exact HI.out, by rw [hkf]; exact H2⟩
        case measure => simp [intOf]; omega
      · rw [dStep_no hin] at hkf
        rw [decide_eq_false hin] at ch
        have CH := hide ch; clear ch hwt
        have hKl := KF_len hm HL.out t
        go_wp2_with fail
        refine CH.out.mono ?_
        rintro e w5 ⟨rfl, hb⟩
        have H2 := H1.call hb
        clear hb H1 hH lk
        have d10 := H2.cells 0 rfl
        have ca := addK_any m hm g vs (KF m l t) R hK hI p hp w w5 [_, _, _] (H2.perm (List.perm_append_comm (l₁ := [_, _, _])))
        have CA := hide ca; clear ca
        generalize wr.heap.size = G10 at *
        go_wp2_with fail
        refine CA.out.mono ?_
        rintro e w6 ⟨⟨vv, rfl⟩, vs2, R2, hN, hI2⟩
        have H3 : Holds w w6 (pBlk G10 (av p) 27 :: pPl u7 (KF m l t) :: pPl (.slice (some ⟨q1, 0, none⟩) (waitL m l (KF m l t)).length c8) (waitL m l (KF m l t)) :: pBlk g (sv m vs2) 136 :: svRows vs2 R2) := hN.perm (List.perm_append_comm (l₁ := pBlk g (sv m vs2) 136 :: svRows vs2 R2) (l₂ := [_, _, _]))
        have H4 := H3.blk (av p) 27 w6.heap.size rfl
        have d11 := H3.cells 0 rfl
        clear hN H2 d10
        go_wp2_with (at_builtin; refine appPl H4 2 rfl w6.heap.size p 27 (H4.at 0 rfl) (by omega) rfl _ _ rfl rfl rfl ?_)
        intro v9 w7 H5
        have H6 : Holds w w7 (pBlk G10 (av p) 27 :: pPl v9 (KF m l t ++ [p]) :: pPl (.slice (some ⟨q1, 0, none⟩) (waitL m l (KF m l t)).length c8) (waitL m l (KF m l t) ++ (conL m l p).take 0) :: pBlk g (sv m vs2) 136 :: svRows vs2 R2) := by
          rw [List.take_zero, List.append_nil]; exact H5.tail
        clear H5 H4 H3 d11
        have HI2 := hide hI2; clear hI2 hI CA
        go_wp2
        go_loopw [8, 40] (fun u8 x wr => ∃ k : Nat, k ≤ l.length ∧ x = .int .i64 k ∧ Holds w wr (pBlk G10 (av p) 27 :: pPl v9 (KF m l t ++ [p]) :: pPl u8 (waitL m l (KF m l t) ++ (conL m l p).take k) :: pBlk g (sv m vs2) 136 :: svRows vs2 R2)) (fun _ x _ => l.length - (intOf x).toNat)
        case atStart => exact ⟨0, Nat.zero_le _, rfl, H6⟩
        case round =>
          clear H6
          obtain ⟨k, hk, rfl, hH⟩ := hrel
          by_cases hkl : k < l.length
          · obtain ⟨q2, c2, e0, -, lk⟩ := plOk_load (plOk_below HV.out hH.low) hkl
            cases e0
            have hkl' : (k : Int) < l.length := by omega
            have hs := HL.out _ (List.getElem_mem hkl)
            have hcl : (conL m l p).length = l.length := by unfold conL; simp
            have hnx : (conL m l p).take (k + 1) = (conL m l p).take k ++ [thenF (thenF (backF l[k] m) p m) l[k] m] := by
              rw [List.take_succ_eq_append_getElem (by omega)]
              congr 1
              unfold conL
              simp
            have hbd : (waitL m l (KF m l t) ++ (conL m l p).take k).length ≤ 100000 := by rw [List.length_append, List.length_take]; omega
            obtain ⟨s, hse⟩ : ∃ s, s = l[k]'hkl := ⟨_, rfl⟩
            rw [← hse] at lk hs hnx
            clear hse
            have C1 := hide fun w => undo_any s m hm (fun x hx => hs.lt x (by omega)) w
            have C2 := hide fun w => follow_any (backF s m) p m hm (fun x hx => (backF_perm hs).lt x (by omega)) w
            have C3 := hide fun w => follow_any (thenF (backF s m) p m) s m hm (fun x hx => (thenF_perm (backF_perm hs) hp).lt x (by omega)) w
            generalize thenF (thenF (backF s m) p m) s m = r at *
            generalize thenF (backF s m) p m = Y at *
            generalize backF s m = Z at *
            have hM : waitL m l (KF m l t) ++ (conL m l p).take (k + 1) = (waitL m l (KF m l t) ++ (conL m l p).take k) ++ [r] := by rw [hnx, List.append_assoc]
            have HM := hide hM; clear hM hnx hs hcl
            have HKF := hide hkf; clear hkf
            generalize hMe : waitL m l (KF m l t) ++ (conL m l p).take k = M at *
            generalize hKe : KF m l t = K at *
            obtain ⟨A', c', rfl⟩ := hH.plForm 2 rfl
            have H7 := hH.blk (av s) 27 wr.heap.size rfl
            clear hH
            go_wp2
            clear lk
            generalize wr.alloc (.cells (av s) 27) = wh at *
            generalize wr.heap.size = G12 at *
            refine Rd.region_P (w0 := w) [pBlk G12 (av s) 27, pBlk G10 (av p) 27] (pBlk G12 (av s) 27 :: pBlk G10 (av p) 27 :: pPl v9 (K ++ [p]) :: pPl (.slice A' M.length c') M :: pBlk g (sv m vs2) 136 :: svRows vs2 R2) [10, 11] (.q 0 <| .q 1 <| .q 2 <| .q 3 <| .q 4 <| .q 5 <| .q 6 <| .q 7 <| .q 8 <| .q 9 <| .s1 10 <| .s1 11 <| .q 12 .fin) H7 (.cons_cons _ (.cons_cons _ (List.nil_sublist _))) (by kernel_rfl) (by kernel_rfl) (by kernel_rfl) ?_
            iterate 3
              apply Rd.v_q
              · simp only [List.getElem?_toArray, List.getElem?_cons_zero, List.getElem?_cons_succ]; exact rfl
              · rfl
              · go_simp
              · intro wx hx
                have q0 := hx.cells 0 rfl
                have q1 := hx.cells 1 rfl
                unfold atG
                go_simp
                simp only [uponG]
                exact ⟨by trivial, rfl⟩
            iterate 1
              apply Rd.v_q
              · simp only [List.getElem?_toArray, List.getElem?_cons_zero, List.getElem?_cons_succ]; exact rfl
              · rfl
              · go_simp
              · intro wx hx
                have q0 := hx.cells 0 rfl
                have q1 := hx.cells 1 rfl
                unfold atG
                go_simp
                simp only [uponG]
                exact ⟨by trivial, C1.out wx⟩
            iterate 2
              apply Rd.v_q
              · simp only [List.getElem?_toArray, List.getElem?_cons_zero, List.getElem?_cons_succ]; exact rfl
              · rfl
              · go_simp
              · intro wx hx
                have q0 := hx.cells 0 rfl
                have q1 := hx.cells 1 rfl
                unfold atG
                go_simp
                simp only [uponG]
                exact ⟨by trivial, rfl⟩
            iterate 1
              apply Rd.v_q
              · simp only [List.getElem?_toArray, List.getElem?_cons_zero, List.getElem?_cons_succ]; exact rfl
              · rfl
              · go_simp
              · intro wx hx
                have q0 := hx.cells 0 rfl
                have q1 := hx.cells 1 rfl
                unfold atG
                go_simp
                simp only [uponG]
                exact ⟨by trivial, C2.out wx⟩
            iterate 2
              apply Rd.v_q
              · simp only [List.getElem?_toArray, List.getElem?_cons_zero, List.getElem?_cons_succ]; exact rfl
              · rfl
              · go_simp
              · intro wx hx
                have q0 := hx.cells 0 rfl
                have q1 := hx.cells 1 rfl
                unfold atG
                go_simp
                simp only [uponG]
                exact ⟨by trivial, rfl⟩
            iterate 1
              apply Rd.v_q
              · simp only [List.getElem?_toArray, List.getElem?_cons_zero, List.getElem?_cons_succ]; exact rfl
              · rfl
              · go_simp
              · intro wx hx
                have q0 := hx.cells 0 rfl
                have q1 := hx.cells 1 rfl
                unfold atG
                go_simp
                simp only [uponG]
                exact ⟨by trivial, C3.out wx⟩
            refine Rd.v_build (av r) 27 1 (by simp only [List.getElem?_toArray, List.getElem?_cons_zero, List.getElem?_cons_succ]; exact rfl) rfl (by go_simp) (fun wx hx hD => by go_simp) fun gq => ?_
            refine Rd.v_s (fun u wx => Holds w wx (pBlk G12 (av s) 27 :: pBlk G10 (av p) 27 :: pPl v9 (K ++ [p]) :: pPl u (M ++ [r]) :: pBlk g (sv m vs2) 136 :: svRows vs2 R2)) (fun u _ _ h hb => h.call hb) (by simp only [List.getElem?_toArray, List.getElem?_cons_zero, List.getElem?_cons_succ]; exact rfl) rfl (by go_simp) (fun wx hx hD => ?_) ?_
            · exact upon_appPl hD 4 rfl gq r 27 (hD.at 0 rfl) hbd (fun v' w' h2 => ⟨h2.sub (.cons _ (.cons_cons _ (.cons_cons _ (List.nil_sublist _)))), h2.sub (.cons _ (.refl _))⟩) _ _ rfl (by go_simp) (by go_simp)
            rintro v' -
            iterate 1
              apply Rd.v_q
              · simp only [List.getElem?_toArray, List.getElem?_cons_zero, List.getElem?_cons_succ]; exact rfl
              · rfl
              · go_simp
              · intro wx hx
                unfold atG
                go_simp
                simp only [uponG]
                exact ⟨by trivial, rfl⟩
            rintro w8 - H8
            have H9 := H8.tail
            rw [← HM.out] at H9
            clear H7
            go_simp
            go_wp2
            go_roundw
            case rel => exact ⟨k + 1, by omega, by go_num, H9⟩
            case measure => simp [intOf]; omega
          · obtain rfl : k = l.length := by omega
            have hcl : (conL m l p).take l.length = conL m l p := List.take_of_length_le (by unfold conL; simp)
            rw [hcl, ← waitL_snoc, ← hkf] at hH
            have hI3 := HI2.out
            rw [← hkf] at hI3
            have hlt : t + 1 ≤ (waitL m l (KF m l (t + 1))).length := by rw [hkf, waitL_snoc, List.length_append]; omega
            have H9 := hH.tail
            clear hcl hH
            have HI3 := hide hI3; clear hI3
            go_wp2
            go_roundw
            case rel => exact ⟨t + 1, vs2, R2, hlt, by go_num, HI3.out, H9⟩
            case measure => simp [intOf]; omega
    · have hte : (waitL m l (KF m l t)).length ≤ t := by omega
      obtain ⟨A8, c8, e8⟩ := hH.plForm 1 rfl
      subst e8
      have htl' : ¬ (t : Int) < (waitL m l (KF m l t)).length := by omega
      have co := orderK_any m hm g vs (KF m l t) R (KP.out t) hI w wr [_, _] (hH.perm (List.perm_append_comm (l₁ := [_, _])))
      have CO := hide co; clear co
      have HTE := hide hte; clear hte
      go_wp2_with fail
      refine CO.out.mono ?_
      rintro e w5 ⟨rfl, hb⟩
      have H2 := (hH.call hb).sub (.cons_cons _ (List.nil_sublist _))
      clear hb hH
      go_wp2
      go_ret2
      exact ⟨_, t, rfl, H2, HTE.out⟩
end Go.Proofs.Ytdoehnckolhloaa

namespace Go.Proofs.Ytdoehnckolhloaa
open Go.RowKit

/-- what is kept in the end -/
noncomputable def DF (m : Nat) (L : List (Nat → Nat)) : List (Nat → Nat) := KF m L 40000
noncomputable def XL (m : Nat) (f g : Nat → Nat) : Nat → List (Nat → Nat)
  | 0 => [f, g]
  | i + 1 => DF m (XL m f g i)
noncomputable def oX (m : Nat) (f g : Nat → Nat) (i : Nat) : Nat := ordT m (Gen m (· ∈ XL m f g i)) m
section
variable {m : Nat} {L : List (Nat → Nat)} {f g : Nat → Nat}
theorem DF_of {t : Nat} (hm : m ≤ 16) (hL : ∀ p ∈ L, PermN p m) (hlen : L.length ≤ 136) (h : (waitL m L (KF m L t)).length ≤ t) : KF m L t = DF m L :=
  KF_end h (Nat.le_trans (waitL_len hlen (KF_len hm hL _)) (by omega))
theorem XL_ok (hd : DesN f g m) : ∀ i, (∀ p ∈ XL m f g i, PermN p m) ∧ (XL m f g i).length ≤ 136
  | 0 => by
    refine ⟨fun p hp => ?_, by simp [XL]⟩
    rcases List.mem_cons.1 hp with rfl | hp
    · exact hd.black
    · rcases List.mem_cons.1 hp with rfl | hp
      · exact hd.white
      · cases hp
  | i + 1 => by
    obtain ⟨h1, h2⟩ := XL_ok hd i
    exact ⟨KF_perm (L := XL m f g i) (comL_perm h1) (conL_perm h1) 40000, KF_len hd.le h1 40000⟩
/-- all of it is made of the makers -/
theorem KF_in (hm : m ≤ 16) (hL : ∀ p ∈ L, PermN p m) (t : Nat) : ∀ p ∈ KF m L t, Gen m (· ∈ L) p := by
  have hS : ∀ s, s ∈ L → Bij s m := fun s hs => (hL s hs).2.2.1
  have inv : ∀ s, PermN s m → Gen m (· ∈ L) s → Gen m (· ∈ L) (backF s m) := fun s hs h => Gen.inv hm hS h fun x hx => backF_at hs.2.2.1 hx
  have two : ∀ p q, Gen m (· ∈ L) p → Gen m (· ∈ L) q → Gen m (· ∈ L) (thenF p q m) := fun p q hp hq => Gen.prod hS hp hq fun x hx => thenF_at hx
  have one : ∀ p, p ∈ L → Gen m (· ∈ L) p := fun p hp => .of hp
  induction t with
  | zero => intro p hp; cases hp
  | succ t ih =>
    intro p hp
    rw [KF] at hp
    split at hp
    · rename_i q hq
      rcases dStep_mem hp with c | rfl
      · exact ih p c
      · have hm2 := List.mem_of_getElem? hq
        unfold waitL at hm2
        rcases List.mem_append.1 hm2 with c | c
        · unfold comL at c
          obtain ⟨i, hi, h2⟩ := List.mem_flatMap.1 c
          obtain ⟨r, hr, rfl⟩ := List.mem_map.1 h2
          have hi' : i < L.length := by simpa using hi
          have hgi : L.getD i id ∈ L := by rw [List.getD_eq_getElem?_getD, List.getElem?_eq_getElem hi']; exact List.getElem_mem hi'
          have hr' : r ∈ L := List.mem_of_mem_take hr
          exact two _ _ (two _ _ (one _ hgi) (one _ hr')) (two _ _ (inv _ (hL _ hgi) (one _ hgi)) (inv _ (hL _ hr') (one _ hr')))
        · obtain ⟨s, hs, h2⟩ := List.mem_flatMap.1 c
          unfold conL at h2
          obtain ⟨r, hr, rfl⟩ := List.mem_map.1 h2
          exact two _ _ (two _ _ (inv _ (hL _ hr) (one _ hr)) (ih s hs)) (one _ hr)
    · exact ih p hp
theorem XL_sub (hd : DesN f g m) (i : Nat) {p : Nat → Nat} (hp : Gen m (· ∈ XL m f g (i + 1)) p) : Gen m (· ∈ XL m f g i) p :=
  hp.sub (fun s hs => ((XL_ok hd i).1 s hs).2.2.1) fun s hs => KF_in hd.le (XL_ok hd i).1 40000 s hs
/-- another order, less room -/
theorem XL_less (hd : DesN f g m) {i : Nat} (h : oX m f g (i + 1) ≠ oX m f g i) : orbS m (Gen m (· ∈ XL m f g (i + 1))) m < orbS m (Gen m (· ∈ XL m f g i)) m := by
  by_cases hall : ∀ p, Gen m (· ∈ XL m f g i) p → Gen m (· ∈ XL m f g (i + 1)) p
  · have e : Gen m (· ∈ XL m f g (i + 1)) = Gen m (· ∈ XL m f g i) := by
      funext p
      exact propext ⟨fun hp => XL_sub hd i hp, hall p⟩
    exact absurd (by unfold oX; rw [e]) h
  · rw [Classical.not_forall] at hall
    obtain ⟨p, hp⟩ := hall
    rw [Classical.not_imp] at hp
    exact orbS_lt hd.le (fun s hs => ((XL_ok hd (i + 1)).1 s hs).2.2.1) (fun s hs => ((XL_ok hd i).1 s hs).2.2.1) (fun q hq => XL_sub hd i hq) hp.1 hp.2
theorem XL_room (hd : DesN f g m) : ∀ i, (∀ k, k < i → oX m f g (k + 1) ≠ oX m f g k) → orbS m (Gen m (· ∈ XL m f g i)) m + i ≤ 136
  | 0, _ => by
    have := orbS_136 hd.le (S := (· ∈ XL m f g 0)) fun s hs => ((XL_ok hd 0).1 s hs).2.2.1
    omega
  | i + 1, h => by
    have h1 := XL_room hd i fun k hk => h k (by omega)
    have h2 := XL_less hd (h i (by omega))
    omega
/-- the series ends at i -/
def stopX (m : Nat) (f g : Nat → Nat) (i : Nat) : Prop := oX m f g (i + 1) = oX m f g i ∧ ∀ k, k < i → oX m f g (k + 1) ≠ oX m f g k
theorem stopX_le (hd : DesN f g m) {i : Nat} (h : stopX m f g i) : i ≤ 136 := by have := XL_room hd i h.2; omega
theorem stopX_one {i j : Nat} (h : stopX m f g i) (k : stopX m f g j) : i = j := by
  rcases Nat.lt_trichotomy i j with c | c | c
  · exact absurd h.1 (k.2 i c)
  · exact c
  · exact absurd k.1 (h.2 j c)
open Classical in
noncomputable def endX (m : Nat) (f g : Nat → Nat) : Nat := if h : ∃ i, stopX m f g i then Classical.choose h else 0
open Classical in
theorem endX_of {i : Nat} (h : stopX m f g i) : endX m f g = i := by
  unfold endX
  rw [dif_pos ⟨i, h⟩]
  exact stopX_one (Classical.choose_spec ⟨i, h⟩) h
open Classical in
theorem endX_le (hd : DesN f g m) : endX m f g ≤ 136 := by
  unfold endX
  split
  · rename_i h; exact stopX_le hd (Classical.choose_spec h)
  · omega
/-- the orders so far -/
noncomputable def serL (m : Nat) (f g : Nat → Nat) (i : Nat) : List Nat := (List.range i).map (oX m f g)
theorem serL_len (i : Nat) : (serL m f g i).length = i := by unfold serL; simp
theorem serL_succ (i : Nat) : serL m f g (i + 1) = serL m f g i ++ [oX m f g i] := by unfold serL; rw [List.range_succ, List.map_append]; rfl
theorem serL_at {i j : Nat} (h : j < i) : (serL m f g i)[j]? = some (oX m f g j) := by unfold serL; simp [h]
theorem serL_last (i : Nat) (h : i < (serL m f g (i + 1)).length) : (serL m f g (i + 1))[i] = oX m f g i := by
  have e := List.getElem?_eq_getElem h
  rw [serL_at (by omega)] at e
  exact (Option.some.inj e).symm
noncomputable def serX (m : Nat) (f g : Nat → Nat) : List Nat := serL m f g (endX m f g + 1)
theorem serX_of {i : Nat} (h : stopX m f g i) : serX m f g = serL m f g (i + 1) := by unfold serX; rw [endX_of h]
noncomputable def serR (n : Int) (f g : Nat → Nat) : List Nat := if desB n f g = true then serX n.toNat f g else []
noncomputable def serC (n : Int) (f g : Nat → Nat) : Int := if desB n f g = true then 0 else 1
theorem serR_bound (n : Int) (f g : Nat → Nat) : (serR n f g).length ≤ 137 := by
  unfold serR
  split
  · rename_i h
    obtain ⟨m, rfl, hd⟩ := desB_true h
    rw [Int.toNat_natCast]
    unfold serX
    rw [serL_len]
    have := endX_le hd
    omega
  · simp
end
end Go.Proofs.Ytdoehnckolhloaa

namespace Go.Proofs.Ytdoehnckolhloaa
open Go.RowKit

theorem comI_pre0 {m : Nat} {l : List (Nat → Nat)} : ∀ d i, i + d = l.length → comI m l i 0 <+: comL m l := by
  intro d
  induction d with
  | zero => intro i h; rw [show i = l.length by omega, comI_end]; exact List.prefix_refl _
  | succ d ih =>
    intro i h
    have h1 := ih (i + 1) (by omega)
    rw [← comI_full m l i (by omega)] at h1
    refine List.IsPrefix.trans ?_ h1
    unfold comI
    rw [List.take_zero, List.map_nil, List.append_nil]
    exact List.prefix_append _ _
theorem comI_pre {m : Nat} {l : List (Nat → Nat)} {i k : Nat} (hk : k ≤ i) (hi : i < l.length) : comI m l i k <+: comL m l := by
  have h1 := comI_pre0 (m := m) (l := l) (l.length - (i + 1)) (i + 1) (by omega)
  rw [← comI_full m l i (by omega)] at h1
  refine List.IsPrefix.trans ?_ h1
  unfold comI
  refine (List.prefix_append_right_inj _).2 ?_
  refine List.IsPrefix.map _ ?_
  have e : (l.take i).take k = ((l.take i).take i).take k := by rw [List.take_take (i := i) (j := i), Nat.min_self]
  rw [e]
  exact List.take_prefix _ _
/-- the first loops' place -/
theorem waitL_com {m : Nat} {l K : List (Nat → Nat)} {i k : Nat} (hk : k < i) (hi : i < l.length) : (waitL m l K)[(comI m l i k).length]? = some (mixF m l[i] (l[k]'(by omega))) := by
  have h := comI_pre (m := m) (show k + 1 ≤ i from hk) hi
  rw [comI_next m l hk hi] at h
  obtain ⟨r, hr⟩ := h
  unfold waitL
  rw [← hr]
  simp
theorem conL_len {m : Nat} {l : List (Nat → Nat)} (p : Nat → Nat) : (conL m l p).length = l.length := by unfold conL; simp
theorem flat_len {m : Nat} {l : List (Nat → Nat)} (K : List (Nat → Nat)) : (K.flatMap (conL m l)).length = K.length * l.length := by
  induction K with
  | nil => simp
  | cons a K ih => rw [List.flatMap_cons, List.length_append, List.length_cons, Nat.succ_mul K.length, ih, conL_len]; omega
/-- the second loops' place -/
theorem waitL_con {m : Nat} {l K : List (Nat → Nat)} {i k : Nat} (hi : i < K.length) (hk : k < l.length) : (waitL m l K)[(comL m l).length + (i * l.length + k)]? = some (thenF (thenF (backF l[k] m) K[i] m) l[k] m) := by
  unfold waitL
  rw [List.getElem?_append_right (by omega), Nat.add_sub_cancel_left]
  have e : K = K.take i ++ K[i] :: K.drop (i + 1) := by rw [List.getElem_cons_drop, List.take_append_drop]
  have h1 : ((K.take i).flatMap (conL m l)).length = i * l.length := by rw [flat_len, List.length_take, Nat.min_eq_left (by omega)]
  have h2 : K.flatMap (conL m l) = (K.take i).flatMap (conL m l) ++ (conL m l K[i] ++ (K.drop (i + 1)).flatMap (conL m l)) := by
    conv => lhs; rw [e]
    rw [List.flatMap_append, List.flatMap_cons]
  rw [h2, List.getElem?_append_right (by omega), h1, Nat.add_sub_cancel_left, List.getElem?_append_left (by rw [conL_len]; exact hk)]
  unfold conL
  simp [hk]
open Classical in
theorem insideM_any (m : Nat) (hm : m ≤ 16) (g : Nat) (G : Nat → Value) (K : List (Nat → Nat)) (H : Nat → Bool) (B : Nat → Nat) (M : Nat → List (Nat → Nat)) (hK : ∀ p ∈ K, PermN p m) (h : MadeI m K H B M) (p : Nat → Nat) (hp : PermN p m) (w0 w : World) (L : List Part) (hH : Holds w0 w (pBlk g (chv m G H B) 155 :: (gRows G M ++ L))) :
    Calls Try.prog 129 #[.pointer (some ⟨g, 0, none⟩), .int .i64 (0 : Nat), .agg (av p)] w fun e w' => e = .returned (.bool (decide (Gen m (· ∈ K) p))) ∧ Below w.heap.size w w' := by
  have ch := l03Inside_any m hm g G H B h.lv.byPerm 0 (Nat.zero_le _) p hp w (hH.at 0 rfl)
  have e : insideT H B m (m - 0) p = decide (Gen m (· ∈ K) p) := by
    have h2 := h.inside (fun s hs => (hK s hs).2.2.1) hm hp
    rw [Nat.sub_zero]
    rcases hb : insideT H B m m p with _ | _
    · rw [decide_eq_false]; intro hg; rw [h2.2 hg] at hb; cases hb
    · rw [decide_eq_true]; exact h2.1 hb
  rwa [e] at ch
theorem addM_any (m : Nat) (h0 : 0 < m) (hm : m ≤ 16) (g : Nat) (G : Nat → Value) (K : List (Nat → Nat)) (H : Nat → Bool) (B : Nat → Nat) (M : Nat → List (Nat → Nat)) (h : MadeI m K H B M) (p : Nat → Nat) (hp : PermN p m) (w0 w : World) (L : List Part) (hH : Holds w0 w (pBlk g (chv m G H B) 155 :: (gRows G M ++ L))) :
    Calls Try.prog 127 #[.pointer (some ⟨g, 0, none⟩), .int .i64 (0 : Nat), .agg (av p)] w fun e w' => (∃ v, e = .returned v) ∧ ∃ G' H' B' M', Holds w0 w' (pBlk g (chv m G' H' B') 155 :: (gRows G' M' ++ L)) ∧ MadeI m (K ++ [p]) H' B' M' := by
  refine (l03Add_any m hm 0 p G H B M g w0 w L h0 hp (fun z hz => absurd hz (Nat.not_lt_zero z)) (fun j e => absurd e (by omega)) h.lv h.pr h.bd hH).mono ?_
  rintro e w' ⟨hv, G', H', B', M', h2, ad⟩
  exact ⟨hv, G', H', B', M', h2, h.next hm ad⟩
end Go.Proofs.Ytdoehnckolhloaa

namespace Go.Proofs.Ytdoehnckolhloaa
open Go.RowKit

theorem KF_le {m : Nat} {l : List (Nat → Nat)} (t : Nat) : (KF m l t).length ≤ (KF m l (t + 1)).length := by
  rw [KF]
  split
  · unfold dStep
    split
    · exact Nat.le_refl _
    · rw [List.length_append]; omega
  · exact Nat.le_refl _
theorem KF_mono {m : Nat} {l : List (Nat → Nat)} (t : Nat) : ∀ k, (KF m l t).length ≤ (KF m l (t + k)).length
  | 0 => Nat.le_refl _
  | k + 1 => Nat.le_trans (KF_mono t k) (KF_le (t + k))
open Classical in
set_option maxRecDepth 100000 in
set_option maxHeartbeats 4000000 in
theorem l03Derived_any (m : Nat) (h0 : 0 < m) (hm : m ≤ 16) (v : Value) (l : List (Nat → Nat)) (hl : ∀ p ∈ l, PermN p m) (hlen : l.length ≤ 136) (w : World) (hv : (pPl v l).ok w) :
    Calls Try.prog 110 #[v, .int .i64 m] w fun e w' => ∃ u t, e = .returned u ∧ Holds w w' [pPl u (KF m l t)] ∧ (waitL m l (KF m l t)).length ≤ t := by
  obtain ⟨A, c, rfl⟩ := own_slice hv
  have HV := hide hv; clear hv
  have CS := hide fun w => l03Start_any m hm w
  have KP := hide (KF_perm (L := l) (comL_perm hl) (conL_perm hl))
  have KL := hide (KF_len hm hl)
  have HL := hide hl; clear hl
  go_enter Try.func110, Try.ntmps110
  go_wp2_with fail
  refine (CS.out _).mono ?_
  rintro e w1 ⟨g, rfl, hN⟩
  have H0 := hN.rowNew #[] 27 16 0 w1.heap.size rfl rfl (by unfold maxLen; omega)
  clear hN
  go_wp2
  go_loopw [6, 7] (fun u x wr => ∃ (i : Nat) (G : Nat → Value) (H : Nat → Bool) (B : Nat → Nat) (M : Nat → List (Nat → Nat)), i ≤ l.length ∧ x = .int .i64 i ∧ MadeI m (KF m l (comI m l i 0).length) H B M ∧ Holds w wr (pPl u (KF m l (comI m l i 0).length) :: pBlk g (chv m G H B) 155 :: gRows G M)) (fun _ x _ => l.length - (intOf x).toNat)
  case atStart => exact ⟨0, _, _, _, _, Nat.zero_le _, rfl, MadeI.start hm, H0⟩
  case round =>
    clear H0
    obtain ⟨i, G, H, B, M, hi, rfl, hM, hH⟩ := hrel
    by_cases hil : i < l.length
    · have hil' : (i : Int) < l.length := by omega
      go_wp2
      go_loopw [6, 8] (fun u x wr => ∃ (k : Nat) (G : Nat → Value) (H : Nat → Bool) (B : Nat → Nat) (M : Nat → List (Nat → Nat)), k ≤ i ∧ x = .int .i64 k ∧ MadeI m (KF m l (comI m l i k).length) H B M ∧ Holds w wr (pPl u (KF m l (comI m l i k).length) :: pBlk g (chv m G H B) 155 :: gRows G M)) (fun _ x _ => i - (intOf x).toNat)
      case atStart => exact ⟨0, G, H, B, M, Nat.zero_le _, rfl, hM, hH⟩
      case round =>
        clear hM hH
        obtain ⟨k, G, H, B, M, hk, rfl, hM, hH⟩ := hrel
        by_cases hki : k < i
        · have hki' : (k : Int) < i := by omega
          have hkl : k < l.length := by omega
          have hkl' : (k : Int) < l.length := by omega
          obtain ⟨q1, c1, e1, -, -⟩ := plOk_load HV.out hil
          cases e1
          have RI := hide (fun (wx : World) (hb : Below w.heap.size w wx) => show (loadT 27 (.pointer (some ⟨q1, i * 16, none⟩))).run Try.prog wx = .ok (.value (.agg (av l[i]))) wx by
            obtain ⟨_, _, e9, _, k9⟩ := plOk_load (plOk_below HV.out hb) hil
            injection e9 with e9
            injection e9 with e9
            injection e9 with e9
            rw [e9]
            exact k9)
          have RK := hide (fun (wx : World) (hb : Below w.heap.size w wx) => show (loadT 27 (.pointer (some ⟨q1, k * 16, none⟩))).run Try.prog wx = .ok (.value (.agg (av l[k]))) wx by
            obtain ⟨_, _, e9, _, k9⟩ := plOk_load (plOk_below HV.out hb) hkl
            injection e9 with e9
            injection e9 with e9
            injection e9 with e9
            rw [e9]
            exact k9)
          have hwt := waitL_com (m := m) (l := l) (K := KF m l (comI m l i k).length) hki hil
          have hpi := HL.out _ (List.getElem_mem hil)
          have hpk := HL.out _ (List.getElem_mem hkl)
          have hp := mixF_perm hpi hpk
          have hkf := KF_at hwt
          have hnl : (comI m l i (k + 1)).length = (comI m l i k).length + 1 := by rw [comI_next m l hki hil, List.length_append]; rfl
          rw [← hnl] at hkf
          have C1 := hide fun w => l03Mixed_any l[i] l[k] m hpi hpk w
          generalize mixF m l[i] l[k] = p at *
          clear hwt hpi hpk hnl
          have HM := hide hM; clear hM
          have HKF := hide hkf; clear hkf
          have HP := hide hp; clear hp
          go_wp2
          refine Rd.region_P (w0 := w) (pPl u6 (KF m l (comI m l i k).length) :: pBlk g (chv m G H B) 155 :: gRows G M) (pPl u6 (KF m l (comI m l i k).length) :: pBlk g (chv m G H B) 155 :: gRows G M) [10, 11] (.q 0 <| .q 1 <| .q 2 <| .q 3 <| .q 4 <| .q 5 <| .q 6 <| .q 7 <| .q 8 <| .q 9 <| .s1 10 <| .s1 11 .fin) hH (.refl _) (by kernel_rfl) (by kernel_rfl) (by kernel_rfl) ?_
          iterate 9
            apply Rd.v_q
            · simp only [List.getElem?_toArray, List.getElem?_cons_zero, List.getElem?_cons_succ]; exact rfl
            · rfl
            · go_simp
            · intro wx hx
              have lk1 := RI.out wx hx.low
              have lk2 := RK.out wx hx.low
              unfold atG
              go_simp
              simp only [uponG]
              exact ⟨by trivial, rfl⟩
          iterate 1
            apply Rd.v_q
            · simp only [List.getElem?_toArray, List.getElem?_cons_zero, List.getElem?_cons_succ]; exact rfl
            · rfl
            · go_simp
            · intro wx hx
              have lk1 := RI.out wx hx.low
              have lk2 := RK.out wx hx.low
              unfold atG
              go_simp
              simp only [uponG]
              exact ⟨by trivial, C1.out wx⟩
          refine Rd.v_box (av fun _ => 0) 27 (by simp only [List.getElem?_toArray, List.getElem?_cons_zero, List.getElem?_cons_succ]; exact rfl) rfl (by go_simp) (fun wx hx hD => by rw [av_zero]; go_simp) fun G9 => ?_
          refine Rd.v_put 0 G9 (av fun _ => 0) (av p) 27 rfl (.cons _ (.refl _)) (by simp only [List.getElem?_toArray, List.getElem?_cons_zero, List.getElem?_cons_succ]; exact rfl) rfl (by go_simp) (fun wx hx hD => ?_) ?_
          · have rr := hD.rowOk 0 rfl (av_size _)
            go_simp
          rintro w4 - H4
          have hM := HM.out
          have hkf := HKF.out
          have hp := HP.out
          clear HM HKF HP
          have H5 : Holds w w4 (pBlk G9 (av p) 27 :: pPl u6 (KF m l ((comI m l i k).length)) :: pBlk g (chv m G H B) 155 :: gRows G M) := H4
          clear H4 hH
          have d9 := H5.cells 0 rfl
          have ch := insideM_any m hm g G (KF m l ((comI m l i k).length)) H B M (KP.out _) hM p hp w w4 [_, _] (H5.perm (List.perm_append_comm (l₁ := [_, _])))
          have hKl := KL.out ((comI m l i k).length)
          by_cases hin : Gen m (· ∈ KF m l ((comI m l i k).length)) p
          · rw [dStep_yes hin] at hkf
            rw [decide_eq_true hin] at ch
            have CH := hide ch; clear ch
            have hM2 := hM
            rw [← hkf] at hM2
            have HM2 := hide hM2; clear hM2 hM hin hp
            have HKF := hide hkf; clear hkf
            go_simp
            go_wp2_with fail
            refine CH.out.mono ?_
            rintro e w5 ⟨rfl, hb⟩
            have H6 := (H5.call hb).tail
            rw [← HKF.out] at H6
            clear hb H5 d9
            go_wp2
            go_roundw
            case rel => exact ⟨k + 1, G, H, B, M, by omega, by go_num, HM2.out, H6⟩
            case measure => simp [intOf]; omega
          · rw [dStep_no hin] at hkf
            rw [decide_eq_false hin] at ch
            have CH := hide ch; clear ch
            have HM0 := hide hM; clear hM hin
            have HP := hide hp; clear hp
            have HKF := hide hkf; clear hkf
            go_simp
            go_wp2_with fail
            refine CH.out.mono ?_
            rintro e w5 ⟨rfl, hb⟩
            have H6 := H5.call hb
            clear hb H5 d9
            have d9 := H6.cells 0 rfl
            have ca := addM_any m h0 hm g G (KF m l ((comI m l i k).length)) H B M HM0.out p HP.out w w5 [_, _] (H6.perm (List.perm_append_comm (l₁ := [_, _])))
            have CA := hide ca; clear ca
            go_wp2_with fail
            refine CA.out.mono ?_
            rintro e w6 ⟨⟨vv, rfl⟩, G2, H2, B2, M2, hN, hM2⟩
            have H7 : Holds w w6 (pBlk G9 (av p) 27 :: pPl u6 (KF m l ((comI m l i k).length)) :: pBlk g (chv m G2 H2 B2) 155 :: gRows G2 M2) := hN.perm (List.perm_append_comm (l₁ := pBlk g (chv m G2 H2 B2) 155 :: gRows G2 M2) (l₂ := [_, _]))
            have H8 := H7.blk (av p) 27 w6.heap.size rfl
            clear hN H6 d9
            have d9 := H7.cells 0 rfl
            rw [← HKF.out] at hM2
            have HM2 := hide hM2; clear hM2
            go_wp2_with (at_builtin; refine appPl H8 2 rfl w6.heap.size p 27 (H8.at 0 rfl) (by omega) rfl _ _ rfl rfl rfl ?_)
            intro v9 w7 H9
            have H10 : Holds w w7 (pPl v9 (KF m l ((comI m l i k).length) ++ [p]) :: pBlk g (chv m G2 H2 B2) 155 :: gRows G2 M2) := H9.tail.tail
            rw [← HKF.out] at H10
            clear H9 H8 H7 d9
            go_wp2
            go_roundw
            case rel => exact ⟨k + 1, G2, H2, B2, M2, by omega, by go_num, HM2.out, H10⟩
            case measure => simp [intOf]; omega
        · obtain rfl : k = i := by omega
          rw [comI_full m l k hi] at hM hH
          have HM := hide hM; clear hM
          go_wp2
          go_roundw
          case rel => exact ⟨k + 1, G, H, B, M, by omega, by go_num, HM.out, hH⟩
          case measure => simp [intOf]; omega
    · obtain rfl : i = l.length := by omega
      rw [comI_end] at hM hH
      have hz : (comL m l).length = (comL m l).length + 0 * l.length := by omega
      rw [hz] at hM hH
      clear hz
      have HM := hide hM; clear hM
      go_wp2
      go_loopw [6, 10] (fun u x wr => ∃ (i : Nat) (G : Nat → Value) (H : Nat → Bool) (B : Nat → Nat) (M : Nat → List (Nat → Nat)), i ≤ (KF m l ((comL m l).length + i * l.length)).length ∧ x = .int .i64 i ∧ MadeI m (KF m l ((comL m l).length + i * l.length)) H B M ∧ Holds w wr (pPl u (KF m l ((comL m l).length + i * l.length)) :: pBlk g (chv m G H B) 155 :: gRows G M)) (fun _ x _ => 137 - (intOf x).toNat)
      case atStart => exact ⟨0, G, H, B, M, Nat.zero_le _, rfl, HM.out, hH⟩
      case round =>
        clear hH HM hil hi
        obtain ⟨i, G, H, B, M, hi, rfl, hM, hH⟩ := hrel
        have hi137 := KL.out ((comL m l).length + i * l.length)
        have HM := hide hM; clear hM
        obtain ⟨A6, c6, e6⟩ := hH.plForm 0 rfl
        subst e6
        by_cases hiK : i < (KF m l ((comL m l).length + i * l.length)).length
        · have hiK' : (i : Int) < (KF m l ((comL m l).length + i * l.length)).length := by omega
          go_wp2
          clear hiK'
          go_loopw [6, 11] (fun u x wr => ∃ (k : Nat) (G : Nat → Value) (H : Nat → Bool) (B : Nat → Nat) (M : Nat → List (Nat → Nat)), k ≤ l.length ∧ x = .int .i64 k ∧ MadeI m (KF m l ((comL m l).length + i * l.length + k)) H B M ∧ Holds w wr (pPl u (KF m l ((comL m l).length + i * l.length + k)) :: pBlk g (chv m G H B) 155 :: gRows G M)) (fun _ x _ => l.length - (intOf x).toNat)
          case atStart => exact ⟨0, G, H, B, M, Nat.zero_le _, rfl, HM.out, hH⟩
          case round =>
            clear HM hH
            obtain ⟨k, G, H, B, M, hk, rfl, hM, hH⟩ := hrel
            by_cases hkl : k < l.length
            · have hkl' : (k : Int) < l.length := by omega
              obtain ⟨q1, c1, e1, -, -⟩ := plOk_load HV.out hkl
              cases e1
              have RK := hide (fun (wx : World) (hb : Below w.heap.size w wx) => show (loadT 27 (.pointer (some ⟨q1, k * 16, none⟩))).run Try.prog wx = .ok (.value (.agg (av l[k]))) wx by
                obtain ⟨_, _, e9, _, k9⟩ := plOk_load (plOk_below HV.out hb) hkl
                injection e9 with e9
                injection e9 with e9
                injection e9 with e9
                rw [e9]
                exact k9)
              have hio : i < (KF m l ((comL m l).length + i * l.length + k)).length := Nat.lt_of_lt_of_le hiK (KF_mono _ k)
              have hi136 := KL.out ((comL m l).length + i * l.length + k)
              obtain ⟨n6, hn6⟩ : ∃ n, n = (KF m l ((comL m l).length + i * l.length + k)).length := ⟨_, rfl⟩
              obtain ⟨q6, c6, e6, -, -⟩ := hH.plAt 0 rfl hio
              rw [← hn6] at e6
              subst e6
              have hwt := waitL_con (m := m) (l := l) (K := KF m l ((comL m l).length + i * l.length + k)) hio hkl
              rw [← Nat.add_assoc] at hwt
              have hpi := KP.out _ _ (List.getElem_mem hio)
              have hpk := HL.out _ (List.getElem_mem hkl)
              have hb := backF_perm hpk
              have ht := thenF_perm hb hpi
              have hp := thenF_perm ht hpk
              have hkf := KF_at hwt
              have C1 := hide fun w => sBack_any l[k] m hm (fun j hj => hpk.lt j (by omega)) w
              have C2 := hide fun w => sThen_any (backF l[k] m) (KF m l ((comL m l).length + i * l.length + k))[i] m hm (fun j hj => hb.lt j (by omega)) w
              have C3 := hide fun w => sThen_any (thenF (backF l[k] m) (KF m l ((comL m l).length + i * l.length + k))[i] m) l[k] m hm (fun j hj => ht.lt j (by omega)) w
              have RO := hide (fun (wx : World) (hx : Holds w wx (pPl (.slice (some ⟨q6, 0, none⟩) n6 c6) (KF m l ((comL m l).length + i * l.length + k)) :: pBlk g (chv m G H B) 155 :: gRows G M)) => show (loadT 27 (.pointer (some ⟨q6, i * 16, none⟩))).run Try.prog wx = .ok (.value (.agg (av (KF m l ((comL m l).length + i * l.length + k))[i]))) wx by
                obtain ⟨_, _, e9, _, k9⟩ := hx.plAt 0 rfl hio
                injection e9 with e9
                injection e9 with e9
                injection e9 with e9
                rw [e9]
                exact k9)
              generalize thenF (thenF (backF l[k] m) (KF m l ((comL m l).length + i * l.length + k))[i] m) l[k] m = p at *
              generalize thenF (backF l[k] m) (KF m l ((comL m l).length + i * l.length + k))[i] m = pt at *
              generalize backF l[k] m = pb at *
              generalize (KF m l ((comL m l).length + i * l.length + k))[i] = po at *
              have hi6 : (i : Int) < n6 := by omega
              have HN6 := hide (And.intro hn6 hio)
              clear hwt hpi hpk hb ht hn6 hio
              have HM := hide hM; clear hM
              have HKF := hide hkf; clear hkf
              have HP := hide hp; clear hp
              go_wp2
              refine Rd.region_P (w0 := w) (pPl (.slice (some ⟨q6, 0, none⟩) n6 c6) (KF m l ((comL m l).length + i * l.length + k)) :: pBlk g (chv m G H B) 155 :: gRows G M) (pPl (.slice (some ⟨q6, 0, none⟩) n6 c6) (KF m l ((comL m l).length + i * l.length + k)) :: pBlk g (chv m G H B) 155 :: gRows G M) [18, 19] (.q 0 <| .q 1 <| .q 2 <| .q 3 <| .q 4 <| .q 5 <| .q 6 <| .q 7 <| .q 8 <| .q 9 <| .q 10 <| .q 11 <| .q 12 <| .q 13 <| .q 14 <| .q 15 <| .q 16 <| .q 17 <| .s1 18 <| .s1 19 .fin) hH (.refl _) (by kernel_rfl) (by kernel_rfl) (by kernel_rfl) ?_
              iterate 5
                apply Rd.v_q
                · simp only [List.getElem?_toArray, List.getElem?_cons_zero, List.getElem?_cons_succ]; exact rfl
                · rfl
                · go_simp
                · intro wx hx
                  have lk1 := RK.out wx hx.low
                  have lk2 := RO.out wx hx
                  unfold atG
                  go_simp
                  simp only [uponG]
                  exact ⟨by trivial, rfl⟩
              iterate 1
                apply Rd.v_q
                · simp only [List.getElem?_toArray, List.getElem?_cons_zero, List.getElem?_cons_succ]; exact rfl
                · rfl
                · go_simp
                · intro wx hx
                  have lk1 := RK.out wx hx.low
                  have lk2 := RO.out wx hx
                  unfold atG
                  go_simp
                  simp only [uponG]
                  exact ⟨by trivial, C1.out wx⟩
              iterate 5
                apply Rd.v_q
                · simp only [List.getElem?_toArray, List.getElem?_cons_zero, List.getElem?_cons_succ]; exact rfl
                · rfl
                · go_simp
                · intro wx hx
                  have lk1 := RK.out wx hx.low
                  have lk2 := RO.out wx hx
                  unfold atG
                  go_simp
                  simp only [uponG]
                  exact ⟨by trivial, rfl⟩
              iterate 1
                apply Rd.v_q
                · simp only [List.getElem?_toArray, List.getElem?_cons_zero, List.getElem?_cons_succ]; exact rfl
                · rfl
                · go_simp
                · intro wx hx
                  have lk1 := RK.out wx hx.low
                  have lk2 := RO.out wx hx
                  unfold atG
                  go_simp
                  simp only [uponG]
                  exact ⟨by trivial, C2.out wx⟩
              iterate 5
                apply Rd.v_q
                · simp only [List.getElem?_toArray, List.getElem?_cons_zero, List.getElem?_cons_succ]; exact rfl
                · rfl
                · go_simp
                · intro wx hx
                  have lk1 := RK.out wx hx.low
                  have lk2 := RO.out wx hx
                  unfold atG
                  go_simp
                  simp only [uponG]
                  exact ⟨by trivial, rfl⟩
              iterate 1
                apply Rd.v_q
                · simp only [List.getElem?_toArray, List.getElem?_cons_zero, List.getElem?_cons_succ]; exact rfl
                · rfl
                · go_simp
                · intro wx hx
                  have lk1 := RK.out wx hx.low
                  have lk2 := RO.out wx hx
                  unfold atG
                  go_simp
                  simp only [uponG]
                  exact ⟨by trivial, C3.out wx⟩
              refine Rd.v_box (av fun _ => 0) 27 (by simp only [List.getElem?_toArray, List.getElem?_cons_zero, List.getElem?_cons_succ]; exact rfl) rfl (by go_simp) (fun wx hx hD => by rw [av_zero]; go_simp) fun G9 => ?_
              refine Rd.v_put 0 G9 (av fun _ => 0) (av p) 27 rfl (.cons _ (.refl _)) (by simp only [List.getElem?_toArray, List.getElem?_cons_zero, List.getElem?_cons_succ]; exact rfl) rfl (by go_simp) (fun wx hx hD => ?_) ?_
              · have rr := hD.rowOk 0 rfl (av_size _)
                go_simp
              rintro w4 - H4
              have hM := HM.out
              have hkf := HKF.out
              have hp := HP.out
              clear HM HKF HP
              have H5 : Holds w w4 (pBlk G9 (av p) 27 :: pPl (.slice (some ⟨q6, 0, none⟩) n6 c6) (KF m l ((comL m l).length + i * l.length + k)) :: pBlk g (chv m G H B) 155 :: gRows G M) := H4
              clear H4 hH
              have d9 := H5.cells 0 rfl
              have ch := insideM_any m hm g G (KF m l ((comL m l).length + i * l.length + k)) H B M (KP.out _) hM p hp w w4 [_, _] (H5.perm (List.perm_append_comm (l₁ := [_, _])))
              have hKl := KL.out ((comL m l).length + i * l.length + k)
              by_cases hin : Gen m (· ∈ KF m l ((comL m l).length + i * l.length + k)) p
              · rw [dStep_yes hin] at hkf
                rw [decide_eq_true hin] at ch
                have CH := hide ch; clear ch
                have hM2 := hM
                rw [← hkf] at hM2
                have HM2 := hide hM2; clear hM2 hM hin hp
                have HKF := hide hkf; clear hkf
                go_simp
                go_wp2_with fail
                refine CH.out.mono ?_
                rintro e w5 ⟨rfl, hb⟩
                have H6 := (H5.call hb).tail
                rw [← HKF.out] at H6
                clear hb H5 d9
                go_wp2
                go_roundw
                case rel => exact ⟨k + 1, G, H, B, M, by omega, by go_num, HM2.out, H6⟩
                case measure => simp [intOf]; omega
              · rw [dStep_no hin] at hkf
                rw [decide_eq_false hin] at ch
                have CH := hide ch; clear ch
                have HM0 := hide hM; clear hM hin
                have HP := hide hp; clear hp
                have HKF := hide hkf; clear hkf
                go_simp
                go_wp2_with fail
                refine CH.out.mono ?_
                rintro e w5 ⟨rfl, hb⟩
                have H6 := H5.call hb
                clear hb H5 d9
                have d9 := H6.cells 0 rfl
                have ca := addM_any m h0 hm g G (KF m l ((comL m l).length + i * l.length + k)) H B M HM0.out p HP.out w w5 [_, _] (H6.perm (List.perm_append_comm (l₁ := [_, _])))
                have CA := hide ca; clear ca
                go_wp2_with fail
                refine CA.out.mono ?_
                rintro e w6 ⟨⟨vv, rfl⟩, G2, H2, B2, M2, hN, hM2⟩
                have H7 : Holds w w6 (pBlk G9 (av p) 27 :: pPl (.slice (some ⟨q6, 0, none⟩) n6 c6) (KF m l ((comL m l).length + i * l.length + k)) :: pBlk g (chv m G2 H2 B2) 155 :: gRows G2 M2) := hN.perm (List.perm_append_comm (l₁ := pBlk g (chv m G2 H2 B2) 155 :: gRows G2 M2) (l₂ := [_, _]))
                have H8 := H7.blk (av p) 27 w6.heap.size rfl
                clear hN H6 d9
                have d9 := H7.cells 0 rfl
                rw [← HKF.out] at hM2
                have HM2 := hide hM2; clear hM2
                go_wp2_with (at_builtin; refine appPl H8 2 rfl w6.heap.size p 27 (H8.at 0 rfl) (by omega) rfl _ _ rfl rfl rfl ?_)
                intro v9 w7 H9
                have H10 : Holds w w7 (pPl v9 (KF m l ((comL m l).length + i * l.length + k) ++ [p]) :: pBlk g (chv m G2 H2 B2) 155 :: gRows G2 M2) := H9.tail.tail
                rw [← HKF.out] at H10
                clear H9 H8 H7 d9
                go_wp2
                go_roundw
                case rel => exact ⟨k + 1, G2, H2, B2, M2, by omega, by go_num, HM2.out, H10⟩
                case measure => simp [intOf]; omega
            · obtain rfl : k = l.length := by omega
              have hz : (comL m l).length + i * l.length + l.length = (comL m l).length + (i + 1) * l.length := by rw [Nat.succ_mul, Nat.add_assoc]
              have hio : i < (KF m l ((comL m l).length + i * l.length + l.length)).length := Nat.lt_of_lt_of_le hiK (KF_mono _ l.length)
              rw [hz] at hM hH hio
              have HZ := hide (And.intro hz hio); clear hz
              have HM := hide hM; clear hM
              go_wp2
              go_roundw
              case rel => exact ⟨i + 1, G, H, B, M, hio, by go_num, HM.out, hH⟩
              case measure => simp [intOf]; omega
        · have hie : i = (KF m l ((comL m l).length + i * l.length)).length := by omega
          have hend : (waitL m l (KF m l ((comL m l).length + i * l.length))).length ≤ (comL m l).length + i * l.length := by
            unfold waitL
            rw [List.length_append, flat_len, ← hie]
            exact Nat.le_refl _
          have HE := hide hend; clear hend
          have hie' : ¬ (i : Int) < (KF m l ((comL m l).length + i * l.length)).length := by omega
          have HIE := hide hie; clear hie hiK
          go_wp2
          go_ret
          exact ⟨_, rfl, _, hH.sub (.cons_cons _ (List.nil_sublist _)), HE.out⟩
end Go.Proofs.Ytdoehnckolhloaa

namespace Go.Proofs.Ytdoehnckolhloaa
open Go.RowKit

/-- whether a dessin is regular -/
noncomputable def regB (n : Int) (f g : Nat → Nat) : Bool := desB n f g && decide (((ordN n f g : Nat) : Int) = n)

-- left out here: loop.example/g01200/impl.IsRegular
open Classical in
/-- whether a permutation belongs to the group -/
noncomputable def inB (n : Int) (f g p : Nat → Nat) : Bool := desB n f g && (permB p n && decide (Gen n.toNat (Two f g) p))
noncomputable def inC (n : Int) (f g p : Nat → Nat) : Int := if desB n f g then (if permB p n then 0 else 2) else 1

-- left out here: loop.example/g01200/impl.InGroup
end Go.Proofs.Ytdoehnckolhloaa

namespace Go.Proofs.Ytdoehnckolhloaa
open Go.RowKit

@[irreducible] def av2 (p q : Nat → Nat) : Array Value := (plB [p, q]).toArray
theorem av2_list (p q : Nat → Nat) : (av2 p q).toList = plB [p, q] := by unfold av2; rfl
theorem av2_size (p q : Nat → Nat) : (av2 p q).size = 32 := by rw [← Array.length_toList, av2_list, plB_length]; rfl
theorem fillP2 (p q : Nat → Nat) (cs : Array Value) (hcs : cs.size = 32) : Instr.fill (fun i => some (i * 16, 16)) cs [(0, .agg (av p)), (1, .agg (av q))] = some (av2 p q) := by
  simp only [Instr.fill, Value.cells, av_size, hcs, splice_eq, splice_size]
  rw [if_neg (by simp), if_neg (by simp)]
  congr 1
  apply Array.ext_getElem?
  intro i
  rw [foldset, splice_size, hcs, av_len]
  have hg : (av2 p q)[i]? = (plB [p, q])[i]? := by rw [← av2_list, Array.getElem?_toList]
  rw [hg, plB_cons]
  by_cases c : i < 16
  · rw [if_neg (by omega), foldset, hcs, av_len, if_pos (by omega), List.getElem?_append_left (by rw [av_len]; exact c)]
    congr 1
  · rw [List.getElem?_append_right (by rw [av_len]; omega), av_len]
    have e : plB [q] = (av q).toList := by unfold plB; simp
    rw [e]
    by_cases d : i < 32
    · rw [if_pos (by omega)]
    · rw [if_neg (by omega), foldset, hcs, av_len, if_neg (by omega), Array.getElem?_eq_none (by rw [hcs]; omega), List.getElem?_eq_none (by rw [av_len]; omega)]
@[go_sem] theorem run_bslP2 (p q : Nat → Nat) (w : World) : (buildSlP 2 #[(0, .agg (av p)), (1, .agg (av q))]).run Try.prog w = .ok (.value (.slice (some ⟨w.heap.size, 0, none⟩) 2 2)) (w.alloc (.cells (av2 p q) 27)) := by
  obtain ⟨i0, hi, hz0, hz1, _⟩ := info_parts infoPlc
  have hsz : ¬ (2 * i0.size > 2 ^ 24) := by rw [hz1]; decide
  have hnz : ¬ (2 * i0.size = 0) := by rw [hz1]; decide
  have hff : ∀ cs : Array Value, cs.size = 32 → Instr.fill (fun i => some (i * i0.size, i0.size)) cs [(0, .agg (av p)), (1, .agg (av q))] = some (av2 p q) := fun cs h => by rw [hz1]; exact fillP2 p q cs h
  simp only [buildSlP, Instr.buildSlice, run_underlying Try.underlying79, sizeOf, typeInfo, hi, zeroValue, hz0, Sem.run_bind, Sem.run_pure, Result.andThen_ok, run_program, hsz, hnz, if_false]
  rw [hff _ (by simp [hz1])]
  rfl
theorem two_row {w : World} {g : Nat} {p q : Nat → Nat} (h : (pBlk g (av2 p q) 27).ok w) : (pPl (.slice (some ⟨g, 0, none⟩) 2 2) [p, q]).ok w := by
  refine ⟨by rw [plB_length], .inr ⟨g, 2, av2 p q, rfl, Nat.zero_le _, h, Nat.le_refl _, by unfold maxLen; omega, av2_size p q, ?_⟩⟩
  rw [av2_list, show [p, q].length * 16 = (plB [p, q]).length by rw [plB_length], List.take_length]
theorem two_mem (f g : Nat → Nat) : (· ∈ [f, g]) = Two f g := by funext s; unfold Two; simp

-- left out here: loop.example/g01200/spec.l03Of
-- left out here: loop.example/g01200/spec.GroupOrder
-- left out here: loop.example/g01200/spec.IsRegular
-- left out here: loop.example/g01200/spec.InGroup
end Go.Proofs.Ytdoehnckolhloaa

namespace Go.Proofs.Ytdoehnckolhloaa
open Go.RowKit

theorem own1_form {B : Nat} {w : World} {v : Value} {l : List Nat} (h : Own1 B w v l) : ∃ A c, v = .slice A l.length c ∧ Own1 B w (.slice A l.length c) l := by
  obtain ⟨A, c, rfl⟩ := own_slice h
  exact ⟨A, c, rfl, h⟩
theorem Own1.below {B C : Nat} {w w' : World} {v : Value} {l : List Nat} (h : Own1 B w v l) (hb : Below C w w') (hC : w.heap.size ≤ C) : Own1 B w' v l := h.kept (grown_of_below (hb.mono hC) none) (Classical.em _)
theorem Own1.lower {B C : Nat} {w w' : World} {v : Value} {l : List Nat} (h : Own1 B w v l) (hb : Below C w w') (hC : ∀ k, v.ownBlock = some k → k < C) : Own1 B w' v l := by
  refine ⟨h.1, ?_⟩
  rcases h.2 with c | ⟨g, cap, cur, rfl, h1, h2, h3⟩
  · exact .inl c
  · exact .inr ⟨g, cap, cur, rfl, h1, by rw [hb.block g (hC g rfl)]; exact h2, h3⟩
theorem Own1.low {B : Nat} {w : World} {v : Value} {l : List Nat} (h : Own1 B w v l) : ∀ k, v.ownBlock = some k → k < w.heap.size := fun k hk => (World.ownsRow.lt h k hk).2
theorem mk1 (l : List Nat) (A : Option Addr) (c B : Nat) (hl : l.length ≤ 1000000) (w : World) (hBw : B ≤ w.heap.size) (h : Own1 B w (.slice A l.length c) l) :
    Calls Try.prog 24 #[.slice A l.length c, .int .i64 1] w fun e w' => e = .returned (.int .i64 (1 + l.length : Nat)) ∧ Below B w w' ∧ w.heap.size ≤ w'.heap.size ∧ Own1 B w' (.slice A l.length c) (marks 1 l.length) :=
  (markInt64S_any l A c B 1 (by omega) (by omega) w h).mono fun e w' ⟨h1, h2, h3⟩ => ⟨h1, (Below.refl B w).grown h2 hBw (fun g hg => (World.ownsRow.lt h g hg).1), h2.size, h3⟩
theorem hd1 (l : List Nat) (A : Option Addr) (c B : Nat) (hl : l.length ≤ 1000000) (w : World) (h : Own1 B w (.slice A l.length c) (marks 1 l.length)) :
    Calls Try.prog 25 #[.slice A l.length c, .int .i64 1] w fun e w' => e = .returned (.int .i64 (1 + l.length : Nat)) ∧ Below w.heap.size w w' :=
  heldInt64S_any l.length A c B 1 (by omega) (by omega) w h
end Go.Proofs.Ytdoehnckolhloaa

namespace Go.Proofs.Ytdoehnckolhloaa
open Go.RowKit

theorem Holds.joinL {w0 w w' : World} {L A : List Part} (h : Holds w0 w L) (k : Holds w w' A) : Holds w0 w' (L ++ A) := by
  have h' := h.call k.low
  refine ⟨h'.1, fun b hb => ?_, List.pairwise_append.2 ⟨h'.2.2, k.2.2, fun a ha b hb g hg hg' => ?_⟩⟩
  · rcases List.mem_append.1 hb with hb | hb
    · exact h'.2.1 b hb
    · exact ⟨(k.2.1 b hb).1, fun g hg => Nat.le_trans h.size ((k.2.1 b hb).2 g hg)⟩
  · have h1 := a.lt _ _ (h.2.1 a ha).1 hg
    have h2 := (k.2.1 b hb).2 g hg'
    omega
theorem rowsP_length {vs : List Value} {ls : List (List Nat)} (hl : vs.length = ls.length) : (rowsP vs ls).length = ls.length := by
  induction vs generalizing ls with
  | nil => cases ls with
    | nil => rfl
    | cons => simp at hl
  | cons v vs ih => cases ls with
    | nil => simp at hl
    | cons m ls => simp only [rowsP, List.length_cons]; rw [ih (by simpa using hl)]
theorem Holds.ofOwn2 {w w' : World} {v : Value} {vs : List Value} {ls : List (List Nat)} (hb : Below w.heap.size w w') (ho : Own2v w.heap.size w' v vs ls) : Holds w w' (pVals v vs :: rowsP vs ls) := by
  have rl := rowsP_length ho.len
  have each : ∀ (i : Nat) (h : i < (rowsP vs ls).length), ∃ u l, vs[i]? = some u ∧ ls[i]? = some l ∧ (rowsP vs ls)[i] = pInts u l := fun i h => by
    have h1 : i < ls.length := by omega
    have h2 : i < vs.length := by rw [ho.len]; exact h1
    have := rowsP_at (List.getElem?_eq_getElem h2) (List.getElem?_eq_getElem h1)
    rw [List.getElem?_eq_getElem h] at this
    exact ⟨_, _, List.getElem?_eq_getElem h2, List.getElem?_eq_getElem h1, Option.some.inj this⟩
  refine ⟨hb, fun a ha => ?_, List.pairwise_cons.2 ⟨fun a ha g hg hg' => ?_, List.pairwise_iff_getElem.2 fun i j hi hj hij g hg hg' => ?_⟩⟩
  · rcases List.mem_cons.1 ha with rfl | ha
    · exact ⟨row_low ho.row (Nat.zero_le _), fun g hg => (ho.row.lt g hg).1⟩
    · obtain ⟨i, hi, rfl⟩ := List.getElem_of_mem ha
      obtain ⟨u, l, h1, h2, h3⟩ := each i hi
      rw [h3]
      have h4 := ho.each i u l h1 h2
      exact ⟨row_low h4 (Nat.zero_le _), fun g hg => (World.ownsRow.lt h4 g hg).1⟩
  · obtain ⟨i, hi, rfl⟩ := List.getElem_of_mem ha
    obtain ⟨u, l, h1, h2, h3⟩ := each i hi
    rw [h3] at hg'
    have h4 := ho.each i u l h1 h2
    change v.ownBlock = some g at hg
    change u.ownBlock = some g at hg'
    rcases own_ne ho.row h4 (by decide) with c | c
    · rw [c] at hg; cases hg
    · exact c (by rw [hg]; exact hg'.symm)
  · obtain ⟨u, l, h1, h2, h3⟩ := each i hi
    obtain ⟨u', l', h1', h2', h3'⟩ := each j hj
    rw [h3] at hg
    rw [h3'] at hg'
    change u.ownBlock = some g at hg
    change u'.ownBlock = some g at hg'
    rcases ho.dist i j u u' hij h1 h1' with c | c
    · rw [c] at hg; cases hg
    · exact c (by rw [hg]; exact hg'.symm)
/-- the i-th list, and the cell that holds its slice -/
theorem Holds.rowAt {w0 w : World} {L : List Part} {v : Value} {vs : List Value} {ls : List (List Nat)} (h : Holds w0 w L) (hl : vs.length = ls.length) (a : Nat) (ha : L[a]? = some (pVals v vs)) (hr : ∀ i, L[i + (a + 1)]? = (rowsP vs ls)[i]?) {i : Nat} (hi : i < ls.length) :
    ∃ g c A' c', v = .slice (some ⟨g, 0, none⟩) vs.length c ∧ vs[i]? = some (.slice A' ls[i].length c') ∧ w.cell? ⟨g, i, none⟩ = some (.slice A' ls[i].length c') ∧ L[i + (a + 1)]? = some (pInts (.slice A' ls[i].length c') ls[i]) := by
  have hv : i < vs.length := by omega
  have hpart : L[i + (a + 1)]? = some (pInts vs[i] ls[i]) := by rw [hr]; exact rowsP_at (List.getElem?_eq_getElem hv) (List.getElem?_eq_getElem hi)
  obtain ⟨A', c', e⟩ := h.intsForm _ hpart
  obtain ⟨g, c, h1, _, _, _, _, h6, _⟩ := row_at (h.row a ha) (by omega)
  have h7 := h6 i _ (List.getElem?_eq_getElem hv)
  rw [e] at h7 hpart
  exact ⟨g, c, A', c', h1, by rw [List.getElem?_eq_getElem hv, e], h7, hpart⟩
end Go.Proofs.Ytdoehnckolhloaa
