/- Texts put together: Bfs, Con, IsPerm, SPerm, IsDes, RegD, Pfr -/
import Derived.Test.YtjhpkibeddnbfaaQbLawProductSizes
import Derived.Test.YtjhpkibeddnbfaaChecked
import Derived.WalkKit
import Derived.WalkSpells
import Derived.WalkLawsBesides
import Derived.Deep.LoopGhost
import Derived.Deep.OwnRows
import Derived.Laws.Rows
import Derived.Laws.Tables
import Derived.Laws.CopyOwn
import Derived.ProofKit
import Derived.OpenShut
import Derived.ShutString
import Derived.ChangeOld
import Derived.Below
import Derived.Laws.OwnMore
import Derived.Maps.Keyed
import Derived.DeepKeys4
import Derived.Maps.Own
import Derived.Laws.CopyRow
import Derived.Deep.MidRow
import Derived.Deep.Quiet
import Derived.Deep.QuietTactic
import Derived.BigQuiet
import Derived.StillTail
import Derived.Carry
import Derived.RegionTactic
import Derived.ChangeKeysEq
import Derived.StillTailTactics
import Derived.Deep.RegionWith
import Derived.Deep.RegionHeld3
namespace Go.Proofs.Ytjhpkibeddnbfaa
open Go.RowKit

/-- bytes as cells; a list of bytes in a row of its own -/
def bytesL (l : List Nat) : List Value := l.map fun (x : Nat) => Value.int .u8 (x : Int)
def OwnB (B : Nat) (w : World) (v : Value) (l : List Nat) : Prop := w.ownsRow B 5 1 v l.length (bytesL l)
theorem infoU8 : (Try.prog.info? 5).map (fun i => (i.zero, i.size, i.bytes)) = some (some (.int .u8 0), 1, 1) := by kernel_rfl
theorem plainU8 : Try.prog.plainKey 5 = true := by kernel_rfl
/-- an element of an array of bytes that is a value -/
theorem run_index8 {T : TypeId} {n : Nat} (hT : Try.prog.underlying T = some (.array n 5)) {cs : Array Value} {j v : Nat} (hj : j < n) (h : cs[j]? = some (.int .u8 v)) (w : World) :
    (Instr.index T (.agg cs) (.int .i64 j)).run Try.prog w = .ok (.int .u8 v) w := by
  obtain ⟨i0, hi, hz0, hz1, hz2⟩ := info_parts infoU8
  simp [Instr.index, run_underlying hT, asIntOf, hj, go_sem, sizeOf, typeInfo, hi, hz1, h]
theorem OwnB.at {B : Nat} {w : World} {v : Value} {l : List Nat} (h : OwnB B w v l) {k : Nat} (hk : k < l.length) :
    ∃ g c, v = .slice (some ⟨g, 0, none⟩) l.length c ∧ B ≤ g ∧ g < w.heap.size ∧ l.length ≤ c ∧ c ≤ maxLen ∧ w.cell? ⟨g, k, none⟩ = some (.int .u8 (l[k] : Nat)) := by
  rcases h.2 with ⟨_, e⟩ | ⟨g, cap, cur, rfl, hB, hh, h1, h2, h3, h4⟩
  · omega
  · refine ⟨g, cap, rfl, hB, ?_, h1, h2, ?_⟩
    · rcases Nat.lt_or_ge g w.heap.size with c | c
      · exact c
      · rw [Array.getElem?_eq_none c] at hh; cases hh
    · rw [cell_of_cells, cellsOf_heap hh]
      have := congrArg (·[k]?) h4
      simp only [Nat.mul_one, List.getElem?_take_of_lt hk, Array.getElem?_toList] at this
      rw [this]
      unfold bytesL
      rw [List.getElem?_map, List.getElem?_eq_getElem hk]; rfl
theorem ownB_form {B : Nat} {w : World} {v : Value} {l : List Nat} (h : OwnB B w v l) : ∃ A c, v = .slice A l.length c := own_slice h

/-- the search, j of the two steps from X -/
def bst (f g : Nat → Nat) (S : List Nat × (Nat → Bool)) (X : Nat) : Nat → List Nat × (Nat → Bool)
  | 0 => S
  | 1 => badd S (f X)
  | _ + 2 => badd (badd S (f X)) (g X)
def stepY (f g : Nat → Nat) (X j : Nat) : Nat := if j = 0 then f X else g X
theorem bst_step (f g : Nat → Nat) (S : List Nat × (Nat → Bool)) (X : Nat) {j : Nat} (hj : j < 2) : bst f g S X (j + 1) = badd (bst f g S X j) (stepY f g X j) := by
  rcases j with _ | _ | j
  · rfl
  · rfl
  · omega
theorem stepY_lt {f g : Nat → Nat} {X m : Nat} (hf : f X < m) (hg : g X < m) (j : Nat) : stepY f g X j < m := by unfold stepY; split <;> assumption
theorem bst_inv {f g : Nat → Nat} {S : List Nat × (Nat → Bool)} {X m : Nat} (hS : BInv m S) (hf : f X < m) (hg : g X < m) (j : Nat) : BInv m (bst f g S X j) := by
  rcases j with _ | _ | j
  · exact hS
  · exact hS.add hf
  · exact (hS.add hf).add hg
theorem bfs_start (f g : Nat → Nat) (x : Nat) : bfs f g x 0 = ([x], mset (fun _ => false) x) := by rw [bfs]; rfl
theorem bfs_next {f g : Nat → Nat} {x k : Nat} (hk : k < (bfs f g x k).1.length) : bfs f g x (k + 1) = bst f g (bfs f g x k) (bfs f g x k).1[k] 2 := by
  rw [bfs, List.getElem?_eq_getElem hk]; rfl
theorem bst_pre (f g : Nat → Nat) (S : List Nat × (Nat → Bool)) (X j : Nat) : S.1 <+: (bst f g S X j).1 := by
  rcases j with _ | _ | j
  · exact List.prefix_refl _
  · exact badd_le _ _
  · exact (badd_le _ _).trans (badd_le _ _)
theorem badd_old {S : List Nat × (Nat → Bool)} {y : Nat} (h : S.2 y = true) : badd S y = S := by unfold badd; rw [if_pos h]
theorem badd_new {S : List Nat × (Nat → Bool)} {y : Nat} (h : S.2 y = false) : badd S y = (S.1 ++ [y], mset S.2 y) := by unfold badd; rw [if_neg (by simp [h])]; rfl

set_option maxRecDepth 100000 in
set_option maxHeartbeats 1000000 in
theorem dartsFrom_any (f g : Nat → Nat) (m : Nat) (hm : m ≤ 16) (hf : ∀ i, i < m → f i < m) (hg : ∀ i, i < m → g i < m) (x : Nat) (hx : x < m) (n : Int) (w : World) :
    Calls Try.prog 110 #[.agg (dv n f g), .int .u8 x] w fun e w' => ∃ v, e = .returned v ∧ Below w.heap.size w w' ∧ OwnB w.heap.size w' v (bfs f g x 16).1 := by
  have HI := hide fun k => bfs_inv hf hg hx k
  have HF := hide hf; clear hf
  have HG := hide hg; clear hg
  obtain ⟨i0, hi, hz0, hz1, hz2⟩ := info_parts infoU8
  have I0 := hide (And.intro hi (And.intro hz0 (And.intro hz1 hz2))); clear hi hz0 hz1 hz2
  have hx16 : x < 16 := by omega
  have h0 := bv_set (fun _ => false) x
  rw [bv_false] at h0
  go_enter Try.func110, Try.ntmps110
  go_wp2
  go_loopw [5, 7] (fun out i wr => ∃ k : Nat, k ≤ 16 ∧ i = .int .i64 k ∧ Below w.heap.size w wr ∧ cellsOf wr w.heap.size = dv n f g ∧ wr.heap[w.heap.size + 1 + 1]? = some (.cells (bv (bfs f g x k).2) 79 (0, 0)) ∧ OwnB (w.heap.size + 1) wr out (bfs f g x k).1)
    (fun _ i _ => 16 - (intOf i).toNat)
  case atStart => exact ⟨0, by omega, rfl, below3 _ _ _ _, cellsOf_heap (heap2 rfl), by rw [bfs_start]; exact heap_at _ _ _ (by simp), by rw [bfs_start]; exact ⟨by simp [bytesL], .inr ⟨w.heap.size + 1, 1, #[.int .u8 x], rfl, Nat.le_refl _, heap1 (by simp), Nat.le_refl _, by unfold maxLen; omega, by simp, by simp [bytesL]⟩⟩⟩
  case round =>
    obtain ⟨k, hk, rfl, hb, hcd, hhm, hown⟩ := hrel
    have hI := HI.out k
    have hl16 : (bfs f g x k).1.length ≤ 16 := by have := hI.length_le; omega
    by_cases hlt : k < (bfs f g x k).1.length
    · have hnext := bfs_next hlt
      have hX := hI.lt _ (List.getElem_mem hlt)
      obtain ⟨g0, c, rfl, hB0, hg0, hc1, hc2, hcell⟩ := hown.at hlt
      have hsz := hb.size
      have hk16 : k < 16 := by omega
      generalize hS : bfs f g x k = S at *
      generalize S.1[k] = X at *
      have HS := hide hS; clear hS
      have HN := hide hnext; clear hnext
      have hX16 : X < 16 := by omega
      have hfX := HF.out X hX
      have hgX := HG.out X hX
      have cb : wr.cell? ⟨w.heap.size, 1 + X, none⟩ = some (.int .u8 (f X)) := by rw [cell_of_cells, hcd, dv_b _ _ _ hX16]
      have cw : wr.cell? ⟨w.heap.size, 17 + X, none⟩ = some (.int .u8 (g X)) := by rw [cell_of_cells, hcd, dv_w _ _ _ hX16]
      have HCD := hide hcd; clear hcd
      have HM := hide hhm; clear hhm
      have HO := hide hown; clear hown
      have HIV := hide hI; clear hI
      go_wp2
      go_quiet (fail)
      go_wp2
      have hbz : Below w.heap.size w (wr.drewN nq) := ⟨hb.os, hb.tape, hb.output, hb.size, hb.block⟩
      have hcz : cellsOf (wr.drewN nq) w.heap.size = dv n f g := HCD.out
      have hmz : (wr.drewN nq).heap[w.heap.size + 1 + 1]? = some (.cells (bv S.2) 79 (0, 0)) := HM.out
      have hoz : OwnB (w.heap.size + 1) (wr.drewN nq) (.slice (some ⟨g0, 0, none⟩) S.1.length c) S.1 := HO.out
      clear hcell cb cw HCD HM HO hb hg0 hc1 hc2 hlt hsz
      generalize wr.drewN nq = wz at *
      clear wr
      go_loopw [5, 35] (fun out j wr => ∃ jj : Nat, jj ≤ 2 ∧ j = .int .i64 jj ∧ Below w.heap.size w wr ∧ cellsOf wr w.heap.size = dv n f g ∧ wr.heap[w.heap.size + 1 + 1]? = some (.cells (bv (bst f g S X jj).2) 79 (0, 0)) ∧ OwnB (w.heap.size + 1) wr out (bst f g S X jj).1)
        (fun _ j _ => 2 - (intOf j).toNat)
      case atStart => exact ⟨0, by omega, rfl, hbz, hcz, hmz, hoz⟩
      case round =>
        obtain ⟨j, hj, rfl, hb, hcd, hhm, hown⟩ := hrel
        clear hbz hcz hmz hoz
        have hsz := hb.size
        by_cases hj2 : j < 2
        · have hst := bst_step f g S X hj2
          have hYl := stepY_lt hfX hgX j
          have hidx : (#[Value.int .u8 (f X), Value.int .u8 (g X)] : Array Value)[j]? = some (.int .u8 (stepY f g X j)) := by
            rcases j with _ | _ | j
            · rfl
            · rfl
            · omega
          have hrun := run_index8 Try.underlying76 hj2 hidx
          have hIT := bst_inv HIV.out hfX hgX j
          generalize bst f g S X j = T at *
          generalize stepY f g X j = Y at *
          have hTl : T.1.length ≤ 16 := by have := hIT.length_le; omega
          have hY16 : Y < 16 := by omega
          have hlw : w.heap.size + 1 + 1 < wr.heap.size := by
            rcases Nat.lt_or_ge (w.heap.size + 1 + 1) wr.heap.size with e | e
            · exact e
            · rw [Array.getElem?_eq_none e] at hhm; cases hhm
          have hcm : cellsOf wr (w.heap.size + 1 + 1) = bv T.2 := cellsOf_heap hhm
          have HCD := hide hcd; clear hcd
          rcases hTY : T.2 Y with _ | _
          · have c0 : wr.cell? ⟨w.heap.size + 1 + 1, Y, none⟩ = some (.bool false) := by rw [cell_of_cells, hcm, bv_get _ hY16, hTY]
            have f0 : wr.frozen? ⟨w.heap.size + 1 + 1, Y, none⟩ = false := by simp [World.frozen?, hhm]
            have hS : World.grownBy wr (wr.setCell ⟨w.heap.size + 1 + 1, Y, none⟩ (.bool true)) (some (w.heap.size + 1 + 1)) := grown_setCell (grown_refl _ _)
            have hownA : (wr.setCell ⟨w.heap.size + 1 + 1, Y, none⟩ (.bool true)).ownsRow (w.heap.size + 1) 5 1 u5 T.1.length (bytesL T.1) := World.ownsRow.kept hown hS (own_ne_blk hown hhm (by decide))
            have hnb := own_ne_blk hown hhm (by decide)
            have hhs : (wr.setCell ⟨w.heap.size + 1 + 1, Y, none⟩ (.bool true)).heap[w.heap.size + 1 + 1]? = some (.cells (bv (mset T.2 Y)) 79 (0, 0)) := by rw [heap_setCell_same _ _ _ _ _ _ hhm, bv_set]
            have hbs : Below w.heap.size w (wr.setCell ⟨w.heap.size + 1 + 1, Y, none⟩ (.bool true)) := hb.grown hS hsz (fun g hg => by simp at hg; omega)
            have HH := hide hhm; clear hhm hcm
            have HS2 := hide hhs; clear hhs
            have HNB := hide hnb; clear hnb
            have HST := hide hst; clear hst
            have HTY := hide hTY; clear hTY
            have HBS := hide hbs; clear hbs
            have HOA := hide hownA; clear hownA
            go_wp2_with (at_builtin; refine wpList_append_own _ rfl _ _ 113 rfl (w.heap.size + 1) 5 i0 (.int .u8 0) 1 1 Try.underlying113 I0.out.1 I0.out.2.1 I0.out.2.2.1 I0.out.2.2.2 rfl (by decide) _ _ _ rfl (HOA.out.alloc _) ⟨wr.heap.size, 0, none⟩ 1 1 [.int .u8 Y] rfl rfl ?c1 ?c2 ?c3 ?c4 ?c5 ?_)
            case c1 => exact one_new _ _ _ _ (by simp)
            case c2 => intro u hu; simp at hu; subst hu; rfl
            case c3 => unfold maxLen; omega
            case c4 => omega
            case c5 => simp; omega
            intro v' w1 hown' hg' _
            have hrow : ∀ g, u5.ownBlock = some g → w.heap.size + 1 ≤ g := fun g hg => (HOA.out.lt g hg).1
            have hslt : w.heap.size + 1 + 1 < ((wr.setCell ⟨w.heap.size + 1 + 1, Y, none⟩ (.bool true)).alloc (.cells #[.int .u8 Y] 5)).heap.size := by simp; omega
            have hpc : cellsOf w1 w.heap.size = dv n f g := by
              rw [grown_cells hg' (by simp; omega) (fun e => by have := hrow _ e.symm; omega), cellsOf_past (by simp; omega), cellsOf_setCell_ne (by omega)]; exact HCD.out
            have hmc : w1.heap[w.heap.size + 1 + 1]? = some (.cells (bv (mset T.2 Y)) 79 (0, 0)) := by
              rw [hg'.block _ hslt (fun e => by rcases HNB.out with c | c; rw [c] at e; cases e; exact c e.symm), heap_past _ _ _ (by simp; omega)]; exact HS2.out
            have hbw : Below w.heap.size w w1 := (HBS.out.alloc (by simp; omega) _).grown hg' (by simp; omega) (fun g hg => by have := hrow g hg; omega)
            have hO : OwnB (w.heap.size + 1) w1 v' (badd T Y).1 := by
              rw [badd_new HTY.out]
              unfold OwnB bytesL at *
              simpa using hown'
            have H1 := hide hpc; clear hpc
            have H2 := hide hmc; clear hmc
            have H3 := hide hO; clear hO
            clear hown' hg' hrow c0 f0 hS HS2 HBS HOA HH HNB hslt hown
            go_wp2
            go_roundw
            case rel => exact ⟨j + 1, by omega, by go_num, hbw, H1.out, by rw [HST.out, badd_new HTY.out]; exact H2.out, by rw [HST.out]; exact H3.out⟩
            case measure => simp [intOf]; omega
          · have c0 : wr.cell? ⟨w.heap.size + 1 + 1, Y, none⟩ = some (.bool true) := by rw [cell_of_cells, hcm, bv_get _ hY16, hTY]
            have HH := hide hhm; clear hhm hcm
            have HST := hide hst; clear hst
            have HTY := hide hTY; clear hTY
            have HO := hide hown; clear hown
            go_wp2
            go_roundw
            case rel => exact ⟨j + 1, by omega, by go_num, hb, HCD.out, by rw [HST.out, badd_old HTY.out]; exact HH.out, by rw [HST.out, badd_old HTY.out]; exact HO.out⟩
            case measure => simp [intOf]; omega
        · obtain rfl : j = 2 := by omega
          have HH := hide hhm; clear hhm
          have HO := hide hown; clear hown
          have HCD := hide hcd; clear hcd
          go_wp2
          go_roundw
          case rel => exact ⟨k + 1, by omega, by go_num, hb, HCD.out, by rw [HN.out]; exact HH.out, by rw [HN.out]; exact HO.out⟩
          case measure => simp [intOf]; omega
    · obtain ⟨A, c, rfl⟩ := ownB_form hown
      have hst := bfs_stop (p := f) (q := g) (z := x) (i := k) (by omega) (j := 16) hk
      clear hhm hcd hI
      have HST := hide hst; clear hst
      have HO := hide hown; clear hown
      generalize bfs f g x k = S at *
      go_wp2
      go_ret
      exact ⟨_, rfl, hb, by rw [HST.out]; exact ⟨HO.out.1, HO.out.2.imp id (fun ⟨g, cap, cur, h1, h2, h3⟩ => ⟨g, cap, cur, h1, by omega, h3⟩)⟩⟩
end Go.Proofs.Ytjhpkibeddnbfaa

namespace Go.Proofs.Ytjhpkibeddnbfaa
open Go.RowKit

open Classical in
noncomputable def connB (f g : Nat → Nat) (m : Nat) : Bool := decide (conn f g m)
theorem connB_int (f g : Nat → Nat) (m : Nat) : ((((bfs f g 0 16).1.length : Nat) : Int) == (m : Int)) = connB f g m := by
  unfold connB conn
  generalize (bfs f g 0 16).1.length = a
  by_cases h : a = m
  · subst h; simp
  · have : ¬ (a : Int) = (m : Int) := by omega
    rw [beq_eq_false_iff_ne.2 this]; simp [h]

set_option maxRecDepth 100000 in
set_option maxHeartbeats 1000000 in
theorem isConn_any (f g : Nat → Nat) (m : Nat) (h0 : 0 < m) (hm : m ≤ 16) (hf : ∀ i, i < m → f i < m) (hg : ∀ i, i < m → g i < m) (w : World) :
    Calls Try.prog 84 #[.agg (dv m f g)] w fun e w' => e = .returned (.bool (connB f g m)) ∧ Below w.heap.size w w' := by
  have C : ∀ w1 : World, (cellsOf w1 w.heap.size = dv m f g ∧ w1.cell? ⟨w.heap.size, 0, none⟩ = some (.int .i64 m) ∧ w.heap.size < w1.heap.size ∧ Below w.heap.size w w1) →
      Calls Try.prog 110 #[.agg (dv m f g), .int .u8 0] w1 fun e w' => ∃ A c, e = .returned (.slice A (bfs f g 0 16).1.length c) ∧
        (cellsOf w' w.heap.size = dv m f g ∧ w'.cell? ⟨w.heap.size, 0, none⟩ = some (.int .i64 m) ∧ w.heap.size < w'.heap.size ∧ Below w.heap.size w w') := fun w1 ⟨h1, h2, h3, h4⟩ => by
    have := dartsFrom_any f g m hm hf hg 0 h0 m w1
    rw [show ((0 : Nat) : Int) = 0 from rfl] at this
    refine Calls.mono this ?_
    rintro e w' ⟨v, rfl, hb, ho⟩
    obtain ⟨A, c, rfl⟩ := ownB_form ho
    exact ⟨A, c, rfl, (below_cells hb h3).trans h1, (hb.cell (p := ⟨w.heap.size, 0, none⟩) h3).trans h2, Nat.lt_of_lt_of_le h3 hb.size, h4.trans (hb.mono (Nat.le_of_lt h3))⟩
  have C := hide C
  have hl := (bfs_inv hf hg h0 16).length_le
  have hb := connB_int f g m
  generalize bfs f g 0 16 = S at *
  generalize connB f g m = B at *
  clear hf hg
  have hn : cellsOf (w.alloc (.cells (dv m f g) 30)) w.heap.size = dv m f g := cellsOf_at rfl
  have hn2 : (w.alloc (.cells (dv m f g) 30)).cell? ⟨w.heap.size, 0, none⟩ = some (.int .i64 m) := by rw [cell_of_cells, hn]; exact dv_n m f g
  have hb1 := below1 w (.cells (dv m f g) 30)
  go_enter Try.func84, Try.ntmps84
  go_wp2
  go_region_held3 (fun w' => cellsOf w' w.heap.size = dv m f g ∧ w'.cell? ⟨w.heap.size, 0, none⟩ = some (.int .i64 m) ∧ w.heap.size < w'.heap.size ∧ Below w.heap.size w w') (first | assumption | exact ⟨hn, hn2, by simp, hb1.drew⟩) (first | (go_at_call 110; refine Calls.mono (C.out _ (by assumption)) ?_; rintro e w1 ⟨A, c, rfl, hS1⟩))
  all_goals go_wp2
  all_goals go_ret
  all_goals exact ⟨rfl, hS1.2.2.2⟩

set_option maxRecDepth 100000 in
set_option maxHeartbeats 1000000 in
theorem sConn_any (f g : Nat → Nat) (m : Nat) (h0 : 0 < m) (hm : m ≤ 16) (hf : ∀ i, i < m → f i < m) (hg : ∀ i, i < m → g i < m) (w : World) :
    Calls Try.prog 91 #[.int .i64 m, .agg (av f), .agg (av g)] w fun e w' => e = .returned (.bool (connB f g m)) ∧ Below w.heap.size w w' := by
  obtain ⟨F, FI, F0, FN, FS, FB⟩ : ∃ F : Nat → List Nat × (Nat → Bool), Hid (∀ k, BInv m (F k)) ∧ Hid (F 0 = ([0], mset (fun _ => false) 0)) ∧ Hid (∀ k (hk : k < (F k).1.length), F (k + 1) = bst f g (F k) ((F k).1[k]) 2) ∧
      Hid (∀ k, k ≤ 16 → (F k).1.length ≤ k → F 16 = F k) ∧ Hid ((((F 16).1.length : Nat) == (m : Int)) = connB f g m) :=
    ⟨bfs f g 0, hide fun k => bfs_inv hf hg h0 k, hide (bfs_start f g 0), hide fun k hk => bfs_next hk, hide fun k h1 h2 => bfs_stop h2 h1, hide (connB_int f g m)⟩
  have HF := hide hf; clear hf
  have HG := hide hg; clear hg
  generalize connB f g m = B at *
  obtain ⟨i0, hi, hz0, hz1, hz2⟩ := info_parts infoU8
  have I0 := hide (And.intro hi (And.intro hz0 (And.intro hz1 hz2))); clear hi hz0 hz1 hz2
  have h00 := bv_set (fun _ => false) 0
  rw [bv_false] at h00
  go_enter Try.func91, Try.ntmps91
  go_wp2
  have hlit : bv (mset (fun _ => false) 0) = #[.bool true, .bool false, .bool false, .bool false, .bool false, .bool false, .bool false, .bool false, .bool false, .bool false, .bool false, .bool false, .bool false, .bool false, .bool false, .bool false] := by unfold bv row; rfl
  go_loopw [8, 9] (fun out i wr => ∃ k : Nat, k ≤ 16 ∧ i = .int .i64 k ∧ Below w.heap.size w wr ∧ cellsOf wr w.heap.size = av f ∧ cellsOf wr (w.heap.size + 1) = av g ∧ wr.heap[w.heap.size + 1 + 1 + 1]? = some (.cells (bv (F k).2) 79 (0, 0)) ∧ OwnB (w.heap.size + 2) wr out (F k).1)
    (fun _ i _ => 16 - (intOf i).toNat)
  case atStart => exact ⟨0, by omega, rfl, below4 _ _ _ _ _, cellsOf_heap (heap3 rfl), cellsOf_heap (heap2 (by simp)), by rw [F0.out]; show _ = some (Obj.cells (bv (mset (fun _ => false) 0)) _ _); rw [hlit]; exact heap_at _ _ _ (by simp), by rw [F0.out]; exact ⟨by simp [bytesL], .inr ⟨w.heap.size + 1 + 1, 1, #[.int .u8 0], rfl, Nat.le_refl _, heap1 (by simp), Nat.le_refl _, by unfold maxLen; omega, by simp, by simp [bytesL]⟩⟩⟩
  case round =>
    clear hlit h00
    obtain ⟨k, hk, rfl, hb, hcf, hcg, hhm, hown⟩ := hrel
    have hI := FI.out k
    have hl16 : (F k).1.length ≤ 16 := by have := hI.length_le; omega
    by_cases hlt : k < (F k).1.length
    · have hnext := FN.out k hlt
      have hX := hI.lt _ (List.getElem_mem hlt)
      obtain ⟨g0, c, rfl, hB0, hg0, hc1, hc2, hcell⟩ := hown.at hlt
      have hsz := hb.size
      have hk16 : k < 16 := by omega
      generalize hS : F k = S at *
      generalize S.1[k] = X at *
      have HS := hide hS; clear hS
      have HN := hide hnext; clear hnext
      have hX16 : X < 16 := by omega
      have hfX := HF.out X hX
      have hgX := HG.out X hX
      have cb : wr.cell? ⟨w.heap.size, X, none⟩ = some (.int .u8 (f X)) := by rw [cell_of_cells, hcf, av_get _ hX16]
      have cw : wr.cell? ⟨w.heap.size + 1, X, none⟩ = some (.int .u8 (g X)) := by rw [cell_of_cells, hcg, av_get _ hX16]
      have HCF := hide hcf; clear hcf
      have HCG := hide hcg; clear hcg
      have HM := hide hhm; clear hhm
      have HO := hide hown; clear hown
      have HIV := hide hI; clear hI
      have hlw : w.heap.size + 1 + 1 + 1 < wr.heap.size := by
        rcases Nat.lt_or_ge (w.heap.size + 1 + 1 + 1) wr.heap.size with e | e
        · exact e
        · have := HM.out; rw [Array.getElem?_eq_none e] at this; cases this
      go_wp2
      go_region
      go_wp2
      have hz : World.grownBy wr ((wr.alloc (.cells #[.int .u8 (f X), .int .u8 (g X)] 5)).drew) none := grown_drew (grown_alloc (grown_refl _ _) _)
      have hbz : Below w.heap.size w ((wr.alloc (.cells #[.int .u8 (f X), .int .u8 (g X)] 5)).drew) := hb.grown hz hsz (fun g hg => by cases hg)
      have hcz : cellsOf ((wr.alloc (.cells #[.int .u8 (f X), .int .u8 (g X)] 5)).drew) w.heap.size = av f := by rw [grown_cells hz (by omega) (by simp)]; exact HCF.out
      have hcz' : cellsOf ((wr.alloc (.cells #[.int .u8 (f X), .int .u8 (g X)] 5)).drew) (w.heap.size + 1) = av g := by rw [grown_cells hz (by omega) (by simp)]; exact HCG.out
      have hmz : ((wr.alloc (.cells #[.int .u8 (f X), .int .u8 (g X)] 5)).drew).heap[w.heap.size + 1 + 1 + 1]? = some (.cells (bv S.2) 79 (0, 0)) := by rw [hz.block _ hlw (by simp)]; exact HM.out
      have hoz : OwnB (w.heap.size + 2) ((wr.alloc (.cells #[.int .u8 (f X), .int .u8 (g X)] 5)).drew) (.slice (some ⟨g0, 0, none⟩) S.1.length c) S.1 := World.ownsRow.kept HO.out hz (.inr (by simp [Value.ownBlock]))
      have hnz : ((wr.alloc (.cells #[.int .u8 (f X), .int .u8 (g X)] 5)).drew).heap[wr.heap.size]? = some (.cells #[.int .u8 (f X), .int .u8 (g X)] 5 (0, 0)) := heap_at wr (.cells #[.int .u8 (f X), .int .u8 (g X)] 5) _ rfl
      have hnb : wr.heap.size < ((wr.alloc (.cells #[.int .u8 (f X), .int .u8 (g X)] 5)).drew).heap.size := by simp
      obtain ⟨b, hbeq⟩ : ∃ b, b = wr.heap.size := ⟨_, rfl⟩
      rw [← hbeq] at hnz hnb hlw hg0 ⊢
      have hgne : g0 ≠ b := by omega
      clear hcell cb cw HCF HCG HM HO hb hg0 hc1 hc2 hlt hsz hz hbeq
      generalize (wr.alloc (.cells #[.int .u8 (f X), .int .u8 (g X)] 5)).drew = wz at *
      clear wr
      go_loopw [8, 11] (fun out j wr => ∃ jj : Nat, jj ≤ 2 ∧ j = .int .i64 jj ∧ Below w.heap.size w wr ∧ cellsOf wr w.heap.size = av f ∧ cellsOf wr (w.heap.size + 1) = av g ∧ wr.heap[w.heap.size + 1 + 1 + 1]? = some (.cells (bv (bst f g S X jj).2) 79 (0, 0)) ∧ OwnB (w.heap.size + 2) wr out (bst f g S X jj).1 ∧
          b < wr.heap.size ∧ (jj < 2 → wr.heap[b]? = some (.cells #[.int .u8 (f X), .int .u8 (g X)] 5 (0, 0))) ∧ (jj = 0 → out.ownBlock ≠ some b))
        (fun _ j _ => 2 - (intOf j).toNat)
      case atStart => exact ⟨0, by omega, rfl, hbz, hcz, hcz', hmz, hoz, hnb, fun _ => hnz, fun _ e => hgne (by injection e)⟩
      case round =>
        clear hbz hcz hcz' hmz hoz hnb hnz hgne
        obtain ⟨j, hj, rfl, hb, hcf, hcg, hhm, hown, hbl, hbb, hbn⟩ := hrel
        have hsz := hb.size
        have HCF := hide hcf; clear hcf
        have HCG := hide hcg; clear hcg
        by_cases hj2 : j < 2
        · have hst := bst_step f g S X hj2
          have hYl := stepY_lt hfX hgX j
          have hidx : (#[Value.int .u8 (f X), Value.int .u8 (g X)] : Array Value)[j]? = some (.int .u8 (stepY f g X j)) := by
            rcases j with _ | _ | j
            · rfl
            · rfl
            · omega
          have hcY : wr.cell? ⟨b, j, none⟩ = some (.int .u8 (stepY f g X j)) := by rw [cell_of_cells, cellsOf_heap (hbb hj2)]; exact hidx
          have hIT := bst_inv HIV.out hfX hgX j
          generalize bst f g S X j = T at *
          generalize stepY f g X j = Y at *
          clear hidx
          have hTl : T.1.length ≤ 16 := by have := hIT.length_le; omega
          have hY16 : Y < 16 := by omega
          have hcm : cellsOf wr (w.heap.size + 1 + 1 + 1) = bv T.2 := cellsOf_heap hhm
          have HBB := hide (hbb hj2); clear hbb
          rcases hTY : T.2 Y with _ | _
          · have c0 : wr.cell? ⟨w.heap.size + 1 + 1 + 1, Y, none⟩ = some (.bool false) := by rw [cell_of_cells, hcm, bv_get _ hY16, hTY]
            have f0 : wr.frozen? ⟨w.heap.size + 1 + 1 + 1, Y, none⟩ = false := by simp [World.frozen?, hhm]
            have hS : World.grownBy wr (wr.setCell ⟨w.heap.size + 1 + 1 + 1, Y, none⟩ (.bool true)) (some (w.heap.size + 1 + 1 + 1)) := grown_setCell (grown_refl _ _)
            have hcY2 : (wr.setCell ⟨w.heap.size + 1 + 1 + 1, Y, none⟩ (.bool true)).cell? ⟨b, j, none⟩ = some (.int .u8 Y) := by rw [cell_of_cells, cellsOf_setCell_ne (by omega), ← cell_of_cells]; exact hcY
            have hownA : (wr.setCell ⟨w.heap.size + 1 + 1 + 1, Y, none⟩ (.bool true)).ownsRow (w.heap.size + 2) 5 1 u8 T.1.length (bytesL T.1) := World.ownsRow.kept hown hS (own_ne_blk hown hhm (by decide))
            have hnb := own_ne_blk hown hhm (by decide)
            have hhs : (wr.setCell ⟨w.heap.size + 1 + 1 + 1, Y, none⟩ (.bool true)).heap[w.heap.size + 1 + 1 + 1]? = some (.cells (bv (mset T.2 Y)) 79 (0, 0)) := by rw [heap_setCell_same _ _ _ _ _ _ hhm, bv_set]
            have hbs : Below w.heap.size w (wr.setCell ⟨w.heap.size + 1 + 1 + 1, Y, none⟩ (.bool true)) := hb.grown hS hsz (fun g hg => by simp at hg; omega)
            have hhb : (wr.setCell ⟨w.heap.size + 1 + 1 + 1, Y, none⟩ (.bool true)).heap[b]? = some (.cells #[.int .u8 (f X), .int .u8 (g X)] 5 (0, 0)) := by rw [Below.heap_setCell wr ⟨w.heap.size + 1 + 1 + 1, Y, none⟩ _ b (show b ≠ w.heap.size + 1 + 1 + 1 by omega)]; exact HBB.out
            have hl3 : w.heap.size + 1 + 1 + 1 < wr.heap.size := by omega
            have HH := hide hhm; clear hhm hcm
            have HHB := hide hhb; clear hhb HBB
            have HS2 := hide hhs; clear hhs
            have HNB := hide hnb; clear hnb
            have HBN := hide hbn; clear hbn
            have HST := hide hst; clear hst
            have HTY := hide hTY; clear hTY
            have HBS := hide hbs; clear hbs
            have HOA := hide hownA; clear hownA
            have HCY2 := hide hcY2
            go_wp2_with (at_builtin; refine wpList_append_own _ rfl _ _ 113 rfl (w.heap.size + 2) 5 i0 (.int .u8 0) 1 1 Try.underlying113 I0.out.1 I0.out.2.1 I0.out.2.2.1 I0.out.2.2.2 rfl (by decide) _ _ _ rfl (HOA.out.alloc _) ⟨wr.heap.size, 0, none⟩ 1 1 [.int .u8 Y] rfl rfl ?c1 ?c2 ?c3 ?c4 ?c5 ?_)
            case c1 => exact one_new _ _ _ _ (by simp)
            case c2 => intro u hu; simp at hu; subst hu; rfl
            case c3 => unfold maxLen; omega
            case c4 => omega
            case c5 => simp; omega
            intro v' w1 hown' hg' _
            have hrow : ∀ g, u8.ownBlock = some g → w.heap.size + 2 ≤ g := fun g hg => (HOA.out.lt g hg).1
            have hslt : w.heap.size + 1 + 1 + 1 < ((wr.setCell ⟨w.heap.size + 1 + 1 + 1, Y, none⟩ (.bool true)).alloc (.cells #[.int .u8 Y] 5)).heap.size := by simp; omega
            have hpf : cellsOf w1 w.heap.size = av f := by
              rw [grown_cells hg' (by simp; omega) (fun e => by have := hrow _ e.symm; omega), cellsOf_past (by simp; omega), cellsOf_setCell_ne (by omega)]; exact HCF.out
            have hpg : cellsOf w1 (w.heap.size + 1) = av g := by
              rw [grown_cells hg' (by simp; omega) (fun e => by have := hrow _ e.symm; omega), cellsOf_past (by simp; omega), cellsOf_setCell_ne (by omega)]; exact HCG.out
            have hmc : w1.heap[w.heap.size + 1 + 1 + 1]? = some (.cells (bv (mset T.2 Y)) 79 (0, 0)) := by
              rw [hg'.block _ hslt (fun e => by rcases HNB.out with c | c; rw [c] at e; cases e; exact c e.symm), heap_past _ _ _ (by simp; omega)]; exact HS2.out
            have hbw : Below w.heap.size w w1 := (HBS.out.alloc (by simp; omega) _).grown hg' (by simp; omega) (fun g hg => by have := hrow g hg; omega)
            have hbl1 : b < w1.heap.size := by have := hg'.size; simp at this; omega
            have hbb1 : j + 1 < 2 → w1.heap[b]? = some (.cells #[.int .u8 (f X), .int .u8 (g X)] 5 (0, 0)) := fun h => by
              rw [hg'.block _ (by simp; omega) (fun e => HBN.out (by omega) e.symm), heap_past _ _ _ (by simp; omega)]; exact HHB.out
            have hO : OwnB (w.heap.size + 2) w1 v' (badd T Y).1 := by
              rw [badd_new HTY.out]
              unfold OwnB bytesL at *
              simpa using hown'
            have H1 := hide hpf; clear hpf
            have H2 := hide hmc; clear hmc
            have H3 := hide hO; clear hO
            have H4 := hide hpg; clear hpg
            have H5 := hide hbb1; clear hbb1
            clear hown' hg' hrow c0 f0 hS HS2 HBS HOA HH HNB hslt hown hcY hcY2 HCY2 HHB HBN
            go_wp2
            go_roundw
            case rel => exact ⟨j + 1, by omega, by go_num, hbw, H1.out, H4.out, by rw [HST.out, badd_new HTY.out]; exact H2.out, by rw [HST.out]; exact H3.out, hbl1, H5.out, fun e => by omega⟩
            case measure => simp [intOf]; omega
          · have c0 : wr.cell? ⟨w.heap.size + 1 + 1 + 1, Y, none⟩ = some (.bool true) := by rw [cell_of_cells, hcm, bv_get _ hY16, hTY]
            have HH := hide hhm; clear hhm hcm
            have HST := hide hst; clear hst
            have HTY := hide hTY; clear hTY
            have HO := hide hown; clear hown
            clear hbn
            go_wp2
            go_roundw
            case rel => exact ⟨j + 1, by omega, by go_num, hb, HCF.out, HCG.out, by rw [HST.out, badd_old HTY.out]; exact HH.out, by rw [HST.out, badd_old HTY.out]; exact HO.out, hbl, fun _ => HBB.out, fun e => by omega⟩
            case measure => simp [intOf]; omega
        · obtain rfl : j = 2 := by omega
          have HH := hide hhm; clear hhm
          have HO := hide hown; clear hown
          clear hbb hbn
          go_wp2
          go_roundw
          case rel => exact ⟨k + 1, by omega, by go_num, hb, HCF.out, HCG.out, by rw [HN.out]; exact HH.out, by rw [HN.out]; exact HO.out⟩
          case measure => simp [intOf]; omega
    · obtain ⟨A, c, rfl⟩ := ownB_form hown
      have hst := FS.out k hk (by omega)
      clear hhm hcf hcg hI hown
      rw [hst] at FB
      clear hst
      generalize F k = S at *
      have hcb := FB.out
      go_wp2
      go_ret
      exact ⟨rfl, hb⟩
end Go.Proofs.Ytjhpkibeddnbfaa

namespace Go.Proofs.Ytjhpkibeddnbfaa
open Go.RowKit

/-- a permutation of n numbers, as the document has it -/
def PermN (f : Nat → Nat) (n : Nat) : Prop := 1 ≤ n ∧ n ≤ 16 ∧ Bij f n ∧ ∀ i, n ≤ i → i < 16 → f i = 0
open Classical in
@[irreducible] noncomputable def permB (f : Nat → Nat) (n : Int) : Bool := decide (0 ≤ n ∧ PermN f n.toNat)
theorem permB_yes {f : Nat → Nat} {m : Nat} (h : PermN f m) : permB f (m : Int) = true := by unfold permB; simpa using h
theorem permB_no {f : Nat → Nat} {m : Nat} (h : ¬ PermN f m) : permB f (m : Int) = false := by unfold permB; simpa using h
theorem permB_out {f : Nat → Nat} {n : Int} (h : ¬ (1 ≤ n ∧ n ≤ 16)) : permB f n = false := by
  unfold permB; simp only [decide_eq_false_iff_not]
  rintro ⟨h0, h1, h2, _⟩
  omega
theorem permB_true {f : Nat → Nat} {n : Int} (h : permB f n = true) : ∃ m : Nat, n = (m : Int) ∧ PermN f m := by
  unfold permB at h; simp only [decide_eq_true_eq] at h
  exact ⟨n.toNat, by omega, h.2⟩

/-- what the first k entries have met -/
@[irreducible] def metk (f : Nat → Nat) (k : Nat) : Nat → Bool := fun y => (List.range k).any fun i => f i == y
theorem metk_iff (f : Nat → Nat) (k y : Nat) : metk f k y = true ↔ ∃ i, i < k ∧ f i = y := by unfold metk; simp
theorem metk_zero (f : Nat → Nat) : metk f 0 = fun _ => false := by unfold metk; rfl
theorem metk_step (f : Nat → Nat) (k : Nat) : mset (metk f k) (f k) = metk f (k + 1) := by
  funext y
  rw [Bool.eq_iff_iff]
  simp only [mset, Bool.or_eq_true, beq_iff_eq, metk_iff]
  constructor
  · rintro (rfl | ⟨i, hi, rfl⟩)
    · exact ⟨k, by omega, rfl⟩
    · exact ⟨i, by omega, rfl⟩
  · rintro ⟨i, hi, rfl⟩
    by_cases c : i = k
    · subst c; exact .inl rfl
    · exact .inr ⟨i, by omega, rfl⟩


theorem dart_yes (n : Int) (w : World) (h1 : 1 ≤ n) (h2 : n ≤ 16) : Calls Try.prog 109 #[.int .i64 n] w fun e w' => e = .returned (.bool true) ∧ w = w' := by
  go_enter Try.func109, Try.ntmps109
  go_wp2
  go_ret
  exact ⟨by simp, rfl⟩
theorem dart_no (n : Int) (w : World) (h : ¬ (1 ≤ n ∧ n ≤ 16)) : Calls Try.prog 109 #[.int .i64 n] w fun e w' => e = .returned (.bool false) ∧ w = w' := by
  by_cases h1 : 1 ≤ n
  · have h2 : ¬ n ≤ 16 := fun c => h ⟨h1, c⟩
    clear h
    go_enter Try.func109, Try.ntmps109
    go_wp2
    go_ret
    exact ⟨by simp, rfl⟩
  · clear h
    go_enter Try.func109, Try.ntmps109
    go_wp2
    go_ret
    exact ⟨by simp, rfl⟩

set_option maxRecDepth 100000 in
set_option maxHeartbeats 400000 in
theorem isPerm_any (f : Nat → Nat) (hf : ∀ i, f i < 256) (n : Int) (w : World) : Calls Try.prog 83 #[.agg (av f), .int .i64 n] w fun e w' => e = .returned (.bool (permB f n)) ∧ Below w.heap.size w w' := by
  by_cases hn : 1 ≤ n ∧ n ≤ 16
  · obtain ⟨m, rfl⟩ := Int.eq_ofNat_of_zero_le (show 0 ≤ n by omega)
    have hm1 : 1 ≤ m := by omega
    have hm2 : m ≤ 16 := by omega
    clear hn
    have hsl := slice_hi w.heap.size m hm2
    obtain ⟨o, ho, hsr⟩ := slice_lo w.heap.size m hm2
    have HO := hide ho; clear ho
    go_enter Try.func83, Try.ntmps83
    go_wp2_with (go_at_call 109; refine (dart_yes _ _ (by omega) (by omega)).mono ?_; rintro e w' ⟨rfl, rfl⟩)
    clear hsl
    rw [← bv_false]
    go_loopw [16] (fun i wr => ∃ k : Nat, k ≤ m ∧ i = .int .i64 k ∧ wr = (w.alloc (.cells (av f) 28)).alloc (.cells (bv (metk f k)) 79) ∧ (∀ i, i < k → f i < m) ∧ (∀ i j, i < j → j < k → f i ≠ f j))
      (fun i _ => m - (intOf i).toNat)
    case atStart => exact ⟨0, by omega, rfl, by rw [metk_zero], by omega, by omega⟩
    case round =>
      obtain ⟨k, hk, rfl, rfl, hb, hd⟩ := hrel
      have HB := hide hb; clear hb
      have HD := hide hd; clear hd
      by_cases hlt : k < m
      · have h1 := av_get f (i := k) (by omega)
        have h256 := hf k
        have HF := hide hf; clear hf
        by_cases hfm : f k < m
        · have h2 := bv_get (metk f k) (i := f k) (by omega)
          rcases hmk : metk f k (f k) with _ | _
          · rw [hmk] at h2
            have h3 := bv_set (metk f k) (f k)
            rw [metk_step] at h3
            have HM := hide hmk; clear hmk
            go_wp2
            go_roundw
            case rel =>
              refine ⟨k + 1, by omega, by go_num, rfl, fun i hi => ?_, fun i j hij hj e => ?_⟩
              · by_cases c : i = k
                · subst c; exact hfm
                · exact HB.out i (by omega)
              · by_cases c : j = k
                · subst c
                  have : metk f j (f j) = true := (metk_iff f j (f j)).2 ⟨i, hij, e⟩
                  rw [HM.out] at this; cases this
                · exact HD.out i j hij (by omega) e
            case measure => simp [intOf]; omega
          · rw [hmk] at h2
            have HM := hide hmk; clear hmk
            have hno : ¬ PermN f m := by
              rintro ⟨_, _, hbj, _⟩
              obtain ⟨i, hi, e⟩ := (metk_iff f k (f k)).1 HM.out
              have := hbj.2 i k (by omega) (by omega) e
              omega
            have HN := hide (permB_no hno); clear hno
            go_wp2
            go_ret
            exact ⟨by rw [HN.out]; rfl, ((Below.refl _ _).alloc (Nat.le_refl _) _).alloc (by simp) _⟩
        · have hno : ¬ PermN f m := by
            rintro ⟨_, _, hbj, _⟩
            exact hfm (hbj.1 k (by omega))
          have hd : decide (m ≤ f k) = true := by simp; omega
          have HN := hide (permB_no hno); clear hno
          go_wp2
          go_ret
          exact ⟨by rw [HN.out]; rfl, ((Below.refl _ _).alloc (Nat.le_refl _) _).alloc (by simp) _⟩
      · obtain rfl : k = m := by omega
        clear hlt hk
        go_wp2
        clear hsr
        go_loopw [35] (fun i wr => ∃ j : Nat, j ≤ 16 - k ∧ i = .int .i64 j ∧ wr = (w.alloc (.cells (av f) 28)).alloc (.cells (bv (metk f k)) 79) ∧ (∀ i, i < j → f (k + i) = 0))
          (fun i _ => 16 - k - (intOf i).toNat)
        case atStart => exact ⟨0, by omega, rfl, rfl, by omega⟩
        case round =>
          obtain ⟨j, hj, rfl, rfl, hz⟩ := hrel
          have HZ := hide hz; clear hz
          by_cases hlt : j < 16 - k
          · have hk16 : ¬ k = 16 := by omega
            obtain rfl : k = o := (HO.out (by omega)).symm
            have h1 := av_get f (i := k + j) (by omega)
            have h256 := hf (k + j)
            clear hf
            have hw : ((16 - k : Nat) : Int) = 16 - (k : Int) := by omega
            by_cases hf0 : f (k + j) = 0
            · have h0 : ((f (k + j) : Int) != 0) = false := by simp [hf0]
              have H0 := hide hf0; clear hf0
              go_wp2
              go_roundw
              case rel =>
                refine ⟨j + 1, by omega, by go_num, by first | rfl | trivial, fun i hi => ?_⟩
                by_cases c : i = j
                · subst c; exact H0.out
                · exact HZ.out i (by omega)
              case measure => simp [intOf]; omega
            · have h0 : ((f (k + j) : Int) != 0) = true := by simp [hf0]
              have hno : ¬ PermN f k := by
                rintro ⟨_, _, _, hz0⟩
                exact hf0 (hz0 (k + j) (by omega) (by omega))
              have HN := hide (permB_no hno); clear hno hf0
              go_wp2
              go_ret
              exact ⟨by rw [HN.out]; rfl, ((Below.refl _ _).alloc (Nat.le_refl _) _).alloc (by simp) _⟩
          · obtain rfl : j = 16 - k := by omega
            have hyes : PermN f k := by
              refine ⟨hm1, hm2, ⟨HB.out, fun x y hx hy e => ?_⟩, fun i h1 h2 => ?_⟩
              · rcases Nat.lt_trichotomy x y with c | c | c
                · exact absurd e (HD.out x y c hy)
                · exact c
                · exact absurd e.symm (HD.out y x c hx)
              · have := HZ.out (i - k) (by omega)
                rwa [show k + (i - k) = i from by omega] at this
            have HN := hide (permB_yes hyes); clear hyes
            go_wp2
            go_ret
            exact ⟨by rw [HN.out]; rfl, ((Below.refl _ _).alloc (Nat.le_refl _) _).alloc (by simp) _⟩
  · rw [permB_out hn]
    go_enter Try.func83, Try.ntmps83
    go_wp2_with (go_at_call 109; refine (dart_no _ _ hn).mono ?_; rintro e w' ⟨rfl, rfl⟩)
    go_ret
    exact ⟨rfl, (Below.refl _ _).alloc (Nat.le_refl _) _⟩

end Go.Proofs.Ytjhpkibeddnbfaa

namespace Go.Proofs.Ytjhpkibeddnbfaa
open Go.RowKit

theorem in_yes (n a b : Int) (w : World) (h1 : a ≤ n) (h2 : n ≤ b) : Calls Try.prog 54 #[.int .i64 n, .int .i64 a, .int .i64 b] w fun e w' => e = .returned (.bool true) ∧ w = w' := by
  go_enter Try.func54, Try.ntmps54
  go_wp2
  go_ret
  exact ⟨by simp, rfl⟩
theorem in_no (n a b : Int) (w : World) (h : ¬ (a ≤ n ∧ n ≤ b)) : Calls Try.prog 54 #[.int .i64 n, .int .i64 a, .int .i64 b] w fun e w' => e = .returned (.bool false) ∧ w = w' := by
  by_cases h1 : a ≤ n
  · have h2 : ¬ n ≤ b := fun c => h ⟨h1, c⟩
    clear h
    go_enter Try.func54, Try.ntmps54
    go_wp2
    go_ret
    exact ⟨by simp, rfl⟩
  · clear h
    go_enter Try.func54, Try.ntmps54
    go_wp2
    go_ret
    exact ⟨by simp, rfl⟩

set_option maxRecDepth 100000 in
set_option maxHeartbeats 400000 in
theorem sPerm_any (f : Nat → Nat) (hf : ∀ i, f i < 256) (n : Int) (w : World) : Calls Try.prog 90 #[.agg (av f), .int .i64 n] w fun e w' => e = .returned (.bool (permB f n)) ∧ Below w.heap.size w w' := by
  by_cases hn : 1 ≤ n ∧ n ≤ 16
  · obtain ⟨m, rfl⟩ := Int.eq_ofNat_of_zero_le (show 0 ≤ n by omega)
    have hm1 : 1 ≤ m := by omega
    have hm2 : m ≤ 16 := by omega
    clear hn
    go_enter Try.func90, Try.ntmps90
    go_wp2_with (go_at_call 54; refine (in_yes _ _ _ _ (by omega) (by omega)).mono ?_; rintro e w' ⟨rfl, rfl⟩)
    rw [← bv_false]
    go_loopw [6] (fun i wr => ∃ k : Nat, k ≤ 16 ∧ i = .int .i64 k ∧ wr = (w.alloc (.cells (av f) 28)).alloc (.cells (bv (metk f (min k m))) 79) ∧ (∀ i, i < k → i < m → f i < m) ∧ (∀ i j, i < j → j < k → j < m → f i ≠ f j) ∧ (∀ i, m ≤ i → i < k → f i = 0))
      (fun i _ => 16 - (intOf i).toNat)
    case atStart => exact ⟨0, by omega, rfl, by rw [Nat.zero_min, metk_zero], by omega, by omega, by omega⟩
    case round =>
      obtain ⟨k, hk, rfl, rfl, hb, hd, hz⟩ := hrel
      have HB := hide hb; clear hb
      have HD := hide hd; clear hd
      have HZ := hide hz; clear hz
      have h256 := hf k
      have HF := hide hf; clear hf
      by_cases hlt : k < 16
      · have h1 := av_get f (i := k) (by omega)
        by_cases hkm : k < m
        · have hmin : min k m = k := by omega
          have hmin' : min (k + 1) m = k + 1 := by omega
          rw [hmin]
          clear hmin
          by_cases hfm : f k < m
          · have h2 := bv_get (metk f k) (i := f k) (by omega)
            rcases hmk : metk f k (f k) with _ | _
            · rw [hmk] at h2
              have h3 := bv_set (metk f k) (f k)
              rw [metk_step] at h3
              have HM := hide hmk; clear hmk
              have HI := hide hmin'; clear hmin'
              go_wp2
              go_roundw
              case rel =>
                refine ⟨k + 1, by omega, by go_num, by rw [HI.out], fun i hi _ => ?_, fun i j hij hj _ e => ?_, by omega⟩
                · by_cases c : i = k
                  · subst c; exact hfm
                  · exact HB.out i (by omega) (by omega)
                · by_cases c : j = k
                  · subst c
                    have : metk f j (f j) = true := (metk_iff f j (f j)).2 ⟨i, hij, e⟩
                    rw [HM.out] at this; cases this
                  · exact HD.out i j hij (by omega) (by omega) e
              case measure => simp [intOf]; omega
            · rw [hmk] at h2
              have HM := hide hmk; clear hmk hmin'
              have hno : ¬ PermN f m := by
                rintro ⟨_, _, hbj, _⟩
                obtain ⟨i, hi, e⟩ := (metk_iff f k (f k)).1 HM.out
                have := hbj.2 i k (by omega) (by omega) e
                omega
              have HN := hide (permB_no hno); clear hno
              go_wp2
              go_ret
              exact ⟨by rw [HN.out]; rfl, below2 _ _ _⟩
          · have hno : ¬ PermN f m := by
              rintro ⟨_, _, hbj, _⟩
              exact hfm (hbj.1 k (by omega))
            have hd : decide (m ≤ f k) = true := by simp; omega
            have HN := hide (permB_no hno); clear hno hmin'
            go_wp2
            go_ret
            exact ⟨by rw [HN.out]; rfl, below2 _ _ _⟩
        · have hmin : min k m = m := by omega
          have hmin' : min (k + 1) m = m := by omega
          rw [hmin]
          have HI := hide hmin'; clear hmin hmin'
          by_cases hf0 : f k = 0
          · have h0 : ((f k : Int) != 0) = false := by simp [hf0]
            have H0 := hide hf0; clear hf0
            go_wp2
            go_roundw
            case rel =>
              refine ⟨k + 1, by omega, by go_num, by rw [HI.out], fun i hi h => HB.out i (by omega) h, fun i j hij hj h => HD.out i j hij (by omega) h, fun i hi h => ?_⟩
              by_cases c : i = k
              · subst c; exact H0.out
              · exact HZ.out i hi (by omega)
            case measure => simp [intOf]; omega
          · have h0 : ((f k : Int) != 0) = true := by simp [hf0]
            have hno : ¬ PermN f m := by
              rintro ⟨_, _, _, hz0⟩
              exact hf0 (hz0 k (by omega) (by omega))
            have HN := hide (permB_no hno); clear hno hf0
            go_wp2
            go_ret
            exact ⟨by rw [HN.out]; rfl, below2 _ _ _⟩
      · obtain rfl : k = 16 := by omega
        clear hlt hk
        have hyes : PermN f m := by
          refine ⟨hm1, hm2, ⟨fun x hx => HB.out x (by omega) hx, fun x y hx hy e => ?_⟩, fun i h1 h2 => HZ.out i h1 h2⟩
          rcases Nat.lt_trichotomy x y with c | c | c
          · exact absurd e (HD.out x y c (by omega) hy)
          · exact c
          · exact absurd e.symm (HD.out y x c (by omega) hx)
        have HN := hide (permB_yes hyes); clear hyes
        go_wp2
        go_ret
        exact ⟨by rw [HN.out]; rfl, below2 _ _ _⟩
  · rw [permB_out hn]
    go_enter Try.func90, Try.ntmps90
    go_wp2_with (go_at_call 54; refine (in_no _ _ _ _ hn).mono ?_; rintro e w' ⟨rfl, rfl⟩)
    go_ret
    exact ⟨rfl, below1 _ _⟩

end Go.Proofs.Ytjhpkibeddnbfaa

namespace Go.Proofs.Ytjhpkibeddnbfaa
open Go.RowKit

/-- a dessin of n darts, as the document has it -/
noncomputable def desB (n : Int) (f g : Nat → Nat) : Bool := permB f n && (permB g n && connB f g n.toNat)
/-- what is known of a dessin -/
structure DesN (f g : Nat → Nat) (m : Nat) : Prop where
  pos : 0 < m
  le : m ≤ 16
  black : PermN f m
  white : PermN g m
  conn : conn f g m
theorem DesN.bf {f g : Nat → Nat} {m : Nat} (h : DesN f g m) : Bij f m := h.black.2.2.1
theorem DesN.bg {f g : Nat → Nat} {m : Nat} (h : DesN f g m) : Bij g m := h.white.2.2.1
theorem desB_true {n : Int} {f g : Nat → Nat} (h : desB n f g = true) : ∃ m : Nat, n = (m : Int) ∧ DesN f g m := by
  unfold desB at h
  simp only [Bool.and_eq_true] at h
  obtain ⟨h1, h2, h3⟩ := h
  obtain ⟨m, rfl, hp⟩ := permB_true h1
  obtain ⟨m', e, hq⟩ := permB_true h2
  obtain rfl : m = m' := by omega
  rw [Int.toNat_natCast] at h3
  unfold connB at h3
  exact ⟨m, rfl, hp.1, hp.2.1, hp, hq, by simpa using h3⟩

set_option maxRecDepth 100000 in
set_option maxHeartbeats 1000000 in
theorem isDessin_any (n : Int) (f g : Nat → Nat) (hf : ∀ i, f i < 256) (hg : ∀ i, g i < 256) (w : World) :
    Calls Try.prog 47 #[.agg (dv n f g)] w fun e w' => e = .returned (.bool (desB n f g)) ∧ Below w.heap.size w w' := by
  have hn := dv_n n f g
  have C1 := hide fun w => isPerm_any f hf n w
  have C2 := hide fun w => isPerm_any g hg n w
  clear hf hg
  have hD : desB n f g = (permB f n && (permB g n && connB f g n.toNat)) := rfl
  rcases h1 : permB f n with _ | _
  · rw [h1] at C1 hD
    rw [Bool.false_and] at hD
    rw [hD]
    clear hD h1 C2
    go_enter Try.func47, Try.ntmps47
    go_wp2_with fail
    refine (C1.out _).mono ?_
    rintro e w1 ⟨rfl, hb⟩
    have b1 := (below1 w _).trans (hb.mono (by simp))
    clear hb
    go_wp2
    go_ret
    exact ⟨rfl, b1⟩
  · rcases h2 : permB g n with _ | _
    · rw [h1, h2] at hD
      rw [h1] at C1
      rw [h2] at C2
      rw [Bool.false_and, Bool.and_false] at hD
      rw [hD]
      clear hD h1 h2
      go_enter Try.func47, Try.ntmps47
      go_wp2_with fail
      refine (C1.out _).mono ?_
      rintro e w1 ⟨rfl, hb⟩
      have c1 : cellsOf w1 w.heap.size = dv n f g := (below_cells hb (by simp)).trans (cellsOf_heap (heap_at _ _ _ rfl))
      have n1 : w1.cell? ⟨w.heap.size, 0, none⟩ = some (.int .i64 n) := by rw [cell_of_cells, c1]; exact hn
      have b1 := (below1 w _).trans (hb.mono (by simp))
      clear hb
      go_wp2_with fail
      refine (C2.out _).mono ?_
      rintro e w2 ⟨rfl, hb⟩
      have b2 := b1.trans (hb.mono b1.size)
      clear hb b1 c1 n1
      go_wp2
      go_ret
      exact ⟨rfl, b2⟩
    · obtain ⟨m, rfl, hp⟩ := permB_true h1
      obtain ⟨m', e, hq⟩ := permB_true h2
      obtain rfl : m = m' := by omega
      rw [h1, h2, Bool.true_and, Bool.true_and, Int.toNat_natCast] at hD
      rw [h1] at C1
      rw [h2] at C2
      rw [hD]
      have C3 := hide fun w => isConn_any f g m hp.1 hp.2.1 hp.2.2.1.1 hq.2.2.1.1 w
      generalize connB f g m = B at *
      clear hD h1 h2 e hp hq
      go_enter Try.func47, Try.ntmps47
      go_wp2_with fail
      refine (C1.out _).mono ?_
      rintro e w1 ⟨rfl, hb⟩
      have c1 : cellsOf w1 w.heap.size = dv m f g := (below_cells hb (by simp)).trans (cellsOf_heap (heap_at _ _ _ rfl))
      have n1 : w1.cell? ⟨w.heap.size, 0, none⟩ = some (.int .i64 m) := by rw [cell_of_cells, c1]; exact hn
      have b1 := (below1 w _).trans (hb.mono (by simp))
      have l1 : w.heap.size < w1.heap.size := by have := hb.size; simp at this; omega
      clear hb
      go_wp2_with fail
      refine (C2.out _).mono ?_
      rintro e w2 ⟨rfl, hb⟩
      have c2 : cellsOf w2 w.heap.size = dv m f g := (below_cells hb l1).trans c1
      have b2 := b1.trans (hb.mono b1.size)
      clear hb b1 c1 n1 l1
      go_wp2_with fail
      refine (C3.out _).mono ?_
      rintro e w3 ⟨rfl, hb⟩
      have b3 := b2.trans (hb.mono b2.size)
      clear hb b2 c2
      go_wp2
      go_ret
      exact ⟨rfl, b3⟩

set_option maxRecDepth 100000 in
set_option maxHeartbeats 1000000 in
theorem sIs_any (n : Int) (f g : Nat → Nat) (hf : ∀ i, f i < 256) (hg : ∀ i, g i < 256) (w : World) :
    Calls Try.prog 50 #[.agg (dv n f g)] w fun e w' => e = .returned (.bool (desB n f g)) ∧ Below w.heap.size w w' := by
  have hn := dv_n n f g
  have C1 := hide fun w => sPerm_any f hf n w
  have C2 := hide fun w => sPerm_any g hg n w
  clear hf hg
  have hD : desB n f g = (permB f n && (permB g n && connB f g n.toNat)) := rfl
  rcases h1 : permB f n with _ | _
  · rw [h1] at C1 hD
    rw [Bool.false_and] at hD
    rw [hD]
    clear hD h1 C2
    go_enter Try.func50, Try.ntmps50
    go_wp2_with fail
    refine (C1.out _).mono ?_
    rintro e w1 ⟨rfl, hb⟩
    have b1 := (below1 w _).trans (hb.mono (by simp))
    clear hb
    go_wp2
    go_ret
    exact ⟨rfl, b1⟩
  · rcases h2 : permB g n with _ | _
    · rw [h1, h2] at hD
      rw [h1] at C1
      rw [h2] at C2
      rw [Bool.false_and, Bool.and_false] at hD
      rw [hD]
      clear hD h1 h2
      go_enter Try.func50, Try.ntmps50
      go_wp2_with fail
      refine (C1.out _).mono ?_
      rintro e w1 ⟨rfl, hb⟩
      have c1 : cellsOf w1 w.heap.size = dv n f g := (below_cells hb (by simp)).trans (cellsOf_heap (heap_at _ _ _ rfl))
      have n1 : w1.cell? ⟨w.heap.size, 0, none⟩ = some (.int .i64 n) := by rw [cell_of_cells, c1]; exact hn
      have b1 := (below1 w _).trans (hb.mono (by simp))
      clear hb
      go_wp2_with fail
      refine (C2.out _).mono ?_
      rintro e w2 ⟨rfl, hb⟩
      have b2 := b1.trans (hb.mono b1.size)
      clear hb b1 c1 n1
      go_wp2
      go_ret
      exact ⟨rfl, b2⟩
    · obtain ⟨m, rfl, hp⟩ := permB_true h1
      obtain ⟨m', e, hq⟩ := permB_true h2
      obtain rfl : m = m' := by omega
      rw [h1, h2, Bool.true_and, Bool.true_and, Int.toNat_natCast] at hD
      rw [h1] at C1
      rw [h2] at C2
      rw [hD]
      have C3 := hide fun w => sConn_any f g m hp.1 hp.2.1 hp.2.2.1.1 hq.2.2.1.1 w
      generalize connB f g m = B at *
      clear hD h1 h2 e hp hq
      go_enter Try.func50, Try.ntmps50
      go_wp2_with fail
      refine (C1.out _).mono ?_
      rintro e w1 ⟨rfl, hb⟩
      have c1 : cellsOf w1 w.heap.size = dv m f g := (below_cells hb (by simp)).trans (cellsOf_heap (heap_at _ _ _ rfl))
      have n1 : w1.cell? ⟨w.heap.size, 0, none⟩ = some (.int .i64 m) := by rw [cell_of_cells, c1]; exact hn
      have b1 := (below1 w _).trans (hb.mono (by simp))
      have l1 : w.heap.size < w1.heap.size := by have := hb.size; simp at this; omega
      clear hb
      go_wp2_with fail
      refine (C2.out _).mono ?_
      rintro e w2 ⟨rfl, hb⟩
      have c2 : cellsOf w2 w.heap.size = dv m f g := (below_cells hb l1).trans c1
      have n2 : w2.cell? ⟨w.heap.size, 0, none⟩ = some (.int .i64 m) := by rw [cell_of_cells, c2]; exact hn
      have b2 := b1.trans (hb.mono b1.size)
      clear hb b1 c1 n1 l1
      go_wp2_with fail
      refine (C3.out _).mono ?_
      rintro e w3 ⟨rfl, hb⟩
      have b3 := b2.trans (hb.mono b2.size)
      clear hb b2 c2 n2
      go_wp2
      go_ret
      exact ⟨rfl, b3⟩
end Go.Proofs.Ytjhpkibeddnbfaa

namespace Go.Proofs.Ytjhpkibeddnbfaa.Rd
open Go.RowKit

section
variable (P : Program) (md : Region.Mode) (ops : Array Oper) (C : World → Prop) (E : Nat → Bool) (K : Act → World → Prop)

def uponE (R : Value → World → Prop) (w : World) : Result Next → Prop
  | .ok (.value u) w' => C w' ∧ R u w'
  | .ok .skip w' => C w' ∧ R undef w'
  | .ok (.enter f args) w' => w' = w ∧ Calls P f args w (fun e w'' => ∃ v, e = .returned v ∧ C w'' ∧ R v w'')
  | _ => False

/-- one operation, and what follows -/
def opV (i : Nat) (N : Act → (World → Prop) → Prop) (a : Act) (D : World → Prop) : Prop :=
  match ops[i]? with
  | none => N a D
  | some o =>
    if Region.wanted o (yielded ops a.tmps) then
      if E i = true then ∃ R : Value → World → Prop, (∀ v, Stable (R v)) ∧ (∀ w, C w → D w → uponE P C R w ((execOp a.eval o).run P w)) ∧ ∀ v, (∃ w, C w ∧ R v w) → N (a.put o.dst v) (R v)
      else ∃ v, (∀ w, C w → atG P o a w v) ∧ N (a.put o.dst v) D
    else N (a.put o.dst undef) D

theorem opV_mono {i : Nat} {N N' : Act → (World → Prop) → Prop} {a : Act} {D : World → Prop} (h : ∀ a D, N a D → N' a D) (hh : opV P ops C E i N a D) : opV P ops C E i N' a D := by
  unfold opV at *
  split
  · rename_i ho; simp only [ho] at hh; exact h _ _ hh
  · rename_i o ho
    simp only [ho] at hh
    split
    · rename_i hw
      rw [if_pos hw] at hh
      split
      · rename_i hR; rw [if_pos hR] at hh; obtain ⟨R, h0, h1, h2⟩ := hh; exact ⟨R, h0, h1, fun v hv => h _ _ (h2 v hv)⟩
      · rename_i hR
        rw [if_neg hR] at hh
        obtain ⟨v, h1, h2⟩ := hh; exact ⟨v, h1, h _ _ h2⟩
    · rename_i hw; rw [if_neg hw] at hh; exact h _ _ hh

/-- whatever order is picked -/
def anyV : Nat → Array Bool → Act → (World → Prop) → Prop
  | 0, done, a, D => Region.ready md ops done = [] ∧ ∀ w, C w → D w → K a w
  | f + 1, done, a, D => (Region.ready md ops done = [] → ∀ w, C w → D w → K a w) ∧ ∀ i ∈ Region.ready md ops done, opV P ops C E i (anyV f (done.setIfInBounds i true)) a D

theorem op_sound (hC : ∀ w w', C w → Below w.heap.size w w' → C w') {i : Nat} {N : Act → (World → Prop) → Prop} {K' : Act → World → Prop} {Q : Exit → Act → World → Prop} {a : Act} {D : World → Prop} {w : World} (hD : Stable D) (hw : C w) (hDw : D w)
    (hN : ∀ a D w, Stable D → C w → D w → N a D → K' a w) (h : opV P ops C E i N a D) : wpOp P ops Q i K' a w := by
  unfold opV at h
  unfold wpOp
  split
  · rename_i ho; simp only [ho] at h; exact hN _ _ _ hD hw hDw h
  · rename_i o ho
    simp only [ho] at h
    split
    · rename_i hwa
      rw [if_pos hwa] at h
      refine .inl ?_
      unfold Oper.wp
      rcases hEi : E i with _ | _
      · rw [if_neg (by simp [hEi])] at h
        obtain ⟨v, h1, h2⟩ := h
        have h3 := h1 w hw
        unfold atG at h3
        generalize (execOp a.eval o).run P w = r at *
        cases r with
        | ok n w' =>
          cases n <;> simp only [uponG] at h3 <;> simp only [Oper.upon]
          case value u => obtain ⟨e1, e2⟩ := h3; rw [e1, e2]; exact hN _ _ _ hD hw hDw h2
          case skip => obtain ⟨e1, e2⟩ := h3; rw [e1, ← e2]; exact hN _ _ _ hD hw hDw h2
          case enter f args => obtain ⟨e1, hc⟩ := h3; rw [e1]; exact hc.mono fun e w'' ⟨he, hb⟩ => by subst he; exact hN _ _ _ hD (hC _ _ hw hb) (hD _ _ hDw hb) h2
        | halt x w' => simp only [uponG] at h3
      · rw [if_pos hEi] at h
        obtain ⟨R, hE, h⟩ := h
        have h3 := h.1 w hw hDw
        generalize (execOp a.eval o).run P w = r at *
        cases r with
        | ok n w' =>
          cases n <;> simp only [uponE] at h3 <;> simp only [Oper.upon]
          case value u => exact hN _ _ _ (hE u) h3.1 h3.2 (h.2 u ⟨_, h3⟩)
          case skip => exact hN _ _ _ (hE undef) h3.1 h3.2 (h.2 undef ⟨_, h3⟩)
          case enter f args =>
            obtain ⟨e1, hc⟩ := h3
            rw [e1]
            refine hc.mono ?_
            rintro e w'' ⟨v, he, hb, hr⟩
            subst he
            exact hN _ _ _ (hE v) hb hr (h.2 v ⟨_, hb, hr⟩)
        | halt x w' => simp only [uponE] at h3
    · rename_i hwa; rw [if_neg hwa] at h; exact hN _ _ _ hD hw hDw h

theorem anyV_any (hC : ∀ w w', C w → Below w.heap.size w w' → C w') {Q : Exit → Act → World → Prop} (hQ : ∀ a w, K a w → Q .normal a w) (f : Nat) : ∀ (done : Array Bool) (a : Act) (D : World → Prop) (w : World), Stable D → C w → D w →
    anyV P md ops C E K f done a D → wpAny P md ops Q f done a w := by
  induction f with
  | zero => intro done a D w _ hw hDw h; exact ⟨h.1, hQ _ _ (h.2 w hw hDw)⟩
  | succ f ih =>
    intro done a D w hD hw hDw h
    exact ⟨fun e => hQ _ _ (h.1 e w hw hDw), fun i hi => op_sound P ops C E hC hD hw hDw (fun a' D' w' h1 h2 h3 h4 => ih _ a' D' w' h1 h2 h3 h4) (h.2 i hi)⟩

def YieldsG (o : Oper) (v : Value) (a : Act) : Prop :=
  (Region.wanted o (yielded ops a.tmps) = true ∧ ∀ w, C w → atG P o a w v) ∨ (Region.wanted o (yielded ops a.tmps) = false ∧ v = undef)

theorem YieldsG.op {i : Nat} {o : Oper} {v : Value} {a : Act} {D : World → Prop} (hi : ops[i]? = some o) (hE : E i = false) (hy : YieldsG P ops C o v a) {N : Act → (World → Prop) → Prop} (h : N (a.put o.dst v) D) : opV P ops C E i N a D := by
  unfold opV
  simp only [hi, hE, Bool.false_eq_true, if_false]
  rcases hy with ⟨hw, hv⟩ | ⟨hw, rfl⟩
  · rw [if_pos hw]; exact ⟨v, hv, h⟩
  · rw [if_neg (by simp [hw])]; exact h

theorem yieldsG_of {i : Nat} {o : Oper} {a : Act} {D : World → Prop} {N : Act → (World → Prop) → Prop} (hi : ops[i]? = some o) (hE : E i = false) (h : opV P ops C E i N a D) : ∃ v, YieldsG P ops C o v a ∧ N (a.put o.dst v) D := by
  unfold opV at h
  simp only [hi, hE, Bool.false_eq_true, if_false] at h
  by_cases hw : Region.wanted o (yielded ops a.tmps) = true
  · rw [if_pos hw] at h
    obtain ⟨v, h1, h2⟩ := h
    exact ⟨v, .inl ⟨hw, h1⟩, h2⟩
  · rw [if_neg hw] at h
    exact ⟨undef, .inr ⟨by simpa using hw, rfl⟩, h⟩

theorem opV_put {j : Nat} {oi oj : Oper} {v : Value} (hj : ops[j]? = some oj) (hap : oi.apart ops oj = true) (hsi : ∀ cs b, oi.op ≠ .select cs b) (hsj : ∀ cs b, oj.op ≠ .select cs b)
    {N : Act → (World → Prop) → Prop} {a : Act} {D : World → Prop} (hy : YieldsG P ops C oi v a) (h : opV P ops C E j N (a.put oi.dst v) D) :
    opV P ops C E j (fun a' D' => YieldsG P ops C oi v a' ∧ N (a'.put oi.dst v) D') a D := by
  obtain ⟨h1, h2, h3⟩ := Oper.apart_spec hap
  have keep : ∀ u, YieldsG P ops C oi v (a.put oj.dst u) := fun u => by
    have e1 := execOp_put oi hsi a oj.dst u h3
    have e2 := wanted_put oi a oj.dst u h3
    unfold YieldsG atG at *
    rw [e1, e2]; exact hy
  unfold opV at *
  simp only [hj] at *
  rw [wanted_put oj a oi.dst v h1, execOp_put oj hsj a oi.dst v h1] at h
  have ep : ∀ u, (a.put oj.dst u).put oi.dst v = (a.put oi.dst v).put oj.dst u := fun u => (Act.put_comm a v u h2).symm
  by_cases hw : Region.wanted oj (yielded ops a.tmps) = true
  · rw [if_pos hw] at h ⊢
    rcases hE : E j with _ | _
    · simp only [hE, Bool.false_eq_true, if_false] at h ⊢
      obtain ⟨u, k1, k2⟩ := h
      refine ⟨u, fun w hg => ?_, keep _, by rw [ep]; exact k2⟩
      have := k1 w hg
      unfold atG at *
      rwa [execOp_put oj hsj a oi.dst v h1] at this
    · simp only [hE, if_true] at h ⊢
      obtain ⟨R, h0, h⟩ := h
      exact ⟨R, h0, h.1, fun u hu => ⟨keep _, by rw [ep]; exact h.2 u hu⟩⟩
  · rw [if_neg hw] at h ⊢
    exact ⟨keep _, by rw [ep]; exact h⟩

theorem anyV_first {i : Nat} {o : Oper} {v : Value} (hi : ops[i]? = some o) (hE : E i = false) (hsel : ∀ (j : Nat) (o : Oper) cs b, ops[j]? = some o → o.op ≠ .select cs b) (f : Nat) :
    ∀ (done : Array Bool) (a : Act) (D : World → Prop),
      (∀ j oj, ops[j]? = some oj → j ≠ i → done.getD j true = false → (∀ e ∈ oj.after, Region.binds md e = true → e.on ≠ i) → o.apart ops oj = true) →
      i ∈ Region.ready md ops done → YieldsG P ops C o v a →
      anyV P md ops C E K f (done.setIfInBounds i true) (a.put o.dst v) D → anyV P md ops C E K (f + 1) done a D := by
  induction f with
  | zero =>
    intro done a D _ hr hy H
    refine ⟨fun e => (by rw [e] at hr; cases hr), fun j hj => ?_⟩
    by_cases e : j = i
    · subst e; exact hy.op P ops C E hi hE H
    · have := ready_mono hj e
      rw [H.1] at this; cases this
  | succ f ih =>
    intro done a D hfree hr hy H
    refine ⟨fun e => (by rw [e] at hr; cases hr), fun j hj => ?_⟩
    by_cases e : j = i
    · subst e; exact hy.op P ops C E hi hE H
    · obtain ⟨hjun, oj, hoj, hall⟩ := mem_ready.1 hj
      have hun := (mem_ready.1 hr).1
      have hno : ∀ e ∈ oj.after, Region.binds md e = true → e.on ≠ i := fun e he hb h => by
        have := hall e he hb
        rw [h, getD_both hun] at this
        cases this
      refine opV_mono P ops C E (fun a' D' h3 => ih (done.setIfInBounds j true) a' D' (fun k' ok hk hki hk' hnk => hfree k' ok hk hki ?_ hnk) (ready_mono hr (Ne.symm e)) h3.1 ?_)
        (opV_put P ops C E hoj (hfree j oj hoj e hjun hno) (fun cs b => hsel i o cs b hi) (fun cs b => hsel j oj cs b hoj) hy (H.2 j (ready_mono hj e)))
      · by_cases e' : j = k'
        · subst e'; exact hjun
        · rw [getD_set_ne true e'] at hk'; exact hk'
      · rw [Array.setIfInBounds_comm _ _ e]; exact h3.2

def walkV : Plan → Act → (World → Prop) → Prop
  | .fin, a, D => ∀ w, C w → D w → K a w
  | .q k p, a, D => opV P ops C E k (walkV p) a D
  | .s1 k p, a, D => opV P ops C E k (walkV p) a D
  | .s2 k1 p1 k2 p2, a, D => opV P ops C E k1 (walkV p1) a D ∧ opV P ops C E k2 (walkV p2) a D
  | .s3 k1 p1 k2 p2 k3 p3, a, D => opV P ops C E k1 (walkV p1) a D ∧ opV P ops C E k2 (walkV p2) a D ∧ opV P ops C E k3 (walkV p3) a D

theorem anyV_walk (hsel : Region.noSelect ops = true) (sp : List Nat) (hsp : ∀ k, sp.contains k = false → E k = false) (p : Plan) :
    ∀ (f : Nat) (done : Array Bool) (a : Act) (D : World → Prop), planB md ops sp f p done = true → walkV P ops C E K p a D → anyV P md ops C E K f done a D := by
  induction p with
  | fin =>
    intro f done a D hB h
    cases f with
    | zero => exact ⟨by simpa [planB] using hB, h⟩
    | succ f =>
      have e : Region.ready md ops done = [] := by simpa [planB] using hB
      exact ⟨fun _ => h, fun i hi => by rw [e] at hi; cases hi⟩
  | q k p ih =>
    intro f done a D hB h
    cases f with
    | zero => simp [planB] at hB
    | succ f =>
      simp only [planB, Bool.and_eq_true, decide_eq_true_eq, Bool.not_eq_true'] at hB
      obtain ⟨hc, ⟨hr, hfree⟩, hk, hB'⟩ := hB
      have hE := hsp k hc
      have hi : ops[k]? = some ops[k] := Array.getElem?_eq_getElem hk
      obtain ⟨v, hy, hK⟩ := yieldsG_of P ops C E hi hE h
      exact anyV_first P md ops C E K hi hE (Region.noSelect_spec hsel) f done a D (Region.free_spec hi hfree) (by simpa using hr) hy (ih _ _ _ _ hB' hK)
  | s1 k p ih =>
    intro f done a D hB h
    cases f with
    | zero => simp [planB] at hB
    | succ f =>
      simp only [planB, Bool.and_eq_true, decide_eq_true_eq] at hB
      obtain ⟨hr, hB'⟩ := hB
      refine ⟨fun e => (by rw [hr] at e; cases e), fun i hi => ?_⟩
      rw [hr] at hi
      obtain rfl : i = k := by simpa using hi
      exact opV_mono P ops C E (fun a' D' h' => ih _ _ _ _ hB' h') h
  | s2 k1 p1 k2 p2 ih1 ih2 =>
    intro f done a D hB h
    cases f with
    | zero => simp [planB] at hB
    | succ f =>
      simp only [planB, Bool.and_eq_true, decide_eq_true_eq] at hB
      obtain ⟨hr, hB1, hB2⟩ := hB
      refine ⟨fun e => (by rw [hr] at e; cases e), fun i hi => ?_⟩
      rw [hr] at hi
      simp only [List.mem_cons, List.not_mem_nil, or_false] at hi
      rcases hi with rfl | rfl
      · exact opV_mono P ops C E (fun a' D' h' => ih1 _ _ _ _ hB1 h') h.1
      · exact opV_mono P ops C E (fun a' D' h' => ih2 _ _ _ _ hB2 h') h.2
  | s3 k1 p1 k2 p2 k3 p3 ih1 ih2 ih3 =>
    intro f done a D hB h
    cases f with
    | zero => simp [planB] at hB
    | succ f =>
      simp only [planB, Bool.and_eq_true, decide_eq_true_eq] at hB
      obtain ⟨hr, hB1, hB2, hB3⟩ := hB
      refine ⟨fun e => (by rw [hr] at e; cases e), fun i hi => ?_⟩
      rw [hr] at hi
      simp only [List.mem_cons, List.not_mem_nil, or_false] at hi
      rcases hi with rfl | rfl | rfl
      · exact opV_mono P ops C E (fun a' D' h' => ih1 _ _ _ _ hB1 h') h.1
      · exact opV_mono P ops C E (fun a' D' h' => ih2 _ _ _ _ hB2 h') h.2.1
      · exact opV_mono P ops C E (fun a' D' h' => ih3 _ _ _ _ hB3 h') h.2.2
end

/-- a region by parts of memory: w0, L what the class holds; L1 what stands at the start beside it -/
theorem region_P {P : Program} {id : Nat} {Q : Exit → Act → World → Prop} {a : Act} {w w0 : World} {l : List Oper} (L : List Part) (L1 : List Part) (sp : List Nat) (p : Plan) (H : Holds w0 w L1) (hL : L.Sublist L1)
    (hm : P.follows .mixedOrders = true)
    (hsel : Region.noSelect l.toArray = true) (hB : planB .any l.toArray sp l.toArray.size p (Array.replicate l.toArray.size false) = true) 
    (h : walkV P l.toArray (fun wx => Holds w0 wx L) (fun k => sp.contains k) (fun a' w' => Q .normal a' w') p a (fun wx => Holds w0 wx L1)) : (Code.region id l.toArray true).wp P Q a w := by
  refine wp_region_any hm ?_
  exact anyV_any (Q := Q) P .any l.toArray (fun wx => Holds w0 wx L) (fun k => sp.contains k) (fun a' w' => Q .normal a' w') (fun _ _ h hb => h.call hb) (fun _ _ h => h) _ _ _ _ w.drew (fun _ _ h hb => h.call hb) (H.drew.sub hL) H.drew
    (anyV_walk P .any l.toArray (fun wx => Holds w0 wx L) (fun k => sp.contains k) (fun a' w' => Q .normal a' w') hsel sp (fun _ h => h) p _ _ a _ hB h)

section
variable {P : Program} {ops : Array Oper} {C : World → Prop} {E : Nat → Bool} {k : Nat} {a : Act} {D : World → Prop} {N : Act → (World → Prop) → Prop}
theorem v_q {o : Oper} (ho : ops[k]? = some o) (hE : E k = false) (hw : Region.wanted o (yielded ops a.tmps) = true) {v : Value} (h1 : ∀ w, C w → atG P o a w v) (h2 : N (a.put o.dst v) D) : opV P ops C E k N a D := by
  unfold opV
  simp only [ho, hE, Bool.false_eq_true, if_false]
  rw [if_pos hw]
  exact ⟨v, h1, h2⟩
theorem v_s {o : Oper} (R : Value → World → Prop) (hR : ∀ v, Stable (R v)) (ho : ops[k]? = some o) (hE : E k = true) (hw : Region.wanted o (yielded ops a.tmps) = true) (h1 : ∀ w, C w → D w → uponE P C R w ((execOp a.eval o).run P w))
    (h2 : ∀ v, (∃ w, C w ∧ R v w) → N (a.put o.dst v) (R v)) : opV P ops C E k N a D := by
  unfold opV
  simp only [ho, hE, if_true]
  rw [if_pos hw]
  exact ⟨R, hR, h1, h2⟩
end
/-- a list of cells laid for an append -/
def rBuild (w0 : World) (cells : Array Value) (t : TypeId) (k : Nat) (L : List Part) : Value → World → Prop := fun v w => ∃ g, v = .slice (some ⟨g, 0, none⟩) k k ∧ Holds w0 w (pBlk g cells t :: L)
theorem rBuild_stable {w0 : World} {cells : Array Value} {t : TypeId} {k : Nat} {L : List Part} (v : Value) : Stable (rBuild w0 cells t k L v) := fun _ _ ⟨g, e, h⟩ hb => ⟨g, e, h.call hb⟩
/-- a new block -/
def rBox (w0 : World) (cells : Array Value) (t : TypeId) (L : List Part) : Value → World → Prop := fun v w => ∃ g, v = .pointer (some ⟨g, 0, none⟩) ∧ Holds w0 w (pBlk g cells t :: L)
theorem rBox_stable {w0 : World} {cells : Array Value} {t : TypeId} {L : List Part} (v : Value) : Stable (rBox w0 cells t L v) := fun _ _ ⟨g, e, h⟩ hb => ⟨g, e, h.call hb⟩
/-- a relation of one value that is told by parts -/
def rHolds (w0 : World) (L : Value → List Part) : Value → World → Prop := fun v w => Holds w0 w (L v)
theorem rHolds_stable {w0 : World} {L : Value → List Part} (v : Value) : Stable (rHolds w0 L v) := fun _ _ h hb => h.call hb
/-- what is told of a pointer's block, of a slice's block -/
def rPtr (w0 : World) (cells : Array Value) (t : TypeId) (L : List Part) : Value → World → Prop
  | .pointer (some ⟨g, 0, none⟩) => fun w => Holds w0 w (pBlk g cells t :: L)
  | _ => fun _ => False
def rSl (w0 : World) (cells : Array Value) (t : TypeId) (L : List Part) : Value → World → Prop
  | .slice (some ⟨g, 0, none⟩) _ _ => fun w => Holds w0 w (pBlk g cells t :: L)
  | _ => fun _ => False
theorem rPtr_stable {w0 : World} {cells : Array Value} {t : TypeId} {L : List Part} (v : Value) : Stable (rPtr w0 cells t L v) := by
  unfold rPtr
  split
  · exact fun _ _ h hb => h.call hb
  · exact fun _ _ h _ => h
theorem rSl_stable {w0 : World} {cells : Array Value} {t : TypeId} {L : List Part} (v : Value) : Stable (rSl w0 cells t L v) := by
  unfold rSl
  split
  · exact fun _ _ h hb => h.call hb
  · exact fun _ _ h _ => h
section
variable {P : Program} {ops : Array Oper} {E : Nat → Bool} {k : Nat} {a : Act} {N : Act → (World → Prop) → Prop} {w0 : World} {L L1 : List Part}
/-- a new block -/
theorem v_box {o : Oper} (cells : Array Value) (t : TypeId) (ho : ops[k]? = some o) (hE : E k = true) (hw : Region.wanted o (yielded ops a.tmps) = true)
    (h1 : ∀ w, Holds w0 w L → Holds w0 w L1 → (execOp a.eval o).run P w = .ok (.value (.pointer (some ⟨w.heap.size, 0, none⟩))) (w.alloc (.cells cells t)))
    (h2 : ∀ g, N (a.put o.dst (.pointer (some ⟨g, 0, none⟩))) (fun wx => Holds w0 wx (pBlk g cells t :: L1))) : opV P ops (fun wx => Holds w0 wx L) E k N a (fun wx => Holds w0 wx L1) := by
  refine v_s (rPtr w0 cells t L1) rPtr_stable ho hE hw (fun w hx hD => ?_) fun v hv => ?_
  · rw [h1 w hx hD]
    exact ⟨hx.alloc _, hD.blk _ _ _ rfl⟩
  · obtain ⟨w, _, hr⟩ := hv
    unfold rPtr at hr
    split at hr
    · exact h2 _
    · exact hr.elim
/-- a list of cells laid for an append -/
theorem v_build {o : Oper} (cells : Array Value) (t : TypeId) (n : Nat) (ho : ops[k]? = some o) (hE : E k = true) (hw : Region.wanted o (yielded ops a.tmps) = true)
    (h1 : ∀ w, Holds w0 w L → Holds w0 w L1 → (execOp a.eval o).run P w = .ok (.value (.slice (some ⟨w.heap.size, 0, none⟩) n n)) (w.alloc (.cells cells t)))
    (h2 : ∀ g, N (a.put o.dst (.slice (some ⟨g, 0, none⟩) n n)) (fun wx => Holds w0 wx (pBlk g cells t :: L1))) : opV P ops (fun wx => Holds w0 wx L) E k N a (fun wx => Holds w0 wx L1) := by
  refine v_s (fun v w => ∃ g, v = .slice (some ⟨g, 0, none⟩) n n ∧ rSl w0 cells t L1 v w) (fun v _ _ ⟨g, e, h⟩ hb => ⟨g, e, rSl_stable v _ _ h hb⟩) ho hE hw (fun w hx hD => ?_) fun v hv => ?_
  · rw [h1 w hx hD]
    exact ⟨hx.alloc _, _, rfl, hD.blk _ _ _ rfl⟩
  · obtain ⟨w, _, g, rfl, hr⟩ := hv
    have := h2 g
    refine cast (congrArg (N _) ?_) this
    funext wx
    refine propext ⟨fun h => ⟨g, rfl, h⟩, fun ⟨_, _, h⟩ => h⟩
end
end Go.Proofs.Ytjhpkibeddnbfaa.Rd

namespace Go.Proofs.Ytjhpkibeddnbfaa
open Go.RowKit

/-- pairs by codes -/
def bF (p q : Nat → Nat) (z : Nat) : Nat := 16 * p (z / 16) + q (z % 16)
theorem bF_1 {p q : Nat → Nat} {z : Nat} (h : q (z % 16) < 16) : bF p q z / 16 = p (z / 16) := by unfold bF; omega
theorem bF_2 {p q : Nat → Nat} {z : Nat} (h : q (z % 16) < 16) : bF p q z % 16 = q (z % 16) := by unfold bF; omega
theorem PermN.lt16 {p : Nat → Nat} {m : Nat} (h : PermN p m) {i : Nat} (hi : i < 16) : p i < 16 := by
  obtain ⟨h1, h2, h3, h4⟩ := h
  rcases Nat.lt_or_ge i m with c | c
  · have := h3.1 i c; omega
  · rw [h4 i c hi]; omega
theorem bF_lt {p q : Nat → Nat} {m n : Nat} (hp : PermN p m) (hq : PermN q n) (z : Nat) (hz : z < 256) : bF p q z < 256 := by
  have h1 := hp.lt16 (i := z / 16) (by omega)
  have h2 := hq.lt16 (i := z % 16) (by omega)
  unfold bF; omega
def dec (l : List Nat) : List (Nat × Nat) := l.map fun z => (z / 16, z % 16)
theorem dec_length (l : List Nat) : (dec l).length = l.length := by unfold dec; simp
theorem dec_snoc (l : List Nat) (z : Nat) : dec (l ++ [z]) = dec l ++ [(z / 16, z % 16)] := by unfold dec; simp
theorem dec_at {l : List Nat} {k : Nat} (hk : k < l.length) : (dec l)[k]'(by rw [dec_length]; exact hk) = (l[k] / 16, l[k] % 16) := by unfold dec; simp
theorem badd_mem {n : Nat} {S : List Nat × (Nat → Bool)} (h : BInv n S) (y : Nat) : y ∈ (badd S y).1 := by
  unfold badd
  by_cases c : S.2 y = true
  · rw [if_pos c]; exact (h.mem y).1 c
  · rw [if_neg c]; simp
/-- what has been found is closed -/
theorem bfs_clos {p q : Nat → Nat} {n K z : Nat} (hp : ∀ x, x < n → p x < n) (hq : ∀ x, x < n → q x < n) (hz : z < n) (hK : n ≤ K) {y : Nat} (hy : y ∈ (bfs p q z K).1) : p y ∈ (bfs p q z K).1 ∧ q y ∈ (bfs p q z K).1 := by
  obtain ⟨k, hk⟩ := List.getElem?_of_mem hy
  have hkl := (List.getElem?_eq_some_iff.1 hk).1
  have hle := (bfs_inv hp hq hz K).length_le
  have hlt : k < (bfs p q z k).1.length := by
    rcases Nat.lt_or_ge k (bfs p q z k).1.length with c | c
    · exact c
    · have := bfs_stop c (j := K) (by omega)
      rw [this] at hkl
      omega
  have hpre := bfs_pre' p q z (show k ≤ K by omega)
  have hky : (bfs p q z k).1[k] = y := by
    obtain ⟨t, ht⟩ := hpre
    rw [← ht, List.getElem?_append_left hlt, List.getElem?_eq_getElem hlt] at hk
    exact Option.some.inj hk
  have hI := bfs_inv hp hq hz k
  have hn := bfs_next hlt
  rw [hky] at hn
  have hy' : y < n := (bfs_inv hp hq hz K).lt y hy
  have e : bst p q (bfs p q z k) y 2 = badd (badd (bfs p q z k) (p y)) (q y) := rfl
  rw [e] at hn
  have hpre2 := bfs_pre' p q z (show k + 1 ≤ K by omega)
  refine ⟨hpre2.subset ?_, hpre2.subset ?_⟩
  · rw [hn]; exact (badd_le _ _).subset (badd_mem hI _)
  · rw [hn]; exact badd_mem (hI.add (hp y hy')) _
/-- the value of a code; the map of a set of codes -/
def encP (z : Nat) : Value := .agg #[.int .u8 ((z / 16 : Nat) : Int), .int .u8 ((z % 16 : Nat) : Int)]
theorem encP_inj {y z : Nat} (h : encP y = encP z) : y = z := by
  unfold encP at h
  injection h with h
  have h' := congrArg Array.toList h
  simp at h'
  omega
open Classical in
noncomputable def Mp (s : Nat → Bool) : Value → Option Value := fun v => if ∃ z, v = encP z ∧ s z = true then some (.bool true) else none
theorem Mp_at (s : Nat → Bool) (z : Nat) : Mp s (encP z) = if s z = true then some (.bool true) else none := by
  unfold Mp
  by_cases h : s z = true
  · rw [if_pos ⟨z, rfl, h⟩, if_pos h]
  · rw [if_neg (fun ⟨y, e, hy⟩ => h (by rw [encP_inj e]; exact hy)), if_neg h]
theorem Mp_put (s : Nat → Bool) (z : Nat) : mput (Mp s) (encP z) (.bool true) = Mp (mset s z) := by
  funext v
  unfold mput Mp mset
  by_cases h : v = encP z
  · rw [if_pos h, if_pos ⟨z, h, by simp⟩]
  · rw [if_neg h]
    by_cases c : ∃ y, v = encP y ∧ s y = true
    · rw [if_pos c]
      obtain ⟨y, e, hy⟩ := c
      rw [if_pos ⟨y, e, by simp [hy]⟩]
    · rw [if_neg c, if_neg]
      rintro ⟨y, e, hy⟩
      by_cases d : y = z
      · subst d; exact h e
      · exact c ⟨y, e, by simpa [d] using hy⟩
theorem Mp_nil : (fun _ => none : Value → Option Value) = Mp fun _ => false := by funext v; unfold Mp; simp
theorem isK_code {z : Nat} (hz : z < 256) : IsK Try.prog 68 (encP z) := isK_pair _ _ (by omega) (by omega)
theorem zeroBool (w : World) : (zeroValue 4).run Try.prog w = .ok (.bool false) w := by
  have h : (Try.prog.info? 4).map (·.zero) = some (some (.bool false)) := by kernel_rfl
  rcases hi : Try.prog.info? 4 with _ | i
  · rw [hi] at h; cases h
  · rw [hi] at h
    have hz : i.zero = some (.bool false) := by simpa using h
    simp [zeroValue, typeInfo, hi, hz]
theorem look_code {w0 w : World} {L : List Part} (H : Holds w0 w L) (i : Nat) {G : Nat} {s : Nat → Bool} (hi : L[i]? = some (pMap Try.prog 68 G (Mp s))) {z : Nat} (hz : z < 256) :
    (Instr.lookup 114 (.map (some G)) (encP z) false).run Try.prog w = .ok (.bool (s z)) w := by
  rw [run_mlook keyedPr Try.underlying114 zeroBool (H.at i hi) (isK_code hz) false, Mp_at]
  rcases s z with _ | _ <;> rfl
theorem infoArr2 : (Try.prog.info? 68).map (·.size) = some 2 := by kernel_rfl
theorem idx_two (a b c d : Value) (w : World) (hs : a.oneCell' = true ∧ b.oneCell' = true ∧ c.oneCell' = true ∧ d.oneCell' = true) :
    (Instr.index 116 (.agg #[a, b, c, d]) (.int .i64 0)).run Try.prog w = .ok (.agg #[a, b]) w ∧ (Instr.index 116 (.agg #[a, b, c, d]) (.int .i64 1)).run Try.prog w = .ok (.agg #[c, d]) w := by
  rcases hi : Try.prog.info? 68 with _ | i
  · have := infoArr2; rw [hi] at this; cases this
  · have hsz : i.size = 2 := by have := infoArr2; rw [hi] at this; simpa using this
    have hag : (isAgg 68).run Try.prog w = .ok true w := by simp [isAgg, run_underlying Try.underlying68]
    constructor
    · simp [Instr.index, run_underlying Try.underlying116, asIntOf, go_sem, sizeOf, typeInfo, hi, hsz, part, hag]
    · simp [Instr.index, run_underlying Try.underlying116, asIntOf, go_sem, sizeOf, typeInfo, hi, hsz, part, hag]

set_option maxRecDepth 100000 in
set_option maxHeartbeats 2000000 in
theorem pairsFrom_any (f g f' g' : Nat → Nat) (m n : Nat) (hd : DesN f g m) (he : DesN f' g' n) (x y : Nat) (hx : x < 16) (hy : y < 16) (w : World) :
    Calls Try.prog 52 #[.agg (dv m f g), .agg (dv n f' g'), .agg #[.int .u8 x, .int .u8 y]] w fun e w' => ∃ v, e = .returned v ∧ Below w.heap.size w w' ∧
      w'.ownsRow w.heap.size 68 2 v (bfs (bF f f') (bF g g') (16 * x + y) 256).1.length (pairB (dec (bfs (bF f f') (bF g g') (16 * x + y) 256).1)) := by
  have hm := hd.le
  have hB := fun z hz => bF_lt hd.black he.black z hz
  have hW := fun z hz => bF_lt hd.white he.white z hz
  have C2 := hide fun (p q : Nat → Nat) (a b : Nat) (ha : a < 16) (hb : b < 16) w => pairAfter_any p q a b ha hb w
  have hz0 : 16 * x + y < 256 := by omega
  obtain ⟨F, FI, F0, FN, FE⟩ : ∃ (F : Nat → List Nat × (Nat → Bool)), Hid (∀ k, BInv 256 (F k)) ∧ Hid (F 0 = ([16 * x + y], mset (fun _ => false) (16 * x + y))) ∧ Hid (∀ k (hk : k < (F k).1.length), F (k + 1) = bst (bF f f') (bF g g') (F k) ((F k).1[k]) 2) ∧
      Hid (∀ k, k ≤ 256 → (F k).1.length ≤ k → (bfs (bF f f') (bF g g') (16 * x + y) 256).1 = (F k).1) :=
    ⟨bfs (bF f f') (bF g g') (16 * x + y), hide fun k => bfs_inv hB hW hz0 k, hide (bfs_start _ _ _), hide fun k hk => bfs_next hk, hide fun k h1 h2 => by
      generalize 256 = K at *
      rw [bfs_stop h2 h1]⟩
  obtain ⟨R, hR⟩ : ∃ R, R = (bfs (bF f f') (bF g g') (16 * x + y) 256).1 := ⟨_, rfl⟩
  rw [← hR] at FE ⊢
  clear hR
  have HBW := hide (And.intro hB hW); clear hB hW
  have HP := hide (And.intro (And.intro hd.black hd.white) (And.intro he.black he.white)); clear hd he
  have mk := fun w => run_mk (P := Try.prog) 114 w
  have e0 : encP (16 * x + y) = .agg #[.int .u8 (x : Int), .int .u8 (y : Int)] := by
    unfold encP
    rw [show (16 * x + y) / 16 = x by omega, show (16 * x + y) % 16 = y by omega]
  have HE0 := hide e0; clear e0
  go_enter Try.func52, Try.ntmps52
  have HH0 := (((Holds.start w).blk (dv m f g) 30 w.heap.size rfl).blk (dv n f' g') 30 (w.heap.size + 1) (by simp)).blk #[.int .u8 x, .int .u8 y] 68 (w.heap.size + 1 + 1) (by simp)
  have HH1 := HH0.rowNew #[.int .u8 x, .int .u8 y] 68 2 1 (w.heap.size + 1 + 1 + 1) (by simp) rfl (by unfold maxLen; omega)
  have HH2 := HH1.newMap Try.prog 68 (w.heap.size + 1 + 1 + 1 + 1) (by simp)
  clear HH0 HH1
  go_wp2_with (refine minsH keyedPr rfl _ _ _ rfl Try.underlying114 HH2 0 rfl rfl rfl rfl ?_ ?_)
  · have := isK_code (z := 16 * x + y) (by omega)
    rw [HE0.out] at this
    exact this
  intro w1 HH3 hs1
  rw [← HE0.out, Mp_nil, Mp_put] at HH3
  have hd0 : dec [16 * x + y] = [(x, y)] := by
    unfold dec
    simp only [List.map_cons, List.map_nil]
    rw [show (16 * x + y) / 16 = x by omega, show (16 * x + y) % 16 = y by omega]
  have HD0 := hide hd0; clear hd0
  have HH4 := HH3.sub (.cons_cons _ (.cons_cons _ (.cons _ (.refl _))))
  clear mk HH2 HH3 hs1
  go_wp2
  go_loopw [7, 9] (fun u t wr => ∃ k : Nat, k ≤ (F k).1.length ∧ t = .int .i64 k ∧ Holds w wr [pMap Try.prog 68 (w.heap.size + 1 + 1 + 1 + 1) (Mp (F k).2), pPairs u (dec (F k).1), pBlk (w.heap.size + 1) (dv n f' g') 30, pBlk w.heap.size (dv m f g) 30]) (fun _ t _ => 257 - (intOf t).toNat)
  case atStart => exact ⟨0, by omega, rfl, by rw [F0.out, HD0.out]; exact HH4⟩
  case round =>
    clear HH4
    obtain ⟨k, hk, rfl, hH⟩ := hrel
    have hI := FI.out k
    have hle := hI.length_le
    by_cases hkl : k < (F k).1.length
    · obtain ⟨g0, c0, rfl, _, _, _⟩ := hH.pairs 1 rfl (k := k) (by rw [dec_length]; exact hkl)
      have hnx := FN.out k hkl
      have hX := hI.lt _ (List.getElem_mem hkl)
      have hda := dec_at hkl
      obtain ⟨a, hab1⟩ : ∃ a, a = (F k).1[k] / 16 := ⟨_, rfl⟩
      obtain ⟨b, hab2⟩ : ∃ b, b = (F k).1[k] % 16 := ⟨_, rfl⟩
      rw [← hab1, ← hab2] at hda
      have ha16 : a < 16 := by omega
      have hb16 : b < 16 := by omega
      rw [dec_length] at hH ⊢
      generalize hS : F k = S at *
      have hat : ∀ wx, Holds w wx [pMap Try.prog 68 (w.heap.size + 1 + 1 + 1 + 1) (Mp (S).2), pPairs (.slice (some ⟨g0, 0, none⟩) S.1.length c0) (dec (S).1), pBlk (w.heap.size + 1) (dv n f' g') 30, pBlk w.heap.size (dv m f g) 30] → wx.cell? ⟨g0, k * 2, none⟩ = some (.int .u8 (a : Int)) ∧ wx.cell? ⟨g0, k * 2 + 1, none⟩ = some (.int .u8 (b : Int)) := by
        intro wx hx
        obtain ⟨gq, cq, eq, _, q1, q2⟩ := hx.pairs 1 rfl (k := k) (by rw [dec_length]; exact hkl)
        injection eq with eq
        injection eq with eq
        injection eq with eq
        subst eq
        rw [hda] at q1 q2
        exact ⟨q1, q2⟩
      clear hda
      generalize S.1[k] = X at *
      have HAT := hide hat; clear hat
      have HS := hide hS; clear hS
      have HNX := hide hnx; clear hnx
      have HI := hide hI; clear hI
      have hfa := HP.out.1.1.lt16 ha16
      have hga := HP.out.1.2.lt16 ha16
      have hfb := HP.out.2.1.lt16 hb16
      have hgb := HP.out.2.2.lt16 hb16
      have hB := HBW.out.1 X hX
      have hW := HBW.out.2 X hX
      have vB : bF f f' X / 16 = f a ∧ bF f f' X % 16 = f' b := by rw [hab1, hab2]; rw [hab2] at hfb; exact ⟨bF_1 hfb, bF_2 hfb⟩
      have vW : bF g g' X / 16 = g a ∧ bF g g' X % 16 = g' b := by rw [hab1, hab2]; rw [hab2] at hgb; exact ⟨bF_1 hgb, bF_2 hgb⟩
      have eB : encP (bF f f' X) = .agg #[.int .u8 (f a : Nat), .int .u8 (f' b : Nat)] := by unfold encP; rw [vB.1, vB.2]
      have eW : encP (bF g g' X) = .agg #[.int .u8 (g a : Nat), .int .u8 (g' b : Nat)] := by unfold encP; rw [vW.1, vW.2]
      have dB : ∀ l : List Nat, dec (l ++ [bF f f' X]) = dec l ++ [(f a, f' b)] := fun l => by rw [dec_snoc, vB.1, vB.2]
      have dW : ∀ l : List Nat, dec (l ++ [bF g g' X]) = dec l ++ [(g a, g' b)] := fun l => by rw [dec_snoc, vW.1, vW.2]
      have HAB := hide (And.intro hab1 hab2); clear hab1 hab2 vB vW
      have EE := hide (And.intro (And.intro eB eW) (And.intro dB dW)); clear eB eW dB dW
      have HBX := hide (And.intro hB hW); clear hB hW
      go_wp2
      refine Rd.region_P (w0 := w) [pMap Try.prog 68 (w.heap.size + 1 + 1 + 1 + 1) (Mp (S).2), pPairs (.slice (some ⟨g0, 0, none⟩) S.1.length c0) (dec (S).1), pBlk (w.heap.size + 1) (dv n f' g') 30, pBlk w.heap.size (dv m f g) 30] [pMap Try.prog 68 (w.heap.size + 1 + 1 + 1 + 1) (Mp (S).2), pPairs (.slice (some ⟨g0, 0, none⟩) S.1.length c0) (dec (S).1), pBlk (w.heap.size + 1) (dv n f' g') 30, pBlk w.heap.size (dv m f g) 30] [9, 10] (.q 0 <| .q 1 <| .q 2 <| .q 3 <| .q 4 <| .q 5 <| .q 6 <| .q 7 <| .q 8 <| .s1 9 <| .s1 10 .fin) hH (.refl _) (by kernel_rfl) (by kernel_rfl) (by kernel_rfl) ?_
      iterate 8
        apply Rd.v_q
        · simp only [List.getElem?_toArray, List.getElem?_cons_zero, List.getElem?_cons_succ]; exact rfl
        · rfl
        · go_simp
        · intro wx hx
          have q1 := (HAT.out wx hx).1
          have q2 := (HAT.out wx hx).2
          have c3 := hx.cells 3 rfl
          have c4 := hx.cells 2 rfl
          unfold atG
          go_simp
          simp only [uponG]
          exact ⟨by trivial, rfl⟩
      iterate 1
        apply Rd.v_q
        · simp only [List.getElem?_toArray, List.getElem?_cons_zero, List.getElem?_cons_succ]; exact rfl
        · rfl
        · go_simp
        · intro wx hx
          have q1 := (HAT.out wx hx).1
          have q2 := (HAT.out wx hx).2
          have c3 := hx.cells 3 rfl
          have c4 := hx.cells 2 rfl
          unfold atG
          go_simp
          simp only [uponG]
          exact ⟨by trivial, C2.out f f' a b (by omega) (by omega) wx⟩
      refine Rd.v_box #[.int .u8 0, .int .u8 0] 68 (by simp only [List.getElem?_toArray, List.getElem?_cons_zero, List.getElem?_cons_succ]; exact rfl) rfl (by go_simp) (fun wx hx hD => by go_simp) fun gq => ?_
      refine Rd.v_s (Rd.rHolds w fun _ => pBlk gq #[.int .u8 (f a : Nat), .int .u8 (f' b : Nat)] 68 :: [pMap Try.prog 68 (w.heap.size + 1 + 1 + 1 + 1) (Mp (S).2), pPairs (.slice (some ⟨g0, 0, none⟩) S.1.length c0) (dec (S).1), pBlk (w.heap.size + 1) (dv n f' g') 30, pBlk w.heap.size (dv m f g) 30]) Rd.rHolds_stable (by simp only [List.getElem?_toArray, List.getElem?_cons_zero, List.getElem?_cons_succ]; exact rfl) rfl (by go_simp) (fun wx hx hD => ?_) ?_
      · skip
        have c0 := hD.cell 0 (j := 0) rfl rfl
        have fr0 := hD.frozen 0 rfl 0
        have c1 := hD.cell 0 (j := 1) rfl rfl
        have fr1 := hD.frozen 0 rfl 1
        go_simp
        simp only [Rd.uponE]
        have h2 := (hD.set 0 rfl 0 (.int .u8 (f a : Nat))).set 0 rfl 1 (.int .u8 (f' b : Nat))
        exact ⟨h2.tail, h2⟩
      rintro vn -
      rintro w2 - hx2
      clear hH
      generalize gq = G6 at *
      go_wp2
      refine Rd.region_P (w0 := w) (pBlk G6 #[.int .u8 (f a : Nat), .int .u8 (f' b : Nat)] 68 :: [pMap Try.prog 68 (w.heap.size + 1 + 1 + 1 + 1) (Mp (S).2), pPairs (.slice (some ⟨g0, 0, none⟩) S.1.length c0) (dec (S).1), pBlk (w.heap.size + 1) (dv n f' g') 30, pBlk w.heap.size (dv m f g) 30]) (pBlk G6 #[.int .u8 (f a : Nat), .int .u8 (f' b : Nat)] 68 :: [pMap Try.prog 68 (w.heap.size + 1 + 1 + 1 + 1) (Mp (S).2), pPairs (.slice (some ⟨g0, 0, none⟩) S.1.length c0) (dec (S).1), pBlk (w.heap.size + 1) (dv n f' g') 30, pBlk w.heap.size (dv m f g) 30]) [9, 10] (.q 0 <| .q 1 <| .q 2 <| .q 3 <| .q 4 <| .q 5 <| .q 6 <| .q 7 <| .q 8 <| .s1 9 <| .s1 10 .fin) hx2 (.refl _) (by kernel_rfl) (by kernel_rfl) (by kernel_rfl) ?_
      iterate 8
        apply Rd.v_q
        · simp only [List.getElem?_toArray, List.getElem?_cons_zero, List.getElem?_cons_succ]; exact rfl
        · rfl
        · go_simp
        · intro wx hx
          have q1 := (HAT.out wx hx.tail).1
          have q2 := (HAT.out wx hx.tail).2
          have c3 := hx.cells 4 rfl
          have c4 := hx.cells 3 rfl
          unfold atG
          go_simp
          simp only [uponG]
          exact ⟨by trivial, rfl⟩
      iterate 1
        apply Rd.v_q
        · simp only [List.getElem?_toArray, List.getElem?_cons_zero, List.getElem?_cons_succ]; exact rfl
        · rfl
        · go_simp
        · intro wx hx
          have q1 := (HAT.out wx hx.tail).1
          have q2 := (HAT.out wx hx.tail).2
          have c3 := hx.cells 4 rfl
          have c4 := hx.cells 3 rfl
          unfold atG
          go_simp
          simp only [uponG]
          exact ⟨by trivial, C2.out g g' a b (by omega) (by omega) wx⟩
      refine Rd.v_box #[.int .u8 0, .int .u8 0] 68 (by simp only [List.getElem?_toArray, List.getElem?_cons_zero, List.getElem?_cons_succ]; exact rfl) rfl (by go_simp) (fun wx hx hD => by go_simp) fun gq => ?_
      refine Rd.v_s (Rd.rHolds w fun _ => pBlk gq #[.int .u8 (g a : Nat), .int .u8 (g' b : Nat)] 68 :: (pBlk G6 #[.int .u8 (f a : Nat), .int .u8 (f' b : Nat)] 68 :: [pMap Try.prog 68 (w.heap.size + 1 + 1 + 1 + 1) (Mp (S).2), pPairs (.slice (some ⟨g0, 0, none⟩) S.1.length c0) (dec (S).1), pBlk (w.heap.size + 1) (dv n f' g') 30, pBlk w.heap.size (dv m f g) 30])) Rd.rHolds_stable (by simp only [List.getElem?_toArray, List.getElem?_cons_zero, List.getElem?_cons_succ]; exact rfl) rfl (by go_simp) (fun wx hx hD => ?_) ?_
      · skip
        have c0 := hD.cell 0 (j := 0) rfl rfl
        have fr0 := hD.frozen 0 rfl 0
        have c1 := hD.cell 0 (j := 1) rfl rfl
        have fr1 := hD.frozen 0 rfl 1
        go_simp
        simp only [Rd.uponE]
        have h2 := (hD.set 0 rfl 0 (.int .u8 (g a : Nat))).set 0 rfl 1 (.int .u8 (g' b : Nat))
        exact ⟨h2.tail, h2⟩
      rintro vn -
      rintro w3 - hx3
      clear hx2
      have c0 := hx3.cell 0 (j := 0) rfl rfl
      have c1 := hx3.cell 0 (j := 1) rfl rfl
      have c2 := hx3.cell 1 (j := 0) rfl rfl
      have c3 := hx3.cell 1 (j := 1) rfl rfl
      have hHe := (Holds.tail (Holds.tail hx3))
      go_wp2
      clear c0 c1 c2 c3 hx3
      go_loopw [7, 46] (fun u t wr => ∃ jj : Nat, jj ≤ 2 ∧ t = .int .i64 jj ∧ Holds w wr [pMap Try.prog 68 (w.heap.size + 1 + 1 + 1 + 1) (Mp (bst (bF f f') (bF g g') S X jj).2), pPairs u (dec (bst (bF f f') (bF g g') S X jj).1), pBlk (w.heap.size + 1) (dv n f' g') 30, pBlk w.heap.size (dv m f g) 30]) (fun _ t _ => 2 - (intOf t).toNat)
      case atStart => exact ⟨0, by omega, rfl, hHe⟩
      case round =>
        clear hHe
        obtain ⟨j, hj, rfl, hH⟩ := hrel
        by_cases hj2 : j < 2
        · have hjj : j = 0 ∨ j = 1 := by omega
          rcases hjj with hj0 | hj1
          · obtain rfl := hj0
            have hst : bst (bF f f') (bF g g') S X 1 = badd (bst (bF f f') (bF g g') S X 0) (bF f f' X) := rfl
            have hIT := bst_inv HI.out HBX.out.1 HBX.out.2 0
            have hTl := hIT.length_le
            generalize bst (bF f f') (bF g g') S X 0 = T at *
            have ix := fun w' => (idx_two (.int .u8 (f a : Nat)) (.int .u8 (f' b : Nat)) (.int .u8 (g a : Nat)) (.int .u8 (g' b : Nat)) w' ⟨rfl, rfl, rfl, rfl⟩).1
            have hHb := hH.blk #[.int .u8 (f a : Nat), .int .u8 (f' b : Nat)] 68 wr.heap.size rfl
            have lk := look_code hHb 1 rfl (z := bF f f' X) HBX.out.1
            have HIT := hide hIT; clear hIT
            have HST := hide hst; clear hst
            rcases hTY : T.2 (bF f f' X) with _ | _
            · rw [hTY, EE.out.1.1] at lk
              have HTY := hide hTY; clear hTY
              obtain ⟨A', c', rfl⟩ := hH.pairsForm 1 rfl
              go_wp2_with (refine mputH keyedPr rfl _ _ _ rfl Try.underlying114 hHb 1 rfl rfl rfl rfl ?_ ?_)
              · have := isK_code (z := bF f f' X) HBX.out.1
                rw [EE.out.1.1] at this
                exact this
              intro w4 hH4 hs4
              clear hs4
              rw [← EE.out.1.1, Mp_put] at hH4
              have d0 : w4.cell? ⟨wr.heap.size, 0, none⟩ = some (.int .u8 (f a : Nat)) := hH4.cell 0 rfl rfl
              have d1 : w4.cell? ⟨wr.heap.size, 1, none⟩ = some (.int .u8 (f' b : Nat)) := hH4.cell 0 rfl rfl
              clear lk ix hHb hH
              go_wp2_with (at_builtin; refine appP (hH4.alloc _) 2 rfl w4.heap.size [(f a, f' b)] 68 ?_ ?_ rfl _ _ rfl rfl rfl ?_)
              · exact heap_at _ _ _ rfl
              · rw [dec_length]; simp only [List.length_cons, List.length_nil]; omega
              intro v' w5 hH5
              clear d0 d1 hH4
              go_wp2
              go_roundw
              case rel =>
                refine ⟨1, by omega, by go_num, ?_⟩
                rw [HST.out, badd_new HTY.out]
                show Holds w w5 [_, pPairs v' (dec (T.1 ++ [bF f f' X])), _, _]
                rw [EE.out.2.1]
                exact hH5.tail
              case measure => simp [intOf]
            · rw [hTY, EE.out.1.1] at lk
              have HTY := hide hTY; clear hTY
              go_wp2
              go_roundw
              case rel =>
                refine ⟨1, by omega, by go_num, ?_⟩
                rw [HST.out, badd_old HTY.out]
                exact hHb.tail
              case measure => simp [intOf]
          · obtain rfl := hj1
            have hst : bst (bF f f') (bF g g') S X 2 = badd (bst (bF f f') (bF g g') S X 1) (bF g g' X) := rfl
            have hIT := bst_inv HI.out HBX.out.1 HBX.out.2 1
            have hTl := hIT.length_le
            generalize bst (bF f f') (bF g g') S X 1 = T at *
            have ix := fun w' => (idx_two (.int .u8 (f a : Nat)) (.int .u8 (f' b : Nat)) (.int .u8 (g a : Nat)) (.int .u8 (g' b : Nat)) w' ⟨rfl, rfl, rfl, rfl⟩).2
            have hHb := hH.blk #[.int .u8 (g a : Nat), .int .u8 (g' b : Nat)] 68 wr.heap.size rfl
            have lk := look_code hHb 1 rfl (z := bF g g' X) HBX.out.2
            have HIT := hide hIT; clear hIT
            have HST := hide hst; clear hst
            rcases hTY : T.2 (bF g g' X) with _ | _
            · rw [hTY, EE.out.1.2] at lk
              have HTY := hide hTY; clear hTY
              obtain ⟨A', c', rfl⟩ := hH.pairsForm 1 rfl
              go_wp2_with (refine mputH keyedPr rfl _ _ _ rfl Try.underlying114 hHb 1 rfl rfl rfl rfl ?_ ?_)
              · have := isK_code (z := bF g g' X) HBX.out.2
                rw [EE.out.1.2] at this
                exact this
              intro w4 hH4 hs4
              clear hs4
              rw [← EE.out.1.2, Mp_put] at hH4
              have d0 : w4.cell? ⟨wr.heap.size, 0, none⟩ = some (.int .u8 (g a : Nat)) := hH4.cell 0 rfl rfl
              have d1 : w4.cell? ⟨wr.heap.size, 1, none⟩ = some (.int .u8 (g' b : Nat)) := hH4.cell 0 rfl rfl
              clear lk ix hHb hH
              go_wp2_with (at_builtin; refine appP (hH4.alloc _) 2 rfl w4.heap.size [(g a, g' b)] 68 ?_ ?_ rfl _ _ rfl rfl rfl ?_)
              · exact heap_at _ _ _ rfl
              · rw [dec_length]; simp only [List.length_cons, List.length_nil]; omega
              intro v' w5 hH5
              clear d0 d1 hH4
              go_wp2
              go_roundw
              case rel =>
                refine ⟨2, by omega, by go_num, ?_⟩
                rw [HST.out, badd_new HTY.out]
                show Holds w w5 [_, pPairs v' (dec (T.1 ++ [bF g g' X])), _, _]
                rw [EE.out.2.2]
                exact hH5.tail
              case measure => simp [intOf]
            · rw [hTY, EE.out.1.2] at lk
              have HTY := hide hTY; clear hTY
              go_wp2
              go_roundw
              case rel =>
                refine ⟨2, by omega, by go_num, ?_⟩
                rw [HST.out, badd_old HTY.out]
                exact hHb.tail
              case measure => simp [intOf]
        · obtain rfl : j = 2 := by omega
          have hn2 := HNX.out
          rw [← hn2] at hH
          have hIN := FI.out (k + 1)
          have hln : k + 1 ≤ (F (k + 1)).1.length := by
            have h1 := (bst_pre (bF f f') (bF g g') S X 2).length_le
            rw [hn2]; omega
          clear hj hj2 hn2
          go_wp2
          go_roundw
          case rel => exact ⟨k + 1, hln, by go_num, hH⟩
          case measure => simp [intOf]; omega
    · have hR := FE.out k (by omega) (by omega)
      have hkk : (F k).1.length = k := by omega
      obtain ⟨A', c', rfl⟩ := hH.pairsForm 1 rfl
      have hRl : R.length = k := by rw [hR]; exact hkk
      have hdl : (dec (F k).1).length = k := by rw [dec_length]; exact hkk
      rw [hdl] at hH ⊢
      rw [← hR] at hH
      have HRL := hide hRl
      clear hR hkk hdl hRl hI hle hk hkl
      go_wp2
      go_ret
      refine ⟨_, rfl, hH.low, ?_⟩
      have hr := hH.row 1 rfl
      rw [dec_length] at hr
      exact hr
end Go.Proofs.Ytjhpkibeddnbfaa
