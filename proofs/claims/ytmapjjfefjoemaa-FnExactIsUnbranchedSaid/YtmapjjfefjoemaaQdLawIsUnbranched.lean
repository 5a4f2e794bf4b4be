/- Texts put together: Con, IsDes, Vol, Bld, Make, Lnk, Cyo, Cat, RegD -/
import Derived.Test.YtmapjjfefjoemaaQcLawIsUnbranched
import Derived.Test.YtmapjjfefjoemaaChecked
import Derived.WalkKit
import Derived.WalkSpells
import Derived.WalkLawsBesides
import Derived.Deep.LoopGhost
import Derived.Deep.OwnRows
import Derived.Laws.Rows
import Derived.Laws.Tables
import Derived.Laws.CopyOwn
import Derived.ProofKit
import Derived.OpenShut
import Derived.ShutString
import Derived.ChangeOld
import Derived.Below
import Derived.Laws.OwnMore
import Derived.BigQuiet
import Derived.Deep.QuietTactic
import Derived.OwnWalk
import Derived.ChangeSlices
import Derived.RegionTactic
import Derived.Deep.Quiet
import Derived.StillTail
import Derived.Deep.Slices
import Derived.WideShapes
import Derived.Laws.CopyRow
import Derived.Deep.MidRow
import Derived.Deep.RegionWith
import Derived.ChangeKeysEq
import Derived.StillTailTactics
import Derived.Deep.RegionHeld3
namespace Go.Proofs.Ytmapjjfefjoemaa
open Go.RowKit

open Classical in
noncomputable def connB (f g : Nat → Nat) (m : Nat) : Bool := decide (conn f g m)
theorem connB_int (f g : Nat → Nat) (m : Nat) : ((((bfs f g 0 16).1.length : Nat) : Int) == (m : Int)) = connB f g m := by
  unfold connB conn
  generalize (bfs f g 0 16).1.length = a
  by_cases h : a = m
  · subst h; simp
  · have : ¬ (a : Int) = (m : Int) := by omega
    rw [beq_eq_false_iff_ne.2 this]; simp [h]

set_option maxRecDepth 100000 in
set_option maxHeartbeats 1000000 in
theorem isConn_any (f g : Nat → Nat) (m : Nat) (h0 : 0 < m) (hm : m ≤ 16) (hf : ∀ i, i < m → f i < m) (hg : ∀ i, i < m → g i < m) (w : World) :
    Calls Try.prog 87 #[.agg (dv m f g)] w fun e w' => e = .returned (.bool (connB f g m)) ∧ Below w.heap.size w w' := by
  have C : ∀ w1 : World, (cellsOf w1 w.heap.size = dv m f g ∧ w1.cell? ⟨w.heap.size, 0, none⟩ = some (.int .i64 m) ∧ w.heap.size < w1.heap.size ∧ Below w.heap.size w w1) →
      Calls Try.prog 112 #[.agg (dv m f g), .int .u8 0] w1 fun e w' => ∃ A c, e = .returned (.slice A (bfs f g 0 16).1.length c) ∧
        (cellsOf w' w.heap.size = dv m f g ∧ w'.cell? ⟨w.heap.size, 0, none⟩ = some (.int .i64 m) ∧ w.heap.size < w'.heap.size ∧ Below w.heap.size w w') := fun w1 ⟨h1, h2, h3, h4⟩ => by
    have := dartsFrom_any f g m hm hf hg 0 h0 m w1
    rw [show ((0 : Nat) : Int) = 0 from rfl] at this
    refine Calls.mono this ?_
    rintro e w' ⟨v, rfl, hb, ho⟩
    obtain ⟨A, c, rfl⟩ := ownB_form ho
    exact ⟨A, c, rfl, (below_cells hb h3).trans h1, (hb.cell (p := ⟨w.heap.size, 0, none⟩) h3).trans h2, Nat.lt_of_lt_of_le h3 hb.size, h4.trans (hb.mono (Nat.le_of_lt h3))⟩
  have C := hide C
  have hl := (bfs_inv hf hg h0 16).length_le
  have hb := connB_int f g m
  generalize bfs f g 0 16 = S at *
  generalize connB f g m = B at *
  clear hf hg
  have hn : cellsOf (w.alloc (.cells (dv m f g) 31)) w.heap.size = dv m f g := cellsOf_at rfl
  have hn2 : (w.alloc (.cells (dv m f g) 31)).cell? ⟨w.heap.size, 0, none⟩ = some (.int .i64 m) := by rw [cell_of_cells, hn]; exact dv_n m f g
  have hb1 := below1 w (.cells (dv m f g) 31)
  go_enter Try.func87, Try.ntmps87
  go_wp2
  go_region_held3 (fun w' => cellsOf w' w.heap.size = dv m f g ∧ w'.cell? ⟨w.heap.size, 0, none⟩ = some (.int .i64 m) ∧ w.heap.size < w'.heap.size ∧ Below w.heap.size w w') (first | assumption | exact ⟨hn, hn2, by simp, hb1.drew⟩) (first | (go_at_call 112; refine Calls.mono (C.out _ (by assumption)) ?_; rintro e w1 ⟨A, c, rfl, hS1⟩))
  all_goals go_wp2
  all_goals go_ret
  all_goals exact ⟨rfl, hS1.2.2.2⟩

set_option maxRecDepth 100000 in
set_option maxHeartbeats 1000000 in
theorem sConn_any (f g : Nat → Nat) (m : Nat) (h0 : 0 < m) (hm : m ≤ 16) (hf : ∀ i, i < m → f i < m) (hg : ∀ i, i < m → g i < m) (w : World) :
    Calls Try.prog 93 #[.int .i64 m, .agg (av f), .agg (av g)] w fun e w' => e = .returned (.bool (connB f g m)) ∧ Below w.heap.size w w' := by
  obtain ⟨F, FI, F0, FN, FS, FB⟩ : ∃ F : Nat → List Nat × (Nat → Bool), Hid (∀ k, BInv m (F k)) ∧ Hid (F 0 = ([0], mset (fun _ => false) 0)) ∧ Hid (∀ k (hk : k < (F k).1.length), F (k + 1) = bst f g (F k) ((F k).1[k]) 2) ∧
      Hid (∀ k, k ≤ 16 → (F k).1.length ≤ k → F 16 = F k) ∧ Hid ((((F 16).1.length : Nat) == (m : Int)) = connB f g m) :=
    ⟨bfs f g 0, hide fun k => bfs_inv hf hg h0 k, hide (bfs_start f g 0), hide fun k hk => bfs_next hk, hide fun k h1 h2 => bfs_stop h2 h1, hide (connB_int f g m)⟩
  have HF := hide hf; clear hf
  have HG := hide hg; clear hg
  generalize connB f g m = B at *
  obtain ⟨i0, hi, hz0, hz1, hz2⟩ := info_parts infoU8
  have I0 := hide (And.intro hi (And.intro hz0 (And.intro hz1 hz2))); clear hi hz0 hz1 hz2
  have h00 := bv_set (fun _ => false) 0
  rw [bv_false] at h00
  go_enter Try.func93, Try.ntmps93
  go_wp2
  have hlit : bv (mset (fun _ => false) 0) = #[.bool true, .bool false, .bool false, .bool false, .bool false, .bool false, .bool false, .bool false, .bool false, .bool false, .bool false, .bool false, .bool false, .bool false, .bool false, .bool false] := by unfold bv row; rfl
  go_loopw [8, 9] (fun out i wr => ∃ k : Nat, k ≤ 16 ∧ i = .int .i64 k ∧ Below w.heap.size w wr ∧ cellsOf wr w.heap.size = av f ∧ cellsOf wr (w.heap.size + 1) = av g ∧ wr.heap[w.heap.size + 1 + 1 + 1]? = some (.cells (bv (F k).2) 85 (0, 0)) ∧ OwnB (w.heap.size + 2) wr out (F k).1)
    (fun _ i _ => 16 - (intOf i).toNat)
  case atStart => exact ⟨0, by omega, rfl, below4 _ _ _ _ _, cellsOf_heap (heap3 rfl), cellsOf_heap (heap2 (by simp)), by rw [F0.out]; show _ = some (Obj.cells (bv (mset (fun _ => false) 0)) _ _); rw [hlit]; exact heap_at _ _ _ (by simp), by rw [F0.out]; exact ⟨by simp [bytesL], .inr ⟨w.heap.size + 1 + 1, 1, #[.int .u8 0], rfl, Nat.le_refl _, heap1 (by simp), Nat.le_refl _, by unfold maxLen; omega, by simp, by simp [bytesL]⟩⟩⟩
  case round =>
    clear hlit h00
    obtain ⟨k, hk, rfl, hb, hcf, hcg, hhm, hown⟩ := hrel
    have hI := FI.out k
    have hl16 : (F k).1.length ≤ 16 := by have := hI.length_le; omega
    by_cases hlt : k < (F k).1.length
    · have hnext := FN.out k hlt
      have hX := hI.lt _ (List.getElem_mem hlt)
      obtain ⟨g0, c, rfl, hB0, hg0, hc1, hc2, hcell⟩ := hown.at hlt
      have hsz := hb.size
      have hk16 : k < 16 := by omega
      generalize hS : F k = S at *
      generalize S.1[k] = X at *
      have HS := hide hS; clear hS
      have HN := hide hnext; clear hnext
      have hX16 : X < 16 := by omega
      have hfX := HF.out X hX
      have hgX := HG.out X hX
      have cb : wr.cell? ⟨w.heap.size, X, none⟩ = some (.int .u8 (f X)) := by rw [cell_of_cells, hcf, av_get _ hX16]
      have cw : wr.cell? ⟨w.heap.size + 1, X, none⟩ = some (.int .u8 (g X)) := by rw [cell_of_cells, hcg, av_get _ hX16]
      have HCF := hide hcf; clear hcf
      have HCG := hide hcg; clear hcg
      have HM := hide hhm; clear hhm
      have HO := hide hown; clear hown
      have HIV := hide hI; clear hI
      have hlw : w.heap.size + 1 + 1 + 1 < wr.heap.size := by
        rcases Nat.lt_or_ge (w.heap.size + 1 + 1 + 1) wr.heap.size with e | e
        · exact e
        · have := HM.out; rw [Array.getElem?_eq_none e] at this; cases this
      go_wp2
      go_region
      go_wp2
      have hz : World.grownBy wr ((wr.alloc (.cells #[.int .u8 (f X), .int .u8 (g X)] 5)).drew) none := grown_drew (grown_alloc (grown_refl _ _) _)
      have hbz : Below w.heap.size w ((wr.alloc (.cells #[.int .u8 (f X), .int .u8 (g X)] 5)).drew) := hb.grown hz hsz (fun g hg => by cases hg)
      have hcz : cellsOf ((wr.alloc (.cells #[.int .u8 (f X), .int .u8 (g X)] 5)).drew) w.heap.size = av f := by rw [grown_cells hz (by omega) (by simp)]; exact HCF.out
      have hcz' : cellsOf ((wr.alloc (.cells #[.int .u8 (f X), .int .u8 (g X)] 5)).drew) (w.heap.size + 1) = av g := by rw [grown_cells hz (by omega) (by simp)]; exact HCG.out
      have hmz : ((wr.alloc (.cells #[.int .u8 (f X), .int .u8 (g X)] 5)).drew).heap[w.heap.size + 1 + 1 + 1]? = some (.cells (bv S.2) 85 (0, 0)) := by rw [hz.block _ hlw (by simp)]; exact HM.out
      have hoz : OwnB (w.heap.size + 2) ((wr.alloc (.cells #[.int .u8 (f X), .int .u8 (g X)] 5)).drew) (.slice (some ⟨g0, 0, none⟩) S.1.length c) S.1 := World.ownsRow.kept HO.out hz (.inr (by simp [Value.ownBlock]))
      have hnz : ((wr.alloc (.cells #[.int .u8 (f X), .int .u8 (g X)] 5)).drew).heap[wr.heap.size]? = some (.cells #[.int .u8 (f X), .int .u8 (g X)] 5 (0, 0)) := heap_at wr (.cells #[.int .u8 (f X), .int .u8 (g X)] 5) _ rfl
      have hnb : wr.heap.size < ((wr.alloc (.cells #[.int .u8 (f X), .int .u8 (g X)] 5)).drew).heap.size := by simp
      obtain ⟨b, hbeq⟩ : ∃ b, b = wr.heap.size := ⟨_, rfl⟩
      rw [← hbeq] at hnz hnb hlw hg0 ⊢
      have hgne : g0 ≠ b := by omega
      clear hcell cb cw HCF HCG HM HO hb hg0 hc1 hc2 hlt hsz hz hbeq
      generalize (wr.alloc (.cells #[.int .u8 (f X), .int .u8 (g X)] 5)).drew = wz at *
      clear wr
      go_loopw [8, 11] (fun out j wr => ∃ jj : Nat, jj ≤ 2 ∧ j = .int .i64 jj ∧ Below w.heap.size w wr ∧ cellsOf wr w.heap.size = av f ∧ cellsOf wr (w.heap.size + 1) = av g ∧ wr.heap[w.heap.size + 1 + 1 + 1]? = some (.cells (bv (bst f g S X jj).2) 85 (0, 0)) ∧ OwnB (w.heap.size + 2) wr out (bst f g S X jj).1 ∧
          b < wr.heap.size ∧ (jj < 2 → wr.heap[b]? = some (.cells #[.int .u8 (f X), .int .u8 (g X)] 5 (0, 0))) ∧ (jj = 0 → out.ownBlock ≠ some b))
        (fun _ j _ => 2 - (intOf j).toNat)
      case atStart => exact ⟨0, by omega, rfl, hbz, hcz, hcz', hmz, hoz, hnb, fun _ => hnz, fun _ e => hgne (by injection e)⟩
      case round =>
        clear hbz hcz hcz' hmz hoz hnb hnz hgne
        obtain ⟨j, hj, rfl, hb, hcf, hcg, hhm, hown, hbl, hbb, hbn⟩ := hrel
        have hsz := hb.size
        have HCF := hide hcf; clear hcf
        have HCG := hide hcg; clear hcg
        by_cases hj2 : j < 2
        · have hst := bst_step f g S X hj2
          have hYl := stepY_lt hfX hgX j
          have hidx : (#[Value.int .u8 (f X), Value.int .u8 (g X)] : Array Value)[j]? = some (.int .u8 (stepY f g X j)) := by
            rcases j with _ | _ | j
            · rfl
            · rfl
            · omega
          have hcY : wr.cell? ⟨b, j, none⟩ = some (.int .u8 (stepY f g X j)) := by rw [cell_of_cells, cellsOf_heap (hbb hj2)]; exact hidx
          have hIT := bst_inv HIV.out hfX hgX j
          generalize bst f g S X j = T at *
          generalize stepY f g X j = Y at *
          clear hidx
          have hTl : T.1.length ≤ 16 := by have := hIT.length_le; omega
          have hY16 : Y < 16 := by omega
          have hcm : cellsOf wr (w.heap.size + 1 + 1 + 1) = bv T.2 := cellsOf_heap hhm
          have HBB := hide (hbb hj2); clear hbb
          rcases hTY : T.2 Y with _ | _
          · have c0 : wr.cell? ⟨w.heap.size + 1 + 1 + 1, Y, none⟩ = some (.bool false) := by rw [cell_of_cells, hcm, bv_get _ hY16, hTY]
            have f0 : wr.frozen? ⟨w.heap.size + 1 + 1 + 1, Y, none⟩ = false := by simp [World.frozen?, hhm]
            have hS : World.grownBy wr (wr.setCell ⟨w.heap.size + 1 + 1 + 1, Y, none⟩ (.bool true)) (some (w.heap.size + 1 + 1 + 1)) := grown_setCell (grown_refl _ _)
            have hcY2 : (wr.setCell ⟨w.heap.size + 1 + 1 + 1, Y, none⟩ (.bool true)).cell? ⟨b, j, none⟩ = some (.int .u8 Y) := by rw [cell_of_cells, cellsOf_setCell_ne (by omega), ← cell_of_cells]; exact hcY
            have hownA : (wr.setCell ⟨w.heap.size + 1 + 1 + 1, Y, none⟩ (.bool true)).ownsRow (w.heap.size + 2) 5 1 u8 T.1.length (bytesL T.1) := World.ownsRow.kept hown hS (own_ne_blk hown hhm (by decide))
            have hnb := own_ne_blk hown hhm (by decide)
            have hhs : (wr.setCell ⟨w.heap.size + 1 + 1 + 1, Y, none⟩ (.bool true)).heap[w.heap.size + 1 + 1 + 1]? = some (.cells (bv (mset T.2 Y)) 85 (0, 0)) := by rw [heap_setCell_same _ _ _ _ _ _ hhm, bv_set]
            have hbs : Below w.heap.size w (wr.setCell ⟨w.heap.size + 1 + 1 + 1, Y, none⟩ (.bool true)) := hb.grown hS hsz (fun g hg => by simp at hg; omega)
            have hhb : (wr.setCell ⟨w.heap.size + 1 + 1 + 1, Y, none⟩ (.bool true)).heap[b]? = some (.cells #[.int .u8 (f X), .int .u8 (g X)] 5 (0, 0)) := by rw [Below.heap_setCell wr ⟨w.heap.size + 1 + 1 + 1, Y, none⟩ _ b (show b ≠ w.heap.size + 1 + 1 + 1 by omega)]; exact HBB.out
            have hl3 : w.heap.size + 1 + 1 + 1 < wr.heap.size := by omega
            have HH := hide hhm; clear hhm hcm
            have HHB := hide hhb; clear hhb HBB
            have HS2 := hide hhs; clear hhs
            have HNB := hide hnb; clear hnb
            have HBN := hide hbn; clear hbn
            have HST := hide hst; clear hst
            have HTY := hide hTY; clear hTY
            have HBS := hide hbs; clear hbs
            have HOA := hide hownA; clear hownA
            have HCY2 := hide hcY2
            go_wp2_with (at_builtin; refine wpList_append_own _ rfl _ _ 72 rfl (w.heap.size + 2) 5 i0 (.int .u8 0) 1 1 Try.underlying72 I0.out.1 I0.out.2.1 I0.out.2.2.1 I0.out.2.2.2 rfl (by decide) _ _ _ rfl (HOA.out.alloc _) ⟨wr.heap.size, 0, none⟩ 1 1 [.int .u8 Y] rfl rfl ?c1 ?c2 ?c3 ?c4 ?c5 ?_)
            case c1 => exact one_new _ _ _ _ (by simp)
            case c2 => intro u hu; simp at hu; subst hu; rfl
            case c3 => unfold maxLen; omega
            case c4 => omega
            case c5 => simp; omega
            intro v' w1 hown' hg' _
            have hrow : ∀ g, u8.ownBlock = some g → w.heap.size + 2 ≤ g := fun g hg => (HOA.out.lt g hg).1
            have hslt : w.heap.size + 1 + 1 + 1 < ((wr.setCell ⟨w.heap.size + 1 + 1 + 1, Y, none⟩ (.bool true)).alloc (.cells #[.int .u8 Y] 5)).heap.size := by simp; omega
            have hpf : cellsOf w1 w.heap.size = av f := by
              rw [grown_cells hg' (by simp; omega) (fun e => by have := hrow _ e.symm; omega), cellsOf_past (by simp; omega), cellsOf_setCell_ne (by omega)]; exact HCF.out
            have hpg : cellsOf w1 (w.heap.size + 1) = av g := by
              rw [grown_cells hg' (by simp; omega) (fun e => by have := hrow _ e.symm; omega), cellsOf_past (by simp; omega), cellsOf_setCell_ne (by omega)]; exact HCG.out
            have hmc : w1.heap[w.heap.size + 1 + 1 + 1]? = some (.cells (bv (mset T.2 Y)) 85 (0, 0)) := by
              rw [hg'.block _ hslt (fun e => by rcases HNB.out with c | c; rw [c] at e; cases e; exact c e.symm), heap_past _ _ _ (by simp; omega)]; exact HS2.out
            have hbw : Below w.heap.size w w1 := (HBS.out.alloc (by simp; omega) _).grown hg' (by simp; omega) (fun g hg => by have := hrow g hg; omega)
            have hbl1 : b < w1.heap.size := by have := hg'.size; simp at this; omega
            have hbb1 : j + 1 < 2 → w1.heap[b]? = some (.cells #[.int .u8 (f X), .int .u8 (g X)] 5 (0, 0)) := fun h => by
              rw [hg'.block _ (by simp; omega) (fun e => HBN.out (by omega) e.symm), heap_past _ _ _ (by simp; omega)]; exact HHB.out
            have hO : OwnB (w.heap.size + 2) w1 v' (badd T Y).1 := by
              rw [badd_new HTY.out]
              unfold OwnB bytesL at *
              simpa using hown'
            have H1 := hide hpf; clear hpf
            have H2 := hide hmc; clear hmc
            have H3 := hide hO; clear hO
            have H4 := hide hpg; clear hpg
            have H5 := hide hbb1; clear hbb1
            clear hown' hg' hrow c0 f0 hS HS2 HBS HOA HH HNB hslt hown hcY hcY2 HCY2 HHB HBN
            go_wp2
            go_roundw
            case rel => exact ⟨j + 1, by omega, by go_num, hbw, H1.out, H4.out, by rw [HST.out, badd_new HTY.out]; exact H2.out, by rw [HST.out]; exact H3.out, hbl1, H5.out, fun e => by omega⟩
            case measure => simp [intOf]; omega
          · have c0 : wr.cell? ⟨w.heap.size + 1 + 1 + 1, Y, none⟩ = some (.bool true) := by rw [cell_of_cells, hcm, bv_get _ hY16, hTY]
            have HH := hide hhm; clear hhm hcm
            have HST := hide hst; clear hst
            have HTY := hide hTY; clear hTY
            have HO := hide hown; clear hown
            clear hbn
            go_wp2
            go_roundw
            case rel => exact ⟨j + 1, by omega, by go_num, hb, HCF.out, HCG.out, by rw [HST.out, badd_old HTY.out]; exact HH.out, by rw [HST.out, badd_old HTY.out]; exact HO.out, hbl, fun _ => HBB.out, fun e => by omega⟩
            case measure => simp [intOf]; omega
        · obtain rfl : j = 2 := by omega
          have HH := hide hhm; clear hhm
          have HO := hide hown; clear hown
          clear hbb hbn
          go_wp2
          go_roundw
          case rel => exact ⟨k + 1, by omega, by go_num, hb, HCF.out, HCG.out, by rw [HN.out]; exact HH.out, by rw [HN.out]; exact HO.out⟩
          case measure => simp [intOf]; omega
    · obtain ⟨A, c, rfl⟩ := ownB_form hown
      have hst := FS.out k hk (by omega)
      clear hhm hcf hcg hI hown
      rw [hst] at FB
      clear hst
      generalize F k = S at *
      have hcb := FB.out
      go_wp2
      go_ret
      exact ⟨rfl, hb⟩
end Go.Proofs.Ytmapjjfefjoemaa

namespace Go.Proofs.Ytmapjjfefjoemaa
open Go.RowKit

/-- a dessin of n darts, as the document has it -/
noncomputable def desB (n : Int) (f g : Nat → Nat) : Bool := permB f n && (permB g n && connB f g n.toNat)
/-- what is known of a dessin -/
structure DesN (f g : Nat → Nat) (m : Nat) : Prop where
  pos : 0 < m
  le : m ≤ 16
  black : PermN f m
  white : PermN g m
  conn : conn f g m
theorem DesN.bf {f g : Nat → Nat} {m : Nat} (h : DesN f g m) : Bij f m := h.black.2.2.1
theorem DesN.bg {f g : Nat → Nat} {m : Nat} (h : DesN f g m) : Bij g m := h.white.2.2.1
theorem desB_true {n : Int} {f g : Nat → Nat} (h : desB n f g = true) : ∃ m : Nat, n = (m : Int) ∧ DesN f g m := by
  unfold desB at h
  simp only [Bool.and_eq_true] at h
  obtain ⟨h1, h2, h3⟩ := h
  obtain ⟨m, rfl, hp⟩ := permB_true h1
  obtain ⟨m', e, hq⟩ := permB_true h2
  obtain rfl : m = m' := by omega
  rw [Int.toNat_natCast] at h3
  unfold connB at h3
  exact ⟨m, rfl, hp.1, hp.2.1, hp, hq, by simpa using h3⟩

set_option maxRecDepth 100000 in
set_option maxHeartbeats 1000000 in
theorem isDessin_any (n : Int) (f g : Nat → Nat) (hf : ∀ i, f i < 256) (hg : ∀ i, g i < 256) (w : World) :
    Calls Try.prog 51 #[.agg (dv n f g)] w fun e w' => e = .returned (.bool (desB n f g)) ∧ Below w.heap.size w w' := by
  have hn := dv_n n f g
  have C1 := hide fun w => isPerm_any f hf n w
  have C2 := hide fun w => isPerm_any g hg n w
  clear hf hg
  have hD : desB n f g = (permB f n && (permB g n && connB f g n.toNat)) := rfl
  rcases h1 : permB f n with _ | _
  · rw [h1] at C1 hD
    rw [Bool.false_and] at hD
    rw [hD]
    clear hD h1 C2
    go_enter Try.func51, Try.ntmps51
    go_wp2_with fail
    refine (C1.out _).mono ?_
    rintro e w1 ⟨rfl, hb⟩
    have b1 := (below1 w _).trans (hb.mono (by simp))
    clear hb
    go_wp2
    go_ret
    exact ⟨rfl, b1⟩
  · rcases h2 : permB g n with _ | _
    · rw [h1, h2] at hD
      rw [h1] at C1
      rw [h2] at C2
      rw [Bool.false_and, Bool.and_false] at hD
      rw [hD]
      clear hD h1 h2
      go_enter Try.func51, Try.ntmps51
      go_wp2_with fail
      refine (C1.out _).mono ?_
      rintro e w1 ⟨rfl, hb⟩
      have c1 : cellsOf w1 w.heap.size = dv n f g := (below_cells hb (by simp)).trans (cellsOf_heap (heap_at _ _ _ rfl))
      have n1 : w1.cell? ⟨w.heap.size, 0, none⟩ = some (.int .i64 n) := by rw [cell_of_cells, c1]; exact hn
      have b1 := (below1 w _).trans (hb.mono (by simp))
      clear hb
      go_wp2_with fail
      refine (C2.out _).mono ?_
      rintro e w2 ⟨rfl, hb⟩
      have b2 := b1.trans (hb.mono b1.size)
      clear hb b1 c1 n1
      go_wp2
      go_ret
      exact ⟨rfl, b2⟩
    · obtain ⟨m, rfl, hp⟩ := permB_true h1
      obtain ⟨m', e, hq⟩ := permB_true h2
      obtain rfl : m = m' := by omega
      rw [h1, h2, Bool.true_and, Bool.true_and, Int.toNat_natCast] at hD
      rw [h1] at C1
      rw [h2] at C2
      rw [hD]
      have C3 := hide fun w => isConn_any f g m hp.1 hp.2.1 hp.2.2.1.1 hq.2.2.1.1 w
      generalize connB f g m = B at *
      clear hD h1 h2 e hp hq
      go_enter Try.func51, Try.ntmps51
      go_wp2_with fail
      refine (C1.out _).mono ?_
      rintro e w1 ⟨rfl, hb⟩
      have c1 : cellsOf w1 w.heap.size = dv m f g := (below_cells hb (by simp)).trans (cellsOf_heap (heap_at _ _ _ rfl))
      have n1 : w1.cell? ⟨w.heap.size, 0, none⟩ = some (.int .i64 m) := by rw [cell_of_cells, c1]; exact hn
      have b1 := (below1 w _).trans (hb.mono (by simp))
      have l1 : w.heap.size < w1.heap.size := by have := hb.size; simp at this; omega
      clear hb
      go_wp2_with fail
      refine (C2.out _).mono ?_
      rintro e w2 ⟨rfl, hb⟩
      have c2 : cellsOf w2 w.heap.size = dv m f g := (below_cells hb l1).trans c1
      have b2 := b1.trans (hb.mono b1.size)
      clear hb b1 c1 n1 l1
      go_wp2_with fail
      refine (C3.out _).mono ?_
      rintro e w3 ⟨rfl, hb⟩
      have b3 := b2.trans (hb.mono b2.size)
      clear hb b2 c2
      go_wp2
      go_ret
      exact ⟨rfl, b3⟩

set_option maxRecDepth 100000 in
set_option maxHeartbeats 1000000 in
theorem sIs_any (n : Int) (f g : Nat → Nat) (hf : ∀ i, f i < 256) (hg : ∀ i, g i < 256) (w : World) :
    Calls Try.prog 57 #[.agg (dv n f g)] w fun e w' => e = .returned (.bool (desB n f g)) ∧ Below w.heap.size w w' := by
  have hn := dv_n n f g
  have C1 := hide fun w => sPerm_any f hf n w
  have C2 := hide fun w => sPerm_any g hg n w
  clear hf hg
  have hD : desB n f g = (permB f n && (permB g n && connB f g n.toNat)) := rfl
  rcases h1 : permB f n with _ | _
  · rw [h1] at C1 hD
    rw [Bool.false_and] at hD
    rw [hD]
    clear hD h1 C2
    go_enter Try.func57, Try.ntmps57
    go_wp2_with fail
    refine (C1.out _).mono ?_
    rintro e w1 ⟨rfl, hb⟩
    have b1 := (below1 w _).trans (hb.mono (by simp))
    clear hb
    go_wp2
    go_ret
    exact ⟨rfl, b1⟩
  · rcases h2 : permB g n with _ | _
    · rw [h1, h2] at hD
      rw [h1] at C1
      rw [h2] at C2
      rw [Bool.false_and, Bool.and_false] at hD
      rw [hD]
      clear hD h1 h2
      go_enter Try.func57, Try.ntmps57
      go_wp2_with fail
      refine (C1.out _).mono ?_
      rintro e w1 ⟨rfl, hb⟩
      have c1 : cellsOf w1 w.heap.size = dv n f g := (below_cells hb (by simp)).trans (cellsOf_heap (heap_at _ _ _ rfl))
      have n1 : w1.cell? ⟨w.heap.size, 0, none⟩ = some (.int .i64 n) := by rw [cell_of_cells, c1]; exact hn
      have b1 := (below1 w _).trans (hb.mono (by simp))
      clear hb
      go_wp2_with fail
      refine (C2.out _).mono ?_
      rintro e w2 ⟨rfl, hb⟩
      have b2 := b1.trans (hb.mono b1.size)
      clear hb b1 c1 n1
      go_wp2
      go_ret
      exact ⟨rfl, b2⟩
    · obtain ⟨m, rfl, hp⟩ := permB_true h1
      obtain ⟨m', e, hq⟩ := permB_true h2
      obtain rfl : m = m' := by omega
      rw [h1, h2, Bool.true_and, Bool.true_and, Int.toNat_natCast] at hD
      rw [h1] at C1
      rw [h2] at C2
      rw [hD]
      have C3 := hide fun w => sConn_any f g m hp.1 hp.2.1 hp.2.2.1.1 hq.2.2.1.1 w
      generalize connB f g m = B at *
      clear hD h1 h2 e hp hq
      go_enter Try.func57, Try.ntmps57
      go_wp2_with fail
      refine (C1.out _).mono ?_
      rintro e w1 ⟨rfl, hb⟩
      have c1 : cellsOf w1 w.heap.size = dv m f g := (below_cells hb (by simp)).trans (cellsOf_heap (heap_at _ _ _ rfl))
      have n1 : w1.cell? ⟨w.heap.size, 0, none⟩ = some (.int .i64 m) := by rw [cell_of_cells, c1]; exact hn
      have b1 := (below1 w _).trans (hb.mono (by simp))
      have l1 : w.heap.size < w1.heap.size := by have := hb.size; simp at this; omega
      clear hb
      go_wp2_with fail
      refine (C2.out _).mono ?_
      rintro e w2 ⟨rfl, hb⟩
      have c2 : cellsOf w2 w.heap.size = dv m f g := (below_cells hb l1).trans c1
      have n2 : w2.cell? ⟨w.heap.size, 0, none⟩ = some (.int .i64 m) := by rw [cell_of_cells, c2]; exact hn
      have b2 := b1.trans (hb.mono b1.size)
      clear hb b1 c1 n1 l1
      go_wp2_with fail
      refine (C3.out _).mono ?_
      rintro e w3 ⟨rfl, hb⟩
      have b3 := b2.trans (hb.mono b2.size)
      clear hb b2 c2 n2
      go_wp2
      go_ret
      exact ⟨rfl, b3⟩
end Go.Proofs.Ytmapjjfefjoemaa

namespace Go.Proofs.Ytmapjjfefjoemaa
open Go.RowKit

def volB (n m : Int) (a b : List Int) : Bool := decide (1 ≤ m ∧ m ≤ 16) && (lstB a n 0 (m - 1) && lstB b n 0 (m - 1))
theorem dart_any9 (n : Int) (w : World) : Calls Try.prog 88 #[.int .i64 n] w fun e w' => e = .returned (.bool (decide (1 ≤ n ∧ n ≤ 16))) ∧ w = w' := by
  by_cases h : 1 ≤ n ∧ n ≤ 16
  · rw [decide_eq_true h]; exact dart_yes n w h.1 h.2
  · rw [decide_eq_false h]; exact dart_no n w h

set_option maxRecDepth 100000 in
set_option maxHeartbeats 1000000 in
theorem areVoltages_any (n : Int) (f g : Nat → Nat) (m : Int) (va : Value) (a : List Int) (vb : Value) (b : List Int) (w : World) (ha : RdZ w va a) (hb : RdZ w vb b) :
    Calls Try.prog 52 #[.agg (dv n f g), .int .i64 m, va, vb] w fun e w' => e = .returned (.bool (volB n m a b)) ∧ Below w.heap.size w w' := by
  have hn := dv_n n f g
  have HH0 := (Holds.start w).blk (dv n f g) 31 w.heap.size rfl
  have HA := hide (ha.below HH0.low (Nat.le_refl _)); clear ha
  have HB := hide (hb.below HH0.low (Nat.le_refl _)); clear hb
  have CD := hide fun w => dart_any9 m w
  have CA := hide fun w hv => areNumbersIn_any va a n 0 (m - 1) w hv
  have CB := hide fun w hv => areNumbersIn_any vb b n 0 (m - 1) w hv
  have hV : volB n m a b = (decide (1 ≤ m ∧ m ≤ 16) && (lstB a n 0 (m - 1) && lstB b n 0 (m - 1))) := rfl
  rw [hV]
  clear hV
  by_cases hm : 1 ≤ m ∧ m ≤ 16
  · have wm : wrap64 (m - 1) = m - 1 := wr64 (by omega) (by omega)
    have wm2 : IntKind.i64.wrap (m - 1) = m - 1 := wr64k (by omega) (by omega)
    rw [decide_eq_true hm] at CD ⊢
    clear hm
    rw [Bool.true_and]
    rcases h1 : lstB a n 0 (m - 1) with _ | _
    · rw [h1] at CA
      rw [Bool.false_and]
      clear h1
      go_enter Try.func52, Try.ntmps52
      go_wp2_with fail
      refine (CD.out _).mono ?_
      rintro e w1 ⟨rfl, rfl⟩
      go_wp2_with fail
      refine (CA.out _ HA.out).mono ?_
      rintro e w1 ⟨rfl, rfl⟩
      go_wp2
      go_ret
      exact ⟨rfl, HH0.low⟩
    · rw [h1] at CA
      rw [Bool.true_and]
      clear h1
      generalize lstB b n 0 (m - 1) = r at *
      go_enter Try.func52, Try.ntmps52
      go_wp2_with fail
      refine (CD.out _).mono ?_
      rintro e w1 ⟨rfl, rfl⟩
      go_wp2_with fail
      refine (CA.out _ HA.out).mono ?_
      rintro e w1 ⟨rfl, rfl⟩
      go_wp2_with fail
      refine (CB.out _ HB.out).mono ?_
      rintro e w1 ⟨rfl, rfl⟩
      go_wp2
      go_ret
      exact ⟨rfl, HH0.low⟩
  · rw [decide_eq_false hm] at CD ⊢
    clear hm
    rw [Bool.false_and]
    go_enter Try.func52, Try.ntmps52
    go_wp2_with fail
    refine (CD.out _).mono ?_
    rintro e w1 ⟨rfl, rfl⟩
    go_wp2
    go_ret
    exact ⟨rfl, HH0.low⟩

open Classical in
noncomputable def vcd9 (n : Int) (f g : Nat → Nat) (m : Int) (a b : List Int) : Int := if desB n f g = true then (if volB n m a b = true then 0 else 2) else 1
set_option maxRecDepth 100000 in
set_option maxHeartbeats 1000000 in
theorem l09Code_any (n : Int) (f g : Nat → Nat) (hf : ∀ i, f i < 256) (hg : ∀ i, g i < 256) (m : Int) (va : Value) (a : List Int) (vb : Value) (b : List Int) (w : World) (ha : RdZ w va a) (hb : RdZ w vb b) :
    Calls Try.prog 48 #[.agg (dv n f g), .int .i64 m, va, vb] w fun e w' => e = .returned (.int .i64 (vcd9 n f g m a b)) ∧ Below w.heap.size w w' := by
  have C1 := hide fun w => sIs_any n f g hf hg w
  clear hf hg
  have hn := dv_n n f g
  have HH0 := (Holds.start w).blk (dv n f g) 31 w.heap.size rfl
  rcases h1 : desB n f g with _ | _
  · rw [h1] at C1
    rw [show vcd9 n f g m a b = 1 from if_neg (by simp [h1])]
    clear h1
    go_enter Try.func48, Try.ntmps48
    go_wp2_with fail
    refine (C1.out _).mono ?_
    rintro e w1 ⟨rfl, hb⟩
    have HH1 := HH0.call hb
    go_wp2
    go_ret
    exact ⟨rfl, HH1.low⟩
  rw [h1] at C1
  have hV : vcd9 n f g m a b = if volB n m a b = true then 0 else 2 := if_pos h1
  rw [hV]
  clear h1 hV
  have HA := hide ha; clear ha
  have HB := hide hb; clear hb
  have CD := hide fun w => in_any m 1 16 w
  have CA := hide fun w hv => l09List_any va a n 0 (m - 1) w hv
  have CB := hide fun w hv => l09List_any vb b n 0 (m - 1) w hv
  have hV : volB n m a b = (decide (1 ≤ m ∧ m ≤ 16) && (lstB a n 0 (m - 1) && lstB b n 0 (m - 1))) := rfl
  rw [hV]
  clear hV

  by_cases hm : 1 ≤ m ∧ m ≤ 16
  · have wm : wrap64 (m - 1) = m - 1 := wr64 (by omega) (by omega)
    have wm2 : IntKind.i64.wrap (m - 1) = m - 1 := wr64k (by omega) (by omega)
    rw [decide_eq_true hm] at CD ⊢
    clear hm
    rw [Bool.true_and]
    rcases h1 : lstB a n 0 (m - 1) with _ | _
    · rw [h1] at CA
      rw [Bool.false_and, if_neg (by decide)]
      clear h1
      go_enter Try.func48, Try.ntmps48
      go_wp2_with fail
      refine (C1.out _).mono ?_
      rintro e w1 ⟨rfl, hb⟩
      have HH1 := HH0.call hb
      have cn1 := HH1.cell 0 rfl hn
      have RA := hide (HA.out.below HH1.low (Nat.le_refl _))
      have RB := hide (HB.out.below HH1.low (Nat.le_refl _))
      clear hb HH0
      go_wp2_with fail
      refine (CD.out _).mono ?_
      rintro e w2 ⟨rfl, rfl⟩
      go_wp2_with fail
      refine (CA.out _ RA.out).mono ?_
      rintro e w2 ⟨rfl, rfl⟩
      go_wp2
      go_ret
      exact ⟨rfl, HH1.low⟩
    · rw [h1] at CA
      rw [Bool.true_and]
      clear h1
      rcases h2 : lstB b n 0 (m - 1) with _ | _
      · rw [h2] at CB
        rw [if_neg (by decide)]
        clear h2
        go_enter Try.func48, Try.ntmps48
        go_wp2_with fail
        refine (C1.out _).mono ?_
        rintro e w1 ⟨rfl, hb⟩
        have HH1 := HH0.call hb
        have cn1 := HH1.cell 0 rfl hn
        have RA := hide (HA.out.below HH1.low (Nat.le_refl _))
        have RB := hide (HB.out.below HH1.low (Nat.le_refl _))
        clear hb HH0
        go_wp2_with fail
        refine (CD.out _).mono ?_
        rintro e w2 ⟨rfl, rfl⟩
        go_wp2_with fail
        refine (CA.out _ RA.out).mono ?_
        rintro e w2 ⟨rfl, rfl⟩
        go_wp2_with fail
        refine (CB.out _ RB.out).mono ?_
        rintro e w2 ⟨rfl, rfl⟩
        go_wp2
        go_ret
        exact ⟨rfl, HH1.low⟩
      · rw [h2] at CB
        rw [if_pos rfl]
        clear h2
        go_enter Try.func48, Try.ntmps48
        go_wp2_with fail
        refine (C1.out _).mono ?_
        rintro e w1 ⟨rfl, hb⟩
        have HH1 := HH0.call hb
        have cn1 := HH1.cell 0 rfl hn
        have RA := hide (HA.out.below HH1.low (Nat.le_refl _))
        have RB := hide (HB.out.below HH1.low (Nat.le_refl _))
        clear hb HH0
        go_wp2_with fail
        refine (CD.out _).mono ?_
        rintro e w2 ⟨rfl, rfl⟩
        go_wp2_with fail
        refine (CA.out _ RA.out).mono ?_
        rintro e w2 ⟨rfl, rfl⟩
        go_wp2_with fail
        refine (CB.out _ RB.out).mono ?_
        rintro e w2 ⟨rfl, rfl⟩
        go_wp2
        go_ret
        exact ⟨rfl, HH1.low⟩
  · rw [decide_eq_false hm] at CD ⊢
    clear hm
    rw [Bool.false_and, if_neg (by decide)]
    go_enter Try.func48, Try.ntmps48
    go_wp2_with fail
    refine (C1.out _).mono ?_
    rintro e w1 ⟨rfl, hb⟩
    have HH1 := HH0.call hb
    have cn1 := HH1.cell 0 rfl hn
    have RA := hide (HA.out.below HH1.low (Nat.le_refl _))
    have RB := hide (HB.out.below HH1.low (Nat.le_refl _))
    clear hb HH0
    go_wp2_with fail
    refine (CD.out _).mono ?_
    rintro e w2 ⟨rfl, rfl⟩
    go_wp2
    go_ret
    exact ⟨rfl, HH1.low⟩
theorem volB_true {n m : Int} {a b : List Int} (h : volB n m a b = true) : (1 ≤ m ∧ m ≤ 16) ∧ (a.length : Int) = n ∧ (b.length : Int) = n ∧ (∀ x ∈ a, 0 ≤ x ∧ x ≤ m - 1) ∧ ∀ x ∈ b, 0 ≤ x ∧ x ≤ m - 1 := by
  unfold volB at h
  simp only [Bool.and_eq_true, decide_eq_true_eq] at h
  obtain ⟨h1, h2, h3⟩ := h
  have a1 := lstB_true h2
  have b1 := lstB_true h3
  exact ⟨h1, a1.1, b1.1, a1.2, b1.2⟩
end Go.Proofs.Ytmapjjfefjoemaa

namespace Go.Proofs.Ytmapjjfefjoemaa
open Go.RowKit

theorem foldset (off : Nat) : ∀ (l : List Value) (k : Nat) (cs : Array Value) (i : Nat),
    ((l.zipIdx k).foldl (fun cs (p : Value × Nat) => cs.setIfInBounds (off + p.2) p.1) cs)[i]? = if off + k ≤ i ∧ i < off + k + l.length ∧ i < cs.size then l[i - (off + k)]? else cs[i]? := by
  intro l
  induction l with
  | nil => intro k cs i; simp; omega
  | cons x l ih =>
    intro k cs i
    rw [List.zipIdx_cons, List.foldl_cons, ih]
    simp only [Array.size_setIfInBounds, List.length_cons, Array.getElem?_setIfInBounds]
    by_cases h : off + k = i
    · subst h
      rw [if_neg (by omega), if_pos rfl]
      by_cases h2 : off + k < cs.size
      · rw [if_pos h2, if_pos ⟨by omega, by omega, h2⟩]; simp
      · rw [if_neg h2, if_neg (by omega), Array.getElem?_eq_none (by omega)]
    · rw [if_neg h]
      by_cases h2 : off + k ≤ i ∧ i < off + k + (l.length + 1) ∧ i < cs.size
      · rw [if_pos h2, if_pos (by omega), show i - (off + k) = (i - (off + (k + 1))) + 1 from by omega, List.getElem?_cons_succ]
      · rw [if_neg h2, if_neg (by omega)]

theorem splice_eq (off : Nat) (cs c : Array Value) : Array.foldl (fun cs (x : Value × Nat) => cs.setIfInBounds (off + x.snd) x.fst) cs c.zipIdx = (c.toList.zipIdx 0).foldl (fun cs (p : Value × Nat) => cs.setIfInBounds (off + p.2) p.1) cs := by
  rw [← Array.foldl_toList, Array.toList_zipIdx]
theorem splice_size (off : Nat) : ∀ (l : List Value) (k : Nat) (cs : Array Value), ((l.zipIdx k).foldl (fun cs (p : Value × Nat) => cs.setIfInBounds (off + p.2) p.1) cs).size = cs.size := by
  intro l
  induction l with
  | nil => intro k cs; rfl
  | cons x l ih => intro k cs; rw [List.zipIdx_cons, List.foldl_cons, ih, Array.size_setIfInBounds]

set_option maxRecDepth 100000 in
theorem builtD (n : Int) (f g : Nat → Nat) : Try.prog.built 31 [(0, .int .i64 n), (1, .agg (av f)), (2, .agg (av g))] = some (dv n f g) := by
  have hu : Try.prog.underlying 31 = some (.struct _) := Try.underlying31
  have hz : (Try.prog.info? 31).map (·.zero) = some (some (.agg (dv 0 (fun _ => 0) (fun _ => 0)))) := by rw [dv_zero]; kernel_rfl
  unfold Program.built
  rcases hi : Try.prog.info? 31 with _ | it
  · rw [hi] at hz; cases hz
  · rw [hi] at hz
    have hz' : it.zero = some (.agg (dv 0 (fun _ => 0) (fun _ => 0))) := by simpa using hz
    rw [hu]
    simp only [hz']
    generalize he : List.mapM (fun (f : Field) => Option.map (fun i => (f.offset, i.size)) (Try.prog.info? f.type)) _ = z
    have hz2 : z = some [(0, 1), (1, 16), (17, 16)] := he.symm.trans (by kernel_rfl)
    subst hz2
    simp only [Instr.fill, Value.cells, List.getElem?_toArray, List.getElem?_cons_zero, List.getElem?_cons_succ, av_size, splice_eq, splice_size, dv_size]
    rw [if_neg (by simp), if_neg (by simp), if_neg (by simp)]
    congr 1
    apply Array.ext_getElem?
    intro i
    have l1 : (av f).toList.length = 16 := by simpa using av_size f
    have l2 : (av g).toList.length = 16 := by simpa using av_size g
    rw [foldset, foldset, foldset, get_cases, get_cases, splice_size, splice_size, dv_size, l1, l2, Array.getElem?_toList, Array.getElem?_toList, av_cases, av_cases]
    simp only [List.length_cons, List.length_nil, Nat.zero_add, Nat.add_zero, Nat.sub_zero]
    by_cases h0 : i = 0
    · subst h0; simp
    · by_cases h1 : i < 17
      · rw [if_neg (by omega), if_pos (by omega), if_pos (by omega), if_pos (by omega), if_neg h0, if_pos h1]
      · by_cases h2 : i < 33
        · rw [if_pos (by omega), if_pos (by omega), if_pos h2, if_neg h0, if_neg h1]
        · rw [if_neg (by omega), if_neg (by omega), if_neg (by omega), if_neg h2, if_neg h2]
theorem builtD0 : Try.prog.built 31 [] = some (dv 0 (fun _ => 0) (fun _ => 0)) := by rw [dv_zero]; kernel_rfl

/-- what the operation 'build a dessin' does -/
def buildD (ps : Array (Nat × Value)) : Sem Next := do pure (.value (← Instr.build 31 ps))
@[go_sem ↓] theorem exec_buildD (ρ : Operand → Value) (dst : Option Tmp) (parts : Array (Nat × Operand)) (ty : TypeId) (pos : String) (after : Array Edge) (guard : Option (Nat × Bool)) :
    execOp ρ { dst, op := .build 31 parts, type := ty, pos, after, guard } = buildD (parts.map fun (i, x) => (i, ρ x)) := rfl
@[go_sem] theorem run_buildD (n : Int) (f g : Nat → Nat) (w : World) : (buildD #[(0, .int .i64 n), (1, .agg (av f)), (2, .agg (av g))]).run Try.prog w = .ok (.value (.agg (dv n f g))) w := by
  simp only [buildD, Sem.run_bind, run_build (P := Try.prog) w 31 #[(0, .int .i64 n), (1, .agg (av f)), (2, .agg (av g))] _ (builtD n f g), Result.andThen_ok, Sem.run_pure]
@[go_sem] theorem run_buildD0 (w : World) : (buildD #[]).run Try.prog w = .ok (.value (.agg (dv 0 (fun _ => 0) (fun _ => 0)))) w := by
  simp only [buildD, Sem.run_bind, run_build (P := Try.prog) w 31 #[] _ builtD0, Result.andThen_ok, Sem.run_pure]
set_option maxRecDepth 100000 in
theorem builtD1 (n : Int) : Try.prog.built 31 [(0, .int .i64 n)] = some (dv n (fun _ => 0) (fun _ => 0)) := by
  have hu : Try.prog.underlying 31 = some (.struct _) := Try.underlying31
  have hz : (Try.prog.info? 31).map (·.zero) = some (some (.agg (dv 0 (fun _ => 0) (fun _ => 0)))) := by rw [dv_zero]; kernel_rfl
  unfold Program.built
  rcases hi : Try.prog.info? 31 with _ | it
  · rw [hi] at hz; cases hz
  · rw [hi] at hz
    have hz' : it.zero = some (.agg (dv 0 (fun _ => 0) (fun _ => 0))) := by simpa using hz
    rw [hu]
    simp only [hz']
    generalize he : List.mapM (fun (f : Field) => Option.map (fun i => (f.offset, i.size)) (Try.prog.info? f.type)) _ = z
    have hz2 : z = some [(0, 1), (1, 16), (17, 16)] := he.symm.trans (by kernel_rfl)
    subst hz2
    simp only [Instr.fill, Value.cells, List.getElem?_toArray, List.getElem?_cons_zero, splice_eq, dv_size]
    rw [if_neg (by simp)]
    congr 1
    apply Array.ext_getElem?
    intro i
    rw [foldset, get_cases, get_cases, dv_size]
    by_cases h0 : i = 0
    · subst h0; simp
    · rw [if_neg (by simp; omega)]
      by_cases h2 : i < 33
      · rw [if_pos h2, if_pos h2, if_neg h0, if_neg h0]
      · rw [if_neg h2, if_neg h2]
@[go_sem] theorem run_buildD1 (n : Int) (w : World) : (buildD #[(0, .int .i64 n)]).run Try.prog w = .ok (.value (.agg (dv n (fun _ => 0) (fun _ => 0)))) w := by
  simp only [buildD, Sem.run_bind, run_build (P := Try.prog) w 31 #[(0, .int .i64 n)] _ (builtD1 n), Result.andThen_ok, Sem.run_pure]
end Go.Proofs.Ytmapjjfefjoemaa

namespace Go.Proofs.Ytmapjjfefjoemaa
open Go.RowKit

def flatC (ps : List (Nat × Value)) : List Value := ps.flatMap fun x => x.2.cells.toList
def Fits (place : Nat → Option (Nat × Nat)) : Nat → List (Nat × Value) → Prop
  | _, [] => True
  | off, (i, v) :: r => place i = some (off, v.cells.size) ∧ Fits place (off + v.cells.size) r
theorem fill_seq (place : Nat → Option (Nat × Nat)) : ∀ (ps : List (Nat × Value)) (done junk : List Value), Fits place done.length ps → (flatC ps).length ≤ junk.length →
    Instr.fill place (done ++ junk).toArray ps = some (done ++ flatC ps ++ junk.drop (flatC ps).length).toArray := by
  intro ps
  induction ps with
  | nil => intro done junk _ _; simp [Instr.fill, flatC]
  | cons p ps ih =>
    obtain ⟨i, v⟩ := p
    intro done junk hf hl
    have e : flatC ((i, v) :: ps) = v.cells.toList ++ flatC ps := rfl
    have lv : v.cells.toList.length = v.cells.size := Array.length_toList
    rw [e, List.length_append, lv] at hl
    have hst : (v.cells.toList.zipIdx 0).foldl (fun cs (p : Value × Nat) => cs.setIfInBounds (done.length + p.2) p.1) (done ++ junk).toArray = ((done ++ v.cells.toList) ++ junk.drop v.cells.size).toArray := by
      apply Array.ext_getElem?
      intro k
      rw [foldset, List.getElem?_toArray, List.getElem?_toArray]
      simp only [Nat.add_zero, lv, List.size_toArray, List.length_append]
      by_cases h1 : k < done.length
      · rw [if_neg (by omega), List.append_assoc, List.getElem?_append_left h1, List.getElem?_append_left h1]
      · by_cases h2 : k < done.length + v.cells.size
        · rw [if_pos (by omega), List.append_assoc, List.getElem?_append_right (by omega), List.getElem?_append_left (by rw [lv]; omega)]
        · rw [if_neg (by omega), List.getElem?_append_right (by omega), List.append_assoc, List.getElem?_append_right (by omega), List.getElem?_append_right (by rw [lv]; omega), List.getElem?_drop, lv]
          congr 1; omega
    have ih' := ih (done ++ v.cells.toList) (junk.drop v.cells.size) (by rw [List.length_append, lv]; exact hf.2) (by rw [List.length_drop]; omega)
    rw [e, Instr.fill, hf.1]
    simp only [splice_eq]
    rw [if_neg (by simp; omega), hst, ih']
    congr 2
    rw [List.length_append, lv, List.drop_drop]
    simp only [List.append_assoc]
section
variable {P : Program}
theorem built_arr {T E n s N : Nat} (hu : P.underlying T = some (.array n E)) (hz : (P.info? T).map (fun i => i.zero.map (fun z => z.cells.size)) = some (some N)) (hs : (P.info? E).map (·.size) = some s) (ps : List (Nat × Value))
    (hf : Fits (fun i => some (i * s, s)) 0 ps) (hN : (flatC ps).length = N) : P.built T ps = some (flatC ps).toArray := by
  unfold Program.built
  rcases hi : P.info? T with _ | it
  · rw [hi] at hz; cases hz
  rcases hj : P.info? E with _ | ie
  · rw [hj] at hs; cases hs
  rw [hi] at hz
  rw [hj] at hs
  rcases hz0 : it.zero with _ | z
  · simp [hz0] at hz
  have hs' : ie.size = s := by simpa using hs
  have hz' : z.cells.size = N := by simpa [hz0] using hz
  rw [hu]
  simp only [hz0, hj, hs']
  have lz : z.cells.toList.length = z.cells.size := Array.length_toList
  have h := fill_seq (fun i => some (i * s, s)) ps [] z.cells.toList hf (by rw [lz]; omega)
  rw [List.nil_append, Array.toArray_toList] at h
  rw [h, List.drop_eq_nil_of_le (by rw [lz]; omega)]
  simp
theorem built_str {T N : Nat} {fs : Array Field} {pl : List (Nat × Nat)} (hu : P.underlying T = some (.struct fs)) (hz : (P.info? T).map (fun i => i.zero.map (fun z => z.cells.size)) = some (some N))
    (hp : fs.toList.mapM (fun f => (P.info? f.type).map fun i => (f.offset, i.size)) = some pl) (ps : List (Nat × Value)) (hf : Fits (fun i => pl.toArray[i]?) 0 ps) (hN : (flatC ps).length = N) : P.built T ps = some (flatC ps).toArray := by
  unfold Program.built
  rcases hi : P.info? T with _ | it
  · rw [hi] at hz; cases hz
  rw [hi] at hz
  rcases hz0 : it.zero with _ | z
  · simp [hz0] at hz
  have hz' : z.cells.size = N := by simpa [hz0] using hz
  rw [hu]
  simp only [hz0, hp]
  have lz : z.cells.toList.length = z.cells.size := Array.length_toList
  have h := fill_seq (fun i => pl.toArray[i]?) ps [] z.cells.toList hf (by rw [lz]; omega)
  rw [List.nil_append, Array.toArray_toList] at h
  rw [h, List.drop_eq_nil_of_le (by rw [lz]; omega)]
  simp
/-- a slice of n entries -/
theorem run_buildSl {T E s n : Nat} (hu : P.underlying T = some (.slice E)) (hz : (P.info? E).map (fun i => i.zero.isSome) = some true) (hs : (P.info? E).map (·.size) = some s) (ps : Array (Nat × Value))
    (hf : Fits (fun i => some (i * s, s)) 0 ps.toList) (hN : (flatC ps.toList).length = n * s) (h0 : 0 < n * s) (hm : n * s ≤ 2 ^ 24) (w : World) :
    (Instr.buildSlice T n ps).run P w = .ok (.slice (some ⟨w.heap.size, 0, none⟩) n n) (w.alloc (.cells (flatC ps.toList).toArray E)) := by
  rcases hj : P.info? E with _ | ie
  · rw [hj] at hs; cases hs
  rw [hj] at hs hz
  have hs' : ie.size = s := by simpa using hs
  rcases hz0 : ie.zero with _ | z
  · simp [hz0] at hz
  have hfl : ∀ zc : Array Value, Instr.fill (fun i => some (i * s, s)) ((Array.range (n * s)).map (zc[· % zc.size]!)) ps.toList = some (flatC ps.toList).toArray := fun zc => by
    have lz : ((Array.range (n * s)).map (zc[· % zc.size]!)).toList.length = n * s := by simp
    have h := fill_seq (fun i => some (i * s, s)) ps.toList [] ((Array.range (n * s)).map (zc[· % zc.size]!)).toList hf (by rw [lz]; omega)
    rw [List.nil_append, Array.toArray_toList] at h
    rw [h, List.drop_eq_nil_of_le (by rw [lz]; omega)]
    simp
  have hne : ¬ n * s = 0 := by omega
  have hle : ¬ n * s > 2 ^ 24 := by omega
  simp only [Instr.buildSlice, run_underlying hu, sizeOf, typeInfo, hj, hs', zeroValue, hz0, Sem.run_bind, Sem.run_pure, Result.andThen_ok, run_program, hne, hle, if_false, hfl]
  simp [newRow, Sem.run_bind]
end
end Go.Proofs.Ytmapjjfefjoemaa

namespace Go.Proofs.Ytmapjjfefjoemaa
open Go.RowKit

@[irreducible] def nv9 (f : Nat → Nat) : Array Value := row 32 fun i => .int .i64 (f i)
theorem nv9_size (f : Nat → Nat) : (nv9 f).size = 32 := by unfold nv9; exact row_size _ _
theorem nv9_get (f : Nat → Nat) {i : Nat} (h : i < 32) : (nv9 f)[i]? = some (.int .i64 (f i)) := by unfold nv9; exact row_get _ _ h
theorem nv9_set (f : Nat → Nat) (i v : Nat) : (nv9 f).setIfInBounds i (.int .i64 v) = nv9 (fset f i v) := by
  unfold nv9
  rw [row_set]
  apply row_congr
  intro j _
  unfold fset
  by_cases c : j = i
  · rw [if_pos c, if_pos c]
  · rw [if_neg c, if_neg c]
theorem nv9_congr {f g : Nat → Nat} (h : ∀ i, i < 32 → f i = g i) : nv9 f = nv9 g := by
  unfold nv9; exact row_congr fun i hi => by rw [h i hi]
theorem nv9_cells (f : Nat → Nat) : (nv9 f).all (·.oneCell') = true := by unfold nv9 row; simp [Value.oneCell']
theorem nv9_zero : nv9 (fun _ => 0) = #[.int .i64 0, .int .i64 0, .int .i64 0, .int .i64 0, .int .i64 0, .int .i64 0, .int .i64 0, .int .i64 0, .int .i64 0, .int .i64 0, .int .i64 0, .int .i64 0, .int .i64 0, .int .i64 0, .int .i64 0, .int .i64 0, .int .i64 0, .int .i64 0, .int .i64 0, .int .i64 0, .int .i64 0, .int .i64 0, .int .i64 0, .int .i64 0, .int .i64 0, .int .i64 0, .int .i64 0, .int .i64 0, .int .i64 0, .int .i64 0, .int .i64 0, .int .i64 0] := by unfold nv9 row; rfl
def I32n (c : Array Value) : Prop := c.size = 32
@[go_sem] theorem i32n_nv9 (f : Nat → Nat) : I32n (nv9 f) ↔ True := ⟨fun _ => trivial, fun _ => nv9_size f⟩
@[go_sem] theorem i32n_lit (x0 x1 x2 x3 x4 x5 x6 x7 x8 x9 x10 x11 x12 x13 x14 x15 x16 x17 x18 x19 x20 x21 x22 x23 x24 x25 x26 x27 x28 x29 x30 x31 : Value) : I32n #[x0, x1, x2, x3, x4, x5, x6, x7, x8, x9, x10, x11, x12, x13, x14, x15, x16, x17, x18, x19, x20, x21, x22, x23, x24, x25, x26, x27, x28, x29, x30, x31] ↔ True := ⟨fun _ => trivial, fun _ => rfl⟩
@[go_sem] theorem ones_nv9 (f : Nat → Nat) : Ones (nv9 f) ↔ True := ⟨fun _ => trivial, fun _ => nv9_cells f⟩
@[go_sem] theorem rowOk_at32n {w : World} {g : Nat} {c : Array Value} {t : TypeId} (h : g = w.heap.size) (hc : I32n c) : rowOk (w.alloc (.cells c t)) g 32 ↔ True := ⟨fun _ => trivial, fun _ => ⟨c, t, heap_at _ _ _ h, hc⟩⟩
@[go_sem] theorem rowOk_same32n {w : World} {g : Nat} {c' : Array Value} (h : rowOk w g 32) (hc : I32n c') : rowOk (w.setRow g c') g 32 ↔ True := ⟨fun _ => trivial, fun _ => rowOk_setRow h hc⟩
theorem aggL9 : AggT 118 32 := ⟨⟨_, Try.underlying118, rfl⟩, by kernel_rfl⟩
theorem aggN9 : AggT 122 32 := ⟨⟨_, Try.underlying122, rfl⟩, by kernel_rfl⟩
section
variable {ρ : Operand → Value} {dst : Option Tmp} {x y : Operand} {ty : TypeId} {pos : String} {after : Array Edge} {guard : Option (Nat × Bool)} {w : World} {g : Nat} {cs : Array Value}
@[go_sem ↓] theorem exec_loadL9 : execOp ρ { dst, op := .load 118 x, type := ty, pos, after, guard } = loadT 118 (ρ x) := rfl
@[go_sem ↓] theorem exec_storeL9 : execOp ρ { dst, op := .store 118 x y, type := ty, pos, after, guard } = storeT 118 (ρ x) (ρ y) := rfl
@[go_sem ↓] theorem exec_loadN9 : execOp ρ { dst, op := .load 122 x, type := ty, pos, after, guard } = loadT 122 (ρ x) := rfl
@[go_sem ↓] theorem exec_storeN9 : execOp ρ { dst, op := .store 122 x y, type := ty, pos, after, guard } = storeT 122 (ρ x) (ρ y) := rfl
@[go_sem] theorem run_loadL9 (h : I32n (cellsOf w g)) : (loadT 118 (.pointer (some ⟨g, 0, none⟩))).run Try.prog w = .ok (.value (.agg (cellsOf w g))) w := run_loadT aggL9 h (by decide)
@[go_sem] theorem run_storeL9 (h : rowOk w g 32) (hs : I32n cs) (hc : Ones cs) : (storeT 118 (.pointer (some ⟨g, 0, none⟩)) (.agg cs)).run Try.prog w = .ok .skip (w.setRow g cs) := run_storeT aggL9 h hs hc
@[go_sem] theorem run_loadN9 (h : I32n (cellsOf w g)) : (loadT 122 (.pointer (some ⟨g, 0, none⟩))).run Try.prog w = .ok (.value (.agg (cellsOf w g))) w := run_loadT aggN9 h (by decide)
@[go_sem] theorem run_storeN9 (h : rowOk w g 32) (hs : I32n cs) (hc : Ones cs) : (storeT 122 (.pointer (some ⟨g, 0, none⟩)) (.agg cs)).run Try.prog w = .ok .skip (w.setRow g cs) := run_storeT aggN9 h hs hc
end
/-- an entry of thirty-two numbers by value -/
def idxN9 (v i : Value) : Sem Next := do pure (.value (← Instr.index 122 v i))
@[go_sem ↓] theorem exec_idxN9 (ρ : Operand → Value) (dst : Option Tmp) (x y : Operand) (ty : TypeId) (pos : String) (after : Array Edge) (guard : Option (Nat × Bool)) :
    execOp ρ { dst, op := .index 122 x y, type := ty, pos, after, guard } = idxN9 (ρ x) (ρ y) := rfl
theorem infoI9 : (Try.prog.info? 2).map (·.size) = some 1 := by kernel_rfl
theorem run_idxN9' (f : Nat → Nat) {k : Nat} (hk : k < 32) (w : World) : (Instr.index 122 (.agg (nv9 f)) (.int .i64 k)).run Try.prog w = .ok (.int .i64 (f k)) w := by
  have hn := infoI9
  have hz : Try.prog.cellsOf 2 = 1 := by kernel_rfl
  rcases hi : Try.prog.info? 2 with _ | it
  · rw [hi] at hn; cases hn
  · have hb : (0 : Int) ≤ (k : Int) ∧ (k : Int) < ((32 : Nat) : Int) := by omega
    have ha : (isAgg 2).run Try.prog w = .ok false w := by simp [isAgg, run_underlying Try.underlying2]
    have hz' : (sizeOf 2).run Try.prog w = .ok 1 w := by rw [run_sizeOf w hi, hz]
    simp only [Instr.index, asIntOf, run_underlying Try.underlying122, Sem.run_bind, Sem.run_pure, Result.andThen_ok]
    rw [if_pos hb]
    simp only [part, Sem.run_bind, hz', ha, Result.andThen_ok, Sem.run_pure, Int.toNat_natCast, Nat.mul_one]
    simp [nv9_get f hk]
@[go_sem] theorem run_idxN9 (f : Nat → Nat) {k : Nat} (hk : k < 32) (w : World) : (idxN9 (.agg (nv9 f)) (.int .i64 k)).run Try.prog w = .ok (.value (.int .i64 (f k))) w := by
  simp only [idxN9, Sem.run_bind, run_idxN9' f hk w, Result.andThen_ok, Sem.run_pure]
theorem snocInd9 {α : Type} {P : List α → Prop} (h0 : P []) (hs : ∀ l x, P l → P (l ++ [x])) (l : List α) : P l := by
  have : ∀ k : List α, P k.reverse := by
    intro k
    induction k with
    | nil => exact h0
    | cons x k ih => rw [List.reverse_cons]; exact hs _ _ ih
  have h := this l.reverse
  rwa [List.reverse_reverse] at h
/-- two numbers for each edge -/
def lk9 (e0 e1 : Nat → Nat) : Nat → Nat := fun i => if i % 2 = 0 then e0 (i / 2) else e1 (i / 2)
theorem lk9_0 (e0 e1 : Nat → Nat) (x : Nat) : lk9 e0 e1 (x * 2) = e0 x := by unfold lk9; rw [if_pos (by omega), show x * 2 / 2 = x by omega]
theorem lk9_1 (e0 e1 : Nat → Nat) (x : Nat) : lk9 e0 e1 (x * 2 + 1) = e1 x := by unfold lk9; rw [if_neg (by omega), show (x * 2 + 1) / 2 = x by omega]
/-- the pieces behind an edge more -/
def pst9 (e0 e1 : Nat → Nat) (h : Nat → Nat) (x : Nat) : Nat → Nat := fun p => if h p = h (e1 x) then h (e0 x) else h p
def pcs9 (e0 e1 : Nat → Nat) (l : List Nat) : Nat → Nat := l.foldl (pst9 e0 e1) id
theorem pcs9_snoc (e0 e1 : Nat → Nat) (l : List Nat) (x : Nat) : pcs9 e0 e1 (l ++ [x]) = pst9 e0 e1 (pcs9 e0 e1 l) x := by unfold pcs9; rw [List.foldl_append]; rfl
theorem pst9_same {e0 e1 : Nat → Nat} {h : Nat → Nat} {x : Nat} (he : h (e0 x) = h (e1 x)) : pst9 e0 e1 h x = h := by
  funext p; unfold pst9; split
  · rename_i hp; rw [hp, he]
  · rfl
theorem pcs9_lt {e0 e1 : Nat → Nat} (l : List Nat) (hl : ∀ x ∈ l, e0 x < 32 ∧ e1 x < 32) : ∀ p, p < 32 → pcs9 e0 e1 l p < 32 := by
  induction l using snocInd9 with
  | h0 => exact fun p h => h
  | hs l x ih =>
    intro p hp
    have ih' := ih fun y hy => hl y (List.mem_append_left _ hy)
    rw [pcs9_snoc]; unfold pst9
    split
    · exact ih' _ (hl x (by simp)).1
    · exact ih' _ hp
/-- the edges that connect two pieces of those before, and the other ones -/
def spst9 (e0 e1 : Nat → Nat) (s : List Nat × List Nat) (x : Nat) : List Nat × List Nat :=
  if pcs9 e0 e1 s.1 (e0 x) = pcs9 e0 e1 s.1 (e1 x) then (s.1, s.2 ++ [x]) else (s.1 ++ [x], s.2)
def spl9 (e0 e1 : Nat → Nat) (l : List Nat) : List Nat × List Nat := l.foldl (spst9 e0 e1) ([], [])
theorem spl9_snoc (e0 e1 : Nat → Nat) (l : List Nat) (x : Nat) : spl9 e0 e1 (l ++ [x]) = spst9 e0 e1 (spl9 e0 e1 l) x := by unfold spl9; rw [List.foldl_append]; rfl
theorem spl9_take (e0 e1 : Nat → Nat) (l : List Nat) {i : Nat} (h : i < l.length) : spl9 e0 e1 (l.take (i + 1)) = spst9 e0 e1 (spl9 e0 e1 (l.take i)) l[i] := by
  rw [List.take_succ_eq_append_getElem h, spl9_snoc]
theorem spl9_mem (e0 e1 : Nat → Nat) (l : List Nat) : ∀ x, x ∈ l ↔ x ∈ (spl9 e0 e1 l).1 ∨ x ∈ (spl9 e0 e1 l).2 := by
  induction l using snocInd9 with
  | h0 => intro x; simp [spl9]
  | hs l y ih =>
    intro x
    rw [spl9_snoc]; unfold spst9
    split
    · simp [ih x, or_assoc]
    · simp [ih x]
      constructor
      · rintro ((h | h) | h)
        · exact .inl (.inl h)
        · exact .inr h
        · exact .inl (.inr h)
      · rintro ((h | h) | h)
        · exact .inl (.inl h)
        · exact .inr h
        · exact .inl (.inr h)
theorem spl9_len (e0 e1 : Nat → Nat) (l : List Nat) : (spl9 e0 e1 l).1.length + (spl9 e0 e1 l).2.length = l.length := by
  induction l using snocInd9 with
  | h0 => rfl
  | hs l y ih =>
    rw [spl9_snoc]; unfold spst9
    split <;> simp <;> omega
/-- the pieces of all edges are those of the ones that connect -/
theorem spl9_pcs (e0 e1 : Nat → Nat) (l : List Nat) : pcs9 e0 e1 l = pcs9 e0 e1 (spl9 e0 e1 l).1 := by
  induction l using snocInd9 with
  | h0 => rfl
  | hs l y ih =>
    rw [spl9_snoc, pcs9_snoc, ih]; unfold spst9
    split
    · rename_i h; exact pst9_same h
    · exact (pcs9_snoc _ _ _ _).symm
end Go.Proofs.Ytmapjjfefjoemaa

namespace Go.Proofs.Ytmapjjfefjoemaa
open Go.RowKit

section
variable {e0 e1 : Nat → Nat}
/-- connected by some edges -/
def K9 (e0 e1 : Nat → Nat) (L : List Nat) (p q : Nat) : Prop := pcs9 e0 e1 L p = pcs9 e0 e1 L q
theorem K9.refl (L : List Nat) (p : Nat) : K9 e0 e1 L p p := rfl
theorem K9.symm {L : List Nat} {p q : Nat} (h : K9 e0 e1 L p q) : K9 e0 e1 L q p := Eq.symm h
theorem K9.trans {L : List Nat} {p q r : Nat} (h : K9 e0 e1 L p q) (k : K9 e0 e1 L q r) : K9 e0 e1 L p r := Eq.trans h k
theorem K9_snoc {L : List Nat} {b p q : Nat} : K9 e0 e1 (L ++ [b]) p q ↔ K9 e0 e1 L p q ∨ (K9 e0 e1 L p (e0 b) ∧ K9 e0 e1 L q (e1 b)) ∨ (K9 e0 e1 L p (e1 b) ∧ K9 e0 e1 L q (e0 b)) := by
  unfold K9
  rw [pcs9_snoc]
  unfold pst9
  generalize pcs9 e0 e1 L = h
  by_cases hp : h p = h (e1 b) <;> by_cases hq : h q = h (e1 b) <;> simp only [hp, hq, if_true, if_false] <;> grind
theorem K9_edge {L : List Nat} {x : Nat} (h : x ∈ L) : K9 e0 e1 L (e0 x) (e1 x) := by
  induction L using snocInd9 with
  | h0 => cases h
  | hs l b ih =>
    rw [K9_snoc]
    rcases List.mem_append.1 h with h | h
    · exact .inl (ih h)
    · obtain rfl : x = b := by simpa using h
      exact .inr (.inl ⟨K9.refl _ _, K9.refl _ _⟩)
theorem K9_least {L : List Nat} {R : Nat → Nat → Prop} (r : ∀ p, R p p) (s : ∀ {p q}, R p q → R q p) (t : ∀ {p q u}, R p q → R q u → R p u) (h : ∀ x ∈ L, R (e0 x) (e1 x)) {p q : Nat} (k : K9 e0 e1 L p q) : R p q := by
  induction L using snocInd9 generalizing p q with
  | h0 => have e : p = q := k; rw [e]; exact r _
  | hs l b ih =>
    have ih' := fun {p q} => ih (fun x hx => h x (List.mem_append_left _ hx)) (p := p) (q := q)
    have hb := h b (by simp)
    rcases K9_snoc.1 k with k | ⟨k1, k2⟩ | ⟨k1, k2⟩
    · exact ih' k
    · exact t (ih' k1) (t hb (s (ih' k2)))
    · exact t (ih' k1) (t (s hb) (s (ih' k2)))
theorem K9_mono {L L' : List Nat} (h : ∀ x ∈ L, x ∈ L') {p q : Nat} (k : K9 e0 e1 L p q) : K9 e0 e1 L' p q :=
  K9_least (fun _ => K9.refl _ _) K9.symm K9.trans (fun x hx => K9_edge (h x hx)) k
/-- each edge connects two pieces of those before -/
def Frst9 (e0 e1 : Nat → Nat) (L : List Nat) : Prop := ∀ A b, (∃ B, L = A ++ b :: B) → ¬ K9 e0 e1 A (e0 b) (e1 b)
theorem Frst9.init {L : List Nat} {b : Nat} (h : Frst9 e0 e1 (L ++ [b])) : Frst9 e0 e1 L := fun A x ⟨B, e⟩ => h A x ⟨B ++ [b], by rw [e]; simp⟩
theorem Frst9.last {L : List Nat} {b : Nat} (h : Frst9 e0 e1 (L ++ [b])) : ¬ K9 e0 e1 L (e0 b) (e1 b) := h L b ⟨[], rfl⟩
theorem Frst9.snoc {L : List Nat} {b : Nat} (h : Frst9 e0 e1 L) (hb : ¬ K9 e0 e1 L (e0 b) (e1 b)) : Frst9 e0 e1 (L ++ [b]) := by
  rintro A x ⟨B, e⟩
  rcases List.eq_nil_or_concat B with rfl | ⟨B', c, rfl⟩
  · have := List.append_inj' e (by simp)
    obtain ⟨rfl, h2⟩ := this
    injection h2 with h2
    subst h2
    exact hb
  · rw [List.concat_eq_append, ← List.cons_append, ← List.append_assoc] at e
    have := List.append_inj' e (by simp)
    exact h A x ⟨B', this.1⟩
theorem spl9_frst (l : List Nat) : Frst9 e0 e1 (spl9 e0 e1 l).1 := by
  induction l using snocInd9 with
  | h0 => rintro A b ⟨B, e⟩; simp [spl9] at e
  | hs l x ih =>
    rw [spl9_snoc]; unfold spst9
    split
    · exact ih
    · rename_i h; exact ih.snoc h
/-- the edges but one -/
def rst9 (L : List Nat) (y : Nat) : List Nat := L.filter fun z => decide (z ≠ y)
theorem mem_rst9 {L : List Nat} {y z : Nat} : z ∈ rst9 L y ↔ z ∈ L ∧ z ≠ y := by unfold rst9; simp
theorem acyclic9 {L : List Nat} (h : Frst9 e0 e1 L) (hn : L.Nodup) : ∀ y ∈ L, ¬ K9 e0 e1 (rst9 L y) (e0 y) (e1 y) := by
  induction L using snocInd9 with
  | h0 => intro y hy; cases hy
  | hs l b ih =>
    have hn' : l.Nodup := (List.nodup_append.1 hn).1
    have hb : b ∉ l := fun hb => by
      have := (List.nodup_append.1 hn).2.2 b hb b (by simp)
      exact this rfl
    intro y hy k
    by_cases e : y = b
    · subst e
      exact h.last (K9_mono (fun x hx => by have := mem_rst9.1 hx; simp at this; rcases this with ⟨h1 | h1, h2⟩; exact h1; exact absurd h1 h2) k)
    · have hyl : y ∈ l := by simpa [e] using hy
      have er : rst9 (l ++ [b]) y = rst9 l y ++ [b] := by unfold rst9; rw [List.filter_append]; simp [Ne.symm e]
      rw [er, K9_snoc] at k
      have up : ∀ {p q}, K9 e0 e1 (rst9 l y) p q → K9 e0 e1 l p q := fun k => K9_mono (fun x hx => (mem_rst9.1 hx).1) k
      rcases k with k | ⟨k1, k2⟩ | ⟨k1, k2⟩
      · exact ih h.init hn' y hyl k
      · exact h.last ((up k1).symm.trans ((K9_edge hyl).trans (up k2)))
      · exact h.last ((up k2).symm.trans ((K9_edge hyl).symm.trans (up k1)))
/-- a place with one edge of a set alone -/
def at9 (e0 e1 : Nat → Nat) (z q : Nat) : Prop := e0 z = q ∨ e1 z = q
def leaf9 (e0 e1 : Nat → Nat) (U : Nat → Prop) (q : Nat) : Prop := ∃ z, U z ∧ at9 e0 e1 z q ∧ ∀ z', U z' → at9 e0 e1 z' q → z' = z
theorem at9_K {L : List Nat} {z q : Nat} (hz : z ∈ L) (h : at9 e0 e1 z q) : K9 e0 e1 L (e0 z) q := by
  rcases h with h | h
  · rw [h]; exact K9.refl _ _
  · rw [← h]; exact K9_edge hz
theorem leaves9 {L : List Nat} (h : Frst9 e0 e1 L) : ∀ U : Nat → Prop, (∀ z, U z → z ∈ L) → (∃ z, U z) → ∃ q1 q2, q1 ≠ q2 ∧ leaf9 e0 e1 U q1 ∧ leaf9 e0 e1 U q2 := by
  induction L using snocInd9 with
  | h0 => rintro U hU ⟨z, hz⟩; cases hU z hz
  | hs l b ih =>
    intro U hU hne
    have ih' := ih h.init
    have hlast := h.last
    by_cases hb : U b
    rotate_left
    · exact ih' U (fun z hz => by
        rcases List.mem_append.1 (hU z hz) with k | k
        · exact k
        · obtain rfl : z = b := by simpa using k
          exact absurd hz hb) hne
    by_cases hbl : b ∈ l
    · exact absurd (K9_edge hbl) hlast
    have hin : ∀ z, U z → z ≠ b → z ∈ l := fun z hz hzb => by
      rcases List.mem_append.1 (hU z hz) with k | k
      · exact k
      · exact absurd (by simpa using k) hzb
    -- on one side of b, at the end c of b (the other end: d)
    have side : ∀ c d, at9 e0 e1 b c → (∀ q, at9 e0 e1 b q → q = c ∨ q = d) → ¬ K9 e0 e1 l c d → ∃ q, K9 e0 e1 l c q ∧ leaf9 e0 e1 U q := by
      intro c d hc hcd hk
      by_cases hs : ∃ z, (U z ∧ z ≠ b ∧ K9 e0 e1 l (e0 z) c)
      · obtain ⟨q1, q2, hne', l1, l2⟩ := ih' (fun z => U z ∧ z ≠ b ∧ K9 e0 e1 l (e0 z) c) (fun z hz => hin z hz.1 hz.2.1) hs
        have key : ∀ q, q ≠ c → leaf9 e0 e1 (fun z => U z ∧ z ≠ b ∧ K9 e0 e1 l (e0 z) c) q → ∃ q, K9 e0 e1 l c q ∧ leaf9 e0 e1 U q := by
          rintro q hq ⟨z, ⟨hz, hzb, hzk⟩, hza, huq⟩
          have hcq : K9 e0 e1 l c q := hzk.symm.trans (at9_K (hin z hz hzb) hza)
          refine ⟨q, hcq, z, hz, hza, fun z' hz' ha' => ?_⟩
          by_cases e : z' = b
          · subst e
            rcases hcd q ha' with k | k
            · exact absurd k hq
            · rw [k] at hcq; exact absurd hcq hk
          · exact huq z' ⟨hz', e, (at9_K (hin z' hz' e) ha').trans hcq.symm⟩ ha'
        by_cases e : q1 = c
        · exact key q2 (fun e2 => hne' (e.trans e2.symm)) l2
        · exact key q1 e l1
      · refine ⟨c, K9.refl _ _, b, hb, hc, fun z' hz' ha' => ?_⟩
        by_cases e : z' = b
        · exact e
        · exact absurd ⟨z', hz', e, at9_K (hin z' hz' e) ha'⟩ hs
    obtain ⟨q1, k1, l1⟩ := side (e0 b) (e1 b) (.inl rfl) (fun q hq => hq.imp Eq.symm Eq.symm) hlast
    obtain ⟨q2, k2, l2⟩ := side (e1 b) (e0 b) (.inr rfl) (fun q hq => (hq.imp Eq.symm Eq.symm).symm) (fun k => hlast k.symm)
    exact ⟨q1, q2, fun e => hlast (k1.trans (by rw [e]; exact k2.symm)), l1, l2⟩
/-- sums over the first n numbers -/
def sR9 (n : Nat) (F : Nat → Int) : Int := ((List.range n).map F).sum
theorem sR9_succ (n : Nat) (F : Nat → Int) : sR9 (n + 1) F = sR9 n F + F n := by unfold sR9; rw [List.range_succ, List.map_append, List.sum_append]; simp
theorem sR9_congr {n : Nat} {F G : Nat → Int} (h : ∀ i, i < n → F i = G i) : sR9 n F = sR9 n G := by
  unfold sR9; rw [List.map_congr_left fun i hi => h i (List.mem_range.1 hi)]
theorem sR9_zero (n : Nat) : sR9 n (fun _ => 0) = 0 := by
  induction n with
  | zero => rfl
  | succ n ih => rw [sR9_succ, ih]; rfl
theorem sR9_add (n : Nat) (F G : Nat → Int) : sR9 n (fun i => F i + G i) = sR9 n F + sR9 n G := by
  induction n with
  | zero => rfl
  | succ n ih => rw [sR9_succ, sR9_succ, sR9_succ, ih]; omega
theorem sR9_neg (n : Nat) (F : Nat → Int) : sR9 n (fun i => - F i) = - sR9 n F := by
  induction n with
  | zero => rfl
  | succ n ih => rw [sR9_succ, sR9_succ, ih]; omega
theorem sR9_mul (n : Nat) (c : Int) (F : Nat → Int) : sR9 n (fun i => c * F i) = c * sR9 n F := by
  induction n with
  | zero => simp [sR9]
  | succ n ih => rw [sR9_succ, sR9_succ, ih, Int.mul_add]
theorem sR9_swap (n m : Nat) (F : Nat → Nat → Int) : sR9 n (fun i => sR9 m (F i)) = sR9 m (fun j => sR9 n (fun i => F i j)) := by
  induction n with
  | zero => exact (sR9_zero m).symm
  | succ n ih =>
    rw [sR9_succ, ih, ← sR9_add]
    exact sR9_congr fun j _ => (sR9_succ n fun i => F i j).symm
theorem sR9_delta (n a : Nat) (F : Nat → Int) (h : a < n) : sR9 n (fun i => if a = i then F i else 0) = F a := by
  induction n with
  | zero => omega
  | succ n ih =>
    rw [sR9_succ]
    by_cases e : a = n
    · subst e
      rw [if_pos rfl, sR9_congr (G := fun _ => 0) fun i hi => if_neg (by omega), sR9_zero, Int.zero_add]
    · rw [if_neg e, ih (by omega), Int.add_zero]
theorem sR9_one (n a : Nat) (F : Nat → Int) (h : a < n) (hz : ∀ i, i < n → i ≠ a → F i = 0) : sR9 n F = F a := by
  rw [← sR9_delta n a F h]
  exact sR9_congr fun i hi => by
    by_cases e : a = i
    · rw [if_pos e]
    · rw [if_neg e, hz i hi (Ne.symm e)]
/-- what a chain leaves at a place -/
def ind9 (p q : Nat) : Int := if p = q then 1 else 0
def bd9 (e0 e1 : Nat → Nat) (m : Nat) (P : Nat → Int) (q : Nat) : Int := sR9 m fun z => P z * (ind9 (e0 z) q - ind9 (e1 z) q)
theorem bd9_add (m : Nat) (P Q : Nat → Int) (q : Nat) : bd9 e0 e1 m (fun z => P z + Q z) q = bd9 e0 e1 m P q + bd9 e0 e1 m Q q := by
  unfold bd9; rw [← sR9_add]; exact sR9_congr fun z _ => by rw [Int.add_mul]
theorem bd9_neg (m : Nat) (P : Nat → Int) (q : Nat) : bd9 e0 e1 m (fun z => - P z) q = - bd9 e0 e1 m P q := by
  unfold bd9; rw [← sR9_neg]; exact sR9_congr fun z _ => by rw [Int.neg_mul]
theorem bd9_one (m x q : Nat) (hx : x < m) : bd9 e0 e1 m (fun z => ind9 x z) q = ind9 (e0 x) q - ind9 (e1 x) q := by
  unfold bd9
  rw [sR9_one m x _ hx fun i _ hi => by simp [ind9, Ne.symm hi]]
  simp [ind9]
/-- a way between two places, as a chain -/
theorem way9 {m : Nat} {L : List Nat} (hL : ∀ x ∈ L, x < m) {u v : Nat} (k : K9 e0 e1 L u v) : ∃ P : Nat → Int, (∀ z, z ∉ L → P z = 0) ∧ ∀ q, bd9 e0 e1 m P q = ind9 u q - ind9 v q := by
  refine K9_least (R := fun u v => ∃ P : Nat → Int, (∀ z, z ∉ L → P z = 0) ∧ ∀ q, bd9 e0 e1 m P q = ind9 u q - ind9 v q) (fun p => ⟨fun _ => 0, fun _ _ => rfl, fun q => ?_⟩) ?_ ?_ (fun x hx => ⟨fun z => ind9 x z, fun z hz => ?_, fun q => bd9_one m x q (hL x hx)⟩) k
  · unfold bd9; rw [sR9_congr (G := fun _ => 0) fun i _ => by simp, sR9_zero]; omega
  · rintro p q ⟨P, h1, h2⟩
    exact ⟨fun z => - P z, fun z hz => by simp [h1 z hz], fun r => by rw [bd9_neg, h2]; omega⟩
  · rintro p q r ⟨P, h1, h2⟩ ⟨Q, h3, h4⟩
    exact ⟨fun z => P z + Q z, fun z hz => by simp [h1 z hz, h3 z hz], fun s => by rw [bd9_add, h2, h4]; omega⟩
  · have : x ≠ z := fun e => hz (e ▸ hx)
    simp [ind9, this]
/-- the cycle of an edge, as it is told by sides -/
def cyo9 (e0 e1 : Nat → Nat) (T : List Nat) (x : Nat) : Nat → Int := fun y =>
  if y = x then 1 else if y ∈ T then ind9 (pcs9 e0 e1 (rst9 T y) (e1 x)) (pcs9 e0 e1 (rst9 T y) (e0 y)) - ind9 (pcs9 e0 e1 (rst9 T y) (e0 x)) (pcs9 e0 e1 (rst9 T y) (e0 y)) else 0
/-- whatever set of places is taken, what a cycle leaves in it is nothing -/
theorem cut9 {m N : Nat} (he : ∀ z, z < m → e0 z < N ∧ e1 z < N) {C : Nat → Int} (hC : ∀ q, q < N → bd9 e0 e1 m C q = 0) (σ : Nat → Int) : sR9 m (fun z => C z * (σ (e0 z) - σ (e1 z))) = 0 := by
  have h1 : sR9 N (fun q => σ q * bd9 e0 e1 m C q) = 0 := by
    rw [sR9_congr (G := fun _ => 0) fun q hq => by rw [hC q hq, Int.mul_zero], sR9_zero]
  rw [← h1]
  unfold bd9
  rw [sR9_congr (n := N) (G := fun q => sR9 m fun z => σ q * (C z * (ind9 (e0 z) q - ind9 (e1 z) q))) fun q _ => (sR9_mul m (σ q) _).symm, sR9_swap]
  refine sR9_congr fun z hz => ?_
  obtain ⟨h2, h3⟩ := he z hz
  have d : ∀ a, a < N → sR9 N (fun q => σ q * ind9 a q) = σ a := fun a ha => by
    rw [← sR9_delta N a σ ha]
    exact sR9_congr fun q _ => by unfold ind9; split <;> simp
  have e : sR9 N (fun q => σ q * (C z * (ind9 (e0 z) q - ind9 (e1 z) q))) = C z * (sR9 N (fun q => σ q * ind9 (e0 z) q) + - sR9 N (fun q => σ q * ind9 (e1 z) q)) := by
    rw [← sR9_neg, ← sR9_add, ← sR9_mul]
    exact sR9_congr fun q _ => by grind
  rw [e, d _ h2, d _ h3]; grind
/-- a cycle with 1 at x that has, but for x, numbers at tree edges alone is the one that the sides tell -/
theorem cyo9_unique {m N : Nat} (he : ∀ z, z < m → e0 z < N ∧ e1 z < N) {T : List Nat} (hT : ∀ z ∈ T, z < m) (hF : Frst9 e0 e1 T) (hn : T.Nodup) {x : Nat} (hx : x < m) (hxT : x ∉ T) {C : Nat → Int} (hC : ∀ q, q < N → bd9 e0 e1 m C q = 0) (h1 : C x = 1) (h0 : ∀ z, z < m → z ≠ x → z ∉ T → C z = 0) :
    ∀ y, y < m → C y = cyo9 e0 e1 T x y := by
  intro y hy
  unfold cyo9
  by_cases e : y = x
  · rw [if_pos e, e, h1]
  rw [if_neg e]
  by_cases hyT : y ∈ T
  rotate_left
  · rw [if_neg hyT]; exact h0 y hy e hyT
  rw [if_pos hyT]
  have hac := acyclic9 hF hn y hyT
  have hK : ∀ z ∈ T, z ≠ y → pcs9 e0 e1 (rst9 T y) (e0 z) = pcs9 e0 e1 (rst9 T y) (e1 z) := fun z hz hzy => K9_edge (mem_rst9.2 ⟨hz, hzy⟩)
  have hac' : pcs9 e0 e1 (rst9 T y) (e0 y) ≠ pcs9 e0 e1 (rst9 T y) (e1 y) := hac
  generalize pcs9 e0 e1 (rst9 T y) = s at *
  have hc := cut9 he hC (fun p => ind9 (s p) (s (e0 y)))
  have hs : sR9 m (fun z => C z * (ind9 (s (e0 z)) (s (e0 y)) - ind9 (s (e1 z)) (s (e0 y)))) = sR9 m (fun z => (if y = z then C y else 0) + (if x = z then ind9 (s (e0 x)) (s (e0 y)) - ind9 (s (e1 x)) (s (e0 y)) else 0)) := by
    refine sR9_congr fun z hz => ?_
    by_cases e1' : y = z
    · subst e1'
      rw [if_pos rfl, if_neg (Ne.symm e)]
      unfold ind9
      rw [if_pos rfl, if_neg (Ne.symm hac')]; omega
    · rw [if_neg e1']
      by_cases e2 : x = z
      · subst e2
        rw [if_pos rfl, h1]; omega
      · rw [if_neg e2]
        by_cases hzT : z ∈ T
        · rw [hK z hzT (Ne.symm e1')]; simp
        · rw [h0 z hz (Ne.symm e2) hzT]; simp
  rw [hs, sR9_add, sR9_delta m y (fun _ => C y) hy, sR9_delta m x (fun _ => ind9 (s (e0 x)) (s (e0 y)) - ind9 (s (e1 x)) (s (e0 y))) hx] at hc
  omega
/-- the cycle of an edge is one -/
theorem cyo9_spec {m N : Nat} (he : ∀ z, z < m → e0 z < N ∧ e1 z < N) {T : List Nat} (hT : ∀ z ∈ T, z < m) (hF : Frst9 e0 e1 T) (hn : T.Nodup) {x : Nat} (hx : x < m) (hxT : x ∉ T) (hk : K9 e0 e1 T (e0 x) (e1 x)) : ∀ q, bd9 e0 e1 m (cyo9 e0 e1 T x) q = 0 := by
  obtain ⟨P, hP0, hP⟩ := way9 hT hk
  have hb : ∀ q, bd9 e0 e1 m (fun z => ind9 x z + - P z) q = 0 := fun q => by
    rw [bd9_add (P := fun z => ind9 x z) (Q := fun z => - P z), bd9_one m x q hx, bd9_neg, hP]; omega
  have hu := cyo9_unique he hT hF hn hx hxT (C := fun z => ind9 x z + - P z) (fun q _ => hb q) (by simp [ind9, hP0 x hxT]) (fun z _ hzx hzT => by simp [ind9, Ne.symm hzx, hP0 z hzT])
  intro q
  rw [← hb q]
  unfold bd9
  exact sR9_congr fun z hz => by rw [← hu z hz]
theorem cyo9_bound (T : List Nat) (x y : Nat) : -1 ≤ cyo9 e0 e1 T x y ∧ cyo9 e0 e1 T x y ≤ 1 := by
  unfold cyo9 ind9
  split
  · omega
  · split
    · split <;> split <;> omega
    · omega
end
end Go.Proofs.Ytmapjjfefjoemaa

namespace Go.Proofs.Ytmapjjfefjoemaa
open Go.RowKit

def pZ9 (v : Value) (l : List Int) : Part := pRow v 2 1 l.length (zc l)
theorem Holds.ownZ9 {w0 w : World} {L : List Part} (h : Holds w0 w L) (i : Nat) {v : Value} {l : List Int} (hi : L[i]? = some (pZ9 v l)) : OwnZ w0.heap.size w v l := h.row i hi
theorem Holds.rdZ9 {w0 w : World} {L : List Part} (h : Holds w0 w L) (i : Nat) {v : Value} {l : List Int} (hi : L[i]? = some (pZ9 v l)) (hl : l.length ≤ 1000000) : RdZ w v l := OwnZ.rd (h.ownZ9 i hi) (by omega)
theorem zc_one {l : List Int} : ∀ u ∈ zc l, u.oneCell' = true := by
  intro u hu
  obtain ⟨x, _, rfl⟩ := List.mem_map.1 hu
  rfl
theorem pInts_pZ9 (v : Value) (l : List Nat) : pInts v l = pZ9 v (zs9 l) := by unfold pInts pZ9; rw [zs9_length, zc_zs9]
theorem set_same9 {α : Type _} {l : List α} {i : Nat} {a : α} (h : l[i]? = some a) : l.set i a = l := by
  apply List.ext_getElem?
  intro j
  rw [List.getElem?_set]
  split
  · rename_i e; subst e
    obtain ⟨h1, h2⟩ := List.getElem?_eq_some_iff.1 h
    rw [if_pos h1, h]
  · rfl
theorem run_append_none9 {w : World} (t ty e : TypeId) (i : TypeInfo) (ht : Try.prog.underlying t = some (.slice e)) (hi : Try.prog.info? e = some i) (A : Option Addr) (n c m : Nat) (h : n ≤ c) :
    (Builtin.append_ #[t, t] ty #[.slice A n c, .slice none 0 m]).run Try.prog w = .ok (.slice A n c) w := by
  cases A <;> simp [Builtin.append_, run_underlying ht, sizeOf, typeInfo, hi, Builtin.lenOf, Builtin.firstCells, h, storeCells]
/-- the numbers of a list that reads, behind a list of one's own -/
theorem run_appZ9 {w0 w : World} {L : List Part} (ty : TypeId) (H : Holds w0 w L) (k : Nat) {v : Value} {l : List Int} (hk : L[k]? = some (pZ9 v l)) {u : Value} {m : List Int} (hu : RdZ w u m) (hb : l.length + m.length ≤ 100000) :
    ∃ v' w', (Builtin.append_ #[25, 25] ty #[v, u]).run Try.prog w = .ok v' w' ∧ Holds w0 w' (L.set k (pZ9 v' (l ++ m))) := by
  obtain ⟨i0, hi, hz0, hz1, hz2⟩ := info_parts info64
  obtain ⟨A, c, rfl, _, hc⟩ := hu
  rcases A with _ | a
  · have hm : m = [] := by
      rcases m with _ | ⟨x, m⟩
      · rfl
      · obtain ⟨a, e, _⟩ := hc 0 x rfl; cases e
    subst hm
    have hv : ∃ A c, v = .slice A l.length c ∧ l.length ≤ c := by
      rcases (H.row k hk).2 with ⟨rfl, e⟩ | ⟨g, cap, cur, rfl, _, _, h1, _⟩
      · exact ⟨none, 0, by rw [e], by omega⟩
      · exact ⟨_, cap, rfl, h1⟩
    obtain ⟨A, c', rfl, hc'⟩ := hv
    refine ⟨_, w, run_append_none9 _ _ _ i0 Try.underlying25 hi A l.length c' c hc', ?_⟩
    rw [List.append_nil, set_same9 hk]
    exact H
  · obtain ⟨v', w', hr, h2, _⟩ := run_appH (P := Try.prog) 25 ty 2 i0 (.int .i64 0) 1 8 Try.underlying25 hi hz0 hz1 hz2 rfl (by decide) v l.length (zc l) H k hk a m.length c (zc m) (by rw [zc_length]; omega) (fun j y hj => by
      rw [zc_get] at hj
      rcases hm : m[j]? with _ | x
      · rw [hm] at hj; cases hj
      · rw [hm] at hj
        obtain ⟨a', e, _, h3⟩ := hc j x hm
        obtain rfl : a = a' := Option.some.inj e
        simp only [Option.map_some, Option.some.injEq] at hj
        rw [← hj]; exact h3) zc_one (by unfold maxLen; omega) (by omega)
    refine ⟨v', w', hr, ?_⟩
    unfold pZ9 at *
    have e : zc (l ++ m) = zc l ++ zc m := by unfold zc; simp
    rw [List.length_append, e]
    exact h2
theorem appZ9 {ops : Array Oper} {rest : List Oper} {o : Oper} {a : Act} {Q : Exit → Act → World → Prop} {w0 w : World} {L : List Part} (H : Holds w0 w L) (k : Nat) {v : Value} {l : List Int} (hk : L[k]? = some (pZ9 v l)) {u : Value} {m : List Int} (hu : RdZ w u m) (hb : l.length + m.length ≤ 100000)
    (hgd : o.guard = none) (s x : Operand) (ho : o.op = .call { callee := .builtin .append, args := #[s, x], argTypes := #[25, 25] }) (hs : a.eval s = v) (hx : a.eval x = u)
    (h : ∀ v' w', Holds w0 w' (L.set k (pZ9 v' (l ++ m))) → wpList Try.prog ops Q rest (a.put o.dst v') w') : wpList Try.prog ops Q (o :: rest) a w := by
  obtain ⟨v', w', hr, h2⟩ := run_appZ9 o.type H k hk hu hb
  refine wpList_plain hgd fun _ hK => ?_
  unfold Oper.wp
  rw [exec_append ho hs hx hr]
  exact hK _ _ (h _ _ h2)
/-- zeros behind nothing -/
theorem run_app0_9 {w : World} (ty : TypeId) (n : Nat) (h0 : 0 < n) (hn : n ≤ 100000) :
    ∃ g c cur, (Builtin.append_ #[25, 3] ty #[.slice none 0 0, .int .i64 n]).run Try.prog w = .ok (.slice (some ⟨g, 0, none⟩) n c) (w.drew.alloc (.cells cur 2)) ∧ g = w.heap.size ∧ n ≤ c ∧ c ≤ maxLen ∧ cur.size = c := by
  obtain ⟨i0, hi, hz0, hz1, hz2⟩ := info_parts info64
  have h63 : ¬ (9223372036854775807 < (n : Int)) := by omega
  have hw : IntKind.i64.wrap (n : Int) = n := wr64k (by omega) (by omega)
  have h48 : ¬ (281474976710656 < Builtin.nextslicecap n 0 * 8) := by rw [nextslicecap_zero h0]; omega
  have hge := grownCap_ge w n 0 2
  have hcm := grownCap_le_maxLen w n 0 2 (by unfold maxLen; omega)
  have hz : (Value.int .i64 0).cells = #[Value.int .i64 0] := rfl
  refine ⟨w.heap.size, grownCap w n 0 2, Builtin.zeroCells #[Value.int .i64 0] n ++ Builtin.zeroCells #[Value.int .i64 0] (grownCap w n 0 2 - n), ?_, rfl, hge, hcm, ?_⟩
  · have hn0 : ¬ (n = 0) := by omega
    have hneg : ¬ ((n : Int) < 0) := by omega
    have h48' : ¬ (281474976710656 < (n : Int) * 8) := by omega
    simp [Builtin.append_, run_underlying Try.underlying25, run_underlying Try.underlying3, sizeOf, typeInfo, zeroValue, hi, hz0, hz1, hz2, h63, h48, h48', hn0, hneg, hw, asInt, asIntOf, hz, Question.forced, newRow, grownCap, Builtin.firstCells]
  · simp [size_zeroCells]; omega
theorem exec_append2 {P : Program} {w : World} {o : Oper} {a : Act} {s x : Operand} {t t' : TypeId} (ho : o.op = .call { callee := .builtin .append, args := #[s, x], argTypes := #[t, t'] }) {v v' u : Value} {w' : World} (hs : a.eval s = v) (hx : a.eval x = u)
    (hr : (Builtin.append_ #[t, t'] o.type #[v, u]).run P w = .ok v' w') : (execOp a.eval o).run P w = .ok (.value v') w' := by
  unfold execOp
  simp only [ho, resolve, invoke, builtin, Sem.run_bind, Sem.run_pure, Result.andThen_ok, List.map_toArray, List.map_cons, List.map_nil, hs, hx, hr]
theorem app0_9 {ops : Array Oper} {rest : List Oper} {o : Oper} {a : Act} {Q : Exit → Act → World → Prop} {w : World} (n : Nat) (h0 : 0 < n) (hn : n ≤ 100000)
    (hgd : o.guard = none) (s x : Operand) (ho : o.op = .call { callee := .builtin .append, args := #[s, x], argTypes := #[25, 3] }) (hs : a.eval s = .slice none 0 0) (hx : a.eval x = .int .i64 n)
    (h : ∀ c w', n ≤ c → Holds w w' [pZ9 (.slice (some ⟨w.heap.size, 0, none⟩) 0 c) []] → wpList Try.prog ops Q rest (a.put o.dst (.slice (some ⟨w.heap.size, 0, none⟩) n c)) w') : wpList Try.prog ops Q (o :: rest) a w := by
  obtain ⟨g, c, cur, hr, rfl, h1, h2, h3⟩ := run_app0_9 (w := w) o.type n h0 hn
  refine wpList_plain hgd fun _ hK => ?_
  unfold Oper.wp
  rw [exec_append2 ho hs hx hr]
  have HB : Below w.heap.size w (w.drew.alloc (.cells cur 2)) := ⟨rfl, rfl, rfl, by simp, fun k hk => heap_past w.drew _ k hk⟩
  refine hK _ _ (h c (w.drew.alloc (.cells cur 2)) h1 ?_)
  refine (Holds.start w).new HB _ ?_ fun k hk => ?_
  · exact ⟨rfl, .inr ⟨w.heap.size, c, cur, rfl, Nat.zero_le _, heap_alloc_new w.drew _, Nat.zero_le _, h2, by omega, by simp [zc]⟩⟩
  · have : w.heap.size = k := by simpa [pZ9, pRow, Value.ownBlock] using hk
    omega
set_option maxRecDepth 100000 in
set_option maxHeartbeats 1000000 in
theorem grow_any9 (n : Nat) (hn : n ≤ 100000) (w : World) :
    Calls Try.prog 91 #[.slice none 0 0, .int .i64 n] w fun e w' => ∃ v, e = .returned v ∧ Holds w w' [pZ9 v []] := by
  have hneg : ¬ ((n : Int) < 0) := by omega
  rcases Nat.eq_zero_or_pos n with rfl | h0
  · go_enter Try.func91, Try.ntmps91
    go_wp2
    go_ret
    exact ⟨_, rfl, (Holds.start w).nilRow 2 1⟩
  · have hpos : (0 : Int) < (n : Int) := by omega
    have w1 : wrap64 (n : Int) = n := wr64 (by omega) (by omega)
    go_enter Try.func91, Try.ntmps91
    go_wp2_with (at_builtin; refine app0_9 n h0 hn rfl _ _ rfl rfl rfl ?_)
    intro c w' hc h1
    have hc0 : (0 : Int) ≤ c := by omega
    have hc1 : ¬ ((c : Int) < 0) := by omega
    go_wp2
    go_ret
    exact ⟨_, rfl, h1⟩
def flat9 (ls : List (List Int)) : List Int := ls.flatten
theorem flat9_take (ls : List (List Int)) {i : Nat} (h : i < ls.length) : flat9 (ls.take (i + 1)) = flat9 (ls.take i) ++ ls[i] := by
  unfold flat9
  rw [List.take_succ_eq_append_getElem h, List.flatten_append]
  simp
theorem flat9_len (ls : List (List Int)) : (flat9 ls).length = totZ ls := by unfold flat9 totZ; rw [List.length_flatten]
set_option maxRecDepth 100000 in
set_option maxHeartbeats 2000000 in
theorem concat_any9 (v : Value) (ls : List (List Int)) (hn : totZ ls ≤ 10000) (hl : ls.length ≤ 10000) (w : World) (hv : RdZ2 w v ls) :
    Calls Try.prog 56 #[v] w fun e w' => ∃ u, e = .returned u ∧ Holds w w' [pZ9 u (flat9 ls)] := by
  obtain ⟨A, c, rfl, _⟩ := hv.form
  have HV := hide hv; clear hv
  have hbig : totZ ls < 9223372036854775807 := by omega
  go_enter Try.func56, Try.ntmps56
  go_wp2
  go_loopw [3, 11] (fun s t wr => ∃ i : Nat, i ≤ ls.length ∧ t = .int .i64 i ∧ s = .int .i64 (totZ (ls.take i) : Nat) ∧ w = wr) (fun _ t _ => ls.length - (intOf t).toNat)
  case atStart => exact ⟨0, Nat.zero_le _, rfl, rfl, rfl⟩
  case round =>
    obtain ⟨i, hi, rfl, rfl, rfl⟩ := hrel
    have ht := totZ_take_le ls i
    by_cases hlt : i < ls.length
    · obtain ⟨g, A', c', rfl, h1, h2⟩ := HV.out.at hlt
      have hts := totZ_take_succ ls i hlt
      have htl := totZ_take_le ls (i + 1)
      rw [hts] at htl
      have HT := hide hts; clear hts h2
      generalize totZ (ls.take i) = t0 at *
      generalize ls[i].length = n1 at *
      have hng : ¬ (((t0 : Int) + (n1 : Int)) < 0) := by omega
      go_wp2
      go_roundw
      case rel => exact ⟨i + 1, by omega, by go_num, by rw [HT.out]; go_num, by trivial⟩
      case measure => simp [intOf]; omega
    · obtain rfl : i = ls.length := by omega
      rw [List.take_length] at ht ⊢
      have CG := hide fun w => grow_any9 (totZ ls) (by omega) w
      have hfl := fun k => flat9_len (ls.take k)
      have HFL := hide hfl; clear hfl hlt hi ht
      go_wp2_with fail
      refine (CG.out _).mono ?_
      rintro e w1 ⟨u1, rfl, H1⟩
      clear CG
      go_wp2
      go_loopw [6, 27] (fun q t wr => ∃ i : Nat, i ≤ ls.length ∧ t = .int .i64 i ∧ Holds w wr [pZ9 q (flat9 (ls.take i))]) (fun _ t _ => ls.length - (intOf t).toNat)
      case atStart => exact ⟨0, Nat.zero_le _, rfl, H1⟩
      case round =>
        clear H1
        obtain ⟨i, hi, rfl, hH⟩ := hrel
        by_cases hlt : i < ls.length
        · obtain ⟨g, A', c', rfl, h1, h2⟩ := (HV.out.below hH.low (Nat.le_refl _)).at hlt
          have hfl := flat9_take ls hlt
          have hle := HFL.out i
          have hle2 := HFL.out (i + 1)
          have hle3 := totZ_take_le ls (i + 1)
          rw [hfl, List.length_append] at hle2
          have HF := hide hfl; clear hfl
          have HB := hide (show (flat9 (ls.take i)).length + ls[i].length ≤ 100000 by omega)
          clear hle hle2 hle3
          obtain ⟨A2, c2, rfl⟩ := own_slice (hH.row 0 rfl)
          generalize flat9 (ls.take i) = fl at *
          have RD := hide h2; clear h2
          generalize ls[i] = li at *
          go_wp2_with (at_builtin; refine appZ9 hH 0 rfl RD.out HB.out rfl _ _ rfl rfl rfl ?_)
          intro v' w' h5
          have HQ := hide h5
          clear h5 hH h1
          go_wp2
          go_roundw
          case rel => exact ⟨i + 1, by omega, by go_num, by rw [HF.out]; exact HQ.out⟩
          case measure => simp [intOf]; omega
        · obtain rfl : i = ls.length := by omega
          rw [List.take_length] at hH
          clear hlt hi
          go_wp2
          go_ret
          exact ⟨_, rfl, hH⟩
end Go.Proofs.Ytmapjjfefjoemaa

namespace Go.Proofs.Ytmapjjfefjoemaa.Rd
open Go.RowKit

section
variable (P : Program) (md : Region.Mode) (ops : Array Oper) (C : World → Prop) (E : Nat → Bool) (K : Act → World → Prop)

def uponE (R : Value → World → Prop) (w : World) : Result Next → Prop
  | .ok (.value u) w' => C w' ∧ R u w'
  | .ok .skip w' => C w' ∧ R undef w'
  | .ok (.enter f args) w' => w' = w ∧ Calls P f args w (fun e w'' => ∃ v, e = .returned v ∧ C w'' ∧ R v w'')
  | _ => False

/-- one operation, and what follows -/
def opV (i : Nat) (N : Act → (World → Prop) → Prop) (a : Act) (D : World → Prop) : Prop :=
  match ops[i]? with
  | none => N a D
  | some o =>
    if Region.wanted o (yielded ops a.tmps) then
      if E i = true then ∃ R : Value → World → Prop, (∀ v, Stable (R v)) ∧ (∀ w, C w → D w → uponE P C R w ((execOp a.eval o).run P w)) ∧ ∀ v, (∃ w, C w ∧ R v w) → N (a.put o.dst v) (R v)
      else ∃ v, (∀ w, C w → atG P o a w v) ∧ N (a.put o.dst v) D
    else N (a.put o.dst undef) D

theorem opV_mono {i : Nat} {N N' : Act → (World → Prop) → Prop} {a : Act} {D : World → Prop} (h : ∀ a D, N a D → N' a D) (hh : opV P ops C E i N a D) : opV P ops C E i N' a D := by
  unfold opV at *
  split
  · rename_i ho; simp only [ho] at hh; exact h _ _ hh
  · rename_i o ho
    simp only [ho] at hh
    split
    · rename_i hw
      rw [if_pos hw] at hh
      split
      · rename_i hR; rw [if_pos hR] at hh; obtain ⟨R, h0, h1, h2⟩ := hh; exact ⟨R, h0, h1, fun v hv => h _ _ (h2 v hv)⟩
      · rename_i hR
        rw [if_neg hR] at hh
        obtain ⟨v, h1, h2⟩ := hh; exact ⟨v, h1, h _ _ h2⟩
    · rename_i hw; rw [if_neg hw] at hh; exact h _ _ hh

/-- whatever order is picked -/
def anyV : Nat → Array Bool → Act → (World → Prop) → Prop
  | 0, done, a, D => Region.ready md ops done = [] ∧ ∀ w, C w → D w → K a w
  | f + 1, done, a, D => (Region.ready md ops done = [] → ∀ w, C w → D w → K a w) ∧ ∀ i ∈ Region.ready md ops done, opV P ops C E i (anyV f (done.setIfInBounds i true)) a D

theorem op_sound (hC : ∀ w w', C w → Below w.heap.size w w' → C w') {i : Nat} {N : Act → (World → Prop) → Prop} {K' : Act → World → Prop} {Q : Exit → Act → World → Prop} {a : Act} {D : World → Prop} {w : World} (hD : Stable D) (hw : C w) (hDw : D w)
    (hN : ∀ a D w, Stable D → C w → D w → N a D → K' a w) (h : opV P ops C E i N a D) : wpOp P ops Q i K' a w := by
  unfold opV at h
  unfold wpOp
  split
  · rename_i ho; simp only [ho] at h; exact hN _ _ _ hD hw hDw h
  · rename_i o ho
    simp only [ho] at h
    split
    · rename_i hwa
      rw [if_pos hwa] at h
      refine .inl ?_
      unfold Oper.wp
      rcases hEi : E i with _ | _
      · rw [if_neg (by simp [hEi])] at h
        obtain ⟨v, h1, h2⟩ := h
        have h3 := h1 w hw
        unfold atG at h3
        generalize (execOp a.eval o).run P w = r at *
        cases r with
        | ok n w' =>
          cases n <;> simp only [uponG] at h3 <;> simp only [Oper.upon]
          case value u => obtain ⟨e1, e2⟩ := h3; rw [e1, e2]; exact hN _ _ _ hD hw hDw h2
          case skip => obtain ⟨e1, e2⟩ := h3; rw [e1, ← e2]; exact hN _ _ _ hD hw hDw h2
          case enter f args => obtain ⟨e1, hc⟩ := h3; rw [e1]; exact hc.mono fun e w'' ⟨he, hb⟩ => by subst he; exact hN _ _ _ hD (hC _ _ hw hb) (hD _ _ hDw hb) h2
        | halt x w' => simp only [uponG] at h3
      · rw [if_pos hEi] at h
        obtain ⟨R, hE, h⟩ := h
        have h3 := h.1 w hw hDw
        generalize (execOp a.eval o).run P w = r at *
        cases r with
        | ok n w' =>
          cases n <;> simp only [uponE] at h3 <;> simp only [Oper.upon]
          case value u => exact hN _ _ _ (hE u) h3.1 h3.2 (h.2 u ⟨_, h3⟩)
          case skip => exact hN _ _ _ (hE undef) h3.1 h3.2 (h.2 undef ⟨_, h3⟩)
          case enter f args =>
            obtain ⟨e1, hc⟩ := h3
            rw [e1]
            refine hc.mono ?_
            rintro e w'' ⟨v, he, hb, hr⟩
            subst he
            exact hN _ _ _ (hE v) hb hr (h.2 v ⟨_, hb, hr⟩)
        | halt x w' => simp only [uponE] at h3
    · rename_i hwa; rw [if_neg hwa] at h; exact hN _ _ _ hD hw hDw h

theorem anyV_any (hC : ∀ w w', C w → Below w.heap.size w w' → C w') {Q : Exit → Act → World → Prop} (hQ : ∀ a w, K a w → Q .normal a w) (f : Nat) : ∀ (done : Array Bool) (a : Act) (D : World → Prop) (w : World), Stable D → C w → D w →
    anyV P md ops C E K f done a D → wpAny P md ops Q f done a w := by
  induction f with
  | zero => intro done a D w _ hw hDw h; exact ⟨h.1, hQ _ _ (h.2 w hw hDw)⟩
  | succ f ih =>
    intro done a D w hD hw hDw h
    exact ⟨fun e => hQ _ _ (h.1 e w hw hDw), fun i hi => op_sound P ops C E hC hD hw hDw (fun a' D' w' h1 h2 h3 h4 => ih _ a' D' w' h1 h2 h3 h4) (h.2 i hi)⟩

def YieldsG (o : Oper) (v : Value) (a : Act) : Prop :=
  (Region.wanted o (yielded ops a.tmps) = true ∧ ∀ w, C w → atG P o a w v) ∨ (Region.wanted o (yielded ops a.tmps) = false ∧ v = undef)

theorem YieldsG.op {i : Nat} {o : Oper} {v : Value} {a : Act} {D : World → Prop} (hi : ops[i]? = some o) (hE : E i = false) (hy : YieldsG P ops C o v a) {N : Act → (World → Prop) → Prop} (h : N (a.put o.dst v) D) : opV P ops C E i N a D := by
  unfold opV
  simp only [hi, hE, Bool.false_eq_true, if_false]
  rcases hy with ⟨hw, hv⟩ | ⟨hw, rfl⟩
  · rw [if_pos hw]; exact ⟨v, hv, h⟩
  · rw [if_neg (by simp [hw])]; exact h

theorem yieldsG_of {i : Nat} {o : Oper} {a : Act} {D : World → Prop} {N : Act → (World → Prop) → Prop} (hi : ops[i]? = some o) (hE : E i = false) (h : opV P ops C E i N a D) : ∃ v, YieldsG P ops C o v a ∧ N (a.put o.dst v) D := by
  unfold opV at h
  simp only [hi, hE, Bool.false_eq_true, if_false] at h
  by_cases hw : Region.wanted o (yielded ops a.tmps) = true
  · rw [if_pos hw] at h
    obtain ⟨v, h1, h2⟩ := h
    exact ⟨v, .inl ⟨hw, h1⟩, h2⟩
  · rw [if_neg hw] at h
    exact ⟨undef, .inr ⟨by simpa using hw, rfl⟩, h⟩

theorem opV_put {j : Nat} {oi oj : Oper} {v : Value} (hj : ops[j]? = some oj) (hap : oi.apart ops oj = true) (hsi : ∀ cs b, oi.op ≠ .select cs b) (hsj : ∀ cs b, oj.op ≠ .select cs b)
    {N : Act → (World → Prop) → Prop} {a : Act} {D : World → Prop} (hy : YieldsG P ops C oi v a) (h : opV P ops C E j N (a.put oi.dst v) D) :
    opV P ops C E j (fun a' D' => YieldsG P ops C oi v a' ∧ N (a'.put oi.dst v) D') a D := by
  obtain ⟨h1, h2, h3⟩ := Oper.apart_spec hap
  have keep : ∀ u, YieldsG P ops C oi v (a.put oj.dst u) := fun u => by
    have e1 := execOp_put oi hsi a oj.dst u h3
    have e2 := wanted_put oi a oj.dst u h3
    unfold YieldsG atG at *
    rw [e1, e2]; exact hy
  unfold opV at *
  simp only [hj] at *
  rw [wanted_put oj a oi.dst v h1, execOp_put oj hsj a oi.dst v h1] at h
  have ep : ∀ u, (a.put oj.dst u).put oi.dst v = (a.put oi.dst v).put oj.dst u := fun u => (Act.put_comm a v u h2).symm
  by_cases hw : Region.wanted oj (yielded ops a.tmps) = true
  · rw [if_pos hw] at h ⊢
    rcases hE : E j with _ | _
    · simp only [hE, Bool.false_eq_true, if_false] at h ⊢
      obtain ⟨u, k1, k2⟩ := h
      refine ⟨u, fun w hg => ?_, keep _, by rw [ep]; exact k2⟩
      have := k1 w hg
      unfold atG at *
      rwa [execOp_put oj hsj a oi.dst v h1] at this
    · simp only [hE, if_true] at h ⊢
      obtain ⟨R, h0, h⟩ := h
      exact ⟨R, h0, h.1, fun u hu => ⟨keep _, by rw [ep]; exact h.2 u hu⟩⟩
  · rw [if_neg hw] at h ⊢
    exact ⟨keep _, by rw [ep]; exact h⟩

theorem anyV_first {i : Nat} {o : Oper} {v : Value} (hi : ops[i]? = some o) (hE : E i = false) (hsel : ∀ (j : Nat) (o : Oper) cs b, ops[j]? = some o → o.op ≠ .select cs b) (f : Nat) :
    ∀ (done : Array Bool) (a : Act) (D : World → Prop),
      (∀ j oj, ops[j]? = some oj → j ≠ i → done.getD j true = false → (∀ e ∈ oj.after, Region.binds md e = true → e.on ≠ i) → o.apart ops oj = true) →
      i ∈ Region.ready md ops done → YieldsG P ops C o v a →
      anyV P md ops C E K f (done.setIfInBounds i true) (a.put o.dst v) D → anyV P md ops C E K (f + 1) done a D := by
  induction f with
  | zero =>
    intro done a D _ hr hy H
    refine ⟨fun e => (by rw [e] at hr; cases hr), fun j hj => ?_⟩
    by_cases e : j = i
    · subst e; exact hy.op P ops C E hi hE H
    · have := ready_mono hj e
      rw [H.1] at this; cases this
  | succ f ih =>
    intro done a D hfree hr hy H
    refine ⟨fun e => (by rw [e] at hr; cases hr), fun j hj => ?_⟩
    by_cases e : j = i
    · subst e; exact hy.op P ops C E hi hE H
    · obtain ⟨hjun, oj, hoj, hall⟩ := mem_ready.1 hj
      have hun := (mem_ready.1 hr).1
      have hno : ∀ e ∈ oj.after, Region.binds md e = true → e.on ≠ i := fun e he hb h => by
        have := hall e he hb
        rw [h, getD_both hun] at this
        cases this
      refine opV_mono P ops C E (fun a' D' h3 => ih (done.setIfInBounds j true) a' D' (fun k' ok hk hki hk' hnk => hfree k' ok hk hki ?_ hnk) (ready_mono hr (Ne.symm e)) h3.1 ?_)
        (opV_put P ops C E hoj (hfree j oj hoj e hjun hno) (fun cs b => hsel i o cs b hi) (fun cs b => hsel j oj cs b hoj) hy (H.2 j (ready_mono hj e)))
      · by_cases e' : j = k'
        · subst e'; exact hjun
        · rw [getD_set_ne true e'] at hk'; exact hk'
      · rw [Array.setIfInBounds_comm _ _ e]; exact h3.2

def walkV : Plan → Act → (World → Prop) → Prop
  | .fin, a, D => ∀ w, C w → D w → K a w
  | .q k p, a, D => opV P ops C E k (walkV p) a D
  | .s1 k p, a, D => opV P ops C E k (walkV p) a D
  | .s2 k1 p1 k2 p2, a, D => opV P ops C E k1 (walkV p1) a D ∧ opV P ops C E k2 (walkV p2) a D
  | .s3 k1 p1 k2 p2 k3 p3, a, D => opV P ops C E k1 (walkV p1) a D ∧ opV P ops C E k2 (walkV p2) a D ∧ opV P ops C E k3 (walkV p3) a D

theorem anyV_walk (hsel : Region.noSelect ops = true) (sp : List Nat) (hsp : ∀ k, sp.contains k = false → E k = false) (p : Plan) :
    ∀ (f : Nat) (done : Array Bool) (a : Act) (D : World → Prop), planB md ops sp f p done = true → walkV P ops C E K p a D → anyV P md ops C E K f done a D := by
  induction p with
  | fin =>
    intro f done a D hB h
    cases f with
    | zero => exact ⟨by simpa [planB] using hB, h⟩
    | succ f =>
      have e : Region.ready md ops done = [] := by simpa [planB] using hB
      exact ⟨fun _ => h, fun i hi => by rw [e] at hi; cases hi⟩
  | q k p ih =>
    intro f done a D hB h
    cases f with
    | zero => simp [planB] at hB
    | succ f =>
      simp only [planB, Bool.and_eq_true, decide_eq_true_eq, Bool.not_eq_true'] at hB
      obtain ⟨hc, ⟨hr, hfree⟩, hk, hB'⟩ := hB
      have hE := hsp k hc
      have hi : ops[k]? = some ops[k] := Array.getElem?_eq_getElem hk
      obtain ⟨v, hy, hK⟩ := yieldsG_of P ops C E hi hE h
      exact anyV_first P md ops C E K hi hE (Region.noSelect_spec hsel) f done a D (Region.free_spec hi hfree) (by simpa using hr) hy (ih _ _ _ _ hB' hK)
  | s1 k p ih =>
    intro f done a D hB h
    cases f with
    | zero => simp [planB] at hB
    | succ f =>
      simp only [planB, Bool.and_eq_true, decide_eq_true_eq] at hB
      obtain ⟨hr, hB'⟩ := hB
      refine ⟨fun e => (by rw [hr] at e; cases e), fun i hi => ?_⟩
      rw [hr] at hi
      obtain rfl : i = k := by simpa using hi
      exact opV_mono P ops C E (fun a' D' h' => ih _ _ _ _ hB' h') h
  | s2 k1 p1 k2 p2 ih1 ih2 =>
    intro f done a D hB h
    cases f with
    | zero => simp [planB] at hB
    | succ f =>
      simp only [planB, Bool.and_eq_true, decide_eq_true_eq] at hB
      obtain ⟨hr, hB1, hB2⟩ := hB
      refine ⟨fun e => (by rw [hr] at e; cases e), fun i hi => ?_⟩
      rw [hr] at hi
      simp only [List.mem_cons, List.not_mem_nil, or_false] at hi
      rcases hi with rfl | rfl
      · exact opV_mono P ops C E (fun a' D' h' => ih1 _ _ _ _ hB1 h') h.1
      · exact opV_mono P ops C E (fun a' D' h' => ih2 _ _ _ _ hB2 h') h.2
  | s3 k1 p1 k2 p2 k3 p3 ih1 ih2 ih3 =>
    intro f done a D hB h
    cases f with
    | zero => simp [planB] at hB
    | succ f =>
      simp only [planB, Bool.and_eq_true, decide_eq_true_eq] at hB
      obtain ⟨hr, hB1, hB2, hB3⟩ := hB
      refine ⟨fun e => (by rw [hr] at e; cases e), fun i hi => ?_⟩
      rw [hr] at hi
      simp only [List.mem_cons, List.not_mem_nil, or_false] at hi
      rcases hi with rfl | rfl | rfl
      · exact opV_mono P ops C E (fun a' D' h' => ih1 _ _ _ _ hB1 h') h.1
      · exact opV_mono P ops C E (fun a' D' h' => ih2 _ _ _ _ hB2 h') h.2.1
      · exact opV_mono P ops C E (fun a' D' h' => ih3 _ _ _ _ hB3 h') h.2.2
end

/-- a region by parts of memory: w0, L what the class holds; L1 what stands at the start beside it -/
theorem region_P {P : Program} {id : Nat} {Q : Exit → Act → World → Prop} {a : Act} {w w0 : World} {l : List Oper} (L : List Part) (L1 : List Part) (sp : List Nat) (p : Plan) (H : Holds w0 w L1) (hL : L.Sublist L1)
    (hm : P.follows .mixedOrders = true)
    (hsel : Region.noSelect l.toArray = true) (hB : planB .any l.toArray sp l.toArray.size p (Array.replicate l.toArray.size false) = true) 
    (h : walkV P l.toArray (fun wx => Holds w0 wx L) (fun k => sp.contains k) (fun a' w' => Q .normal a' w') p a (fun wx => Holds w0 wx L1)) : (Code.region id l.toArray true).wp P Q a w := by
  refine wp_region_any hm ?_
  exact anyV_any (Q := Q) P .any l.toArray (fun wx => Holds w0 wx L) (fun k => sp.contains k) (fun a' w' => Q .normal a' w') (fun _ _ h hb => h.call hb) (fun _ _ h => h) _ _ _ _ w.drew (fun _ _ h hb => h.call hb) (H.drew.sub hL) H.drew
    (anyV_walk P .any l.toArray (fun wx => Holds w0 wx L) (fun k => sp.contains k) (fun a' w' => Q .normal a' w') hsel sp (fun _ h => h) p _ _ a _ hB h)

section
variable {P : Program} {ops : Array Oper} {C : World → Prop} {E : Nat → Bool} {k : Nat} {a : Act} {D : World → Prop} {N : Act → (World → Prop) → Prop}
theorem v_q {o : Oper} (ho : ops[k]? = some o) (hE : E k = false) (hw : Region.wanted o (yielded ops a.tmps) = true) {v : Value} (h1 : ∀ w, C w → atG P o a w v) (h2 : N (a.put o.dst v) D) : opV P ops C E k N a D := by
  unfold opV
  simp only [ho, hE, Bool.false_eq_true, if_false]
  rw [if_pos hw]
  exact ⟨v, h1, h2⟩
theorem v_s {o : Oper} (R : Value → World → Prop) (hR : ∀ v, Stable (R v)) (ho : ops[k]? = some o) (hE : E k = true) (hw : Region.wanted o (yielded ops a.tmps) = true) (h1 : ∀ w, C w → D w → uponE P C R w ((execOp a.eval o).run P w))
    (h2 : ∀ v, (∃ w, C w ∧ R v w) → N (a.put o.dst v) (R v)) : opV P ops C E k N a D := by
  unfold opV
  simp only [ho, hE, if_true]
  rw [if_pos hw]
  exact ⟨R, hR, h1, h2⟩
end
/-- a list of cells laid for an append -/
def rBuild (w0 : World) (cells : Array Value) (t : TypeId) (k : Nat) (L : List Part) : Value → World → Prop := fun v w => ∃ g, v = .slice (some ⟨g, 0, none⟩) k k ∧ Holds w0 w (pBlk g cells t :: L)
theorem rBuild_stable {w0 : World} {cells : Array Value} {t : TypeId} {k : Nat} {L : List Part} (v : Value) : Stable (rBuild w0 cells t k L v) := fun _ _ ⟨g, e, h⟩ hb => ⟨g, e, h.call hb⟩
/-- a new block -/
def rBox (w0 : World) (cells : Array Value) (t : TypeId) (L : List Part) : Value → World → Prop := fun v w => ∃ g, v = .pointer (some ⟨g, 0, none⟩) ∧ Holds w0 w (pBlk g cells t :: L)
theorem rBox_stable {w0 : World} {cells : Array Value} {t : TypeId} {L : List Part} (v : Value) : Stable (rBox w0 cells t L v) := fun _ _ ⟨g, e, h⟩ hb => ⟨g, e, h.call hb⟩
/-- a relation of one value that is told by parts -/
def rHolds (w0 : World) (L : Value → List Part) : Value → World → Prop := fun v w => Holds w0 w (L v)
theorem rHolds_stable {w0 : World} {L : Value → List Part} (v : Value) : Stable (rHolds w0 L v) := fun _ _ h hb => h.call hb
/-- what is told of a pointer's block, of a slice's block -/
def rPtr (w0 : World) (cells : Array Value) (t : TypeId) (L : List Part) : Value → World → Prop
  | .pointer (some ⟨g, 0, none⟩) => fun w => Holds w0 w (pBlk g cells t :: L)
  | _ => fun _ => False
def rSl (w0 : World) (cells : Array Value) (t : TypeId) (L : List Part) : Value → World → Prop
  | .slice (some ⟨g, 0, none⟩) _ _ => fun w => Holds w0 w (pBlk g cells t :: L)
  | _ => fun _ => False
theorem rPtr_stable {w0 : World} {cells : Array Value} {t : TypeId} {L : List Part} (v : Value) : Stable (rPtr w0 cells t L v) := by
  unfold rPtr
  split
  · exact fun _ _ h hb => h.call hb
  · exact fun _ _ h _ => h
theorem rSl_stable {w0 : World} {cells : Array Value} {t : TypeId} {L : List Part} (v : Value) : Stable (rSl w0 cells t L v) := by
  unfold rSl
  split
  · exact fun _ _ h hb => h.call hb
  · exact fun _ _ h _ => h
section
variable {P : Program} {ops : Array Oper} {E : Nat → Bool} {k : Nat} {a : Act} {N : Act → (World → Prop) → Prop} {w0 : World} {L L1 : List Part}
/-- a new block -/
theorem v_box {o : Oper} (cells : Array Value) (t : TypeId) (ho : ops[k]? = some o) (hE : E k = true) (hw : Region.wanted o (yielded ops a.tmps) = true)
    (h1 : ∀ w, Holds w0 w L → Holds w0 w L1 → (execOp a.eval o).run P w = .ok (.value (.pointer (some ⟨w.heap.size, 0, none⟩))) (w.alloc (.cells cells t)))
    (h2 : ∀ g, N (a.put o.dst (.pointer (some ⟨g, 0, none⟩))) (fun wx => Holds w0 wx (pBlk g cells t :: L1))) : opV P ops (fun wx => Holds w0 wx L) E k N a (fun wx => Holds w0 wx L1) := by
  refine v_s (rPtr w0 cells t L1) rPtr_stable ho hE hw (fun w hx hD => ?_) fun v hv => ?_
  · rw [h1 w hx hD]
    exact ⟨hx.alloc _, hD.blk _ _ _ rfl⟩
  · obtain ⟨w, _, hr⟩ := hv
    unfold rPtr at hr
    split at hr
    · exact h2 _
    · exact hr.elim
/-- a list of cells laid for an append -/
theorem v_build {o : Oper} (cells : Array Value) (t : TypeId) (n : Nat) (ho : ops[k]? = some o) (hE : E k = true) (hw : Region.wanted o (yielded ops a.tmps) = true)
    (h1 : ∀ w, Holds w0 w L → Holds w0 w L1 → (execOp a.eval o).run P w = .ok (.value (.slice (some ⟨w.heap.size, 0, none⟩) n n)) (w.alloc (.cells cells t)))
    (h2 : ∀ g, N (a.put o.dst (.slice (some ⟨g, 0, none⟩) n n)) (fun wx => Holds w0 wx (pBlk g cells t :: L1))) : opV P ops (fun wx => Holds w0 wx L) E k N a (fun wx => Holds w0 wx L1) := by
  refine v_s (fun v w => ∃ g, v = .slice (some ⟨g, 0, none⟩) n n ∧ rSl w0 cells t L1 v w) (fun v _ _ ⟨g, e, h⟩ hb => ⟨g, e, rSl_stable v _ _ h hb⟩) ho hE hw (fun w hx hD => ?_) fun v hv => ?_
  · rw [h1 w hx hD]
    exact ⟨hx.alloc _, _, rfl, hD.blk _ _ _ rfl⟩
  · obtain ⟨w, _, g, rfl, hr⟩ := hv
    have := h2 g
    refine cast (congrArg (N _) ?_) this
    funext wx
    refine propext ⟨fun h => ⟨g, rfl, h⟩, fun ⟨_, _, h⟩ => h⟩
end
end Go.Proofs.Ytmapjjfefjoemaa.Rd
