/- impl.dartsFrom: the search over the darts -/
import Derived.Test.YtmapjjfefjoemaaDes
import Derived.Test.YtmapjjfefjoemaaOwn
import Derived.Test.YtmapjjfefjoemaaQTail
import Derived.RegionTactic
import Derived.ChangeKeysEq
namespace Go.Proofs.Ytmapjjfefjoemaa
open Go.RowKit

/-- bytes as cells; a list of bytes in a row of its own -/
def bytesL (l : List Nat) : List Value := l.map fun (x : Nat) => Value.int .u8 (x : Int)
def OwnB (B : Nat) (w : World) (v : Value) (l : List Nat) : Prop := w.ownsRow B 5 1 v l.length (bytesL l)
theorem infoU8 : (Try.prog.info? 5).map (fun i => (i.zero, i.size, i.bytes)) = some (some (.int .u8 0), 1, 1) := by kernel_rfl
theorem plainU8 : Try.prog.plainKey 5 = true := by kernel_rfl
/-- an element of an array of bytes that is a value -/
theorem run_index8 {T : TypeId} {n : Nat} (hT : Try.prog.underlying T = some (.array n 5)) {cs : Array Value} {j v : Nat} (hj : j < n) (h : cs[j]? = some (.int .u8 v)) (w : World) :
    (Instr.index T (.agg cs) (.int .i64 j)).run Try.prog w = .ok (.int .u8 v) w := by
  obtain ⟨i0, hi, hz0, hz1, hz2⟩ := info_parts infoU8
  simp [Instr.index, run_underlying hT, asIntOf, hj, go_sem, sizeOf, typeInfo, hi, hz1, h]
theorem OwnB.at {B : Nat} {w : World} {v : Value} {l : List Nat} (h : OwnB B w v l) {k : Nat} (hk : k < l.length) :
    ∃ g c, v = .slice (some ⟨g, 0, none⟩) l.length c ∧ B ≤ g ∧ g < w.heap.size ∧ l.length ≤ c ∧ c ≤ maxLen ∧ w.cell? ⟨g, k, none⟩ = some (.int .u8 (l[k] : Nat)) := by
  rcases h.2 with ⟨_, e⟩ | ⟨g, cap, cur, rfl, hB, hh, h1, h2, h3, h4⟩
  · omega
  · refine ⟨g, cap, rfl, hB, ?_, h1, h2, ?_⟩
    · rcases Nat.lt_or_ge g w.heap.size with c | c
      · exact c
      · rw [Array.getElem?_eq_none c] at hh; cases hh
    · rw [cell_of_cells, cellsOf_heap hh]
      have := congrArg (·[k]?) h4
      simp only [Nat.mul_one, List.getElem?_take_of_lt hk, Array.getElem?_toList] at this
      rw [this]
      unfold bytesL
      rw [List.getElem?_map, List.getElem?_eq_getElem hk]; rfl
theorem ownB_form {B : Nat} {w : World} {v : Value} {l : List Nat} (h : OwnB B w v l) : ∃ A c, v = .slice A l.length c := own_slice h

/-- the search, j of the two steps from X -/
def bst (f g : Nat → Nat) (S : List Nat × (Nat → Bool)) (X : Nat) : Nat → List Nat × (Nat → Bool)
  | 0 => S
  | 1 => badd S (f X)
  | _ + 2 => badd (badd S (f X)) (g X)
def stepY (f g : Nat → Nat) (X j : Nat) : Nat := if j = 0 then f X else g X
theorem bst_step (f g : Nat → Nat) (S : List Nat × (Nat → Bool)) (X : Nat) {j : Nat} (hj : j < 2) : bst f g S X (j + 1) = badd (bst f g S X j) (stepY f g X j) := by
  rcases j with _ | _ | j
  · rfl
  · rfl
  · omega
theorem stepY_lt {f g : Nat → Nat} {X m : Nat} (hf : f X < m) (hg : g X < m) (j : Nat) : stepY f g X j < m := by unfold stepY; split <;> assumption
theorem bst_inv {f g : Nat → Nat} {S : List Nat × (Nat → Bool)} {X m : Nat} (hS : BInv m S) (hf : f X < m) (hg : g X < m) (j : Nat) : BInv m (bst f g S X j) := by
  rcases j with _ | _ | j
  · exact hS
  · exact hS.add hf
  · exact (hS.add hf).add hg
theorem bfs_start (f g : Nat → Nat) (x : Nat) : bfs f g x 0 = ([x], mset (fun _ => false) x) := by rw [bfs]; rfl
theorem bfs_next {f g : Nat → Nat} {x k : Nat} (hk : k < (bfs f g x k).1.length) : bfs f g x (k + 1) = bst f g (bfs f g x k) (bfs f g x k).1[k] 2 := by
  rw [bfs, List.getElem?_eq_getElem hk]; rfl
theorem bst_pre (f g : Nat → Nat) (S : List Nat × (Nat → Bool)) (X j : Nat) : S.1 <+: (bst f g S X j).1 := by
  rcases j with _ | _ | j
  · exact List.prefix_refl _
  · exact badd_le _ _
  · exact (badd_le _ _).trans (badd_le _ _)
theorem badd_old {S : List Nat × (Nat → Bool)} {y : Nat} (h : S.2 y = true) : badd S y = S := by unfold badd; rw [if_pos h]
theorem badd_new {S : List Nat × (Nat → Bool)} {y : Nat} (h : S.2 y = false) : badd S y = (S.1 ++ [y], mset S.2 y) := by unfold badd; rw [if_neg (by simp [h])]; rfl

set_option maxRecDepth 100000 in
set_option maxHeartbeats 1000000 in
theorem dartsFrom_any (f g : Nat → Nat) (m : Nat) (hm : m ≤ 16) (hf : ∀ i, i < m → f i < m) (hg : ∀ i, i < m → g i < m) (x : Nat) (hx : x < m) (n : Int) (w : World) :
    Calls Try.prog 112 #[.agg (dv n f g), .int .u8 x] w fun e w' => ∃ v, e = .returned v ∧ Below w.heap.size w w' ∧ OwnB w.heap.size w' v (bfs f g x 16).1 := by
  have HI := hide fun k => bfs_inv hf hg hx k
  have HF := hide hf; clear hf
  have HG := hide hg; clear hg
  obtain ⟨i0, hi, hz0, hz1, hz2⟩ := info_parts infoU8
  have I0 := hide (And.intro hi (And.intro hz0 (And.intro hz1 hz2))); clear hi hz0 hz1 hz2
  have hx16 : x < 16 := by omega
  have h0 := bv_set (fun _ => false) x
  rw [bv_false] at h0
  go_enter Try.func112, Try.ntmps112
  go_wp2
  go_loopw [5, 7] (fun out i wr => ∃ k : Nat, k ≤ 16 ∧ i = .int .i64 k ∧ Below w.heap.size w wr ∧ cellsOf wr w.heap.size = dv n f g ∧ wr.heap[w.heap.size + 1 + 1]? = some (.cells (bv (bfs f g x k).2) 85 (0, 0)) ∧ OwnB (w.heap.size + 1) wr out (bfs f g x k).1)
    (fun _ i _ => 16 - (intOf i).toNat)
  case atStart => exact ⟨0, by omega, rfl, below3 _ _ _ _, cellsOf_heap (heap2 rfl), by rw [bfs_start]; exact heap_at _ _ _ (by simp), by rw [bfs_start]; exact ⟨by simp [bytesL], .inr ⟨w.heap.size + 1, 1, #[.int .u8 x], rfl, Nat.le_refl _, heap1 (by simp), Nat.le_refl _, by unfold maxLen; omega, by simp, by simp [bytesL]⟩⟩⟩
  case round =>
    obtain ⟨k, hk, rfl, hb, hcd, hhm, hown⟩ := hrel
    have hI := HI.out k
    have hl16 : (bfs f g x k).1.length ≤ 16 := by have := hI.length_le; omega
    by_cases hlt : k < (bfs f g x k).1.length
    · have hnext := bfs_next hlt
      have hX := hI.lt _ (List.getElem_mem hlt)
      obtain ⟨g0, c, rfl, hB0, hg0, hc1, hc2, hcell⟩ := hown.at hlt
      have hsz := hb.size
      have hk16 : k < 16 := by omega
      generalize hS : bfs f g x k = S at *
      generalize S.1[k] = X at *
      have HS := hide hS; clear hS
      have HN := hide hnext; clear hnext
      have hX16 : X < 16 := by omega
      have hfX := HF.out X hX
      have hgX := HG.out X hX
      have cb : wr.cell? ⟨w.heap.size, 1 + X, none⟩ = some (.int .u8 (f X)) := by rw [cell_of_cells, hcd, dv_b _ _ _ hX16]
      have cw : wr.cell? ⟨w.heap.size, 17 + X, none⟩ = some (.int .u8 (g X)) := by rw [cell_of_cells, hcd, dv_w _ _ _ hX16]
      have HCD := hide hcd; clear hcd
      have HM := hide hhm; clear hhm
      have HO := hide hown; clear hown
      have HIV := hide hI; clear hI
      go_wp2
      go_quiet (fail)
      go_wp2
      have hbz : Below w.heap.size w (wr.drewN nq) := ⟨hb.os, hb.tape, hb.output, hb.size, hb.block⟩
      have hcz : cellsOf (wr.drewN nq) w.heap.size = dv n f g := HCD.out
      have hmz : (wr.drewN nq).heap[w.heap.size + 1 + 1]? = some (.cells (bv S.2) 85 (0, 0)) := HM.out
      have hoz : OwnB (w.heap.size + 1) (wr.drewN nq) (.slice (some ⟨g0, 0, none⟩) S.1.length c) S.1 := HO.out
      clear hcell cb cw HCD HM HO hb hg0 hc1 hc2 hlt hsz
      generalize wr.drewN nq = wz at *
      clear wr
      go_loopw [5, 35] (fun out j wr => ∃ jj : Nat, jj ≤ 2 ∧ j = .int .i64 jj ∧ Below w.heap.size w wr ∧ cellsOf wr w.heap.size = dv n f g ∧ wr.heap[w.heap.size + 1 + 1]? = some (.cells (bv (bst f g S X jj).2) 85 (0, 0)) ∧ OwnB (w.heap.size + 1) wr out (bst f g S X jj).1)
        (fun _ j _ => 2 - (intOf j).toNat)
      case atStart => exact ⟨0, by omega, rfl, hbz, hcz, hmz, hoz⟩
      case round =>
        obtain ⟨j, hj, rfl, hb, hcd, hhm, hown⟩ := hrel
        clear hbz hcz hmz hoz
        have hsz := hb.size
        by_cases hj2 : j < 2
        · have hst := bst_step f g S X hj2
          have hYl := stepY_lt hfX hgX j
          have hidx : (#[Value.int .u8 (f X), Value.int .u8 (g X)] : Array Value)[j]? = some (.int .u8 (stepY f g X j)) := by
            rcases j with _ | _ | j
            · rfl
            · rfl
            · omega
          have hrun := run_index8 Try.underlying127 hj2 hidx
          have hIT := bst_inv HIV.out hfX hgX j
          generalize bst f g S X j = T at *
          generalize stepY f g X j = Y at *
          have hTl : T.1.length ≤ 16 := by have := hIT.length_le; omega
          have hY16 : Y < 16 := by omega
          have hlw : w.heap.size + 1 + 1 < wr.heap.size := by
            rcases Nat.lt_or_ge (w.heap.size + 1 + 1) wr.heap.size with e | e
            · exact e
            · rw [Array.getElem?_eq_none e] at hhm; cases hhm
          have hcm : cellsOf wr (w.heap.size + 1 + 1) = bv T.2 := cellsOf_heap hhm
          have HCD := hide hcd; clear hcd
          rcases hTY : T.2 Y with _ | _
          · have c0 : wr.cell? ⟨w.heap.size + 1 + 1, Y, none⟩ = some (.bool false) := by rw [cell_of_cells, hcm, bv_get _ hY16, hTY]
            have f0 : wr.frozen? ⟨w.heap.size + 1 + 1, Y, none⟩ = false := by simp [World.frozen?, hhm]
            have hS : World.grownBy wr (wr.setCell ⟨w.heap.size + 1 + 1, Y, none⟩ (.bool true)) (some (w.heap.size + 1 + 1)) := grown_setCell (grown_refl _ _)
            have hownA : (wr.setCell ⟨w.heap.size + 1 + 1, Y, none⟩ (.bool true)).ownsRow (w.heap.size + 1) 5 1 u5 T.1.length (bytesL T.1) := World.ownsRow.kept hown hS (own_ne_blk hown hhm (by decide))
            have hnb := own_ne_blk hown hhm (by decide)
            have hhs : (wr.setCell ⟨w.heap.size + 1 + 1, Y, none⟩ (.bool true)).heap[w.heap.size + 1 + 1]? = some (.cells (bv (mset T.2 Y)) 85 (0, 0)) := by rw [heap_setCell_same _ _ _ _ _ _ hhm, bv_set]
            have hbs : Below w.heap.size w (wr.setCell ⟨w.heap.size + 1 + 1, Y, none⟩ (.bool true)) := hb.grown hS hsz (fun g hg => by simp at hg; omega)
            have HH := hide hhm; clear hhm hcm
            have HS2 := hide hhs; clear hhs
            have HNB := hide hnb; clear hnb
            have HST := hide hst; clear hst
            have HTY := hide hTY; clear hTY
            have HBS := hide hbs; clear hbs
            have HOA := hide hownA; clear hownA
            go_wp2_with (at_builtin; refine wpList_append_own _ rfl _ _ 72 rfl (w.heap.size + 1) 5 i0 (.int .u8 0) 1 1 Try.underlying72 I0.out.1 I0.out.2.1 I0.out.2.2.1 I0.out.2.2.2 rfl (by decide) _ _ _ rfl (HOA.out.alloc _) ⟨wr.heap.size, 0, none⟩ 1 1 [.int .u8 Y] rfl rfl ?c1 ?c2 ?c3 ?c4 ?c5 ?_)
            case c1 => exact one_new _ _ _ _ (by simp)
            case c2 => intro u hu; simp at hu; subst hu; rfl
            case c3 => unfold maxLen; omega
            case c4 => omega
            case c5 => simp; omega
            intro v' w1 hown' hg' _
            have hrow : ∀ g, u5.ownBlock = some g → w.heap.size + 1 ≤ g := fun g hg => (HOA.out.lt g hg).1
            have hslt : w.heap.size + 1 + 1 < ((wr.setCell ⟨w.heap.size + 1 + 1, Y, none⟩ (.bool true)).alloc (.cells #[.int .u8 Y] 5)).heap.size := by simp; omega
            have hpc : cellsOf w1 w.heap.size = dv n f g := by
              rw [grown_cells hg' (by simp; omega) (fun e => by have := hrow _ e.symm; omega), cellsOf_past (by simp; omega), cellsOf_setCell_ne (by omega)]; exact HCD.out
            have hmc : w1.heap[w.heap.size + 1 + 1]? = some (.cells (bv (mset T.2 Y)) 85 (0, 0)) := by
              rw [hg'.block _ hslt (fun e => by rcases HNB.out with c | c; rw [c] at e; cases e; exact c e.symm), heap_past _ _ _ (by simp; omega)]; exact HS2.out
            have hbw : Below w.heap.size w w1 := (HBS.out.alloc (by simp; omega) _).grown hg' (by simp; omega) (fun g hg => by have := hrow g hg; omega)
            have hO : OwnB (w.heap.size + 1) w1 v' (badd T Y).1 := by
              rw [badd_new HTY.out]
              unfold OwnB bytesL at *
              simpa using hown'
            have H1 := hide hpc; clear hpc
            have H2 := hide hmc; clear hmc
            have H3 := hide hO; clear hO
            clear hown' hg' hrow c0 f0 hS HS2 HBS HOA HH HNB hslt hown
            go_wp2
            go_roundw
            case rel => exact ⟨j + 1, by omega, by go_num, hbw, H1.out, by rw [HST.out, badd_new HTY.out]; exact H2.out, by rw [HST.out]; exact H3.out⟩
            case measure => simp [intOf]; omega
          · have c0 : wr.cell? ⟨w.heap.size + 1 + 1, Y, none⟩ = some (.bool true) := by rw [cell_of_cells, hcm, bv_get _ hY16, hTY]
            have HH := hide hhm; clear hhm hcm
            have HST := hide hst; clear hst
            have HTY := hide hTY; clear hTY
            have HO := hide hown; clear hown
            go_wp2
            go_roundw
            case rel => exact ⟨j + 1, by omega, by go_num, hb, HCD.out, by rw [HST.out, badd_old HTY.out]; exact HH.out, by rw [HST.out, badd_old HTY.out]; exact HO.out⟩
            case measure => simp [intOf]; omega
        · obtain rfl : j = 2 := by omega
          have HH := hide hhm; clear hhm
          have HO := hide hown; clear hown
          have HCD := hide hcd; clear hcd
          go_wp2
          go_roundw
          case rel => exact ⟨k + 1, by omega, by go_num, hb, HCD.out, by rw [HN.out]; exact HH.out, by rw [HN.out]; exact HO.out⟩
          case measure => simp [intOf]; omega
    · obtain ⟨A, c, rfl⟩ := ownB_form hown
      have hst := bfs_stop (p := f) (q := g) (z := x) (i := k) (by omega) (j := 16) hk
      clear hhm hcd hI
      have HST := hide hst; clear hst
      have HO := hide hown; clear hown
      generalize bfs f g x k = S at *
      go_wp2
      go_ret
      exact ⟨_, rfl, hb, by rw [HST.out]; exact ⟨HO.out.1, HO.out.2.imp id (fun ⟨g, cap, cur, h1, h2, h3⟩ => ⟨g, cap, cur, h1, by omega, h3⟩)⟩⟩
end Go.Proofs.Ytmapjjfefjoemaa
