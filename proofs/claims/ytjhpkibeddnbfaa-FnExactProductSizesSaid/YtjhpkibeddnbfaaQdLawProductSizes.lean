/- Texts put together: SPr, MorM, Mark, Cyc, CycL, App, Sort, Pl1 -/
import Derived.Test.YtjhpkibeddnbfaaQcLawProductSizes
import Derived.Test.YtjhpkibeddnbfaaChecked
import Derived.WalkKit
import Derived.WalkSpells
import Derived.WalkLawsBesides
import Derived.Deep.LoopGhost
import Derived.Deep.OwnRows
import Derived.Laws.Rows
import Derived.Laws.Tables
import Derived.Laws.CopyOwn
import Derived.ProofKit
import Derived.OpenShut
import Derived.ShutString
import Derived.ChangeOld
import Derived.Below
import Derived.Laws.OwnMore
import Derived.Maps.Keyed
import Derived.DeepKeys4
import Derived.Maps.Own
import Derived.Laws.CopyRow
import Derived.Deep.MidRow
import Derived.Deep.Quiet
import Derived.Deep.QuietTactic
import Derived.BigQuiet
import Derived.StillTail
import Derived.Carry
import Derived.RegionTactic
import Derived.ChangeKeysEq
import Derived.StillTailTactics
import Derived.Deep.RegionWith
import Derived.Deep.RegionHeld3
import Derived.IntWalk
import Derived.Shelf.SortM.Plain
import Derived.Shelf.SlicesG.Reverse
import Derived.Shelf.SlGeneric
namespace Go.Proofs.Ytjhpkibeddnbfaa
open Go.RowKit

/-- sixteen rows of sixteen numbers -/
@[irreducible] def nv (h : Nat → Int) : Array Value := row 256 fun i => .int .i64 (h i)
theorem nv_size (h : Nat → Int) : (nv h).size = 256 := by unfold nv; exact row_size _ _
theorem nv_get (h : Nat → Int) {i : Nat} (hi : i < 256) : (nv h)[i]? = some (.int .i64 (h i)) := by unfold nv; exact row_get _ _ hi
def hset (h : Nat → Int) (i : Nat) (v : Int) : Nat → Int := fun j => if j = i then v else h j
theorem nv_set (h : Nat → Int) (i : Nat) (v : Int) : (nv h).setIfInBounds i (.int .i64 v) = nv (hset h i v) := by
  unfold nv
  rw [row_set]
  apply row_congr
  intro j _
  unfold hset
  by_cases c : j = i
  · rw [if_pos c, if_pos c]
  · rw [if_neg c, if_neg c]
theorem nv_cells (h : Nat → Int) : (nv h).all (·.oneCell') = true := by unfold nv row; simp [Value.oneCell']
/-- the names of the codes in a list -/
def nmF (l : List Nat) : Nat → Int := fun z => if z ∈ l then (l.idxOf z : Int) else -1
theorem nmF_add {l : List Nat} {z : Nat} (h : z ∉ l) : hset (nmF l) z l.length = nmF (l ++ [z]) := by
  funext y
  unfold hset nmF
  by_cases c : y = z
  · subst c
    rw [if_pos rfl, if_pos (by simp), List.idxOf_append, if_neg h]
    simp
  · rw [if_neg c]
    by_cases d : y ∈ l
    · rw [if_pos d, if_pos (by simp [d]), List.idxOf_append, if_pos d]
    · rw [if_neg d, if_neg (by simp [d, c])]
theorem nmF_lt {l : List Nat} {z : Nat} : (nmF l z < 0) ↔ z ∉ l := by
  unfold nmF
  by_cases d : z ∈ l
  · rw [if_pos d]; simp [d]
  · rw [if_neg d]; simp [d]
/-- minus ones, so many -/
def neg (k : Nat) : Nat → Int := fun z => if z < k then -1 else 0
theorem neg_step (k : Nat) : hset (neg k) k (-1) = neg (k + 1) := by
  funext z
  unfold hset neg
  by_cases c : z = k
  · subst c; simp
  · have : z < k + 1 ↔ z < k := by omega
    simp [c, this]
theorem neg_all {z : Nat} (k : Nat) (h : z < 256) : nv (hset (neg 256) z 0) = nv (nmF [z]) := by
  unfold nv
  apply row_congr
  intro j hj
  unfold hset neg nmF
  by_cases c : j = z
  · subst c; simp
  · simp [c, hj]
/-- rows of [2]byte -/
theorem infoPb : (Try.prog.info? 76).map (fun i => (i.zero, i.size, i.bytes)) = some (some (.agg #[.int .u8 0, .int .u8 0]), 2, 2) := by kernel_rfl
def pPairsB (v : Value) (l : List (Nat × Nat)) : Part := pRow v 76 2 l.length (pairB l)
theorem Holds.pairsB {w0 w : World} {L : List Part} (h : Holds w0 w L) (i : Nat) {v : Value} {l : List (Nat × Nat)} (hi : L[i]? = some (pPairsB v l)) {k : Nat} (hk : k < l.length) :
    ∃ g c, v = .slice (some ⟨g, 0, none⟩) l.length c ∧ g < w.heap.size ∧ w.cell? ⟨g, k * 2, none⟩ = some (.int .u8 (l[k].1 : Int)) ∧ w.cell? ⟨g, k * 2 + 1, none⟩ = some (.int .u8 (l[k].2 : Int)) := by
  obtain ⟨g, c, h1, h2, h3, h4, h5, h6, h7⟩ := row_at (h.row i hi) (by omega : 0 < l.length)
  exact ⟨g, c, h1, h3, h6 _ _ (pairB_at hk).1, h6 _ _ (pairB_at hk).2⟩
theorem Holds.pairsBForm {w0 w : World} {L : List Part} (h : Holds w0 w L) (i : Nat) {v : Value} {l : List (Nat × Nat)} (hi : L[i]? = some (pPairsB v l)) : ∃ A c, v = .slice A l.length c := own_slice (h.row i hi)
theorem appBp {ops : Array Oper} {rest : List Oper} {o : Oper} {a : Act} {Q : Exit → Act → World → Prop} {w0 w : World} {L : List Part} (H : Holds w0 w L) (k : Nat) {v : Value} {l : List (Nat × Nat)} (hk : L[k]? = some (pPairsB v l))
    (g : Nat) (news : List (Nat × Nat)) (t : TypeId) (hc : w.heap[g]? = some (.cells (pairB news).toArray t (0, 0))) (hb : l.length + news.length ≤ 1000000)
    (hgd : o.guard = none) (s x : Operand)
    (ho : o.op = .call { callee := .builtin .append, args := #[s, x], argTypes := #[71, 71] })
    (hs : a.eval s = v) (hx : a.eval x = .slice (some ⟨g, 0, none⟩) news.length news.length)
    (h : ∀ v' w', Holds w0 w' (L.set k (pPairsB v' (l ++ news))) → wpList Try.prog ops Q rest (a.put o.dst v') w') : wpList Try.prog ops Q (o :: rest) a w := by
  obtain ⟨i0, hi, hz0, hz1, hz2⟩ := info_parts infoPb
  refine appH (P := Try.prog) hgd s x 71 ho 76 i0 (.agg #[.int .u8 0, .int .u8 0]) 2 2 Try.underlying71 hi hz0 hz1 hz2 rfl (by decide) v l.length (pairB l) hs H k hk ⟨g, 0, none⟩ news.length news.length (pairB news) hx
    (pairB_length _) (fun j u hu => ?_) pairB_one (by unfold maxLen; omega) (by omega) fun v' w' h1 => h v' w' ?_
  · have : ((⟨g, 0, none⟩ : Addr).add j) = ⟨g, j, none⟩ := by simp [Addr.add]; exact Eq.symm
    rw [this, cell_of_cells, cellsOf_heap hc]
    simpa using hu
  · unfold pPairsB at *
    rw [List.length_append, pairB_append]
    exact h1

theorem aggN : AggT 73 256 := ⟨⟨_, Try.underlying73, rfl⟩, by kernel_rfl⟩
theorem zeroN (w : World) : (zeroValue 73).run Try.prog w = .ok (.agg (nv fun _ => 0)) w := by
  have h : (Try.prog.info? 73).map (·.zero) = some (some (.agg (row 256 fun _ => .int .i64 0))) := by unfold row; kernel_rfl
  rcases hi : Try.prog.info? 73 with _ | i
  · rw [hi] at h; cases h
  · rw [hi] at h
    have hz : i.zero = some (.agg (row 256 fun _ => .int .i64 0)) := by simpa using h
    have e : nv (fun _ => 0) = row 256 fun _ => .int .i64 0 := by unfold nv; rfl
    simp [zeroValue, typeInfo, hi, hz, e]
def Is256 (c : Array Value) : Prop := c.size = 256
@[go_sem] theorem is256_nv (f : Nat → Int) : Is256 (nv f) ↔ True := ⟨fun _ => trivial, fun _ => nv_size f⟩
@[go_sem] theorem ones_nv (f : Nat → Int) : Ones (nv f) ↔ True := ⟨fun _ => trivial, fun _ => nv_cells f⟩
@[go_sem] theorem rowOk_at256 {w : World} {g : Nat} {c : Array Value} {t : TypeId} (h : g = w.heap.size) (hc : Is256 c) : rowOk (w.alloc (.cells c t)) g 256 ↔ True := ⟨fun _ => trivial, fun _ => ⟨c, t, heap_at _ _ _ h, hc⟩⟩
section
variable (ρ : Operand → Value) (dst : Option Tmp) (x y : Operand) (ty : TypeId) (pos : String) (after : Array Edge) (guard : Option (Nat × Bool)) {w : World} {g : Nat} {cs : Array Value}
@[go_sem ↓] theorem exec_loadN : execOp ρ { dst, op := .load 73 x, type := ty, pos, after, guard } = loadT 73 (ρ x) := rfl
@[go_sem ↓] theorem exec_storeN : execOp ρ { dst, op := .store 73 x y, type := ty, pos, after, guard } = storeT 73 (ρ x) (ρ y) := rfl
@[go_sem] theorem run_loadN (h : Is256 (cellsOf w g)) : (loadT 73 (.pointer (some ⟨g, 0, none⟩))).run Try.prog w = .ok (.value (.agg (cellsOf w g))) w := run_loadT aggN h (by decide)
@[go_sem] theorem run_storeN (h : rowOk w g 256) (hs : Is256 cs) (hc : Ones cs) : (storeT 73 (.pointer (some ⟨g, 0, none⟩)) (.agg cs)).run Try.prog w = .ok .skip (w.setRow g cs) := run_storeT aggN h hs hc
end
set_option maxRecDepth 100000 in
set_option maxHeartbeats 4000000 in
theorem sPairs_any (f g f' g' : Nat → Nat) (m n : Nat) (hd : DesN f g m) (he : DesN f' g' n) (x y : Nat) (hx : x < 16) (hy : y < 16) (w : World) :
    Calls Try.prog 55 #[.agg (dv m f g), .agg (dv n f' g'), .int .u8 x, .int .u8 y] w fun e w' => ∃ v, e = .returned (.tuple #[v, .agg (nv (nmF (bfs (bF f f') (bF g g') (16 * x + y) 256).1))]) ∧ Below w.heap.size w w' ∧
      w'.ownsRow w.heap.size 76 2 v (bfs (bF f f') (bF g g') (16 * x + y) 256).1.length (pairB (dec (bfs (bF f f') (bF g g') (16 * x + y) 256).1)) := by
  have zz := zeroN
  have hB := fun z hz => bF_lt hd.black he.black z hz
  have hW := fun z hz => bF_lt hd.white he.white z hz
  have hz0 : 16 * x + y < 256 := by omega
  obtain ⟨F, FI, F0, FN, FE⟩ : ∃ (F : Nat → List Nat × (Nat → Bool)), Hid (∀ k, BInv 256 (F k)) ∧ Hid (F 0 = ([16 * x + y], mset (fun _ => false) (16 * x + y))) ∧ Hid (∀ k (hk : k < (F k).1.length), F (k + 1) = bst (bF f f') (bF g g') (F k) ((F k).1[k]) 2) ∧
      Hid (∀ k, k ≤ 256 → (F k).1.length ≤ k → (bfs (bF f f') (bF g g') (16 * x + y) 256).1 = (F k).1) :=
    ⟨bfs (bF f f') (bF g g') (16 * x + y), hide fun k => bfs_inv hB hW hz0 k, hide (bfs_start _ _ _), hide fun k hk => bfs_next hk, hide fun k h1 h2 => by
      generalize 256 = K at *
      rw [bfs_stop h2 h1]⟩
  obtain ⟨R, hR⟩ : ∃ R, R = (bfs (bF f f') (bF g g') (16 * x + y) 256).1 := ⟨_, rfl⟩
  rw [← hR] at FE ⊢
  clear hR
  have HBW := hide (And.intro hB hW); clear hB hW
  have HP := hide (And.intro (And.intro hd.black hd.white) (And.intro he.black he.white)); clear hd he
  have hd0 : dec [16 * x + y] = [(x, y)] := by
    unfold dec
    simp only [List.map_cons, List.map_nil]
    rw [show (16 * x + y) / 16 = x by omega, show (16 * x + y) % 16 = y by omega]
  have HD0 := hide hd0; clear hd0
  have HHa := (((Holds.start w).blk (dv m f g) 30 w.heap.size rfl).blk (dv n f' g') 30 (w.heap.size + 1) (by simp)).blk (nv fun _ => 0) 73 (w.heap.size + 1 + 1) (by simp)
  have HHb := (HHa.rowNew #[.int .u8 x, .int .u8 y] 76 2 1 (w.heap.size + 1 + 1 + 1) (by simp) rfl (by unfold maxLen; omega)).blk (nv fun _ => 0) 73 (w.heap.size + 1 + 1 + 1 + 1) (by simp)
  clear HHa
  go_enter Try.func55, Try.ntmps55
  go_wp2
  clear zz
  go_loopw [12] (fun t wr => ∃ i : Nat, i ≤ 16 ∧ t = .int .i64 i ∧ Holds w wr [pBlk (w.heap.size + 1 + 1 + 1 + 1) (nv (neg (16 * i))) 73, pPairsB (.slice (some ⟨(w.heap.size + 1 + 1 + 1), 0, none⟩) 1 1) [(x, y)], pBlk (w.heap.size + 1 + 1) (nv fun _ => 0) 73, pBlk (w.heap.size + 1) (dv n f' g') 30, pBlk w.heap.size (dv m f g) 30]) (fun t _ => 16 - (intOf t).toNat)
  case atStart => exact ⟨0, by omega, rfl, by rw [show neg (16 * 0) = fun _ => 0 from by funext z; simp [neg]]; exact HHb⟩
  case round =>
    clear HHb
    obtain ⟨i, hi, rfl, hH⟩ := hrel
    by_cases hil : i < 16
    · go_wp2
      go_loopw [13] (fun t wr => ∃ k : Nat, k ≤ 16 ∧ t = .int .i64 k ∧ Holds w wr [pBlk (w.heap.size + 1 + 1 + 1 + 1) (nv (neg (16 * i + k))) 73, pPairsB (.slice (some ⟨(w.heap.size + 1 + 1 + 1), 0, none⟩) 1 1) [(x, y)], pBlk (w.heap.size + 1 + 1) (nv fun _ => 0) 73, pBlk (w.heap.size + 1) (dv n f' g') 30, pBlk w.heap.size (dv m f g) 30]) (fun t _ => 16 - (intOf t).toNat)
      case atStart => exact ⟨0, by omega, rfl, hH⟩
      case round =>
        clear hH
        obtain ⟨k, hk, rfl, hH⟩ := hrel
        by_cases hkl : k < 16
        · have z1 := hH.cell 0 rfl (nv_get (neg (16 * i + k)) (i := i * 16 + k) (by omega))
          have f1 := hH.frozen 0 rfl (i * 16 + k)
          have hs := neg_step (16 * i + k)
          rw [show hset (neg (16 * i + k)) (16 * i + k) (-1) = hset (neg (16 * i + k)) (i * 16 + k) (-1) by rw [Nat.mul_comm]] at hs
          have HS := hide hs; clear hs
          go_wp2
          go_roundw
          case rel => exact ⟨k + 1, by omega, by go_num, by rw [← Nat.add_assoc, ← HS.out, ← nv_set]; exact hH.set 0 rfl (i * 16 + k) _⟩
          case measure => simp [intOf]; omega
        · obtain rfl : k = 16 := by omega
          clear hk hkl
          go_wp2
          go_roundw
          case rel => exact ⟨i + 1, by omega, by go_num, by rw [show 16 * (i + 1) = 16 * i + 16 by omega]; exact hH⟩
          case measure => simp [intOf]; omega
    · obtain rfl : i = 16 := by omega
      clear hi hil
      have z1 := hH.cell 0 rfl (nv_get (neg (16 * 16)) (i := x * 16 + y) (by omega))
      have f1 := hH.frozen 0 rfl (x * 16 + y)
      have hx' : (x : Int) < 16 := by omega
      have hy' : (y : Int) < 16 := by omega
      have hq : (nv (neg (16 * 16))).setIfInBounds (x * 16 + y) (.int .i64 0) = nv (nmF [16 * x + y]) := by
        rw [nv_set, show x * 16 + y = 16 * x + y by omega]; exact neg_all 0 hz0
      have hH1 := hH.set 0 rfl (x * 16 + y) (.int .i64 0)
      rw [hq, ← HD0.out] at hH1
      clear hq
      -- second half
      have hF0 := F0.out
      rw [show nmF [16 * x + y] = nmF (F 0).1 by rw [hF0], show [16 * x + y] = (F 0).1 by rw [hF0]] at hH1
      clear hF0
      go_wp2
      clear z1 f1 hx' hy'
      clear hH
      go_loopw [11, 14] (fun u t wr => ∃ k : Nat, k ≤ (F k).1.length ∧ t = .int .i64 k ∧ Holds w wr [pBlk (w.heap.size + 1 + 1 + 1 + 1) (nv (nmF (F k).1)) 73, pPairsB u (dec (F k).1), pBlk (w.heap.size + 1 + 1) (nv fun _ => 0) 73, pBlk (w.heap.size + 1) (dv n f' g') 30, pBlk w.heap.size (dv m f g) 30]) (fun _ t _ => 257 - (intOf t).toNat)
      case atStart => exact ⟨0, by omega, rfl, hH1⟩
      case round =>
        clear hH1
        obtain ⟨k, hk, rfl, hH⟩ := hrel
        have hI := FI.out k
        have hle := hI.length_le
        by_cases hkl : k < (F k).1.length
        · obtain ⟨g0, c0, rfl, _, y1, y2⟩ := hH.pairsB 1 rfl (k := k) (by rw [dec_length]; exact hkl)
          have hnx := FN.out k hkl
          have hX := hI.lt _ (List.getElem_mem hkl)
          have hda := dec_at hkl
          obtain ⟨a, hab1⟩ : ∃ a, a = (F k).1[k] / 16 := ⟨_, rfl⟩
          obtain ⟨b, hab2⟩ : ∃ b, b = (F k).1[k] % 16 := ⟨_, rfl⟩
          rw [← hab1, ← hab2] at hda
          rw [hda] at y1 y2
          clear hda
          have ha16 : a < 16 := by omega
          have hb16 : b < 16 := by omega
          have ha' : (a : Int) < 16 := by omega
          have hb' : (b : Int) < 16 := by omega
          rw [dec_length] at hH ⊢
          generalize hS : F k = S at *
          generalize S.1[k] = X at *
          have HS := hide hS; clear hS
          have HNX := hide hnx; clear hnx
          have HI := hide hI; clear hI
          have hfa := HP.out.1.1.lt16 ha16
          have hga := HP.out.1.2.lt16 ha16
          have hfb := HP.out.2.1.lt16 hb16
          have hgb := HP.out.2.2.lt16 hb16
          have hB := HBW.out.1 X hX
          have hW := HBW.out.2 X hX
          have vB : bF f f' X / 16 = f a ∧ bF f f' X % 16 = f' b := by rw [hab1, hab2]; rw [hab2] at hfb; exact ⟨bF_1 hfb, bF_2 hfb⟩
          have vW : bF g g' X / 16 = g a ∧ bF g g' X % 16 = g' b := by rw [hab1, hab2]; rw [hab2] at hgb; exact ⟨bF_1 hgb, bF_2 hgb⟩
          have eB : f a * 16 + f' b = bF f f' X ∧ f a < 16 ∧ f' b < 16 := ⟨by omega, hfa, hfb⟩
          have eW : g a * 16 + g' b = bF g g' X ∧ g a < 16 ∧ g' b < 16 := ⟨by omega, hga, hgb⟩
          have dB : ∀ l : List Nat, dec (l ++ [bF f f' X]) = dec l ++ [(f a, f' b)] := fun l => by rw [dec_snoc, vB.1, vB.2]
          have dW : ∀ l : List Nat, dec (l ++ [bF g g' X]) = dec l ++ [(g a, g' b)] := fun l => by rw [dec_snoc, vW.1, vW.2]
          have DD := hide (And.intro dB dW); clear dB dW
          have EE := hide (And.intro eB eW); clear eB eW vB vW
          have HAB := hide (And.intro hab1 hab2); clear hab1 hab2
          have HBX := hide (And.intro hB hW); clear hB hW
          have HH0 := hH.blk #[.int .u8 (a : Nat), .int .u8 (b : Nat)] 76 wr.heap.size rfl
          go_wp2
          clear y1 y2 hH
          generalize wr.alloc (.cells #[.int .u8 (a : Nat), .int .u8 (b : Nat)] 76) = wo at *
          generalize wr.heap.size = G5 at *
          go_loopw [11, 16] (fun u t wr => ∃ i : Nat, i ≤ 2 ∧ t = .int .i64 i ∧ Holds w wr [pBlk G5 #[.int .u8 (a : Nat), .int .u8 (b : Nat)] 76, pBlk (w.heap.size + 1 + 1 + 1 + 1) (nv (nmF (bst (bF f f') (bF g g') S X i).1)) 73, pPairsB u (dec (bst (bF f f') (bF g g') S X i).1), pBlk (w.heap.size + 1 + 1) (nv fun _ => 0) 73, pBlk (w.heap.size + 1) (dv n f' g') 30, pBlk w.heap.size (dv m f g) 30]) (fun _ t _ => 2 - (intOf t).toNat)
          case atStart => exact ⟨0, by omega, rfl, HH0⟩
          case round =>
            clear HH0
            obtain ⟨i, hi, rfl, hH⟩ := hrel
            by_cases hi2 : i < 2
            · have hIT := bst_inv HI.out HBX.out.1 HBX.out.2 i
              go_wp2
              refine Rd.region_P (w0 := w) [pBlk G5 #[.int .u8 (a : Nat), .int .u8 (b : Nat)] 76, pBlk (w.heap.size + 1 + 1 + 1 + 1) (nv (nmF (bst (bF f f') (bF g g') S X i).1)) 73, pPairsB u11 (dec (bst (bF f f') (bF g g') S X i).1), pBlk (w.heap.size + 1 + 1) (nv fun _ => 0) 73, pBlk (w.heap.size + 1) (dv n f' g') 30, pBlk w.heap.size (dv m f g) 30] [pBlk G5 #[.int .u8 (a : Nat), .int .u8 (b : Nat)] 76, pBlk (w.heap.size + 1 + 1 + 1 + 1) (nv (nmF (bst (bF f f') (bF g g') S X i).1)) 73, pPairsB u11 (dec (bst (bF f f') (bF g g') S X i).1), pBlk (w.heap.size + 1 + 1) (nv fun _ => 0) 73, pBlk (w.heap.size + 1) (dv n f' g') 30, pBlk w.heap.size (dv m f g) 30] [11, 12] (.q 0 <| .q 1 <| .q 2 <| .q 3 <| .q 4 <| .q 5 <| .q 6 <| .q 7 <| .q 8 <| .q 9 <| .q 10 <| .s1 11 <| .s1 12 .fin) hH (.refl _) (by kernel_rfl) (by kernel_rfl) (by kernel_rfl) ?_
              iterate 11
                apply Rd.v_q
                · simp only [List.getElem?_toArray, List.getElem?_cons_zero, List.getElem?_cons_succ]; exact rfl
                · rfl
                · go_simp
                · intro wx hx
                  have q1 := hx.cell 0 (j := 0) rfl rfl
                  have q2 := hx.cell 0 (j := 1) rfl rfl
                  have c3 := hx.cell 5 rfl (dv_b m f g ha16)
                  have c4 := hx.cell 4 rfl (dv_b n f' g' hb16)
                  unfold atG
                  go_simp
                  simp only [uponG]
                  exact ⟨by trivial, rfl⟩
              refine Rd.v_box #[.int .u8 0, .int .u8 0] 76 (by simp only [List.getElem?_toArray, List.getElem?_cons_zero, List.getElem?_cons_succ]; exact rfl) rfl (by go_simp) (fun wx hx hD => by go_simp) fun gq => ?_
              refine Rd.v_s (Rd.rHolds w fun _ => pBlk gq #[(.int .u8 (f a : Nat)), (.int .u8 (f' b : Nat))] 76 :: [pBlk G5 #[.int .u8 (a : Nat), .int .u8 (b : Nat)] 76, pBlk (w.heap.size + 1 + 1 + 1 + 1) (nv (nmF (bst (bF f f') (bF g g') S X i).1)) 73, pPairsB u11 (dec (bst (bF f f') (bF g g') S X i).1), pBlk (w.heap.size + 1 + 1) (nv fun _ => 0) 73, pBlk (w.heap.size + 1) (dv n f' g') 30, pBlk w.heap.size (dv m f g) 30]) Rd.rHolds_stable (by simp only [List.getElem?_toArray, List.getElem?_cons_zero, List.getElem?_cons_succ]; exact rfl) rfl (by go_simp) (fun wx hx hD => ?_) ?_
              · skip
                have c0 := hD.cell 0 (j := 0) rfl rfl
                have fr0 := hD.frozen 0 rfl 0
                have c1 := hD.cell 0 (j := 1) rfl rfl
                have fr1 := hD.frozen 0 rfl 1
                go_simp
                simp only [Rd.uponE]
                have h2 := (hD.set 0 rfl 0 ((.int .u8 (f a : Nat)))).set 0 rfl 1 ((.int .u8 (f' b : Nat)))
                exact ⟨h2.tail, h2⟩
              rintro vn -

              rintro w2 - hT
              clear hH
              generalize gq = G6 at *
              have hii : i = 0 ∨ i = 1 := by omega
              rcases hii with hi0 | hi1
              · obtain rfl := hi0
                have hst : bst (bF f f') (bF g g') S X 1 = badd (bst (bF f f') (bF g g') S X 0) (bF f f' X) := rfl
                generalize bst (bF f f') (bF g g') S X 0 = T at *
                have HIT := hide hIT; clear hIT
                have HST := hide hst; clear hst
                go_wp2
                have hzi : f a * 16 + f' b = bF f f' X := EE.out.1.1
                have hx16 : f a < 16 := EE.out.1.2.1
                have hy16 : f' b < 16 := EE.out.1.2.2
                have hz256 := HBX.out.1
                have hxi : ((f a : Nat) : Int) < 16 := by omega
                have hyi : ((f' b : Nat) : Int) < 16 := by omega
                have t0 := hT.cell 0 (j := 0) rfl rfl
                have t1 := hT.cell 0 (j := 1) rfl rfl
                have n0 := hT.cell 2 rfl (nv_get (nmF T.1) (i := f a * 16 + f' b) (by omega))
                have hTl := HIT.out.length_le
                rcases hTY : T.2 (bF f f' X) with _ | _
                · have hnm : (bF f f' X) ∉ T.1 := fun h => by rw [(HIT.out.mem _).2 h] at hTY; cases hTY
                  have hneg : decide (nmF T.1 (f a * 16 + f' b) < 0) = true := by rw [hzi]; simpa using nmF_lt.2 hnm
                  have hq : (nv (nmF T.1)).setIfInBounds (f a * 16 + f' b) (.int .i64 (T.1.length : Nat)) = nv (nmF (T.1 ++ [bF f f' X])) := by rw [nv_set, hzi]; exact congrArg nv (nmF_add hnm)
                  have HTY := hide hTY; clear hTY
                  have HQ := hide hq; clear hq hnm hzi
                  obtain ⟨A', c', rfl⟩ := hT.pairsBForm 3 rfl
                  rw [dec_length] at hT ⊢
                  go_wp2
                  go_quiet (fail)
                  have hTq := hT.drewN nq
                  clear t0 t1 n0 hT hneg
                  generalize w2.drewN nq = wq at *
                  go_wp2
                  refine region_tail (fun wx => Holds w wx _) 8 (by kernel_rfl) (by kernel_rfl) hTq.drew ?_
                  simp only [List.take_succ_cons, List.take_zero, List.drop_succ_cons, List.drop_zero]
                  iterate 8
                    apply q_step
                    · go_simp
                    · intro wx hx
                      have t0 := hx.cell 0 (j := 0) rfl rfl
                      have t1 := hx.cell 0 (j := 1) rfl rfl
                      go_simp
                      try exact rfl
                  refine wpQuiet_nil ?_
                  intro w4 hx4
                  have n0 := hx4.cell 2 rfl (nv_get (nmF T.1) (i := f a * 16 + f' b) (by omega))
                  have n1 := hx4.frozen 2 rfl (f a * 16 + f' b)
                  have hS := hx4.set 2 rfl (f a * 16 + f' b) (.int .i64 (T.1.length : Nat))
                  rw [HQ.out] at hS
                  have t0 := hS.cell 0 (j := 0) rfl rfl
                  have t1 := hS.cell 0 (j := 1) rfl rfl
                  clear hTq
                  go_wp2_with (at_builtin; refine appBp (hS.alloc _) 3 rfl w4.heap.size [(f a, f' b)] 76 ?_ ?_ rfl _ _ rfl rfl rfl ?_)
                  · exact heap_at _ _ _ (by simp)
                  · rw [dec_length]; simp only [List.length_cons, List.length_nil]; omega
                  intro v' w5 hH5
                  clear t0 t1 n0 n1 hx4 hS
                  go_wp2
                  go_roundw
                  case rel =>
                    refine ⟨1, by omega, by go_num, ?_⟩
                    rw [HST.out, badd_new HTY.out]
                    show Holds w w5 [_, pBlk _ (nv (nmF (T.1 ++ [bF f f' X]))) _, pPairsB v' (dec (T.1 ++ [bF f f' X])), _, _, _]
                    rw [DD.out.1]
                    exact hH5.tail
                  case measure => simp [intOf]
                · have hnm : (bF f f' X) ∈ T.1 := (HIT.out.mem _).1 hTY
                  have hneg : decide (nmF T.1 (f a * 16 + f' b) < 0) = false := by
                    rw [hzi]
                    exact decide_eq_false fun h => nmF_lt.1 h hnm
                  have HTY := hide hTY; clear hTY hnm hzi
                  go_wp2
                  go_quiet (fail)
                  have hTq := hT.drewN nq
                  clear t0 t1 n0 hT hneg
                  go_wp2
                  go_roundw
                  case rel =>
                    refine ⟨1, by omega, by go_num, ?_⟩
                    rw [HST.out, badd_old HTY.out]
                    exact hTq.tail
                  case measure => simp [intOf]

              · obtain rfl := hi1
                have hst : bst (bF f f') (bF g g') S X 2 = badd (bst (bF f f') (bF g g') S X 1) (bF g g' X) := rfl
                generalize bst (bF f f') (bF g g') S X 1 = T at *
                have HIT := hide hIT; clear hIT
                have HST := hide hst; clear hst
                go_wp2
                refine region_tail (fun wx => Holds w wx _) 11 (by kernel_rfl) (by kernel_rfl) hT.drew ?_
                simp only [List.take_succ_cons, List.take_zero, List.drop_succ_cons, List.drop_zero]
                iterate 11
                  apply q_step
                  · go_simp
                  · intro wx hx
                    have q1 := hx.cell 1 (j := 0) rfl rfl
                    have q2 := hx.cell 1 (j := 1) rfl rfl
                    have c3 := hx.cell 6 rfl (dv_w m f g ha16)
                    have c4 := hx.cell 5 rfl (dv_w n f' g' hb16)
                    go_simp
                    try exact rfl
                refine wpQuiet_nil ?_
                intro w3 hx3
                have c0 := hx3.cell 0 (j := 0) rfl rfl
                have fr0 := hx3.frozen 0 rfl 0
                have c1 := hx3.cell 0 (j := 1) rfl rfl
                have fr1 := hx3.frozen 0 rfl 1
                clear hT
                have hT := (hx3.set 0 rfl 0 (.int .u8 (g a : Nat))).set 0 rfl 1 (.int .u8 (g' b : Nat))
                replace hT : Holds w ((w3.setCell ⟨G6, 0, none⟩ (.int .u8 (g a : Nat))).setCell ⟨G6, 1, none⟩ (.int .u8 (g' b : Nat))) [pBlk G6 #[.int .u8 (g a : Nat), .int .u8 (g' b : Nat)] 76, pBlk G5 #[.int .u8 (a : Nat), .int .u8 (b : Nat)] 76, pBlk (w.heap.size + 1 + 1 + 1 + 1) (nv (nmF T.1)) 73, pPairsB u11 (dec T.1), pBlk (w.heap.size + 1 + 1) (nv fun _ => 0) 73, pBlk (w.heap.size + 1) (dv n f' g') 30, pBlk w.heap.size (dv m f g) 30] := hT
                go_wp2_with fail
                clear c0 c1 fr0 fr1 hx3
                generalize (w3.setCell ⟨G6, 0, none⟩ (.int .u8 (g a : Nat))).setCell ⟨G6, 1, none⟩ (.int .u8 (g' b : Nat)) = w6 at *
                have hzi : g a * 16 + g' b = bF g g' X := EE.out.2.1
                have hx16 : g a < 16 := EE.out.2.2.1
                have hy16 : g' b < 16 := EE.out.2.2.2
                have hz256 := HBX.out.2
                have hxi : ((g a : Nat) : Int) < 16 := by omega
                have hyi : ((g' b : Nat) : Int) < 16 := by omega
                have t0 := hT.cell 0 (j := 0) rfl rfl
                have t1 := hT.cell 0 (j := 1) rfl rfl
                have n0 := hT.cell 2 rfl (nv_get (nmF T.1) (i := g a * 16 + g' b) (by omega))
                have hTl := HIT.out.length_le
                rcases hTY : T.2 (bF g g' X) with _ | _
                · have hnm : (bF g g' X) ∉ T.1 := fun h => by rw [(HIT.out.mem _).2 h] at hTY; cases hTY
                  have hneg : decide (nmF T.1 (g a * 16 + g' b) < 0) = true := by rw [hzi]; simpa using nmF_lt.2 hnm
                  have hq : (nv (nmF T.1)).setIfInBounds (g a * 16 + g' b) (.int .i64 (T.1.length : Nat)) = nv (nmF (T.1 ++ [bF g g' X])) := by rw [nv_set, hzi]; exact congrArg nv (nmF_add hnm)
                  have HTY := hide hTY; clear hTY
                  have HQ := hide hq; clear hq hnm hzi
                  obtain ⟨A', c', rfl⟩ := hT.pairsBForm 3 rfl
                  rw [dec_length] at hT ⊢
                  go_wp2
                  go_quiet (fail)
                  have hTq := hT.drewN nq
                  clear t0 t1 n0 hT hneg
                  generalize w6.drewN nq = wq at *
                  go_wp2
                  refine region_tail (fun wx => Holds w wx _) 8 (by kernel_rfl) (by kernel_rfl) hTq.drew ?_
                  simp only [List.take_succ_cons, List.take_zero, List.drop_succ_cons, List.drop_zero]
                  iterate 8
                    apply q_step
                    · go_simp
                    · intro wx hx
                      have t0 := hx.cell 0 (j := 0) rfl rfl
                      have t1 := hx.cell 0 (j := 1) rfl rfl
                      go_simp
                      try exact rfl
                  refine wpQuiet_nil ?_
                  intro w4 hx4
                  have n0 := hx4.cell 2 rfl (nv_get (nmF T.1) (i := g a * 16 + g' b) (by omega))
                  have n1 := hx4.frozen 2 rfl (g a * 16 + g' b)
                  have hS := hx4.set 2 rfl (g a * 16 + g' b) (.int .i64 (T.1.length : Nat))
                  rw [HQ.out] at hS
                  have t0 := hS.cell 0 (j := 0) rfl rfl
                  have t1 := hS.cell 0 (j := 1) rfl rfl
                  clear hTq
                  go_wp2_with (at_builtin; refine appBp (hS.alloc _) 3 rfl w4.heap.size [(g a, g' b)] 76 ?_ ?_ rfl _ _ rfl rfl rfl ?_)
                  · exact heap_at _ _ _ (by simp)
                  · rw [dec_length]; simp only [List.length_cons, List.length_nil]; omega
                  intro v' w5 hH5
                  clear t0 t1 n0 n1 hx4 hS
                  go_wp2
                  go_roundw
                  case rel =>
                    refine ⟨2, by omega, by go_num, ?_⟩
                    rw [HST.out, badd_new HTY.out]
                    show Holds w w5 [_, pBlk _ (nv (nmF (T.1 ++ [bF g g' X]))) _, pPairsB v' (dec (T.1 ++ [bF g g' X])), _, _, _]
                    rw [DD.out.2]
                    exact hH5.tail
                  case measure => simp [intOf]
                · have hnm : (bF g g' X) ∈ T.1 := (HIT.out.mem _).1 hTY
                  have hneg : decide (nmF T.1 (g a * 16 + g' b) < 0) = false := by
                    rw [hzi]
                    exact decide_eq_false fun h => nmF_lt.1 h hnm
                  have HTY := hide hTY; clear hTY hnm hzi
                  go_wp2
                  go_quiet (fail)
                  have hTq := hT.drewN nq
                  clear t0 t1 n0 hT hneg
                  go_wp2
                  go_roundw
                  case rel =>
                    refine ⟨2, by omega, by go_num, ?_⟩
                    rw [HST.out, badd_old HTY.out]
                    exact hTq.tail
                  case measure => simp [intOf]

            · obtain rfl : i = 2 := by omega
              have hn2 := HNX.out
              rw [← hn2] at hH
              have hln : k + 1 ≤ (F (k + 1)).1.length := by
                have h1 := (bst_pre (bF f f') (bF g g') S X 2).length_le
                rw [hn2]; omega
              clear hi hi2 hn2
              go_wp2
              refine ⟨?_, ?measure⟩
              iterate 63 apply Exists.intro
              refine ⟨?rel, rfl⟩
              case rel =>
                exact ⟨k + 1, hln, by go_num, hH.tail⟩
              case measure => simp [intOf]; omega
        · have hR := FE.out k (by omega) (by omega)
          have hkk : (F k).1.length = k := by omega
          obtain ⟨A', c', rfl⟩ := hH.pairsBForm 1 rfl
          have hRl : R.length = k := by rw [hR]; exact hkk
          have hdl : (dec (F k).1).length = k := by rw [dec_length]; exact hkk
          rw [hdl] at hH ⊢
          rw [← hR] at hH
          have HRL := hide hRl
          clear hR hkk hdl hRl hI hle hk hkl
          go_wp2
          refine region_tail (fun wx => Holds w wx _) 3 (by kernel_rfl) (by kernel_rfl) hH.drew ?_
          simp only [List.take_succ_cons, List.take_zero, List.drop_succ_cons, List.drop_zero]
          iterate 3
            apply q_step
            · go_simp
            · intro wx hx
              have cc := hx.cells 0 rfl
              go_simp
              try exact rfl
          refine wpQuiet_nil ?_
          intro w3 hx3
          have rr := hx3.rowOk 2 rfl (nv_size _)
          go_wp2
          have H2 := hx3.setRow 2 rfl (nv (nmF R))
          refine res_agg2b (p := 9) (t := 8) (g := w.heap.size + 1 + 1) aggN (nv_size _) rfl rfl rfl rfl (H2.at 2 rfl) ⟨_, rfl, H2.low, ?_⟩
          have hr := H2.row 1 rfl
          rw [dec_length] at hr
          exact hr
end Go.Proofs.Ytjhpkibeddnbfaa

namespace Go.Proofs.Ytjhpkibeddnbfaa
open Go.RowKit

theorem bfs_all {P : Nat → Prop} {p q : Nat → Nat} {z : Nat} (h0 : P z) (hp : ∀ x, P x → P (p x)) (hq : ∀ x, P x → P (q x)) (i : Nat) : ∀ x ∈ (bfs p q z i).1, P x := by
  have add : ∀ (s : List Nat × (Nat → Bool)) (y : Nat), (∀ x ∈ s.1, P x) → P y → ∀ x ∈ (badd s y).1, P x := by
    intro s y hs hy x hx
    unfold badd at hx
    split at hx
    · exact hs x hx
    · rcases List.mem_append.1 hx with c | c
      · exact hs x c
      · simp at c; subst c; exact hy
  induction i with
  | zero => intro x hx; simp [bfs] at hx; subst hx; exact h0
  | succ i ih =>
    rw [bfs]
    rcases e : (bfs p q z i).1[i]? with _ | y
    · exact ih
    · have hy := ih y (List.mem_of_getElem? e)
      exact add _ _ (add _ _ ih (hp y hy)) (hq y hy)
/-- all darts of a dessin have what 0 has and steps keep -/
theorem DesN.all {f g : Nat → Nat} {m : Nat} (hd : DesN f g m) {C : Nat → Prop} (h0 : C 0) (hf : ∀ x, x < m → C x → C (f x)) (hg : ∀ x, x < m → C x → C (g x)) : ∀ x, x < m → C x := by
  intro x hx
  have hall := bfs_all (P := fun x => x < m ∧ C x) (p := f) (q := g) (z := 0) ⟨hd.pos, h0⟩ (fun x h => ⟨hd.bf.1 x h.1, hf x h.1 h.2⟩) (fun x h => ⟨hd.bg.1 x h.1, hg x h.1 h.2⟩) 16
  have hn := (bfs_inv hd.bf.1 hd.bg.1 hd.pos 16).nodup
  have hl : (bfs f g 0 16).1.length = m := hd.conn
  by_cases hm : x ∈ (bfs f g 0 16).1
  · exact (hall x hm).2
  · have := nodup_le (x :: (bfs f g 0 16).1) (List.range m) (List.nodup_cons.2 ⟨hm, hn⟩) fun y hy => by
      rcases List.mem_cons.1 hy with rfl | hy
      · exact List.mem_range.2 hx
      · exact List.mem_range.2 (hall y hy).1
    simp only [List.length_cons, List.length_range] at this
    omega
def fsts (l : List Nat) : List Nat := l.map (· / 16)
theorem fsts_length (l : List Nat) : (fsts l).length = l.length := by unfold fsts; simp
theorem fsts_snoc (l : List Nat) (z : Nat) : fsts (l ++ [z]) = fsts l ++ [z / 16] := by unfold fsts; simp
theorem dup_erase : ∀ {l : List Nat}, ¬ l.Nodup → ∃ x, x ∈ l.erase x := by
  intro l
  induction l with
  | nil => intro h; exact absurd List.nodup_nil h
  | cons a l ih =>
    intro h
    by_cases c : a ∈ l
    · exact ⟨a, by rw [List.erase_cons_head]; exact c⟩
    · have hn : ¬ l.Nodup := fun hn => h (List.nodup_cons.2 ⟨c, hn⟩)
      obtain ⟨x, hx⟩ := ih hn
      by_cases e : a = x
      · subst e; exact absurd (List.mem_of_mem_erase hx) c
      · refine ⟨x, ?_⟩
        rw [List.erase_cons_tail (by simpa using e)]
        exact List.mem_cons_of_mem _ hx
section
variable {f g f' g' : Nat → Nat} {m n : Nat}
theorem prs_lt (hd : DesN f g m) (he : DesN f' g' n) {y : Nat} (hy : y < 16) (i : Nat) : ∀ z ∈ (bfs (bF f f') (bF g g') y i).1, z / 16 < m := by
  have hq : ∀ z, f' (z % 16) < 16 := fun z => he.black.lt16 (by omega)
  have hq' : ∀ z, g' (z % 16) < 16 := fun z => he.white.lt16 (by omega)
  exact bfs_all (P := fun z => z / 16 < m) (by have := hd.pos; omega) (fun z h => by rw [bF_1 (hq z)]; exact hd.bf.1 _ h) (fun z h => by rw [bF_1 (hq' z)]; exact hd.bg.1 _ h) i
theorem prs_cover (hd : DesN f g m) (he : DesN f' g' n) {y : Nat} (hy : y < 16) : ∀ x, x < m → x ∈ fsts (bfs (bF f f') (bF g g') y 256).1 := by
  have hq : ∀ z, f' (z % 16) < 16 := fun z => he.black.lt16 (by omega)
  have hq' : ∀ z, g' (z % 16) < 16 := fun z => he.white.lt16 (by omega)
  have hB := fun z hz => bF_lt hd.black he.black z hz
  have hW := fun z hz => bF_lt hd.white he.white z hz
  have hz0 : y ∈ (bfs (bF f f') (bF g g') y 256).1 := (bfs_pre' _ _ _ (show 0 ≤ 256 by omega)).subset (by simp [bfs])
  refine hd.all ?_ ?_ ?_
  · exact List.mem_map.2 ⟨y, hz0, by omega⟩
  · intro x _ hx
    obtain ⟨z, hz, e⟩ := List.mem_map.1 hx
    exact List.mem_map.2 ⟨_, (bfs_clos hB hW (by omega) (Nat.le_refl _) hz).1, by rw [bF_1 (hq z), e]⟩
  · intro x _ hx
    obtain ⟨z, hz, e⟩ := List.mem_map.1 hx
    exact List.mem_map.2 ⟨_, (bfs_clos hB hW (by omega) (Nat.le_refl _) hz).2, by rw [bF_1 (hq' z), e]⟩
/-- as many pairs as darts: no dart in two of them -/
theorem prs_graph (hd : DesN f g m) (he : DesN f' g' n) {y : Nat} (hy : y < 16) : (bfs (bF f f') (bF g g') y 256).1.length = m ↔ (fsts (bfs (bF f f') (bF g g') y 256).1).Nodup := by
  have hlt := prs_lt hd he hy 256
  have hcv := prs_cover hd he hy
  generalize (bfs (bF f f') (bF g g') y 256).1 = R at *
  have hsub : ∀ x ∈ fsts R, x ∈ List.range m := fun x hx => by
    obtain ⟨z, hz, e⟩ := List.mem_map.1 hx
    exact List.mem_range.2 (by rw [← e]; exact hlt z hz)
  constructor
  · intro hl
    refine Classical.byContradiction fun hn => ?_
    obtain ⟨x, hx⟩ := dup_erase hn
    have := nodup_le (List.range m) ((fsts R).erase x) List.nodup_range fun y hy => by
      have hy' := hcv y (List.mem_range.1 hy)
      by_cases e : y = x
      · subst e; exact hx
      · exact (List.mem_erase_of_ne e).2 hy'
    rw [List.length_erase_of_mem (List.mem_of_mem_erase hx), fsts_length, List.length_range] at this
    have : 0 < R.length := by
      rw [← fsts_length]; exact List.length_pos_of_mem (List.mem_of_mem_erase hx)
    omega
  · intro hn
    have h1 := nodup_le (fsts R) (List.range m) hn hsub
    have h2 := nodup_le (List.range m) (fsts R) List.nodup_range fun x hx => hcv x (List.mem_range.1 hx)
    rw [fsts_length, List.length_range] at h1 h2
    omega
end
/-- what the pairs give a dart, or -1 -/
def sndF (l : List Nat) (x : Nat) : Int := match l.find? (fun z => z / 16 == x) with
  | some z => ((z % 16 : Nat) : Int)
  | none => -1
theorem sndF_none {l : List Nat} {x : Nat} (h : x ∉ fsts l) : sndF l x = -1 := by
  unfold sndF
  have : l.find? (fun z => z / 16 == x) = none := List.find?_eq_none.2 fun z hz => by simpa using fun e => h (List.mem_map.2 ⟨z, hz, e⟩)
  rw [this]
theorem sndF_add {l : List Nat} {z : Nat} (h : z / 16 ∉ fsts l) : hset (sndF l) (z / 16) ((z % 16 : Nat) : Int) = sndF (l ++ [z]) := by
  funext x
  unfold hset
  by_cases c : x = z / 16
  · subst c
    rw [if_pos rfl]
    unfold sndF
    have : l.find? (fun y => y / 16 == z / 16) = none := List.find?_eq_none.2 fun y hy => by simpa using fun e => h (List.mem_map.2 ⟨y, hy, e⟩)
    rw [List.find?_append, this]
    simp
  · rw [if_neg c]
    unfold sndF
    rw [List.find?_append]
    rcases l.find? (fun y => y / 16 == x) with _ | y
    · have : ¬ z / 16 = x := fun e => c e.symm
      simp [this]
    · rfl
theorem sndF_mem {l : List Nat} {z : Nat} (hn : (fsts l).Nodup) (h : z ∈ l) : sndF l (z / 16) = ((z % 16 : Nat) : Int) := by
  induction l with
  | nil => simp at h
  | cons a l ih =>
    have hc : a / 16 ∉ fsts l ∧ (fsts l).Nodup := List.nodup_cons.1 hn
    unfold sndF
    rcases List.mem_cons.1 h with rfl | h
    · simp
    · have : ¬ a / 16 = z / 16 := fun e => hc.1 (List.mem_map.2 ⟨z, h, e.symm⟩)
      rw [List.find?_cons_of_neg (by simpa using this)]
      exact ih hc.2 h
theorem sndF_ge {l : List Nat} {x : Nat} (h : x ∈ fsts l) : 0 ≤ sndF l x := by
  unfold sndF
  rcases e : l.find? (fun z => z / 16 == x) with _ | z
  · obtain ⟨z, hz, e'⟩ := List.mem_map.1 h
    have := List.find?_eq_none.1 e z hz
    simp [e'] at this
  · simp only; omega
theorem sndF_lt {l : List Nat} {x : Nat} : sndF l x < 16 := by
  unfold sndF
  split
  · omega
  · omega
/-- one step of the model's search, as one of the pairs' search -/
theorem snd_new {l : List Nat} {z : Nat} (h : z / 16 ∉ fsts l) : z ∉ l := fun hz => h (List.mem_map.2 ⟨z, hz, rfl⟩)
theorem snd_same {l : List Nat} {z : Nat} (hn : (fsts l).Nodup) (h : z / 16 ∈ fsts l) : z ∈ l ↔ sndF l (z / 16) = ((z % 16 : Nat) : Int) := by
  constructor
  · exact sndF_mem hn
  · intro e
    obtain ⟨y, hy, e'⟩ := List.mem_map.1 h
    have h2 := sndF_mem hn hy
    rw [e', e] at h2
    have : y = z := by omega
    rw [← this]; exact hy
theorem snd_clash {l r : List Nat} {z : Nat} (h : z / 16 ∈ fsts l) (hz : z ∉ l) (hp : l ++ [z] <+: r) : ¬ (fsts r).Nodup := by
  intro hn
  obtain ⟨t, ht⟩ := hp
  have : (fsts (l ++ [z])).Nodup := by
    rw [← ht] at hn
    unfold fsts at hn ⊢
    rw [List.map_append] at hn
    exact (List.nodup_append.1 hn).1
  rw [fsts_snoc, List.nodup_append] at this
  exact this.2.2 _ h _ (by simp) rfl
/-- the list of the images -/
def morL (l : List Nat) (m : Nat) : List Nat := (List.range m).map fun x => (sndF l x).toNat
theorem morL_length (l : List Nat) (m : Nat) : (morL l m).length = m := by unfold morL; simp
/-- numbers in a row -/
def rv (h : Nat → Int) (m : Nat) : List Value := (List.range m).map fun x => Value.int .i64 (h x)
theorem rv_length (h : Nat → Int) (m : Nat) : (rv h m).length = m := by unfold rv; simp
theorem rv_at (h : Nat → Int) {m j : Nat} (hj : j < m) : (rv h m)[j]? = some (.int .i64 (h j)) := by unfold rv; simp [hj]
theorem rv_set (h : Nat → Int) (m j : Nat) (v : Int) : (rv h m).set j (.int .i64 v) = rv (hset h j v) m := by
  apply List.ext_getElem?
  intro i
  rw [List.getElem?_set]
  by_cases c : i < m
  · rw [rv_at _ c]
    by_cases e : j = i
    · subst e; rw [if_pos rfl, if_pos (by rw [rv_length]; exact c), rv_at _ c]; unfold hset; rw [if_pos rfl]
    · rw [if_neg e, rv_at _ c]; unfold hset; rw [if_neg (fun h => e h.symm)]
  · have h1 : ∀ h' : Nat → Int, (rv h' m)[i]? = none := fun h' => List.getElem?_eq_none (by rw [rv_length]; omega)
    rw [h1, h1]
    by_cases e : j = i
    · subst e; rw [if_pos rfl, if_neg (by rw [rv_length]; omega)]
    · rw [if_neg e]
theorem rv_congr {h h' : Nat → Int} {m : Nat} (e : ∀ x, x < m → h x = h' x) : rv h m = rv h' m := by
  unfold rv
  exact List.map_congr_left fun x hx => by rw [e x (List.mem_range.1 hx)]
theorem rv_zero (m : Nat) : List.replicate m (Value.int .i64 0) = rv (fun _ => 0) m := by
  unfold rv
  rw [List.map_const', List.length_range]
theorem rv_nums {l : List Nat} {m : Nat} (h : ∀ x, x < m → 0 ≤ sndF l x) : rv (sndF l) m = nums (morL l m) := by
  unfold rv nums morL
  rw [List.map_map]
  exact List.map_congr_left fun x hx => by
    have := h x (List.mem_range.1 hx)
    simp only [Function.comp]
    rw [Int.toNat_of_nonneg this]
/-- seconds laid down by firsts -/
def secT (l : List Nat) : Nat → Nat → Int
  | 0 => fun _ => 0
  | k + 1 => hset (secT l k) (l.getD k 0 / 16) ((l.getD k 0 % 16 : Nat) : Int)
theorem secT_at {l : List Nat} (hn : (fsts l).Nodup) {k : Nat} (hk : k ≤ l.length) : ∀ j, j < k → secT l k (l.getD j 0 / 16) = ((l.getD j 0 % 16 : Nat) : Int) := by
  have gd : ∀ j, j < l.length → ∀ h : j < (fsts l).length, (fsts l)[j] = l.getD j 0 / 16 := fun j hj h => by
    rw [List.getD_eq_getElem?_getD, List.getElem?_eq_getElem hj]
    simp [fsts]
  induction k with
  | zero => intro j hj; omega
  | succ k ih =>
    intro j hj
    show hset (secT l k) (l.getD k 0 / 16) ((l.getD k 0 % 16 : Nat) : Int) (l.getD j 0 / 16) = _
    unfold hset
    by_cases c : j = k
    · subst c; rw [if_pos rfl]
    · rw [if_neg, ih (by omega) j (by omega)]
      intro e
      have h1 := gd j (by omega) (by rw [fsts_length]; omega)
      have h2 := gd k (by omega) (by rw [fsts_length]; omega)
      exact (List.pairwise_iff_getElem.1 hn) j k (by rw [fsts_length]; omega) (by rw [fsts_length]; omega) (by omega) (by rw [h1, h2, e])
theorem secT_all {l : List Nat} {m : Nat} (hn : (fsts l).Nodup) (hc : ∀ x, x < m → x ∈ fsts l) : rv (secT l l.length) m = rv (sndF l) m := by
  refine rv_congr fun x hx => ?_
  obtain ⟨z, hz, e⟩ := List.mem_map.1 (hc x hx)
  obtain ⟨j, hj, e2⟩ := List.getElem_of_mem hz
  have h1 := secT_at hn (Nat.le_refl _) j hj
  have : l.getD j 0 = z := by rw [List.getD_eq_getElem?_getD, List.getElem?_eq_getElem hj, ← e2]; rfl
  rw [this] at h1
  have h2 := sndF_mem hn hz
  rw [e] at h1 h2
  rw [h1, h2]
end Go.Proofs.Ytjhpkibeddnbfaa

namespace Go.Proofs.Ytjhpkibeddnbfaa
open Go.RowKit

theorem Own1.len {B : Nat} {w : World} {A : Option Addr} {n c : Nat} {l : List Nat} (h : Own1 B w (.slice A n c) l) : n = l.length := by
  rcases h.2 with ⟨e, h0⟩ | ⟨g, cap, cur, e, _⟩
  · injection e with _ e _; omega
  · injection e
theorem Own1.at {B : Nat} {w : World} {A : Option Addr} {n c k : Nat} {l : List Nat} (h : Own1 B w (.slice A n c) l) (hk : k < l.length) :
    ∃ g, A = some ⟨g, 0, none⟩ ∧ B ≤ g ∧ g < w.heap.size ∧ w.cell? ⟨g, k, none⟩ = some (.int .i64 (l[k] : Nat)) ∧ w.frozen? ⟨g, k, none⟩ = false := by
  rcases h.2 with ⟨_, h0⟩ | ⟨g, cap, cur, e, hB, hh, h1, h2, h3, h4⟩
  · omega
  · injection e with e1 e2 e3
    have hlt : g < w.heap.size := (Array.getElem?_eq_some_iff.1 hh).1
    refine ⟨g, e1, hB, hlt, ?_, by simp [World.frozen?, hh]⟩
    rw [cell_of_cells, cellsOf_heap hh]
    have : (cur.toList.take (l.length * 1))[k]? = (nums l)[k]? := by rw [h4]
    rw [List.getElem?_take_of_lt (by omega), Array.getElem?_toList] at this
    rw [this]
    simp [nums, hk]

set_option maxRecDepth 100000 in
set_option maxHeartbeats 400000 in
theorem eqInt64S_same (l : List Nat) (A A' : Option Addr) (c c' B B' : Nat) (hl : l.length ≤ 140737488351232) (w : World) (h : Own1 B w (.slice A l.length c) l) (h' : Own1 B' w (.slice A' l.length c') l) :
    Calls Try.prog 33 #[.slice A l.length c, .slice A' l.length c'] w fun e w' => e = .returned (.bool true) ∧ Below w.heap.size w w' := by
  have H := hide h; clear h
  have H' := hide h'; clear h'
  have hne : ((l.length : Int) != (l.length : Int)) = false := by simp
  go_enter Try.func33, Try.ntmps33
  go_wp2
  go_loopw [5] (fun i wr => ∃ k : Nat, k ≤ l.length ∧ i = .int .i64 k ∧ Below w.heap.size w wr) (fun i _ => l.length - (intOf i).toNat)
  case atStart => exact ⟨0, by omega, rfl, Below.refl _ _⟩
  case round =>
    obtain ⟨k, hk, rfl, hb⟩ := hrel
    by_cases hlt : k < l.length
    · obtain ⟨g, rfl, _, hg, h1, _⟩ := H.out.at hlt
      obtain ⟨g', rfl, _, hg', h1', _⟩ := H'.out.at hlt
      have c1 : wr.cell? ⟨g, k, none⟩ = some (.int .i64 (l[k] : Nat)) := (hb.cell (p := ⟨g, k, none⟩) hg).trans h1
      have c1' : wr.cell? ⟨g', k, none⟩ = some (.int .i64 (l[k] : Nat)) := (hb.cell (p := ⟨g', k, none⟩) hg').trans h1'
      clear h1 h1'
      generalize l[k] = x at *
      have hx : ((x : Int) != (x : Int)) = false := by simp
      go_wp2
      go_region
      all_goals go_wp2
      all_goals go_roundw
      case rel => exact ⟨k + 1, by omega, by go_num, hb.drew⟩
      case measure => simp [intOf]; omega
    · go_wp2
      go_ret
      exact ⟨rfl, hb⟩

/-- k, k + 1, .. -/
def marks (k n : Nat) : List Nat := (List.range n).map fun i => k + i
theorem marks_length (k n : Nat) : (marks k n).length = n := by unfold marks; simp
theorem marks_get (k n i : Nat) (h : i < n) : (marks k n)[i]? = some (k + i) := by unfold marks; simp [h]

theorem own_set {B : Nat} {w : World} {g n c k x : Nat} {l : List Nat} (h : Own1 B w (.slice (some ⟨g, 0, none⟩) n c) l) (hk : k < l.length) : Own1 B (w.setCell ⟨g, k, none⟩ (.int .i64 (x : Nat))) (.slice (some ⟨g, 0, none⟩) n c) (l.set k x) := by
  unfold Own1 at *
  rcases h.2 with ⟨e, _⟩ | ⟨g', cap, cur, e, hB, hh, h1, h2, h3, h4⟩
  · cases e
  · injection e with e1 e2 e3
    have : g = g' := by injection e1 with e1; injection e1
    subst this
    refine ⟨by simp [nums], .inr ⟨g, cap, cur.setIfInBounds k (.int .i64 (x : Nat)), by rw [e2, e3, List.length_set], hB, heap_setCell_same w g k cur _ _ hh, by simpa using h1, h2, by simpa using h3, ?_⟩⟩
    simp only [Array.toList_setIfInBounds, List.length_set, List.take_set]
    rw [h4]
    simp [nums, List.map_set]

set_option maxRecDepth 100000 in
set_option maxHeartbeats 400000 in
theorem markInt64S_any (l : List Nat) (A : Option Addr) (c B k0 : Nat) (hl : l.length ≤ 140737488351232) (hk0 : k0 ≤ 140737488351232) (w : World) (h : Own1 B w (.slice A l.length c) l) :
    Calls Try.prog 34 #[.slice A l.length c, .int .i64 k0] w fun e w' => e = .returned (.int .i64 (k0 + l.length : Nat)) ∧ w.grownBy w' (Value.slice A l.length c).ownBlock ∧ Own1 B w' (.slice A l.length c) (marks k0 l.length) := by
  go_enter Try.func34, Try.ntmps34
  go_wp2
  go_loopw [1, 5] (fun q i wr => ∃ k : Nat, k ≤ l.length ∧ i = .int .i64 k ∧ q = .int .i64 (k0 + k : Nat) ∧ w.grownBy wr (Value.slice A l.length c).ownBlock ∧ Own1 B wr (.slice A l.length c) (marks k0 k ++ l.drop k)) (fun _ i _ => l.length - (intOf i).toNat)
  case atStart => exact ⟨0, by omega, rfl, by simp, grown_refl _ _, by simpa [marks] using h⟩
  case round =>
    obtain ⟨k, hk, rfl, rfl, hg, ho⟩ := hrel
    by_cases hlt : k < l.length
    · have hlen : (marks k0 k ++ l.drop k).length = l.length := by rw [List.length_append, marks_length, List.length_drop]; omega
      obtain ⟨g, hA, hgB, hglt, h1, h2⟩ := ho.at (k := k) (by omega)
      have hs := own_set (x := k0 + k) (hA ▸ ho) (k := k) (by omega)
      have hset : (marks k0 k ++ l.drop k).set k (k0 + k) = marks k0 (k + 1) ++ l.drop (k + 1) := by
        rw [List.set_append_right _ _ (by rw [marks_length]; omega), marks_length, Nat.sub_self, List.drop_eq_getElem_cons hlt, List.set_cons_zero]
        unfold marks
        rw [List.range_succ, List.map_append, List.append_assoc]; rfl
      rw [hset] at hs
      generalize (marks k0 k ++ l.drop k)[k] = y at h1
      have hg2 : w.grownBy (wr.setCell ⟨g, k, none⟩ (.int .i64 (k0 + k : Nat))) (Value.slice A l.length c).ownBlock := by rw [hA]; rw [hA] at hg; exact grown_setCell hg
      subst hA
      have HS := hide hs; clear hs
      have HG := hide hg2; clear hg2
      clear hset hlen ho hg
      have hcast : ((k0 + k : Nat) : Int) = (k0 : Int) + (k : Int) := by omega
      rw [hcast] at HS HG
      rw [hcast]
      clear hcast
      go_wp2
      go_roundw
      case rel => exact ⟨k + 1, by omega, by go_num, by go_num, HG.out, HS.out⟩
      case measure => simp [intOf]; omega
    · obtain rfl : k = l.length := by omega
      go_wp2
      go_ret
      exact ⟨rfl, hg, by simpa using ho⟩

set_option maxRecDepth 100000 in
set_option maxHeartbeats 400000 in
theorem heldInt64S_any (n : Nat) (A : Option Addr) (c B k0 : Nat) (hl : n ≤ 140737488351232) (hk0 : k0 ≤ 140737488351232) (w : World) (h : Own1 B w (.slice A n c) (marks k0 n)) :
    Calls Try.prog 35 #[.slice A n c, .int .i64 k0] w fun e w' => e = .returned (.int .i64 (k0 + n : Nat)) ∧ Below w.heap.size w w' := by
  have H := hide h; clear h
  go_enter Try.func35, Try.ntmps35
  go_wp2
  go_loopw [1, 5] (fun q i wr => ∃ k : Nat, k ≤ n ∧ i = .int .i64 k ∧ q = .int .i64 (k0 + k : Nat) ∧ wr = w) (fun _ i _ => n - (intOf i).toNat)
  case atStart => exact ⟨0, by omega, rfl, by simp, rfl⟩
  case round =>
    obtain ⟨k, hk, rfl, rfl, rfl⟩ := hrel
    have hcast : ((k0 + k : Nat) : Int) = (k0 : Int) + (k : Int) := by omega
    by_cases hlt : k < n
    · have hlen : k < (marks k0 n).length := by rw [marks_length]; exact hlt
      obtain ⟨g, rfl, _, _, h1, _⟩ := H.out.at hlen
      have hv : (marks k0 n)[k] = k0 + k := by have := marks_get k0 n k hlt; rw [List.getElem?_eq_getElem hlen] at this; exact Option.some.inj this
      rw [hv, hcast] at h1
      rw [hcast]
      clear hv hcast hlen
      have hne : (((k0 : Int) + (k : Int)) != ((k0 : Int) + (k : Int))) = false := by simp
      go_wp2
      go_roundw
      case rel => exact ⟨k + 1, by omega, by go_num, by go_num, by first | rfl | trivial⟩
      case measure => simp [intOf]; omega
    · obtain rfl : k = n := by omega
      clear hcast
      go_wp2
      go_ret
      exact ⟨rfl, Below.refl _ _⟩

/-- a list of lists whose slices are known -/
structure Own2v (B : Nat) (w : World) (v : Value) (vs : List Value) (ls : List (List Nat)) : Prop where
  len : vs.length = ls.length
  row : w.ownsRow B 48 1 v vs.length vs
  each : ∀ (i : Nat) (u : Value) (l : List Nat), vs[i]? = some u → ls[i]? = some l → Own1 B w u l
  dist : ∀ (i j : Nat) (u u' : Value), i < j → vs[i]? = some u → vs[j]? = some u' → u.ownBlock = none ∨ u.ownBlock ≠ u'.ownBlock
theorem own2v {B : Nat} {w : World} {v : Value} {ls : List (List Nat)} : Own2 B w v ls ↔ ∃ vs, Own2v B w v vs ls := ⟨fun ⟨vs, a, b, c, d⟩ => ⟨vs, a, b, c, d⟩, fun ⟨vs, h⟩ => ⟨vs, h.len, h.row, h.each, h.dist⟩⟩
theorem Own2v.below {B C : Nat} {w w' : World} {v : Value} {vs : List Value} {ls : List (List Nat)} (h : Own2v B w v vs ls) (hb : Below C w w') (hC : w.heap.size ≤ C) : Own2v B w' v vs ls := by
  have hg := grown_of_below (hb.mono hC) none
  have far : ∀ u : Value, u.ownBlock = none ∨ u.ownBlock ≠ none := fun u => Classical.em _
  exact ⟨h.len, h.row.kept hg (far _), fun i u l a b => (h.each i u l a b).kept hg (far _), h.dist⟩
/-- what lies below C stays, whatever is written from C on -/
theorem Own2v.lower {B C : Nat} {w w' : World} {v : Value} {vs : List Value} {ls : List (List Nat)} (h : Own2v B w v vs ls) (hb : Below C w w') (hC : ∀ k, v.ownBlock = some k → k < C) (hC' : ∀ (i : Nat) (u : Value), vs[i]? = some u → ∀ k, u.ownBlock = some k → k < C) : Own2v B w' v vs ls := by
  have key : ∀ {e : TypeId} {s n : Nat} {u : Value} {xs : List Value}, w.ownsRow B e s u n xs → (∀ k, u.ownBlock = some k → k < C) → w'.ownsRow B e s u n xs := by
    intro e s n u xs hu hk
    refine ⟨hu.1, ?_⟩
    rcases hu.2 with c | ⟨g, cap, cur, rfl, h1, h2, h3⟩
    · exact .inl c
    · exact .inr ⟨g, cap, cur, rfl, h1, by rw [hb.block g (hk g rfl)]; exact h2, h3⟩
  exact ⟨h.len, key h.row hC, fun i u l a b => key (h.each i u l a b) (hC' i u a), h.dist⟩
/-- the i-th slice out of the row -/
theorem Own2v.at {B : Nat} {w : World} {A : Option Addr} {n c i : Nat} {vs : List Value} {ls : List (List Nat)} (h : Own2v B w (.slice A n c) vs ls) (hi : i < ls.length) :
    ∃ g A' c', A = some ⟨g, 0, none⟩ ∧ g < w.heap.size ∧ vs[i]? = some (.slice A' ls[i].length c') ∧ w.cell? ⟨g, i, none⟩ = some (.slice A' ls[i].length c') ∧ Own1 B w (.slice A' ls[i].length c') ls[i] := by
  have hv : i < vs.length := by rw [h.len]; exact hi
  have h1 := h.each i _ _ (List.getElem?_eq_getElem hv) (List.getElem?_eq_getElem hi)
  obtain ⟨A', c', e⟩ := own_slice h1
  rcases h.row.2 with ⟨_, h0⟩ | ⟨g, cap, cur, e', hB, hh, h2, h3, h4, h5⟩
  · omega
  · injection e' with e1 e2 e3
    have hlt : g < w.heap.size := (Array.getElem?_eq_some_iff.1 hh).1
    refine ⟨g, A', c', e1, hlt, by rw [List.getElem?_eq_getElem hv, e], ?_, by rw [← e]; exact h1⟩
    rw [cell_of_cells, cellsOf_heap hh]
    have : (cur.toList.take (vs.length * 1))[i]? = vs[i]? := by rw [h5]
    rw [List.getElem?_take_of_lt (by omega), Array.getElem?_toList] at this
    rw [this, List.getElem?_eq_getElem hv, e]
/-- one row is turned -/
theorem Own2v.upd {B i : Nat} {w w' : World} {v u : Value} {l : List Nat} {vs : List Value} {ls : List (List Nat)} (h : Own2v B w v vs ls) (hi : i < ls.length) (hu : vs[i]? = some u) (hg : w.grownBy w' u.ownBlock) (hn : Own1 B w' u l) : Own2v B w' v vs (ls.set i l) := by
  have hiu := h.each i u _ hu (List.getElem?_eq_getElem hi)
  refine ⟨by rw [List.length_set]; exact h.len, h.row.kept hg (own_ne h.row hiu (by decide)), ?_, h.dist⟩
  intro j x m hx hm
  by_cases e : i = j
  · subst e
    rw [hu] at hx
    simp only [Option.some.injEq] at hx
    subst hx
    rw [List.getElem?_set_self hi] at hm
    simp only [Option.some.injEq] at hm
    subst hm
    exact hn
  · rw [List.getElem?_set_ne e] at hm
    refine (h.each j x m hx hm).kept hg ?_
    rcases Nat.lt_or_ge i j with c | c
    · rcases hb : x.ownBlock with _ | k
      · exact .inl rfl
      · refine .inr fun e' => ?_
        rcases h.dist i j u x c hu hx with d | d
        · rw [d] at e'; cases e'
        · exact d (by rw [hb, e'])
    · exact h.dist j i x u (by omega) hx hu

def total (ls : List (List Nat)) : Nat := (ls.map List.length).sum
/-- all numbers counted through -/
def marksL (k : Nat) : List (List Nat) → List (List Nat)
  | [] => []
  | l :: ls => marks k l.length :: marksL (k + l.length) ls
theorem marksL_length (ls : List (List Nat)) : ∀ k, (marksL k ls).length = ls.length := by
  induction ls with
  | nil => intro k; rfl
  | cons l ls ih => intro k; simp [marksL, ih]
theorem marksL_get (ls : List (List Nat)) : ∀ (k i : Nat) (h : i < ls.length), (marksL k ls)[i]? = some (marks (k + total (ls.take i)) ls[i].length) := by
  induction ls with
  | nil => intro k i h; simp at h
  | cons l ls ih =>
    intro k i h
    rcases i with _ | i
    · simp [marksL, total]
    · simp only [List.length_cons] at h
      simp only [marksL, List.getElem?_cons_succ, List.take_succ_cons, List.getElem_cons_succ]
      rw [ih (k + l.length) i (by omega)]
      simp [total, Nat.add_assoc]
theorem total_take_succ (ls : List (List Nat)) (i : Nat) (h : i < ls.length) : total (ls.take (i + 1)) = total (ls.take i) + ls[i].length := by
  unfold total
  rw [List.take_succ_eq_append_getElem h, List.map_append, List.sum_append]
  simp
theorem total_take_le (ls : List (List Nat)) (i : Nat) : total (ls.take i) ≤ total ls := by
  unfold total
  conv => rhs; rw [← List.take_append_drop i ls, List.map_append, List.sum_append]
  omega
theorem len_le_total (ls : List (List Nat)) (i : Nat) (h : i < ls.length) : ls[i].length ≤ total ls := by
  have := total_take_succ ls i h
  have := total_take_le ls (i + 1)
  omega

set_option maxRecDepth 100000 in
set_option maxHeartbeats 400000 in
theorem markInt64SS_any (ls : List (List Nat)) (A : Option Addr) (c B k0 : Nat) (vs : List Value) (hl : total ls ≤ 1000000) (hl2 : ls.length ≤ 1000000) (hk0 : k0 ≤ 1000000) (w : World) (hBw : B ≤ w.heap.size) (h : Own2v B w (.slice A ls.length c) vs ls) :
    Calls Try.prog 26 #[.slice A ls.length c, .int .i64 k0] w fun e w' => e = .returned (.int .i64 (k0 + total ls : Nat)) ∧ Below B w w' ∧ w.heap.size ≤ w'.heap.size ∧ Own2v B w' (.slice A ls.length c) vs (marksL k0 ls) := by
  go_enter Try.func26, Try.ntmps26
  go_wp2
  go_loopw [1, 5] (fun q i wr => ∃ k : Nat, k ≤ ls.length ∧ i = .int .i64 k ∧ q = .int .i64 (k0 + total (ls.take k) : Nat) ∧ Below B w wr ∧ Own2v B wr (.slice A ls.length c) vs ((marksL k0 ls).take k ++ ls.drop k)) (fun _ i _ => ls.length - (intOf i).toNat)
  case atStart => exact ⟨0, by omega, rfl, by simp [total], Below.refl _ _, by simpa using h⟩
  case round =>
    obtain ⟨k, hk, rfl, rfl, hb, ho⟩ := hrel
    have ht := total_take_le ls k
    by_cases hlt : k < ls.length
    · have hml : ((marksL k0 ls).take k).length = k := by rw [List.length_take, marksL_length]; omega
      have hlen : k < ((marksL k0 ls).take k ++ ls.drop k).length := by rw [List.length_append, hml, List.length_drop]; omega
      have hge : ((marksL k0 ls).take k ++ ls.drop k)[k] = ls[k] := by
        rw [List.getElem_append_right (by omega)]
        simp only [hml, Nat.sub_self, List.getElem_drop, Nat.add_zero]
      obtain ⟨g, A', c', rfl, hg, hv, hc, h1⟩ := ho.at hlen
      rw [hge] at hv hc h1
      have hle := len_le_total ls k hlt
      have hts := total_take_succ ls k hlt
      have hset : ((marksL k0 ls).take k ++ ls.drop k).set k (marks (k0 + total (ls.take k)) ls[k].length) = (marksL k0 ls).take (k + 1) ++ ls.drop (k + 1) := by
        have hkm : k < (marksL k0 ls).length := by rw [marksL_length]; exact hlt
        have e : (marksL k0 ls)[k] = marks (k0 + total (ls.take k)) ls[k].length := by
          have := marksL_get ls k0 k hlt
          rw [List.getElem?_eq_getElem hkm] at this
          exact Option.some.inj this
        rw [List.set_append_right _ _ (by omega), hml, Nat.sub_self, List.drop_eq_getElem_cons hlt, List.set_cons_zero, List.take_succ_eq_append_getElem hkm, e, List.append_assoc]
        rfl
      have C := hide (markInt64S_any ls[k] A' c' B (k0 + total (ls.take k)) (by omega) (by omega) wr h1)
      have hrow : ∀ x, (Value.slice A' ls[k].length c').ownBlock = some x → B ≤ x := fun x hx => (World.ownsRow.lt h1 x hx).1
      have hBr : B ≤ wr.heap.size := Nat.le_trans hBw hb.size
      clear hge
      have HSET := hide hset; clear hset
      have HV := hide hv; clear hv
      have HO := hide ho; clear ho
      have HT := hide hts; clear hts
      have H1 := hide h1; clear h1
      have HR := hide hrow; clear hrow
      have HLEN := hide hlen; clear hlen
      clear hml
      go_wp2_with fail
      refine C.out.mono ?_
      rintro e w1 ⟨rfl, hg1, hn⟩
      have hO := HO.out.upd HLEN.out HV.out hg1 hn
      rw [HSET.out] at hO
      have hbw : Below B w w1 := below_grown hb hg1 hBr HR.out
      have HOO := hide hO; clear hO
      clear hn hg1 hc
      go_wp2
      go_roundw
      case rel => exact ⟨k + 1, by omega, by go_num, by rw [HT.out]; go_num, hbw, HOO.out⟩
      case measure => simp [intOf]; omega
    · obtain rfl : k = ls.length := by omega
      go_wp2
      go_ret
      exact ⟨by simp, hb, hb.size, by have := ho; rwa [List.drop_length, List.append_nil, List.take_of_length_le (by rw [marksL_length]; omega)] at this⟩

set_option maxRecDepth 100000 in
set_option maxHeartbeats 400000 in
theorem heldInt64SS_any (ls : List (List Nat)) (A : Option Addr) (c B k0 : Nat) (vs : List Value) (hl : total ls ≤ 1000000) (hl2 : ls.length ≤ 1000000) (hk0 : k0 ≤ 1000000) (w : World) (h : Own2v B w (.slice A ls.length c) vs (marksL k0 ls)) :
    Calls Try.prog 27 #[.slice A ls.length c, .int .i64 k0] w fun e w' => e = .returned (.int .i64 (k0 + total ls : Nat)) ∧ Below w.heap.size w w' := by
  have H := hide h; clear h
  go_enter Try.func27, Try.ntmps27
  go_wp2
  go_loopw [1, 5] (fun q i wr => ∃ k : Nat, k ≤ ls.length ∧ i = .int .i64 k ∧ q = .int .i64 (k0 + total (ls.take k) : Nat) ∧ Below w.heap.size w wr) (fun _ i _ => ls.length - (intOf i).toNat)
  case atStart => exact ⟨0, by omega, rfl, by simp [total], Below.refl _ _⟩
  case round =>
    obtain ⟨k, hk, rfl, rfl, hb⟩ := hrel
    have ht := total_take_le ls k
    by_cases hlt : k < ls.length
    · have hmk : k < (marksL k0 ls).length := by rw [marksL_length]; exact hlt
      have e : (marksL k0 ls)[k] = marks (k0 + total (ls.take k)) ls[k].length := by
        have := marksL_get ls k0 k hlt
        rw [List.getElem?_eq_getElem hmk] at this
        exact Option.some.inj this
      obtain ⟨g, A', c', rfl, hg, hv, hc, h1⟩ := (H.out.below hb (Nat.le_refl _)).at hmk
      rw [e, marks_length] at hc h1
      clear hv
      have hle := len_le_total ls k hlt
      have hts := total_take_succ ls k hlt
      have C := hide (heldInt64S_any ls[k].length A' c' B (k0 + total (ls.take k)) (by omega) (by omega) wr h1)
      have HT := hide hts; clear hts
      clear e hmk h1
      have hneg : decide (((k0 + total (ls.take k) + ls[k].length : Nat) : Int) < 0) = false := by simp; omega
      go_wp2_with fail
      refine C.out.mono ?_
      rintro e w1 ⟨rfl, hb1⟩
      have hbb := hb.trans (hb1.mono hb.size)
      clear hc hb1
      go_wp2
      go_roundw
      case rel => exact ⟨k + 1, by omega, by go_num, by rw [HT.out]; go_num, hbb⟩
      case measure => simp [intOf]; omega
    · obtain rfl : k = ls.length := by omega
      go_wp2
      go_ret
      exact ⟨by simp, hb⟩

set_option maxRecDepth 100000 in
set_option maxHeartbeats 400000 in
theorem eqInt64SS_same (ls : List (List Nat)) (A A' : Option Addr) (c c' B B' : Nat) (vs vs' : List Value) (hl : total ls ≤ 1000000) (hl2 : ls.length ≤ 1000000) (w : World)
    (h : Own2v B w (.slice A ls.length c) vs ls) (h' : Own2v B' w (.slice A' ls.length c') vs' ls) :
    Calls Try.prog 25 #[.slice A ls.length c, .slice A' ls.length c'] w fun e w' => e = .returned (.bool true) ∧ Below w.heap.size w w' := by
  have H := hide h; clear h
  have H' := hide h'; clear h'
  have hne : ((ls.length : Int) != (ls.length : Int)) = false := by simp
  go_enter Try.func25, Try.ntmps25
  go_wp2
  go_loopw [5] (fun i wr => ∃ k : Nat, k ≤ ls.length ∧ i = .int .i64 k ∧ Below w.heap.size w wr) (fun i _ => ls.length - (intOf i).toNat)
  case atStart => exact ⟨0, by omega, rfl, Below.refl _ _⟩
  case round =>
    obtain ⟨k, hk, rfl, hb⟩ := hrel
    by_cases hlt : k < ls.length
    · obtain ⟨g, B1, b1, rfl, hg, _, hc, h1⟩ := H.out.at hlt
      obtain ⟨g', B2, b2, rfl, hg', _, hc', h1'⟩ := H'.out.at hlt
      have c1 : wr.cell? ⟨g, k, none⟩ = some (.slice B1 ls[k].length b1) := (hb.cell (p := ⟨g, k, none⟩) hg).trans hc
      have c2 : wr.cell? ⟨g', k, none⟩ = some (.slice B2 ls[k].length b2) := (hb.cell (p := ⟨g', k, none⟩) hg').trans hc'
      have hle := len_le_total ls k hlt
      have far : ∀ u : Value, u.ownBlock = none ∨ u.ownBlock ≠ none := fun u => Classical.em _
      have o1 := h1.kept (grown_of_below hb none) (far _)
      have o2 := h1'.kept (grown_of_below hb none) (far _)
      have C := hide fun W (e : W.heap = wr.heap) => eqInt64S_same ls[k] B1 B2 b1 b2 B B' (by omega) W (show W.ownsRow _ _ _ _ _ _ by unfold Own1 World.ownsRow at o1; unfold World.ownsRow; rw [e]; exact o1) (show W.ownsRow _ _ _ _ _ _ by unfold Own1 World.ownsRow at o2; unfold World.ownsRow; rw [e]; exact o2)
      clear hc hc' h1 h1' far o1 o2
      go_wp2
      go_region_with (go_at_call 33; refine (C.out _ ?_).mono ?_; rfl; rintro e w1 ⟨rfl, hb1⟩)
      all_goals
        have hbb : Below w.heap.size w w1 := hb.drew.trans (hb1.mono hb.size)
        clear hb1 c1 c2
        go_wp2
        go_roundw
        case rel => exact ⟨k + 1, by omega, by go_num, hbb⟩
        case measure => simp [intOf]; omega
    · go_wp2
      go_ret
      exact ⟨rfl, hb⟩
theorem own2_form {B : Nat} {w : World} {v : Value} {ls : List (List Nat)} (h : Own2 B w v ls) : ∃ A c vs, v = .slice A ls.length c ∧ Own2v B w (.slice A ls.length c) vs ls := by
  obtain ⟨A, c, rfl⟩ := h.form
  obtain ⟨vs, hv⟩ := own2v.1 h
  exact ⟨A, c, vs, rfl, hv⟩
theorem Own2v.lt {B : Nat} {w : World} {v : Value} {vs : List Value} {ls : List (List Nat)} (h : Own2v B w v vs ls) : (∀ k, v.ownBlock = some k → k < w.heap.size) ∧ ∀ (i : Nat) (u : Value), vs[i]? = some u → ∀ k, u.ownBlock = some k → k < w.heap.size := by
  refine ⟨fun k hk => (h.row.lt k hk).2, fun i u hu k hk => ?_⟩
  have hi : i < ls.length := by rw [← h.len]; exact (List.getElem?_eq_some_iff.1 hu).1
  exact (World.ownsRow.lt (h.each i u _ hu (List.getElem?_eq_getElem hi)) k hk).2
theorem mark1 (ls : List (List Nat)) (A : Option Addr) (c B : Nat) (vs : List Value) (hl : total ls ≤ 1000000) (hl2 : ls.length ≤ 1000000) (w : World) (hBw : B ≤ w.heap.size) (h : Own2v B w (.slice A ls.length c) vs ls) :
    Calls Try.prog 26 #[.slice A ls.length c, .int .i64 1] w fun e w' => e = .returned (.int .i64 (1 + total ls : Nat)) ∧ Below B w w' ∧ w.heap.size ≤ w'.heap.size ∧ Own2v B w' (.slice A ls.length c) vs (marksL 1 ls) :=
  markInt64SS_any ls A c B 1 vs hl hl2 (by omega) w hBw h
theorem held1 (ls : List (List Nat)) (A : Option Addr) (c B : Nat) (vs : List Value) (hl : total ls ≤ 1000000) (hl2 : ls.length ≤ 1000000) (w : World) (h : Own2v B w (.slice A ls.length c) vs (marksL 1 ls)) :
    Calls Try.prog 27 #[.slice A ls.length c, .int .i64 1] w fun e w' => e = .returned (.int .i64 (1 + total ls : Nat)) ∧ Below w.heap.size w w' :=
  heldInt64SS_any ls A c B 1 vs hl hl2 (by omega) w h

end Go.Proofs.Ytjhpkibeddnbfaa

namespace Go.Proofs.Ytjhpkibeddnbfaa

/-- what has been met behind j steps from i -/
@[irreducible] def Mj (p : Nat → Nat) (m0 : Nat → Bool) (i j : Nat) : Nat → Bool := fun y => m0 y || ((List.range j).map fun a => it p a i).contains y
theorem Mj_zero (p : Nat → Nat) (m0 : Nat → Bool) (i : Nat) : Mj p m0 i 0 = m0 := by unfold Mj; funext y; simp
theorem Mj_step (p : Nat → Nat) (m0 : Nat → Bool) (i j : Nat) : mset (Mj p m0 i j) (it p j i) = Mj p m0 i (j + 1) := by
  unfold Mj
  funext y
  simp only [mset, List.range_succ, List.map_append, List.map_cons, List.map_nil, List.contains_eq_mem, List.mem_append, List.mem_singleton]
  rw [Bool.eq_iff_iff]; simp only [Bool.or_eq_true, beq_iff_eq, decide_eq_true_eq]
  constructor
  · rintro (a | b | c); exact .inr (.inr a); exact .inl b; exact .inr (.inl c)
  · rintro (b | c | a); exact .inr (.inl b); exact .inr (.inr c); exact .inl a
section
variable {p : Nat → Nat} {n k : Nat}
theorem met_closed (h : Bij p n) (hn : n ≤ 16) (hk : k < n) : ∀ y, y < n → cycs.met p k (p y) = true → cycs.met p k y = true := by
  intro y hy hmy
  obtain ⟨_, h2⟩ := cycs_spec h hn k (by omega)
  obtain ⟨x, hx, r⟩ := (h2 _).1 hmy
  exact (h2 _).2 ⟨x, hx, r.trans (R.symm h hy (R.step y))⟩
theorem met_it (h : Bij p n) (hn : n ≤ 16) (hk : k < n) (hb : cycs.met p k k = false) (j : Nat) : cycs.met p k (it p j k) = false := by
  induction j with
  | zero => exact hb
  | succ j ih =>
    rcases hc : cycs.met p k (it p (j + 1) k) with _ | _
    · rfl
    · have := met_closed h hn hk _ (h.it_lt j hk) hc; rw [ih] at this; cases this
theorem Mj_false (h : Bij p n) (hn : n ≤ 16) (hk : k < n) (hb : cycs.met p k k = false) {j : Nat} (hj : j < per p k) : Mj p (cycs.met p k) k j (it p j k) = false := by
  unfold Mj
  rw [met_it h hn hk hb, Bool.false_or, Bool.eq_false_iff]
  simp only [ne_eq, List.contains_iff_mem, List.mem_map, List.mem_range, not_exists, not_and]
  exact fun i hi e => it_distinct h hk hi hj e
theorem Mj_true (h : Bij p n) (hk : k < n) : Mj p (cycs.met p k) k (per p k) (it p (per p k) k) = true := by
  unfold Mj
  rw [(per_spec h hk).2.2.1]
  have : ((List.range (per p k)).map fun a => it p a k).contains k = true := by
    simp only [List.contains_iff_mem]
    exact (mem_orbit h hk).2 (R.refl k)
  rw [this, Bool.or_true]
theorem cycs_new (h : Bij p n) (hn : n ≤ 16) (hk : k < n) (hb : cycs.met p k k = false) : cycs p (k + 1) = cycs p k ++ [orbit p k] ∧ cycs.met p (k + 1) = Mj p (cycs.met p k) k (per p k) := by
  obtain ⟨e1, e2⟩ := cyc_orbit h hk (f := 17) (by omega) _ (met_closed h hn hk) hb
  have hne : orbit p k ≠ [] := by
    intro e
    have : k ∈ orbit p k := (mem_orbit h hk).2 (R.refl k)
    rw [e] at this; cases this
  refine ⟨by simp only [cycs, e1, if_neg hne], ?_⟩
  show cycMet p 17 (cycs.met p k) k = _
  rw [e2]
  unfold Mj orbit
  rfl
theorem cycs_old (hb : cycs.met p k k = true) : cycs p (k + 1) = cycs p k ∧ cycs.met p (k + 1) = cycs.met p k := by
  have ec : cyc p 17 (cycs.met p k) k = [] := by simp [cyc, hb]
  have em : cycMet p 17 (cycs.met p k) k = cycs.met p k := by simp [cycMet, hb]
  exact ⟨by simp only [cycs, ec, if_true], em⟩
/-- the first j numbers of the cycle of k -/
def orbTo (p : Nat → Nat) (k j : Nat) : List Nat := (List.range j).map fun a => it p a k
theorem orbTo_zero (p : Nat → Nat) (k : Nat) : orbTo p k 0 = [] := rfl
theorem orbTo_step (p : Nat → Nat) (k j : Nat) : orbTo p k (j + 1) = orbTo p k j ++ [it p j k] := by unfold orbTo; rw [List.range_succ, List.map_append]; rfl
theorem orbTo_length (p : Nat → Nat) (k j : Nat) : (orbTo p k j).length = j := by unfold orbTo; simp
theorem orbTo_per (p : Nat → Nat) (k : Nat) : orbTo p k (per p k) = orbit p k := rfl
theorem cycs_len_le (h : Bij p n) (hn : n ≤ 16) (hk : k ≤ n) : (cycs p k).length ≤ 16 := by
  rw [(cycs_spec h hn k hk).1, List.length_map]
  exact Nat.le_trans (List.length_filter_le _ _) (by simp; omega)
/-- both ways at once: how many steps the walk from k takes -/
theorem cyc_J (h : Bij p n) (hn : n ≤ 16) (hk : k < n) : ∃ J, J ≤ 16 ∧ (∀ j, j < J → Mj p (cycs.met p k) k j (it p j k) = false) ∧ Mj p (cycs.met p k) k J (it p J k) = true ∧
    cycs p (k + 1) = (if J = 0 then cycs p k else cycs p k ++ [orbTo p k J]) ∧ cycs.met p (k + 1) = Mj p (cycs.met p k) k J := by
  rcases hb : cycs.met p k k with _ | _
  · obtain ⟨e1, e2⟩ := cycs_new h hn hk hb
    have hp := per_spec h hk
    exact ⟨per p k, by omega, fun j hj => Mj_false h hn hk hb hj, Mj_true h hk, by rw [e1, if_neg (by omega), orbTo_per], e2⟩
  · obtain ⟨e1, e2⟩ := cycs_old hb
    exact ⟨0, by omega, by omega, by rw [Mj_zero]; exact hb, by rw [e1, if_pos rfl], by rw [e2, Mj_zero]⟩
end
end Go.Proofs.Ytjhpkibeddnbfaa

namespace Go.Proofs.Ytjhpkibeddnbfaa
open Go.RowKit

theorem info64 : (Try.prog.info? 2).map (fun i => (i.zero, i.size, i.bytes)) = some (some (.int .i64 0), 1, 8) := by kernel_rfl
theorem infoSl : (Try.prog.info? 48).map (fun i => (i.zero, i.size, i.bytes)) = some (some (.slice none 0 0), 1, 24) := by kernel_rfl

set_option maxRecDepth 100000 in
set_option maxHeartbeats 1000000 in
theorem cycleList_any (p : Nat → Nat) (m : Nat) (hp : PermN p m) (w : World) :
    Calls Try.prog 105 #[.agg (av p), .int .i64 m] w fun e w' => ∃ v, e = .returned v ∧ Below w.heap.size w w' ∧ Own2 w.heap.size w' v (cycs p m) := by
  obtain ⟨hm1, hm2, hbij, _⟩ := hp
  have HB := hide hbij; clear hbij
  obtain ⟨i0, hi, hz0, hz1, hz2⟩ := info_parts info64
  obtain ⟨j0, hj, hy0, hy1, hy2⟩ := info_parts infoSl
  have I0 := hide (And.intro hi (And.intro hz0 (And.intro hz1 hz2))); clear hi hz0 hz1 hz2
  have J0 := hide (And.intro hj (And.intro hy0 (And.intro hy1 hy2))); clear hj hy0 hy1 hy2
  go_enter Try.func105, Try.ntmps105
  go_wp2
  rw [← bv_false]
  go_loopw [5, 11] (fun out i wr => ∃ k : Nat, k ≤ m ∧ i = .int .i64 k ∧ Below w.heap.size w wr ∧ cellsOf wr w.heap.size = av p ∧ cellsOf wr (w.heap.size + 1) = bv (cycs.met p k) ∧ rowOk wr (w.heap.size + 1) 16 ∧ Own2 (w.heap.size + 2) wr out (cycs p k))
    (fun _ i _ => m - (intOf i).toNat)
  case atStart => exact ⟨0, by omega, rfl, below2 _ _ _, cellsOf_heap (heap1 rfl), cellsOf_heap (heap_at _ _ _ (by simp)), ⟨_, _, heap_at _ _ _ (by simp), bv_size _⟩, Own2.nil _ _⟩
  case round =>
    obtain ⟨k, hk, rfl, hb, hcp, hcm, hrm, hown⟩ := hrel
    by_cases hlt : k < m
    · have hlt16 : k < 16 := by omega
      have l1 := hrm.lt
      have HC := hide hcp; clear hcp
      have HM := hide hcm; clear hcm
      rcases hmk : cycs.met p k k with _ | _
      · have c0 : wr.cell? ⟨w.heap.size + 1, k, none⟩ = some (.bool false) := by rw [cell_of_cells, HM.out, bv_get _ hlt16, hmk]
        have HK := hide hmk; clear hmk
        go_wp2
        clear c0
        obtain ⟨wo, rfl⟩ : ∃ wo : World, wo = wr := ⟨_, rfl⟩
        go_loopg [8, 9] (per p k) (fun gd own x wr => ∃ j : Nat, j ≤ per p k ∧ gd = per p k - j ∧ x = .int .i64 (it p j k) ∧ it p j k < m ∧ Own1 wo.heap.size wr own (orbTo p k j) ∧
            cellsOf wr w.heap.size = av p ∧ cellsOf wr (w.heap.size + 1) = bv (Mj p (cycs.met p k) k j) ∧ rowOk wr (w.heap.size + 1) 16 ∧ wo.grownBy wr (some (w.heap.size + 1)))
        case atStart => exact ⟨0, by omega, by omega, rfl, hlt, Own1.nil _ _, HC.out, by rw [Mj_zero]; exact HM.out, hrm, grown_refl _ _⟩
        case round =>
          obtain ⟨j, hj, rfl, rfl, hx, hown1, hcp1, hcm1, hrm1, hg1⟩ := hrel
          have HCP := hide hcp1; clear hcp1
          have HCM := hide hcm1; clear hcm1
          have l2 := hrm1.lt
          by_cases hjp : j < per p k
          · have c0 : wr.cell? ⟨w.heap.size + 1, it p j k, none⟩ = some (.bool false) := by rw [cell_of_cells, HCM.out, bv_get _ (by omega), Mj_false HB.out hm2 hlt HK.out hjp]
            have f0 : wr.frozen? ⟨w.heap.size + 1, it p j k, none⟩ = false := hrm1.frozen
            generalize hX : it p j k = X at *
            have HX := hide hX; clear hX
            have hownA : (wr.setCell ⟨w.heap.size + 1, X, none⟩ (.bool true)).ownsRow wo.heap.size 2 1 u8 (orbTo p k j).length (nums (orbTo p k j)) := ownsRow_setCell_below hown1 (by show w.heap.size + 1 < wo.heap.size; omega) _
            have hszs : wo.heap.size ≤ wr.heap.size := hg1.size
            have hj16 : j ≤ 16 := by have := (per_spec HB.out hlt).2.1; omega
            have hlen : (orbTo p k j).length = j := orbTo_length p k j
            have HL := hide hlen; clear hlen
            have hpX := HCP.out
            have hX16 : X < 16 := by omega
            go_wp2_with (at_builtin; refine wpList_append_own _ rfl _ _ 48 rfl wo.heap.size 2 i0 (.int .i64 0) 1 8 Try.underlying48 I0.out.1 I0.out.2.1 I0.out.2.2.1 I0.out.2.2.2 rfl (by decide) _ _ _ rfl (hownA.alloc _) ⟨wr.heap.size, 0, none⟩ 1 1 [.int .i64 X] rfl rfl ?c1 ?c2 ?c3 ?c4 ?c5 ?_)
            case c1 => exact one_new _ _ _ _ (by simp)
            case c2 => intro u hu; simp at hu; subst hu; rfl
            case c3 => rw [HL.out]; unfold maxLen; omega
            case c4 => rw [HL.out]; omega
            case c5 => simp; omega
            intro v' w1 hown' hg' _
            have hrow : ∀ g, u8.ownBlock = some g → wo.heap.size ≤ g := fun g hg => (hownA.lt g hg).1
            have G0 := grown_alloc (grown_setCell (i := X) (v := .bool true) hg1) (.cells #[.int .i64 X] 2)
            have G1 := grown_step G0 hg' (fun g hg => .inl (hrow g hg))
            have hpc : cellsOf w1 w.heap.size = av p := by
              rw [grown_cells hg' (by simp; omega) (fun e => by have := hrow _ e.symm; omega), cellsOf_past (by simp; omega), cellsOf_setCell_ne (by omega)]; exact HCP.out
            have hmc : cellsOf w1 (w.heap.size + 1) = bv (Mj p (cycs.met p k) k (j + 1)) := by
              rw [grown_cells hg' (by simp; omega) (fun e => by have := hrow _ e.symm; omega), cellsOf_past (by simp; omega), cellsOf_setCell, HCM.out, bv_set, ← HX.out, Mj_step]
            have hmr : rowOk w1 (w.heap.size + 1) 16 := (grown_row hg' (by simp; omega) (fun e => by have := hrow _ e.symm; omega)).2 ((rowOk_past (by simp; omega)).2 (rowOk_setCell hrm1))
            have hpx : p X < m := HB.out.1 X hx
            have c2 : w1.cell? ⟨w.heap.size, X, none⟩ = some (.int .u8 (p X)) := by rw [cell_of_cells, hpc, av_get p hX16]
            have hO : Own1 wo.heap.size w1 v' (orbTo p k (j + 1)) := by
              rw [orbTo_step, HX.out]
              unfold Own1 nums at *
              simpa using hown'
            have hit : it p (j + 1) k = p X := by rw [← HX.out]; rfl
            have H1 := hide hpc; clear hpc
            have H2 := hide hmc; clear hmc
            have HIT := hide hit; clear hit
            clear hown' hg' G0 hownA hrow c0 f0 hpX
            go_wp2
            go_roundg (per p k - (j + 1))
            case measure => omega
            case rel => exact ⟨j + 1, by omega, rfl, by rw [HIT.out], by rw [HIT.out]; exact hpx, hO, H1.out, H2.out, hmr, G1⟩
          · obtain rfl : j = per p k := by omega
            have hX16 : it p (per p k) k < 16 := by omega
            have c0 : wr.cell? ⟨w.heap.size + 1, it p (per p k) k, none⟩ = some (.bool true) := by rw [cell_of_cells, HCM.out, bv_get _ hX16, Mj_true HB.out hlt]
            obtain ⟨A, cc, rfl⟩ := own_slice hown1
            have hszs : wo.heap.size ≤ wr.heap.size := hg1.size
            obtain ⟨vs, hvl, ho0, hi0, hd0⟩ := hown
            have hC : ∀ (i : Nat) (x : Value), vs[i]? = some x → ∀ g, x.ownBlock = some g → g < wo.heap.size := by
              intro i x hx1 g hg
              have : i < (cycs p k).length := by rw [← hvl]; exact (List.getElem?_eq_some_iff.1 hx1).1
              exact (World.ownsRow.lt (hi0 i x _ hx1 (List.getElem?_eq_getElem this)) g hg).2
            have hk2 : Own2 (w.heap.size + 2) wr u5 (cycs p k) := Own2.kept ⟨vs, hvl, ho0, hi0, hd0⟩ hg1 (fun g hg => by simp at hg; omega)
            have far : ∀ {e : TypeId} {s n : Nat} {u : Value} {xs : List Value}, wo.ownsRow (w.heap.size + 2) e s u n xs → u.ownBlock = none ∨ u.ownBlock ≠ some (w.heap.size + 1) := by
              intro e s n u xs hu
              rcases hb : u.ownBlock with _ | g
              · exact .inl rfl
              · refine .inr fun e => ?_
                have := hu.lt g hb
                simp at e; omega
            have ho1 := ho0.kept hg1 (far ho0)
            have hi1 : ∀ (i : Nat) (u : Value) (l : List Nat), vs[i]? = some u → (cycs p k)[i]? = some l → Own1 (w.heap.size + 2) wr u l := fun i u l h1 h2 => (hi0 i u l h1 h2).kept hg1 (far (hi0 i u l h1 h2))
            have hvs16 : vs.length ≤ 16 := by rw [hvl]; exact cycs_len_le HB.out hm2 (by omega)
            have HVL := hide hvl; clear hvl
            have HI := hide hi1; clear hi1 hi0
            have HD := hide hd0; clear hd0
            have HCC := hide hC; clear hC
            have HO := hide hk2; clear hk2
            clear ho0
            have hll : (orbTo p k (per p k)).length ≤ 16 := by rw [orbTo_length]; have := (per_spec HB.out hlt).2.1; omega
            generalize hL : (orbTo p k (per p k)).length = L at *
            have HL := hide hL; clear hL
            clear far
            go_wp2_with (at_builtin; refine wpList_append_own _ rfl _ _ 39 rfl (w.heap.size + 2) 48 j0 (.slice none 0 0) 1 24 Try.underlying39 J0.out.1 J0.out.2.1 J0.out.2.2.1 J0.out.2.2.2 rfl (by decide) _ _ _ rfl (ho1.alloc _) ⟨wr.heap.size, 0, none⟩ 1 1 [.slice A L cc] rfl rfl ?d1 ?d2 ?d3 ?d4 ?d5 ?_)
            case d1 => exact one_new _ _ _ _ (by simp)
            case d2 => intro u hu; simp at hu; subst hu; rfl
            case d3 => unfold maxLen; omega
            case d4 => omega
            case d5 => simp; omega
            intro v' w1 hown' hg' _
            have hrow : ∀ g, u5.ownBlock = some g → w.heap.size + 2 ≤ g := fun g hg => (ho1.lt g hg).1
            have hpc : cellsOf w1 w.heap.size = av p := by
              rw [grown_cells hg' (by simp; omega) (fun e => by have := hrow _ e.symm; omega), cellsOf_past (by omega)]; exact HCP.out
            have hmc : cellsOf w1 (w.heap.size + 1) = bv (cycs.met p (k + 1)) := by
              rw [grown_cells hg' (by simp; omega) (fun e => by have := hrow _ e.symm; omega), cellsOf_past (by omega), HCM.out, (cycs_new HB.out hm2 hlt HK.out).2]
            have hmr : rowOk w1 (w.heap.size + 1) 16 := (grown_row hg' (by simp; omega) (fun e => by have := hrow _ e.symm; omega)).2 ((rowOk_past (by omega)).2 hrm1)
            have hbw : Below w.heap.size w w1 := ((hb.grown hg1 hb.size (fun g hg => by simp at hg; omega)).alloc (by have := hb.size; omega) _).grown hg' (by have := hb.size; simp; omega) (fun g hg => by have := hrow g hg; omega)
            have hOO : Own2 (w.heap.size + 2) w1 v' (cycs p (k + 1)) := by
              rw [(cycs_new HB.out hm2 hlt HK.out).1, ← orbTo_per]
              exact Own2.add HVL.out (ho1.alloc _) (fun i u l h1 h2 => World.ownsRow.alloc (HI.out i u l h1 h2) _) HD.out (World.ownsRow.alloc hown1 _) (by omega) HCC.out hown' hg'
            have H1 := hide hpc; clear hpc
            have H2 := hide hmc; clear hmc
            have H3 := hide hOO; clear hOO
            clear hown' hg' ho1 hrow c0
            go_wp2
            go_roundw
            case rel => exact ⟨k + 1, by omega, by go_num, hbw, H1.out, H2.out, hmr, H3.out⟩
            case measure => simp [intOf]; omega
      · have c0 : wr.cell? ⟨w.heap.size + 1, k, none⟩ = some (.bool true) := by rw [cell_of_cells, HM.out, bv_get _ hlt16, hmk]
        have HK := hide hmk; clear hmk
        go_wp2
        go_roundw
        case rel => exact ⟨k + 1, by omega, by go_num, hb, HC.out, by rw [HM.out, (cycs_old HK.out).2], hrm, by rw [(cycs_old HK.out).1]; exact hown⟩
        case measure => simp [intOf]; omega
    · obtain rfl : k = m := by omega
      clear hlt hk hcp hcm
      go_wp2
      go_ret
      exact ⟨_, rfl, hb, by obtain ⟨vs, a, b, c, d⟩ := hown; exact ⟨vs, a, ⟨b.1, b.2.imp id (fun ⟨g, cap, cur, h1, h2, h3⟩ => ⟨g, cap, cur, h1, by omega, h3⟩)⟩, fun i u l h1 h2 => (c i u l h1 h2).mono (by omega), d⟩⟩
end Go.Proofs.Ytjhpkibeddnbfaa

namespace Go.Proofs.Ytjhpkibeddnbfaa
open Go.RowKit

theorem app1 {ops : Array Oper} {rest : List Oper} {o : Oper} {a : Act} {Q : Exit → Act → World → Prop} {w : World} {t : TypeId} (hgd : o.guard = none) (s x : Operand)
    (ho : o.op = .call { callee := .builtin .append, args := #[s, x], argTypes := #[48, 48] }) {B : Nat} {v : Value} {l : List Nat} (hs : a.eval s = v) (hown : Own1 B w v l) (hB : B ≤ w.heap.size)
    (y : Nat) (g : Nat) (hx : a.eval x = .slice (some ⟨g, 0, none⟩) 1 1) (hg : g = w.heap.size) (hl : l.length ≤ 1000000000)
    (h : ∀ v' w', Own1 B w' v' (l ++ [y]) → w.grownBy w' v.ownBlock → w.heap.size < w'.heap.size → wpList Try.prog ops Q rest (a.put o.dst v') w') :
    wpList Try.prog ops Q (o :: rest) a (w.alloc (.cells #[.int .i64 (y : Int)] t)) := by
  obtain ⟨i0, hi, hz0, hz1, hz2⟩ := info_parts info64
  unfold Own1 at hown
  refine wpList_append_own (P := Try.prog) _ hgd s x 48 ho B 2 i0 (.int .i64 0) 1 8 Try.underlying48 hi hz0 hz1 hz2 rfl (by decide) v l.length (nums l) hs (hown.alloc _) ⟨g, 0, none⟩ 1 1 [.int .i64 (y : Int)] hx rfl
    (one_new _ _ _ _ hg) (fun u hu => ?_) (by unfold maxLen; omega) (by omega) (by simp; omega) fun v' w' h1 h2 _ => h v' w' ?_ ?_ ?_
  · simp at hu; subst hu; rfl
  · unfold Own1 nums at *
    simpa using h1
  · exact grown_step (grown_alloc (grown_refl w v.ownBlock) _) h2 fun g hg => .inr hg
  · have := h2.size; simp at this; omega
/-- one list more at the end of a list of lists of the call's own; it was made behind all of these -/
theorem app2 {ops : Array Oper} {rest : List Oper} {o : Oper} {a : Act} {Q : Exit → Act → World → Prop} {w0 w : World} {t : TypeId} (hgd : o.guard = none) (s x : Operand)
    (ho : o.op = .call { callee := .builtin .append, args := #[s, x], argTypes := #[39, 39] }) {B : Nat} {v u : Value} {ls : List (List Nat)} {l : List Nat} (hs : a.eval s = v) (hown : Own2 B w0 v ls) (hb : Below w0.heap.size w0 w)
    (hu : Own1 w0.heap.size w u l) (hB : B ≤ w0.heap.size) (g : Nat) (hx : a.eval x = .slice (some ⟨g, 0, none⟩) 1 1) (hg : g = w.heap.size) (hl : ls.length ≤ 1000000000)
    (h : ∀ v' w', Own2 B w' v' (ls ++ [l]) → w.grownBy w' v.ownBlock → w.heap.size < w'.heap.size → (∀ k, v.ownBlock = some k → B ≤ k) → wpList Try.prog ops Q rest (a.put o.dst v') w') :
    wpList Try.prog ops Q (o :: rest) a (w.alloc (.cells #[u] t)) := by
  obtain ⟨i0, hi, hz0, hz1, hz2⟩ := info_parts infoSl
  obtain ⟨vs, hlen, hrow, heach, hdist⟩ := hown
  have hC : ∀ (i : Nat) (x : Value), vs[i]? = some x → ∀ g, x.ownBlock = some g → g < w0.heap.size := by
    intro i x hx1 g hg
    have : i < ls.length := by rw [← hlen]; exact (List.getElem?_eq_some_iff.1 hx1).1
    exact (World.ownsRow.lt (heach i x _ hx1 (List.getElem?_eq_getElem this)) g hg).2
  have kept := grown_of_below hb none
  have hrow1 := hrow.kept kept (Classical.em _)
  have heach1 : ∀ (i : Nat) (u : Value) (l : List Nat), vs[i]? = some u → ls[i]? = some l → Own1 B w u l := fun i u l h1 h2 => (heach i u l h1 h2).kept kept (Classical.em _)
  have hsz := hb.size
  obtain ⟨A, c, rfl⟩ := own_slice hu
  refine wpList_append_own (P := Try.prog) _ hgd s x 39 ho B 48 i0 (.slice none 0 0) 1 24 Try.underlying39 hi hz0 hz1 hz2 rfl (by decide) v vs.length vs hs (hrow1.alloc _) ⟨g, 0, none⟩ 1 1 [.slice A l.length c] hx rfl
    (one_new _ _ _ _ hg) (fun u hu => ?_) (by unfold maxLen; omega) (by omega) (by simp; omega) fun v' w' h1 h2 _ => h v' w' ?_ ?_ ?_ fun k hk => (hrow.lt k hk).1
  · simp at hu; subst hu; rfl
  · exact Own2.add hlen (hrow1.alloc _) (fun i u l h1 h2 => World.ownsRow.alloc (heach1 i u l h1 h2) _) hdist (World.ownsRow.alloc hu _) hB hC h1 h2
  · exact grown_step (grown_alloc (grown_refl w v.ownBlock) _) h2 fun g hg => .inr hg
  · have := h2.size; simp at this; omega
end Go.Proofs.Ytjhpkibeddnbfaa

namespace Go.Proofs.Ytjhpkibeddnbfaa
open Go.Shelf Go.RowKit

def sortA_ren : Go.Shelf.Ren := ⟨fun | 5 => 59 | 8 => 94 | 7 => 93 | 19 => 120 | 20 => 121 | 10 => 111 | 11 => 112 | 12 => 113 | 13 => 114 | 14 => 115 | 15 => 116 | 16 => 117 | 17 => 118 | 18 => 119 | 30 => 137 | 31 => 138 | 32 => 139 | 33 => 140 | 34 => 141 | 35 => 136 | 40 => 146 | n => n, fun | 23 => 48 | 25 => 2 | 3 => 3 | 32 => 120 | 22 => 48 | 0 => 0 | 44 => 156 | 46 => 158 | 4 => 4 | 36 => 148 | 35 => 147 | 41 => 153 | 5 => 5 | 9 => 9 | 53 => 174 | 57 => 178 | 63 => 182 | 64 => 183 | n => n, fun | n => n⟩
theorem sortA : Go.Proofs.SlLaysM.n5 Try.prog sortA_ren := {
  mixed := by kernel_rfl
  f5 := ⟨Try.f59.name, by decide, Try.func59.trans (congrArg some (by kernel_rfl))⟩
  f7 := ⟨Try.f93.name, by decide, Try.func93.trans (congrArg some (by kernel_rfl))⟩
  f8 := Try.func94.trans (congrArg some (by kernel_rfl))
  f10 := ⟨Try.f111.name, by decide, Try.func111.trans (congrArg some (by kernel_rfl))⟩
  f11 := ⟨Try.f112.name, by decide, Try.func112.trans (congrArg some (by kernel_rfl))⟩
  f12 := ⟨Try.f113.name, by decide, Try.func113.trans (congrArg some (by kernel_rfl))⟩
  f13 := ⟨Try.f114.name, by decide, Try.func114.trans (congrArg some (by kernel_rfl))⟩
  f14 := ⟨Try.f115.name, by decide, Try.func115.trans (congrArg some (by kernel_rfl))⟩
  f15 := ⟨Try.f116.name, by decide, Try.func116.trans (congrArg some (by kernel_rfl))⟩
  f16 := ⟨Try.f117.name, by decide, Try.func117.trans (congrArg some (by kernel_rfl))⟩
  f17 := ⟨Try.f118.name, by decide, Try.func118.trans (congrArg some (by kernel_rfl))⟩
  f18 := ⟨Try.f119.name, by decide, Try.func119.trans (congrArg some (by kernel_rfl))⟩
  f19 := Try.func120.trans (congrArg some (by kernel_rfl))
  f20 := Try.func121.trans (congrArg some (by kernel_rfl))
  f30 := ⟨Try.f137.name, by decide, Try.func137.trans (congrArg some (by kernel_rfl))⟩
  f31 := Try.func138.trans (congrArg some (by kernel_rfl))
  f32 := Try.func139.trans (congrArg some (by kernel_rfl))
  f33 := ⟨Try.f140.name, by decide, Try.func140.trans (congrArg some (by kernel_rfl))⟩
  f34 := ⟨Try.f141.name, by decide, Try.func141.trans (congrArg some (by kernel_rfl))⟩
  f35 := ⟨Try.f136.name, by decide, Try.func136.trans (congrArg some (by kernel_rfl))⟩
  f40 := ⟨Try.f146.name, by decide, Try.func146.trans (congrArg some (by kernel_rfl))⟩
  t0 := Try.underlying0
  a0 := Try.isAgg0
  z0 := Try.sizeOf0
  v0 := Try.zeroValue0
  t3 := Try.underlying3
  a3 := Try.isAgg3
  z3 := Try.sizeOf3
  v3 := Try.zeroValue3
  t4 := Try.underlying4
  a4 := Try.isAgg4
  z4 := Try.sizeOf4
  v4 := Try.zeroValue4
  t5 := Try.underlying5
  a5 := Try.isAgg5
  z5 := Try.sizeOf5
  v5 := Try.zeroValue5
  t9 := Try.underlying9
  a9 := Try.isAgg9
  z9 := Try.sizeOf9
  v9 := Try.zeroValue9
  t22 := Try.underlying48
  a22 := Try.isAgg48
  z22 := Try.sizeOf48
  v22 := Try.zeroValue48
  t23 := Try.underlying48
  a23 := Try.isAgg48
  z23 := Try.sizeOf48
  v23 := Try.zeroValue48
  t25 := Try.underlying2
  a25 := Try.isAgg2
  z25 := Try.sizeOf2
  v25 := Try.zeroValue2
  t32 := Try.underlying120
  a32 := Try.isAgg120
  z32 := Try.sizeOf120
  v32 := Try.zeroValue120
  t35 := Try.underlying147
  a35 := Try.isAgg147
  z35 := Try.sizeOf147
  v35 := Try.zeroValue147
  t36 := Try.underlying148
  a36 := Try.isAgg148
  z36 := Try.sizeOf148
  v36 := Try.zeroValue148
  t41 := Try.underlying153
  a41 := Try.isAgg153
  z41 := Try.sizeOf153
  v41 := Try.zeroValue153
  t44 := Try.underlying156
  a44 := Try.isAgg156
  z44 := Try.sizeOf156
  v44 := Try.zeroValue156
  t46 := Try.underlying158
  a46 := Try.isAgg158
  z46 := Try.sizeOf158
  v46 := Try.zeroValue158
  t53 := Try.underlying174
  a53 := Try.isAgg174
  z53 := Try.sizeOf174
  v53 := Try.zeroValue174
  t57 := Try.underlying178
  a57 := Try.isAgg178
  z57 := Try.sizeOf178
  v57 := Try.zeroValue178
  t63 := Try.underlying182
  a63 := Try.isAgg182
  z63 := Try.sizeOf182
  v63 := Try.zeroValue182
  t64 := Try.underlying183
  a64 := Try.isAgg183
  z64 := Try.sizeOf183
  v64 := Try.zeroValue183 }
def revA_ren : Go.Shelf.Ren := ⟨fun | 35 => 106 | n => n, fun | 22 => 48 | 23 => 2 | 3 => 3 | 4 => 4 | 0 => 0 | n => n, fun | n => n⟩
theorem revA : Go.Proofs.SlLaysN.n35 Try.prog revA_ren := {
  mixed := by kernel_rfl
  f35 := ⟨Try.f106.name, by decide, Try.func106.trans (congrArg some (by kernel_rfl))⟩
  t0 := Try.underlying0
  a0 := Try.isAgg0
  z0 := Try.sizeOf0
  v0 := Try.zeroValue0
  t3 := Try.underlying3
  a3 := Try.isAgg3
  z3 := Try.sizeOf3
  v3 := Try.zeroValue3
  t4 := Try.underlying4
  a4 := Try.isAgg4
  z4 := Try.sizeOf4
  v4 := Try.zeroValue4
  t22 := Try.underlying48
  a22 := Try.isAgg48
  z22 := Try.sizeOf48
  v22 := Try.zeroValue48
  t23 := Try.underlying2
  a23 := Try.isAgg2
  z23 := Try.sizeOf2
  v23 := Try.zeroValue2 }

/-- numbers as integers -/
def ints (l : List Nat) : List Int := l.map fun (x : Nat) => (x : Int)
theorem block_put {w : World} {g n : Nat} {cur : Array Value} {t : TypeId} {fr : Nat × Nat} {os : Array Obj} (d : Array Int) (hb : w.heap[g]? = some (.cells cur t fr)) :
    (Go.Sort.grow (Go.Sort.putRow (Value.int .i64) (Go.Sort.ahead w n) g 0 d) os).heap[g]? = some (.cells (Go.Sort.putCells (Value.int .i64) 0 d cur) t fr) := by
  have hg := (Array.getElem?_eq_some_iff.1 hb).1
  simp only [Go.Sort.grow, Go.Sort.putRow, Go.Sort.mapBlock, Go.Sort.ahead]
  rw [Array.getElem?_append_left (by simpa using hg)]
  simp [Array.getElem?_modify, hb, Go.Sort.onCells]
theorem grown_put {w : World} {g n : Nat} {os : Array Obj} (d : Array Int) : w.grownBy (Go.Sort.grow (Go.Sort.putRow (Value.int .i64) (Go.Sort.ahead w n) g 0 d) os) (some g) := by
  refine ⟨rfl, rfl, rfl, by simp [Go.Sort.grow, Go.Sort.putRow, Go.Sort.mapBlock, Go.Sort.ahead], fun k hk hne => ?_⟩
  have hne' : ¬ g = k := fun e => hne (by rw [e])
  simp only [Go.Sort.grow, Go.Sort.putRow, Go.Sort.mapBlock, Go.Sort.ahead]
  rw [Array.getElem?_append_left (by simpa using hk)]
  simp [Array.getElem?_modify, hne']
theorem own_put {B g c n : Nat} {w : World} {l k : List Nat} {os : Array Obj} (h : Own1 B w (.slice (some ⟨g, 0, none⟩) l.length c) l) (hl : k.length = l.length) :
    Own1 B (Go.Sort.grow (Go.Sort.putRow (Value.int .i64) (Go.Sort.ahead w n) g 0 (ints k).toArray) os) (.slice (some ⟨g, 0, none⟩) l.length c) k := by
  unfold Own1
  rw [hl]
  rcases h.2 with ⟨e, _⟩ | ⟨g', cap, cur, e, hB, hh, h1, h2, h3, h4⟩
  · cases e
  · injection e with e1 _ e3
    injection e1 with e1
    injection e1 with e1
    subst e1 e3
    refine ⟨by simp [nums, hl], .inr ⟨g, c, _, rfl, hB, block_put _ hh, h1, h2, by simp [Go.Sort.putCells, h3], ?_⟩⟩
    apply List.ext_getElem?
    intro j
    by_cases hj : j < k.length
    · rw [List.getElem?_take_of_lt (by omega), Array.getElem?_toList]
      simp [Go.Sort.putCells, ints, nums, hj, show j < cur.size by omega]
    · rw [List.getElem?_eq_none (by simp; omega), List.getElem?_eq_none (by simp [nums]; omega)]
theorem own_holds {B g c : Nat} {w : World} {l : List Nat} (h : Own1 B w (.slice (some ⟨g, 0, none⟩) l.length c) l) : Go.Sort.Holds (Value.int .i64) w g 0 (ints l).toArray := by
  intro j hj
  have hj' : j < l.length := by simpa [ints] using hj
  obtain ⟨g', e, _, _, h1, h2⟩ := h.at hj'
  injection e with e
  injection e with e
  subst e
  rw [Nat.zero_add]
  refine ⟨?_, h2⟩
  rw [h1]
  simp [ints, hj']
def sortU (l : List Nat) : List Nat := l.mergeSort fun a b => decide (a ≤ b)
theorem ints_sort (l : List Nat) : (ints l).mergeSort (fun x y => decide (x ≤ y)) = ints (sortU l) := by
  unfold ints sortU
  rw [List.map_mergeSort]
  intro a _ b _
  simp
theorem Own1.form {B : Nat} {w : World} {v : Value} {l : List Nat} (h : Own1 B w v l) (h0 : 0 < l.length) : ∃ g c, v = .slice (some ⟨g, 0, none⟩) l.length c ∧ B ≤ g ∧ g < w.heap.size := by
  rcases h.2 with ⟨_, e⟩ | ⟨g, c, cur, rfl, hB, hh, _⟩
  · omega
  · exact ⟨g, c, rfl, hB, (Array.getElem?_eq_some_iff.1 hh).1⟩
/-- slices.Sort at a list of the call's own -/
theorem sort_any {B : Nat} {w : World} {v : Value} {l : List Nat} (h : Own1 B w v l) (h0 : 0 < l.length) (hl : l.length ≤ 1000000000) :
    Calls Try.prog 59 #[v] w fun e w' => e = .returned (.tuple #[]) ∧ w.grownBy w' v.ownBlock ∧ Own1 B w' v (sortU l) := by
  obtain ⟨g, c, rfl, _, hg⟩ := h.form h0
  have hc := AnyM.slices_Sort_int sortA g 0 c (ints l) w (own_holds h) hg (by simp [ints]; omega)
  rw [ints_sort] at hc
  have e : (ints l).length = l.length := by simp [ints]
  rw [e] at hc
  refine hc.mono ?_
  rintro e w' ⟨rfl, n, os, rfl⟩
  exact ⟨rfl, grown_put _, own_put h (by unfold sortU; exact (List.mergeSort_perm _ _).length_eq)⟩
/-- slices.Reverse at a list of the call's own -/
theorem rev_any {B : Nat} {w : World} {v : Value} {l : List Nat} (h : Own1 B w v l) (h0 : 0 < l.length) (hl : l.length ≤ 1000000000) :
    Calls Try.prog 106 #[v] w fun e w' => e = .returned (.tuple #[]) ∧ w.grownBy w' v.ownBlock ∧ Own1 B w' v l.reverse := by
  obtain ⟨g, c, rfl, _, _⟩ := h.form h0
  have hc := AnyG.slices_Reverse_int revA g 0 c (ints l) w (own_holds h) (by simp [ints]; omega)
  have e : (ints l).length = l.length := by simp [ints]
  have e2 : (ints l).reverse = ints l.reverse := by simp [ints, List.map_reverse]
  rw [e, e2] at hc
  refine hc.mono ?_
  rintro e w' ⟨rfl, n, rfl⟩
  have hw : ∀ W : World, W = Go.Sort.grow W #[] := fun W => by simp [Go.Sort.grow]
  rw [hw (Go.Sort.putRow _ _ _ _ _)]
  exact ⟨rfl, grown_put _, own_put h (by simp)⟩
theorem sortU_reverse (l : List Nat) : (sortU l).reverse = sortD l := by
  refine sortD_unique (((List.reverse_perm _).trans (List.mergeSort_perm _ _))) ?_
  rw [List.pairwise_reverse]
  have := List.pairwise_mergeSort (le := fun a b : Nat => decide (a ≤ b)) (fun a b c h1 h2 => by simp at *; omega) (fun a b => by simp; omega) l
  exact this.imp fun h => by simpa using h
end Go.Proofs.Ytjhpkibeddnbfaa

namespace Go.Proofs.Ytjhpkibeddnbfaa
open Go.RowKit

def thenF (p q : Nat → Nat) (n : Nat) : Nat → Nat := upto (fun i => q (p i)) n
def backTo (p : Nat → Nat) : Nat → Nat → Nat
  | 0 => fun _ => 0
  | k + 1 => fset (backTo p k) (p k) k
def sameF (n : Nat) : Nat → Nat := upto (fun i => i) n
def backF (p : Nat → Nat) (n : Nat) : Nat → Nat := backTo p n
theorem backTo_step (p : Nat → Nat) (k : Nat) : fset (backTo p k) (p k) k = backTo p (k + 1) := rfl

set_option maxHeartbeats 400000 in
theorem follow_any (p q : Nat → Nat) (m : Nat) (hm : m ≤ 16) (hp : ∀ i, i < m → p i < 16) (w : World) :
    Calls Try.prog 88 #[.agg (av p), .agg (av q), .int .i64 m] w fun e w' => e = .returned (.agg (av (thenF p q m))) ∧ Below w.heap.size w w' := by
  have HP := hide hp; clear hp
  go_enter Try.func88, Try.ntmps88
  go_wp2
  rw [← av_zero]
  go_loopw [10] (fun i wr => ∃ k : Nat, k ≤ m ∧ i = .int .i64 k ∧ wr = (((w.alloc (.cells (av p) 28)).alloc (.cells (av q) 28)).alloc (.cells (av fun _ => 0) 28)).alloc (.cells (av (upto (fun i => q (p i)) k)) 28)) (fun i _ => m - (intOf i).toNat)
  case atStart => exact ⟨0, by omega, rfl, by rw [upto_zero]⟩
  case round =>
    obtain ⟨k, hk, rfl, rfl⟩ := hrel
    by_cases hlt : k < m
    · have hp16 := HP.out k hlt
      have h1 := av_get p (i := k) (by omega)
      have h2 := av_get q (i := p k) hp16
      have h4 := av_get (upto (fun i => q (p i)) k) (i := k) (by omega)
      have h3 := av_set (upto (fun i => q (p i)) k) k (q (p k))
      rw [upto_step (fun i => q (p i))] at h3
      go_wp2
      go_roundw
      case rel => exact ⟨k + 1, by omega, by go_num, rfl⟩
      case measure => simp [intOf]; omega
    · obtain rfl : k = m := by omega
      clear hlt hk
      go_wp2
      exact res_agg (p := 6) (g := w.heap.size + 1 + 1) aggP (av_size (thenF p q k)) rfl rfl rfl (heap1 (by simp)) ⟨rfl, below4 _ _ _ _ _⟩

set_option maxHeartbeats 400000 in
theorem sThen_any (p q : Nat → Nat) (m : Nat) (hm : m ≤ 16) (hp : ∀ i, i < m → p i < 16) (w : World) :
    Calls Try.prog 81 #[.agg (av p), .agg (av q), .int .i64 m] w fun e w' => e = .returned (.agg (av (thenF p q m))) ∧ Below w.heap.size w w' := by
  have HP := hide hp; clear hp
  go_enter Try.func81, Try.ntmps81
  go_wp2
  rw [← av_zero]
  go_loopw [8] (fun i wr => ∃ k : Nat, k ≤ m ∧ i = .int .i64 k ∧ wr = (((w.alloc (.cells (av p) 28)).alloc (.cells (av q) 28)).alloc (.cells (av fun _ => 0) 28)).alloc (.cells (av (upto (fun i => q (p i)) k)) 28)) (fun i _ => m - (intOf i).toNat)
  case atStart => exact ⟨0, by omega, rfl, by rw [upto_zero]⟩
  case round =>
    obtain ⟨k, hk, rfl, rfl⟩ := hrel
    by_cases hlt : k < m
    · have hp16 := HP.out k hlt
      have h1 := av_get p (i := k) (by omega)
      have h2 := av_get q (i := p k) hp16
      have h4 := av_get (upto (fun i => q (p i)) k) (i := k) (by omega)
      have h3 := av_set (upto (fun i => q (p i)) k) k (q (p k))
      rw [upto_step (fun i => q (p i))] at h3
      go_wp2
      go_roundw
      case rel => exact ⟨k + 1, by omega, by go_num, rfl⟩
      case measure => simp [intOf]; omega
    · obtain rfl : k = m := by omega
      clear hlt hk
      go_wp2
      exact res_agg (p := 6) (g := w.heap.size + 1 + 1) aggP (av_size (thenF p q k)) rfl rfl rfl (heap1 (by simp)) ⟨rfl, below4 _ _ _ _ _⟩

set_option maxHeartbeats 400000 in
theorem undo_any (p : Nat → Nat) (m : Nat) (hm : m ≤ 16) (hp : ∀ i, i < m → p i < 16) (w : World) :
    Calls Try.prog 89 #[.agg (av p), .int .i64 m] w fun e w' => e = .returned (.agg (av (backF p m))) ∧ Below w.heap.size w w' := by
  have HP := hide hp; clear hp
  go_enter Try.func89, Try.ntmps89
  go_wp2
  rw [← av_zero]
  go_loopw [8] (fun i wr => ∃ k : Nat, k ≤ m ∧ i = .int .i64 k ∧ wr = ((w.alloc (.cells (av p) 28)).alloc (.cells (av fun _ => 0) 28)).alloc (.cells (av (backTo p k)) 28)) (fun i _ => m - (intOf i).toNat)
  case atStart => exact ⟨0, by omega, rfl, rfl⟩
  case round =>
    obtain ⟨k, hk, rfl, rfl⟩ := hrel
    by_cases hlt : k < m
    · have hp16 := HP.out k hlt
      have h1 := av_get p (i := k) (by omega)
      have h4 := av_get (backTo p k) (i := p k) hp16
      have h3 := av_set (backTo p k) (p k) k
      rw [backTo_step] at h3
      go_wp2
      go_roundw
      case rel => exact ⟨k + 1, by omega, by go_num, rfl⟩
      case measure => simp [intOf]; omega
    · obtain rfl : k = m := by omega
      clear hlt hk
      go_wp2
      exact res_agg (p := 4) (g := w.heap.size + 1) aggP (av_size (backF p k)) rfl rfl rfl (heap1 (by simp)) ⟨rfl, below3 _ _ _ _⟩

set_option maxHeartbeats 400000 in
theorem sBack_any (p : Nat → Nat) (m : Nat) (hm : m ≤ 16) (hp : ∀ i, i < m → p i < 16) (w : World) :
    Calls Try.prog 82 #[.agg (av p), .int .i64 m] w fun e w' => e = .returned (.agg (av (backF p m))) ∧ Below w.heap.size w w' := by
  have HP := hide hp; clear hp
  go_enter Try.func82, Try.ntmps82
  go_wp2
  rw [← av_zero]
  go_loopw [6] (fun i wr => ∃ k : Nat, k ≤ m ∧ i = .int .i64 k ∧ wr = ((w.alloc (.cells (av p) 28)).alloc (.cells (av fun _ => 0) 28)).alloc (.cells (av (backTo p k)) 28)) (fun i _ => m - (intOf i).toNat)
  case atStart => exact ⟨0, by omega, rfl, rfl⟩
  case round =>
    obtain ⟨k, hk, rfl, rfl⟩ := hrel
    by_cases hlt : k < m
    · have hp16 := HP.out k hlt
      have h1 := av_get p (i := k) (by omega)
      have h4 := av_get (backTo p k) (i := p k) hp16
      have h3 := av_set (backTo p k) (p k) k
      rw [backTo_step] at h3
      go_wp2
      go_roundw
      case rel => exact ⟨k + 1, by omega, by go_num, rfl⟩
      case measure => simp [intOf]; omega
    · obtain rfl : k = m := by omega
      clear hlt hk
      go_wp2
      exact res_agg (p := 4) (g := w.heap.size + 1) aggP (av_size (backF p k)) rfl rfl rfl (heap1 (by simp)) ⟨rfl, below3 _ _ _ _⟩

set_option maxHeartbeats 400000 in
theorem stay_any (m : Nat) (hm : m ≤ 16) (w : World) :
    Calls Try.prog 100 #[.int .i64 m] w fun e w' => e = .returned (.agg (av (sameF m))) ∧ Below w.heap.size w w' := by
  go_enter Try.func100, Try.ntmps100
  go_wp2
  rw [← av_zero]
  go_loopw [6] (fun i wr => ∃ k : Nat, k ≤ m ∧ i = .int .i64 k ∧ wr = (w.alloc (.cells (av fun _ => 0) 28)).alloc (.cells (av (upto (fun i => i) k)) 28)) (fun i _ => m - (intOf i).toNat)
  case atStart => exact ⟨0, by omega, rfl, by rw [upto_zero]⟩
  case round =>
    obtain ⟨k, hk, rfl, rfl⟩ := hrel
    by_cases hlt : k < m
    · have h4 := av_get (upto (fun i => i) k) (i := k) (by omega)
      have h3 := av_set (upto (fun i => i) k) k k
      rw [upto_step (fun i => i)] at h3
      go_wp2
      go_roundw
      case rel => exact ⟨k + 1, by omega, by go_num, rfl⟩
      case measure => simp [intOf]; omega
    · obtain rfl : k = m := by omega
      clear hlt hk
      go_wp2
      exact res_agg (p := 2) (g := w.heap.size) aggP (av_size (sameF k)) rfl rfl rfl (heap1 (by simp)) ⟨rfl, below2 _ _ _⟩

set_option maxHeartbeats 400000 in
theorem sSame_any (m : Nat) (hm : m ≤ 16) (w : World) :
    Calls Try.prog 71 #[.int .i64 m] w fun e w' => e = .returned (.agg (av (sameF m))) ∧ Below w.heap.size w w' := by
  go_enter Try.func71, Try.ntmps71
  go_wp2
  rw [← av_zero]
  go_loopw [4] (fun i wr => ∃ k : Nat, k ≤ m ∧ i = .int .i64 k ∧ wr = (w.alloc (.cells (av fun _ => 0) 28)).alloc (.cells (av (upto (fun i => i) k)) 28)) (fun i _ => m - (intOf i).toNat)
  case atStart => exact ⟨0, by omega, rfl, by rw [upto_zero]⟩
  case round =>
    obtain ⟨k, hk, rfl, rfl⟩ := hrel
    by_cases hlt : k < m
    · have h4 := av_get (upto (fun i => i) k) (i := k) (by omega)
      have h3 := av_set (upto (fun i => i) k) k k
      rw [upto_step (fun i => i)] at h3
      go_wp2
      go_roundw
      case rel => exact ⟨k + 1, by omega, by go_num, rfl⟩
      case measure => simp [intOf]; omega
    · obtain rfl : k = m := by omega
      clear hlt hk
      go_wp2
      exact res_agg (p := 2) (g := w.heap.size) aggP (av_size (sameF k)) rfl rfl rfl (heap1 (by simp)) ⟨rfl, below2 _ _ _⟩

end Go.Proofs.Ytjhpkibeddnbfaa