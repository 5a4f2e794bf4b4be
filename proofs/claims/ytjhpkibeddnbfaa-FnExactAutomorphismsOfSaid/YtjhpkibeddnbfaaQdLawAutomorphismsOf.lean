/- Texts put together: SPr, MorM, CellR, Prod, Mor, SMor, NamOf, ProAt, Mk1, MorOf, IsoOf -/
import Derived.Test.YtjhpkibeddnbfaaQcLawAutomorphismsOf
import Derived.Test.YtjhpkibeddnbfaaChecked
import Derived.WalkKit
import Derived.WalkSpells
import Derived.WalkLawsBesides
import Derived.Deep.LoopGhost
import Derived.Deep.OwnRows
import Derived.Laws.Rows
import Derived.Laws.Tables
import Derived.Laws.CopyOwn
import Derived.ProofKit
import Derived.OpenShut
import Derived.ShutString
import Derived.ChangeOld
import Derived.Below
import Derived.Laws.OwnMore
import Derived.Maps.Keyed
import Derived.DeepKeys4
import Derived.Maps.Own
import Derived.Laws.CopyRow
import Derived.Deep.MidRow
import Derived.Carry
import Derived.BigQuiet
import Derived.Deep.QuietTactic
import Derived.RegionTactic
import Derived.Deep.RegionWith
import Derived.Deep.Quiet
import Derived.StillTail
import Derived.ChangeKeysEq
import Derived.StillTailTactics
import Derived.Deep.RegionHeld3
import Derived.Laws.Cover3
import Derived.Lib.Bytealg
import Derived.Lib.BytesEntry
import Derived.Laws.Externs
import Derived.Laws.StructEq
import Derived.IntWalk
namespace Go.Proofs.Ytjhpkibeddnbfaa
open Go.RowKit

/-- sixteen rows of sixteen numbers -/
@[irreducible] def nv (h : Nat → Int) : Array Value := row 256 fun i => .int .i64 (h i)
theorem nv_size (h : Nat → Int) : (nv h).size = 256 := by unfold nv; exact row_size _ _
theorem nv_get (h : Nat → Int) {i : Nat} (hi : i < 256) : (nv h)[i]? = some (.int .i64 (h i)) := by unfold nv; exact row_get _ _ hi
def hset (h : Nat → Int) (i : Nat) (v : Int) : Nat → Int := fun j => if j = i then v else h j
theorem nv_set (h : Nat → Int) (i : Nat) (v : Int) : (nv h).setIfInBounds i (.int .i64 v) = nv (hset h i v) := by
  unfold nv
  rw [row_set]
  apply row_congr
  intro j _
  unfold hset
  by_cases c : j = i
  · rw [if_pos c, if_pos c]
  · rw [if_neg c, if_neg c]
theorem nv_cells (h : Nat → Int) : (nv h).all (·.oneCell') = true := by unfold nv row; simp [Value.oneCell']
/-- the names of the codes in a list -/
def nmF (l : List Nat) : Nat → Int := fun z => if z ∈ l then (l.idxOf z : Int) else -1
theorem nmF_add {l : List Nat} {z : Nat} (h : z ∉ l) : hset (nmF l) z l.length = nmF (l ++ [z]) := by
  funext y
  unfold hset nmF
  by_cases c : y = z
  · subst c
    rw [if_pos rfl, if_pos (by simp), List.idxOf_append, if_neg h]
    simp
  · rw [if_neg c]
    by_cases d : y ∈ l
    · rw [if_pos d, if_pos (by simp [d]), List.idxOf_append, if_pos d]
    · rw [if_neg d, if_neg (by simp [d, c])]
theorem nmF_lt {l : List Nat} {z : Nat} : (nmF l z < 0) ↔ z ∉ l := by
  unfold nmF
  by_cases d : z ∈ l
  · rw [if_pos d]; simp [d]
  · rw [if_neg d]; simp [d]
/-- minus ones, so many -/
def neg (k : Nat) : Nat → Int := fun z => if z < k then -1 else 0
theorem neg_step (k : Nat) : hset (neg k) k (-1) = neg (k + 1) := by
  funext z
  unfold hset neg
  by_cases c : z = k
  · subst c; simp
  · have : z < k + 1 ↔ z < k := by omega
    simp [c, this]
theorem neg_all {z : Nat} (k : Nat) (h : z < 256) : nv (hset (neg 256) z 0) = nv (nmF [z]) := by
  unfold nv
  apply row_congr
  intro j hj
  unfold hset neg nmF
  by_cases c : j = z
  · subst c; simp
  · simp [c, hj]
/-- rows of [2]byte -/
theorem infoPb : (Try.prog.info? 76).map (fun i => (i.zero, i.size, i.bytes)) = some (some (.agg #[.int .u8 0, .int .u8 0]), 2, 2) := by kernel_rfl
def pPairsB (v : Value) (l : List (Nat × Nat)) : Part := pRow v 76 2 l.length (pairB l)
theorem Holds.pairsB {w0 w : World} {L : List Part} (h : Holds w0 w L) (i : Nat) {v : Value} {l : List (Nat × Nat)} (hi : L[i]? = some (pPairsB v l)) {k : Nat} (hk : k < l.length) :
    ∃ g c, v = .slice (some ⟨g, 0, none⟩) l.length c ∧ g < w.heap.size ∧ w.cell? ⟨g, k * 2, none⟩ = some (.int .u8 (l[k].1 : Int)) ∧ w.cell? ⟨g, k * 2 + 1, none⟩ = some (.int .u8 (l[k].2 : Int)) := by
  obtain ⟨g, c, h1, h2, h3, h4, h5, h6, h7⟩ := row_at (h.row i hi) (by omega : 0 < l.length)
  exact ⟨g, c, h1, h3, h6 _ _ (pairB_at hk).1, h6 _ _ (pairB_at hk).2⟩
theorem Holds.pairsBForm {w0 w : World} {L : List Part} (h : Holds w0 w L) (i : Nat) {v : Value} {l : List (Nat × Nat)} (hi : L[i]? = some (pPairsB v l)) : ∃ A c, v = .slice A l.length c := own_slice (h.row i hi)
theorem appBp {ops : Array Oper} {rest : List Oper} {o : Oper} {a : Act} {Q : Exit → Act → World → Prop} {w0 w : World} {L : List Part} (H : Holds w0 w L) (k : Nat) {v : Value} {l : List (Nat × Nat)} (hk : L[k]? = some (pPairsB v l))
    (g : Nat) (news : List (Nat × Nat)) (t : TypeId) (hc : w.heap[g]? = some (.cells (pairB news).toArray t (0, 0))) (hb : l.length + news.length ≤ 1000000)
    (hgd : o.guard = none) (s x : Operand)
    (ho : o.op = .call { callee := .builtin .append, args := #[s, x], argTypes := #[71, 71] })
    (hs : a.eval s = v) (hx : a.eval x = .slice (some ⟨g, 0, none⟩) news.length news.length)
    (h : ∀ v' w', Holds w0 w' (L.set k (pPairsB v' (l ++ news))) → wpList Try.prog ops Q rest (a.put o.dst v') w') : wpList Try.prog ops Q (o :: rest) a w := by
  obtain ⟨i0, hi, hz0, hz1, hz2⟩ := info_parts infoPb
  refine appH (P := Try.prog) hgd s x 71 ho 76 i0 (.agg #[.int .u8 0, .int .u8 0]) 2 2 Try.underlying71 hi hz0 hz1 hz2 rfl (by decide) v l.length (pairB l) hs H k hk ⟨g, 0, none⟩ news.length news.length (pairB news) hx
    (pairB_length _) (fun j u hu => ?_) pairB_one (by unfold maxLen; omega) (by omega) fun v' w' h1 => h v' w' ?_
  · have : ((⟨g, 0, none⟩ : Addr).add j) = ⟨g, j, none⟩ := by simp [Addr.add]; exact Eq.symm
    rw [this, cell_of_cells, cellsOf_heap hc]
    simpa using hu
  · unfold pPairsB at *
    rw [List.length_append, pairB_append]
    exact h1

theorem aggN : AggT 73 256 := ⟨⟨_, Try.underlying73, rfl⟩, by kernel_rfl⟩
theorem zeroN (w : World) : (zeroValue 73).run Try.prog w = .ok (.agg (nv fun _ => 0)) w := by
  have h : (Try.prog.info? 73).map (·.zero) = some (some (.agg (row 256 fun _ => .int .i64 0))) := by unfold row; kernel_rfl
  rcases hi : Try.prog.info? 73 with _ | i
  · rw [hi] at h; cases h
  · rw [hi] at h
    have hz : i.zero = some (.agg (row 256 fun _ => .int .i64 0)) := by simpa using h
    have e : nv (fun _ => 0) = row 256 fun _ => .int .i64 0 := by unfold nv; rfl
    simp [zeroValue, typeInfo, hi, hz, e]
def Is256 (c : Array Value) : Prop := c.size = 256
@[go_sem] theorem is256_nv (f : Nat → Int) : Is256 (nv f) ↔ True := ⟨fun _ => trivial, fun _ => nv_size f⟩
@[go_sem] theorem ones_nv (f : Nat → Int) : Ones (nv f) ↔ True := ⟨fun _ => trivial, fun _ => nv_cells f⟩
@[go_sem] theorem rowOk_at256 {w : World} {g : Nat} {c : Array Value} {t : TypeId} (h : g = w.heap.size) (hc : Is256 c) : rowOk (w.alloc (.cells c t)) g 256 ↔ True := ⟨fun _ => trivial, fun _ => ⟨c, t, heap_at _ _ _ h, hc⟩⟩
section
variable (ρ : Operand → Value) (dst : Option Tmp) (x y : Operand) (ty : TypeId) (pos : String) (after : Array Edge) (guard : Option (Nat × Bool)) {w : World} {g : Nat} {cs : Array Value}
@[go_sem ↓] theorem exec_loadN : execOp ρ { dst, op := .load 73 x, type := ty, pos, after, guard } = loadT 73 (ρ x) := rfl
@[go_sem ↓] theorem exec_storeN : execOp ρ { dst, op := .store 73 x y, type := ty, pos, after, guard } = storeT 73 (ρ x) (ρ y) := rfl
@[go_sem] theorem run_loadN (h : Is256 (cellsOf w g)) : (loadT 73 (.pointer (some ⟨g, 0, none⟩))).run Try.prog w = .ok (.value (.agg (cellsOf w g))) w := run_loadT aggN h (by decide)
@[go_sem] theorem run_storeN (h : rowOk w g 256) (hs : Is256 cs) (hc : Ones cs) : (storeT 73 (.pointer (some ⟨g, 0, none⟩)) (.agg cs)).run Try.prog w = .ok .skip (w.setRow g cs) := run_storeT aggN h hs hc
end
set_option maxRecDepth 100000 in
set_option maxHeartbeats 4000000 in
theorem sPairs_any (f g f' g' : Nat → Nat) (m n : Nat) (hd : DesN f g m) (he : DesN f' g' n) (x y : Nat) (hx : x < 16) (hy : y < 16) (w : World) :
    Calls Try.prog 55 #[.agg (dv m f g), .agg (dv n f' g'), .int .u8 x, .int .u8 y] w fun e w' => ∃ v, e = .returned (.tuple #[v, .agg (nv (nmF (bfs (bF f f') (bF g g') (16 * x + y) 256).1))]) ∧ Below w.heap.size w w' ∧
      w'.ownsRow w.heap.size 76 2 v (bfs (bF f f') (bF g g') (16 * x + y) 256).1.length (pairB (dec (bfs (bF f f') (bF g g') (16 * x + y) 256).1)) := by
  have zz := zeroN
  have hB := fun z hz => bF_lt hd.black he.black z hz
  have hW := fun z hz => bF_lt hd.white he.white z hz
  have hz0 : 16 * x + y < 256 := by omega
  obtain ⟨F, FI, F0, FN, FE⟩ : ∃ (F : Nat → List Nat × (Nat → Bool)), Hid (∀ k, BInv 256 (F k)) ∧ Hid (F 0 = ([16 * x + y], mset (fun _ => false) (16 * x + y))) ∧ Hid (∀ k (hk : k < (F k).1.length), F (k + 1) = bst (bF f f') (bF g g') (F k) ((F k).1[k]) 2) ∧
      Hid (∀ k, k ≤ 256 → (F k).1.length ≤ k → (bfs (bF f f') (bF g g') (16 * x + y) 256).1 = (F k).1) :=
    ⟨bfs (bF f f') (bF g g') (16 * x + y), hide fun k => bfs_inv hB hW hz0 k, hide (bfs_start _ _ _), hide fun k hk => bfs_next hk, hide fun k h1 h2 => by
      generalize 256 = K at *
      rw [bfs_stop h2 h1]⟩
  obtain ⟨R, hR⟩ : ∃ R, R = (bfs (bF f f') (bF g g') (16 * x + y) 256).1 := ⟨_, rfl⟩
  rw [← hR] at FE ⊢
  clear hR
  have HBW := hide (And.intro hB hW); clear hB hW
  have HP := hide (And.intro (And.intro hd.black hd.white) (And.intro he.black he.white)); clear hd he
  have hd0 : dec [16 * x + y] = [(x, y)] := by
    unfold dec
    simp only [List.map_cons, List.map_nil]
    rw [show (16 * x + y) / 16 = x by omega, show (16 * x + y) % 16 = y by omega]
  have HD0 := hide hd0; clear hd0
  have HHa := (((Holds.start w).blk (dv m f g) 30 w.heap.size rfl).blk (dv n f' g') 30 (w.heap.size + 1) (by simp)).blk (nv fun _ => 0) 73 (w.heap.size + 1 + 1) (by simp)
  have HHb := (HHa.rowNew #[.int .u8 x, .int .u8 y] 76 2 1 (w.heap.size + 1 + 1 + 1) (by simp) rfl (by unfold maxLen; omega)).blk (nv fun _ => 0) 73 (w.heap.size + 1 + 1 + 1 + 1) (by simp)
  clear HHa
  go_enter Try.func55, Try.ntmps55
  go_wp2
  clear zz
  go_loopw [12] (fun t wr => ∃ i : Nat, i ≤ 16 ∧ t = .int .i64 i ∧ Holds w wr [pBlk (w.heap.size + 1 + 1 + 1 + 1) (nv (neg (16 * i))) 73, pPairsB (.slice (some ⟨(w.heap.size + 1 + 1 + 1), 0, none⟩) 1 1) [(x, y)], pBlk (w.heap.size + 1 + 1) (nv fun _ => 0) 73, pBlk (w.heap.size + 1) (dv n f' g') 30, pBlk w.heap.size (dv m f g) 30]) (fun t _ => 16 - (intOf t).toNat)
  case atStart => exact ⟨0, by omega, rfl, by rw [show neg (16 * 0) = fun _ => 0 from by funext z; simp [neg]]; exact HHb⟩
  case round =>
    clear HHb
    obtain ⟨i, hi, rfl, hH⟩ := hrel
    by_cases hil : i < 16
    · go_wp2
      go_loopw [13] (fun t wr => ∃ k : Nat, k ≤ 16 ∧ t = .int .i64 k ∧ Holds w wr [pBlk (w.heap.size + 1 + 1 + 1 + 1) (nv (neg (16 * i + k))) 73, pPairsB (.slice (some ⟨(w.heap.size + 1 + 1 + 1), 0, none⟩) 1 1) [(x, y)], pBlk (w.heap.size + 1 + 1) (nv fun _ => 0) 73, pBlk (w.heap.size + 1) (dv n f' g') 30, pBlk w.heap.size (dv m f g) 30]) (fun t _ => 16 - (intOf t).toNat)
      case atStart => exact ⟨0, by omega, rfl, hH⟩
      case round =>
        clear hH
        obtain ⟨k, hk, rfl, hH⟩ := hrel
        by_cases hkl : k < 16
        · have z1 := hH.cell 0 rfl (nv_get (neg (16 * i + k)) (i := i * 16 + k) (by omega))
          have f1 := hH.frozen 0 rfl (i * 16 + k)
          have hs := neg_step (16 * i + k)
          rw [show hset (neg (16 * i + k)) (16 * i + k) (-1) = hset (neg (16 * i + k)) (i * 16 + k) (-1) by rw [Nat.mul_comm]] at hs
          have HS := hide hs; clear hs
          go_wp2
          go_roundw
          case rel => exact ⟨k + 1, by omega, by go_num, by rw [← Nat.add_assoc, ← HS.out, ← nv_set]; exact hH.set 0 rfl (i * 16 + k) _⟩
          case measure => simp [intOf]; omega
        · obtain rfl : k = 16 := by omega
          clear hk hkl
          go_wp2
          go_roundw
          case rel => exact ⟨i + 1, by omega, by go_num, by rw [show 16 * (i + 1) = 16 * i + 16 by omega]; exact hH⟩
          case measure => simp [intOf]; omega
    · obtain rfl : i = 16 := by omega
      clear hi hil
      have z1 := hH.cell 0 rfl (nv_get (neg (16 * 16)) (i := x * 16 + y) (by omega))
      have f1 := hH.frozen 0 rfl (x * 16 + y)
      have hx' : (x : Int) < 16 := by omega
      have hy' : (y : Int) < 16 := by omega
      have hq : (nv (neg (16 * 16))).setIfInBounds (x * 16 + y) (.int .i64 0) = nv (nmF [16 * x + y]) := by
        rw [nv_set, show x * 16 + y = 16 * x + y by omega]; exact neg_all 0 hz0
      have hH1 := hH.set 0 rfl (x * 16 + y) (.int .i64 0)
      rw [hq, ← HD0.out] at hH1
      clear hq
      -- second half
      have hF0 := F0.out
      rw [show nmF [16 * x + y] = nmF (F 0).1 by rw [hF0], show [16 * x + y] = (F 0).1 by rw [hF0]] at hH1
      clear hF0
      go_wp2
      clear z1 f1 hx' hy'
      clear hH
      go_loopw [11, 14] (fun u t wr => ∃ k : Nat, k ≤ (F k).1.length ∧ t = .int .i64 k ∧ Holds w wr [pBlk (w.heap.size + 1 + 1 + 1 + 1) (nv (nmF (F k).1)) 73, pPairsB u (dec (F k).1), pBlk (w.heap.size + 1 + 1) (nv fun _ => 0) 73, pBlk (w.heap.size + 1) (dv n f' g') 30, pBlk w.heap.size (dv m f g) 30]) (fun _ t _ => 257 - (intOf t).toNat)
      case atStart => exact ⟨0, by omega, rfl, hH1⟩
      case round =>
        clear hH1
        obtain ⟨k, hk, rfl, hH⟩ := hrel
        have hI := FI.out k
        have hle := hI.length_le
        by_cases hkl : k < (F k).1.length
        · obtain ⟨g0, c0, rfl, _, y1, y2⟩ := hH.pairsB 1 rfl (k := k) (by rw [dec_length]; exact hkl)
          have hnx := FN.out k hkl
          have hX := hI.lt _ (List.getElem_mem hkl)
          have hda := dec_at hkl
          obtain ⟨a, hab1⟩ : ∃ a, a = (F k).1[k] / 16 := ⟨_, rfl⟩
          obtain ⟨b, hab2⟩ : ∃ b, b = (F k).1[k] % 16 := ⟨_, rfl⟩
          rw [← hab1, ← hab2] at hda
          rw [hda] at y1 y2
          clear hda
          have ha16 : a < 16 := by omega
          have hb16 : b < 16 := by omega
          have ha' : (a : Int) < 16 := by omega
          have hb' : (b : Int) < 16 := by omega
          rw [dec_length] at hH ⊢
          generalize hS : F k = S at *
          generalize S.1[k] = X at *
          have HS := hide hS; clear hS
          have HNX := hide hnx; clear hnx
          have HI := hide hI; clear hI
          have hfa := HP.out.1.1.lt16 ha16
          have hga := HP.out.1.2.lt16 ha16
          have hfb := HP.out.2.1.lt16 hb16
          have hgb := HP.out.2.2.lt16 hb16
          have hB := HBW.out.1 X hX
          have hW := HBW.out.2 X hX
          have vB : bF f f' X / 16 = f a ∧ bF f f' X % 16 = f' b := by rw [hab1, hab2]; rw [hab2] at hfb; exact ⟨bF_1 hfb, bF_2 hfb⟩
          have vW : bF g g' X / 16 = g a ∧ bF g g' X % 16 = g' b := by rw [hab1, hab2]; rw [hab2] at hgb; exact ⟨bF_1 hgb, bF_2 hgb⟩
          have eB : f a * 16 + f' b = bF f f' X ∧ f a < 16 ∧ f' b < 16 := ⟨by omega, hfa, hfb⟩
          have eW : g a * 16 + g' b = bF g g' X ∧ g a < 16 ∧ g' b < 16 := ⟨by omega, hga, hgb⟩
          have dB : ∀ l : List Nat, dec (l ++ [bF f f' X]) = dec l ++ [(f a, f' b)] := fun l => by rw [dec_snoc, vB.1, vB.2]
          have dW : ∀ l : List Nat, dec (l ++ [bF g g' X]) = dec l ++ [(g a, g' b)] := fun l => by rw [dec_snoc, vW.1, vW.2]
          have DD := hide (And.intro dB dW); clear dB dW
          have EE := hide (And.intro eB eW); clear eB eW vB vW
          have HAB := hide (And.intro hab1 hab2); clear hab1 hab2
          have HBX := hide (And.intro hB hW); clear hB hW
          have HH0 := hH.blk #[.int .u8 (a : Nat), .int .u8 (b : Nat)] 76 wr.heap.size rfl
          go_wp2
          clear y1 y2 hH
          generalize wr.alloc (.cells #[.int .u8 (a : Nat), .int .u8 (b : Nat)] 76) = wo at *
          generalize wr.heap.size = G5 at *
          go_loopw [11, 16] (fun u t wr => ∃ i : Nat, i ≤ 2 ∧ t = .int .i64 i ∧ Holds w wr [pBlk G5 #[.int .u8 (a : Nat), .int .u8 (b : Nat)] 76, pBlk (w.heap.size + 1 + 1 + 1 + 1) (nv (nmF (bst (bF f f') (bF g g') S X i).1)) 73, pPairsB u (dec (bst (bF f f') (bF g g') S X i).1), pBlk (w.heap.size + 1 + 1) (nv fun _ => 0) 73, pBlk (w.heap.size + 1) (dv n f' g') 30, pBlk w.heap.size (dv m f g) 30]) (fun _ t _ => 2 - (intOf t).toNat)
          case atStart => exact ⟨0, by omega, rfl, HH0⟩
          case round =>
            clear HH0
            obtain ⟨i, hi, rfl, hH⟩ := hrel
            by_cases hi2 : i < 2
            · have hIT := bst_inv HI.out HBX.out.1 HBX.out.2 i
              go_wp2
              refine Rd.region_P (w0 := w) [pBlk G5 #[.int .u8 (a : Nat), .int .u8 (b : Nat)] 76, pBlk (w.heap.size + 1 + 1 + 1 + 1) (nv (nmF (bst (bF f f') (bF g g') S X i).1)) 73, pPairsB u11 (dec (bst (bF f f') (bF g g') S X i).1), pBlk (w.heap.size + 1 + 1) (nv fun _ => 0) 73, pBlk (w.heap.size + 1) (dv n f' g') 30, pBlk w.heap.size (dv m f g) 30] [pBlk G5 #[.int .u8 (a : Nat), .int .u8 (b : Nat)] 76, pBlk (w.heap.size + 1 + 1 + 1 + 1) (nv (nmF (bst (bF f f') (bF g g') S X i).1)) 73, pPairsB u11 (dec (bst (bF f f') (bF g g') S X i).1), pBlk (w.heap.size + 1 + 1) (nv fun _ => 0) 73, pBlk (w.heap.size + 1) (dv n f' g') 30, pBlk w.heap.size (dv m f g) 30] [11, 12] (.q 0 <| .q 1 <| .q 2 <| .q 3 <| .q 4 <| .q 5 <| .q 6 <| .q 7 <| .q 8 <| .q 9 <| .q 10 <| .s1 11 <| .s1 12 .fin) hH (.refl _) (by kernel_rfl) (by kernel_rfl) (by kernel_rfl) ?_
              iterate 11
                apply Rd.v_q
                · simp only [List.getElem?_toArray, List.getElem?_cons_zero, List.getElem?_cons_succ]; exact rfl
                · rfl
                · go_simp
                · intro wx hx
                  have q1 := hx.cell 0 (j := 0) rfl rfl
                  have q2 := hx.cell 0 (j := 1) rfl rfl
                  have c3 := hx.cell 5 rfl (dv_b m f g ha16)
                  have c4 := hx.cell 4 rfl (dv_b n f' g' hb16)
                  unfold atG
                  go_simp
                  simp only [uponG]
                  exact ⟨by trivial, rfl⟩
              refine Rd.v_box #[.int .u8 0, .int .u8 0] 76 (by simp only [List.getElem?_toArray, List.getElem?_cons_zero, List.getElem?_cons_succ]; exact rfl) rfl (by go_simp) (fun wx hx hD => by go_simp) fun gq => ?_
              refine Rd.v_s (Rd.rHolds w fun _ => pBlk gq #[(.int .u8 (f a : Nat)), (.int .u8 (f' b : Nat))] 76 :: [pBlk G5 #[.int .u8 (a : Nat), .int .u8 (b : Nat)] 76, pBlk (w.heap.size + 1 + 1 + 1 + 1) (nv (nmF (bst (bF f f') (bF g g') S X i).1)) 73, pPairsB u11 (dec (bst (bF f f') (bF g g') S X i).1), pBlk (w.heap.size + 1 + 1) (nv fun _ => 0) 73, pBlk (w.heap.size + 1) (dv n f' g') 30, pBlk w.heap.size (dv m f g) 30]) Rd.rHolds_stable (by simp only [List.getElem?_toArray, List.getElem?_cons_zero, List.getElem?_cons_succ]; exact rfl) rfl (by go_simp) (fun wx hx hD => ?_) ?_
              · skip
                have c0 := hD.cell 0 (j := 0) rfl rfl
                have fr0 := hD.frozen 0 rfl 0
                have c1 := hD.cell 0 (j := 1) rfl rfl
                have fr1 := hD.frozen 0 rfl 1
                go_simp
                simp only [Rd.uponE]
                have h2 := (hD.set 0 rfl 0 ((.int .u8 (f a : Nat)))).set 0 rfl 1 ((.int .u8 (f' b : Nat)))
                exact ⟨h2.tail, h2⟩
              rintro vn -

              rintro w2 - hT
              clear hH
              generalize gq = G6 at *
              have hii : i = 0 ∨ i = 1 := by omega
              rcases hii with hi0 | hi1
              · obtain rfl := hi0
                have hst : bst (bF f f') (bF g g') S X 1 = badd (bst (bF f f') (bF g g') S X 0) (bF f f' X) := rfl
                generalize bst (bF f f') (bF g g') S X 0 = T at *
                have HIT := hide hIT; clear hIT
                have HST := hide hst; clear hst
                go_wp2
                have hzi : f a * 16 + f' b = bF f f' X := EE.out.1.1
                have hx16 : f a < 16 := EE.out.1.2.1
                have hy16 : f' b < 16 := EE.out.1.2.2
                have hz256 := HBX.out.1
                have hxi : ((f a : Nat) : Int) < 16 := by omega
                have hyi : ((f' b : Nat) : Int) < 16 := by omega
                have t0 := hT.cell 0 (j := 0) rfl rfl
                have t1 := hT.cell 0 (j := 1) rfl rfl
                have n0 := hT.cell 2 rfl (nv_get (nmF T.1) (i := f a * 16 + f' b) (by omega))
                have hTl := HIT.out.length_le
                rcases hTY : T.2 (bF f f' X) with _ | _
                · have hnm : (bF f f' X) ∉ T.1 := fun h => by rw [(HIT.out.mem _).2 h] at hTY; cases hTY
                  have hneg : decide (nmF T.1 (f a * 16 + f' b) < 0) = true := by rw [hzi]; simpa using nmF_lt.2 hnm
                  have hq : (nv (nmF T.1)).setIfInBounds (f a * 16 + f' b) (.int .i64 (T.1.length : Nat)) = nv (nmF (T.1 ++ [bF f f' X])) := by rw [nv_set, hzi]; exact congrArg nv (nmF_add hnm)
                  have HTY := hide hTY; clear hTY
                  have HQ := hide hq; clear hq hnm hzi
                  obtain ⟨A', c', rfl⟩ := hT.pairsBForm 3 rfl
                  rw [dec_length] at hT ⊢
                  go_wp2
                  go_quiet (fail)
                  have hTq := hT.drewN nq
                  clear t0 t1 n0 hT hneg
                  generalize w2.drewN nq = wq at *
                  go_wp2
                  refine region_tail (fun wx => Holds w wx _) 8 (by kernel_rfl) (by kernel_rfl) hTq.drew ?_
                  simp only [List.take_succ_cons, List.take_zero, List.drop_succ_cons, List.drop_zero]
                  iterate 8
                    apply q_step
                    · go_simp
                    · intro wx hx
                      have t0 := hx.cell 0 (j := 0) rfl rfl
                      have t1 := hx.cell 0 (j := 1) rfl rfl
                      go_simp
                      try exact rfl
                  refine wpQuiet_nil ?_
                  intro w4 hx4
                  have n0 := hx4.cell 2 rfl (nv_get (nmF T.1) (i := f a * 16 + f' b) (by omega))
                  have n1 := hx4.frozen 2 rfl (f a * 16 + f' b)
                  have hS := hx4.set 2 rfl (f a * 16 + f' b) (.int .i64 (T.1.length : Nat))
                  rw [HQ.out] at hS
                  have t0 := hS.cell 0 (j := 0) rfl rfl
                  have t1 := hS.cell 0 (j := 1) rfl rfl
                  clear hTq
                  go_wp2_with (at_builtin; refine appBp (hS.alloc _) 3 rfl w4.heap.size [(f a, f' b)] 76 ?_ ?_ rfl _ _ rfl rfl rfl ?_)
                  · exact heap_at _ _ _ (by simp)
                  · rw [dec_length]; simp only [List.length_cons, List.length_nil]; omega
                  intro v' w5 hH5
                  clear t0 t1 n0 n1 hx4 hS
                  go_wp2
                  go_roundw
                  case rel =>
                    refine ⟨1, by omega, by go_num, ?_⟩
                    rw [HST.out, badd_new HTY.out]
                    show Holds w w5 [_, pBlk _ (nv (nmF (T.1 ++ [bF f f' X]))) _, pPairsB v' (dec (T.1 ++ [bF f f' X])), _, _, _]
                    rw [DD.out.1]
                    exact hH5.tail
                  case measure => simp [intOf]
                · have hnm : (bF f f' X) ∈ T.1 := (HIT.out.mem _).1 hTY
                  have hneg : decide (nmF T.1 (f a * 16 + f' b) < 0) = false := by
                    rw [hzi]
                    exact decide_eq_false fun h => nmF_lt.1 h hnm
                  have HTY := hide hTY; clear hTY hnm hzi
                  go_wp2
                  go_quiet (fail)
                  have hTq := hT.drewN nq
                  clear t0 t1 n0 hT hneg
                  go_wp2
                  go_roundw
                  case rel =>
                    refine ⟨1, by omega, by go_num, ?_⟩
                    rw [HST.out, badd_old HTY.out]
                    exact hTq.tail
                  case measure => simp [intOf]

              · obtain rfl := hi1
                have hst : bst (bF f f') (bF g g') S X 2 = badd (bst (bF f f') (bF g g') S X 1) (bF g g' X) := rfl
                generalize bst (bF f f') (bF g g') S X 1 = T at *
                have HIT := hide hIT; clear hIT
                have HST := hide hst; clear hst
                go_wp2
                refine region_tail (fun wx => Holds w wx _) 11 (by kernel_rfl) (by kernel_rfl) hT.drew ?_
                simp only [List.take_succ_cons, List.take_zero, List.drop_succ_cons, List.drop_zero]
                iterate 11
                  apply q_step
                  · go_simp
                  · intro wx hx
                    have q1 := hx.cell 1 (j := 0) rfl rfl
                    have q2 := hx.cell 1 (j := 1) rfl rfl
                    have c3 := hx.cell 6 rfl (dv_w m f g ha16)
                    have c4 := hx.cell 5 rfl (dv_w n f' g' hb16)
                    go_simp
                    try exact rfl
                refine wpQuiet_nil ?_
                intro w3 hx3
                have c0 := hx3.cell 0 (j := 0) rfl rfl
                have fr0 := hx3.frozen 0 rfl 0
                have c1 := hx3.cell 0 (j := 1) rfl rfl
                have fr1 := hx3.frozen 0 rfl 1
                clear hT
                have hT := (hx3.set 0 rfl 0 (.int .u8 (g a : Nat))).set 0 rfl 1 (.int .u8 (g' b : Nat))
                replace hT : Holds w ((w3.setCell ⟨G6, 0, none⟩ (.int .u8 (g a : Nat))).setCell ⟨G6, 1, none⟩ (.int .u8 (g' b : Nat))) [pBlk G6 #[.int .u8 (g a : Nat), .int .u8 (g' b : Nat)] 76, pBlk G5 #[.int .u8 (a : Nat), .int .u8 (b : Nat)] 76, pBlk (w.heap.size + 1 + 1 + 1 + 1) (nv (nmF T.1)) 73, pPairsB u11 (dec T.1), pBlk (w.heap.size + 1 + 1) (nv fun _ => 0) 73, pBlk (w.heap.size + 1) (dv n f' g') 30, pBlk w.heap.size (dv m f g) 30] := hT
                go_wp2_with fail
                clear c0 c1 fr0 fr1 hx3
                generalize (w3.setCell ⟨G6, 0, none⟩ (.int .u8 (g a : Nat))).setCell ⟨G6, 1, none⟩ (.int .u8 (g' b : Nat)) = w6 at *
                have hzi : g a * 16 + g' b = bF g g' X := EE.out.2.1
                have hx16 : g a < 16 := EE.out.2.2.1
                have hy16 : g' b < 16 := EE.out.2.2.2
                have hz256 := HBX.out.2
                have hxi : ((g a : Nat) : Int) < 16 := by omega
                have hyi : ((g' b : Nat) : Int) < 16 := by omega
                have t0 := hT.cell 0 (j := 0) rfl rfl
                have t1 := hT.cell 0 (j := 1) rfl rfl
                have n0 := hT.cell 2 rfl (nv_get (nmF T.1) (i := g a * 16 + g' b) (by omega))
                have hTl := HIT.out.length_le
                rcases hTY : T.2 (bF g g' X) with _ | _
                · have hnm : (bF g g' X) ∉ T.1 := fun h => by rw [(HIT.out.mem _).2 h] at hTY; cases hTY
                  have hneg : decide (nmF T.1 (g a * 16 + g' b) < 0) = true := by rw [hzi]; simpa using nmF_lt.2 hnm
                  have hq : (nv (nmF T.1)).setIfInBounds (g a * 16 + g' b) (.int .i64 (T.1.length : Nat)) = nv (nmF (T.1 ++ [bF g g' X])) := by rw [nv_set, hzi]; exact congrArg nv (nmF_add hnm)
                  have HTY := hide hTY; clear hTY
                  have HQ := hide hq; clear hq hnm hzi
                  obtain ⟨A', c', rfl⟩ := hT.pairsBForm 3 rfl
                  rw [dec_length] at hT ⊢
                  go_wp2
                  go_quiet (fail)
                  have hTq := hT.drewN nq
                  clear t0 t1 n0 hT hneg
                  generalize w6.drewN nq = wq at *
                  go_wp2
                  refine region_tail (fun wx => Holds w wx _) 8 (by kernel_rfl) (by kernel_rfl) hTq.drew ?_
                  simp only [List.take_succ_cons, List.take_zero, List.drop_succ_cons, List.drop_zero]
                  iterate 8
                    apply q_step
                    · go_simp
                    · intro wx hx
                      have t0 := hx.cell 0 (j := 0) rfl rfl
                      have t1 := hx.cell 0 (j := 1) rfl rfl
                      go_simp
                      try exact rfl
                  refine wpQuiet_nil ?_
                  intro w4 hx4
                  have n0 := hx4.cell 2 rfl (nv_get (nmF T.1) (i := g a * 16 + g' b) (by omega))
                  have n1 := hx4.frozen 2 rfl (g a * 16 + g' b)
                  have hS := hx4.set 2 rfl (g a * 16 + g' b) (.int .i64 (T.1.length : Nat))
                  rw [HQ.out] at hS
                  have t0 := hS.cell 0 (j := 0) rfl rfl
                  have t1 := hS.cell 0 (j := 1) rfl rfl
                  clear hTq
                  go_wp2_with (at_builtin; refine appBp (hS.alloc _) 3 rfl w4.heap.size [(g a, g' b)] 76 ?_ ?_ rfl _ _ rfl rfl rfl ?_)
                  · exact heap_at _ _ _ (by simp)
                  · rw [dec_length]; simp only [List.length_cons, List.length_nil]; omega
                  intro v' w5 hH5
                  clear t0 t1 n0 n1 hx4 hS
                  go_wp2
                  go_roundw
                  case rel =>
                    refine ⟨2, by omega, by go_num, ?_⟩
                    rw [HST.out, badd_new HTY.out]
                    show Holds w w5 [_, pBlk _ (nv (nmF (T.1 ++ [bF g g' X]))) _, pPairsB v' (dec (T.1 ++ [bF g g' X])), _, _, _]
                    rw [DD.out.2]
                    exact hH5.tail
                  case measure => simp [intOf]
                · have hnm : (bF g g' X) ∈ T.1 := (HIT.out.mem _).1 hTY
                  have hneg : decide (nmF T.1 (g a * 16 + g' b) < 0) = false := by
                    rw [hzi]
                    exact decide_eq_false fun h => nmF_lt.1 h hnm
                  have HTY := hide hTY; clear hTY hnm hzi
                  go_wp2
                  go_quiet (fail)
                  have hTq := hT.drewN nq
                  clear t0 t1 n0 hT hneg
                  go_wp2
                  go_roundw
                  case rel =>
                    refine ⟨2, by omega, by go_num, ?_⟩
                    rw [HST.out, badd_old HTY.out]
                    exact hTq.tail
                  case measure => simp [intOf]

            · obtain rfl : i = 2 := by omega
              have hn2 := HNX.out
              rw [← hn2] at hH
              have hln : k + 1 ≤ (F (k + 1)).1.length := by
                have h1 := (bst_pre (bF f f') (bF g g') S X 2).length_le
                rw [hn2]; omega
              clear hi hi2 hn2
              go_wp2
              refine ⟨?_, ?measure⟩
              iterate 63 apply Exists.intro
              refine ⟨?rel, rfl⟩
              case rel =>
                exact ⟨k + 1, hln, by go_num, hH.tail⟩
              case measure => simp [intOf]; omega
        · have hR := FE.out k (by omega) (by omega)
          have hkk : (F k).1.length = k := by omega
          obtain ⟨A', c', rfl⟩ := hH.pairsBForm 1 rfl
          have hRl : R.length = k := by rw [hR]; exact hkk
          have hdl : (dec (F k).1).length = k := by rw [dec_length]; exact hkk
          rw [hdl] at hH ⊢
          rw [← hR] at hH
          have HRL := hide hRl
          clear hR hkk hdl hRl hI hle hk hkl
          go_wp2
          refine region_tail (fun wx => Holds w wx _) 3 (by kernel_rfl) (by kernel_rfl) hH.drew ?_
          simp only [List.take_succ_cons, List.take_zero, List.drop_succ_cons, List.drop_zero]
          iterate 3
            apply q_step
            · go_simp
            · intro wx hx
              have cc := hx.cells 0 rfl
              go_simp
              try exact rfl
          refine wpQuiet_nil ?_
          intro w3 hx3
          have rr := hx3.rowOk 2 rfl (nv_size _)
          go_wp2
          have H2 := hx3.setRow 2 rfl (nv (nmF R))
          refine res_agg2b (p := 9) (t := 8) (g := w.heap.size + 1 + 1) aggN (nv_size _) rfl rfl rfl rfl (H2.at 2 rfl) ⟨_, rfl, H2.low, ?_⟩
          have hr := H2.row 1 rfl
          rw [dec_length] at hr
          exact hr
end Go.Proofs.Ytjhpkibeddnbfaa

namespace Go.Proofs.Ytjhpkibeddnbfaa
open Go.RowKit

theorem bfs_all {P : Nat → Prop} {p q : Nat → Nat} {z : Nat} (h0 : P z) (hp : ∀ x, P x → P (p x)) (hq : ∀ x, P x → P (q x)) (i : Nat) : ∀ x ∈ (bfs p q z i).1, P x := by
  have add : ∀ (s : List Nat × (Nat → Bool)) (y : Nat), (∀ x ∈ s.1, P x) → P y → ∀ x ∈ (badd s y).1, P x := by
    intro s y hs hy x hx
    unfold badd at hx
    split at hx
    · exact hs x hx
    · rcases List.mem_append.1 hx with c | c
      · exact hs x c
      · simp at c; subst c; exact hy
  induction i with
  | zero => intro x hx; simp [bfs] at hx; subst hx; exact h0
  | succ i ih =>
    rw [bfs]
    rcases e : (bfs p q z i).1[i]? with _ | y
    · exact ih
    · have hy := ih y (List.mem_of_getElem? e)
      exact add _ _ (add _ _ ih (hp y hy)) (hq y hy)
/-- all darts of a dessin have what 0 has and steps keep -/
theorem DesN.all {f g : Nat → Nat} {m : Nat} (hd : DesN f g m) {C : Nat → Prop} (h0 : C 0) (hf : ∀ x, x < m → C x → C (f x)) (hg : ∀ x, x < m → C x → C (g x)) : ∀ x, x < m → C x := by
  intro x hx
  have hall := bfs_all (P := fun x => x < m ∧ C x) (p := f) (q := g) (z := 0) ⟨hd.pos, h0⟩ (fun x h => ⟨hd.bf.1 x h.1, hf x h.1 h.2⟩) (fun x h => ⟨hd.bg.1 x h.1, hg x h.1 h.2⟩) 16
  have hn := (bfs_inv hd.bf.1 hd.bg.1 hd.pos 16).nodup
  have hl : (bfs f g 0 16).1.length = m := hd.conn
  by_cases hm : x ∈ (bfs f g 0 16).1
  · exact (hall x hm).2
  · have := nodup_le (x :: (bfs f g 0 16).1) (List.range m) (List.nodup_cons.2 ⟨hm, hn⟩) fun y hy => by
      rcases List.mem_cons.1 hy with rfl | hy
      · exact List.mem_range.2 hx
      · exact List.mem_range.2 (hall y hy).1
    simp only [List.length_cons, List.length_range] at this
    omega
def fsts (l : List Nat) : List Nat := l.map (· / 16)
theorem fsts_length (l : List Nat) : (fsts l).length = l.length := by unfold fsts; simp
theorem fsts_snoc (l : List Nat) (z : Nat) : fsts (l ++ [z]) = fsts l ++ [z / 16] := by unfold fsts; simp
theorem dup_erase : ∀ {l : List Nat}, ¬ l.Nodup → ∃ x, x ∈ l.erase x := by
  intro l
  induction l with
  | nil => intro h; exact absurd List.nodup_nil h
  | cons a l ih =>
    intro h
    by_cases c : a ∈ l
    · exact ⟨a, by rw [List.erase_cons_head]; exact c⟩
    · have hn : ¬ l.Nodup := fun hn => h (List.nodup_cons.2 ⟨c, hn⟩)
      obtain ⟨x, hx⟩ := ih hn
      by_cases e : a = x
      · subst e; exact absurd (List.mem_of_mem_erase hx) c
      · refine ⟨x, ?_⟩
        rw [List.erase_cons_tail (by simpa using e)]
        exact List.mem_cons_of_mem _ hx
section
variable {f g f' g' : Nat → Nat} {m n : Nat}
theorem prs_lt (hd : DesN f g m) (he : DesN f' g' n) {y : Nat} (hy : y < 16) (i : Nat) : ∀ z ∈ (bfs (bF f f') (bF g g') y i).1, z / 16 < m := by
  have hq : ∀ z, f' (z % 16) < 16 := fun z => he.black.lt16 (by omega)
  have hq' : ∀ z, g' (z % 16) < 16 := fun z => he.white.lt16 (by omega)
  exact bfs_all (P := fun z => z / 16 < m) (by have := hd.pos; omega) (fun z h => by rw [bF_1 (hq z)]; exact hd.bf.1 _ h) (fun z h => by rw [bF_1 (hq' z)]; exact hd.bg.1 _ h) i
theorem prs_cover (hd : DesN f g m) (he : DesN f' g' n) {y : Nat} (hy : y < 16) : ∀ x, x < m → x ∈ fsts (bfs (bF f f') (bF g g') y 256).1 := by
  have hq : ∀ z, f' (z % 16) < 16 := fun z => he.black.lt16 (by omega)
  have hq' : ∀ z, g' (z % 16) < 16 := fun z => he.white.lt16 (by omega)
  have hB := fun z hz => bF_lt hd.black he.black z hz
  have hW := fun z hz => bF_lt hd.white he.white z hz
  have hz0 : y ∈ (bfs (bF f f') (bF g g') y 256).1 := (bfs_pre' _ _ _ (show 0 ≤ 256 by omega)).subset (by simp [bfs])
  refine hd.all ?_ ?_ ?_
  · exact List.mem_map.2 ⟨y, hz0, by omega⟩
  · intro x _ hx
    obtain ⟨z, hz, e⟩ := List.mem_map.1 hx
    exact List.mem_map.2 ⟨_, (bfs_clos hB hW (by omega) (Nat.le_refl _) hz).1, by rw [bF_1 (hq z), e]⟩
  · intro x _ hx
    obtain ⟨z, hz, e⟩ := List.mem_map.1 hx
    exact List.mem_map.2 ⟨_, (bfs_clos hB hW (by omega) (Nat.le_refl _) hz).2, by rw [bF_1 (hq' z), e]⟩
/-- as many pairs as darts: no dart in two of them -/
theorem prs_graph (hd : DesN f g m) (he : DesN f' g' n) {y : Nat} (hy : y < 16) : (bfs (bF f f') (bF g g') y 256).1.length = m ↔ (fsts (bfs (bF f f') (bF g g') y 256).1).Nodup := by
  have hlt := prs_lt hd he hy 256
  have hcv := prs_cover hd he hy
  generalize (bfs (bF f f') (bF g g') y 256).1 = R at *
  have hsub : ∀ x ∈ fsts R, x ∈ List.range m := fun x hx => by
    obtain ⟨z, hz, e⟩ := List.mem_map.1 hx
    exact List.mem_range.2 (by rw [← e]; exact hlt z hz)
  constructor
  · intro hl
    refine Classical.byContradiction fun hn => ?_
    obtain ⟨x, hx⟩ := dup_erase hn
    have := nodup_le (List.range m) ((fsts R).erase x) List.nodup_range fun y hy => by
      have hy' := hcv y (List.mem_range.1 hy)
      by_cases e : y = x
      · subst e; exact hx
      · exact (List.mem_erase_of_ne e).2 hy'
    rw [List.length_erase_of_mem (List.mem_of_mem_erase hx), fsts_length, List.length_range] at this
    have : 0 < R.length := by
      rw [← fsts_length]; exact List.length_pos_of_mem (List.mem_of_mem_erase hx)
    omega
  · intro hn
    have h1 := nodup_le (fsts R) (List.range m) hn hsub
    have h2 := nodup_le (List.range m) (fsts R) List.nodup_range fun x hx => hcv x (List.mem_range.1 hx)
    rw [fsts_length, List.length_range] at h1 h2
    omega
end
/-- what the pairs give a dart, or -1 -/
def sndF (l : List Nat) (x : Nat) : Int := match l.find? (fun z => z / 16 == x) with
  | some z => ((z % 16 : Nat) : Int)
  | none => -1
theorem sndF_none {l : List Nat} {x : Nat} (h : x ∉ fsts l) : sndF l x = -1 := by
  unfold sndF
  have : l.find? (fun z => z / 16 == x) = none := List.find?_eq_none.2 fun z hz => by simpa using fun e => h (List.mem_map.2 ⟨z, hz, e⟩)
  rw [this]
theorem sndF_add {l : List Nat} {z : Nat} (h : z / 16 ∉ fsts l) : hset (sndF l) (z / 16) ((z % 16 : Nat) : Int) = sndF (l ++ [z]) := by
  funext x
  unfold hset
  by_cases c : x = z / 16
  · subst c
    rw [if_pos rfl]
    unfold sndF
    have : l.find? (fun y => y / 16 == z / 16) = none := List.find?_eq_none.2 fun y hy => by simpa using fun e => h (List.mem_map.2 ⟨y, hy, e⟩)
    rw [List.find?_append, this]
    simp
  · rw [if_neg c]
    unfold sndF
    rw [List.find?_append]
    rcases l.find? (fun y => y / 16 == x) with _ | y
    · have : ¬ z / 16 = x := fun e => c e.symm
      simp [this]
    · rfl
theorem sndF_mem {l : List Nat} {z : Nat} (hn : (fsts l).Nodup) (h : z ∈ l) : sndF l (z / 16) = ((z % 16 : Nat) : Int) := by
  induction l with
  | nil => simp at h
  | cons a l ih =>
    have hc : a / 16 ∉ fsts l ∧ (fsts l).Nodup := List.nodup_cons.1 hn
    unfold sndF
    rcases List.mem_cons.1 h with rfl | h
    · simp
    · have : ¬ a / 16 = z / 16 := fun e => hc.1 (List.mem_map.2 ⟨z, h, e.symm⟩)
      rw [List.find?_cons_of_neg (by simpa using this)]
      exact ih hc.2 h
theorem sndF_ge {l : List Nat} {x : Nat} (h : x ∈ fsts l) : 0 ≤ sndF l x := by
  unfold sndF
  rcases e : l.find? (fun z => z / 16 == x) with _ | z
  · obtain ⟨z, hz, e'⟩ := List.mem_map.1 h
    have := List.find?_eq_none.1 e z hz
    simp [e'] at this
  · simp only; omega
theorem sndF_lt {l : List Nat} {x : Nat} : sndF l x < 16 := by
  unfold sndF
  split
  · omega
  · omega
/-- one step of the model's search, as one of the pairs' search -/
theorem snd_new {l : List Nat} {z : Nat} (h : z / 16 ∉ fsts l) : z ∉ l := fun hz => h (List.mem_map.2 ⟨z, hz, rfl⟩)
theorem snd_same {l : List Nat} {z : Nat} (hn : (fsts l).Nodup) (h : z / 16 ∈ fsts l) : z ∈ l ↔ sndF l (z / 16) = ((z % 16 : Nat) : Int) := by
  constructor
  · exact sndF_mem hn
  · intro e
    obtain ⟨y, hy, e'⟩ := List.mem_map.1 h
    have h2 := sndF_mem hn hy
    rw [e', e] at h2
    have : y = z := by omega
    rw [← this]; exact hy
theorem snd_clash {l r : List Nat} {z : Nat} (h : z / 16 ∈ fsts l) (hz : z ∉ l) (hp : l ++ [z] <+: r) : ¬ (fsts r).Nodup := by
  intro hn
  obtain ⟨t, ht⟩ := hp
  have : (fsts (l ++ [z])).Nodup := by
    rw [← ht] at hn
    unfold fsts at hn ⊢
    rw [List.map_append] at hn
    exact (List.nodup_append.1 hn).1
  rw [fsts_snoc, List.nodup_append] at this
  exact this.2.2 _ h _ (by simp) rfl
/-- the list of the images -/
def morL (l : List Nat) (m : Nat) : List Nat := (List.range m).map fun x => (sndF l x).toNat
theorem morL_length (l : List Nat) (m : Nat) : (morL l m).length = m := by unfold morL; simp
/-- numbers in a row -/
def rv (h : Nat → Int) (m : Nat) : List Value := (List.range m).map fun x => Value.int .i64 (h x)
theorem rv_length (h : Nat → Int) (m : Nat) : (rv h m).length = m := by unfold rv; simp
theorem rv_at (h : Nat → Int) {m j : Nat} (hj : j < m) : (rv h m)[j]? = some (.int .i64 (h j)) := by unfold rv; simp [hj]
theorem rv_set (h : Nat → Int) (m j : Nat) (v : Int) : (rv h m).set j (.int .i64 v) = rv (hset h j v) m := by
  apply List.ext_getElem?
  intro i
  rw [List.getElem?_set]
  by_cases c : i < m
  · rw [rv_at _ c]
    by_cases e : j = i
    · subst e; rw [if_pos rfl, if_pos (by rw [rv_length]; exact c), rv_at _ c]; unfold hset; rw [if_pos rfl]
    · rw [if_neg e, rv_at _ c]; unfold hset; rw [if_neg (fun h => e h.symm)]
  · have h1 : ∀ h' : Nat → Int, (rv h' m)[i]? = none := fun h' => List.getElem?_eq_none (by rw [rv_length]; omega)
    rw [h1, h1]
    by_cases e : j = i
    · subst e; rw [if_pos rfl, if_neg (by rw [rv_length]; omega)]
    · rw [if_neg e]
theorem rv_congr {h h' : Nat → Int} {m : Nat} (e : ∀ x, x < m → h x = h' x) : rv h m = rv h' m := by
  unfold rv
  exact List.map_congr_left fun x hx => by rw [e x (List.mem_range.1 hx)]
theorem rv_zero (m : Nat) : List.replicate m (Value.int .i64 0) = rv (fun _ => 0) m := by
  unfold rv
  rw [List.map_const', List.length_range]
theorem rv_nums {l : List Nat} {m : Nat} (h : ∀ x, x < m → 0 ≤ sndF l x) : rv (sndF l) m = nums (morL l m) := by
  unfold rv nums morL
  rw [List.map_map]
  exact List.map_congr_left fun x hx => by
    have := h x (List.mem_range.1 hx)
    simp only [Function.comp]
    rw [Int.toNat_of_nonneg this]
/-- seconds laid down by firsts -/
def secT (l : List Nat) : Nat → Nat → Int
  | 0 => fun _ => 0
  | k + 1 => hset (secT l k) (l.getD k 0 / 16) ((l.getD k 0 % 16 : Nat) : Int)
theorem secT_at {l : List Nat} (hn : (fsts l).Nodup) {k : Nat} (hk : k ≤ l.length) : ∀ j, j < k → secT l k (l.getD j 0 / 16) = ((l.getD j 0 % 16 : Nat) : Int) := by
  have gd : ∀ j, j < l.length → ∀ h : j < (fsts l).length, (fsts l)[j] = l.getD j 0 / 16 := fun j hj h => by
    rw [List.getD_eq_getElem?_getD, List.getElem?_eq_getElem hj]
    simp [fsts]
  induction k with
  | zero => intro j hj; omega
  | succ k ih =>
    intro j hj
    show hset (secT l k) (l.getD k 0 / 16) ((l.getD k 0 % 16 : Nat) : Int) (l.getD j 0 / 16) = _
    unfold hset
    by_cases c : j = k
    · subst c; rw [if_pos rfl]
    · rw [if_neg, ih (by omega) j (by omega)]
      intro e
      have h1 := gd j (by omega) (by rw [fsts_length]; omega)
      have h2 := gd k (by omega) (by rw [fsts_length]; omega)
      exact (List.pairwise_iff_getElem.1 hn) j k (by rw [fsts_length]; omega) (by rw [fsts_length]; omega) (by omega) (by rw [h1, h2, e])
theorem secT_all {l : List Nat} {m : Nat} (hn : (fsts l).Nodup) (hc : ∀ x, x < m → x ∈ fsts l) : rv (secT l l.length) m = rv (sndF l) m := by
  refine rv_congr fun x hx => ?_
  obtain ⟨z, hz, e⟩ := List.mem_map.1 (hc x hx)
  obtain ⟨j, hj, e2⟩ := List.getElem_of_mem hz
  have h1 := secT_at hn (Nat.le_refl _) j hj
  have : l.getD j 0 = z := by rw [List.getD_eq_getElem?_getD, List.getElem?_eq_getElem hj, ← e2]; rfl
  rw [this] at h1
  have h2 := sndF_mem hn hz
  rw [e] at h1 h2
  rw [h1, h2]
end Go.Proofs.Ytjhpkibeddnbfaa

namespace Go.Proofs.Ytjhpkibeddnbfaa
open Go.RowKit

theorem Holds.cellR {w0 w : World} {L : List Part} (h : Holds w0 w L) (i : Nat) {g n c : Nat} {e : TypeId} {s : Nat} {xs : List Value} (hi : L[i]? = some (pRow (.slice (some ⟨g, 0, none⟩) n c) e s n xs)) {j : Nat} {u : Value} (hj : xs[j]? = some u) : w.cell? ⟨g, j, none⟩ = some u := by
  have hn : 0 < n := by
    have h1 := (h.row i hi).1
    have h2 := (List.getElem?_eq_some_iff.1 hj).1
    rcases Nat.eq_zero_or_pos n with rfl | c
    · simp at h1; subst h1; simp at h2
    · exact c
  obtain ⟨g', c', e1, _, _, _, _, h6, _⟩ := row_at (h.row i hi) hn
  injection e1 with e1
  injection e1 with e1
  injection e1 with e1
  subst e1
  exact h6 j u hj
theorem Holds.frozenR {w0 w : World} {L : List Part} (h : Holds w0 w L) (i : Nat) {g n c : Nat} {e : TypeId} {s : Nat} {xs : List Value} (hi : L[i]? = some (pRow (.slice (some ⟨g, 0, none⟩) n c) e s n xs)) (hn : 0 < n) (j : Nat) : w.frozen? ⟨g, j, none⟩ = false := by
  obtain ⟨g', c', e1, _, _, _, _, _, h7⟩ := row_at (h.row i hi) hn
  injection e1 with e1
  injection e1 with e1
  injection e1 with e1
  subst e1
  exact h7 j
theorem Holds.cellV {w0 w : World} {L : List Part} (h : Holds w0 w L) (i : Nat) {g n c : Nat} {vs : List Value} (hi : L[i]? = some (pVals (.slice (some ⟨g, 0, none⟩) n c) vs)) (hl : vs.length = n) {j : Nat} {u : Value} (hj : vs[j]? = some u) : w.cell? ⟨g, j, none⟩ = some u := by
  subst hl
  exact h.cellR i hi hj
end Go.Proofs.Ytjhpkibeddnbfaa

namespace Go.Proofs.Ytjhpkibeddnbfaa
open Go.RowKit

/-- names by a map, so many laid -/
noncomputable def Mn (l : List Nat) : Nat → Value → Option Value
  | 0 => fun _ => none
  | k + 1 => mput (Mn l k) (encP (l.getD k 0)) (.int .u8 (k : Nat))
theorem Mn_at {l : List Nat} (hn : l.Nodup) {k i : Nat} (hk : k ≤ l.length) (hi : i < k) : Mn l k (encP (l.getD i 0)) = some (.int .u8 (i : Nat)) := by
  induction k with
  | zero => omega
  | succ k ih =>
    show mput (Mn l k) (encP (l.getD k 0)) (.int .u8 (k : Nat)) (encP (l.getD i 0)) = _
    by_cases e : i = k
    · subst e; exact mput_same _ _ _
    · rw [mput_ne]
      · exact ih (by omega) (by omega)
      · intro h
        have := encP_inj h
        have h1 : l.getD i 0 = l[i]'(by omega) := by rw [List.getD_eq_getElem?_getD, List.getElem?_eq_getElem (by omega)]; rfl
        have h2 : l.getD k 0 = l[k]'(by omega) := by rw [List.getD_eq_getElem?_getD, List.getElem?_eq_getElem (by omega)]; rfl
        rw [h1, h2] at this
        rcases Nat.lt_or_gt_of_ne e with c | c
        · exact List.pairwise_iff_getElem.1 hn i k (by omega) (by omega) c this
        · exact List.pairwise_iff_getElem.1 hn k i (by omega) (by omega) c this.symm
theorem Mn_mem {l : List Nat} (hn : l.Nodup) {z : Nat} (hz : z ∈ l) : Mn l l.length (encP z) = some (.int .u8 (l.idxOf z : Nat)) := by
  have hl := List.idxOf_lt_length_of_mem hz
  have h1 : l.getD (l.idxOf z) 0 = z := by rw [List.getD_eq_getElem?_getD, List.getElem?_eq_getElem hl, List.getElem_idxOf hl]; rfl
  have := Mn_at hn (Nat.le_refl _) hl
  rw [h1] at this
  exact this
def idxF (l : List Nat) (p : Nat → Nat) : Nat → Nat := fun i => l.idxOf (p (l.getD i 0))
theorem zeroU8 (w : World) : (zeroValue 5).run Try.prog w = .ok (.int .u8 0) w := by
  have h : (Try.prog.info? 5).map (·.zero) = some (some (.int .u8 0)) := by kernel_rfl
  rcases hi : Try.prog.info? 5 with _ | i
  · rw [hi] at h; cases h
  · rw [hi] at h
    have hz : i.zero = some (.int .u8 0) := by simpa using h
    simp [zeroValue, typeInfo, hi, hz]
theorem look_name {w0 w : World} {L : List Part} (H : Holds w0 w L) (i : Nat) {G : Nat} {l : List Nat} (hi : L[i]? = some (pMap Try.prog 68 G (Mn l l.length))) (hn : l.Nodup) {z : Nat} (hz : z < 256) (hm : z ∈ l) :
    (Instr.lookup 117 (.map (some G)) (encP z) false).run Try.prog w = .ok (.int .u8 (l.idxOf z : Nat)) w := by
  rw [run_mlook keyedPr Try.underlying117 zeroU8 (H.at i hi) (isK_code hz) false, Mn_mem hn hm]
  rfl
/-- a row of pairs wherever it lies -/
def RdP (w : World) (v : Value) (l : List (Nat × Nat)) : Prop := w.ownsRow 0 68 2 v l.length (pairB l)
theorem RdP.below {C : Nat} {w w' : World} {v : Value} {l : List (Nat × Nat)} (h : RdP w v l) (hb : Below C w w') (hC : w.heap.size ≤ C) : RdP w' v l := World.ownsRow.kept h (grown_of_below (hb.mono hC) none) (Classical.em _)
theorem RdP.form {w : World} {v : Value} {l : List (Nat × Nat)} (h : RdP w v l) : ∃ A c, v = .slice A l.length c := own_slice h
theorem RdP.at {w : World} {A : Option Addr} {n c k : Nat} {l : List Nat} (h : RdP w (.slice A n c) (dec l)) (hk : k < l.length) :
    ∃ g, A = some ⟨g, 0, none⟩ ∧ g < w.heap.size ∧ w.cell? ⟨g, k * 2, none⟩ = some (.int .u8 ((l.getD k 0 / 16 : Nat) : Int)) ∧ w.cell? ⟨g, k * 2 + 1, none⟩ = some (.int .u8 ((l.getD k 0 % 16 : Nat) : Int)) := by
  have hk' : k < (dec l).length := by rw [dec_length]; exact hk
  obtain ⟨g, c, h1, h2, h3, h4, h5, h6, h7⟩ := row_at h (by omega : 0 < (dec l).length)
  injection h1 with e1 e2 e3
  have a1 := h6 _ _ (pairB_at hk').1
  have a2 := h6 _ _ (pairB_at hk').2
  rw [dec_at hk] at a1 a2
  have hg : l.getD k 0 = l[k] := by rw [List.getD_eq_getElem?_getD, List.getElem?_eq_getElem hk]; rfl
  rw [hg]
  exact ⟨g, e1, h3, a1, a2⟩

set_option maxRecDepth 100000 in
set_option maxHeartbeats 2000000 in
theorem product_any (f g f' g' : Nat → Nat) (m n : Nat) (hd : DesN f g m) (he : DesN f' g' n) (l : List Nat) (hl : l.length ≤ 16) (hn : l.Nodup) (hlt : ∀ z ∈ l, z < 256) (hcl : ∀ z ∈ l, bF f f' z ∈ l ∧ bF g g' z ∈ l) (v : Value) (w : World) (hv : RdP w v (dec l)) :
    Calls Try.prog 57 #[.agg (dv m f g), .agg (dv n f' g'), v] w fun e w' => e = .returned (.agg (dv l.length (upto (idxF l (bF f f')) l.length) (upto (idxF l (bF g g')) l.length))) ∧ Below w.heap.size w w' := by
  have C2 := hide fun (p q : Nat → Nat) (a b : Nat) (ha : a < 16) (hb : b < 16) w => pairAfter_any p q a b ha hb w
  obtain ⟨A, c, rfl⟩ := hv.form
  rw [dec_length] at hv ⊢
  have HV := hide hv; clear hv
  have HL := hide (And.intro hn (And.intro hlt hcl)); clear hn hlt hcl
  have HP := hide (And.intro (And.intro hd.black hd.white) (And.intro he.black he.white)); clear hd he
  have mk := fun w => run_mk (P := Try.prog) 117 w
  have HH := ((((Holds.start w).blk (dv m f g) 30 w.heap.size rfl).blk (dv n f' g') 30 (w.heap.size + 1) (by simp)).blk (dv 0 (fun _ => 0) (fun _ => 0)) 30 (w.heap.size + 1 + 1) (by simp)).newMap Try.prog 68 (w.heap.size + 1 + 1 + 1) (by simp)
  go_enter Try.func57, Try.ntmps57
  go_wp2
  rw [← dv_zero]
  clear mk
  go_loopw [16] (fun t wr => ∃ k : Nat, k ≤ l.length ∧ t = .int .i64 k ∧ Holds w wr [pMap Try.prog 68 (w.heap.size + 1 + 1 + 1) (Mn l k), pBlk (w.heap.size + 1 + 1) (dv 0 (fun _ => 0) (fun _ => 0)) 30, pBlk (w.heap.size + 1) (dv n f' g') 30, pBlk w.heap.size (dv m f g) 30])
    (fun t _ => l.length - (intOf t).toNat)
  case atStart => exact ⟨0, by omega, rfl, HH⟩
  case round =>
    clear HH
    obtain ⟨k, hk, rfl, hH⟩ := hrel
    by_cases hkl : k < l.length
    · obtain ⟨q, rfl, hq, x1, x2⟩ := (HV.out.below hH.low (Nat.le_refl _)).at hkl
      obtain ⟨a, ha⟩ : ∃ a, a = l.getD k 0 / 16 := ⟨_, rfl⟩
      obtain ⟨b, hb⟩ : ∃ b, b = l.getD k 0 % 16 := ⟨_, rfl⟩
      rw [← ha] at x1
      rw [← hb] at x2
      have hz : l.getD k 0 < 256 := HL.out.2.1 _ (by rw [List.getD_eq_getElem?_getD, List.getElem?_eq_getElem hkl]; exact List.getElem_mem hkl)
      have eK : encP (l.getD k 0) = .agg #[.int .u8 (a : Nat), .int .u8 (b : Nat)] := by unfold encP; rw [← ha, ← hb]
      have hK := isK_code hz
      rw [eK] at hK
      have hM : Mn l (k + 1) = mput (Mn l k) (.agg #[.int .u8 (a : Nat), .int .u8 (b : Nat)]) (.int .u8 (k : Nat)) := by rw [← eK]; rfl
      have HM := hide hM; clear hM
      have HK := hide hK; clear hK
      clear ha hb hz eK
      have hHb := hH.blk #[.int .u8 (a : Nat), .int .u8 (b : Nat)] 68 wr.heap.size rfl
      have hk256 : (k : Int) < 256 := by omega
      go_wp2_with (refine mputH (k := .agg #[.int .u8 (a : Nat), .int .u8 (b : Nat)]) (v := .int .u8 (k : Nat)) keyedPr rfl _ _ _ rfl Try.underlying117 hHb 1 rfl rfl rfl rfl HK.out ?_)
      intro w4 hH4 hs4
      clear hs4 hHb x1 x2
      rw [← HM.out] at hH4
      go_wp2
      go_roundw
      case rel => exact ⟨k + 1, by omega, by go_num, hH4.tail⟩
      case measure => simp [intOf]; omega
    · obtain ⟨K, hK⟩ : ∃ K, K = l.length := ⟨_, rfl⟩
      obtain rfl : K = k := by omega
      rw [hK] at hH
      have HK := hide hK
      rw [← HK.out]
      clear hK hk hkl
      have hHd := hH.blk (dv K (fun _ => 0) (fun _ => 0)) 30 wr.heap.size rfl
      have hz := dv_lit (K : Int)
      have HZ := hide hz; clear hz
      have ho := (ones_dv (K : Int) (fun _ => 0) (fun _ => 0)).2 trivial
      rw [HZ.out] at ho
      have hK16 : K ≤ 16 := by rw [HK.out]; exact hl
      go_wp2
      try rw [← HZ.out]
      clear hH ho
      generalize wr.alloc (.cells (dv K (fun _ => 0) (fun _ => 0)) 30) = wd at *
      generalize wr.heap.size = G at *
      go_loopw [31] (fun t wr => ∃ k : Nat, k ≤ K ∧ t = .int .i64 k ∧ Holds w wr [pBlk G (dv K (upto (idxF l (bF f f')) k) (upto (idxF l (bF g g')) k)) 30, pMap Try.prog 68 (w.heap.size + 1 + 1 + 1) (Mn l l.length), pBlk (w.heap.size + 1 + 1) (dv 0 (fun _ => 0) (fun _ => 0)) 30, pBlk (w.heap.size + 1) (dv n f' g') 30, pBlk w.heap.size (dv m f g) 30]) (fun t _ => K - (intOf t).toNat)
      case atStart => exact ⟨0, by omega, rfl, by rw [upto_zero, upto_zero]; exact hHd⟩
      case round =>
        clear hHd
        obtain ⟨k, hk, rfl, hH⟩ := hrel
        by_cases hkl : k < K
        · have hkl' : k < l.length := by rw [← HK.out]; exact hkl
          obtain ⟨q, rfl, hq, x1, x2⟩ := (HV.out.below hH.low (Nat.le_refl _)).at hkl'
          obtain ⟨a, ha⟩ : ∃ a, a = l.getD k 0 / 16 := ⟨_, rfl⟩
          obtain ⟨b, hb⟩ : ∃ b, b = l.getD k 0 % 16 := ⟨_, rfl⟩
          rw [← ha] at x1
          rw [← hb] at x2
          have hm : l.getD k 0 ∈ l := by rw [List.getD_eq_getElem?_getD, List.getElem?_eq_getElem hkl']; exact List.getElem_mem hkl'
          have hz : l.getD k 0 < 256 := HL.out.2.1 _ hm
          have hc := HL.out.2.2 _ hm
          have ha16 : a < 16 := by omega
          have hb16 : b < 16 := by omega
          have hfa := HP.out.1.1.lt16 ha16
          have hga := HP.out.1.2.lt16 ha16
          have hfb := HP.out.2.1.lt16 hb16
          have hgb := HP.out.2.2.lt16 hb16
          have eB : encP (bF f f' (l.getD k 0)) = .agg #[.int .u8 (f a : Nat), .int .u8 (f' b : Nat)] := by
            unfold encP; rw [bF_1 (by rw [← hb]; exact hfb), bF_2 (by rw [← hb]; exact hfb), ← ha, ← hb]
          have eW : encP (bF g g' (l.getD k 0)) = .agg #[.int .u8 (g a : Nat), .int .u8 (g' b : Nat)] := by
            unfold encP; rw [bF_1 (by rw [← hb]; exact hgb), bF_2 (by rw [← hb]; exact hgb), ← ha, ← hb]
          have zB : bF f f' (l.getD k 0) < 256 := HL.out.2.1 _ hc.1
          have zW : bF g g' (l.getD k 0) < 256 := HL.out.2.1 _ hc.2
          have iB : idxF l (bF f f') k = l.idxOf (bF f f' (l.getD k 0)) := rfl
          have iW : idxF l (bF g g') k = l.idxOf (bF g g' (l.getD k 0)) := rfl
          have lB := fun (wx : World) (Lx : List Part) (hx : Holds w wx Lx) (i : Nat) (hi : Lx[i]? = some (pMap Try.prog 68 (w.heap.size + 1 + 1 + 1) (Mn l l.length))) => look_name hx i hi HL.out.1 zB hc.1
          have lW := fun (wx : World) (Lx : List Part) (hx : Holds w wx Lx) (i : Nat) (hi : Lx[i]? = some (pMap Try.prog 68 (w.heap.size + 1 + 1 + 1) (Mn l l.length))) => look_name hx i hi HL.out.1 zW hc.2
          rw [eB, ← iB] at lB
          rw [eW, ← iW] at lW
          have LB := hide lB; clear lB
          have LW := hide lW; clear lW
          clear eB eW iB iW zB zW hc hm hz ha hb
          generalize hVB : idxF l (bF f f') k = vB at *
          generalize hVW : idxF l (bF g g') k = vW at *
          have s1 := upto_step (idxF l (bF f f')) k
          have s2 := upto_step (idxF l (bF g g')) k
          rw [hVB] at s1
          rw [hVW] at s2
          have SS := hide (And.intro s1 s2); clear s1 s2 hVB hVW
          have hk16 : k < 16 := by omega
          generalize upto (idxF l (bF f f')) k = U1 at *
          generalize upto (idxF l (bF g g')) k = U2 at *
          generalize hW1 : upto (idxF l (bF f f')) (k + 1) = V1 at *
          generalize hW2 : upto (idxF l (bF g g')) (k + 1) = V2 at *
          have HW := hide (And.intro hW1 hW2); clear hW1 hW2
          have hHb := hH.blk #[.int .u8 (a : Nat), .int .u8 (b : Nat)] 68 wr.heap.size rfl
          have cd := hHb.cells 5 rfl
          have ce := hHb.cells 4 rfl
          clear hH
          go_wp2_with fail
          refine (C2.out f f' a b ha16 hb16 _).mono ?_
          rintro e w3 ⟨rfl, hb3⟩
          have hH3 := hHb.call hb3
          have lk := LB.out w3 _ hH3 2 rfl
          have c0 : w3.cell? ⟨wr.heap.size, 0, none⟩ = some (.int .u8 (a : Nat)) := hH3.cell 0 rfl rfl
          have c1 : w3.cell? ⟨wr.heap.size, 1, none⟩ = some (.int .u8 (b : Nat)) := hH3.cell 0 rfl rfl
          have cd3 := hH3.cells 5 rfl
          have ce3 := hH3.cells 4 rfl
          have g1 := hH3.cell 1 rfl (dv_b K U1 U2 hk16)
          have g2 := hH3.frozen 1 rfl (1 + k)
          have hH4 := hH3.set 1 rfl (1 + k) (.int .u8 (vB : Nat))
          rw [dv_setb _ _ _ _ hk16, SS.out.1] at hH4
          have c04 : (w3.setCell ⟨G, 1 + k, none⟩ (.int .u8 (vB : Nat))).cell? ⟨wr.heap.size, 0, none⟩ = some (.int .u8 (a : Nat)) := hH4.cell 0 rfl rfl
          have c14 : (w3.setCell ⟨G, 1 + k, none⟩ (.int .u8 (vB : Nat))).cell? ⟨wr.heap.size, 1, none⟩ = some (.int .u8 (b : Nat)) := hH4.cell 0 rfl rfl
          have cd4 : cellsOf (w3.setCell ⟨G, 1 + k, none⟩ (.int .u8 (vB : Nat))) w.heap.size = dv m f g := hH4.cells 5 rfl
          have ce4 : cellsOf (w3.setCell ⟨G, 1 + k, none⟩ (.int .u8 (vB : Nat))) (w.heap.size + 1) = dv n f' g' := hH4.cells 4 rfl
          clear hb3 hHb cd ce x1 x2
          go_wp2_with fail
          refine (C2.out g g' a b ha16 hb16 _).mono ?_
          rintro e w5 ⟨rfl, hb5⟩
          have hH5 := hH4.call hb5
          have lk5 := LW.out w5 _ hH5 2 rfl
          have g3 := hH5.cell 1 rfl (dv_w K V1 U2 hk16)
          have g4 := hH5.frozen 1 rfl (17 + k)
          clear hb5 lk c0 c1 cd3 ce3 g1 g2 c04 c14 cd4 ce4 hH4 hH3
          go_wp2
          go_roundw
          case rel =>
            refine ⟨k + 1, by omega, by go_num, ?_⟩
            rw [HW.out.1, HW.out.2, ← SS.out.2, ← dv_setw _ _ _ _ hk16]
            exact (hH5.set 1 rfl (17 + k) (.int .u8 (vW : Nat))).tail
          case measure => simp [intOf]; omega
        · obtain rfl : K = k := by omega
          rw [HK.out]
          rw [HK.out] at hH
          have cc := hH.cells 0 rfl
          have rr := hH.rowOk 2 rfl (dv_size _ _ _)
          clear hk hkl
          go_wp2
          have H2 := hH.setRow 2 rfl (dv l.length (upto (idxF l (bF f f')) l.length) (upto (idxF l (bF g g')) l.length))
          exact res_agg (p := 6) (g := w.heap.size + 1 + 1) aggD (dv_size _ _ _) rfl rfl rfl (H2.at 2 rfl) ⟨rfl, H2.low⟩
end Go.Proofs.Ytjhpkibeddnbfaa

namespace Go.Proofs.Ytjhpkibeddnbfaa
open Go.RowKit

set_option maxRecDepth 100000 in
set_option maxHeartbeats 1000000 in
theorem seconds_any (l : List Nat) (hl : l.length ≤ 16) (hlt : ∀ z ∈ l, z < 256 ∧ z / 16 < l.length) (v : Value) (w : World) (hv : RdP w v (dec l)) :
    Calls Try.prog 53 #[v] w fun e w' => ∃ u, e = .returned u ∧ Below w.heap.size w w' ∧ w'.ownsRow w.heap.size 2 1 u l.length (rv (secT l l.length) l.length) := by
  obtain ⟨A, c, rfl⟩ := hv.form
  rw [dec_length] at hv ⊢
  have HV := hide hv; clear hv
  have HL := hide hlt; clear hlt
  obtain ⟨i0, hi, hz0, hz1, hz2⟩ := info_parts info64
  have I0 := hide (And.intro hi (And.intro hz0 (And.intro hz1 hz2))); clear hi hz0 hz1 hz2
  have HH0 := Holds.start w
  go_enter Try.func53, Try.ntmps53
  go_wp2_with (refine makeH (P := Try.prog) rfl 48 _ _ rfl 2 i0 (.int .i64 0) 8 Try.underlying48 I0.out.1 I0.out.2.1 I0.out.2.2.1 I0.out.2.2.2 rfl l.length .i64 .i64 rfl rfl (by omega) (by decide) HH0 ?_)
  intro w1 HH1
  rw [rv_zero] at HH1
  clear HH0
  go_wp2
  go_loopw [11] (fun t wr => ∃ k : Nat, k ≤ l.length ∧ t = .int .i64 k ∧ Holds w wr [pRow (.slice (some ⟨w.heap.size, 0, none⟩) l.length l.length) 2 1 l.length (rv (secT l k) l.length)]) (fun t _ => l.length - (intOf t).toNat)
  case atStart => exact ⟨0, by omega, rfl, HH1⟩
  case round =>
    clear HH1
    obtain ⟨k, hk, rfl, hH⟩ := hrel
    by_cases hkl : k < l.length
    · obtain ⟨q, rfl, hq, x1, x2⟩ := (HV.out.below hH.low (Nat.le_refl _)).at hkl
      obtain ⟨a, ha⟩ : ∃ a, a = l.getD k 0 / 16 := ⟨_, rfl⟩
      obtain ⟨b, hb⟩ : ∃ b, b = l.getD k 0 % 16 := ⟨_, rfl⟩
      have hm : l.getD k 0 ∈ l := by rw [List.getD_eq_getElem?_getD, List.getElem?_eq_getElem hkl]; exact List.getElem_mem hkl
      have hz := HL.out _ hm
      rw [← ha] at x1
      rw [← hb] at x2
      rw [← ha] at hz
      have hs : secT l (k + 1) = hset (secT l k) a ((b : Nat) : Int) := by rw [ha, hb]; rfl
      have HS := hide hs; clear hs ha hm
      have hal : a < l.length := hz.2
      have hal' : (a : Int) < l.length := by omega
      have hb256 : (b : Int) < 256 := by omega
      clear hb hz
      have hHb := hH.blk #[.int .u8 (a : Nat), .int .u8 (b : Nat)] 68 wr.heap.size rfl
      have z0 : (wr.alloc (.cells #[.int .u8 (a : Nat), .int .u8 (b : Nat)] 68)).cell? ⟨w.heap.size, a, none⟩ = some (.int .i64 (secT l k a)) := hHb.cellR 1 rfl (rv_at _ hal)
      have z1 := hHb.frozenR 1 rfl (by omega) a
      have hP := hHb.put 1 rfl a (.int .i64 (b : Nat))
      rw [rv_set, ← HS.out] at hP
      go_wp2
      clear z0 z1 hHb hH x1 x2
      go_roundw
      case rel => exact ⟨k + 1, by omega, by go_num, hP.tail⟩
      case measure => simp [intOf]; omega
    · obtain ⟨K, hK⟩ : ∃ K, K = l.length := ⟨_, rfl⟩
      obtain rfl : K = k := by omega
      subst hK
      clear hk hkl
      go_wp2
      go_ret
      exact ⟨_, rfl, hH.low, hH.row 0 rfl⟩
end Go.Proofs.Ytjhpkibeddnbfaa

namespace Go.Proofs.Ytjhpkibeddnbfaa
open Go.RowKit

/-- a row of bytes, its part -/
def pBytes (v : Value) (l : List Nat) : Part := pRow v 5 1 l.length (bytesL l)
theorem bytesL_length (l : List Nat) : (bytesL l).length = l.length := by unfold bytesL; simp
theorem bytesL_at {l : List Nat} {k : Nat} (hk : k < l.length) : (bytesL l)[k]? = some (.int .u8 (l[k] : Nat)) := by unfold bytesL; simp [hk]
theorem bytesL_one {l : List Nat} : ∀ u ∈ bytesL l, u.oneCell' = true := by
  intro u hu
  obtain ⟨x, _, rfl⟩ := List.mem_map.1 hu
  rfl
theorem Holds.bytes {w0 w : World} {L : List Part} (h : Holds w0 w L) (i : Nat) {v : Value} {l : List Nat} (hi : L[i]? = some (pBytes v l)) {k : Nat} (hk : k < l.length) :
    ∃ g c, v = .slice (some ⟨g, 0, none⟩) l.length c ∧ g < w.heap.size ∧ w.cell? ⟨g, k, none⟩ = some (.int .u8 (l[k] : Nat)) := by
  obtain ⟨g, c, h1, h2, h3, h4, h5, h6, h7⟩ := row_at (h.row i hi) (by omega : 0 < l.length)
  exact ⟨g, c, h1, h3, h6 _ _ (bytesL_at hk)⟩
theorem Holds.bytesForm {w0 w : World} {L : List Part} (h : Holds w0 w L) (i : Nat) {v : Value} {l : List Nat} (hi : L[i]? = some (pBytes v l)) : ∃ A c, v = .slice A l.length c := own_slice (h.row i hi)
/-- one byte more -/
theorem appBy {ops : Array Oper} {rest : List Oper} {o : Oper} {a : Act} {Q : Exit → Act → World → Prop} {w0 w : World} {L : List Part} (H : Holds w0 w L) (k : Nat) {v : Value} {l : List Nat} (hk : L[k]? = some (pBytes v l))
    (g : Nat) (news : List Nat) (t : TypeId) (hc : w.heap[g]? = some (.cells (bytesL news).toArray t (0, 0))) (hb : l.length + news.length ≤ 1000000)
    (hgd : o.guard = none) (s x : Operand)
    (ho : o.op = .call { callee := .builtin .append, args := #[s, x], argTypes := #[113, 113] })
    (hs : a.eval s = v) (hx : a.eval x = .slice (some ⟨g, 0, none⟩) news.length news.length)
    (h : ∀ v' w', Holds w0 w' (L.set k (pBytes v' (l ++ news))) → wpList Try.prog ops Q rest (a.put o.dst v') w') : wpList Try.prog ops Q (o :: rest) a w := by
  obtain ⟨i0, hi, hz0, hz1, hz2⟩ := info_parts infoU8
  refine appH (P := Try.prog) hgd s x 113 ho 5 i0 (.int .u8 0) 1 1 Try.underlying113 hi hz0 hz1 hz2 rfl (by decide) v l.length (bytesL l) hs H k hk ⟨g, 0, none⟩ news.length news.length (bytesL news) hx
    (by rw [bytesL_length]; omega) (fun j u hu => ?_) bytesL_one (by unfold maxLen; omega) (by omega) fun v' w' h1 => h v' w' ?_
  · have : ((⟨g, 0, none⟩ : Addr).add j) = ⟨g, j, none⟩ := by simp [Addr.add]; exact Eq.symm
    rw [this, cell_of_cells, cellsOf_heap hc]
    simpa using hu
  · unfold pBytes at *
    have e : bytesL (l ++ news) = bytesL l ++ bytesL news := by unfold bytesL; simp
    rw [List.length_append, e]
    exact h1
def neg1 (k : Nat) : Nat → Int := fun z => if 1 ≤ z ∧ z < k then -1 else 0
theorem neg1_step {k : Nat} (hk : 1 ≤ k) : hset (neg1 k) k (-1) = neg1 (k + 1) := by
  funext z
  unfold hset neg1
  by_cases c : z = k
  · subst c; simp [hk]
  · have : z < k + 1 ↔ z < k := by omega
    simp [c, this]
theorem neg1_all (m y : Nat) (hy : y < 16) : rv (hset (neg1 m) 0 (y : Nat)) m = rv (sndF [y]) m := by
  refine rv_congr fun x hx => ?_
  unfold hset neg1 sndF
  by_cases c : x = 0
  · subst c
    have h1 : y / 16 = 0 := by omega
    have h2 : y % 16 = y := by omega
    simp [h1, h2]
  · have h1 : y / 16 = 0 := by omega
    have h2 : 1 ≤ x := by omega
    have h3 : ¬ 0 = x := by omega
    simp [c, h1, h2, hx, h3]

set_option maxRecDepth 100000 in
set_option maxHeartbeats 4000000 in
theorem sMor_any (f g f' g' : Nat → Nat) (m n : Nat) (hd : DesN f g m) (he : DesN f' g' n) (y : Nat) (hy : y < 16) (w : World) :
    Calls Try.prog 51 #[.agg (dv m f g), .agg (dv n f' g'), .int .i64 y] w fun e w' => ∃ u b, e = .returned (.tuple #[u, .bool b]) ∧ Below w.heap.size w w' ∧
      (b = true → (fsts (bfs (bF f f') (bF g g') y 256).1).Nodup ∧ w'.ownsRow w.heap.size 2 1 u m (rv (sndF (bfs (bF f f') (bF g g') y 256).1) m)) ∧ (b = false → ¬ (fsts (bfs (bF f f') (bF g g') y 256).1).Nodup) := by
  have hm := hd.le
  have h0 := hd.pos
  have hn := dv_n m f g
  have hB := fun z hz => bF_lt hd.black he.black z hz
  have hW := fun z hz => bF_lt hd.white he.white z hz
  have hz0 : y < 256 := by omega
  have hlt := fun i => prs_lt hd he hy i
  obtain ⟨F, FI, F0, FN, FE, HFP, HLT⟩ : ∃ (F : Nat → List Nat × (Nat → Bool)), Hid (∀ k, BInv 256 (F k)) ∧ Hid (F 0 = ([y], mset (fun _ => false) y)) ∧ Hid (∀ k (hk : k < (F k).1.length), F (k + 1) = bst (bF f f') (bF g g') (F k) ((F k).1[k]) 2) ∧
      Hid (∀ k, k ≤ 256 → (F k).1.length ≤ k → (bfs (bF f f') (bF g g') y 256).1 = (F k).1) ∧ Hid (∀ k, k ≤ 256 → (F k).1 <+: (bfs (bF f f') (bF g g') y 256).1) ∧ Hid (∀ k, ∀ z ∈ (F k).1, z / 16 < m) :=
    ⟨bfs (bF f f') (bF g g') y, hide fun k => bfs_inv hB hW hz0 k, hide (bfs_start _ _ _), hide fun k hk => bfs_next hk, hide fun k h1 h2 => by
      generalize 256 = K at *
      rw [bfs_stop h2 h1], hide fun k hk => bfs_pre' _ _ _ hk, hide hlt⟩
  obtain ⟨R, hR⟩ : ∃ R, R = (bfs (bF f f') (bF g g') y 256).1 := ⟨_, rfl⟩
  rw [← hR] at FE HFP ⊢
  clear hR hlt
  have HBW := hide (And.intro hB hW); clear hB hW
  have HBJ := hide (And.intro hd.bf.1 hd.bg.1)
  have HP := hide (And.intro (And.intro hd.black hd.white) (And.intro he.black he.white)); clear hd he
  obtain ⟨i0, hi, hz0', hz1, hz2⟩ := info_parts info64
  have I0 := hide (And.intro hi (And.intro hz0' (And.intro hz1 hz2))); clear hi hz0' hz1 hz2
  have HH0 := ((Holds.start w).blk (dv m f g) 30 w.heap.size rfl).blk (dv n f' g') 30 (w.heap.size + 1) (by simp)
  have cn := HH0.cell 1 rfl hn
  go_enter Try.func51, Try.ntmps51
  go_wp2_with (refine makeH (P := Try.prog) rfl 48 _ _ rfl 2 i0 (.int .i64 0) 8 Try.underlying48 I0.out.1 I0.out.2.1 I0.out.2.2.1 I0.out.2.2.2 rfl m .i64 .i64 rfl rfl (by omega) (by decide) HH0 ?_)
  intro w1 HH1
  clear HH0 cn
  rw [rv_zero] at HH1
  have HH2 := HH1.rowNew #[.int .u8 0] 5 1 1 w1.heap.size rfl rfl (by unfold maxLen; omega)
  clear HH1
  replace HH2 : Holds w (w1.alloc (.cells #[.int .u8 0] 5)) [pBytes (.slice (some ⟨w1.heap.size, 0, none⟩) 1 1) [0], pRow (.slice (some ⟨w.heap.size + 1 + 1, 0, none⟩) m m) 2 1 m (rv (neg1 1) m), pBlk (w.heap.size + 1) (dv n f' g') 30, pBlk w.heap.size (dv m f g) 30] := by
    have e1 : neg1 1 = fun _ => 0 := by funext z; unfold neg1; rw [if_neg (by omega)]
    rw [e1]; exact HH2
  go_wp2
  generalize w1.alloc (.cells #[.int .u8 0] 5) = w2 at *
  generalize w1.heap.size = G3 at *
  go_loopw [10] (fun t wr => ∃ k : Nat, 1 ≤ k ∧ k ≤ m ∧ t = .int .i64 k ∧ Holds w wr [pBytes (.slice (some ⟨G3, 0, none⟩) 1 1) [0], pRow (.slice (some ⟨w.heap.size + 1 + 1, 0, none⟩) m m) 2 1 m (rv (neg1 k) m), pBlk (w.heap.size + 1) (dv n f' g') 30, pBlk w.heap.size (dv m f g) 30]) (fun t _ => m - (intOf t).toNat)
  case atStart => exact ⟨1, by omega, by omega, rfl, HH2⟩
  case round =>
    clear HH2
    obtain ⟨k, hk1, hk, rfl, hH⟩ := hrel
    have cn := hH.cell 3 rfl hn
    by_cases hkm : k < m
    · have hkm' : (k : Int) < m := by omega
      have r0 := hH.cellR 1 rfl (rv_at (neg1 k) hkm)
      have r1 := hH.frozenR 1 rfl (by omega) k
      have hP := hH.put 1 rfl k (.int .i64 (-1))
      rw [rv_set, neg1_step hk1] at hP
      go_wp2
      go_roundw
      case rel => exact ⟨k + 1, by omega, by omega, by go_num, hP⟩
      case measure => simp [intOf]; omega
    · obtain rfl : m = k := by omega
      clear hk hkm
      have h00 : (0 : Int) < m := by omega
      have r0 := hH.cellR 1 rfl (rv_at (neg1 m) h0)
      have r1 := hH.frozenR 1 rfl (by omega) 0
      have hP := hH.put 1 rfl 0 (.int .i64 (y : Nat))
      rw [rv_set, neg1_all m y hy] at hP
      have hF0 := F0.out
      have hf0 : fsts (F 0).1 = [0] := by rw [hF0]; unfold fsts; simp; omega
      go_wp2
      clear r0 r1 cn hH
      go_loopw [9, 11] (fun u t wr => ∃ k : Nat, k ≤ (F k).1.length ∧ t = .int .i64 k ∧ (fsts (F k).1).Nodup ∧ Holds w wr [pBytes u (fsts (F k).1), pRow (.slice (some ⟨w.heap.size + 1 + 1, 0, none⟩) m m) 2 1 m (rv (sndF (F k).1) m), pBlk (w.heap.size + 1) (dv n f' g') 30, pBlk w.heap.size (dv m f g) 30]) (fun _ t _ => 257 - (intOf t).toNat)
      case atStart => exact ⟨0, by omega, rfl, by rw [hf0]; simp, by rw [hf0, hF0]; exact hP⟩
      case round =>
        clear hP hF0 hf0
        obtain ⟨k, hk, rfl, hnd, hH⟩ := hrel
        have hI := FI.out k
        have hle := hI.length_le
        by_cases hkl : k < (F k).1.length
        · obtain ⟨g0, c0, rfl, _, y1⟩ := hH.bytes 0 rfl (k := k) (by rw [fsts_length]; exact hkl)
          have hnx := FN.out k hkl
          have hX := hI.lt _ (List.getElem_mem hkl)
          have hXm := List.getElem_mem hkl
          have hXa := HLT.out k _ hXm
          have hfk : ∀ h, (fsts (F k).1)[k]'h = (F k).1[k] / 16 := fun h => by simp [fsts]
          rw [hfk] at y1
          clear hfk
          obtain ⟨a, hab1⟩ : ∃ a, a = (F k).1[k] / 16 := ⟨_, rfl⟩
          obtain ⟨b, hab2⟩ : ∃ b, b = (F k).1[k] % 16 := ⟨_, rfl⟩
          rw [← hab1] at y1 hXa
          have hb16 : b < 16 := by omega
          have ha' : (a : Int) < m := by omega
          have ha16 : a < 16 := by omega
          have ha16' : (a : Int) < 16 := by omega
          have hb16' : (b : Int) < 16 := by omega
          rw [fsts_length] at hH ⊢
          generalize hS : F k = S at *
          generalize S.1[k] = X at *
          have HS := hide hS; clear hS
          have HNX := hide hnx; clear hnx
          have HI := hide hI; clear hI
          have hfa := HBJ.out.1 a hXa
          have hga := HBJ.out.2 a hXa
          have hfb := HP.out.2.1.lt16 hb16
          have hgb := HP.out.2.2.lt16 hb16
          have hB := HBW.out.1 X hX
          have hW := HBW.out.2 X hX
          have vB : bF f f' X / 16 = f a ∧ bF f f' X % 16 = f' b := by rw [hab1, hab2]; rw [hab2] at hfb; exact ⟨bF_1 hfb, bF_2 hfb⟩
          have vW : bF g g' X / 16 = g a ∧ bF g g' X % 16 = g' b := by rw [hab1, hab2]; rw [hab2] at hgb; exact ⟨bF_1 hgb, bF_2 hgb⟩
          have EE := hide (And.intro (And.intro vB.1 (And.intro vB.2 hfa)) (And.intro vW.1 (And.intro vW.2 hga))); clear vB vW
          have HAB := hide (And.intro hab1 (And.intro hab2 hXm)); clear hab1 hab2 hXm
          have HBX := hide (And.intro hB hW); clear hB hW hX
          go_wp2
          clear y1
          go_loopw [9, 13] (fun u t wr => ∃ i : Nat, i ≤ 2 ∧ t = .int .i64 i ∧ (fsts (bst (bF f f') (bF g g') S X i).1).Nodup ∧ Holds w wr [pBytes u (fsts (bst (bF f f') (bF g g') S X i).1), pRow (.slice (some ⟨w.heap.size + 1 + 1, 0, none⟩) m m) 2 1 m (rv (sndF (bst (bF f f') (bF g g') S X i).1) m), pBlk (w.heap.size + 1) (dv n f' g') 30, pBlk w.heap.size (dv m f g) 30]) (fun _ t _ => 2 - (intOf t).toNat)
          case atStart => exact ⟨0, by omega, rfl, hnd, hH⟩
          case round =>
            clear hH hnd
            obtain ⟨i, hi, rfl, hnd, hH⟩ := hrel
            by_cases hi2 : i < 2
            · have hIT := bst_inv HI.out HBX.out.1 HBX.out.2 i
              have hXT : X ∈ (bst (bF f f') (bF g g') S X i).1 := (bst_pre _ _ _ _ _).subset HAB.out.2.2
              have hsa : sndF (bst (bF f f') (bF g g') S X i).1 a = ((b : Nat) : Int) := by
                have := sndF_mem hnd hXT
                rw [← HAB.out.1, ← HAB.out.2.1] at this; exact this
              clear hXT
              have q0 : wr.cell? ⟨w.heap.size + 1 + 1, a, none⟩ = some (.int .i64 (b : Nat)) := by
                rw [← hsa]; exact hH.cellR 1 rfl (rv_at _ hXa)
              have c3 := hH.cell 3 rfl (dv_b m f g ha16)
              have c4 := hH.cell 2 rfl (dv_b n f' g' hb16)
              go_wp2
              go_quiet (fail)
              have hH' := hH.drewN nq
              clear q0 c3 c4 hH
              generalize wr.drewN nq = wr at *
              have hH := hH'
              clear hH'
              have hii : i = 0 ∨ i = 1 := by omega
              rcases hii with hi0 | hi1
              · obtain rfl := hi0
                have hst : bst (bF f f') (bF g g') S X 1 = badd (bst (bF f f') (bF g g') S X 0) (bF f f' X) := rfl
                clear hsa
                generalize bst (bF f f') (bF g g') S X 0 = T at *
                have HIT := hide hIT; clear hIT
                have HST := hide hst; clear hst
                have hzt : (bF f f' X) / 16 = f a := EE.out.1.1
                have hzh : (bF f f' X) % 16 = f' b := EE.out.1.2.1
                have hto : f a < m := EE.out.1.2.2
                have hto' : ((f a : Nat) : Int) < m := by omega
                have hz256 := HBX.out.1
                have hTl := HIT.out.length_le
                by_cases hin : f a ∈ fsts T.1
                · have hge := sndF_ge hin
                  have hneg : decide (sndF T.1 (f a) < 0) = false := decide_eq_false (by omega)
                  by_cases hsm : sndF T.1 (f a) = ((f' b : Nat) : Int)
                  · have hmz : bF f f' X ∈ T.1 := (snd_same hnd (by rw [hzt]; exact hin)).2 (by rw [hzt, hzh]; exact hsm)
                    have hneq : (sndF T.1 (f a) != ((f' b : Nat) : Int)) = false := by rw [hsm]; simp
                    have hTY : T.2 (bF f f' X) = true := (HIT.out.mem _).2 hmz
                    have HX := hide (And.intro hnd (And.intro hTY hto)); clear hnd hTY hmz hsm hin hzt hzh hge hTl
                    have r0 := hH.cellR 1 rfl (rv_at (sndF T.1) (j := f a) HX.out.2.2)
                    go_wp2
                    go_roundw
                    case rel =>
                      refine ⟨1, by omega, by go_num, ?_⟩
                      rw [HST.out, badd_old HX.out.2.1]
                      exact ⟨HX.out.1, hH⟩
                    case measure => simp [intOf]
                  · have hmz : bF f f' X ∉ T.1 := fun h => hsm (by have := sndF_mem hnd h; rw [hzt, hzh] at this; exact this)
                    have hneq : (sndF T.1 (f a) != ((f' b : Nat) : Int)) = true := by simpa using hsm
                    have hTN : T.2 (bF f f' X) = false := by
                      rcases h : T.2 (bF f f' X) with _ | _
                      · rfl
                      · exact absurd ((HIT.out.mem _).1 h) hmz
                    have hpre : T.1 ++ [bF f f' X] <+: R := by
                      have h1 : T.1 ++ [bF f f' X] <+: (bst (bF f f') (bF g g') S X 2).1 := by
                        have h2 : (bst (bF f f') (bF g g') S X 1).1 = T.1 ++ [bF f f' X] := by rw [HST.out, badd_new hTN]
                        rw [← h2]
                        exact badd_le _ _
                      rw [← HNX.out] at h1
                      exact h1.trans (HFP.out (k + 1) (by omega))
                    have hcl := snd_clash (by rw [hzt]; exact hin) hmz hpre
                    have HX := hide (And.intro hcl hto); clear hcl hpre hTN hmz hsm hin hnd hzt hzh hge hTl
                    have r0 := hH.cellR 1 rfl (rv_at (sndF T.1) (j := f a) HX.out.2)
                    go_wp2
                    go_ret2
                    exact ⟨_, false, rfl, hH.low, (fun h => by cases h), fun _ => HX.out.1⟩
                · have hmin : sndF T.1 (f a) = -1 := sndF_none hin
                  have hneg : decide (sndF T.1 (f a) < 0) = true := by rw [hmin]; rfl
                  have hadd := sndF_add (l := T.1) (z := bF f f' X) (by rw [hzt]; exact hin)
                  rw [hzt, hzh] at hadd
                  have hTN : T.2 (bF f f' X) = false := by
                    rcases h : T.2 (bF f f' X) with _ | _
                    · rfl
                    · exact absurd (List.mem_map.2 ⟨_, (HIT.out.mem _).1 h, hzt⟩) hin
                  have hnd' : (fsts (T.1 ++ [bF f f' X])).Nodup := by
                    rw [fsts_snoc, List.nodup_append]
                    exact ⟨hnd, by simp, fun x hx y hy e => by simp at hy; rw [hzt] at hy; subst e; subst hy; exact hin hx⟩
                  have hsn : fsts (T.1 ++ [bF f f' X]) = fsts T.1 ++ [f a] := by rw [fsts_snoc, hzt]
                  have HX := hide (And.intro hnd' (And.intro hTN (And.intro hto (And.intro hadd hsn)))); clear hnd hnd' hTN hmin hin hadd hsn hzt hzh
                  have r0 := hH.cellR 1 rfl (rv_at (sndF T.1) (j := f a) HX.out.2.2.1)
                  have r1 := hH.frozenR 1 rfl (by omega) (f a)
                  have hP := hH.put 1 rfl (f a) (.int .i64 (f' b : Nat))
                  rw [rv_set, HX.out.2.2.2.1] at hP
                  obtain ⟨A', c', rfl⟩ := hH.bytesForm 0 rfl
                  rw [fsts_length] at hH hP ⊢
                  have hneq : (((f' b : Nat) : Int) != ((f' b : Nat) : Int)) = false := by simp
                  go_wp2_with (at_builtin; refine appBy (hP.alloc _) 0 rfl wr.heap.size [f a] 5 ?_ ?_ rfl _ _ rfl rfl rfl ?_)
                  · exact heap_at _ _ _ (by simp)
                  · rw [fsts_length]; simp only [List.length_cons, List.length_nil]; omega
                  intro v' w5 hH5
                  clear r0 r1 hP hH
                  have hH6 : Holds w w5 [pBytes v' (fsts T.1 ++ [f a]), pRow (.slice (some ⟨w.heap.size + 1 + 1, 0, none⟩) m m) 2 1 m (rv (sndF (T.1 ++ [bF f f' X])) m), pBlk (w.heap.size + 1) (dv n f' g') 30, pBlk w.heap.size (dv m f g) 30] := hH5
                  clear hH5
                  have hsv : sndF (T.1 ++ [bF f f' X]) (f a) = ((f' b : Nat) : Int) := by
                    rw [← HX.out.2.2.2.1]; unfold hset; rw [if_pos rfl]
                  have r2 := hH6.cellR 1 rfl (rv_at (sndF (T.1 ++ [bF f f' X])) (j := f a) HX.out.2.2.1)
                  rw [hsv] at r2
                  clear hsv
                  go_wp2
                  go_roundw
                  case rel =>
                    refine ⟨1, by omega, by go_num, ?_⟩
                    rw [HST.out, badd_new HX.out.2.1]
                    refine ⟨HX.out.1, ?_⟩
                    show Holds w w5 [pBytes v' (fsts (T.1 ++ [bF f f' X])), _, _, _]
                    rw [HX.out.2.2.2.2]
                    exact hH6
                  case measure => simp [intOf]

              · obtain rfl := hi1
                have hst : bst (bF f f') (bF g g') S X 2 = badd (bst (bF f f') (bF g g') S X 1) (bF g g' X) := rfl
                have q0 : wr.cell? ⟨w.heap.size + 1 + 1, a, none⟩ = some (.int .i64 (b : Nat)) := by
                  rw [← hsa]; exact hH.cellR 1 rfl (rv_at _ hXa)
                have c3 := hH.cell 3 rfl (dv_w m f g ha16)
                have c4 := hH.cell 2 rfl (dv_w n f' g' hb16)
                clear hsa
                generalize bst (bF f f') (bF g g') S X 1 = T at *
                have HIT := hide hIT; clear hIT
                have HST := hide hst; clear hst
                have hzt : (bF g g' X) / 16 = g a := EE.out.2.1
                have hzh : (bF g g' X) % 16 = g' b := EE.out.2.2.1
                have hto : g a < m := EE.out.2.2.2
                have hto' : ((g a : Nat) : Int) < m := by omega
                have hz256 := HBX.out.2
                have hTl := HIT.out.length_le
                by_cases hin : g a ∈ fsts T.1
                · have hge := sndF_ge hin
                  have hneg : decide (sndF T.1 (g a) < 0) = false := decide_eq_false (by omega)
                  by_cases hsm : sndF T.1 (g a) = ((g' b : Nat) : Int)
                  · have hmz : bF g g' X ∈ T.1 := (snd_same hnd (by rw [hzt]; exact hin)).2 (by rw [hzt, hzh]; exact hsm)
                    have hneq : (sndF T.1 (g a) != ((g' b : Nat) : Int)) = false := by rw [hsm]; simp
                    have hTY : T.2 (bF g g' X) = true := (HIT.out.mem _).2 hmz
                    have HX := hide (And.intro hnd (And.intro hTY hto)); clear hnd hTY hmz hsm hin hzt hzh hge hTl
                    have r0 := hH.cellR 1 rfl (rv_at (sndF T.1) (j := g a) HX.out.2.2)
                    go_wp2
                    go_roundw
                    case rel =>
                      refine ⟨2, by omega, by go_num, ?_⟩
                      rw [HST.out, badd_old HX.out.2.1]
                      exact ⟨HX.out.1, hH⟩
                    case measure => simp [intOf]
                  · have hmz : bF g g' X ∉ T.1 := fun h => hsm (by have := sndF_mem hnd h; rw [hzt, hzh] at this; exact this)
                    have hneq : (sndF T.1 (g a) != ((g' b : Nat) : Int)) = true := by simpa using hsm
                    have hTN : T.2 (bF g g' X) = false := by
                      rcases h : T.2 (bF g g' X) with _ | _
                      · rfl
                      · exact absurd ((HIT.out.mem _).1 h) hmz
                    have hpre : T.1 ++ [bF g g' X] <+: R := by
                      have h1 : T.1 ++ [bF g g' X] <+: (bst (bF f f') (bF g g') S X 2).1 := by
                        have h2 : (bst (bF f f') (bF g g') S X 2).1 = T.1 ++ [bF g g' X] := by rw [HST.out, badd_new hTN]
                        rw [← h2]
                        exact List.prefix_refl _
                      rw [← HNX.out] at h1
                      exact h1.trans (HFP.out (k + 1) (by omega))
                    have hcl := snd_clash (by rw [hzt]; exact hin) hmz hpre
                    have HX := hide (And.intro hcl hto); clear hcl hpre hTN hmz hsm hin hnd hzt hzh hge hTl
                    have r0 := hH.cellR 1 rfl (rv_at (sndF T.1) (j := g a) HX.out.2)
                    go_wp2
                    go_ret2
                    exact ⟨_, false, rfl, hH.low, (fun h => by cases h), fun _ => HX.out.1⟩
                · have hmin : sndF T.1 (g a) = -1 := sndF_none hin
                  have hneg : decide (sndF T.1 (g a) < 0) = true := by rw [hmin]; rfl
                  have hadd := sndF_add (l := T.1) (z := bF g g' X) (by rw [hzt]; exact hin)
                  rw [hzt, hzh] at hadd
                  have hTN : T.2 (bF g g' X) = false := by
                    rcases h : T.2 (bF g g' X) with _ | _
                    · rfl
                    · exact absurd (List.mem_map.2 ⟨_, (HIT.out.mem _).1 h, hzt⟩) hin
                  have hnd' : (fsts (T.1 ++ [bF g g' X])).Nodup := by
                    rw [fsts_snoc, List.nodup_append]
                    exact ⟨hnd, by simp, fun x hx y hy e => by simp at hy; rw [hzt] at hy; subst e; subst hy; exact hin hx⟩
                  have hsn : fsts (T.1 ++ [bF g g' X]) = fsts T.1 ++ [g a] := by rw [fsts_snoc, hzt]
                  have HX := hide (And.intro hnd' (And.intro hTN (And.intro hto (And.intro hadd hsn)))); clear hnd hnd' hTN hmin hin hadd hsn hzt hzh
                  have r0 := hH.cellR 1 rfl (rv_at (sndF T.1) (j := g a) HX.out.2.2.1)
                  have r1 := hH.frozenR 1 rfl (by omega) (g a)
                  have hP := hH.put 1 rfl (g a) (.int .i64 (g' b : Nat))
                  rw [rv_set, HX.out.2.2.2.1] at hP
                  obtain ⟨A', c', rfl⟩ := hH.bytesForm 0 rfl
                  rw [fsts_length] at hH hP ⊢
                  have hneq : (((g' b : Nat) : Int) != ((g' b : Nat) : Int)) = false := by simp
                  go_wp2_with (at_builtin; refine appBy (hP.alloc _) 0 rfl wr.heap.size [g a] 5 ?_ ?_ rfl _ _ rfl rfl rfl ?_)
                  · exact heap_at _ _ _ (by simp)
                  · rw [fsts_length]; simp only [List.length_cons, List.length_nil]; omega
                  intro v' w5 hH5
                  clear r0 r1 hP hH
                  have hH6 : Holds w w5 [pBytes v' (fsts T.1 ++ [g a]), pRow (.slice (some ⟨w.heap.size + 1 + 1, 0, none⟩) m m) 2 1 m (rv (sndF (T.1 ++ [bF g g' X])) m), pBlk (w.heap.size + 1) (dv n f' g') 30, pBlk w.heap.size (dv m f g) 30] := hH5
                  clear hH5
                  have hsv : sndF (T.1 ++ [bF g g' X]) (g a) = ((g' b : Nat) : Int) := by
                    rw [← HX.out.2.2.2.1]; unfold hset; rw [if_pos rfl]
                  have r2 := hH6.cellR 1 rfl (rv_at (sndF (T.1 ++ [bF g g' X])) (j := g a) HX.out.2.2.1)
                  rw [hsv] at r2
                  clear hsv
                  go_wp2
                  go_roundw
                  case rel =>
                    refine ⟨2, by omega, by go_num, ?_⟩
                    rw [HST.out, badd_new HX.out.2.1]
                    refine ⟨HX.out.1, ?_⟩
                    show Holds w w5 [pBytes v' (fsts (T.1 ++ [bF g g' X])), _, _, _]
                    rw [HX.out.2.2.2.2]
                    exact hH6
                  case measure => simp [intOf]

            · obtain rfl : i = 2 := by omega
              have hn2 := HNX.out
              rw [← hn2] at hH hnd
              have hln : k + 1 ≤ (F (k + 1)).1.length := by
                have h1 := (bst_pre (bF f f') (bF g g') S X 2).length_le
                rw [hn2]; omega
              clear hi hi2 hn2
              go_wp2
              go_roundw
              case rel => exact ⟨k + 1, hln, by go_num, hnd, hH⟩
              case measure => simp [intOf]; omega
        · have hR := FE.out k (by omega) (by omega)
          have hkk : (F k).1.length = k := by omega
          obtain ⟨A', c', rfl⟩ := hH.bytesForm 0 rfl
          have hdl : (fsts (F k).1).length = k := by rw [fsts_length]; exact hkk
          rw [hdl] at hH ⊢
          rw [← hR] at hH hnd
          have HND := hide hnd
          clear hR hkk hdl hI hle hk hkl hnd
          go_wp2
          go_ret2
          exact ⟨_, true, rfl, hH.low, (fun _ => ⟨HND.out, hH.row 1 rfl⟩), fun h => by cases h⟩
end Go.Proofs.Ytjhpkibeddnbfaa

namespace Go.Proofs.Ytjhpkibeddnbfaa
open Go.RowKit

set_option maxRecDepth 100000 in
set_option maxHeartbeats 1000000 in
theorem isDart_any (n : Int) (f g : Nat → Nat) (x : Int) (w : World) :
    Calls Try.prog 56 #[.agg (dv n f g), .int .i64 x] w fun e w' => e = .returned (.bool (decide (0 ≤ x ∧ x < n))) ∧ Below w.heap.size w w' := by
  have hn := dv_n n f g
  by_cases h0 : 0 ≤ x
  · have hd : decide (0 ≤ x ∧ x < n) = decide (x < n) := by simp [h0]
    rw [hd]
    have hd0 : decide (0 ≤ x) = true := by simp [h0]
    clear hd
    go_enter Try.func56, Try.ntmps56
    go_wp2
    go_ret
    exact ⟨rfl, below1 _ _⟩
  · have hd : decide (0 ≤ x ∧ x < n) = false := by simp [h0]
    rw [hd]
    have hd0 : decide (0 ≤ x) = false := by simp [h0]
    clear hd
    go_enter Try.func56, Try.ntmps56
    go_wp2
    go_ret
    exact ⟨rfl, below1 _ _⟩
open Classical in
noncomputable def namR (n : Int) (f g : Nat → Nat) (x : Int) : Value :=
  if desB n f g = true then (if 0 ≤ x ∧ x < n then .tuple #[.agg (av (namF f g n.toNat x.toNat)), .int .i64 0] else .tuple #[.agg (av fun _ => 0), .int .i64 2]) else .tuple #[.agg (av fun _ => 0), .int .i64 1]
theorem namR_eq (n : Int) (f g : Nat → Nat) (x : Int) : ∃ (r : Nat → Nat) (c : Int), namR n f g x = .tuple #[.agg (av r), .int .i64 c] := by
  unfold namR; split
  · split
    · exact ⟨_, _, rfl⟩
    · exact ⟨_, _, rfl⟩
  · exact ⟨_, _, rfl⟩

-- left out here: loop.example/g01200/impl.NamingFrom
-- left out here: loop.example/g01200/spec.NamingFrom
-- left out here: loop.example/g01200/laws.FnExactNamingFrom
end Go.Proofs.Ytjhpkibeddnbfaa

namespace Go.Proofs.Ytjhpkibeddnbfaa
open Go.RowKit

noncomputable def prL (f g f' g' : Nat → Nat) (x y : Nat) : List Nat := (bfs (bF f f') (bF g g') (16 * x + y) 256).1
theorem prL_inv {f g f' g' : Nat → Nat} {m n : Nat} (hd : DesN f g m) (he : DesN f' g' n) {x y : Nat} (hx : x < 16) (hy : y < 16) :
    (prL f g f' g' x y).Nodup ∧ (∀ z ∈ prL f g f' g' x y, z < 256) ∧ (∀ z ∈ prL f g f' g' x y, bF f f' z ∈ prL f g f' g' x y ∧ bF g g' z ∈ prL f g f' g' x y) ∧ (prL f g f' g' x y).length ≤ 256 := by
  have hB := fun z hz => bF_lt hd.black he.black z hz
  have hW := fun z hz => bF_lt hd.white he.white z hz
  have hI := bfs_inv hB hW (show 16 * x + y < 256 by omega) 256
  exact ⟨hI.nodup, hI.lt, fun z hz => bfs_clos hB hW (by omega) (Nat.le_refl _) hz, hI.length_le⟩
theorem inD_any (n a b : Int) (w : World) : Calls Try.prog 54 #[.int .i64 n, .int .i64 a, .int .i64 b] w fun e w' => e = .returned (.bool (decide (a ≤ n ∧ n ≤ b))) ∧ w = w' := by
  by_cases h : a ≤ n ∧ n ≤ b
  · rw [decide_eq_true h]; exact in_yes n a b w h.1 h.2
  · rw [decide_eq_false h]; exact in_no n a b w h
open Classical in
noncomputable def proR (n : Int) (f g : Nat → Nat) (n' : Int) (f' g' : Nat → Nat) (x y : Int) : Value :=
  if desB n f g = true ∧ desB n' f' g' = true then
    if (0 ≤ x ∧ x < n) ∧ (0 ≤ y ∧ y < n') then
      if (prL f g f' g' x.toNat y.toNat).length ≤ 16 then .tuple #[.agg (dv (prL f g f' g' x.toNat y.toNat).length (upto (idxF (prL f g f' g' x.toNat y.toNat) (bF f f')) (prL f g f' g' x.toNat y.toNat).length) (upto (idxF (prL f g f' g' x.toNat y.toNat) (bF g g')) (prL f g f' g' x.toNat y.toNat).length)), .int .i64 0]
      else .tuple #[.agg (dv 0 (fun _ => 0) (fun _ => 0)), .int .i64 3]
    else .tuple #[.agg (dv 0 (fun _ => 0) (fun _ => 0)), .int .i64 2]
  else .tuple #[.agg (dv 0 (fun _ => 0) (fun _ => 0)), .int .i64 1]
theorem proR_eq (n : Int) (f g : Nat → Nat) (n' : Int) (f' g' : Nat → Nat) (x y : Int) : ∃ (a : Int) (r s : Nat → Nat) (c : Int), proR n f g n' f' g' x y = .tuple #[.agg (dv a r s), .int .i64 c] := by
  unfold proR
  split
  · split
    · split
      · exact ⟨_, _, _, _, rfl⟩
      · exact ⟨_, _, _, _, rfl⟩
    · exact ⟨_, _, _, _, rfl⟩
  · exact ⟨_, _, _, _, rfl⟩

set_option maxRecDepth 100000 in
set_option maxHeartbeats 1000000 in
theorem sBoth_any (n : Int) (f g : Nat → Nat) (hf : ∀ i, f i < 256) (hg : ∀ i, g i < 256) (n' : Int) (f' g' : Nat → Nat) (hf' : ∀ i, f' i < 256) (hg' : ∀ i, g' i < 256) (w : World) :
    Calls Try.prog 44 #[.agg (dv n f g), .agg (dv n' f' g')] w fun e w' => e = .returned (.int .i64 (if desB n f g = true ∧ desB n' f' g' = true then 0 else 1)) ∧ Below w.heap.size w w' := by
  have C1 := hide fun w => sIs_any n f g hf hg w
  have C2 := hide fun w => sIs_any n' f' g' hf' hg' w
  clear hf hg hf' hg'
  have HH0 := ((Holds.start w).blk (dv n f g) 30 w.heap.size rfl).blk (dv n' f' g') 30 (w.heap.size + 1) (by simp)
  rcases h1 : desB n f g with _ | _
  · rw [h1] at C1
    rw [if_neg (by simp)]
    go_enter Try.func44, Try.ntmps44
    go_wp2_with fail
    refine (C1.out _).mono ?_
    rintro e w1 ⟨rfl, hb⟩
    have HH1 := HH0.call hb
    go_wp2
    go_ret
    exact ⟨rfl, HH1.low⟩
  · rw [h1] at C1
    have hi : (if true = true ∧ desB n' f' g' = true then (0 : Int) else 1) = if desB n' f' g' = true then 0 else 1 := by simp
    rw [hi]
    clear hi
    rcases h2 : desB n' f' g' with _ | _
    all_goals
      rw [h2] at C2
      first | rw [if_pos rfl] | rw [if_neg (by simp)]
      go_enter Try.func44, Try.ntmps44
      go_wp2_with fail
      refine (C1.out _).mono ?_
      rintro e w1 ⟨rfl, hb⟩
      have HH1 := HH0.call hb
      have cd := HH1.cells 0 rfl
      clear hb
      go_wp2_with fail
      refine (C2.out _).mono ?_
      rintro e w2 ⟨rfl, hb⟩
      have HH2 := HH1.call hb
      go_wp2
      go_ret
      exact ⟨rfl, HH2.low⟩

set_option maxRecDepth 100000 in
set_option maxHeartbeats 4000000 in
theorem productAt_any (n : Int) (f g : Nat → Nat) (hf : ∀ i, f i < 256) (hg : ∀ i, g i < 256) (n' : Int) (f' g' : Nat → Nat) (hf' : ∀ i, f' i < 256) (hg' : ∀ i, g' i < 256) (x y : Int) (w : World) :
    Calls Try.prog 29 #[.agg (dv n f g), .agg (dv n' f' g'), .int .i64 x, .int .i64 y] w fun e w' => e = .returned (proR n f g n' f' g' x y) ∧ Below w.heap.size w w' := by
  have C1 := hide fun w => isDessin_any n f g hf hg w
  have C2 := hide fun w => isDessin_any n' f' g' hf' hg' w
  clear hf hg hf' hg'
  have HH0 := (((Holds.start w).blk (dv n f g) 30 w.heap.size rfl).blk (dv n' f' g') 30 (w.heap.size + 1) (by simp)).blk (dv 0 (fun _ => 0) (fun _ => 0)) 30 (w.heap.size + 1 + 1) (by simp)
  have hn := dv_n n f g
  have hm' := dv_n n' f' g'
  rcases h1 : desB n f g with _ | _
  · rw [h1] at C1
    have hr : proR n f g n' f' g' x y = (.tuple #[.agg (dv 0 (fun _ => 0) (fun _ => 0)), .int .i64 1]) := by unfold proR; rw [if_neg (by simp [h1])]
    rw [hr]
    clear h1 hr
    go_enter Try.func29, Try.ntmps29
    go_wp2_with fail
    try rw [← dv_zero]
    refine (C1.out _).mono ?_
    rintro e w1 ⟨rfl, hb1⟩
    have HH1 := HH0.call hb1
    clear hb1 HH0
    have cd1 := HH1.cells 2 rfl
    have ce1 := HH1.cells 1 rfl
    have cn1 := HH1.cell 2 rfl hn
    have cm1 := HH1.cell 1 rfl hm'
    have rr1 := HH1.rowOk 0 rfl (dv_size _ _ _)
    go_wp2
    try rw [← dv_zero]
    exact res_agg2 (p := 8) (t := 9) (g := (w.heap.size + 1 + 1)) (v := .int .i64 1) aggD (dv_size _ _ _) rfl rfl rfl rfl ((HH1.setRow 0 rfl (dv 0 (fun _ => 0) (fun _ => 0))).at 0 rfl) ⟨rfl, (HH1.setRow 0 rfl (dv 0 (fun _ => 0) (fun _ => 0))).low⟩
  rw [h1] at C1
  rcases h2 : desB n' f' g' with _ | _
  · rw [h2] at C2
    have hr : proR n f g n' f' g' x y = (.tuple #[.agg (dv 0 (fun _ => 0) (fun _ => 0)), .int .i64 1]) := by unfold proR; rw [if_neg (by simp [h2])]
    rw [hr]
    clear h1 h2 hr
    go_enter Try.func29, Try.ntmps29
    go_wp2_with fail
    try rw [← dv_zero]
    refine (C1.out _).mono ?_
    rintro e w1 ⟨rfl, hb1⟩
    have HH1 := HH0.call hb1
    clear hb1 HH0
    have cd1 := HH1.cells 2 rfl
    have ce1 := HH1.cells 1 rfl
    have cn1 := HH1.cell 2 rfl hn
    have cm1 := HH1.cell 1 rfl hm'
    have rr1 := HH1.rowOk 0 rfl (dv_size _ _ _)
    go_wp2_with fail
    refine (C2.out _).mono ?_
    rintro e w2 ⟨rfl, hb2⟩
    have HH2 := HH1.call hb2
    clear hb2 cd1 ce1 cn1 cm1 rr1 HH1
    have cd2 := HH2.cells 2 rfl
    have ce2 := HH2.cells 1 rfl
    have cn2 := HH2.cell 2 rfl hn
    have cm2 := HH2.cell 1 rfl hm'
    have rr2 := HH2.rowOk 0 rfl (dv_size _ _ _)
    go_wp2
    try rw [← dv_zero]
    exact res_agg2 (p := 8) (t := 9) (g := (w.heap.size + 1 + 1)) (v := .int .i64 1) aggD (dv_size _ _ _) rfl rfl rfl rfl ((HH2.setRow 0 rfl (dv 0 (fun _ => 0) (fun _ => 0))).at 0 rfl) ⟨rfl, (HH2.setRow 0 rfl (dv 0 (fun _ => 0) (fun _ => 0))).low⟩
  rw [h2] at C2
  have hdd := And.intro h1 h2
  obtain ⟨m, rfl, hd⟩ := desB_true h1
  obtain ⟨k, rfl, he⟩ := desB_true h2
  have hm := hd.le
  have hk := he.le
  have C3 := hide fun w => isDart_any m f g x w
  have C4 := hide fun w => isDart_any k f' g' y w
  by_cases hx : 0 ≤ x ∧ x < (m : Int)
  rotate_left
  · rw [decide_eq_false hx] at C3
    have hr : proR m f g k f' g' x y = (.tuple #[.agg (dv 0 (fun _ => 0) (fun _ => 0)), .int .i64 2]) := by unfold proR; rw [if_pos hdd, if_neg (fun h => hx h.1)]
    rw [hr]
    clear hr hx hdd h1 h2 hd he
    go_enter Try.func29, Try.ntmps29
    go_wp2_with fail
    try rw [← dv_zero]
    refine (C1.out _).mono ?_
    rintro e w1 ⟨rfl, hb1⟩
    have HH1 := HH0.call hb1
    clear hb1 HH0
    have cd1 := HH1.cells 2 rfl
    have ce1 := HH1.cells 1 rfl
    have cn1 := HH1.cell 2 rfl hn
    have cm1 := HH1.cell 1 rfl hm'
    have rr1 := HH1.rowOk 0 rfl (dv_size _ _ _)
    go_wp2_with fail
    refine (C2.out _).mono ?_
    rintro e w2 ⟨rfl, hb2⟩
    have HH2 := HH1.call hb2
    clear hb2 cd1 ce1 cn1 cm1 rr1 HH1
    have cd2 := HH2.cells 2 rfl
    have ce2 := HH2.cells 1 rfl
    have cn2 := HH2.cell 2 rfl hn
    have cm2 := HH2.cell 1 rfl hm'
    have rr2 := HH2.rowOk 0 rfl (dv_size _ _ _)
    go_wp2_with fail
    refine (C3.out _).mono ?_
    rintro e w3 ⟨rfl, hb3⟩
    have HH3 := HH2.call hb3
    clear hb3 cd2 ce2 cn2 cm2 rr2 HH2
    have cd3 := HH3.cells 2 rfl
    have ce3 := HH3.cells 1 rfl
    have cn3 := HH3.cell 2 rfl hn
    have cm3 := HH3.cell 1 rfl hm'
    have rr3 := HH3.rowOk 0 rfl (dv_size _ _ _)
    go_wp2
    try rw [← dv_zero]
    exact res_agg2 (p := 8) (t := 9) (g := (w.heap.size + 1 + 1)) (v := .int .i64 2) aggD (dv_size _ _ _) rfl rfl rfl rfl ((HH3.setRow 0 rfl (dv 0 (fun _ => 0) (fun _ => 0))).at 0 rfl) ⟨rfl, (HH3.setRow 0 rfl (dv 0 (fun _ => 0) (fun _ => 0))).low⟩
  rw [decide_eq_true hx] at C3
  by_cases hy : 0 ≤ y ∧ y < (k : Int)
  rotate_left
  · rw [decide_eq_false hy] at C4
    have hr : proR m f g k f' g' x y = (.tuple #[.agg (dv 0 (fun _ => 0) (fun _ => 0)), .int .i64 2]) := by unfold proR; rw [if_pos hdd, if_neg (fun h => hy h.2)]
    rw [hr]
    clear hr hx hy hdd h1 h2 hd he
    go_enter Try.func29, Try.ntmps29
    go_wp2_with fail
    try rw [← dv_zero]
    refine (C1.out _).mono ?_
    rintro e w1 ⟨rfl, hb1⟩
    have HH1 := HH0.call hb1
    clear hb1 HH0
    have cd1 := HH1.cells 2 rfl
    have ce1 := HH1.cells 1 rfl
    have cn1 := HH1.cell 2 rfl hn
    have cm1 := HH1.cell 1 rfl hm'
    have rr1 := HH1.rowOk 0 rfl (dv_size _ _ _)
    go_wp2_with fail
    refine (C2.out _).mono ?_
    rintro e w2 ⟨rfl, hb2⟩
    have HH2 := HH1.call hb2
    clear hb2 cd1 ce1 cn1 cm1 rr1 HH1
    have cd2 := HH2.cells 2 rfl
    have ce2 := HH2.cells 1 rfl
    have cn2 := HH2.cell 2 rfl hn
    have cm2 := HH2.cell 1 rfl hm'
    have rr2 := HH2.rowOk 0 rfl (dv_size _ _ _)
    go_wp2_with fail
    refine (C3.out _).mono ?_
    rintro e w3 ⟨rfl, hb3⟩
    have HH3 := HH2.call hb3
    clear hb3 cd2 ce2 cn2 cm2 rr2 HH2
    have cd3 := HH3.cells 2 rfl
    have ce3 := HH3.cells 1 rfl
    have cn3 := HH3.cell 2 rfl hn
    have cm3 := HH3.cell 1 rfl hm'
    have rr3 := HH3.rowOk 0 rfl (dv_size _ _ _)
    go_wp2_with fail
    refine (C4.out _).mono ?_
    rintro e w4 ⟨rfl, hb4⟩
    have HH4 := HH3.call hb4
    clear hb4 cd3 ce3 cn3 cm3 rr3 HH3
    have cd4 := HH4.cells 2 rfl
    have ce4 := HH4.cells 1 rfl
    have cn4 := HH4.cell 2 rfl hn
    have cm4 := HH4.cell 1 rfl hm'
    have rr4 := HH4.rowOk 0 rfl (dv_size _ _ _)
    go_wp2
    try rw [← dv_zero]
    exact res_agg2 (p := 8) (t := 9) (g := (w.heap.size + 1 + 1)) (v := .int .i64 2) aggD (dv_size _ _ _) rfl rfl rfl rfl ((HH4.setRow 0 rfl (dv 0 (fun _ => 0) (fun _ => 0))).at 0 rfl) ⟨rfl, (HH4.setRow 0 rfl (dv 0 (fun _ => 0) (fun _ => 0))).low⟩
  rw [decide_eq_true hy] at C4
  have hxy := And.intro hx hy
  obtain ⟨a, rfl⟩ := Int.eq_ofNat_of_zero_le hx.1
  obtain ⟨b, rfl⟩ := Int.eq_ofNat_of_zero_le hy.1
  have ha : a < m := by omega
  have hb : b < k := by omega
  have ha' : (a : Int) < 16 := by omega
  have hb' : (b : Int) < 16 := by omega
  have C5 := hide fun (w : World) => pairsFrom_any f g f' g' m k hd he a b (by omega) (by omega) w
  have hL := prL_inv hd he (x := a) (y := b) (by omega) (by omega)
  change Hid (∀ w : World, Calls Try.prog _ _ w fun e w' => ∃ v, e = .returned v ∧ Below w.heap.size w w' ∧ w'.ownsRow w.heap.size 68 2 v (prL f g f' g' a b).length (pairB (dec (prL f g f' g' a b)))) at C5
  by_cases hlen : (prL f g f' g' a b).length ≤ 16
  rotate_left
  · have hr : proR m f g k f' g' a b = (.tuple #[.agg (dv 0 (fun _ => 0) (fun _ => 0)), .int .i64 3]) := by unfold proR; rw [if_pos hdd, if_pos hxy, if_neg (by simpa only [Int.toNat_natCast] using hlen)]
    rw [hr]
    clear hr hx hy hdd h1 h2 hd he hxy ha hb
    obtain ⟨L, hLe⟩ : ∃ L, L = prL f g f' g' a b := ⟨_, rfl⟩
    rw [← hLe] at C5 hL hlen
    clear hLe
    have hgt : decide (((L.length : Nat) : Int) > 16) = true := decide_eq_true (by omega)
    go_enter Try.func29, Try.ntmps29
    go_wp2_with fail
    try rw [← dv_zero]
    refine (C1.out _).mono ?_
    rintro e w1 ⟨rfl, hb1⟩
    have HH1 := HH0.call hb1
    clear hb1 HH0
    have cd1 := HH1.cells 2 rfl
    have ce1 := HH1.cells 1 rfl
    have cn1 := HH1.cell 2 rfl hn
    have cm1 := HH1.cell 1 rfl hm'
    have rr1 := HH1.rowOk 0 rfl (dv_size _ _ _)
    go_wp2_with fail
    refine (C2.out _).mono ?_
    rintro e w2 ⟨rfl, hb2⟩
    have HH2 := HH1.call hb2
    clear hb2 cd1 ce1 cn1 cm1 rr1 HH1
    have cd2 := HH2.cells 2 rfl
    have ce2 := HH2.cells 1 rfl
    have cn2 := HH2.cell 2 rfl hn
    have cm2 := HH2.cell 1 rfl hm'
    have rr2 := HH2.rowOk 0 rfl (dv_size _ _ _)
    go_wp2_with fail
    refine (C3.out _).mono ?_
    rintro e w3 ⟨rfl, hb3⟩
    have HH3 := HH2.call hb3
    clear hb3 cd2 ce2 cn2 cm2 rr2 HH2
    have cd3 := HH3.cells 2 rfl
    have ce3 := HH3.cells 1 rfl
    have cn3 := HH3.cell 2 rfl hn
    have cm3 := HH3.cell 1 rfl hm'
    have rr3 := HH3.rowOk 0 rfl (dv_size _ _ _)
    go_wp2_with fail
    refine (C4.out _).mono ?_
    rintro e w4 ⟨rfl, hb4⟩
    have HH4 := HH3.call hb4
    clear hb4 cd3 ce3 cn3 cm3 rr3 HH3
    have cd4 := HH4.cells 2 rfl
    have ce4 := HH4.cells 1 rfl
    have cn4 := HH4.cell 2 rfl hn
    have cm4 := HH4.cell 1 rfl hm'
    have rr4 := HH4.rowOk 0 rfl (dv_size _ _ _)
    go_wp2_with fail
    refine (C5.out _).mono ?_
    rintro e w5 ⟨v, rfl, hb5, ho5⟩
    have HH5 := HH4.newRow hb5 ho5
    clear hb5 ho5 cd4 ce4 cn4 cm4 rr4 HH4
    have cd5 := HH5.cells 3 rfl
    have ce5 := HH5.cells 2 rfl
    have cn5 := HH5.cell 3 rfl hn
    have cm5 := HH5.cell 2 rfl hm'
    have rr5 := HH5.rowOk 1 rfl (dv_size _ _ _)
    obtain ⟨A, c, rfl⟩ := own_slice (HH5.row 0 rfl)
    go_wp2
    try rw [← dv_zero]
    exact res_agg2 (p := 8) (t := 9) (g := (w.heap.size + 1 + 1)) (v := .int .i64 3) aggD (dv_size _ _ _) rfl rfl rfl rfl ((HH5.setRow 1 rfl (dv 0 (fun _ => 0) (fun _ => 0))).at 1 rfl) ⟨rfl, (HH5.setRow 1 rfl (dv 0 (fun _ => 0) (fun _ => 0))).low⟩
  have hr : proR m f g k f' g' a b = .tuple #[.agg (dv (prL f g f' g' a b).length (upto (idxF (prL f g f' g' a b) (bF f f')) (prL f g f' g' a b).length) (upto (idxF (prL f g f' g' a b) (bF g g')) (prL f g f' g' a b).length)), .int .i64 0] := by
    unfold proR; rw [if_pos hdd, if_pos hxy]; simp only [Int.toNat_natCast]; rw [if_pos hlen]
  rw [hr]
  clear hr hx hy hdd h1 h2 hxy ha hb
  have C6 := hide fun (v : Value) (w : World) hv => product_any f g f' g' m k hd he (prL f g f' g' a b) hlen hL.1 hL.2.1 hL.2.2.1 v w hv
  generalize hLL : prL f g f' g' a b = L at *
  generalize upto (idxF L (bF f f')) L.length = U at *
  generalize upto (idxF L (bF g g')) L.length = V at *
  clear hLL hd he
  have hgt : decide (((L.length : Nat) : Int) > 16) = false := decide_eq_false (by omega)
  go_enter Try.func29, Try.ntmps29
  go_wp2_with fail
  try rw [← dv_zero]
  refine (C1.out _).mono ?_
  rintro e w1 ⟨rfl, hb1⟩
  have HH1 := HH0.call hb1
  clear hb1 HH0
  have cd1 := HH1.cells 2 rfl
  have ce1 := HH1.cells 1 rfl
  have cn1 := HH1.cell 2 rfl hn
  have cm1 := HH1.cell 1 rfl hm'
  have rr1 := HH1.rowOk 0 rfl (dv_size _ _ _)
  go_wp2_with fail
  refine (C2.out _).mono ?_
  rintro e w2 ⟨rfl, hb2⟩
  have HH2 := HH1.call hb2
  clear hb2 cd1 ce1 cn1 cm1 rr1 HH1
  have cd2 := HH2.cells 2 rfl
  have ce2 := HH2.cells 1 rfl
  have cn2 := HH2.cell 2 rfl hn
  have cm2 := HH2.cell 1 rfl hm'
  have rr2 := HH2.rowOk 0 rfl (dv_size _ _ _)
  go_wp2_with fail
  refine (C3.out _).mono ?_
  rintro e w3 ⟨rfl, hb3⟩
  have HH3 := HH2.call hb3
  clear hb3 cd2 ce2 cn2 cm2 rr2 HH2
  have cd3 := HH3.cells 2 rfl
  have ce3 := HH3.cells 1 rfl
  have cn3 := HH3.cell 2 rfl hn
  have cm3 := HH3.cell 1 rfl hm'
  have rr3 := HH3.rowOk 0 rfl (dv_size _ _ _)
  go_wp2_with fail
  refine (C4.out _).mono ?_
  rintro e w4 ⟨rfl, hb4⟩
  have HH4 := HH3.call hb4
  clear hb4 cd3 ce3 cn3 cm3 rr3 HH3
  have cd4 := HH4.cells 2 rfl
  have ce4 := HH4.cells 1 rfl
  have cn4 := HH4.cell 2 rfl hn
  have cm4 := HH4.cell 1 rfl hm'
  have rr4 := HH4.rowOk 0 rfl (dv_size _ _ _)
  go_wp2_with fail
  refine (C5.out _).mono ?_
  rintro e w5 ⟨v, rfl, hb5, ho5⟩
  have HH5 := HH4.newRow hb5 ho5
  clear hb5 ho5 cd4 ce4 cn4 cm4 rr4 HH4
  have cd5 := HH5.cells 3 rfl
  have ce5 := HH5.cells 2 rfl
  have cn5 := HH5.cell 3 rfl hn
  have cm5 := HH5.cell 2 rfl hm'
  have rr5 := HH5.rowOk 1 rfl (dv_size _ _ _)
  have hv : RdP w5 v (dec L) := by
    have := row_low (HH5.row 0 rfl) (Nat.zero_le _)
    unfold RdP; rw [dec_length]; exact this
  obtain ⟨A, c, rfl⟩ := own_slice (HH5.row 0 rfl)
  have HV := hide hv; clear hv
  go_wp2_with fail
  refine (C6.out _ _ HV.out).mono ?_
  rintro e w6 ⟨rfl, hb6⟩
  have HH6 := HH5.call hb6
  clear hb6 cd5 ce5 cn5 cm5 rr5 HH5
  have cd6 := HH6.cells 3 rfl
  have ce6 := HH6.cells 2 rfl
  have cn6 := HH6.cell 3 rfl hn
  have cm6 := HH6.cell 2 rfl hm'
  have rr6 := HH6.rowOk 1 rfl (dv_size _ _ _)
  go_wp2
  try rw [← dv_zero]
  exact res_agg2 (p := 8) (t := 9) (g := (w.heap.size + 1 + 1)) (v := .int .i64 0) aggD (dv_size _ _ _) rfl rfl rfl rfl ((HH6.setRow 1 rfl (dv L.length U V)).at 1 rfl) ⟨rfl, (HH6.setRow 1 rfl (dv L.length U V)).low⟩

set_option maxRecDepth 100000 in
set_option maxHeartbeats 4000000 in
theorem sProductAt_any (n : Int) (f g : Nat → Nat) (hf : ∀ i, f i < 256) (hg : ∀ i, g i < 256) (n' : Int) (f' g' : Nat → Nat) (hf' : ∀ i, f' i < 256) (hg' : ∀ i, g' i < 256) (x y : Int) (w : World) :
    Calls Try.prog 28 #[.agg (dv n f g), .agg (dv n' f' g'), .int .i64 x, .int .i64 y] w fun e w' => e = .returned (proR n f g n' f' g' x y) ∧ Below w.heap.size w w' := by
  have C1 := hide fun w => sBoth_any n f g hf hg n' f' g' hf' hg' w
  clear hf hg hf' hg'
  have HH0 := (((Holds.start w).blk (dv n f g) 30 w.heap.size rfl).blk (dv n' f' g') 30 (w.heap.size + 1) (by simp)).blk (dv 0 (fun _ => 0) (fun _ => 0)) 30 (w.heap.size + 1 + 1) (by simp)
  have hn := dv_n n f g
  have hm' := dv_n n' f' g'
  by_cases hde : desB n f g = true ∧ desB n' f' g' = true
  rotate_left
  · rw [if_neg hde] at C1
    have hr : proR n f g n' f' g' x y = (.tuple #[.agg (dv 0 (fun _ => 0) (fun _ => 0)), .int .i64 1]) := by unfold proR; rw [if_neg hde]
    rw [hr]
    clear hr hde
    go_enter Try.func28, Try.ntmps28
    go_wp2_with fail
    try rw [← dv_zero]
    refine (C1.out _).mono ?_
    rintro e w1 ⟨rfl, hb1⟩
    have HH1 := HH0.call hb1
    clear hb1 HH0
    have cd1 := HH1.cells 2 rfl
    have ce1 := HH1.cells 1 rfl
    have cn1 := HH1.cell 2 rfl hn
    have cm1 := HH1.cell 1 rfl hm'
    have rr1 := HH1.rowOk 0 rfl (dv_size _ _ _)
    go_wp2
    try rw [← dv_zero]
    exact res_agg2 (p := 8) (t := 9) (g := (w.heap.size + 1 + 1)) (v := .int .i64 1) aggD (dv_size _ _ _) rfl rfl rfl rfl ((HH1.setRow 0 rfl (dv 0 (fun _ => 0) (fun _ => 0))).at 0 rfl) ⟨rfl, (HH1.setRow 0 rfl (dv 0 (fun _ => 0) (fun _ => 0))).low⟩
  rw [if_pos hde] at C1
  obtain ⟨h1, h2⟩ := hde
  have hdd := And.intro h1 h2
  obtain ⟨m, rfl, hd⟩ := desB_true h1
  obtain ⟨k, rfl, he⟩ := desB_true h2
  have hm := hd.le
  have hk := he.le
  have C3 := hide fun w => inD_any x 0 ((m : Int) - 1) w
  have C4 := hide fun w => inD_any y 0 ((k : Int) - 1) w
  by_cases hx : 0 ≤ x ∧ x < (m : Int)
  rotate_left
  · rw [decide_eq_false (show ¬ (0 ≤ x ∧ x ≤ (m : Int) - 1) by omega)] at C3
    have hr : proR m f g k f' g' x y = (.tuple #[.agg (dv 0 (fun _ => 0) (fun _ => 0)), .int .i64 2]) := by unfold proR; rw [if_pos hdd, if_neg (fun h => hx h.1)]
    rw [hr]
    clear hr hx hdd h1 h2 hd he
    go_enter Try.func28, Try.ntmps28
    go_wp2_with fail
    try rw [← dv_zero]
    refine (C1.out _).mono ?_
    rintro e w1 ⟨rfl, hb1⟩
    have HH1 := HH0.call hb1
    clear hb1 HH0
    have cd1 := HH1.cells 2 rfl
    have ce1 := HH1.cells 1 rfl
    have cn1 := HH1.cell 2 rfl hn
    have cm1 := HH1.cell 1 rfl hm'
    have rr1 := HH1.rowOk 0 rfl (dv_size _ _ _)
    go_wp2_with fail
    refine (C3.out _).mono ?_
    rintro e w2 ⟨rfl, rfl⟩
    have HH2 := HH1
    clear cd1 ce1 cn1 cm1 rr1 HH1
    have cd2 := HH2.cells 2 rfl
    have ce2 := HH2.cells 1 rfl
    have cn2 := HH2.cell 2 rfl hn
    have cm2 := HH2.cell 1 rfl hm'
    have rr2 := HH2.rowOk 0 rfl (dv_size _ _ _)
    go_wp2
    try rw [← dv_zero]
    exact res_agg2 (p := 8) (t := 9) (g := (w.heap.size + 1 + 1)) (v := .int .i64 2) aggD (dv_size _ _ _) rfl rfl rfl rfl ((HH2.setRow 0 rfl (dv 0 (fun _ => 0) (fun _ => 0))).at 0 rfl) ⟨rfl, (HH2.setRow 0 rfl (dv 0 (fun _ => 0) (fun _ => 0))).low⟩
  rw [decide_eq_true (show 0 ≤ x ∧ x ≤ (m : Int) - 1 by omega)] at C3
  by_cases hy : 0 ≤ y ∧ y < (k : Int)
  rotate_left
  · rw [decide_eq_false (show ¬ (0 ≤ y ∧ y ≤ (k : Int) - 1) by omega)] at C4
    have hr : proR m f g k f' g' x y = (.tuple #[.agg (dv 0 (fun _ => 0) (fun _ => 0)), .int .i64 2]) := by unfold proR; rw [if_pos hdd, if_neg (fun h => hy h.2)]
    rw [hr]
    clear hr hx hy hdd h1 h2 hd he
    go_enter Try.func28, Try.ntmps28
    go_wp2_with fail
    try rw [← dv_zero]
    refine (C1.out _).mono ?_
    rintro e w1 ⟨rfl, hb1⟩
    have HH1 := HH0.call hb1
    clear hb1 HH0
    have cd1 := HH1.cells 2 rfl
    have ce1 := HH1.cells 1 rfl
    have cn1 := HH1.cell 2 rfl hn
    have cm1 := HH1.cell 1 rfl hm'
    have rr1 := HH1.rowOk 0 rfl (dv_size _ _ _)
    go_wp2_with fail
    refine (C3.out _).mono ?_
    rintro e w2 ⟨rfl, rfl⟩
    have HH2 := HH1
    clear cd1 ce1 cn1 cm1 rr1 HH1
    have cd2 := HH2.cells 2 rfl
    have ce2 := HH2.cells 1 rfl
    have cn2 := HH2.cell 2 rfl hn
    have cm2 := HH2.cell 1 rfl hm'
    have rr2 := HH2.rowOk 0 rfl (dv_size _ _ _)
    go_wp2_with fail
    refine (C4.out _).mono ?_
    rintro e w3 ⟨rfl, rfl⟩
    have HH3 := HH2
    clear cd2 ce2 cn2 cm2 rr2 HH2
    have cd3 := HH3.cells 2 rfl
    have ce3 := HH3.cells 1 rfl
    have cn3 := HH3.cell 2 rfl hn
    have cm3 := HH3.cell 1 rfl hm'
    have rr3 := HH3.rowOk 0 rfl (dv_size _ _ _)
    go_wp2
    try rw [← dv_zero]
    exact res_agg2 (p := 8) (t := 9) (g := (w.heap.size + 1 + 1)) (v := .int .i64 2) aggD (dv_size _ _ _) rfl rfl rfl rfl ((HH3.setRow 0 rfl (dv 0 (fun _ => 0) (fun _ => 0))).at 0 rfl) ⟨rfl, (HH3.setRow 0 rfl (dv 0 (fun _ => 0) (fun _ => 0))).low⟩
  rw [decide_eq_true (show 0 ≤ y ∧ y ≤ (k : Int) - 1 by omega)] at C4
  have hxy := And.intro hx hy
  obtain ⟨a, rfl⟩ := Int.eq_ofNat_of_zero_le hx.1
  obtain ⟨b, rfl⟩ := Int.eq_ofNat_of_zero_le hy.1
  have ha : a < m := by omega
  have hb : b < k := by omega
  have ha' : (a : Int) < 16 := by omega
  have hb' : (b : Int) < 16 := by omega
  have C5 := hide fun (w : World) => sPairs_any f g f' g' m k hd he a b (by omega) (by omega) w
  have hL := prL_inv hd he (x := a) (y := b) (by omega) (by omega)
  change Hid (∀ w : World, Calls Try.prog _ _ w fun e w' => ∃ v, e = .returned (.tuple #[v, .agg (nv (nmF (prL f g f' g' a b)))]) ∧ Below w.heap.size w w' ∧ w'.ownsRow w.heap.size 76 2 v (prL f g f' g' a b).length (pairB (dec (prL f g f' g' a b)))) at C5
  by_cases hlen : (prL f g f' g' a b).length ≤ 16
  rotate_left
  · have hr : proR m f g k f' g' a b = (.tuple #[.agg (dv 0 (fun _ => 0) (fun _ => 0)), .int .i64 3]) := by unfold proR; rw [if_pos hdd, if_pos hxy, if_neg (by simpa only [Int.toNat_natCast] using hlen)]
    rw [hr]
    clear hr hx hy hdd h1 h2 hd he hxy ha hb
    obtain ⟨L, hLe⟩ : ∃ L, L = prL f g f' g' a b := ⟨_, rfl⟩
    rw [← hLe] at C5 hL hlen
    clear hLe
    have hgt : decide (((L.length : Nat) : Int) > 16) = true := decide_eq_true (by omega)
    go_enter Try.func28, Try.ntmps28
    go_wp2_with fail
    try rw [← dv_zero]
    refine (C1.out _).mono ?_
    rintro e w1 ⟨rfl, hb1⟩
    have HH1 := HH0.call hb1
    clear hb1 HH0
    have cd1 := HH1.cells 2 rfl
    have ce1 := HH1.cells 1 rfl
    have cn1 := HH1.cell 2 rfl hn
    have cm1 := HH1.cell 1 rfl hm'
    have rr1 := HH1.rowOk 0 rfl (dv_size _ _ _)
    go_wp2_with fail
    refine (C3.out _).mono ?_
    rintro e w2 ⟨rfl, rfl⟩
    have HH2 := HH1
    clear cd1 ce1 cn1 cm1 rr1 HH1
    have cd2 := HH2.cells 2 rfl
    have ce2 := HH2.cells 1 rfl
    have cn2 := HH2.cell 2 rfl hn
    have cm2 := HH2.cell 1 rfl hm'
    have rr2 := HH2.rowOk 0 rfl (dv_size _ _ _)
    go_wp2_with fail
    refine (C4.out _).mono ?_
    rintro e w3 ⟨rfl, rfl⟩
    have HH3 := HH2
    clear cd2 ce2 cn2 cm2 rr2 HH2
    have cd3 := HH3.cells 2 rfl
    have ce3 := HH3.cells 1 rfl
    have cn3 := HH3.cell 2 rfl hn
    have cm3 := HH3.cell 1 rfl hm'
    have rr3 := HH3.rowOk 0 rfl (dv_size _ _ _)
    go_wp2_with fail
    refine (C5.out _).mono ?_
    rintro e w4 ⟨v, rfl, hb4, ho5⟩
    have HH4 := HH3.newRow hb4 ho5
    clear hb4 ho5 cd3 ce3 cn3 cm3 rr3 HH3
    have cd4 := HH4.cells 3 rfl
    have ce4 := HH4.cells 2 rfl
    have cn4 := HH4.cell 3 rfl hn
    have cm4 := HH4.cell 2 rfl hm'
    have rr4 := HH4.rowOk 1 rfl (dv_size _ _ _)
    obtain ⟨A, c, rfl⟩ := own_slice (HH4.row 0 rfl)
    have zz := zeroN
    go_wp2_with fail
    have HH5 := HH4.blk (nv (nmF L)) 73 w4.heap.size rfl
    clear zz cd4 ce4 cn4 cm4 rr4 HH4
    generalize w4.alloc (.cells (nv (nmF L)) 73) = w5 at *
    generalize w4.heap.size = G5 at *
    have rr5 := HH5.rowOk 2 rfl (dv_size _ _ _)
    go_simp
    go_wp2
    try rw [← dv_zero]
    exact res_agg2 (p := 8) (t := 9) (g := (w.heap.size + 1 + 1)) (v := .int .i64 3) aggD (dv_size _ _ _) rfl rfl rfl rfl ((HH5.setRow 2 rfl (dv 0 (fun _ => 0) (fun _ => 0))).at 2 rfl) ⟨rfl, (HH5.setRow 2 rfl (dv 0 (fun _ => 0) (fun _ => 0))).low⟩
  have hr : proR m f g k f' g' a b = .tuple #[.agg (dv (prL f g f' g' a b).length (upto (idxF (prL f g f' g' a b) (bF f f')) (prL f g f' g' a b).length) (upto (idxF (prL f g f' g' a b) (bF g g')) (prL f g f' g' a b).length)), .int .i64 0] := by
    unfold proR; rw [if_pos hdd, if_pos hxy]; simp only [Int.toNat_natCast]; rw [if_pos hlen]
  rw [hr]
  clear hr hx hy hdd h1 h2 hxy ha hb
  have hI := hL
  generalize hLL : prL f g f' g' a b = L at *
  clear hLL
  have HL := hide hL; clear hL
  have HP := hide (And.intro (And.intro hd.black hd.white) (And.intro he.black he.white)); clear hd he
  have hgt : decide (((L.length : Nat) : Int) > 16) = false := decide_eq_false (by omega)
  go_enter Try.func28, Try.ntmps28
  go_wp2_with fail
  try rw [← dv_zero]
  refine (C1.out _).mono ?_
  rintro e w1 ⟨rfl, hb1⟩
  have HH1 := HH0.call hb1
  clear hb1 HH0
  have cd1 := HH1.cells 2 rfl
  have ce1 := HH1.cells 1 rfl
  have cn1 := HH1.cell 2 rfl hn
  have cm1 := HH1.cell 1 rfl hm'
  have rr1 := HH1.rowOk 0 rfl (dv_size _ _ _)
  go_wp2_with fail
  refine (C3.out _).mono ?_
  rintro e w2 ⟨rfl, rfl⟩
  have HH2 := HH1
  clear cd1 ce1 cn1 cm1 rr1 HH1
  have cd2 := HH2.cells 2 rfl
  have ce2 := HH2.cells 1 rfl
  have cn2 := HH2.cell 2 rfl hn
  have cm2 := HH2.cell 1 rfl hm'
  have rr2 := HH2.rowOk 0 rfl (dv_size _ _ _)
  go_wp2_with fail
  refine (C4.out _).mono ?_
  rintro e w3 ⟨rfl, rfl⟩
  have HH3 := HH2
  clear cd2 ce2 cn2 cm2 rr2 HH2
  have cd3 := HH3.cells 2 rfl
  have ce3 := HH3.cells 1 rfl
  have cn3 := HH3.cell 2 rfl hn
  have cm3 := HH3.cell 1 rfl hm'
  have rr3 := HH3.rowOk 0 rfl (dv_size _ _ _)
  go_wp2_with fail
  refine (C5.out _).mono ?_
  rintro e w4 ⟨v, rfl, hb4, ho5⟩
  have HH4 := HH3.newRow hb4 ho5
  clear hb4 ho5 cd3 ce3 cn3 cm3 rr3 HH3
  have cd4 := HH4.cells 3 rfl
  have ce4 := HH4.cells 2 rfl
  have cn4 := HH4.cell 3 rfl hn
  have cm4 := HH4.cell 2 rfl hm'
  have rr4 := HH4.rowOk 1 rfl (dv_size _ _ _)
  obtain ⟨A, c, rfl⟩ := own_slice (HH4.row 0 rfl)
  have zz := zeroN
  have hz := dv_lit ((L.length : Nat) : Int)
  have HZ := hide hz; clear hz
  have ho := (ones_dv ((L.length : Nat) : Int) (fun _ => 0) (fun _ => 0)).2 trivial
  rw [HZ.out] at ho
  go_wp2_with fail
  try rw [← HZ.out]
  clear zz ho cd4 ce4 cn4 cm4 rr4
  have hrow := HH4.at 0 rfl
  have HHs : Holds w w4 [pPairsB (.slice A L.length c) (dec L), pBlk (w.heap.size + 1 + 1) (dv 0 (fun _ => 0) (fun _ => 0)) 30, pBlk (w.heap.size + 1) (dv k f' g') 30, pBlk w.heap.size (dv m f g) 30] := by
    unfold pPairsB; rw [dec_length]; exact HH4
  have HHt := (HHs.blk (nv (nmF L)) 73 w4.heap.size rfl).blk (dv L.length (fun _ => 0) (fun _ => 0)) 30 (w4.heap.size + 1) (by simp)
  clear HH4 HHs hrow
  generalize (w4.alloc (.cells (nv (nmF L)) 73)).alloc (.cells (dv L.length (fun _ => 0) (fun _ => 0)) 30) = wd at *
  generalize w4.heap.size + 1 = G6 at *
  generalize w4.heap.size = G5 at *
  go_loopw [14] (fun t wr => ∃ j : Nat, j ≤ L.length ∧ t = .int .i64 j ∧ Holds w wr [pBlk G6 (dv L.length (upto (idxF L (bF f f')) j) (upto (idxF L (bF g g')) j)) 30, pBlk G5 (nv (nmF L)) 73, pPairsB (.slice A L.length c) (dec L), pBlk (w.heap.size + 1 + 1) (dv 0 (fun _ => 0) (fun _ => 0)) 30, pBlk (w.heap.size + 1) (dv k f' g') 30, pBlk w.heap.size (dv m f g) 30]) (fun t _ => L.length - (intOf t).toNat)
  case atStart => exact ⟨0, by omega, rfl, by rw [upto_zero, upto_zero]; exact HHt⟩
  case round =>
    clear HHt
    obtain ⟨j, hj, rfl, hH⟩ := hrel
    by_cases hjl : j < L.length
    · obtain ⟨g0, c0, e0, _, y1, y2⟩ := hH.pairsB 2 rfl (k := j) (by rw [dec_length]; exact hjl)
      injection e0 with e0 e1 e2
      subst e0
      clear e1 e2
      rw [dec_at hjl] at y1 y2
      have hg : L.getD j 0 = L[j] := by rw [List.getD_eq_getElem?_getD, List.getElem?_eq_getElem hjl]; rfl
      rw [← hg] at y1 y2
      obtain ⟨p, hp⟩ : ∃ p, p = L.getD j 0 / 16 := ⟨_, rfl⟩
      obtain ⟨q, hq⟩ : ∃ q, q = L.getD j 0 % 16 := ⟨_, rfl⟩
      rw [← hp] at y1
      rw [← hq] at y2
      have hmz : L.getD j 0 ∈ L := by rw [hg]; exact List.getElem_mem hjl
      have hz := HL.out.2.1 _ hmz
      have hc := HL.out.2.2.1 _ hmz
      have hp16 : p < 16 := by omega
      have hq16 : q < 16 := by omega
      have hp' : (p : Int) < 16 := by omega
      have hq' : (q : Int) < 16 := by omega
      have hj' : (j : Int) < 16 := by omega
      have hfp := HP.out.1.1.lt16 hp16
      have hgp := HP.out.1.2.lt16 hp16
      have hfq := HP.out.2.1.lt16 hq16
      have hgq := HP.out.2.2.lt16 hq16
      have eB : f p * 16 + f' q = bF f f' (L.getD j 0) := by
        have h1 := bF_1 (p := f) (q := f') (z := L.getD j 0) (by rw [← hq]; exact hfq)
        have h2 := bF_2 (p := f) (q := f') (z := L.getD j 0) (by rw [← hq]; exact hfq)
        rw [← hp] at h1; rw [← hq] at h2; omega
      have eW : g p * 16 + g' q = bF g g' (L.getD j 0) := by
        have h1 := bF_1 (p := g) (q := g') (z := L.getD j 0) (by rw [← hq]; exact hgq)
        have h2 := bF_2 (p := g) (q := g') (z := L.getD j 0) (by rw [← hq]; exact hgq)
        rw [← hp] at h1; rw [← hq] at h2; omega
      have iB : nmF L (f p * 16 + f' q) = ((idxF L (bF f f') j : Nat) : Int) := by rw [eB]; unfold nmF idxF; rw [if_pos hc.1]
      have iW : nmF L (g p * 16 + g' q) = ((idxF L (bF g g') j : Nat) : Int) := by rw [eW]; unfold nmF idxF; rw [if_pos hc.2]
      have lB : idxF L (bF f f') j < L.length := List.idxOf_lt_length_of_mem hc.1
      have lW : idxF L (bF g g') j < L.length := List.idxOf_lt_length_of_mem hc.2
      have s1 := upto_step (idxF L (bF f f')) j
      have s2 := upto_step (idxF L (bF g g')) j
      have nB : (nv (nmF L))[f p * 16 + f' q]? = some (.int .i64 ((idxF L (bF f f') j : Nat) : Int)) := by rw [nv_get _ (by omega), iB]
      have nW : (nv (nmF L))[g p * 16 + g' q]? = some (.int .i64 ((idxF L (bF g g') j : Nat) : Int)) := by rw [nv_get _ (by omega), iW]
      generalize idxF L (bF f f') j = vB at *
      generalize idxF L (bF g g') j = vW at *
      have lB' : (vB : Int) < 256 := by omega
      have lW' : (vW : Int) < 256 := by omega
      have hf16 : ((f p : Nat) : Int) < 16 := by omega
      have hg16 : ((g p : Nat) : Int) < 16 := by omega
      have hf16' : ((f' q : Nat) : Int) < 16 := by omega
      have hg16' : ((g' q : Nat) : Int) < 16 := by omega
      have SS := hide (And.intro s1 s2); clear s1 s2
      have NN := hide (And.intro nB nW); clear nB nW
      clear hp hq hmz hz hc eB eW iB iW hg
      generalize upto (idxF L (bF f f')) j = U1 at *
      generalize upto (idxF L (bF g g')) j = U2 at *
      generalize hV1 : upto (idxF L (bF f f')) (j + 1) = V1 at *
      generalize hV2 : upto (idxF L (bF g g')) (j + 1) = V2 at *
      have HV := hide (And.intro hV1 hV2); clear hV1 hV2
      have hHb := hH.blk #[.int .u8 (p : Nat), .int .u8 (q : Nat)] 76 wr.heap.size rfl
      have hj16 : j < 16 := by omega
      go_wp2
      clear y1 y2 hH
      generalize wr.alloc (.cells #[.int .u8 (p : Nat), .int .u8 (q : Nat)] 76) = wo at *
      generalize wr.heap.size = G7 at *
      refine region_tail (fun wx => Holds w wx _) 17 (by kernel_rfl) (by kernel_rfl) hHb.drew ?_
      simp only [List.take_succ_cons, List.take_zero, List.drop_succ_cons, List.drop_zero]
      iterate 17
        apply q_step
        · go_simp
        · intro wx hx
          have q1 := hx.cell 0 (j := 0) rfl rfl
          have q2 := hx.cell 0 (j := 1) rfl rfl
          have c3 := hx.cell 6 rfl (dv_b m f g hp16)
          have c4 := hx.cell 5 rfl (dv_b k f' g' hq16)
          have c5 := hx.cell 2 rfl NN.out.1
          go_simp
          try exact rfl
      refine wpQuiet_nil ?_
      intro w6 hx6
      have r1 := hx6.cell 1 rfl (dv_b L.length U1 U2 hj16)
      have r2 := hx6.frozen 1 rfl (1 + j)
      have hS := hx6.set 1 rfl (1 + j) (.int .u8 (vB : Nat))
      rw [dv_setb _ _ _ _ hj16, SS.out.1] at hS
      replace hS : Holds w (w6.setCell ⟨G6, 1 + j, none⟩ (.int .u8 (vB : Nat))) [pBlk G7 #[.int .u8 (p : Nat), .int .u8 (q : Nat)] 76, pBlk G6 (dv L.length V1 U2) 30, pBlk G5 (nv (nmF L)) 73, pPairsB (.slice (some ⟨g0, 0, none⟩) L.length c) (dec L), pBlk (w.heap.size + 1 + 1) (dv 0 (fun _ => 0) (fun _ => 0)) 30, pBlk (w.heap.size + 1) (dv k f' g') 30, pBlk w.heap.size (dv m f g) 30] := hS
      clear hHb
      go_wp2_with fail
      clear r1 r2 hx6
      generalize w6.setCell ⟨G6, 1 + j, none⟩ (.int .u8 (vB : Nat)) = w7 at *
      refine region_tail (fun wx => Holds w wx _) 17 (by kernel_rfl) (by kernel_rfl) hS.drew ?_
      simp only [List.take_succ_cons, List.take_zero, List.drop_succ_cons, List.drop_zero]
      iterate 17
        apply q_step
        · go_simp
        · intro wx hx
          have q1 := hx.cell 0 (j := 0) rfl rfl
          have q2 := hx.cell 0 (j := 1) rfl rfl
          have c3 := hx.cell 6 rfl (dv_w m f g hp16)
          have c4 := hx.cell 5 rfl (dv_w k f' g' hq16)
          have c5 := hx.cell 2 rfl NN.out.2
          go_simp
          try exact rfl
      refine wpQuiet_nil ?_
      intro w8 hx8
      have r1 := hx8.cell 1 rfl (dv_w L.length V1 U2 hj16)
      have r2 := hx8.frozen 1 rfl (17 + j)
      have hT := hx8.set 1 rfl (17 + j) (.int .u8 (vW : Nat))
      rw [dv_setw _ _ _ _ hj16, SS.out.2] at hT
      clear hS
      go_wp2
      clear r1 r2 hx8
      go_roundw
      case rel =>
        refine ⟨j + 1, by omega, by go_num, ?_⟩
        rw [HV.out.1, HV.out.2]
        exact hT.tail
      case measure => simp [intOf]; omega
    · obtain ⟨K, hK⟩ : ∃ K, K = L.length := ⟨_, rfl⟩
      obtain rfl : j = K := by omega
      subst hK
      have cc := hH.cells 0 rfl
      have rr := hH.rowOk 3 rfl (dv_size _ _ _)
      clear hj hjl
      go_wp2
      have H2 := hH.setRow 3 rfl (dv L.length (upto (idxF L (bF f f')) L.length) (upto (idxF L (bF g g')) L.length))
      exact res_agg2 (p := 8) (t := 9) (g := (w.heap.size + 1 + 1)) (v := .int .i64 0) aggD (dv_size _ _ _) rfl rfl rfl rfl (H2.at 3 rfl) ⟨rfl, H2.low⟩

set_option maxRecDepth 100000 in
set_option maxHeartbeats 1000000 in
theorem fnExactProductAt_walk (n : Int) (f g : Nat → Nat) (_hn : -9223372036854775808 ≤ n ∧ n ≤ 9223372036854775807) (hf : ∀ i, f i < 256) (hg : ∀ i, g i < 256) (n' : Int) (f' g' : Nat → Nat) (_hn' : -9223372036854775808 ≤ n' ∧ n' ≤ 9223372036854775807) (hf' : ∀ i, f' i < 256) (hg' : ∀ i, g' i < 256) (x : Int) (_hx : -9223372036854775808 ≤ x ∧ x ≤ 9223372036854775807) (y : Int) (_hy : -9223372036854775808 ≤ y ∧ y ≤ 9223372036854775807) (w : World) :
    Calls Try.prog 7 #[.agg (dv n f g), .agg (dv n' f' g'), .int .i64 x, .int .i64 y] w fun e w' => e = .returned (.bool true) ∧ Below w.heap.size w w' := by
  obtain ⟨a, r, s, c, hR⟩ := proR_eq n f g n' f' g' x y
  have c1 := fun w => productAt_any n f g hf hg n' f' g' hf' hg' x y w
  have c2 := fun w => sProductAt_any n f g hf hg n' f' g' hf' hg' x y w
  rw [hR] at c1 c2
  have C1 := hide c1; clear c1
  have C2 := hide c2; clear c2
  have T0 := hide fun w => toDessin_any n f g w
  have T1 := hide fun w => toDessin_any n' f' g' w
  clear hR hf hg _hn hf' hg' _hn' _hx _hy
  have hne : (c != c) = false := by simp
  go_enter Try.func7, Try.ntmps7
  go_wp2
  generalize hW : ((w.alloc (.cells (dv n f g) 24)).alloc (.cells (dv n' f' g') 24)) = W
  have y0 : cellsOf W w.heap.size = dv n f g := by rw [← hW]; exact cellsOf_heap (heap1 (by simp))
  have k0 : w.heap.size < W.heap.size := by rw [← hW]; simp <;> omega
  have y1 : cellsOf W (w.heap.size + 1) = dv n' f' g' := by rw [← hW]; exact cellsOf_heap (heap_at _ _ _ (by simp))
  have k1 : (w.heap.size + 1) < W.heap.size := by rw [← hW]; simp <;> omega
  have b0 : Below w.heap.size w W := by rw [← hW]; exact below2 _ _ _
  clear hW
  refine region_V (w := W) (fun k => if k = 10 then some (fun _ => newR W.heap.size 33) else none) (fun k => k == 11) [10, 11] (.q 0 <| .q 1 <| .q 2 <| .q 3 <| .q 4 <| .q 5 <| .q 6 <| .q 7 <| .q 8 <| .q 9 <| .s1 10 <| .s1 11 <| .q 12 .fin) (by kernel_rfl) (by kernel_rfl) (by kernel_rfl) (fun k hk => ?_) ?_
  · simp at hk; simp [hk]
  apply v_other
  · simp only [List.getElem?_toArray, List.getElem?_cons_zero, List.getElem?_cons_succ]; exact rfl
  · rfl
  · rfl
  · go_simp
  · intro wx hx
    have e0 := hx.cells y0 k0
    have e1 := hx.cells y1 k1
    unfold atG
    go_simp
    simp only [uponG]
    exact ⟨by trivial, rfl⟩
  apply v_other
  · simp only [List.getElem?_toArray, List.getElem?_cons_zero, List.getElem?_cons_succ]; exact rfl
  · rfl
  · rfl
  · go_simp
  · intro wx hx
    have e0 := hx.cells y0 k0
    have e1 := hx.cells y1 k1
    unfold atG
    go_simp
    simp only [uponG]
    exact ⟨by trivial, T0.out wx⟩
  apply v_other
  · simp only [List.getElem?_toArray, List.getElem?_cons_zero, List.getElem?_cons_succ]; exact rfl
  · rfl
  · rfl
  · go_simp
  · intro wx hx
    have e0 := hx.cells y0 k0
    have e1 := hx.cells y1 k1
    unfold atG
    go_simp
    simp only [uponG]
    exact ⟨by trivial, rfl⟩
  apply v_other
  · simp only [List.getElem?_toArray, List.getElem?_cons_zero, List.getElem?_cons_succ]; exact rfl
  · rfl
  · rfl
  · go_simp
  · intro wx hx
    have e0 := hx.cells y0 k0
    have e1 := hx.cells y1 k1
    unfold atG
    go_simp
    simp only [uponG]
    exact ⟨by trivial, T1.out wx⟩
  apply v_other
  · simp only [List.getElem?_toArray, List.getElem?_cons_zero, List.getElem?_cons_succ]; exact rfl
  · rfl
  · rfl
  · go_simp
  · intro wx hx
    have e0 := hx.cells y0 k0
    have e1 := hx.cells y1 k1
    unfold atG
    go_simp
    simp only [uponG]
    exact ⟨by trivial, rfl⟩
  apply v_other
  · simp only [List.getElem?_toArray, List.getElem?_cons_zero, List.getElem?_cons_succ]; exact rfl
  · rfl
  · rfl
  · go_simp
  · intro wx hx
    have e0 := hx.cells y0 k0
    have e1 := hx.cells y1 k1
    unfold atG
    go_simp
    simp only [uponG]
    exact ⟨by trivial, rfl⟩
  apply v_other
  · simp only [List.getElem?_toArray, List.getElem?_cons_zero, List.getElem?_cons_succ]; exact rfl
  · rfl
  · rfl
  · go_simp
  · intro wx hx
    have e0 := hx.cells y0 k0
    have e1 := hx.cells y1 k1
    unfold atG
    go_simp
    simp only [uponG]
    exact ⟨by trivial, C2.out wx⟩
  apply v_other
  · simp only [List.getElem?_toArray, List.getElem?_cons_zero, List.getElem?_cons_succ]; exact rfl
  · rfl
  · rfl
  · go_simp
  · intro wx hx
    have e0 := hx.cells y0 k0
    have e1 := hx.cells y1 k1
    unfold atG
    go_simp
    simp only [uponG]
    exact ⟨by trivial, rfl⟩
  apply v_other
  · simp only [List.getElem?_toArray, List.getElem?_cons_zero, List.getElem?_cons_succ]; exact rfl
  · rfl
  · rfl
  · go_simp
  · intro wx hx
    have e0 := hx.cells y0 k0
    have e1 := hx.cells y1 k1
    unfold atG
    go_simp
    simp only [uponG]
    exact ⟨by trivial, rfl⟩
  apply v_other
  · simp only [List.getElem?_toArray, List.getElem?_cons_zero, List.getElem?_cons_succ]; exact rfl
  · rfl
  · rfl
  · go_simp
  · intro wx hx
    have e0 := hx.cells y0 k0
    have e1 := hx.cells y1 k1
    unfold atG
    go_simp
    simp only [uponG]
    exact ⟨by trivial, rfl⟩
  refine v_E (by simp only [List.getElem?_toArray, List.getElem?_cons_zero, List.getElem?_cons_succ]; exact rfl) rfl (by go_simp) (fun wx hx _ => ?_) ?_
  · go_simp
    simp only [uponE]
    refine ⟨(Below.refl _ _).alloc (Nat.le_refl _) _, wx.heap.size, rfl, hx.size, ?_⟩
    exact ⟨_, _, heap_at _ _ _ rfl, by first | rfl | simp⟩
  rintro vg ⟨_, _, _, g1, rfl, hg, _⟩
  refine v_S g1 33 (dv a r s) (by simp only [List.getElem?_toArray, List.getElem?_cons_zero, List.getElem?_cons_succ]; exact rfl) rfl rfl (by go_simp) (fun wx hx => (newR.at hx).2) hg (fun wx hx hr => by go_simp) ?_
  apply v_other
  · simp only [List.getElem?_toArray, List.getElem?_cons_zero, List.getElem?_cons_succ]; exact rfl
  · rfl
  · rfl
  · go_simp
  · intro wx hx
    unfold atG
    go_simp
    simp only [uponG]
    exact ⟨by trivial, rfl⟩
  rintro w1 hx ⟨wy, hn, k1', k2'⟩
  obtain ⟨a0, _, a1⟩ := stored (newR.at hn).2 (dv_size _ _ _) k2'
  have s1 := hx.size
  have b1 : Below w.heap.size w w1 := b0.trans (Below.mono hx b0.size)
  have z0 := hx.cells y0 k0
  have m0 := Nat.lt_of_lt_of_le k0 s1
  have z1 := hx.cells y1 k1
  have m1 := Nat.lt_of_lt_of_le k1 s1
  clear k1' k2' hn b0 hx hg s1 y0 k0 y1 k1
  have y0 := z0; have k0 := m0
  clear z0 m0
  have y1 := z1; have k1 := m1
  clear z1 m1
  go_wp2_with fail
  refine region_V (w := w1) (fun k => if k = 10 then some (fun _ => newR w1.heap.size 33) else none) (fun k => k == 11) [10, 11] (.q 0 <| .q 1 <| .q 2 <| .q 3 <| .q 4 <| .q 5 <| .q 6 <| .q 7 <| .q 8 <| .q 9 <| .s1 10 <| .s1 11 <| .q 12 .fin) (by kernel_rfl) (by kernel_rfl) (by kernel_rfl) (fun k hk => ?_) ?_
  · simp at hk; simp [hk]
  apply v_other
  · simp only [List.getElem?_toArray, List.getElem?_cons_zero, List.getElem?_cons_succ]; exact rfl
  · rfl
  · rfl
  · go_simp
  · intro wx hx
    have e0 := hx.cells y0 k0
    have e1 := hx.cells y1 k1
    unfold atG
    go_simp
    simp only [uponG]
    exact ⟨by trivial, rfl⟩
  apply v_other
  · simp only [List.getElem?_toArray, List.getElem?_cons_zero, List.getElem?_cons_succ]; exact rfl
  · rfl
  · rfl
  · go_simp
  · intro wx hx
    have e0 := hx.cells y0 k0
    have e1 := hx.cells y1 k1
    unfold atG
    go_simp
    simp only [uponG]
    exact ⟨by trivial, T0.out wx⟩
  apply v_other
  · simp only [List.getElem?_toArray, List.getElem?_cons_zero, List.getElem?_cons_succ]; exact rfl
  · rfl
  · rfl
  · go_simp
  · intro wx hx
    have e0 := hx.cells y0 k0
    have e1 := hx.cells y1 k1
    unfold atG
    go_simp
    simp only [uponG]
    exact ⟨by trivial, rfl⟩
  apply v_other
  · simp only [List.getElem?_toArray, List.getElem?_cons_zero, List.getElem?_cons_succ]; exact rfl
  · rfl
  · rfl
  · go_simp
  · intro wx hx
    have e0 := hx.cells y0 k0
    have e1 := hx.cells y1 k1
    unfold atG
    go_simp
    simp only [uponG]
    exact ⟨by trivial, T1.out wx⟩
  apply v_other
  · simp only [List.getElem?_toArray, List.getElem?_cons_zero, List.getElem?_cons_succ]; exact rfl
  · rfl
  · rfl
  · go_simp
  · intro wx hx
    have e0 := hx.cells y0 k0
    have e1 := hx.cells y1 k1
    unfold atG
    go_simp
    simp only [uponG]
    exact ⟨by trivial, rfl⟩
  apply v_other
  · simp only [List.getElem?_toArray, List.getElem?_cons_zero, List.getElem?_cons_succ]; exact rfl
  · rfl
  · rfl
  · go_simp
  · intro wx hx
    have e0 := hx.cells y0 k0
    have e1 := hx.cells y1 k1
    unfold atG
    go_simp
    simp only [uponG]
    exact ⟨by trivial, rfl⟩
  apply v_other
  · simp only [List.getElem?_toArray, List.getElem?_cons_zero, List.getElem?_cons_succ]; exact rfl
  · rfl
  · rfl
  · go_simp
  · intro wx hx
    have e0 := hx.cells y0 k0
    have e1 := hx.cells y1 k1
    unfold atG
    go_simp
    simp only [uponG]
    exact ⟨by trivial, C1.out wx⟩
  apply v_other
  · simp only [List.getElem?_toArray, List.getElem?_cons_zero, List.getElem?_cons_succ]; exact rfl
  · rfl
  · rfl
  · go_simp
  · intro wx hx
    have e0 := hx.cells y0 k0
    have e1 := hx.cells y1 k1
    unfold atG
    go_simp
    simp only [uponG]
    exact ⟨by trivial, rfl⟩
  apply v_other
  · simp only [List.getElem?_toArray, List.getElem?_cons_zero, List.getElem?_cons_succ]; exact rfl
  · rfl
  · rfl
  · go_simp
  · intro wx hx
    have e0 := hx.cells y0 k0
    have e1 := hx.cells y1 k1
    unfold atG
    go_simp
    simp only [uponG]
    exact ⟨by trivial, rfl⟩
  apply v_other
  · simp only [List.getElem?_toArray, List.getElem?_cons_zero, List.getElem?_cons_succ]; exact rfl
  · rfl
  · rfl
  · go_simp
  · intro wx hx
    have e0 := hx.cells y0 k0
    have e1 := hx.cells y1 k1
    unfold atG
    go_simp
    simp only [uponG]
    exact ⟨by trivial, rfl⟩
  refine v_E (by simp only [List.getElem?_toArray, List.getElem?_cons_zero, List.getElem?_cons_succ]; exact rfl) rfl (by go_simp) (fun wx hx _ => ?_) ?_
  · go_simp
    simp only [uponE]
    refine ⟨(Below.refl _ _).alloc (Nat.le_refl _) _, wx.heap.size, rfl, hx.size, ?_⟩
    exact ⟨_, _, heap_at _ _ _ rfl, by first | rfl | simp⟩
  rintro vg ⟨_, _, _, g2, rfl, hg, _⟩
  refine v_S g2 33 (dv a r s) (by simp only [List.getElem?_toArray, List.getElem?_cons_zero, List.getElem?_cons_succ]; exact rfl) rfl rfl (by go_simp) (fun wx hx => (newR.at hx).2) hg (fun wx hx hr => by go_simp) ?_
  apply v_other
  · simp only [List.getElem?_toArray, List.getElem?_cons_zero, List.getElem?_cons_succ]; exact rfl
  · rfl
  · rfl
  · go_simp
  · intro wx hx
    unfold atG
    go_simp
    simp only [uponG]
    exact ⟨by trivial, rfl⟩
  rintro w2 hx ⟨wy, hn, k1', k2'⟩
  obtain ⟨x0, _, x1⟩ := stored (newR.at hn).2 (dv_size _ _ _) k2'
  have y9 := hx.cells a0 a1
  have b2 : Below w.heap.size w w2 := b1.trans (Below.mono hx b1.size)
  have k9 : g1 < w2.heap.size := Nat.lt_of_lt_of_le a1 hx.size
  clear k1' k2' hn b1 hx hg a0 a1 y0 k0 y1 k1
  go_wp2_with fail
  refine (eqDessin_same a r s _).mono ?_
  rintro e w5 ⟨rfl, h5⟩
  have b5 := b2.trans (h5.mono b2.size)
  clear h5
  go_wp2
  go_ret
  exact ⟨rfl, b5⟩
end Go.Proofs.Ytjhpkibeddnbfaa

namespace Go.Proofs.Ytjhpkibeddnbfaa
open Go.RowKit

theorem own1_form {B : Nat} {w : World} {v : Value} {l : List Nat} (h : Own1 B w v l) : ∃ A c, v = .slice A l.length c ∧ Own1 B w (.slice A l.length c) l := by
  obtain ⟨A, c, rfl⟩ := own_slice h
  exact ⟨A, c, rfl, h⟩
theorem Own1.below {B C : Nat} {w w' : World} {v : Value} {l : List Nat} (h : Own1 B w v l) (hb : Below C w w') (hC : w.heap.size ≤ C) : Own1 B w' v l := h.kept (grown_of_below (hb.mono hC) none) (Classical.em _)
theorem Own1.lower {B C : Nat} {w w' : World} {v : Value} {l : List Nat} (h : Own1 B w v l) (hb : Below C w w') (hC : ∀ k, v.ownBlock = some k → k < C) : Own1 B w' v l := by
  refine ⟨h.1, ?_⟩
  rcases h.2 with c | ⟨g, cap, cur, rfl, h1, h2, h3⟩
  · exact .inl c
  · exact .inr ⟨g, cap, cur, rfl, h1, by rw [hb.block g (hC g rfl)]; exact h2, h3⟩
theorem Own1.low {B : Nat} {w : World} {v : Value} {l : List Nat} (h : Own1 B w v l) : ∀ k, v.ownBlock = some k → k < w.heap.size := fun k hk => (World.ownsRow.lt h k hk).2
theorem mk1 (l : List Nat) (A : Option Addr) (c B : Nat) (hl : l.length ≤ 1000000) (w : World) (hBw : B ≤ w.heap.size) (h : Own1 B w (.slice A l.length c) l) :
    Calls Try.prog 34 #[.slice A l.length c, .int .i64 1] w fun e w' => e = .returned (.int .i64 (1 + l.length : Nat)) ∧ Below B w w' ∧ w.heap.size ≤ w'.heap.size ∧ Own1 B w' (.slice A l.length c) (marks 1 l.length) :=
  (markInt64S_any l A c B 1 (by omega) (by omega) w h).mono fun e w' ⟨h1, h2, h3⟩ => ⟨h1, (Below.refl B w).grown h2 hBw (fun g hg => (World.ownsRow.lt h g hg).1), h2.size, h3⟩
theorem hd1 (l : List Nat) (A : Option Addr) (c B : Nat) (hl : l.length ≤ 1000000) (w : World) (h : Own1 B w (.slice A l.length c) (marks 1 l.length)) :
    Calls Try.prog 35 #[.slice A l.length c, .int .i64 1] w fun e w' => e = .returned (.int .i64 (1 + l.length : Nat)) ∧ Below w.heap.size w w' :=
  heldInt64S_any l.length A c B 1 (by omega) (by omega) w h
end Go.Proofs.Ytjhpkibeddnbfaa

namespace Go.Proofs.Ytjhpkibeddnbfaa
open Go.RowKit

/-- the morphisms that give the dart 0 one of the first darts -/
def morT (f g f' g' : Nat → Nat) (m : Nat) : Nat → List (List Nat)
  | 0 => []
  | y + 1 => if (bfs (bF f f') (bF g g') y 256).1.length = m then morT f g f' g' m y ++ [morL (bfs (bF f f') (bF g g') y 256).1 m] else morT f g f' g' m y
theorem morT_le (f g f' g' : Nat → Nat) (m y : Nat) : (morT f g f' g' m y).length ≤ y ∧ ∀ l ∈ morT f g f' g' m y, l.length = m := by
  induction y with
  | zero => exact ⟨Nat.le_refl _, fun l h => by simp [morT] at h⟩
  | succ y ih =>
    rw [morT]
    split
    · refine ⟨by rw [List.length_append]; simp only [List.length_cons, List.length_nil]; omega, fun l h => ?_⟩
      rcases List.mem_append.1 h with h | h
      · exact ih.2 l h
      · simp at h; subst h; exact morL_length _ _
    · exact ⟨by omega, ih.2⟩
open Classical in
noncomputable def morR (n : Int) (f g : Nat → Nat) (n' : Int) (f' g' : Nat → Nat) : List (List Nat) := if desB n f g = true ∧ desB n' f' g' = true then morT f g f' g' n.toNat n'.toNat else []
open Classical in
noncomputable def bothC (n : Int) (f g : Nat → Nat) (n' : Int) (f' g' : Nat → Nat) : Int := if desB n f g = true ∧ desB n' f' g' = true then 0 else 1
theorem total_le : ∀ (ls : List (List Nat)) (m : Nat), (∀ l ∈ ls, l.length = m) → total ls = m * ls.length := by
  intro ls m h
  induction ls with
  | nil => simp [total]
  | cons l ls ih =>
    have h1 := h l (by simp)
    have h2 := ih fun x hx => h x (by simp [hx])
    unfold total at h2 ⊢
    simp only [List.map_cons, List.sum_cons, List.length_cons] at h2 ⊢
    rw [h1, h2, Nat.mul_succ]; omega
theorem morR_bound (n : Int) (f g : Nat → Nat) (n' : Int) (f' g' : Nat → Nat) : total (morR n f g n' f' g') ≤ 1000 ∧ (morR n f g n' f' g').length ≤ 16 := by
  unfold morR
  split
  · rename_i h
    obtain ⟨m, rfl, hd⟩ := desB_true h.1
    obtain ⟨k, rfl, he⟩ := desB_true h.2
    simp only [Int.toNat_natCast]
    have h1 := morT_le f g f' g' m k
    rw [total_le _ m h1.2]
    have := hd.le
    have := he.le
    have h2 : m * (morT f g f' g' m k).length ≤ 16 * 16 := Nat.mul_le_mul (by omega) (by omega)
    omega
  · exact ⟨by simp [total], by simp⟩

set_option maxRecDepth 100000 in
set_option maxHeartbeats 2000000 in
theorem morphismsOf_any (n : Int) (f g : Nat → Nat) (hf : ∀ i, f i < 256) (hg : ∀ i, g i < 256) (n' : Int) (f' g' : Nat → Nat) (hf' : ∀ i, f' i < 256) (hg' : ∀ i, g' i < 256) (w : World) :
    Calls Try.prog 24 #[.agg (dv n f g), .agg (dv n' f' g')] w fun e w' => ∃ v, e = .returned (.tuple #[v, .int .i64 (bothC n f g n' f' g')]) ∧ Below w.heap.size w w' ∧ Own2 w.heap.size w' v (morR n f g n' f' g') := by
  have C1 := hide fun w => isDessin_any n f g hf hg w
  have C2 := hide fun w => isDessin_any n' f' g' hf' hg' w
  clear hf hg hf' hg'
  have HH0 := ((Holds.start w).blk (dv n f g) 30 w.heap.size rfl).blk (dv n' f' g') 30 (w.heap.size + 1) (by simp)
  rcases h1 : desB n f g with _ | _
  · rw [h1] at C1
    have hr : morR n f g n' f' g' = [] := by unfold morR; rw [if_neg (by simp [h1])]
    have hc : bothC n f g n' f' g' = 1 := by unfold bothC; rw [if_neg (by simp [h1])]
    rw [hr, hc]
    clear h1 hr hc
    go_enter Try.func24, Try.ntmps24
    go_wp2_with fail
    refine (C1.out _).mono ?_
    rintro e w1 ⟨rfl, hb⟩
    have HH1 := HH0.call hb
    clear hb HH0
    go_wp2
    go_ret2
    exact ⟨.slice none 0 0, rfl, HH1.low, Own2.nil _ _⟩
  rw [h1] at C1
  rcases h2 : desB n' f' g' with _ | _
  · rw [h2] at C2
    have hr : morR n f g n' f' g' = [] := by unfold morR; rw [if_neg (by simp [h2])]
    have hc : bothC n f g n' f' g' = 1 := by unfold bothC; rw [if_neg (by simp [h2])]
    rw [hr, hc]
    clear h1 h2 hr hc
    go_enter Try.func24, Try.ntmps24
    go_wp2_with fail
    refine (C1.out _).mono ?_
    rintro e w1 ⟨rfl, hb⟩
    have HH1 := HH0.call hb
    have ce := HH1.cells 0 rfl
    clear hb HH0
    go_wp2_with fail
    refine (C2.out _).mono ?_
    rintro e w2 ⟨rfl, hb⟩
    have HH2 := HH1.call hb
    clear hb HH1 ce
    go_wp2
    go_ret2
    exact ⟨.slice none 0 0, rfl, HH2.low, Own2.nil _ _⟩
  rw [h2] at C2
  obtain ⟨m, rfl, hd⟩ := desB_true h1
  obtain ⟨k, rfl, he⟩ := desB_true h2
  have hr : morR m f g k f' g' = morT f g f' g' m k := by unfold morR; rw [if_pos ⟨h1, h2⟩]; simp only [Int.toNat_natCast]
  have hc : bothC m f g k f' g' = 0 := by unfold bothC; rw [if_pos ⟨h1, h2⟩]
  rw [hr, hc]
  clear h1 h2 hr hc
  have hm := hd.le
  have hk := he.le
  have hk256 : (k : Int) < 256 := by omega
  have hn := dv_n m f g
  have hn' := dv_n k f' g'
  have C3 := hide fun (y : Nat) (hy : y < 16) (w : World) => pairsFrom_any f g f' g' m k hd he 0 y (by omega) hy w
  have HG := hide fun (y : Nat) (hy : y < 16) => prs_graph hd he hy
  have HC := hide fun (y : Nat) (hy : y < 16) => prs_cover hd he hy
  have HLT := hide fun (y : Nat) (hy : y < 16) => prs_lt hd he hy 256
  have HI := hide fun (y : Nat) (hy : y < 16) => bfs_inv (fun z hz => bF_lt hd.black he.black z hz) (fun z hz => bF_lt hd.white he.white z hz) (show y < 256 by omega) 256
  clear hd he
  simp only [Nat.mul_zero, Nat.zero_add] at C3
  go_enter Try.func24, Try.ntmps24
  go_wp2_with fail
  refine (C1.out _).mono ?_
  rintro e w1 ⟨rfl, hb⟩
  have HH1 := HH0.call hb
  have ce := HH1.cells 0 rfl
  clear hb HH0
  go_wp2_with fail
  refine (C2.out _).mono ?_
  rintro e w2 ⟨rfl, hb⟩
  have HH2 := HH1.call hb
  clear hb HH1 ce
  have ce0 := HH2.cell 0 rfl hn'
  have HH3 := (HH2.nilRow 48 1).third
  go_wp2
  clear ce0 HH2
  go_loopw [6, 20] (fun u t wr => ∃ (y : Nat) (vs : List Value), y ≤ k ∧ t = .int .u8 y ∧ vs.length = (morT f g f' g' m y).length ∧ Holds w wr (pBlk (w.heap.size + 1) (dv k f' g') 30 :: pBlk w.heap.size (dv m f g) 30 :: pVals u vs :: rowsP vs (morT f g f' g' m y))) (fun _ t _ => k - (intOf t).toNat)
  case atStart => exact ⟨0, [], by omega, rfl, rfl, HH3⟩
  case round =>
    clear HH3
    obtain ⟨y, vs, hy, rfl, hvs, hH⟩ := hrel
    have hvl : vs.length ≤ y := by rw [hvs]; exact (morT_le f g f' g' m y).1
    have HVS := hide hvs; clear hvs
    by_cases hyk : y < k
    · have hy16 : y < 16 := by omega
      have hyk' : (y : Int) < k := by omega
      have hs : morT f g f' g' m (y + 1) = if (bfs (bF f f') (bF g g') y 256).1.length = m then morT f g f' g' m y ++ [morL (bfs (bF f f') (bF g g') y 256).1 m] else morT f g f' g' m y := rfl
      have hG := HG.out y hy16
      have hC := HC.out y hy16
      have hLT := HLT.out y hy16
      have hI := HI.out y hy16
      have c3 := C3.out y hy16
      have hilt := hI.lt
      have hile := hI.length_le
      clear hI
      generalize (bfs (bF f f') (bF g g') y 256).1 = R at *
      have C4 := hide c3; clear c3
      have HLI := hide hilt; clear hilt
      have cd := hH.cells 1 rfl
      have ce := hH.cells 0 rfl
      obtain ⟨A0, c0, rfl⟩ := hH.valsForm 2 rfl
      go_wp2_with fail
      refine (C4.out _).mono ?_
      rintro e w2 ⟨v, rfl, hb, ho⟩
      have HH2 := hH.newRow hb ho
      have cn := HH2.cell 2 rfl hn
      have hv : RdP w2 v (dec R) := by
        have := row_low (HH2.row 0 rfl) (Nat.zero_le _)
        unfold RdP; rw [dec_length]; exact this
      obtain ⟨A1, c1, rfl⟩ := own_slice (HH2.row 0 rfl)
      have HV := hide hv
      clear hb ho cd ce hH hv
      by_cases hlm : R.length = m
      · have heq : ((((R.length : Nat) : Int)) == (m : Int)) = true := by rw [hlm]; simp
        rw [if_pos hlm] at hs
        have HS := hide hs; clear hs
        have hnd := hG.1 hlm
        have hrow : (fun u => pRow u 2 1 R.length (rv (secT R R.length) R.length)) = fun u => pInts u (morL R m) := by
          funext u
          unfold pInts
          rw [morL_length, hlm, ← rv_nums fun x hx => sndF_ge (hC x hx), ← secT_all hnd hC, hlm]
        have C5 := hide fun (w' : World) (h : RdP w' (.slice A1 R.length c1) (dec R)) => seconds_any R (by omega) (fun z hz => ⟨HLI.out z hz, by have := hLT z hz; omega⟩) (.slice A1 R.length c1) w' h
        have HR := hide hrow; clear hrow hnd hG hC hLT
        have hlm16 : R.length ≤ 16 := by omega
        have HLM := hide hlm; clear hlm
        go_wp2_with fail
        refine (C5.out _ HV.out).mono ?_
        rintro e w3 ⟨u, rfl, hb, ho⟩
        have HH3 := HH2.newRow hb ho
        obtain ⟨A2, c2, rfl⟩ := own_slice (HH3.row 0 rfl)
        have e3 := congrFun HR.out (.slice A2 R.length c2)
        rw [e3] at HH3
        have HH4 := HH3.sub (.cons_cons _ (.cons _ (.refl _)))
        clear hb ho HH2 HH3 cn e3
        go_wp2_with (at_builtin; refine appRow (HH4.alloc _) 3 rfl w3.heap.size (.slice A2 R.length c2) rfl 48 (heap_at _ _ _ rfl) (by omega) rfl _ _ rfl rfl rfl ?_)
        intro v' w5 hH5
        have hH6 := Holds.rowEnd (A := [_, _, _]) HVS.out hH5
        clear hH5 HH4
        go_wp2
        go_roundw
        case rel =>
          refine ⟨y + 1, vs ++ [.slice A2 R.length c2], by omega, by go_num, ?_, ?_⟩
          · rw [HS.out, List.length_append, List.length_append, HVS.out]; rfl
          · rw [HS.out]; exact hH6
        case measure => simp [intOf]; omega
      · have heq : ((((R.length : Nat) : Int)) == (m : Int)) = false := by
          rw [beq_eq_false_iff_ne]; omega
        rw [if_neg hlm] at hs
        have HS := hide hs; clear hs hG hC hLT
        have HH4 := HH2.tail
        go_wp2
        go_roundw
        case rel => exact ⟨y + 1, vs, by omega, by go_num, by rw [HS.out]; exact HVS.out, by rw [HS.out]; exact HH4⟩
        case measure => simp [intOf]; omega
    · obtain rfl : y = k := by omega
      clear hyk hy
      go_wp2
      go_ret2
      exact ⟨_, rfl, hH.low, Holds.own2 (A := [_, _]) HVS.out hH⟩

set_option maxRecDepth 100000 in
set_option maxHeartbeats 2000000 in
theorem sMorphismsOf_any (n : Int) (f g : Nat → Nat) (hf : ∀ i, f i < 256) (hg : ∀ i, g i < 256) (n' : Int) (f' g' : Nat → Nat) (hf' : ∀ i, f' i < 256) (hg' : ∀ i, g' i < 256) (w : World) :
    Calls Try.prog 23 #[.agg (dv n f g), .agg (dv n' f' g')] w fun e w' => ∃ v, e = .returned (.tuple #[v, .int .i64 (bothC n f g n' f' g')]) ∧ Below w.heap.size w w' ∧ Own2 w.heap.size w' v (morR n f g n' f' g') := by
  have C1 := hide fun w => sBoth_any n f g hf hg n' f' g' hf' hg' w
  clear hf hg hf' hg'
  have HH0 := ((Holds.start w).blk (dv n f g) 30 w.heap.size rfl).blk (dv n' f' g') 30 (w.heap.size + 1) (by simp)
  by_cases hde : desB n f g = true ∧ desB n' f' g' = true
  rotate_left
  · rw [if_neg hde] at C1
    have hr : morR n f g n' f' g' = [] := by unfold morR; rw [if_neg hde]
    have hc : bothC n f g n' f' g' = 1 := by unfold bothC; rw [if_neg hde]
    rw [hr, hc]
    clear hde hr hc
    go_enter Try.func23, Try.ntmps23
    go_wp2_with fail
    refine (C1.out _).mono ?_
    rintro e w1 ⟨rfl, hb⟩
    have HH1 := HH0.call hb
    clear hb HH0
    go_wp2
    go_ret2
    exact ⟨.slice none 0 0, rfl, HH1.low, Own2.nil _ _⟩
  rw [if_pos hde] at C1
  have hr : morR n f g n' f' g' = morT f g f' g' n.toNat n'.toNat := by unfold morR; rw [if_pos hde]
  have hc : bothC n f g n' f' g' = 0 := by unfold bothC; rw [if_pos hde]
  rw [hr, hc]
  clear hr hc
  obtain ⟨h1, h2⟩ := hde
  obtain ⟨m, rfl, hd⟩ := desB_true h1
  obtain ⟨k, rfl, he⟩ := desB_true h2
  simp only [Int.toNat_natCast]
  clear h1 h2
  have hm := hd.le
  have hk := he.le
  have hn' := dv_n k f' g'
  have C3 := hide fun (y : Nat) (hy : y < 16) (w : World) => sMor_any f g f' g' m k hd he y hy w
  have HG := hide fun (y : Nat) (hy : y < 16) => prs_graph hd he hy
  have HC := hide fun (y : Nat) (hy : y < 16) => prs_cover hd he hy
  clear hd he
  go_enter Try.func23, Try.ntmps23
  go_wp2_with fail
  refine (C1.out _).mono ?_
  rintro e w1 ⟨rfl, hb⟩
  have HH1 := HH0.call hb
  clear hb HH0
  have HH3 : Holds w (w1.alloc (.cells #[] 48)) _ := (HH1.rowNew #[] 48 1 0 w1.heap.size rfl rfl (by unfold maxLen; omega)).third
  go_wp2
  clear HH1
  go_loopw [7, 8] (fun u t wr => ∃ (y : Nat) (vs : List Value), y ≤ k ∧ t = .int .i64 y ∧ vs.length = (morT f g f' g' m y).length ∧ Holds w wr (pBlk (w.heap.size + 1) (dv k f' g') 30 :: pBlk w.heap.size (dv m f g) 30 :: pVals u vs :: rowsP vs (morT f g f' g' m y))) (fun _ t _ => k - (intOf t).toNat)
  case atStart => exact ⟨0, [], by omega, rfl, rfl, HH3⟩
  case round =>
    clear HH3
    obtain ⟨y, vs, hy, rfl, hvs, hH⟩ := hrel
    have hvl : vs.length ≤ y := by rw [hvs]; exact (morT_le f g f' g' m y).1
    have HVS := hide hvs; clear hvs
    have cn := hH.cell 0 rfl hn'
    by_cases hyk : y < k
    · have hy16 : y < 16 := by omega
      have hyk' : (y : Int) < k := by omega
      have hs : morT f g f' g' m (y + 1) = if (bfs (bF f f') (bF g g') y 256).1.length = m then morT f g f' g' m y ++ [morL (bfs (bF f f') (bF g g') y 256).1 m] else morT f g f' g' m y := rfl
      have hG := HG.out y hy16
      have hC := HC.out y hy16
      have c3 := C3.out y hy16
      generalize (bfs (bF f f') (bF g g') y 256).1 = R at *
      have C4 := hide c3; clear c3
      have cd := hH.cells 1 rfl
      have ce := hH.cells 0 rfl
      obtain ⟨A0, c0, rfl⟩ := hH.valsForm 2 rfl
      go_wp2_with fail
      refine (C4.out _).mono ?_
      rintro e w2 ⟨v, b, rfl, hb, ht, hf⟩
      rcases b with _ | _
      · have hnd := hf rfl
        rw [if_neg (fun h => hnd (hG.1 h))] at hs
        have HS := hide hs; clear hs hG hC ht hf hnd
        have HH2 := hH.call hb
        clear hb cd ce cn hH
        go_wp2
        go_roundw
        case rel => exact ⟨y + 1, vs, by omega, by go_num, by rw [HS.out]; exact HVS.out, by rw [HS.out]; exact HH2⟩
        case measure => simp [intOf]; omega
      · obtain ⟨hnd, ho⟩ := ht rfl
        have hlm := hG.2 hnd
        rw [if_pos hlm] at hs
        have HS := hide hs; clear hs hG ht hf hnd hlm
        have hrow : (fun u => pRow u 2 1 m (rv (sndF R) m)) = fun u => pInts u (morL R m) := by
          funext u
          unfold pInts
          rw [morL_length, ← rv_nums fun x hx => sndF_ge (hC x hx)]
        have HH4 := hH.newRow hb ho
        obtain ⟨A2, c2, rfl⟩ := own_slice (HH4.row 0 rfl)
        have e3 := congrFun hrow (.slice A2 m c2)
        rw [e3] at HH4
        clear hb ho hrow e3 hC cd ce cn hH
        go_wp2_with (at_builtin; refine appRow (HH4.alloc _) 3 rfl w2.heap.size (.slice A2 m c2) rfl 48 (heap_at _ _ _ rfl) (by omega) rfl _ _ rfl rfl rfl ?_)
        intro v' w5 hH5
        have hH6 := Holds.rowEnd (A := [_, _, _]) HVS.out hH5
        clear hH5 HH4
        go_wp2
        go_roundw
        case rel =>
          refine ⟨y + 1, vs ++ [.slice A2 m c2], by omega, by go_num, ?_, ?_⟩
          · rw [HS.out, List.length_append, List.length_append, HVS.out]; rfl
          · rw [HS.out]; exact hH6
        case measure => simp [intOf]; omega
    · obtain rfl : y = k := by omega
      clear hyk hy
      go_wp2
      go_ret2
      exact ⟨_, rfl, hH.low, Holds.own2 (A := [_, _]) HVS.out hH⟩

set_option maxRecDepth 100000 in
set_option maxHeartbeats 2000000 in
theorem fnExactMorphismsOf_walk (n : Int) (f g : Nat → Nat) (_hn : -9223372036854775808 ≤ n ∧ n ≤ 9223372036854775807) (hf : ∀ i, f i < 256) (hg : ∀ i, g i < 256) (n' : Int) (f' g' : Nat → Nat) (_hn' : -9223372036854775808 ≤ n' ∧ n' ≤ 9223372036854775807) (hf' : ∀ i, f' i < 256) (hg' : ∀ i, g' i < 256) (w : World) :
    Calls Try.prog 6 #[.agg (dv n f g), .agg (dv n' f' g')] w fun e w' => e = .returned (.bool true) ∧ Below w.heap.size w w' := by
  have C1 := hide fun w => morphismsOf_any n f g hf hg n' f' g' hf' hg' w
  have C2 := hide fun w => sMorphismsOf_any n f g hf hg n' f' g' hf' hg' w
  obtain ⟨hT, hL⟩ := morR_bound n f g n' f' g'
  generalize morR n f g n' f' g' = L at *
  generalize bothC n f g n' f' g' = c at *
  have T0 := hide fun w => toDessin_any n f g w
  have T1 := hide fun w => toDessin_any n' f' g' w
  clear hf hg _hn hf' hg' _hn'
  have hne : (c != c) = false := by simp
  have hnt : (((1 + total L : Nat) : Int) != ((1 + total L : Nat) : Int)) = false := by simp
  have hneg : decide (((1 + total L : Nat) : Int) < 0) = false := decide_eq_false (by omega)
  go_enter Try.func6, Try.ntmps6
  go_wp2
  generalize hW : ((w.alloc (.cells (dv n f g) 24)).alloc (.cells (dv n' f' g') 24)) = W
  have y0 : cellsOf W w.heap.size = dv n f g := by rw [← hW]; exact cellsOf_heap (heap1 (by simp))
  have k0 : w.heap.size < W.heap.size := by rw [← hW]; simp <;> omega
  have y1 : cellsOf W (w.heap.size + 1) = dv n' f' g' := by rw [← hW]; exact cellsOf_heap (heap_at _ _ _ (by simp))
  have k1 : (w.heap.size + 1) < W.heap.size := by rw [← hW]; simp <;> omega
  have b0 : Below w.heap.size w W := by rw [← hW]; exact below2 _ _ _
  clear hW
  refine region_V (w := W) (fun k => if k = 4 then some (fun w v w' => ∃ u, v = .tuple #[u, .int .i64 c] ∧ Own2 w.heap.size w' u L) else none) (fun _ => false) [4] (.q 0 <| .q 1 <| .q 2 <| .q 3 <| .s1 4 <| .q 5 <| .q 6 <| .q 7 <| .q 8 <| .q 9 .fin) (by kernel_rfl) (by kernel_rfl) (by kernel_rfl) (fun k hk => ?_) ?_
  · simp at hk; simp [hk]
  apply v_other
  · simp only [List.getElem?_toArray, List.getElem?_cons_zero, List.getElem?_cons_succ]; exact rfl
  · rfl
  · rfl
  · go_simp
  · intro wx hx
    have e0 := hx.cells y0 k0
    have e1 := hx.cells y1 k1
    unfold atG
    go_simp
    simp only [uponG]
    exact ⟨by trivial, rfl⟩
  apply v_other
  · simp only [List.getElem?_toArray, List.getElem?_cons_zero, List.getElem?_cons_succ]; exact rfl
  · rfl
  · rfl
  · go_simp
  · intro wx hx
    have e0 := hx.cells y0 k0
    have e1 := hx.cells y1 k1
    unfold atG
    go_simp
    simp only [uponG]
    exact ⟨by trivial, T0.out wx⟩
  apply v_other
  · simp only [List.getElem?_toArray, List.getElem?_cons_zero, List.getElem?_cons_succ]; exact rfl
  · rfl
  · rfl
  · go_simp
  · intro wx hx
    have e0 := hx.cells y0 k0
    have e1 := hx.cells y1 k1
    unfold atG
    go_simp
    simp only [uponG]
    exact ⟨by trivial, rfl⟩
  apply v_other
  · simp only [List.getElem?_toArray, List.getElem?_cons_zero, List.getElem?_cons_succ]; exact rfl
  · rfl
  · rfl
  · go_simp
  · intro wx hx
    have e0 := hx.cells y0 k0
    have e1 := hx.cells y1 k1
    unfold atG
    go_simp
    simp only [uponG]
    exact ⟨by trivial, T1.out wx⟩
  refine v_E (by simp only [List.getElem?_toArray, List.getElem?_cons_zero, List.getElem?_cons_succ]; exact rfl) rfl (by go_simp) (fun wx hx _ => ?_) ?_
  · go_simp
    simp only [uponE]
    exact ⟨by trivial, (C2.out wx).mono fun e w' ⟨u, h1, h2, h3⟩ => ⟨_, h1, h2, u, rfl, h3⟩⟩
  rintro vq ⟨_, _, _, u0, rfl, _⟩
  apply v_other
  · simp only [List.getElem?_toArray, List.getElem?_cons_zero, List.getElem?_cons_succ]; exact rfl
  · rfl
  · rfl
  · go_simp
  · intro wx hx
    unfold atG
    go_simp
    simp only [uponG]
    exact ⟨by trivial, rfl⟩
  apply v_other
  · simp only [List.getElem?_toArray, List.getElem?_cons_zero, List.getElem?_cons_succ]; exact rfl
  · rfl
  · rfl
  · go_simp
  · intro wx hx
    unfold atG
    go_simp
    simp only [uponG]
    exact ⟨by trivial, rfl⟩
  apply v_other
  · simp only [List.getElem?_toArray, List.getElem?_cons_zero, List.getElem?_cons_succ]; exact rfl
  · rfl
  · rfl
  · go_simp
  · intro wx hx
    unfold atG
    go_simp
    simp only [uponG]
    exact ⟨by trivial, rfl⟩
  apply v_other
  · simp only [List.getElem?_toArray, List.getElem?_cons_zero, List.getElem?_cons_succ]; exact rfl
  · rfl
  · rfl
  · go_simp
  · intro wx hx
    unfold atG
    go_simp
    simp only [uponG]
    exact ⟨by trivial, rfl⟩
  apply v_other
  · simp only [List.getElem?_toArray, List.getElem?_cons_zero, List.getElem?_cons_succ]; exact rfl
  · rfl
  · rfl
  · go_simp
  · intro wx hx
    unfold atG
    go_simp
    simp only [uponG]
    exact ⟨by trivial, rfl⟩
  rintro w1 hx ⟨m0, m1, _, k1', k2', ⟨ux, ex, o0⟩, k3'⟩
  injection ex with ex
  have hux : u0 = ux := by
    have := congrArg (fun a : Array Value => a[0]?) ex
    simpa using this
  subst hux
  clear ex
  obtain ⟨A0, c0, vs0, rfl, p0⟩ := own2_form o0
  clear o0
  have q0 := p0.below k3' (Nat.le_refl _)
  have s0a := k1'.size
  have s0b := (k2'.trans k3').size
  have O0 := hide q0; clear p0 q0 k1' k2' k3'
  generalize m0.heap.size = B0 at *
  have b1 : Below w.heap.size w w1 := b0.trans (Below.mono hx b0.size)
  have s1 := hx.size
  have z0 := hx.cells y0 k0
  have l0 := Nat.lt_of_lt_of_le k0 s1
  have z1 := hx.cells y1 k1
  have l1 := Nat.lt_of_lt_of_le k1 s1
  clear y0 k0 y1 k1 hx b0 s1 s0a s0b
  have y0 := z0; have k0 := l0
  clear z0 l0
  have y1 := z1; have k1 := l1
  clear z1 l1
  go_wp2_with fail
  refine region_V (w := w1) (fun k => if k = 4 then some (fun w v w' => ∃ u, v = .tuple #[u, .int .i64 c] ∧ Own2 w.heap.size w' u L) else none) (fun _ => false) [4] (.q 0 <| .q 1 <| .q 2 <| .q 3 <| .s1 4 <| .q 5 <| .q 6 <| .q 7 <| .q 8 <| .q 9 .fin) (by kernel_rfl) (by kernel_rfl) (by kernel_rfl) (fun k hk => ?_) ?_
  · simp at hk; simp [hk]
  apply v_other
  · simp only [List.getElem?_toArray, List.getElem?_cons_zero, List.getElem?_cons_succ]; exact rfl
  · rfl
  · rfl
  · go_simp
  · intro wx hx
    have e0 := hx.cells y0 k0
    have e1 := hx.cells y1 k1
    unfold atG
    go_simp
    simp only [uponG]
    exact ⟨by trivial, rfl⟩
  apply v_other
  · simp only [List.getElem?_toArray, List.getElem?_cons_zero, List.getElem?_cons_succ]; exact rfl
  · rfl
  · rfl
  · go_simp
  · intro wx hx
    have e0 := hx.cells y0 k0
    have e1 := hx.cells y1 k1
    unfold atG
    go_simp
    simp only [uponG]
    exact ⟨by trivial, T0.out wx⟩
  apply v_other
  · simp only [List.getElem?_toArray, List.getElem?_cons_zero, List.getElem?_cons_succ]; exact rfl
  · rfl
  · rfl
  · go_simp
  · intro wx hx
    have e0 := hx.cells y0 k0
    have e1 := hx.cells y1 k1
    unfold atG
    go_simp
    simp only [uponG]
    exact ⟨by trivial, rfl⟩
  apply v_other
  · simp only [List.getElem?_toArray, List.getElem?_cons_zero, List.getElem?_cons_succ]; exact rfl
  · rfl
  · rfl
  · go_simp
  · intro wx hx
    have e0 := hx.cells y0 k0
    have e1 := hx.cells y1 k1
    unfold atG
    go_simp
    simp only [uponG]
    exact ⟨by trivial, T1.out wx⟩
  refine v_E (by simp only [List.getElem?_toArray, List.getElem?_cons_zero, List.getElem?_cons_succ]; exact rfl) rfl (by go_simp) (fun wx hx _ => ?_) ?_
  · go_simp
    simp only [uponE]
    exact ⟨by trivial, (C1.out wx).mono fun e w' ⟨u, h1, h2, h3⟩ => ⟨_, h1, h2, u, rfl, h3⟩⟩
  rintro vq ⟨_, _, _, u1, rfl, _⟩
  apply v_other
  · simp only [List.getElem?_toArray, List.getElem?_cons_zero, List.getElem?_cons_succ]; exact rfl
  · rfl
  · rfl
  · go_simp
  · intro wx hx
    unfold atG
    go_simp
    simp only [uponG]
    exact ⟨by trivial, rfl⟩
  apply v_other
  · simp only [List.getElem?_toArray, List.getElem?_cons_zero, List.getElem?_cons_succ]; exact rfl
  · rfl
  · rfl
  · go_simp
  · intro wx hx
    unfold atG
    go_simp
    simp only [uponG]
    exact ⟨by trivial, rfl⟩
  apply v_other
  · simp only [List.getElem?_toArray, List.getElem?_cons_zero, List.getElem?_cons_succ]; exact rfl
  · rfl
  · rfl
  · go_simp
  · intro wx hx
    unfold atG
    go_simp
    simp only [uponG]
    exact ⟨by trivial, rfl⟩
  apply v_other
  · simp only [List.getElem?_toArray, List.getElem?_cons_zero, List.getElem?_cons_succ]; exact rfl
  · rfl
  · rfl
  · go_simp
  · intro wx hx
    unfold atG
    go_simp
    simp only [uponG]
    exact ⟨by trivial, rfl⟩
  apply v_other
  · simp only [List.getElem?_toArray, List.getElem?_cons_zero, List.getElem?_cons_succ]; exact rfl
  · rfl
  · rfl
  · go_simp
  · intro wx hx
    unfold atG
    go_simp
    simp only [uponG]
    exact ⟨by trivial, rfl⟩
  rintro w2 hx ⟨m0, m1, _, k1', k2', ⟨ux, ex, o1⟩, k3'⟩
  injection ex with ex
  have hux : u1 = ux := by
    have := congrArg (fun a : Array Value => a[0]?) ex
    simpa using this
  subst hux
  clear ex
  obtain ⟨A1, c1, vs1, rfl, p1⟩ := own2_form o1
  clear o1
  have q1 := p1.below k3' (Nat.le_refl _)
  have s1a := k1'.size
  have s1b := (k2'.trans k3').size
  have O1 := hide q1; clear p1 q1 k1' k2' k3'
  generalize m0.heap.size = B1 at *
  have O02 := hide (O0.out.below hx (Nat.le_refl _))
  have G2 := hx
  clear hx
  go_wp2_with fail
  refine (eqInt64SS_same L A1 A0 c1 c0 _ _ vs1 vs0 (by omega) (by omega) _ O1.out O02.out).mono ?_
  rintro e w3 ⟨rfl, h3⟩
  have s3 := h3.size
  have O03 := hide (O02.out.below h3 (Nat.le_refl _))
  have O13 := hide (O1.out.below h3 (Nat.le_refl _))
  have G3 : Grown w1 w3 := Below.trans G2 (h3.mono G2.size)
  clear h3 G2
  go_wp2_with fail
  refine (mark1 L A1 c1 _ vs1 (by omega) (by omega) _ (by omega) O13.out).mono ?_
  rintro e w4 ⟨rfl, h4, s4, o14⟩
  have O14 := hide o14; clear o14
  have O04 := hide (O03.out.lower h4 (fun k hk => by have := O0.out.lt.1 k hk; omega) (fun i u hu k hk => by have := O0.out.lt.2 i u hu k hk; omega))
  have G4 : Grown w1 w4 := Below.trans G3 (h4.mono (by omega))
  clear h4 G3
  go_wp2_with fail
  refine (held1 L A1 c1 _ vs1 (by omega) (by omega) _ O14.out).mono ?_
  rintro e w5 ⟨rfl, h5⟩
  have O15 := hide (O14.out.below h5 (Nat.le_refl _))
  have O05 := hide (O04.out.below h5 (Nat.le_refl _))
  have G5 : Grown w1 w5 := Below.trans G4 (h5.mono G4.size)
  clear h5 G4
  have z0 := G5.cells y0 k0
  have l0 := Nat.lt_of_lt_of_le k0 G5.size
  have z1 := G5.cells y1 k1
  have l1 := Nat.lt_of_lt_of_le k1 G5.size
  clear y0 k0 y1 k1
  have y0 := z0; have k0 := l0
  clear z0 l0
  have y1 := z1; have k1 := l1
  clear z1 l1
  go_wp2_with fail
  refine region_V (w := w5) (fun k => if k = 4 then some (fun w v w' => ∃ u, v = .tuple #[u, .int .i64 c] ∧ Own2 w.heap.size w' u L) else none) (fun _ => false) [4] (.q 0 <| .q 1 <| .q 2 <| .q 3 <| .s1 4 <| .q 5 <| .q 6 <| .q 7 <| .q 8 <| .q 9 .fin) (by kernel_rfl) (by kernel_rfl) (by kernel_rfl) (fun k hk => ?_) ?_
  · simp at hk; simp [hk]
  apply v_other
  · simp only [List.getElem?_toArray, List.getElem?_cons_zero, List.getElem?_cons_succ]; exact rfl
  · rfl
  · rfl
  · go_simp
  · intro wx hx
    have e0 := hx.cells y0 k0
    have e1 := hx.cells y1 k1
    unfold atG
    go_simp
    simp only [uponG]
    exact ⟨by trivial, rfl⟩
  apply v_other
  · simp only [List.getElem?_toArray, List.getElem?_cons_zero, List.getElem?_cons_succ]; exact rfl
  · rfl
  · rfl
  · go_simp
  · intro wx hx
    have e0 := hx.cells y0 k0
    have e1 := hx.cells y1 k1
    unfold atG
    go_simp
    simp only [uponG]
    exact ⟨by trivial, T0.out wx⟩
  apply v_other
  · simp only [List.getElem?_toArray, List.getElem?_cons_zero, List.getElem?_cons_succ]; exact rfl
  · rfl
  · rfl
  · go_simp
  · intro wx hx
    have e0 := hx.cells y0 k0
    have e1 := hx.cells y1 k1
    unfold atG
    go_simp
    simp only [uponG]
    exact ⟨by trivial, rfl⟩
  apply v_other
  · simp only [List.getElem?_toArray, List.getElem?_cons_zero, List.getElem?_cons_succ]; exact rfl
  · rfl
  · rfl
  · go_simp
  · intro wx hx
    have e0 := hx.cells y0 k0
    have e1 := hx.cells y1 k1
    unfold atG
    go_simp
    simp only [uponG]
    exact ⟨by trivial, T1.out wx⟩
  refine v_E (by simp only [List.getElem?_toArray, List.getElem?_cons_zero, List.getElem?_cons_succ]; exact rfl) rfl (by go_simp) (fun wx hx _ => ?_) ?_
  · go_simp
    simp only [uponE]
    exact ⟨by trivial, (C1.out wx).mono fun e w' ⟨u, h1, h2, h3⟩ => ⟨_, h1, h2, u, rfl, h3⟩⟩
  rintro vq ⟨_, _, _, u2, rfl, _⟩
  apply v_other
  · simp only [List.getElem?_toArray, List.getElem?_cons_zero, List.getElem?_cons_succ]; exact rfl
  · rfl
  · rfl
  · go_simp
  · intro wx hx
    unfold atG
    go_simp
    simp only [uponG]
    exact ⟨by trivial, rfl⟩
  apply v_other
  · simp only [List.getElem?_toArray, List.getElem?_cons_zero, List.getElem?_cons_succ]; exact rfl
  · rfl
  · rfl
  · go_simp
  · intro wx hx
    unfold atG
    go_simp
    simp only [uponG]
    exact ⟨by trivial, rfl⟩
  apply v_other
  · simp only [List.getElem?_toArray, List.getElem?_cons_zero, List.getElem?_cons_succ]; exact rfl
  · rfl
  · rfl
  · go_simp
  · intro wx hx
    unfold atG
    go_simp
    simp only [uponG]
    exact ⟨by trivial, rfl⟩
  apply v_other
  · simp only [List.getElem?_toArray, List.getElem?_cons_zero, List.getElem?_cons_succ]; exact rfl
  · rfl
  · rfl
  · go_simp
  · intro wx hx
    unfold atG
    go_simp
    simp only [uponG]
    exact ⟨by trivial, rfl⟩
  apply v_other
  · simp only [List.getElem?_toArray, List.getElem?_cons_zero, List.getElem?_cons_succ]; exact rfl
  · rfl
  · rfl
  · go_simp
  · intro wx hx
    unfold atG
    go_simp
    simp only [uponG]
    exact ⟨by trivial, rfl⟩
  rintro w6 hx ⟨m0, m1, _, k1', k2', ⟨ux, ex, o2⟩, k3'⟩
  injection ex with ex
  have hux : u2 = ux := by
    have := congrArg (fun a : Array Value => a[0]?) ex
    simpa using this
  subst hux
  clear ex
  obtain ⟨A2, c2, vs2, rfl, p2⟩ := own2_form o2
  clear o2
  have q2 := p2.below k3' (Nat.le_refl _)
  have s2a := k1'.size
  have s2b := (k2'.trans k3').size
  have O2 := hide q2; clear p2 q2 k1' k2' k3'
  generalize m0.heap.size = B2 at *
  have O06 := hide (O05.out.below hx (Nat.le_refl _))
  have O16 := hide (O15.out.below hx (Nat.le_refl _))
  have G6 : Grown w1 w6 := Below.trans G5 (Below.mono hx G5.size)
  clear hx G5
  go_wp2_with fail
  refine (eqInt64SS_same L A2 A0 c2 c0 _ _ vs2 vs0 (by omega) (by omega) _ O2.out O06.out).mono ?_
  rintro e w7 ⟨rfl, h7⟩
  have O17 := hide (O16.out.below h7 (Nat.le_refl _))
  have G7 : Grown w1 w7 := Below.trans G6 (h7.mono G6.size)
  clear h7 G6
  go_wp2_with fail
  refine (held1 L A1 c1 _ vs1 (by omega) (by omega) _ O17.out).mono ?_
  rintro e w8 ⟨rfl, h8⟩
  have b8 := b1.trans ((Below.trans G7 (h8.mono G7.size)).mono b1.size)
  clear h8 G7
  go_wp2
  go_ret
  exact ⟨rfl, b8⟩
end Go.Proofs.Ytjhpkibeddnbfaa

namespace Go.Proofs.Ytjhpkibeddnbfaa
open Go.RowKit

open Classical in
noncomputable def isoR (n : Int) (f g : Nat → Nat) (n' : Int) (f' g' : Nat → Nat) : List (Nat → Nat) := if desB n f g = true ∧ desB n' f' g' = true then isoL f g n.toNat f' g' n'.toNat else []
theorem isoR_bound (n : Int) (f g : Nat → Nat) (n' : Int) (f' g' : Nat → Nat) : (isoR n f g n' f' g').length ≤ 16 := by
  unfold isoR
  split
  · rename_i h
    obtain ⟨k, rfl, he⟩ := desB_true h.2
    simp only [Int.toNat_natCast]
    have h1 := isoL_len f g n.toNat f' g' k
    have := he.le
    omega
  · simp

set_option maxRecDepth 100000 in
set_option maxHeartbeats 1000000 in
theorem isomorphismsOf_any (n : Int) (f g : Nat → Nat) (hf : ∀ i, f i < 256) (hg : ∀ i, g i < 256) (n' : Int) (f' g' : Nat → Nat) (hf' : ∀ i, f' i < 256) (hg' : ∀ i, g' i < 256) (w : World) :
    Calls Try.prog 15 #[.agg (dv n f g), .agg (dv n' f' g')] w fun e w' => ∃ v, e = .returned (.tuple #[v, .int .i64 (bothC n f g n' f' g')]) ∧ Below w.heap.size w w' ∧ OwnR w.heap.size w' v (isoR n f g n' f' g').length (plB (isoR n f g n' f' g')) := by
  have C1 := hide fun w => isDessin_any n f g hf hg w
  have C2 := hide fun w => isDessin_any n' f' g' hf' hg' w
  clear hf hg hf' hg'
  have HH0 := ((Holds.start w).blk (dv n f g) 30 w.heap.size rfl).blk (dv n' f' g') 30 (w.heap.size + 1) (by simp)
  rcases h1 : desB n f g with _ | _
  · rw [h1] at C1
    have hr : isoR n f g n' f' g' = [] := by unfold isoR; rw [if_neg (by simp [h1])]
    have hc : bothC n f g n' f' g' = 1 := by unfold bothC; rw [if_neg (by simp [h1])]
    rw [hr, hc]
    clear h1 hr hc
    go_enter Try.func15, Try.ntmps15
    go_wp2_with fail
    refine (C1.out _).mono ?_
    rintro e w1 ⟨rfl, hb⟩
    have HH1 := HH0.call hb
    clear hb HH0
    go_wp2
    go_ret2
    exact ⟨.slice none 0 0, rfl, HH1.low, World.ownsRow_nil _ _ _ _⟩
  rw [h1] at C1
  rcases h2 : desB n' f' g' with _ | _
  · rw [h2] at C2
    have hr : isoR n f g n' f' g' = [] := by unfold isoR; rw [if_neg (by simp [h2])]
    have hc : bothC n f g n' f' g' = 1 := by unfold bothC; rw [if_neg (by simp [h2])]
    rw [hr, hc]
    clear h1 h2 hr hc
    go_enter Try.func15, Try.ntmps15
    go_wp2_with fail
    refine (C1.out _).mono ?_
    rintro e w1 ⟨rfl, hb⟩
    have HH1 := HH0.call hb
    have ce := HH1.cells 0 rfl
    clear hb HH0
    go_wp2_with fail
    refine (C2.out _).mono ?_
    rintro e w2 ⟨rfl, hb⟩
    have HH2 := HH1.call hb
    clear hb HH1 ce
    go_wp2
    go_ret2
    exact ⟨.slice none 0 0, rfl, HH2.low, World.ownsRow_nil _ _ _ _⟩
  rw [h2] at C2
  have hr : isoR n f g n' f' g' = isoL f g n.toNat f' g' n'.toNat := by unfold isoR; rw [if_pos ⟨h1, h2⟩]
  have hc : bothC n f g n' f' g' = 0 := by unfold bothC; rw [if_pos ⟨h1, h2⟩]
  rw [hr, hc]
  clear hr hc
  obtain ⟨m, rfl, hd⟩ := desB_true h1
  obtain ⟨k, rfl, he⟩ := desB_true h2
  simp only [Int.toNat_natCast]
  have C3 := hide fun (w : World) => isomorphisms_any f g m hd f' g' k he w
  clear h1 h2 hd he
  generalize isoL f g m f' g' k = L at *
  go_enter Try.func15, Try.ntmps15
  go_wp2_with fail
  refine (C1.out _).mono ?_
  rintro e w1 ⟨rfl, hb⟩
  have HH1 := HH0.call hb
  have ce := HH1.cells 0 rfl
  clear hb HH0
  go_wp2_with fail
  refine (C2.out _).mono ?_
  rintro e w2 ⟨rfl, hb⟩
  have HH2 := HH1.call hb
  have cd2 := HH2.cells 1 rfl
  have ce2 := HH2.cells 0 rfl
  clear hb HH1 ce
  go_wp2_with fail
  refine (C3.out _).mono ?_
  rintro e w3 ⟨v, rfl, hb, ho⟩
  have HH3 := HH2.newRow hb ho
  clear hb ho HH2 cd2 ce2
  go_wp2
  go_ret2
  exact ⟨v, rfl, HH3.low, HH3.row 0 rfl⟩

set_option maxRecDepth 100000 in
set_option maxHeartbeats 1000000 in
theorem sIsomorphismsOf_any (n : Int) (f g : Nat → Nat) (hf : ∀ i, f i < 256) (hg : ∀ i, g i < 256) (n' : Int) (f' g' : Nat → Nat) (hf' : ∀ i, f' i < 256) (hg' : ∀ i, g' i < 256) (w : World) :
    Calls Try.prog 13 #[.agg (dv n f g), .agg (dv n' f' g')] w fun e w' => ∃ v, e = .returned (.tuple #[v, .int .i64 (bothC n f g n' f' g')]) ∧ Below w.heap.size w w' ∧ OwnR w.heap.size w' v (isoR n f g n' f' g').length (plB (isoR n f g n' f' g')) := by
  have C1 := hide fun w => sBoth_any n f g hf hg n' f' g' hf' hg' w
  clear hf hg hf' hg'
  have HH0 := ((Holds.start w).blk (dv n f g) 30 w.heap.size rfl).blk (dv n' f' g') 30 (w.heap.size + 1) (by simp)
  by_cases hde : desB n f g = true ∧ desB n' f' g' = true
  rotate_left
  · rw [if_neg hde] at C1
    have hr : isoR n f g n' f' g' = [] := by unfold isoR; rw [if_neg hde]
    have hc : bothC n f g n' f' g' = 1 := by unfold bothC; rw [if_neg hde]
    rw [hr, hc]
    clear hde hr hc
    go_enter Try.func13, Try.ntmps13
    go_wp2_with fail
    refine (C1.out _).mono ?_
    rintro e w1 ⟨rfl, hb⟩
    have HH1 := HH0.call hb
    clear hb HH0
    go_wp2
    go_ret2
    exact ⟨.slice none 0 0, rfl, HH1.low, World.ownsRow_nil _ _ _ _⟩
  rw [if_pos hde] at C1
  have hr : isoR n f g n' f' g' = isoL f g n.toNat f' g' n'.toNat := by unfold isoR; rw [if_pos hde]
  have hc : bothC n f g n' f' g' = 0 := by unfold bothC; rw [if_pos hde]
  rw [hr, hc]
  clear hr hc
  obtain ⟨h1, h2⟩ := hde
  obtain ⟨m, rfl, hd⟩ := desB_true h1
  obtain ⟨k, rfl, he⟩ := desB_true h2
  simp only [Int.toNat_natCast]
  have C3 := hide fun (w : World) => sAll_any f g m hd f' g' k he w
  clear h1 h2 hd he
  generalize isoL f g m f' g' k = L at *
  go_enter Try.func13, Try.ntmps13
  go_wp2_with fail
  refine (C1.out _).mono ?_
  rintro e w2 ⟨rfl, hb⟩
  have HH2 := HH0.call hb
  have cd2 := HH2.cells 1 rfl
  have ce2 := HH2.cells 0 rfl
  clear hb HH0
  go_wp2_with fail
  refine (C3.out _).mono ?_
  rintro e w3 ⟨v, rfl, hb, ho⟩
  have HH3 := HH2.newRow hb ho
  clear hb ho HH2 cd2 ce2
  go_wp2
  go_ret2
  exact ⟨v, rfl, HH3.low, HH3.row 0 rfl⟩

set_option maxRecDepth 100000 in
set_option maxHeartbeats 2000000 in
theorem fnExactIsomorphismsOf_walk (n : Int) (f g : Nat → Nat) (_hn : -9223372036854775808 ≤ n ∧ n ≤ 9223372036854775807) (hf : ∀ i, f i < 256) (hg : ∀ i, g i < 256) (n' : Int) (f' g' : Nat → Nat) (_hn' : -9223372036854775808 ≤ n' ∧ n' ≤ 9223372036854775807) (hf' : ∀ i, f' i < 256) (hg' : ∀ i, g' i < 256) (w : World) :
    Calls Try.prog 3 #[.agg (dv n f g), .agg (dv n' f' g')] w fun e w' => e = .returned (.bool true) ∧ Below w.heap.size w w' := by
  have C1 := hide fun w => isomorphismsOf_any n f g hf hg n' f' g' hf' hg' w
  have C2 := hide fun w => sIsomorphismsOf_any n f g hf hg n' f' g' hf' hg' w
  have hL := isoR_bound n f g n' f' g'
  generalize isoR n f g n' f' g' = L at *
  generalize bothC n f g n' f' g' = c at *
  have T0 := hide fun w => toDessin_any n f g w
  have T1 := hide fun w => toDessin_any n' f' g' w
  clear hf hg _hn hf' hg' _hn'
  have hne : (c != c) = false := by simp
  have hnt : (((1 + 16 * L.length : Nat) : Int) != ((1 + 16 * L.length : Nat) : Int)) = false := by simp
  have hneg : decide (((1 + 16 * L.length : Nat) : Int) < 0) = false := decide_eq_false (by omega)
  go_enter Try.func3, Try.ntmps3
  go_wp2
  generalize hW : ((w.alloc (.cells (dv n f g) 24)).alloc (.cells (dv n' f' g') 24)) = W
  have y0 : cellsOf W w.heap.size = dv n f g := by rw [← hW]; exact cellsOf_heap (heap1 (by simp))
  have k0 : w.heap.size < W.heap.size := by rw [← hW]; simp <;> omega
  have y1 : cellsOf W (w.heap.size + 1) = dv n' f' g' := by rw [← hW]; exact cellsOf_heap (heap_at _ _ _ (by simp))
  have k1 : (w.heap.size + 1) < W.heap.size := by rw [← hW]; simp <;> omega
  have b0 : Below w.heap.size w W := by rw [← hW]; exact below2 _ _ _
  clear hW
  refine region_V (w := W) (fun k => if k = 4 then some (fun w v w' => ∃ u, v = .tuple #[u, .int .i64 c] ∧ OwnR w.heap.size w' u L.length (plB L)) else none) (fun _ => false) [4] (.q 0 <| .q 1 <| .q 2 <| .q 3 <| .s1 4 <| .q 5 <| .q 6 <| .q 7 <| .q 8 <| .q 9 .fin) (by kernel_rfl) (by kernel_rfl) (by kernel_rfl) (fun k hk => ?_) ?_
  · simp at hk; simp [hk]
  apply v_other
  · simp only [List.getElem?_toArray, List.getElem?_cons_zero, List.getElem?_cons_succ]; exact rfl
  · rfl
  · rfl
  · go_simp
  · intro wx hx
    have e0 := hx.cells y0 k0
    have e1 := hx.cells y1 k1
    unfold atG
    go_simp
    simp only [uponG]
    exact ⟨by trivial, rfl⟩
  apply v_other
  · simp only [List.getElem?_toArray, List.getElem?_cons_zero, List.getElem?_cons_succ]; exact rfl
  · rfl
  · rfl
  · go_simp
  · intro wx hx
    have e0 := hx.cells y0 k0
    have e1 := hx.cells y1 k1
    unfold atG
    go_simp
    simp only [uponG]
    exact ⟨by trivial, T0.out wx⟩
  apply v_other
  · simp only [List.getElem?_toArray, List.getElem?_cons_zero, List.getElem?_cons_succ]; exact rfl
  · rfl
  · rfl
  · go_simp
  · intro wx hx
    have e0 := hx.cells y0 k0
    have e1 := hx.cells y1 k1
    unfold atG
    go_simp
    simp only [uponG]
    exact ⟨by trivial, rfl⟩
  apply v_other
  · simp only [List.getElem?_toArray, List.getElem?_cons_zero, List.getElem?_cons_succ]; exact rfl
  · rfl
  · rfl
  · go_simp
  · intro wx hx
    have e0 := hx.cells y0 k0
    have e1 := hx.cells y1 k1
    unfold atG
    go_simp
    simp only [uponG]
    exact ⟨by trivial, T1.out wx⟩
  refine v_E (by simp only [List.getElem?_toArray, List.getElem?_cons_zero, List.getElem?_cons_succ]; exact rfl) rfl (by go_simp) (fun wx hx _ => ?_) ?_
  · go_simp
    simp only [uponE]
    exact ⟨by trivial, (C2.out wx).mono fun e w' ⟨u, h1, h2, h3⟩ => ⟨_, h1, h2, u, rfl, h3⟩⟩
  rintro vq ⟨_, _, _, u0, rfl, _⟩
  apply v_other
  · simp only [List.getElem?_toArray, List.getElem?_cons_zero, List.getElem?_cons_succ]; exact rfl
  · rfl
  · rfl
  · go_simp
  · intro wx hx
    unfold atG
    go_simp
    simp only [uponG]
    exact ⟨by trivial, rfl⟩
  apply v_other
  · simp only [List.getElem?_toArray, List.getElem?_cons_zero, List.getElem?_cons_succ]; exact rfl
  · rfl
  · rfl
  · go_simp
  · intro wx hx
    unfold atG
    go_simp
    simp only [uponG]
    exact ⟨by trivial, rfl⟩
  apply v_other
  · simp only [List.getElem?_toArray, List.getElem?_cons_zero, List.getElem?_cons_succ]; exact rfl
  · rfl
  · rfl
  · go_simp
  · intro wx hx
    unfold atG
    go_simp
    simp only [uponG]
    exact ⟨by trivial, rfl⟩
  apply v_other
  · simp only [List.getElem?_toArray, List.getElem?_cons_zero, List.getElem?_cons_succ]; exact rfl
  · rfl
  · rfl
  · go_simp
  · intro wx hx
    unfold atG
    go_simp
    simp only [uponG]
    exact ⟨by trivial, rfl⟩
  apply v_other
  · simp only [List.getElem?_toArray, List.getElem?_cons_zero, List.getElem?_cons_succ]; exact rfl
  · rfl
  · rfl
  · go_simp
  · intro wx hx
    unfold atG
    go_simp
    simp only [uponG]
    exact ⟨by trivial, rfl⟩
  rintro w1 hx ⟨m0, m1, _, k1', k2', ⟨ux, ex, o0⟩, k3'⟩
  injection ex with ex
  have hux : u0 = ux := by
    have := congrArg (fun a : Array Value => a[0]?) ex
    simpa using this
  subst hux
  clear ex
  obtain ⟨A0, c0, rfl, p0⟩ := ownR_form o0
  clear o0
  have q0 := p0.below k3' (Nat.le_refl _)
  have s0a := k1'.size
  have s0b := (k2'.trans k3').size
  have O0 := hide q0; clear p0 q0 k1' k2' k3'
  generalize m0.heap.size = B0 at *
  have b1 : Below w.heap.size w w1 := b0.trans (Below.mono hx b0.size)
  have s1 := hx.size
  have z0 := hx.cells y0 k0
  have l0 := Nat.lt_of_lt_of_le k0 s1
  have z1 := hx.cells y1 k1
  have l1 := Nat.lt_of_lt_of_le k1 s1
  clear y0 k0 y1 k1 hx b0 s1 s0a s0b
  have y0 := z0; have k0 := l0
  clear z0 l0
  have y1 := z1; have k1 := l1
  clear z1 l1
  go_wp2_with fail
  refine region_V (w := w1) (fun k => if k = 4 then some (fun w v w' => ∃ u, v = .tuple #[u, .int .i64 c] ∧ OwnR w.heap.size w' u L.length (plB L)) else none) (fun _ => false) [4] (.q 0 <| .q 1 <| .q 2 <| .q 3 <| .s1 4 <| .q 5 <| .q 6 <| .q 7 <| .q 8 <| .q 9 .fin) (by kernel_rfl) (by kernel_rfl) (by kernel_rfl) (fun k hk => ?_) ?_
  · simp at hk; simp [hk]
  apply v_other
  · simp only [List.getElem?_toArray, List.getElem?_cons_zero, List.getElem?_cons_succ]; exact rfl
  · rfl
  · rfl
  · go_simp
  · intro wx hx
    have e0 := hx.cells y0 k0
    have e1 := hx.cells y1 k1
    unfold atG
    go_simp
    simp only [uponG]
    exact ⟨by trivial, rfl⟩
  apply v_other
  · simp only [List.getElem?_toArray, List.getElem?_cons_zero, List.getElem?_cons_succ]; exact rfl
  · rfl
  · rfl
  · go_simp
  · intro wx hx
    have e0 := hx.cells y0 k0
    have e1 := hx.cells y1 k1
    unfold atG
    go_simp
    simp only [uponG]
    exact ⟨by trivial, T0.out wx⟩
  apply v_other
  · simp only [List.getElem?_toArray, List.getElem?_cons_zero, List.getElem?_cons_succ]; exact rfl
  · rfl
  · rfl
  · go_simp
  · intro wx hx
    have e0 := hx.cells y0 k0
    have e1 := hx.cells y1 k1
    unfold atG
    go_simp
    simp only [uponG]
    exact ⟨by trivial, rfl⟩
  apply v_other
  · simp only [List.getElem?_toArray, List.getElem?_cons_zero, List.getElem?_cons_succ]; exact rfl
  · rfl
  · rfl
  · go_simp
  · intro wx hx
    have e0 := hx.cells y0 k0
    have e1 := hx.cells y1 k1
    unfold atG
    go_simp
    simp only [uponG]
    exact ⟨by trivial, T1.out wx⟩
  refine v_E (by simp only [List.getElem?_toArray, List.getElem?_cons_zero, List.getElem?_cons_succ]; exact rfl) rfl (by go_simp) (fun wx hx _ => ?_) ?_
  · go_simp
    simp only [uponE]
    exact ⟨by trivial, (C1.out wx).mono fun e w' ⟨u, h1, h2, h3⟩ => ⟨_, h1, h2, u, rfl, h3⟩⟩
  rintro vq ⟨_, _, _, u1, rfl, _⟩
  apply v_other
  · simp only [List.getElem?_toArray, List.getElem?_cons_zero, List.getElem?_cons_succ]; exact rfl
  · rfl
  · rfl
  · go_simp
  · intro wx hx
    unfold atG
    go_simp
    simp only [uponG]
    exact ⟨by trivial, rfl⟩
  apply v_other
  · simp only [List.getElem?_toArray, List.getElem?_cons_zero, List.getElem?_cons_succ]; exact rfl
  · rfl
  · rfl
  · go_simp
  · intro wx hx
    unfold atG
    go_simp
    simp only [uponG]
    exact ⟨by trivial, rfl⟩
  apply v_other
  · simp only [List.getElem?_toArray, List.getElem?_cons_zero, List.getElem?_cons_succ]; exact rfl
  · rfl
  · rfl
  · go_simp
  · intro wx hx
    unfold atG
    go_simp
    simp only [uponG]
    exact ⟨by trivial, rfl⟩
  apply v_other
  · simp only [List.getElem?_toArray, List.getElem?_cons_zero, List.getElem?_cons_succ]; exact rfl
  · rfl
  · rfl
  · go_simp
  · intro wx hx
    unfold atG
    go_simp
    simp only [uponG]
    exact ⟨by trivial, rfl⟩
  apply v_other
  · simp only [List.getElem?_toArray, List.getElem?_cons_zero, List.getElem?_cons_succ]; exact rfl
  · rfl
  · rfl
  · go_simp
  · intro wx hx
    unfold atG
    go_simp
    simp only [uponG]
    exact ⟨by trivial, rfl⟩
  rintro w2 hx ⟨m0, m1, _, k1', k2', ⟨ux, ex, o1⟩, k3'⟩
  injection ex with ex
  have hux : u1 = ux := by
    have := congrArg (fun a : Array Value => a[0]?) ex
    simpa using this
  subst hux
  clear ex
  obtain ⟨A1, c1, rfl, p1⟩ := ownR_form o1
  clear o1
  have q1 := p1.below k3' (Nat.le_refl _)
  have s1a := k1'.size
  have s1b := (k2'.trans k3').size
  have O1 := hide q1; clear p1 q1 k1' k2' k3'
  generalize m0.heap.size = B1 at *
  have O02 := hide (O0.out.below hx (Nat.le_refl _))
  have G2 := hx
  clear hx
  go_wp2_with fail
  refine (eqPlacesS_same L A1 A0 c1 c0 _ _ (by omega) _ O1.out O02.out).mono ?_
  rintro e w3 ⟨rfl, h3⟩
  have s3 := h3.size
  have O03 := hide (O02.out.below h3 (Nat.le_refl _))
  have O13 := hide (O1.out.below h3 (Nat.le_refl _))
  have G3 : Grown w1 w3 := Below.trans G2 (h3.mono G2.size)
  clear h3 G2
  go_wp2_with fail
  refine (mkP L A1 c1 _ (by omega) _ (by omega) O13.out).mono ?_
  rintro e w4 ⟨rfl, h4, s4, o14⟩
  have O14 := hide o14; clear o14
  have O04 := hide (O03.out.lower h4 (fun k hk => by have := O0.out.low k hk; omega))
  have G4 : Grown w1 w4 := Below.trans G3 (h4.mono (by omega))
  clear h4 G3
  go_wp2_with fail
  refine (hdP L A1 c1 _ (by omega) _ O14.out).mono ?_
  rintro e w5 ⟨rfl, h5⟩
  have O15 := hide (O14.out.below h5 (Nat.le_refl _))
  have O05 := hide (O04.out.below h5 (Nat.le_refl _))
  have G5 : Grown w1 w5 := Below.trans G4 (h5.mono G4.size)
  clear h5 G4
  have z0 := G5.cells y0 k0
  have l0 := Nat.lt_of_lt_of_le k0 G5.size
  have z1 := G5.cells y1 k1
  have l1 := Nat.lt_of_lt_of_le k1 G5.size
  clear y0 k0 y1 k1
  have y0 := z0; have k0 := l0
  clear z0 l0
  have y1 := z1; have k1 := l1
  clear z1 l1
  go_wp2_with fail
  refine region_V (w := w5) (fun k => if k = 4 then some (fun w v w' => ∃ u, v = .tuple #[u, .int .i64 c] ∧ OwnR w.heap.size w' u L.length (plB L)) else none) (fun _ => false) [4] (.q 0 <| .q 1 <| .q 2 <| .q 3 <| .s1 4 <| .q 5 <| .q 6 <| .q 7 <| .q 8 <| .q 9 .fin) (by kernel_rfl) (by kernel_rfl) (by kernel_rfl) (fun k hk => ?_) ?_
  · simp at hk; simp [hk]
  apply v_other
  · simp only [List.getElem?_toArray, List.getElem?_cons_zero, List.getElem?_cons_succ]; exact rfl
  · rfl
  · rfl
  · go_simp
  · intro wx hx
    have e0 := hx.cells y0 k0
    have e1 := hx.cells y1 k1
    unfold atG
    go_simp
    simp only [uponG]
    exact ⟨by trivial, rfl⟩
  apply v_other
  · simp only [List.getElem?_toArray, List.getElem?_cons_zero, List.getElem?_cons_succ]; exact rfl
  · rfl
  · rfl
  · go_simp
  · intro wx hx
    have e0 := hx.cells y0 k0
    have e1 := hx.cells y1 k1
    unfold atG
    go_simp
    simp only [uponG]
    exact ⟨by trivial, T0.out wx⟩
  apply v_other
  · simp only [List.getElem?_toArray, List.getElem?_cons_zero, List.getElem?_cons_succ]; exact rfl
  · rfl
  · rfl
  · go_simp
  · intro wx hx
    have e0 := hx.cells y0 k0
    have e1 := hx.cells y1 k1
    unfold atG
    go_simp
    simp only [uponG]
    exact ⟨by trivial, rfl⟩
  apply v_other
  · simp only [List.getElem?_toArray, List.getElem?_cons_zero, List.getElem?_cons_succ]; exact rfl
  · rfl
  · rfl
  · go_simp
  · intro wx hx
    have e0 := hx.cells y0 k0
    have e1 := hx.cells y1 k1
    unfold atG
    go_simp
    simp only [uponG]
    exact ⟨by trivial, T1.out wx⟩
  refine v_E (by simp only [List.getElem?_toArray, List.getElem?_cons_zero, List.getElem?_cons_succ]; exact rfl) rfl (by go_simp) (fun wx hx _ => ?_) ?_
  · go_simp
    simp only [uponE]
    exact ⟨by trivial, (C1.out wx).mono fun e w' ⟨u, h1, h2, h3⟩ => ⟨_, h1, h2, u, rfl, h3⟩⟩
  rintro vq ⟨_, _, _, u2, rfl, _⟩
  apply v_other
  · simp only [List.getElem?_toArray, List.getElem?_cons_zero, List.getElem?_cons_succ]; exact rfl
  · rfl
  · rfl
  · go_simp
  · intro wx hx
    unfold atG
    go_simp
    simp only [uponG]
    exact ⟨by trivial, rfl⟩
  apply v_other
  · simp only [List.getElem?_toArray, List.getElem?_cons_zero, List.getElem?_cons_succ]; exact rfl
  · rfl
  · rfl
  · go_simp
  · intro wx hx
    unfold atG
    go_simp
    simp only [uponG]
    exact ⟨by trivial, rfl⟩
  apply v_other
  · simp only [List.getElem?_toArray, List.getElem?_cons_zero, List.getElem?_cons_succ]; exact rfl
  · rfl
  · rfl
  · go_simp
  · intro wx hx
    unfold atG
    go_simp
    simp only [uponG]
    exact ⟨by trivial, rfl⟩
  apply v_other
  · simp only [List.getElem?_toArray, List.getElem?_cons_zero, List.getElem?_cons_succ]; exact rfl
  · rfl
  · rfl
  · go_simp
  · intro wx hx
    unfold atG
    go_simp
    simp only [uponG]
    exact ⟨by trivial, rfl⟩
  apply v_other
  · simp only [List.getElem?_toArray, List.getElem?_cons_zero, List.getElem?_cons_succ]; exact rfl
  · rfl
  · rfl
  · go_simp
  · intro wx hx
    unfold atG
    go_simp
    simp only [uponG]
    exact ⟨by trivial, rfl⟩
  rintro w6 hx ⟨m0, m1, _, k1', k2', ⟨ux, ex, o2⟩, k3'⟩
  injection ex with ex
  have hux : u2 = ux := by
    have := congrArg (fun a : Array Value => a[0]?) ex
    simpa using this
  subst hux
  clear ex
  obtain ⟨A2, c2, rfl, p2⟩ := ownR_form o2
  clear o2
  have q2 := p2.below k3' (Nat.le_refl _)
  have s2a := k1'.size
  have s2b := (k2'.trans k3').size
  have O2 := hide q2; clear p2 q2 k1' k2' k3'
  generalize m0.heap.size = B2 at *
  have O06 := hide (O05.out.below hx (Nat.le_refl _))
  have O16 := hide (O15.out.below hx (Nat.le_refl _))
  have G6 : Grown w1 w6 := Below.trans G5 (Below.mono hx G5.size)
  clear hx G5
  go_wp2_with fail
  refine (eqPlacesS_same L A2 A0 c2 c0 _ _ (by omega) _ O2.out O06.out).mono ?_
  rintro e w7 ⟨rfl, h7⟩
  have O17 := hide (O16.out.below h7 (Nat.le_refl _))
  have G7 : Grown w1 w7 := Below.trans G6 (h7.mono G6.size)
  clear h7 G6
  go_wp2_with fail
  refine (hdP L A1 c1 _ (by omega) _ O17.out).mono ?_
  rintro e w8 ⟨rfl, h8⟩
  have b8 := b1.trans ((Below.trans G7 (h8.mono G7.size)).mono b1.size)
  clear h8 G7
  go_wp2
  go_ret
  exact ⟨rfl, b8⟩
end Go.Proofs.Ytjhpkibeddnbfaa
