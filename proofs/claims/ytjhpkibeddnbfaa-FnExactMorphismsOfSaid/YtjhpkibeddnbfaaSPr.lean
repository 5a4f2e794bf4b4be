/- spec.l02Pairs -/
import Derived.Test.YtjhpkibeddnbfaaPfr
import Derived.IntWalk
namespace Go.Proofs.Ytjhpkibeddnbfaa
open Go.RowKit

/-- sixteen rows of sixteen numbers -/
@[irreducible] def nv (h : Nat → Int) : Array Value := row 256 fun i => .int .i64 (h i)
theorem nv_size (h : Nat → Int) : (nv h).size = 256 := by unfold nv; exact row_size _ _
theorem nv_get (h : Nat → Int) {i : Nat} (hi : i < 256) : (nv h)[i]? = some (.int .i64 (h i)) := by unfold nv; exact row_get _ _ hi
def hset (h : Nat → Int) (i : Nat) (v : Int) : Nat → Int := fun j => if j = i then v else h j
theorem nv_set (h : Nat → Int) (i : Nat) (v : Int) : (nv h).setIfInBounds i (.int .i64 v) = nv (hset h i v) := by
  unfold nv
  rw [row_set]
  apply row_congr
  intro j _
  unfold hset
  by_cases c : j = i
  · rw [if_pos c, if_pos c]
  · rw [if_neg c, if_neg c]
theorem nv_cells (h : Nat → Int) : (nv h).all (·.oneCell') = true := by unfold nv row; simp [Value.oneCell']
/-- the names of the codes in a list -/
def nmF (l : List Nat) : Nat → Int := fun z => if z ∈ l then (l.idxOf z : Int) else -1
theorem nmF_add {l : List Nat} {z : Nat} (h : z ∉ l) : hset (nmF l) z l.length = nmF (l ++ [z]) := by
  funext y
  unfold hset nmF
  by_cases c : y = z
  · subst c
    rw [if_pos rfl, if_pos (by simp), List.idxOf_append, if_neg h]
    simp
  · rw [if_neg c]
    by_cases d : y ∈ l
    · rw [if_pos d, if_pos (by simp [d]), List.idxOf_append, if_pos d]
    · rw [if_neg d, if_neg (by simp [d, c])]
theorem nmF_lt {l : List Nat} {z : Nat} : (nmF l z < 0) ↔ z ∉ l := by
  unfold nmF
  by_cases d : z ∈ l
  · rw [if_pos d]; simp [d]
  · rw [if_neg d]; simp [d]
/-- minus ones, so many -/
def neg (k : Nat) : Nat → Int := fun z => if z < k then -1 else 0
theorem neg_step (k : Nat) : hset (neg k) k (-1) = neg (k + 1) := by
  funext z
  unfold hset neg
  by_cases c : z = k
  · subst c; simp
  · have : z < k + 1 ↔ z < k := by omega
    simp [c, this]
theorem neg_all {z : Nat} (k : Nat) (h : z < 256) : nv (hset (neg 256) z 0) = nv (nmF [z]) := by
  unfold nv
  apply row_congr
  intro j hj
  unfold hset neg nmF
  by_cases c : j = z
  · subst c; simp
  · simp [c, hj]
/-- rows of [2]byte -/
theorem infoPb : (Try.prog.info? 76).map (fun i => (i.zero, i.size, i.bytes)) = some (some (.agg #[.int .u8 0, .int .u8 0]), 2, 2) := by kernel_rfl
def pPairsB (v : Value) (l : List (Nat × Nat)) : Part := pRow v 76 2 l.length (pairB l)
theorem Holds.pairsB {w0 w : World} {L : List Part} (h : Holds w0 w L) (i : Nat) {v : Value} {l : List (Nat × Nat)} (hi : L[i]? = some (pPairsB v l)) {k : Nat} (hk : k < l.length) :
    ∃ g c, v = .slice (some ⟨g, 0, none⟩) l.length c ∧ g < w.heap.size ∧ w.cell? ⟨g, k * 2, none⟩ = some (.int .u8 (l[k].1 : Int)) ∧ w.cell? ⟨g, k * 2 + 1, none⟩ = some (.int .u8 (l[k].2 : Int)) := by
  obtain ⟨g, c, h1, h2, h3, h4, h5, h6, h7⟩ := row_at (h.row i hi) (by omega : 0 < l.length)
  exact ⟨g, c, h1, h3, h6 _ _ (pairB_at hk).1, h6 _ _ (pairB_at hk).2⟩
theorem Holds.pairsBForm {w0 w : World} {L : List Part} (h : Holds w0 w L) (i : Nat) {v : Value} {l : List (Nat × Nat)} (hi : L[i]? = some (pPairsB v l)) : ∃ A c, v = .slice A l.length c := own_slice (h.row i hi)
theorem appBp {ops : Array Oper} {rest : List Oper} {o : Oper} {a : Act} {Q : Exit → Act → World → Prop} {w0 w : World} {L : List Part} (H : Holds w0 w L) (k : Nat) {v : Value} {l : List (Nat × Nat)} (hk : L[k]? = some (pPairsB v l))
    (g : Nat) (news : List (Nat × Nat)) (t : TypeId) (hc : w.heap[g]? = some (.cells (pairB news).toArray t (0, 0))) (hb : l.length + news.length ≤ 1000000)
    (hgd : o.guard = none) (s x : Operand)
    (ho : o.op = .call { callee := .builtin .append, args := #[s, x], argTypes := #[71, 71] })
    (hs : a.eval s = v) (hx : a.eval x = .slice (some ⟨g, 0, none⟩) news.length news.length)
    (h : ∀ v' w', Holds w0 w' (L.set k (pPairsB v' (l ++ news))) → wpList Try.prog ops Q rest (a.put o.dst v') w') : wpList Try.prog ops Q (o :: rest) a w := by
  obtain ⟨i0, hi, hz0, hz1, hz2⟩ := info_parts infoPb
  refine appH (P := Try.prog) hgd s x 71 ho 76 i0 (.agg #[.int .u8 0, .int .u8 0]) 2 2 Try.underlying71 hi hz0 hz1 hz2 rfl (by decide) v l.length (pairB l) hs H k hk ⟨g, 0, none⟩ news.length news.length (pairB news) hx
    (pairB_length _) (fun j u hu => ?_) pairB_one (by unfold maxLen; omega) (by omega) fun v' w' h1 => h v' w' ?_
  · have : ((⟨g, 0, none⟩ : Addr).add j) = ⟨g, j, none⟩ := by simp [Addr.add]; exact Eq.symm
    rw [this, cell_of_cells, cellsOf_heap hc]
    simpa using hu
  · unfold pPairsB at *
    rw [List.length_append, pairB_append]
    exact h1

theorem aggN : AggT 73 256 := ⟨⟨_, Try.underlying73, rfl⟩, by kernel_rfl⟩
theorem zeroN (w : World) : (zeroValue 73).run Try.prog w = .ok (.agg (nv fun _ => 0)) w := by
  have h : (Try.prog.info? 73).map (·.zero) = some (some (.agg (row 256 fun _ => .int .i64 0))) := by unfold row; kernel_rfl
  rcases hi : Try.prog.info? 73 with _ | i
  · rw [hi] at h; cases h
  · rw [hi] at h
    have hz : i.zero = some (.agg (row 256 fun _ => .int .i64 0)) := by simpa using h
    have e : nv (fun _ => 0) = row 256 fun _ => .int .i64 0 := by unfold nv; rfl
    simp [zeroValue, typeInfo, hi, hz, e]
def Is256 (c : Array Value) : Prop := c.size = 256
@[go_sem] theorem is256_nv (f : Nat → Int) : Is256 (nv f) ↔ True := ⟨fun _ => trivial, fun _ => nv_size f⟩
@[go_sem] theorem ones_nv (f : Nat → Int) : Ones (nv f) ↔ True := ⟨fun _ => trivial, fun _ => nv_cells f⟩
@[go_sem] theorem rowOk_at256 {w : World} {g : Nat} {c : Array Value} {t : TypeId} (h : g = w.heap.size) (hc : Is256 c) : rowOk (w.alloc (.cells c t)) g 256 ↔ True := ⟨fun _ => trivial, fun _ => ⟨c, t, heap_at _ _ _ h, hc⟩⟩
section
variable (ρ : Operand → Value) (dst : Option Tmp) (x y : Operand) (ty : TypeId) (pos : String) (after : Array Edge) (guard : Option (Nat × Bool)) {w : World} {g : Nat} {cs : Array Value}
@[go_sem ↓] theorem exec_loadN : execOp ρ { dst, op := .load 73 x, type := ty, pos, after, guard } = loadT 73 (ρ x) := rfl
@[go_sem ↓] theorem exec_storeN : execOp ρ { dst, op := .store 73 x y, type := ty, pos, after, guard } = storeT 73 (ρ x) (ρ y) := rfl
@[go_sem] theorem run_loadN (h : Is256 (cellsOf w g)) : (loadT 73 (.pointer (some ⟨g, 0, none⟩))).run Try.prog w = .ok (.value (.agg (cellsOf w g))) w := run_loadT aggN h (by decide)
@[go_sem] theorem run_storeN (h : rowOk w g 256) (hs : Is256 cs) (hc : Ones cs) : (storeT 73 (.pointer (some ⟨g, 0, none⟩)) (.agg cs)).run Try.prog w = .ok .skip (w.setRow g cs) := run_storeT aggN h hs hc
end
set_option maxRecDepth 100000 in
set_option maxHeartbeats 4000000 in
theorem sPairs_any (f g f' g' : Nat → Nat) (m n : Nat) (hd : DesN f g m) (he : DesN f' g' n) (x y : Nat) (hx : x < 16) (hy : y < 16) (w : World) :
    Calls Try.prog 55 #[.agg (dv m f g), .agg (dv n f' g'), .int .u8 x, .int .u8 y] w fun e w' => ∃ v, e = .returned (.tuple #[v, .agg (nv (nmF (bfs (bF f f') (bF g g') (16 * x + y) 256).1))]) ∧ Below w.heap.size w w' ∧
      w'.ownsRow w.heap.size 76 2 v (bfs (bF f f') (bF g g') (16 * x + y) 256).1.length (pairB (dec (bfs (bF f f') (bF g g') (16 * x + y) 256).1)) := by
  have zz := zeroN
  have hB := fun z hz => bF_lt hd.black he.black z hz
  have hW := fun z hz => bF_lt hd.white he.white z hz
  have hz0 : 16 * x + y < 256 := by omega
  obtain ⟨F, FI, F0, FN, FE⟩ : ∃ (F : Nat → List Nat × (Nat → Bool)), Hid (∀ k, BInv 256 (F k)) ∧ Hid (F 0 = ([16 * x + y], mset (fun _ => false) (16 * x + y))) ∧ Hid (∀ k (hk : k < (F k).1.length), F (k + 1) = bst (bF f f') (bF g g') (F k) ((F k).1[k]) 2) ∧
      Hid (∀ k, k ≤ 256 → (F k).1.length ≤ k → (bfs (bF f f') (bF g g') (16 * x + y) 256).1 = (F k).1) :=
    ⟨bfs (bF f f') (bF g g') (16 * x + y), hide fun k => bfs_inv hB hW hz0 k, hide (bfs_start _ _ _), hide fun k hk => bfs_next hk, hide fun k h1 h2 => by
      generalize 256 = K at *
      rw [bfs_stop h2 h1]⟩
  obtain ⟨R, hR⟩ : ∃ R, R = (bfs (bF f f') (bF g g') (16 * x + y) 256).1 := ⟨_, rfl⟩
  rw [← hR] at FE ⊢
  clear hR
  have HBW := hide (And.intro hB hW); clear hB hW
  have HP := hide (And.intro (And.intro hd.black hd.white) (And.intro he.black he.white)); clear hd he
  have hd0 : dec [16 * x + y] = [(x, y)] := by
    unfold dec
    simp only [List.map_cons, List.map_nil]
    rw [show (16 * x + y) / 16 = x by omega, show (16 * x + y) % 16 = y by omega]
  have HD0 := hide hd0; clear hd0
  have HHa := (((Holds.start w).blk (dv m f g) 30 w.heap.size rfl).blk (dv n f' g') 30 (w.heap.size + 1) (by simp)).blk (nv fun _ => 0) 73 (w.heap.size + 1 + 1) (by simp)
  have HHb := (HHa.rowNew #[.int .u8 x, .int .u8 y] 76 2 1 (w.heap.size + 1 + 1 + 1) (by simp) rfl (by unfold maxLen; omega)).blk (nv fun _ => 0) 73 (w.heap.size + 1 + 1 + 1 + 1) (by simp)
  clear HHa
  go_enter Try.func55, Try.ntmps55
  go_wp2
  clear zz
  go_loopw [12] (fun t wr => ∃ i : Nat, i ≤ 16 ∧ t = .int .i64 i ∧ Holds w wr [pBlk (w.heap.size + 1 + 1 + 1 + 1) (nv (neg (16 * i))) 73, pPairsB (.slice (some ⟨(w.heap.size + 1 + 1 + 1), 0, none⟩) 1 1) [(x, y)], pBlk (w.heap.size + 1 + 1) (nv fun _ => 0) 73, pBlk (w.heap.size + 1) (dv n f' g') 30, pBlk w.heap.size (dv m f g) 30]) (fun t _ => 16 - (intOf t).toNat)
  case atStart => exact ⟨0, by omega, rfl, by rw [show neg (16 * 0) = fun _ => 0 from by funext z; simp [neg]]; exact HHb⟩
  case round =>
    clear HHb
    obtain ⟨i, hi, rfl, hH⟩ := hrel
    by_cases hil : i < 16
    · go_wp2
      go_loopw [13] (fun t wr => ∃ k : Nat, k ≤ 16 ∧ t = .int .i64 k ∧ Holds w wr [pBlk (w.heap.size + 1 + 1 + 1 + 1) (nv (neg (16 * i + k))) 73, pPairsB (.slice (some ⟨(w.heap.size + 1 + 1 + 1), 0, none⟩) 1 1) [(x, y)], pBlk (w.heap.size + 1 + 1) (nv fun _ => 0) 73, pBlk (w.heap.size + 1) (dv n f' g') 30, pBlk w.heap.size (dv m f g) 30]) (fun t _ => 16 - (intOf t).toNat)
      case atStart => exact ⟨0, by omega, rfl, hH⟩
      case round =>
        clear hH
        obtain ⟨k, hk, rfl, hH⟩ := hrel
        by_cases hkl : k < 16
        · have z1 := hH.cell 0 rfl (nv_get (neg (16 * i + k)) (i := i * 16 + k) (by omega))
          have f1 := hH.frozen 0 rfl (i * 16 + k)
          have hs := neg_step (16 * i + k)
          rw [show hset (neg (16 * i + k)) (16 * i + k) (-1) = hset (neg (16 * i + k)) (i * 16 + k) (-1) by rw [Nat.mul_comm]] at hs
          have HS := hide hs; clear hs
          go_wp2
          go_roundw
          case rel => exact ⟨k + 1, by omega, by go_num, by rw [← Nat.add_assoc, ← HS.out, ← nv_set]; exact hH.set 0 rfl (i * 16 + k) _⟩
          case measure => simp [intOf]; omega
        · obtain rfl : k = 16 := by omega
          clear hk hkl
          go_wp2
          go_roundw
          case rel => exact ⟨i + 1, by omega, by go_num, by rw [show 16 * (i + 1) = 16 * i + 16 by omega]; exact hH⟩
          case measure => simp [intOf]; omega
    · obtain rfl : i = 16 := by omega
      clear hi hil
      have z1 := hH.cell 0 rfl (nv_get (neg (16 * 16)) (i := x * 16 + y) (by omega))
      have f1 := hH.frozen 0 rfl (x * 16 + y)
      have hx' : (x : Int) < 16 := by omega
      have hy' : (y : Int) < 16 := by omega
      have hq : (nv (neg (16 * 16))).setIfInBounds (x * 16 + y) (.int .i64 0) = nv (nmF [16 * x + y]) := by
        rw [nv_set, show x * 16 + y = 16 * x + y by omega]; exact neg_all 0 hz0
      have hH1 := hH.set 0 rfl (x * 16 + y) (.int .i64 0)
      rw [hq, ← HD0.out] at hH1
      clear hq
      -- second half
      have hF0 := F0.out
      rw [show nmF [16 * x + y] = nmF (F 0).1 by rw [hF0], show [16 * x + y] = (F 0).1 by rw [hF0]] at hH1
      clear hF0
      go_wp2
      clear z1 f1 hx' hy'
      clear hH
      go_loopw [11, 14] (fun u t wr => ∃ k : Nat, k ≤ (F k).1.length ∧ t = .int .i64 k ∧ Holds w wr [pBlk (w.heap.size + 1 + 1 + 1 + 1) (nv (nmF (F k).1)) 73, pPairsB u (dec (F k).1), pBlk (w.heap.size + 1 + 1) (nv fun _ => 0) 73, pBlk (w.heap.size + 1) (dv n f' g') 30, pBlk w.heap.size (dv m f g) 30]) (fun _ t _ => 257 - (intOf t).toNat)
      case atStart => exact ⟨0, by omega, rfl, hH1⟩
      case round =>
        clear hH1
        obtain ⟨k, hk, rfl, hH⟩ := hrel
        have hI := FI.out k
        have hle := hI.length_le
        by_cases hkl : k < (F k).1.length
        · obtain ⟨g0, c0, rfl, _, y1, y2⟩ := hH.pairsB 1 rfl (k := k) (by rw [dec_length]; exact hkl)
          have hnx := FN.out k hkl
          have hX := hI.lt _ (List.getElem_mem hkl)
          have hda := dec_at hkl
          obtain ⟨a, hab1⟩ : ∃ a, a = (F k).1[k] / 16 := ⟨_, rfl⟩
          obtain ⟨b, hab2⟩ : ∃ b, b = (F k).1[k] % 16 := ⟨_, rfl⟩
          rw [← hab1, ← hab2] at hda
          rw [hda] at y1 y2
          clear hda
          have ha16 : a < 16 := by omega
          have hb16 : b < 16 := by omega
          have ha' : (a : Int) < 16 := by omega
          have hb' : (b : Int) < 16 := by omega
          rw [dec_length] at hH ⊢
          generalize hS : F k = S at *
          generalize S.1[k] = X at *
          have HS := hide hS; clear hS
          have HNX := hide hnx; clear hnx
          have HI := hide hI; clear hI
          have hfa := HP.out.1.1.lt16 ha16
          have hga := HP.out.1.2.lt16 ha16
          have hfb := HP.out.2.1.lt16 hb16
          have hgb := HP.out.2.2.lt16 hb16
          have hB := HBW.out.1 X hX
          have hW := HBW.out.2 X hX
          have vB : bF f f' X / 16 = f a ∧ bF f f' X % 16 = f' b := by rw [hab1, hab2]; rw [hab2] at hfb; exact ⟨bF_1 hfb, bF_2 hfb⟩
          have vW : bF g g' X / 16 = g a ∧ bF g g' X % 16 = g' b := by rw [hab1, hab2]; rw [hab2] at hgb; exact ⟨bF_1 hgb, bF_2 hgb⟩
          have eB : f a * 16 + f' b = bF f f' X ∧ f a < 16 ∧ f' b < 16 := ⟨by omega, hfa, hfb⟩
          have eW : g a * 16 + g' b = bF g g' X ∧ g a < 16 ∧ g' b < 16 := ⟨by omega, hga, hgb⟩
          have dB : ∀ l : List Nat, dec (l ++ [bF f f' X]) = dec l ++ [(f a, f' b)] := fun l => by rw [dec_snoc, vB.1, vB.2]
          have dW : ∀ l : List Nat, dec (l ++ [bF g g' X]) = dec l ++ [(g a, g' b)] := fun l => by rw [dec_snoc, vW.1, vW.2]
          have DD := hide (And.intro dB dW); clear dB dW
          have EE := hide (And.intro eB eW); clear eB eW vB vW
          have HAB := hide (And.intro hab1 hab2); clear hab1 hab2
          have HBX := hide (And.intro hB hW); clear hB hW
          have HH0 := hH.blk #[.int .u8 (a : Nat), .int .u8 (b : Nat)] 76 wr.heap.size rfl
          go_wp2
          clear y1 y2 hH
          generalize wr.alloc (.cells #[.int .u8 (a : Nat), .int .u8 (b : Nat)] 76) = wo at *
          generalize wr.heap.size = G5 at *
          go_loopw [11, 16] (fun u t wr => ∃ i : Nat, i ≤ 2 ∧ t = .int .i64 i ∧ Holds w wr [pBlk G5 #[.int .u8 (a : Nat), .int .u8 (b : Nat)] 76, pBlk (w.heap.size + 1 + 1 + 1 + 1) (nv (nmF (bst (bF f f') (bF g g') S X i).1)) 73, pPairsB u (dec (bst (bF f f') (bF g g') S X i).1), pBlk (w.heap.size + 1 + 1) (nv fun _ => 0) 73, pBlk (w.heap.size + 1) (dv n f' g') 30, pBlk w.heap.size (dv m f g) 30]) (fun _ t _ => 2 - (intOf t).toNat)
          case atStart => exact ⟨0, by omega, rfl, HH0⟩
          case round =>
            clear HH0
            obtain ⟨i, hi, rfl, hH⟩ := hrel
            by_cases hi2 : i < 2
            · have hIT := bst_inv HI.out HBX.out.1 HBX.out.2 i
              go_wp2
              refine Rd.region_P (w0 := w) [pBlk G5 #[.int .u8 (a : Nat), .int .u8 (b : Nat)] 76, pBlk (w.heap.size + 1 + 1 + 1 + 1) (nv (nmF (bst (bF f f') (bF g g') S X i).1)) 73, pPairsB u11 (dec (bst (bF f f') (bF g g') S X i).1), pBlk (w.heap.size + 1 + 1) (nv fun _ => 0) 73, pBlk (w.heap.size + 1) (dv n f' g') 30, pBlk w.heap.size (dv m f g) 30] [pBlk G5 #[.int .u8 (a : Nat), .int .u8 (b : Nat)] 76, pBlk (w.heap.size + 1 + 1 + 1 + 1) (nv (nmF (bst (bF f f') (bF g g') S X i).1)) 73, pPairsB u11 (dec (bst (bF f f') (bF g g') S X i).1), pBlk (w.heap.size + 1 + 1) (nv fun _ => 0) 73, pBlk (w.heap.size + 1) (dv n f' g') 30, pBlk w.heap.size (dv m f g) 30] [11, 12] (.q 0 <| .q 1 <| .q 2 <| .q 3 <| .q 4 <| .q 5 <| .q 6 <| .q 7 <| .q 8 <| .q 9 <| .q 10 <| .s1 11 <| .s1 12 .fin) hH (.refl _) (by kernel_rfl) (by kernel_rfl) (by kernel_rfl) ?_
              iterate 11
                apply Rd.v_q
                · simp only [List.getElem?_toArray, List.getElem?_cons_zero, List.getElem?_cons_succ]; exact rfl
                · rfl
                · go_simp
                · intro wx hx
                  have q1 := hx.cell 0 (j := 0) rfl rfl
                  have q2 := hx.cell 0 (j := 1) rfl rfl
                  have c3 := hx.cell 5 rfl (dv_b m f g ha16)
                  have c4 := hx.cell 4 rfl (dv_b n f' g' hb16)
                  unfold atG
                  go_simp
                  simp only [uponG]
                  exact ⟨by trivial, rfl⟩
              refine Rd.v_box #[.int .u8 0, .int .u8 0] 76 (by simp only [List.getElem?_toArray, List.getElem?_cons_zero, List.getElem?_cons_succ]; exact rfl) rfl (by go_simp) (fun wx hx hD => by go_simp) fun gq => ?_
              refine Rd.v_s (Rd.rHolds w fun _ => pBlk gq #[(.int .u8 (f a : Nat)), (.int .u8 (f' b : Nat))] 76 :: [pBlk G5 #[.int .u8 (a : Nat), .int .u8 (b : Nat)] 76, pBlk (w.heap.size + 1 + 1 + 1 + 1) (nv (nmF (bst (bF f f') (bF g g') S X i).1)) 73, pPairsB u11 (dec (bst (bF f f') (bF g g') S X i).1), pBlk (w.heap.size + 1 + 1) (nv fun _ => 0) 73, pBlk (w.heap.size + 1) (dv n f' g') 30, pBlk w.heap.size (dv m f g) 30]) Rd.rHolds_stable (by simp only [List.getElem?_toArray, List.getElem?_cons_zero, List.getElem?_cons_succ]; exact rfl) rfl (by go_simp) (fun wx hx hD => ?_) ?_
              · skip
                have c0 := hD.cell 0 (j := 0) rfl rfl
                have fr0 := hD.frozen 0 rfl 0
                have c1 := hD.cell 0 (j := 1) rfl rfl
                have fr1 := hD.frozen 0 rfl 1
                go_simp
                simp only [Rd.uponE]
                have h2 := (hD.set 0 rfl 0 ((.int .u8 (f a : Nat)))).set 0 rfl 1 ((.int .u8 (f' b : Nat)))
                exact ⟨h2.tail, h2⟩
              rintro vn -

              rintro w2 - hT
              clear hH
              generalize gq = G6 at *
              have hii : i = 0 ∨ i = 1 := by omega
              rcases hii with hi0 | hi1
              · obtain rfl := hi0
                have hst : bst (bF f f') (bF g g') S X 1 = badd (bst (bF f f') (bF g g') S X 0) (bF f f' X) := rfl
                generalize bst (bF f f') (bF g g') S X 0 = T at *
                have HIT := hide hIT; clear hIT
                have HST := hide hst; clear hst
                go_wp2
                have hzi : f a * 16 + f' b = bF f f' X := EE.out.1.1
                have hx16 : f a < 16 := EE.out.1.2.1
                have hy16 : f' b < 16 := EE.out.1.2.2
                have hz256 := HBX.out.1
                have hxi : ((f a : Nat) : Int) < 16 := by omega
                have hyi : ((f' b : Nat) : Int) < 16 := by omega
                have t0 := hT.cell 0 (j := 0) rfl rfl
                have t1 := hT.cell 0 (j := 1) rfl rfl
                have n0 := hT.cell 2 rfl (nv_get (nmF T.1) (i := f a * 16 + f' b) (by omega))
                have hTl := HIT.out.length_le
                rcases hTY : T.2 (bF f f' X) with _ | _
                · have hnm : (bF f f' X) ∉ T.1 := fun h => by rw [(HIT.out.mem _).2 h] at hTY; cases hTY
                  have hneg : decide (nmF T.1 (f a * 16 + f' b) < 0) = true := by rw [hzi]; simpa using nmF_lt.2 hnm
                  have hq : (nv (nmF T.1)).setIfInBounds (f a * 16 + f' b) (.int .i64 (T.1.length : Nat)) = nv (nmF (T.1 ++ [bF f f' X])) := by rw [nv_set, hzi]; exact congrArg nv (nmF_add hnm)
                  have HTY := hide hTY; clear hTY
                  have HQ := hide hq; clear hq hnm hzi
                  obtain ⟨A', c', rfl⟩ := hT.pairsBForm 3 rfl
                  rw [dec_length] at hT ⊢
                  go_wp2
                  go_quiet (fail)
                  have hTq := hT.drewN nq
                  clear t0 t1 n0 hT hneg
                  generalize w2.drewN nq = wq at *
                  go_wp2
                  refine region_tail (fun wx => Holds w wx _) 8 (by kernel_rfl) (by kernel_rfl) hTq.drew ?_
                  simp only [List.take_succ_cons, List.take_zero, List.drop_succ_cons, List.drop_zero]
                  iterate 8
                    apply q_step
                    · go_simp
                    · intro wx hx
                      have t0 := hx.cell 0 (j := 0) rfl rfl
                      have t1 := hx.cell 0 (j := 1) rfl rfl
                      go_simp
                      try exact rfl
                  refine wpQuiet_nil ?_
                  intro w4 hx4
                  have n0 := hx4.cell 2 rfl (nv_get (nmF T.1) (i := f a * 16 + f' b) (by omega))
                  have n1 := hx4.frozen 2 rfl (f a * 16 + f' b)
                  have hS := hx4.set 2 rfl (f a * 16 + f' b) (.int .i64 (T.1.length : Nat))
                  rw [HQ.out] at hS
                  have t0 := hS.cell 0 (j := 0) rfl rfl
                  have t1 := hS.cell 0 (j := 1) rfl rfl
                  clear hTq
                  go_wp2_with (at_builtin; refine appBp (hS.alloc _) 3 rfl w4.heap.size [(f a, f' b)] 76 ?_ ?_ rfl _ _ rfl rfl rfl ?_)
                  · exact heap_at _ _ _ (by simp)
                  · rw [dec_length]; simp only [List.length_cons, List.length_nil]; omega
                  intro v' w5 hH5
                  clear t0 t1 n0 n1 hx4 hS
                  go_wp2
                  go_roundw
                  case rel =>
                    refine ⟨1, by omega, by go_num, ?_⟩
                    rw [HST.out, badd_new HTY.out]
                    show Holds w w5 [_, pBlk _ (nv (nmF (T.1 ++ [bF f f' X]))) _, pPairsB v' (dec (T.1 ++ [bF f f' X])), _, _, _]
                    rw [DD.out.1]
                    exact hH5.tail
                  case measure => simp [intOf]
                · have hnm : (bF f f' X) ∈ T.1 := (HIT.out.mem _).1 hTY
                  have hneg : decide (nmF T.1 (f a * 16 + f' b) < 0) = false := by
                    rw [hzi]
                    exact decide_eq_false fun h => nmF_lt.1 h hnm
                  have HTY := hide hTY; clear hTY hnm hzi
                  go_wp2
                  go_quiet (fail)
                  have hTq := hT.drewN nq
                  clear t0 t1 n0 hT hneg
                  go_wp2
                  go_roundw
                  case rel =>
                    refine ⟨1, by omega, by go_num, ?_⟩
                    rw [HST.out, badd_old HTY.out]
                    exact hTq.tail
                  case measure => simp [intOf]

              · obtain rfl := hi1
                have hst : bst (bF f f') (bF g g') S X 2 = badd (bst (bF f f') (bF g g') S X 1) (bF g g' X) := rfl
                generalize bst (bF f f') (bF g g') S X 1 = T at *
                have HIT := hide hIT; clear hIT
                have HST := hide hst; clear hst
                go_wp2
                refine region_tail (fun wx => Holds w wx _) 11 (by kernel_rfl) (by kernel_rfl) hT.drew ?_
                simp only [List.take_succ_cons, List.take_zero, List.drop_succ_cons, List.drop_zero]
                iterate 11
                  apply q_step
                  · go_simp
                  · intro wx hx
                    have q1 := hx.cell 1 (j := 0) rfl rfl
                    have q2 := hx.cell 1 (j := 1) rfl rfl
                    have c3 := hx.cell 6 rfl (dv_w m f g ha16)
                    have c4 := hx.cell 5 rfl (dv_w n f' g' hb16)
                    go_simp
                    try exact rfl
                refine wpQuiet_nil ?_
                intro w3 hx3
                have c0 := hx3.cell 0 (j := 0) rfl rfl
                have fr0 := hx3.frozen 0 rfl 0
                have c1 := hx3.cell 0 (j := 1) rfl rfl
                have fr1 := hx3.frozen 0 rfl 1
                clear hT
                have hT := (hx3.set 0 rfl 0 (.int .u8 (g a : Nat))).set 0 rfl 1 (.int .u8 (g' b : Nat))
                replace hT : Holds w ((w3.setCell ⟨G6, 0, none⟩ (.int .u8 (g a : Nat))).setCell ⟨G6, 1, none⟩ (.int .u8 (g' b : Nat))) [pBlk G6 #[.int .u8 (g a : Nat), .int .u8 (g' b : Nat)] 76, pBlk G5 #[.int .u8 (a : Nat), .int .u8 (b : Nat)] 76, pBlk (w.heap.size + 1 + 1 + 1 + 1) (nv (nmF T.1)) 73, pPairsB u11 (dec T.1), pBlk (w.heap.size + 1 + 1) (nv fun _ => 0) 73, pBlk (w.heap.size + 1) (dv n f' g') 30, pBlk w.heap.size (dv m f g) 30] := hT
                go_wp2_with fail
                clear c0 c1 fr0 fr1 hx3
                generalize (w3.setCell ⟨G6, 0, none⟩ (.int .u8 (g a : Nat))).setCell ⟨G6, 1, none⟩ (.int .u8 (g' b : Nat)) = w6 at *
                have hzi : g a * 16 + g' b = bF g g' X := EE.out.2.1
                have hx16 : g a < 16 := EE.out.2.2.1
                have hy16 : g' b < 16 := EE.out.2.2.2
                have hz256 := HBX.out.2
                have hxi : ((g a : Nat) : Int) < 16 := by omega
                have hyi : ((g' b : Nat) : Int) < 16 := by omega
                have t0 := hT.cell 0 (j := 0) rfl rfl
                have t1 := hT.cell 0 (j := 1) rfl rfl
                have n0 := hT.cell 2 rfl (nv_get (nmF T.1) (i := g a * 16 + g' b) (by omega))
                have hTl := HIT.out.length_le
                rcases hTY : T.2 (bF g g' X) with _ | _
                · have hnm : (bF g g' X) ∉ T.1 := fun h => by rw [(HIT.out.mem _).2 h] at hTY; cases hTY
                  have hneg : decide (nmF T.1 (g a * 16 + g' b) < 0) = true := by rw [hzi]; simpa using nmF_lt.2 hnm
                  have hq : (nv (nmF T.1)).setIfInBounds (g a * 16 + g' b) (.int .i64 (T.1.length : Nat)) = nv (nmF (T.1 ++ [bF g g' X])) := by rw [nv_set, hzi]; exact congrArg nv (nmF_add hnm)
                  have HTY := hide hTY; clear hTY
                  have HQ := hide hq; clear hq hnm hzi
                  obtain ⟨A', c', rfl⟩ := hT.pairsBForm 3 rfl
                  rw [dec_length] at hT ⊢
                  go_wp2
                  go_quiet (fail)
                  have hTq := hT.drewN nq
                  clear t0 t1 n0 hT hneg
                  generalize w6.drewN nq = wq at *
                  go_wp2
                  refine region_tail (fun wx => Holds w wx _) 8 (by kernel_rfl) (by kernel_rfl) hTq.drew ?_
                  simp only [List.take_succ_cons, List.take_zero, List.drop_succ_cons, List.drop_zero]
                  iterate 8
                    apply q_step
                    · go_simp
                    · intro wx hx
                      have t0 := hx.cell 0 (j := 0) rfl rfl
                      have t1 := hx.cell 0 (j := 1) rfl rfl
                      go_simp
                      try exact rfl
                  refine wpQuiet_nil ?_
                  intro w4 hx4
                  have n0 := hx4.cell 2 rfl (nv_get (nmF T.1) (i := g a * 16 + g' b) (by omega))
                  have n1 := hx4.frozen 2 rfl (g a * 16 + g' b)
                  have hS := hx4.set 2 rfl (g a * 16 + g' b) (.int .i64 (T.1.length : Nat))
                  rw [HQ.out] at hS
                  have t0 := hS.cell 0 (j := 0) rfl rfl
                  have t1 := hS.cell 0 (j := 1) rfl rfl
                  clear hTq
                  go_wp2_with (at_builtin; refine appBp (hS.alloc _) 3 rfl w4.heap.size [(g a, g' b)] 76 ?_ ?_ rfl _ _ rfl rfl rfl ?_)
                  · exact heap_at _ _ _ (by simp)
                  · rw [dec_length]; simp only [List.length_cons, List.length_nil]; omega
                  intro v' w5 hH5
                  clear t0 t1 n0 n1 hx4 hS
                  go_wp2
                  go_roundw
                  case rel =>
                    refine ⟨2, by omega, by go_num, ?_⟩
                    rw [HST.out, badd_new HTY.out]
                    show Holds w w5 [_, pBlk _ (nv (nmF (T.1 ++ [bF g g' X]))) _, pPairsB v' (dec (T.1 ++ [bF g g' X])), _, _, _]
                    rw [DD.out.2]
                    exact hH5.tail
                  case measure => simp [intOf]
                · have hnm : (bF g g' X) ∈ T.1 := (HIT.out.mem _).1 hTY
                  have hneg : decide (nmF T.1 (g a * 16 + g' b) < 0) = false := by
                    rw [hzi]
                    exact decide_eq_false fun h => nmF_lt.1 h hnm
                  have HTY := hide hTY; clear hTY hnm hzi
                  go_wp2
                  go_quiet (fail)
                  have hTq := hT.drewN nq
                  clear t0 t1 n0 hT hneg
                  go_wp2
                  go_roundw
                  case rel =>
                    refine ⟨2, by omega, by go_num, ?_⟩
                    rw [HST.out, badd_old HTY.out]
                    exact hTq.tail
                  case measure => simp [intOf]

            · obtain rfl : i = 2 := by omega
              have hn2 := HNX.out
              rw [← hn2] at hH
              have hln : k + 1 ≤ (F (k + 1)).1.length := by
                have h1 := (bst_pre (bF f f') (bF g g') S X 2).length_le
                rw [hn2]; omega
              clear hi hi2 hn2
              go_wp2
              refine ⟨?_, ?measure⟩
              iterate 63 apply Exists.intro
              refine ⟨?rel, rfl⟩
              case rel =>
                exact ⟨k + 1, hln, by go_num, hH.tail⟩
              case measure => simp [intOf]; omega
        · have hR := FE.out k (by omega) (by omega)
          have hkk : (F k).1.length = k := by omega
          obtain ⟨A', c', rfl⟩ := hH.pairsBForm 1 rfl
          have hRl : R.length = k := by rw [hR]; exact hkk
          have hdl : (dec (F k).1).length = k := by rw [dec_length]; exact hkk
          rw [hdl] at hH ⊢
          rw [← hR] at hH
          have HRL := hide hRl
          clear hR hkk hdl hRl hI hle hk hkl
          go_wp2
          refine region_tail (fun wx => Holds w wx _) 3 (by kernel_rfl) (by kernel_rfl) hH.drew ?_
          simp only [List.take_succ_cons, List.take_zero, List.drop_succ_cons, List.drop_zero]
          iterate 3
            apply q_step
            · go_simp
            · intro wx hx
              have cc := hx.cells 0 rfl
              go_simp
              try exact rfl
          refine wpQuiet_nil ?_
          intro w3 hx3
          have rr := hx3.rowOk 2 rfl (nv_size _)
          go_wp2
          have H2 := hx3.setRow 2 rfl (nv (nmF R))
          refine res_agg2b (p := 9) (t := 8) (g := w.heap.size + 1 + 1) aggN (nv_size _) rfl rfl rfl rfl (H2.at 2 rfl) ⟨_, rfl, H2.low, ?_⟩
          have hr := H2.row 1 rfl
          rw [dec_length] at hr
          exact hr
end Go.Proofs.Ytjhpkibeddnbfaa
