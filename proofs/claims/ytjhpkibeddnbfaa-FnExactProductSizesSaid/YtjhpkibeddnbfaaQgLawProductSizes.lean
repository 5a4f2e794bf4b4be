/- Texts put together: SPrSz -/
import Derived.Test.YtjhpkibeddnbfaaQfLawProductSizes
import Derived.Test.YtjhpkibeddnbfaaChecked
import Derived.WalkKit
import Derived.WalkSpells
import Derived.WalkLawsBesides
import Derived.Deep.LoopGhost
import Derived.Deep.OwnRows
import Derived.Laws.Rows
import Derived.Laws.Tables
import Derived.Laws.CopyOwn
import Derived.ProofKit
import Derived.OpenShut
import Derived.ShutString
import Derived.ChangeOld
import Derived.Below
import Derived.Laws.OwnMore
import Derived.Maps.Keyed
import Derived.DeepKeys4
import Derived.Maps.Own
import Derived.Laws.CopyRow
import Derived.Deep.MidRow
import Derived.Deep.Quiet
import Derived.Deep.QuietTactic
import Derived.BigQuiet
import Derived.StillTail
import Derived.Carry
import Derived.RegionTactic
import Derived.ChangeKeysEq
import Derived.StillTailTactics
import Derived.Deep.RegionWith
import Derived.Deep.RegionHeld3
import Derived.IntWalk
import Derived.Shelf.SortM.Plain
import Derived.Shelf.SlicesG.Reverse
import Derived.Shelf.SlGeneric
import Derived.Laws.Cover3
namespace Go.Proofs.Ytjhpkibeddnbfaa
open Go.RowKit

/-- sixteen rows of sixteen marks -/
@[irreducible] def lv (s : Nat → Bool) : Array Value := row 256 fun i => .bool (s i)
theorem lv_size (s : Nat → Bool) : (lv s).size = 256 := by unfold lv; exact row_size _ _
theorem lv_get (s : Nat → Bool) {i : Nat} (hi : i < 256) : (lv s)[i]? = some (.bool (s i)) := by unfold lv; exact row_get _ _ hi
theorem lv_set (s : Nat → Bool) (i : Nat) : (lv s).setIfInBounds i (.bool true) = lv (mset s i) := by
  unfold lv
  rw [row_set]
  apply row_congr
  intro j _
  unfold mset
  by_cases c : j = i
  · subst c; simp
  · simp [c]
theorem lv_cells (s : Nat → Bool) : (lv s).all (·.oneCell') = true := by unfold lv row; simp [Value.oneCell']
theorem agg80 : AggT 80 256 := ⟨⟨_, Try.underlying80, rfl⟩, by kernel_rfl⟩
theorem zero80 (w : World) : (zeroValue 80).run Try.prog w = .ok (.agg (lv fun _ => false)) w := by
  have h : (Try.prog.info? 80).map (·.zero) = some (some (.agg (row 256 fun _ => .bool false))) := by unfold row; kernel_rfl
  rcases hi : Try.prog.info? 80 with _ | i
  · rw [hi] at h; cases h
  · rw [hi] at h
    have hz : i.zero = some (.agg (row 256 fun _ => .bool false)) := by simpa using h
    have e : lv (fun _ => false) = row 256 fun _ => .bool false := by unfold lv; rfl
    simp [zeroValue, typeInfo, hi, hz, e]
@[go_sem] theorem is256_lv (f : Nat → Bool) : Is256 (lv f) ↔ True := ⟨fun _ => trivial, fun _ => lv_size f⟩
@[go_sem] theorem ones_lv (f : Nat → Bool) : Ones (lv f) ↔ True := ⟨fun _ => trivial, fun _ => lv_cells f⟩
section
variable (ρ : Operand → Value) (dst : Option Tmp) (x y : Operand) (ty : TypeId) (pos : String) (after : Array Edge) (guard : Option (Nat × Bool)) {w : World} {g : Nat} {cs : Array Value}
@[go_sem ↓] theorem exec_store80 : execOp ρ { dst, op := .store 80 x y, type := ty, pos, after, guard } = storeT 80 (ρ x) (ρ y) := rfl
@[go_sem] theorem run_store80 (h : rowOk w g 256) (hs : Is256 cs) (hc : Ones cs) : (storeT 80 (.pointer (some ⟨g, 0, none⟩)) (.agg cs)).run Try.prog w = .ok .skip (w.setRow g cs) := run_storeT agg80 h hs hc
end

/-- numbers at the end of a list, read from anywhere -/
theorem appIz {ops : Array Oper} {rest : List Oper} {o : Oper} {a : Act} {Q : Exit → Act → World → Prop} {w0 w : World} {L : List Part} (H : Holds w0 w L) (k : Nat) {v : Value} {l : List Nat} (hk : L[k]? = some (pInts v l))
    (ad : Addr) (c : Nat) (news : List Nat) (hc : ∀ j u, (nums news)[j]? = some u → w.cell? (ad.add j) = some u) (hb : l.length + news.length ≤ 1000000)
    (hgd : o.guard = none) (s x : Operand)
    (ho : o.op = .call { callee := .builtin .append, args := #[s, x], argTypes := #[48, 48] })
    (hs : a.eval s = v) (hx : a.eval x = .slice (some ad) news.length c)
    (h : ∀ v' w', Holds w0 w' (L.set k (pInts v' (l ++ news))) → wpList Try.prog ops Q rest (a.put o.dst v') w') : wpList Try.prog ops Q (o :: rest) a w := by
  obtain ⟨i0, hi, hz0, hz1, hz2⟩ := info_parts info64
  refine appH (P := Try.prog) hgd s x 48 ho 2 i0 (.int .i64 0) 1 8 Try.underlying48 hi hz0 hz1 hz2 rfl (by decide) v l.length (nums l) hs H k hk ad news.length c (nums news) hx
    (by rw [nums_length]; omega) hc nums_one (by unfold maxLen; omega) (by omega) fun v' w' h1 => h v' w' ?_
  unfold pInts at *
  have e : nums (l ++ news) = nums l ++ nums news := by unfold nums; simp
  rw [List.length_append, e]
  exact h1

set_option maxRecDepth 100000 in
set_option maxHeartbeats 1000000 in
theorem sOwn_any (g n c : Nat) (ns : List Nat) (hn : ns.length = n) (hb : n ≤ 1000000) (w : World) (hg : g < w.heap.size) (hc : ∀ (j : Nat) (u : Value), (nums ns)[j]? = some u → w.cell? ⟨g, j, none⟩ = some u) :
    Calls Try.prog 58 #[.slice (some ⟨g, 0, none⟩) n c] w fun e w' => ∃ v, e = .returned v ∧ Below w.heap.size w w' ∧ Own1 w.heap.size w' v ns := by
  have hc2 : ∀ (j : Nat) (u : Value), (nums ns)[j]? = some u → (w.alloc (.cells #[] 2)).cell? ((⟨g, 0, none⟩ : Addr).add j) = some u := fun j u h => by
    have e : ((⟨g, 0, none⟩ : Addr).add j) = ⟨g, j, none⟩ := by simp [Addr.add]; exact Eq.symm
    rw [e]
    have h1 := hc j u h
    rw [cell_of_cells] at h1 ⊢
    rw [cellsOf_past hg]
    exact h1
  have HC := hide hc2; clear hc hc2
  subst hn
  have H1 : Holds w (w.alloc (.cells #[] 2)) [pInts (.slice (some ⟨w.heap.size, 0, none⟩) 0 0) []] := (Holds.start w).rowNew #[] 2 1 0 w.heap.size rfl rfl (by unfold maxLen; omega)
  go_enter Try.func58, Try.ntmps58
  go_wp2_with (at_builtin; refine appIz H1 0 rfl ⟨g, 0, none⟩ c ns HC.out (by simpa using hb) rfl _ _ rfl rfl rfl ?_)
  intro v' w' H2
  go_wp2
  go_ret
  exact ⟨v', rfl, H2.low, by have := H2.own1 0 rfl; simpa using this⟩
theorem take_split {l : List Nat} {s i : Nat} (hi : i ≤ l.length) (h1 : ∀ j (hj : j < l.length), j < i → l[j] < s) (h2 : i = l.length ∨ ∃ h : i < l.length, ¬ l[i] < s) : insU s l = l.take i ++ s :: l.drop i := by
  have key : ∀ (l : List Nat) (i : Nat), i ≤ l.length → (∀ j (hj : j < l.length), j < i → l[j] < s) → (i = l.length ∨ ∃ h : i < l.length, ¬ l[i] < s) → l.takeWhile (fun a => decide (a < s)) = l.take i ∧ l.dropWhile (fun a => decide (a < s)) = l.drop i := by
    intro l
    induction l with
    | nil => intro i hi _ _; obtain rfl : i = 0 := by simpa using hi
             simp
    | cons a l ih =>
      intro i hi h1 h2
      rcases i with _ | i
      · rcases h2 with h2 | ⟨h, h2⟩
        · simp at h2
        · have : ¬ a < s := h2
          simp [List.takeWhile_cons, List.dropWhile_cons, this]
      · have ha : a < s := h1 0 (by simp) (by omega)
        obtain ⟨e1, e2⟩ := ih i (by simpa using hi) (fun j hj hji => by have := h1 (j + 1) (by simpa using hj) (by omega); simpa using this) (by
          rcases h2 with h2 | ⟨h, h2⟩
          · left; simpa using h2
          · right; exact ⟨by simpa using h, by simpa using h2⟩)
        simp [List.takeWhile_cons, List.dropWhile_cons, ha, e1, e2]
  obtain ⟨e1, e2⟩ := key l i hi h1 h2
  unfold insU
  rw [e1, e2]

set_option maxRecDepth 100000 in
set_option maxHeartbeats 4000000 in
theorem sProductSizes_any (n : Int) (f g : Nat → Nat) (hf : ∀ i, f i < 256) (hg : ∀ i, g i < 256) (n' : Int) (f' g' : Nat → Nat) (hf' : ∀ i, f' i < 256) (hg' : ∀ i, g' i < 256) (w : World) :
    Calls Try.prog 31 #[.agg (dv n f g), .agg (dv n' f' g')] w fun e w' => ∃ v, e = .returned (.tuple #[v, .int .i64 (bothC n f g n' f' g')]) ∧ Below w.heap.size w w' ∧ Own1 w.heap.size w' v (szR n f g n' f' g') := by
  have C1 := hide fun w => sBoth_any n f g hf hg n' f' g' hf' hg' w
  clear hf hg hf' hg'
  have HH0 := ((Holds.start w).blk (dv n f g) 30 w.heap.size rfl).blk (dv n' f' g') 30 (w.heap.size + 1) (by simp)
  by_cases hde : desB n f g = true ∧ desB n' f' g' = true
  rotate_left
  · rw [if_neg hde] at C1
    have hr : szR n f g n' f' g' = [] := by unfold szR; rw [if_neg hde]
    have hc : bothC n f g n' f' g' = 1 := by unfold bothC; rw [if_neg hde]
    rw [hr, hc]
    clear hde hr hc
    go_enter Try.func31, Try.ntmps31
    go_wp2_with fail
    refine (C1.out _).mono ?_
    rintro e w1 ⟨rfl, hb⟩
    have HH1 := HH0.call hb
    clear hb HH0
    go_wp2
    go_ret2
    exact ⟨.slice none 0 0, rfl, HH1.low, Own1.nil _ _⟩
  rw [if_pos hde] at C1
  obtain ⟨h1, h2⟩ := hde
  obtain ⟨m, rfl, hd⟩ := desB_true h1
  obtain ⟨k, rfl, he⟩ := desB_true h2
  have hr : szR m f g k f' g' = (mSt (prR f g f' g') k m).2 := by unfold szR; rw [if_pos ⟨h1, h2⟩]; simp only [Int.toNat_natCast]; exact (sizes_same hd he).symm
  have hc : bothC m f g k f' g' = 0 := by unfold bothC; rw [if_pos ⟨h1, h2⟩]
  rw [hr, hc]
  clear h1 h2 hr hc
  have hm := hd.le
  have hk := he.le
  have hm256 : (m : Int) < 256 := by omega
  have hk256 : (k : Int) < 256 := by omega
  have hn := dv_n m f g
  have hn' := dv_n k f' g'
  have c4 : ∀ (x y : Nat), x < 16 → y < 16 → ∀ w : World, Calls Try.prog 55 #[.agg (dv m f g), .agg (dv k f' g'), .int .u8 x, .int .u8 y] w fun e w' => ∃ v, e = .returned (.tuple #[v, .agg (nv (nmF (prR f g f' g' (16 * x + y))))]) ∧ Below w.heap.size w w' ∧
      w'.ownsRow w.heap.size 76 2 v (prR f g f' g' (16 * x + y)).length (pairB (dec (prR f g f' g' (16 * x + y)))) := fun x y hx hy w => sPairs_any f g f' g' m k hd he x y hx hy w
  have C3 := hide c4; clear c4
  have HB := hide fun (z : Nat) (hz : z < 256) => prR_lt hd he hz
  clear hd he
  generalize prR f g f' g' = R at *
  have HLEN := hide fun x (hx : x ≤ m) y (hy : y ≤ k) => mRow_len R x (mSt R k x) y
  have HST := hide fun x => (show mSt R k (x + 1) = mRow R x (mSt R k x) k from rfl)
  have HR0 := hide fun x => (show mRow R x (mSt R k x) 0 = mSt R k x from rfl)
  have HRS := hide fun x y => (show mRow R x (mSt R k x) (y + 1) = if (mRow R x (mSt R k x) y).1 (16 * x + y) = true then mRow R x (mSt R k x) y else (markM (R (16 * x + y)) (mRow R x (mSt R k x) y).1 (R (16 * x + y)).length, insU (R (16 * x + y)).length (mRow R x (mSt R k x) y).2) from rfl)
  have HS0 := hide (show mSt R k 0 = (fun _ => false, []) from rfl)
  have HSL := hide fun x => mSt_len R k x
  generalize hW : (fun x => mRow R x (mSt R k x)) = W at *
  have e1 : ∀ x, mRow R x (mSt R k x) = W x := fun x => by rw [← hW]
  have HR0' := hide fun x => (show W x 0 = mSt R k x by rw [← e1]; exact HR0.out x)
  have HST' := hide fun x => (show mSt R k (x + 1) = W x k by rw [← e1]; exact HST.out x)
  have HRS' := hide fun x y => (show W x (y + 1) = if (W x y).1 (16 * x + y) = true then W x y else (markM (R (16 * x + y)) (W x y).1 (R (16 * x + y)).length, insU (R (16 * x + y)).length (W x y).2) by rw [← e1]; exact HRS.out x y)
  have HLEN' := hide fun x (hx : x ≤ m) y (hy : y ≤ k) => (show (W x y).2.length ≤ (mSt R k x).2.length + y by rw [← e1]; exact HLEN.out x hx y hy)
  clear HR0 HST HRS HLEN e1 hW
  generalize mSt R k = S at *
  have zz := zero80
  go_enter Try.func31, Try.ntmps31
  go_wp2_with fail
  refine (C1.out _).mono ?_
  rintro e w1 ⟨rfl, hb⟩
  have HH1 := HH0.call hb
  clear hb HH0
  have HH2 := (HH1.rowNew #[] 2 1 0 w1.heap.size rfl rfl (by unfold maxLen; omega)).blk (lv fun _ => false) 80 (w1.heap.size + 1) (by simp)
  go_wp2
  clear zz HH1
  generalize (w1.alloc (.cells #[] 2)).alloc (.cells (lv fun _ => false) 80) = w2 at *
  generalize w1.heap.size + 1 = G at *
  generalize w1.heap.size = G1 at *
  have HH3 : Holds w w2 (pBlk G (lv (fun _ => false)) 80 :: pInts (.slice (some ⟨G1, 0, none⟩) 0 0) [] :: pBlk (w.heap.size + 1) (dv k f' g') 30 :: [pBlk w.heap.size (dv m f g) 30]) := HH2
  clear HH2
  go_loopw [9, 8] (fun t u wr => ∃ x g0 c0, x ≤ m ∧ t = .int .u8 ((x : Nat) : Int) ∧ u = .slice (some ⟨g0, 0, none⟩) (S x).2.length c0 ∧ Holds w wr (pBlk G (lv (S x).1) 80 :: pInts u (S x).2 :: pBlk (w.heap.size + 1) (dv k f' g') 30 :: [pBlk w.heap.size (dv m f g) 30])) (fun t _ _ => m - (intOf t).toNat)
  case atStart => exact ⟨0, G1, 0, by omega, rfl, by rw [HS0.out]; rfl, by rw [HS0.out]; exact HH3⟩
  case round =>
    clear HH3
    obtain ⟨x, g0, c0, hx, rfl, rfl, hH⟩ := hrel
    have cm := hH.cell 3 rfl hn
    by_cases hxm : x < m
    · have hxm' : (x : Int) < m := by omega
      rw [← HR0'.out x] at hH ⊢
      go_wp2
      clear cm
      go_loopw [10, 8] (fun t u wr => ∃ y g0 c0, y ≤ k ∧ t = .int .u8 ((y : Nat) : Int) ∧ u = .slice (some ⟨g0, 0, none⟩) (W x y).2.length c0 ∧ Holds w wr (pBlk G (lv (W x y).1) 80 :: pInts u (W x y).2 :: pBlk (w.heap.size + 1) (dv k f' g') 30 :: [pBlk w.heap.size (dv m f g) 30])) (fun t _ _ => k - (intOf t).toNat)
      case atStart => exact ⟨0, g0, c0, by omega, rfl, rfl, hH⟩
      case round =>
        clear hH
        obtain ⟨y, g0, c0, hy, rfl, rfl, hH⟩ := hrel
        have cm := hH.cell 2 rfl hn'
        by_cases hyk : y < k
        · have hyk' : (y : Int) < k := by omega
          have hs := HRS'.out x y
          generalize hM : W x (y + 1) = M at *
          have HM := hide hM; clear hM
          have hlen := HLEN'.out x (by omega) y (by omega)
          have hlen2 := HSL.out x
          have hkx : k * x ≤ 16 * 16 := Nat.mul_le_mul (by omega) (by omega)
          have z0 := hH.cell 0 rfl (lv_get (W x y).1 (i := x * 16 + y) (by omega))
          have hx16 : (x : Int) < 16 := by omega
          have hy16 : (y : Int) < 16 := by omega
          rw [show x * 16 + y = 16 * x + y by omega] at z0
          rcases hsy : (W x y).1 (16 * x + y) with _ | _
          · rw [hsy] at z0
            rw [hsy, if_neg (by simp)] at hs
            have c3 := C3.out x y (by omega) (by omega)
            have hb2 := HB.out (16 * x + y) (by omega)
            generalize R (16 * x + y) = Q at *
            generalize (W x y).1 = s0 at *
            obtain ⟨l0, hl0⟩ : ∃ l0, l0 = (W x y).2 := ⟨_, rfl⟩
            rw [← hl0] at hs hH hlen ⊢
            have HS := hide hs; clear hs hl0 hsy
            have C4 := hide c3; clear c3
            have HQ := hide hb2.1
            have hql := hb2.2
            clear hb2
            rw [show 16 * x + y = x * 16 + y by omega] at z0
            have cd := hH.cells 3 rfl
            have ce := hH.cells 2 rfl
            go_wp2_with fail
            refine (C4.out _).mono ?_
            rintro e w4 ⟨v, rfl, hb, ho⟩
            have HH5 := (hH.newRow hb ho).blk (nv (nmF Q)) 73 w4.heap.size rfl
            clear hb ho cd ce z0 cm hH
            obtain ⟨A1, c1, rfl⟩ := own_slice (HH5.row 1 rfl)
            have HH6 : Holds w (w4.alloc (.cells (nv (nmF Q)) 73)) (pBlk w4.heap.size (nv (nmF Q)) 73 :: pPairsB (.slice A1 Q.length c1) (dec Q) :: (pBlk G (lv s0) 80 :: pInts (.slice (some ⟨g0, 0, none⟩) l0.length c0) l0 :: pBlk (w.heap.size + 1) (dv k f' g') 30 :: [pBlk w.heap.size (dv m f g) 30])) := by unfold pPairsB; rw [dec_length]; exact HH5
            clear HH5
            have zz := zeroN
            go_wp2
            clear zz
            generalize w4.alloc (.cells (nv (nmF Q)) 73) = w5 at *
            generalize w4.heap.size = G7 at *
            go_loopw [13] (fun t wr => ∃ i : Nat, i ≤ Q.length ∧ t = .int .i64 i ∧ Holds w wr (pBlk G7 (nv (nmF Q)) 73 :: pPairsB (.slice A1 Q.length c1) (dec Q) :: (pBlk G (lv (markM Q s0 i)) 80 :: pInts (.slice (some ⟨g0, 0, none⟩) l0.length c0) l0 :: pBlk (w.heap.size + 1) (dv k f' g') 30 :: [pBlk w.heap.size (dv m f g) 30]))) (fun t _ => Q.length - (intOf t).toNat)
            case atStart => exact ⟨0, by omega, rfl, HH6⟩
            case round =>
              clear HH6
              obtain ⟨i, hi, rfl, hH⟩ := hrel
              by_cases hil : i < Q.length
              · obtain ⟨g4, c4, e0, _, y1, y2⟩ := hH.pairsB 1 rfl (k := i) (by rw [dec_length]; exact hil)
                rw [dec_length] at e0
                injection e0 with e0 e0a e0b
                subst e0
                clear e0a e0b
                have hda := dec_at hil
                have hgd : Q.getD i 0 = Q[i] := by rw [List.getD_eq_getElem?_getD, List.getElem?_eq_getElem hil]; rfl
                have hst : markM Q s0 (i + 1) = mset (markM Q s0 i) (Q[i]) := by rw [← hgd]; rfl
                have hzl := HQ.out _ (List.getElem_mem hil)
                obtain ⟨z, hz⟩ : ∃ z, z = Q[i] := ⟨_, rfl⟩
                rw [← hz] at hda hst hzl
                obtain ⟨a, ha⟩ : ∃ a, a = z / 16 := ⟨_, rfl⟩
                obtain ⟨b, hb⟩ : ∃ b, b = z % 16 := ⟨_, rfl⟩
                rw [← ha, ← hb] at hda
                have hat : ∀ wx, Holds w wx (pBlk G7 (nv (nmF Q)) 73 :: pPairsB (.slice (some ⟨g4, 0, none⟩) Q.length c1) (dec Q) :: pInts (.slice (some ⟨g0, 0, none⟩) l0.length c0) l0 :: pBlk (w.heap.size + 1) (dv k f' g') 30 :: [pBlk w.heap.size (dv m f g) 30]) → wx.cell? ⟨g4, i * 2, none⟩ = some (.int .u8 (a : Int)) ∧ wx.cell? ⟨g4, i * 2 + 1, none⟩ = some (.int .u8 (b : Int)) := by
                  intro wx hx
                  obtain ⟨gq, cq, eq, _, q1, q2⟩ := hx.pairsB 1 rfl (k := i) (by rw [dec_length]; exact hil)
                  injection eq with eq
                  injection eq with eq
                  injection eq with eq
                  subst eq
                  rw [hda] at q1 q2
                  exact ⟨q1, q2⟩
                have HAT := hide hat; clear hat
                have hab : a * 16 + b = z := by omega
                have ha16 : a < 16 := by omega
                have hb16 : b < 16 := by omega
                have ha' : (a : Int) < 16 := by omega
                have hb' : (b : Int) < 16 := by omega
                have HST2 := hide (And.intro hst hab); clear hst hab hz ha hb hda hgd y1 y2 hzl
                generalize markM Q s0 i = s1 at *
                go_wp2
                refine Rd.region_P (w0 := w) (pBlk G7 (nv (nmF Q)) 73 :: pPairsB (.slice (some ⟨g4, 0, none⟩) Q.length c1) (dec Q) :: pInts (.slice (some ⟨g0, 0, none⟩) l0.length c0) l0 :: pBlk (w.heap.size + 1) (dv k f' g') 30 :: [pBlk w.heap.size (dv m f g) 30]) (pBlk G7 (nv (nmF Q)) 73 :: pPairsB (.slice (some ⟨g4, 0, none⟩) Q.length c1) (dec Q) :: (pBlk G (lv s1) 80 :: pInts (.slice (some ⟨g0, 0, none⟩) l0.length c0) l0 :: pBlk (w.heap.size + 1) (dv k f' g') 30 :: [pBlk w.heap.size (dv m f g) 30])) [12] (.q 0 <| .q 1 <| .q 2 <| .q 3 <| .q 4 <| .q 5 <| .q 6 <| .q 7 <| .q 8 <| .q 9 <| .q 10 <| .q 11 <| .s1 12 .fin) hH (.cons_cons _ (.cons_cons _ (.cons _ (.refl _)))) (by kernel_rfl) (by kernel_rfl) (by kernel_rfl) ?_
                iterate 12
                  apply Rd.v_q
                  · simp only [List.getElem?_toArray, List.getElem?_cons_zero, List.getElem?_cons_succ]; exact rfl
                  · rfl
                  · go_simp
                  · intro wx hx
                    have q1 := (HAT.out wx hx).1
                    have q2 := (HAT.out wx hx).2
                    unfold atG
                    go_simp
                    simp only [uponG]
                    exact ⟨by trivial, rfl⟩
                refine Rd.v_s (Rd.rHolds w fun _ => pBlk G7 (nv (nmF Q)) 73 :: pPairsB (.slice (some ⟨g4, 0, none⟩) Q.length c1) (dec Q) :: (pBlk G (lv (mset s1 z)) 80 :: pInts (.slice (some ⟨g0, 0, none⟩) l0.length c0) l0 :: pBlk (w.heap.size + 1) (dv k f' g') 30 :: [pBlk w.heap.size (dv m f g) 30])) Rd.rHolds_stable (by simp only [List.getElem?_toArray, List.getElem?_cons_zero, List.getElem?_cons_succ]; exact rfl) rfl (by go_simp) (fun wx hx hD => ?_) ?_
                · skip
                  have hcc := hD.cell 2 rfl (lv_get s1 (i := a * 16 + b) (by omega))
                  have fr0 := hD.frozen 2 rfl (a * 16 + b)
                  go_simp
                  simp only [Rd.uponE]
                  have h2 := hD.set 2 rfl (a * 16 + b) (.bool true)
                  rw [lv_set, show mset s1 (a * 16 + b) = mset s1 z by rw [HST2.out.2]] at h2
                  have h3 : Holds w (wx.setCell ⟨G, a * 16 + b, none⟩ (.bool true)) (pBlk G7 (nv (nmF Q)) 73 :: pPairsB (.slice (some ⟨g4, 0, none⟩) Q.length c1) (dec Q) :: (pBlk G (lv (mset s1 z)) 80 :: pInts (.slice (some ⟨g0, 0, none⟩) l0.length c0) l0 :: pBlk (w.heap.size + 1) (dv k f' g') 30 :: [pBlk w.heap.size (dv m f g) 30])) := h2
                  exact ⟨h3.sub (.cons_cons _ (.cons_cons _ (.cons _ (.refl _)))), h3⟩
                rintro vn -
                rintro w6 - hx6
                clear hH
                have hx7 : Holds w w6 (pBlk G7 (nv (nmF Q)) 73 :: pPairsB (.slice (some ⟨g4, 0, none⟩) Q.length c1) (dec Q) :: (pBlk G (lv (mset s1 z)) 80 :: pInts (.slice (some ⟨g0, 0, none⟩) l0.length c0) l0 :: pBlk (w.heap.size + 1) (dv k f' g') 30 :: [pBlk w.heap.size (dv m f g) 30])) := hx6
                go_simp
                go_wp2
                go_roundw
                case rel => exact ⟨i + 1, by omega, by go_num, by rw [HST2.out.1]; exact hx7⟩
                case measure => simp [intOf]; omega
              · obtain rfl : i = Q.length := by omega
                clear hi hil
                have hH2 := Holds.tail (Holds.tail hH)
                clear hH
                generalize markM Q s0 Q.length = s1 at *
                go_wp2
                have hl0 : l0.length ≤ 1000 := by omega
                go_loopw [14] (fun t wr => ∃ i : Nat, i ≤ l0.length ∧ t = .int .i64 i ∧ (∀ j (hj : j < l0.length), j < i → l0[j] < Q.length) ∧ Holds w wr (pBlk G (lv s1) 80 :: pInts (.slice (some ⟨g0, 0, none⟩) l0.length c0) l0 :: pBlk (w.heap.size + 1) (dv k f' g') 30 :: [pBlk w.heap.size (dv m f g) 30])) (fun t _ => l0.length - (intOf t).toNat)
                case atStart => exact ⟨0, by omega, rfl, fun j _ h => absurd h (by omega), hH2⟩
                case round =>
                  clear hH2
                  obtain ⟨i, hi, rfl, hlow, hH⟩ := hrel
                  replace hlow := hide hlow
                  by_cases hgo : ∃ h : i < l0.length, l0[i] < Q.length
                  · obtain ⟨hil, hlt⟩ := hgo
                    obtain ⟨g5, c5, e5, _, y1, _⟩ := hH.ints 1 rfl hil
                    injection e5 with e5 e5a e5b
                    injection e5 with e5
                    injection e5 with e5
                    subst e5
                    clear e5a e5b
                    obtain ⟨b, hb⟩ : ∃ b, b = l0[i] := ⟨_, rfl⟩
                    rw [← hb] at y1 hlt
                    have HBB := hide hb; clear hb
                    have hil' : (i : Int) < l0.length := by omega
                    have hlt' : (b : Int) < Q.length := by omega
                    go_wp2
                    go_roundw
                    case rel => exact ⟨i + 1, by omega, by go_num, fun j hj h => by
                      rcases Nat.lt_or_ge j i with d | d
                      · exact hlow.out j hj d
                      · obtain rfl : j = i := by omega
                        rw [← HBB.out]; exact hlt, hH⟩
                    case measure => simp [intOf]; omega
                  · have hins : insU Q.length l0 = l0.take i ++ Q.length :: l0.drop i := take_split hi hlow.out (by
                      rcases Nat.lt_or_ge i l0.length with d | d
                      · right; exact ⟨d, fun h => hgo ⟨d, h⟩⟩
                      · left; omega)
                    have hgt : i < l0.length → ∃ b : Nat, wr.cell? ⟨g0, i, none⟩ = some (.int .i64 (b : Int)) ∧ ¬ b < Q.length := fun d => by
                      obtain ⟨g5, c5, e5, _, y1, _⟩ := hH.ints 1 rfl d
                      injection e5 with e5 e5a e5b
                      injection e5 with e5
                      injection e5 with e5
                      subst e5
                      exact ⟨l0[i], y1, fun h => hgo ⟨d, h⟩⟩
                    clear hgo hlow
                    have hcl : ∀ j u, (nums l0)[j]? = some u → wr.cell? ⟨g0, j, none⟩ = some u := fun j u h => hH.cellR 1 rfl h
                    have hg0 : g0 < wr.heap.size := World.ownsRow.lt (hH.row 1 rfl) g0 rfl |>.2
                    have HCL := hide hcl; clear hcl
                    have HI := hide hins; clear hins
                    have hHb := hH.rowNew #[.int .i64 (Q.length : Nat)] 2 1 1 wr.heap.size rfl rfl (by unfold maxLen; omega)
                    have hHb2 : Holds w (wr.alloc (.cells #[.int .i64 (Q.length : Nat)] 2)) (pInts (.slice (some ⟨wr.heap.size, 0, none⟩) 1 1) [Q.length] :: (pBlk G (lv s1) 80 :: pInts (.slice (some ⟨g0, 0, none⟩) l0.length c0) l0 :: pBlk (w.heap.size + 1) (dv k f' g') 30 :: [pBlk w.heap.size (dv m f g) 30])) := hHb
                    clear hHb
                    have hdl : (l0.drop i).length = l0.length - i := List.length_drop
                    have hdr : ∀ j u, (nums (l0.drop i))[j]? = some u → (wr.alloc (.cells #[.int .i64 (Q.length : Nat)] 2)).cell? ((⟨g0, i, none⟩ : Addr).add j) = some u := fun j u h => by
                      have e : ((⟨g0, i, none⟩ : Addr).add j) = ⟨g0, i + j, none⟩ := by simp [Addr.add]
                      rw [e]
                      refine hHb2.cellR 2 rfl ?_
                      unfold nums at h ⊢
                      rw [List.getElem?_map, List.getElem?_drop] at h
                      rw [List.getElem?_map]; exact h
                    have HDR := hide hdr; clear hdr
                    have hii : (i : Int) ≤ l0.length := by omega
                    have hcap : l0.length ≤ c0 ∧ c0 ≤ maxLen := by
                      rcases (hH.row 1 rfl).2 with ⟨e, _⟩ | ⟨g6, cap, cur, e, _, _, h3, h4, _⟩
                      · cases e
                      · injection e with _ _ e; subst e; exact ⟨h3, h4⟩
                    have hc1 := hcap.1
                    have hc2 : c0 ≤ 9223372036854775807 := by have := hcap.2; unfold maxLen at this; omega
                    have hci : (i : Int) ≤ c0 := by omega
                    clear hcap
                    clear hH
                    rcases Nat.lt_or_ge i l0.length with d | d
                    · skip
                      obtain ⟨b, y1, hb⟩ := hgt d
                      have hil' : (i : Int) < l0.length := by omega
                      have hbq : ¬ ((b : Int) < Q.length) := by omega
                      have hic : i < c0 := by omega
                      have hbnd : [Q.length].length + (l0.drop i).length ≤ 1000000 := by simp; omega
                      clear hgt
                      go_wp2_with (at_builtin; refine appIz hHb2 0 rfl ⟨g0, i, none⟩ (c0 - i) (l0.drop i) HDR.out hbnd rfl _ _ rfl rfl (by rw [hdl]; rfl) ?_)
                      intro v6 w6 HH6
                      obtain ⟨T, hT⟩ : ∃ T, T = [Q.length] ++ l0.drop i := ⟨_, rfl⟩
                      have hT2 : T = [Q.length] ++ l0.drop i := hT
                      have hTl : T.length ≤ 2000 ∧ 0 < T.length := by rw [hT2]; simp <;> omega
                      have HH6' : Holds w w6 (pInts v6 T :: (pBlk G (lv s1) 80 :: pInts (.slice (some ⟨g0, 0, none⟩) l0.length c0) l0 :: pBlk (w.heap.size + 1) (dv k f' g') 30 :: [pBlk w.heap.size (dv m f g) 30])) := by rw [hT]; exact HH6
                      clear HH6 hT
                      have HT2 := hide hT2; clear hT2
                      have hg6 : g0 < w6.heap.size := World.ownsRow.lt (HH6'.row 2 rfl) g0 rfl |>.2
                      have C6 := hide fun w hg hc => sOwn_any g0 i c0 (l0.take i) (by simp <;> omega) (by omega) w hg hc
                      go_wp2_with fail
                      refine (C6.out _ hg6 (fun j u h => ?_)).mono ?_
                      · refine HH6'.cellR 2 rfl ?_
                        unfold nums at h ⊢
                        rw [List.getElem?_map, List.getElem?_take] at h
                        rw [List.getElem?_map]
                        by_cases hji : j < i
                        · rw [if_pos hji] at h; exact h
                        · rw [if_neg hji] at h; cases h
                      rintro e w7 ⟨v7, rfl, hb7, ho7⟩
                      have HH7 : Holds w w7 (pInts v7 (l0.take i) :: pInts v6 T :: (pBlk G (lv s1) 80 :: pInts (.slice (some ⟨g0, 0, none⟩) l0.length c0) l0 :: pBlk (w.heap.size + 1) (dv k f' g') 30 :: [pBlk w.heap.size (dv m f g) 30])) := HH6'.newRow hb7 ho7
                      obtain ⟨g8, c8, e8, hr8⟩ : ∃ g8 c8, v6 = .slice (some ⟨g8, 0, none⟩) T.length c8 ∧ ∀ j u, (nums T)[j]? = some u → w7.cell? ⟨g8, j, none⟩ = some u := by
                        obtain ⟨g8, c8, e8, _, _, _, _, h6, _⟩ := row_at (HH7.row 1 rfl) hTl.2
                        exact ⟨g8, c8, e8, h6⟩
                      subst e8
                      have hr9 : ∀ j u, (nums T)[j]? = some u → w7.cell? ((⟨g8, 0, none⟩ : Addr).add j) = some u := fun j u h => by
                        have e : ((⟨g8, 0, none⟩ : Addr).add j) = ⟨g8, j, none⟩ := by simp [Addr.add]; exact Eq.symm
                        rw [e]; exact hr8 j u h
                      have hbn : (l0.take i).length + T.length ≤ 1000000 := by simp <;> omega
                      have HR9 := hide hr9; clear hr8 hr9 hb7 ho7 HH6' hHb2 HDR
                      go_wp2_with (at_builtin; refine appIz HH7 0 rfl ⟨g8, 0, none⟩ c8 T HR9.out hbn rfl _ _ rfl rfl rfl ?_)
                      intro v9 w9 HH9
                      have hfin : Holds w w9 (pBlk G (lv s1) 80 :: pInts v9 (insU Q.length l0) :: pBlk (w.heap.size + 1) (dv k f' g') 30 :: [pBlk w.heap.size (dv m f g) 30]) := by
                        rw [HI.out]
                        have h5 : Holds w w9 (pInts v9 (l0.take i ++ T) :: pInts (.slice (some ⟨g8, 0, none⟩) T.length c8) T :: pBlk G (lv s1) 80 :: pInts (.slice (some ⟨g0, 0, none⟩) l0.length c0) l0 :: pBlk (w.heap.size + 1) (dv k f' g') 30 :: [pBlk w.heap.size (dv m f g) 30]) := HH9
                        rw [HT2.out] at h5
                        exact h5.perm (List.Perm.swap _ _ _) |>.tail.perm (List.Perm.swap _ _ _) |>.sub (.cons_cons _ (.cons_cons _ (.cons _ (.refl _))))
                      clear HH9 HH7
                      obtain ⟨g10, c10, e10⟩ : ∃ g c, v9 = .slice (some ⟨g, 0, none⟩) (insU Q.length l0).length c := by
                        obtain ⟨g8, c8, e8, _⟩ := row_at (hfin.row 1 rfl) (by rw [insU_len]; omega)
                        exact ⟨g8, c8, e8⟩
                      subst e10
                      go_wp2
                      go_roundw
                      case rel => exact ⟨y + 1, g10, c10, by omega, by go_num, by rw [HM.out, HS.out], by rw [HM.out, HS.out]; exact hfin⟩
                      case measure => simp [intOf]; omega
                    obtain rfl : i = l0.length := by omega
                    rcases Nat.lt_or_ge l0.length c0 with d2 | d2
                    · skip
                      have hnil : l0.drop l0.length = [] := List.drop_length
                      have hdz : ∀ j u, (nums ([] : List Nat))[j]? = some u → (wr.alloc (.cells #[.int .i64 (Q.length : Nat)] 2)).cell? ((⟨g0, l0.length, none⟩ : Addr).add j) = some u := fun j u h => by simp [nums] at h
                      clear HDR
                      have HDR := hide hdz; clear hdz
                      have hbnd : [Q.length].length + ([] : List Nat).length ≤ 1000000 := by simp
                      clear hgt d
                      go_wp2_with (at_builtin; refine appIz hHb2 0 rfl ⟨g0, l0.length, none⟩ (c0 - l0.length) ([] : List Nat) HDR.out hbnd rfl _ _ rfl rfl rfl ?_)
                      intro v6 w6 HH6
                      obtain ⟨T, hT⟩ : ∃ T, T = [Q.length] ++ ([] : List Nat) := ⟨_, rfl⟩
                      have hT2 : T = [Q.length] ++ l0.drop l0.length := by rw [hT, hnil]
                      have hTl : T.length ≤ 2000 ∧ 0 < T.length := by rw [hT2]; simp <;> omega
                      have HH6' : Holds w w6 (pInts v6 T :: (pBlk G (lv s1) 80 :: pInts (.slice (some ⟨g0, 0, none⟩) l0.length c0) l0 :: pBlk (w.heap.size + 1) (dv k f' g') 30 :: [pBlk w.heap.size (dv m f g) 30])) := by rw [hT]; exact HH6
                      clear HH6 hT
                      have HT2 := hide hT2; clear hT2
                      have hg6 : g0 < w6.heap.size := World.ownsRow.lt (HH6'.row 2 rfl) g0 rfl |>.2
                      have C6 := hide fun w hg hc => sOwn_any g0 l0.length c0 (l0.take l0.length) (by simp <;> omega) (by omega) w hg hc
                      go_wp2_with fail
                      refine (C6.out _ hg6 (fun j u h => ?_)).mono ?_
                      · refine HH6'.cellR 2 rfl ?_
                        unfold nums at h ⊢
                        rw [List.getElem?_map, List.getElem?_take] at h
                        rw [List.getElem?_map]
                        by_cases hji : j < l0.length
                        · rw [if_pos hji] at h; exact h
                        · rw [if_neg hji] at h; cases h
                      rintro e w7 ⟨v7, rfl, hb7, ho7⟩
                      have HH7 : Holds w w7 (pInts v7 (l0.take l0.length) :: pInts v6 T :: (pBlk G (lv s1) 80 :: pInts (.slice (some ⟨g0, 0, none⟩) l0.length c0) l0 :: pBlk (w.heap.size + 1) (dv k f' g') 30 :: [pBlk w.heap.size (dv m f g) 30])) := HH6'.newRow hb7 ho7
                      obtain ⟨g8, c8, e8, hr8⟩ : ∃ g8 c8, v6 = .slice (some ⟨g8, 0, none⟩) T.length c8 ∧ ∀ j u, (nums T)[j]? = some u → w7.cell? ⟨g8, j, none⟩ = some u := by
                        obtain ⟨g8, c8, e8, _, _, _, _, h6, _⟩ := row_at (HH7.row 1 rfl) hTl.2
                        exact ⟨g8, c8, e8, h6⟩
                      subst e8
                      have hr9 : ∀ j u, (nums T)[j]? = some u → w7.cell? ((⟨g8, 0, none⟩ : Addr).add j) = some u := fun j u h => by
                        have e : ((⟨g8, 0, none⟩ : Addr).add j) = ⟨g8, j, none⟩ := by simp [Addr.add]; exact Eq.symm
                        rw [e]; exact hr8 j u h
                      have hbn : (l0.take l0.length).length + T.length ≤ 1000000 := by simp <;> omega
                      have HR9 := hide hr9; clear hr8 hr9 hb7 ho7 HH6' hHb2 HDR
                      go_wp2_with (at_builtin; refine appIz HH7 0 rfl ⟨g8, 0, none⟩ c8 T HR9.out hbn rfl _ _ rfl rfl rfl ?_)
                      intro v9 w9 HH9
                      have hfin : Holds w w9 (pBlk G (lv s1) 80 :: pInts v9 (insU Q.length l0) :: pBlk (w.heap.size + 1) (dv k f' g') 30 :: [pBlk w.heap.size (dv m f g) 30]) := by
                        rw [HI.out]
                        have h5 : Holds w w9 (pInts v9 (l0.take l0.length ++ T) :: pInts (.slice (some ⟨g8, 0, none⟩) T.length c8) T :: pBlk G (lv s1) 80 :: pInts (.slice (some ⟨g0, 0, none⟩) l0.length c0) l0 :: pBlk (w.heap.size + 1) (dv k f' g') 30 :: [pBlk w.heap.size (dv m f g) 30]) := by rw [List.take_length]; exact HH9
                        rw [HT2.out] at h5
                        exact h5.perm (List.Perm.swap _ _ _) |>.tail.perm (List.Perm.swap _ _ _) |>.sub (.cons_cons _ (.cons_cons _ (.cons _ (.refl _))))
                      clear HH9 HH7
                      obtain ⟨g10, c10, e10⟩ : ∃ g c, v9 = .slice (some ⟨g, 0, none⟩) (insU Q.length l0).length c := by
                        obtain ⟨g8, c8, e8, _⟩ := row_at (hfin.row 1 rfl) (by rw [insU_len]; omega)
                        exact ⟨g8, c8, e8⟩
                      subst e10
                      go_wp2
                      go_roundw
                      case rel => exact ⟨y + 1, g10, c10, by omega, by go_num, by rw [HM.out, HS.out], by rw [HM.out, HS.out]; exact hfin⟩
                      case measure => simp [intOf]; omega
                    · obtain rfl : c0 = l0.length := by omega
                      have hnil : l0.drop l0.length = [] := List.drop_length
                      have hdz : ∀ j u, (nums ([] : List Nat))[j]? = some u → (wr.alloc (.cells #[.int .i64 (Q.length : Nat)] 2)).cell? ((⟨g0, 0, none⟩ : Addr).add j) = some u := fun j u h => by simp [nums] at h
                      clear HDR
                      have HDR := hide hdz; clear hdz
                      have hbnd : [Q.length].length + ([] : List Nat).length ≤ 1000000 := by simp
                      clear hgt d
                      go_wp2_with (at_builtin; refine appIz hHb2 0 rfl ⟨g0, 0, none⟩ 0 ([] : List Nat) HDR.out hbnd rfl _ _ rfl rfl rfl ?_)
                      intro v6 w6 HH6
                      obtain ⟨T, hT⟩ : ∃ T, T = [Q.length] ++ ([] : List Nat) := ⟨_, rfl⟩
                      have hT2 : T = [Q.length] ++ l0.drop l0.length := by rw [hT, hnil]
                      have hTl : T.length ≤ 2000 ∧ 0 < T.length := by rw [hT2]; simp <;> omega
                      have HH6' : Holds w w6 (pInts v6 T :: (pBlk G (lv s1) 80 :: pInts (.slice (some ⟨g0, 0, none⟩) l0.length l0.length) l0 :: pBlk (w.heap.size + 1) (dv k f' g') 30 :: [pBlk w.heap.size (dv m f g) 30])) := by rw [hT]; exact HH6
                      clear HH6 hT
                      have HT2 := hide hT2; clear hT2
                      have hg6 : g0 < w6.heap.size := World.ownsRow.lt (HH6'.row 2 rfl) g0 rfl |>.2
                      have C6 := hide fun w hg hc => sOwn_any g0 l0.length l0.length (l0.take l0.length) (by simp <;> omega) (by omega) w hg hc
                      go_wp2_with fail
                      refine (C6.out _ hg6 (fun j u h => ?_)).mono ?_
                      · refine HH6'.cellR 2 rfl ?_
                        unfold nums at h ⊢
                        rw [List.getElem?_map, List.getElem?_take] at h
                        rw [List.getElem?_map]
                        by_cases hji : j < l0.length
                        · rw [if_pos hji] at h; exact h
                        · rw [if_neg hji] at h; cases h
                      rintro e w7 ⟨v7, rfl, hb7, ho7⟩
                      have HH7 : Holds w w7 (pInts v7 (l0.take l0.length) :: pInts v6 T :: (pBlk G (lv s1) 80 :: pInts (.slice (some ⟨g0, 0, none⟩) l0.length l0.length) l0 :: pBlk (w.heap.size + 1) (dv k f' g') 30 :: [pBlk w.heap.size (dv m f g) 30])) := HH6'.newRow hb7 ho7
                      obtain ⟨g8, c8, e8, hr8⟩ : ∃ g8 c8, v6 = .slice (some ⟨g8, 0, none⟩) T.length c8 ∧ ∀ j u, (nums T)[j]? = some u → w7.cell? ⟨g8, j, none⟩ = some u := by
                        obtain ⟨g8, c8, e8, _, _, _, _, h6, _⟩ := row_at (HH7.row 1 rfl) hTl.2
                        exact ⟨g8, c8, e8, h6⟩
                      subst e8
                      have hr9 : ∀ j u, (nums T)[j]? = some u → w7.cell? ((⟨g8, 0, none⟩ : Addr).add j) = some u := fun j u h => by
                        have e : ((⟨g8, 0, none⟩ : Addr).add j) = ⟨g8, j, none⟩ := by simp [Addr.add]; exact Eq.symm
                        rw [e]; exact hr8 j u h
                      have hbn : (l0.take l0.length).length + T.length ≤ 1000000 := by simp <;> omega
                      have HR9 := hide hr9; clear hr8 hr9 hb7 ho7 HH6' hHb2 HDR
                      go_wp2_with (at_builtin; refine appIz HH7 0 rfl ⟨g8, 0, none⟩ c8 T HR9.out hbn rfl _ _ rfl rfl rfl ?_)
                      intro v9 w9 HH9
                      have hfin : Holds w w9 (pBlk G (lv s1) 80 :: pInts v9 (insU Q.length l0) :: pBlk (w.heap.size + 1) (dv k f' g') 30 :: [pBlk w.heap.size (dv m f g) 30]) := by
                        rw [HI.out]
                        have h5 : Holds w w9 (pInts v9 (l0.take l0.length ++ T) :: pInts (.slice (some ⟨g8, 0, none⟩) T.length c8) T :: pBlk G (lv s1) 80 :: pInts (.slice (some ⟨g0, 0, none⟩) l0.length l0.length) l0 :: pBlk (w.heap.size + 1) (dv k f' g') 30 :: [pBlk w.heap.size (dv m f g) 30]) := by rw [List.take_length]; exact HH9
                        rw [HT2.out] at h5
                        exact h5.perm (List.Perm.swap _ _ _) |>.tail.perm (List.Perm.swap _ _ _) |>.sub (.cons_cons _ (.cons_cons _ (.cons _ (.refl _))))
                      clear HH9 HH7
                      obtain ⟨g10, c10, e10⟩ : ∃ g c, v9 = .slice (some ⟨g, 0, none⟩) (insU Q.length l0).length c := by
                        obtain ⟨g8, c8, e8, _⟩ := row_at (hfin.row 1 rfl) (by rw [insU_len]; omega)
                        exact ⟨g8, c8, e8⟩
                      subst e10
                      go_wp2
                      go_roundw
                      case rel => exact ⟨y + 1, g10, c10, by omega, by go_num, by rw [HM.out, HS.out], by rw [HM.out, HS.out]; exact hfin⟩
                      case measure => simp [intOf]; omega
          · rw [hsy] at z0
            rw [hsy, if_pos rfl] at hs
            rw [show 16 * x + y = x * 16 + y by omega] at z0
            have HS := hide hs; clear hs hsy
            go_wp2
            clear z0 cm
            go_roundw
            case rel => exact ⟨y + 1, g0, c0, by omega, by go_num, by rw [HM.out, HS.out], by rw [HM.out, HS.out]; exact hH⟩
            case measure => simp [intOf]; omega
        · obtain rfl : y = k := by omega
          clear hyk hy
          rw [← HST'.out x] at hH ⊢
          go_wp2
          clear cm
          go_roundw
          case rel => exact ⟨x + 1, g0, c0, by omega, by go_num, rfl, hH⟩
          case measure => simp [intOf]; omega
    · obtain rfl : x = m := by omega
      clear hxm hx
      have hO := hH.own1 1 rfl
      have hlow := hH.low
      go_wp2
      go_ret2
      exact ⟨_, rfl, hlow, hO⟩

set_option maxRecDepth 100000 in
set_option maxHeartbeats 2000000 in
theorem fnExactProductSizes_walk (n : Int) (f g : Nat → Nat) (_hn : -9223372036854775808 ≤ n ∧ n ≤ 9223372036854775807) (hf : ∀ i, f i < 256) (hg : ∀ i, g i < 256) (n' : Int) (f' g' : Nat → Nat) (_hn' : -9223372036854775808 ≤ n' ∧ n' ≤ 9223372036854775807) (hf' : ∀ i, f' i < 256) (hg' : ∀ i, g' i < 256) (w : World) :
    Calls Try.prog 8 #[.agg (dv n f g), .agg (dv n' f' g')] w fun e w' => e = .returned (.bool true) ∧ Below w.heap.size w w' := by
  have C1 := hide fun w => productSizes_any n f g hf hg n' f' g' hf' hg' w
  have C2 := hide fun w => sProductSizes_any n f g hf hg n' f' g' hf' hg' w
  have hL := szR_bound n f g n' f' g'
  generalize szR n f g n' f' g' = L at *
  generalize bothC n f g n' f' g' = c at *
  have T0 := hide fun w => toDessin_any n f g w
  have T1 := hide fun w => toDessin_any n' f' g' w
  clear hf hg _hn hf' hg' _hn'
  have hne : (c != c) = false := by simp
  have hnt : (((1 + L.length : Nat) : Int) != ((1 + L.length : Nat) : Int)) = false := by simp
  have hneg : decide (((1 + L.length : Nat) : Int) < 0) = false := decide_eq_false (by omega)
  go_enter Try.func8, Try.ntmps8
  go_wp2
  generalize hW : ((w.alloc (.cells (dv n f g) 24)).alloc (.cells (dv n' f' g') 24)) = W
  have y0 : cellsOf W w.heap.size = dv n f g := by rw [← hW]; exact cellsOf_heap (heap1 (by simp))
  have k0 : w.heap.size < W.heap.size := by rw [← hW]; simp <;> omega
  have y1 : cellsOf W (w.heap.size + 1) = dv n' f' g' := by rw [← hW]; exact cellsOf_heap (heap_at _ _ _ (by simp))
  have k1 : (w.heap.size + 1) < W.heap.size := by rw [← hW]; simp <;> omega
  have b0 : Below w.heap.size w W := by rw [← hW]; exact below2 _ _ _
  clear hW
  refine region_V (w := W) (fun k => if k = 4 then some (fun w v w' => ∃ u, v = .tuple #[u, .int .i64 c] ∧ Own1 w.heap.size w' u L) else none) (fun _ => false) [4] (.q 0 <| .q 1 <| .q 2 <| .q 3 <| .s1 4 <| .q 5 <| .q 6 <| .q 7 <| .q 8 <| .q 9 .fin) (by kernel_rfl) (by kernel_rfl) (by kernel_rfl) (fun k hk => ?_) ?_
  · simp at hk; simp [hk]
  apply v_other
  · simp only [List.getElem?_toArray, List.getElem?_cons_zero, List.getElem?_cons_succ]; exact rfl
  · rfl
  · rfl
  · go_simp
  · intro wx hx
    have e0 := hx.cells y0 k0
    have e1 := hx.cells y1 k1
    unfold atG
    go_simp
    simp only [uponG]
    exact ⟨by trivial, rfl⟩
  apply v_other
  · simp only [List.getElem?_toArray, List.getElem?_cons_zero, List.getElem?_cons_succ]; exact rfl
  · rfl
  · rfl
  · go_simp
  · intro wx hx
    have e0 := hx.cells y0 k0
    have e1 := hx.cells y1 k1
    unfold atG
    go_simp
    simp only [uponG]
    exact ⟨by trivial, T0.out wx⟩
  apply v_other
  · simp only [List.getElem?_toArray, List.getElem?_cons_zero, List.getElem?_cons_succ]; exact rfl
  · rfl
  · rfl
  · go_simp
  · intro wx hx
    have e0 := hx.cells y0 k0
    have e1 := hx.cells y1 k1
    unfold atG
    go_simp
    simp only [uponG]
    exact ⟨by trivial, rfl⟩
  apply v_other
  · simp only [List.getElem?_toArray, List.getElem?_cons_zero, List.getElem?_cons_succ]; exact rfl
  · rfl
  · rfl
  · go_simp
  · intro wx hx
    have e0 := hx.cells y0 k0
    have e1 := hx.cells y1 k1
    unfold atG
    go_simp
    simp only [uponG]
    exact ⟨by trivial, T1.out wx⟩
  refine v_E (by simp only [List.getElem?_toArray, List.getElem?_cons_zero, List.getElem?_cons_succ]; exact rfl) rfl (by go_simp) (fun wx hx _ => ?_) ?_
  · go_simp
    simp only [uponE]
    exact ⟨by trivial, (C2.out wx).mono fun e w' ⟨u, h1, h2, h3⟩ => ⟨_, h1, h2, u, rfl, h3⟩⟩
  rintro vq ⟨_, _, _, u0, rfl, _⟩
  apply v_other
  · simp only [List.getElem?_toArray, List.getElem?_cons_zero, List.getElem?_cons_succ]; exact rfl
  · rfl
  · rfl
  · go_simp
  · intro wx hx
    unfold atG
    go_simp
    simp only [uponG]
    exact ⟨by trivial, rfl⟩
  apply v_other
  · simp only [List.getElem?_toArray, List.getElem?_cons_zero, List.getElem?_cons_succ]; exact rfl
  · rfl
  · rfl
  · go_simp
  · intro wx hx
    unfold atG
    go_simp
    simp only [uponG]
    exact ⟨by trivial, rfl⟩
  apply v_other
  · simp only [List.getElem?_toArray, List.getElem?_cons_zero, List.getElem?_cons_succ]; exact rfl
  · rfl
  · rfl
  · go_simp
  · intro wx hx
    unfold atG
    go_simp
    simp only [uponG]
    exact ⟨by trivial, rfl⟩
  apply v_other
  · simp only [List.getElem?_toArray, List.getElem?_cons_zero, List.getElem?_cons_succ]; exact rfl
  · rfl
  · rfl
  · go_simp
  · intro wx hx
    unfold atG
    go_simp
    simp only [uponG]
    exact ⟨by trivial, rfl⟩
  apply v_other
  · simp only [List.getElem?_toArray, List.getElem?_cons_zero, List.getElem?_cons_succ]; exact rfl
  · rfl
  · rfl
  · go_simp
  · intro wx hx
    unfold atG
    go_simp
    simp only [uponG]
    exact ⟨by trivial, rfl⟩
  rintro w1 hx ⟨m0, m1, _, k1', k2', ⟨ux, ex, o0⟩, k3'⟩
  injection ex with ex
  have hux : u0 = ux := by
    have := congrArg (fun a : Array Value => a[0]?) ex
    simpa using this
  subst hux
  clear ex
  obtain ⟨A0, c0, rfl, p0⟩ := own1_form o0
  clear o0
  have q0 := p0.below k3' (Nat.le_refl _)
  have s0a := k1'.size
  have s0b := (k2'.trans k3').size
  have O0 := hide q0; clear p0 q0 k1' k2' k3'
  generalize m0.heap.size = B0 at *
  have b1 : Below w.heap.size w w1 := b0.trans (Below.mono hx b0.size)
  have s1 := hx.size
  have z0 := hx.cells y0 k0
  have l0 := Nat.lt_of_lt_of_le k0 s1
  have z1 := hx.cells y1 k1
  have l1 := Nat.lt_of_lt_of_le k1 s1
  clear y0 k0 y1 k1 hx b0 s1 s0a s0b
  have y0 := z0; have k0 := l0
  clear z0 l0
  have y1 := z1; have k1 := l1
  clear z1 l1
  go_wp2_with fail
  refine region_V (w := w1) (fun k => if k = 4 then some (fun w v w' => ∃ u, v = .tuple #[u, .int .i64 c] ∧ Own1 w.heap.size w' u L) else none) (fun _ => false) [4] (.q 0 <| .q 1 <| .q 2 <| .q 3 <| .s1 4 <| .q 5 <| .q 6 <| .q 7 <| .q 8 <| .q 9 .fin) (by kernel_rfl) (by kernel_rfl) (by kernel_rfl) (fun k hk => ?_) ?_
  · simp at hk; simp [hk]
  apply v_other
  · simp only [List.getElem?_toArray, List.getElem?_cons_zero, List.getElem?_cons_succ]; exact rfl
  · rfl
  · rfl
  · go_simp
  · intro wx hx
    have e0 := hx.cells y0 k0
    have e1 := hx.cells y1 k1
    unfold atG
    go_simp
    simp only [uponG]
    exact ⟨by trivial, rfl⟩
  apply v_other
  · simp only [List.getElem?_toArray, List.getElem?_cons_zero, List.getElem?_cons_succ]; exact rfl
  · rfl
  · rfl
  · go_simp
  · intro wx hx
    have e0 := hx.cells y0 k0
    have e1 := hx.cells y1 k1
    unfold atG
    go_simp
    simp only [uponG]
    exact ⟨by trivial, T0.out wx⟩
  apply v_other
  · simp only [List.getElem?_toArray, List.getElem?_cons_zero, List.getElem?_cons_succ]; exact rfl
  · rfl
  · rfl
  · go_simp
  · intro wx hx
    have e0 := hx.cells y0 k0
    have e1 := hx.cells y1 k1
    unfold atG
    go_simp
    simp only [uponG]
    exact ⟨by trivial, rfl⟩
  apply v_other
  · simp only [List.getElem?_toArray, List.getElem?_cons_zero, List.getElem?_cons_succ]; exact rfl
  · rfl
  · rfl
  · go_simp
  · intro wx hx
    have e0 := hx.cells y0 k0
    have e1 := hx.cells y1 k1
    unfold atG
    go_simp
    simp only [uponG]
    exact ⟨by trivial, T1.out wx⟩
  refine v_E (by simp only [List.getElem?_toArray, List.getElem?_cons_zero, List.getElem?_cons_succ]; exact rfl) rfl (by go_simp) (fun wx hx _ => ?_) ?_
  · go_simp
    simp only [uponE]
    exact ⟨by trivial, (C1.out wx).mono fun e w' ⟨u, h1, h2, h3⟩ => ⟨_, h1, h2, u, rfl, h3⟩⟩
  rintro vq ⟨_, _, _, u1, rfl, _⟩
  apply v_other
  · simp only [List.getElem?_toArray, List.getElem?_cons_zero, List.getElem?_cons_succ]; exact rfl
  · rfl
  · rfl
  · go_simp
  · intro wx hx
    unfold atG
    go_simp
    simp only [uponG]
    exact ⟨by trivial, rfl⟩
  apply v_other
  · simp only [List.getElem?_toArray, List.getElem?_cons_zero, List.getElem?_cons_succ]; exact rfl
  · rfl
  · rfl
  · go_simp
  · intro wx hx
    unfold atG
    go_simp
    simp only [uponG]
    exact ⟨by trivial, rfl⟩
  apply v_other
  · simp only [List.getElem?_toArray, List.getElem?_cons_zero, List.getElem?_cons_succ]; exact rfl
  · rfl
  · rfl
  · go_simp
  · intro wx hx
    unfold atG
    go_simp
    simp only [uponG]
    exact ⟨by trivial, rfl⟩
  apply v_other
  · simp only [List.getElem?_toArray, List.getElem?_cons_zero, List.getElem?_cons_succ]; exact rfl
  · rfl
  · rfl
  · go_simp
  · intro wx hx
    unfold atG
    go_simp
    simp only [uponG]
    exact ⟨by trivial, rfl⟩
  apply v_other
  · simp only [List.getElem?_toArray, List.getElem?_cons_zero, List.getElem?_cons_succ]; exact rfl
  · rfl
  · rfl
  · go_simp
  · intro wx hx
    unfold atG
    go_simp
    simp only [uponG]
    exact ⟨by trivial, rfl⟩
  rintro w2 hx ⟨m0, m1, _, k1', k2', ⟨ux, ex, o1⟩, k3'⟩
  injection ex with ex
  have hux : u1 = ux := by
    have := congrArg (fun a : Array Value => a[0]?) ex
    simpa using this
  subst hux
  clear ex
  obtain ⟨A1, c1, rfl, p1⟩ := own1_form o1
  clear o1
  have q1 := p1.below k3' (Nat.le_refl _)
  have s1a := k1'.size
  have s1b := (k2'.trans k3').size
  have O1 := hide q1; clear p1 q1 k1' k2' k3'
  generalize m0.heap.size = B1 at *
  have O02 := hide (O0.out.below hx (Nat.le_refl _))
  have G2 := hx
  clear hx
  go_wp2_with fail
  refine (eqInt64S_same L A1 A0 c1 c0 _ _ (by omega) _ O1.out O02.out).mono ?_
  rintro e w3 ⟨rfl, h3⟩
  have s3 := h3.size
  have O03 := hide (O02.out.below h3 (Nat.le_refl _))
  have O13 := hide (O1.out.below h3 (Nat.le_refl _))
  have G3 : Grown w1 w3 := Below.trans G2 (h3.mono G2.size)
  clear h3 G2
  go_wp2_with fail
  refine (mk1 L A1 c1 _ (by omega) _ (by omega) O13.out).mono ?_
  rintro e w4 ⟨rfl, h4, s4, o14⟩
  have O14 := hide o14; clear o14
  have O04 := hide (O03.out.lower h4 (fun k hk => by have := O0.out.low k hk; omega))
  have G4 : Grown w1 w4 := Below.trans G3 (h4.mono (by omega))
  clear h4 G3
  go_wp2_with fail
  refine (hd1 L A1 c1 _ (by omega) _ O14.out).mono ?_
  rintro e w5 ⟨rfl, h5⟩
  have O15 := hide (O14.out.below h5 (Nat.le_refl _))
  have O05 := hide (O04.out.below h5 (Nat.le_refl _))
  have G5 : Grown w1 w5 := Below.trans G4 (h5.mono G4.size)
  clear h5 G4
  have z0 := G5.cells y0 k0
  have l0 := Nat.lt_of_lt_of_le k0 G5.size
  have z1 := G5.cells y1 k1
  have l1 := Nat.lt_of_lt_of_le k1 G5.size
  clear y0 k0 y1 k1
  have y0 := z0; have k0 := l0
  clear z0 l0
  have y1 := z1; have k1 := l1
  clear z1 l1
  go_wp2_with fail
  refine region_V (w := w5) (fun k => if k = 4 then some (fun w v w' => ∃ u, v = .tuple #[u, .int .i64 c] ∧ Own1 w.heap.size w' u L) else none) (fun _ => false) [4] (.q 0 <| .q 1 <| .q 2 <| .q 3 <| .s1 4 <| .q 5 <| .q 6 <| .q 7 <| .q 8 <| .q 9 .fin) (by kernel_rfl) (by kernel_rfl) (by kernel_rfl) (fun k hk => ?_) ?_
  · simp at hk; simp [hk]
  apply v_other
  · simp only [List.getElem?_toArray, List.getElem?_cons_zero, List.getElem?_cons_succ]; exact rfl
  · rfl
  · rfl
  · go_simp
  · intro wx hx
    have e0 := hx.cells y0 k0
    have e1 := hx.cells y1 k1
    unfold atG
    go_simp
    simp only [uponG]
    exact ⟨by trivial, rfl⟩
  apply v_other
  · simp only [List.getElem?_toArray, List.getElem?_cons_zero, List.getElem?_cons_succ]; exact rfl
  · rfl
  · rfl
  · go_simp
  · intro wx hx
    have e0 := hx.cells y0 k0
    have e1 := hx.cells y1 k1
    unfold atG
    go_simp
    simp only [uponG]
    exact ⟨by trivial, T0.out wx⟩
  apply v_other
  · simp only [List.getElem?_toArray, List.getElem?_cons_zero, List.getElem?_cons_succ]; exact rfl
  · rfl
  · rfl
  · go_simp
  · intro wx hx
    have e0 := hx.cells y0 k0
    have e1 := hx.cells y1 k1
    unfold atG
    go_simp
    simp only [uponG]
    exact ⟨by trivial, rfl⟩
  apply v_other
  · simp only [List.getElem?_toArray, List.getElem?_cons_zero, List.getElem?_cons_succ]; exact rfl
  · rfl
  · rfl
  · go_simp
  · intro wx hx
    have e0 := hx.cells y0 k0
    have e1 := hx.cells y1 k1
    unfold atG
    go_simp
    simp only [uponG]
    exact ⟨by trivial, T1.out wx⟩
  refine v_E (by simp only [List.getElem?_toArray, List.getElem?_cons_zero, List.getElem?_cons_succ]; exact rfl) rfl (by go_simp) (fun wx hx _ => ?_) ?_
  · go_simp
    simp only [uponE]
    exact ⟨by trivial, (C1.out wx).mono fun e w' ⟨u, h1, h2, h3⟩ => ⟨_, h1, h2, u, rfl, h3⟩⟩
  rintro vq ⟨_, _, _, u2, rfl, _⟩
  apply v_other
  · simp only [List.getElem?_toArray, List.getElem?_cons_zero, List.getElem?_cons_succ]; exact rfl
  · rfl
  · rfl
  · go_simp
  · intro wx hx
    unfold atG
    go_simp
    simp only [uponG]
    exact ⟨by trivial, rfl⟩
  apply v_other
  · simp only [List.getElem?_toArray, List.getElem?_cons_zero, List.getElem?_cons_succ]; exact rfl
  · rfl
  · rfl
  · go_simp
  · intro wx hx
    unfold atG
    go_simp
    simp only [uponG]
    exact ⟨by trivial, rfl⟩
  apply v_other
  · simp only [List.getElem?_toArray, List.getElem?_cons_zero, List.getElem?_cons_succ]; exact rfl
  · rfl
  · rfl
  · go_simp
  · intro wx hx
    unfold atG
    go_simp
    simp only [uponG]
    exact ⟨by trivial, rfl⟩
  apply v_other
  · simp only [List.getElem?_toArray, List.getElem?_cons_zero, List.getElem?_cons_succ]; exact rfl
  · rfl
  · rfl
  · go_simp
  · intro wx hx
    unfold atG
    go_simp
    simp only [uponG]
    exact ⟨by trivial, rfl⟩
  apply v_other
  · simp only [List.getElem?_toArray, List.getElem?_cons_zero, List.getElem?_cons_succ]; exact rfl
  · rfl
  · rfl
  · go_simp
  · intro wx hx
    unfold atG
    go_simp
    simp only [uponG]
    exact ⟨by trivial, rfl⟩
  rintro w6 hx ⟨m0, m1, _, k1', k2', ⟨ux, ex, o2⟩, k3'⟩
  injection ex with ex
  have hux : u2 = ux := by
    have := congrArg (fun a : Array Value => a[0]?) ex
    simpa using this
  subst hux
  clear ex
  obtain ⟨A2, c2, rfl, p2⟩ := own1_form o2
  clear o2
  have q2 := p2.below k3' (Nat.le_refl _)
  have s2a := k1'.size
  have s2b := (k2'.trans k3').size
  have O2 := hide q2; clear p2 q2 k1' k2' k3'
  generalize m0.heap.size = B2 at *
  have O06 := hide (O05.out.below hx (Nat.le_refl _))
  have O16 := hide (O15.out.below hx (Nat.le_refl _))
  have G6 : Grown w1 w6 := Below.trans G5 (Below.mono hx G5.size)
  clear hx G5
  go_wp2_with fail
  refine (eqInt64S_same L A2 A0 c2 c0 _ _ (by omega) _ O2.out O06.out).mono ?_
  rintro e w7 ⟨rfl, h7⟩
  have O17 := hide (O16.out.below h7 (Nat.le_refl _))
  have G7 : Grown w1 w7 := Below.trans G6 (h7.mono G6.size)
  clear h7 G6
  go_wp2_with fail
  refine (hd1 L A1 c1 _ (by omega) _ O17.out).mono ?_
  rintro e w8 ⟨rfl, h8⟩
  have b8 := b1.trans ((Below.trans G7 (h8.mono G7.size)).mono b1.size)
  clear h8 G7
  go_wp2
  go_ret
  exact ⟨rfl, b8⟩
end Go.Proofs.Ytjhpkibeddnbfaa
