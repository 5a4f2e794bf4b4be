/- impl.pairsFrom -/
import Derived.Test.YtjhpkibeddnbfaaPk
import Derived.Test.YtjhpkibeddnbfaaIsDes
import Derived.Test.YtjhpkibeddnbfaaRegD
namespace Go.Proofs.Ytjhpkibeddnbfaa
open Go.RowKit

/-- pairs by codes -/
def bF (p q : Nat → Nat) (z : Nat) : Nat := 16 * p (z / 16) + q (z % 16)
theorem bF_1 {p q : Nat → Nat} {z : Nat} (h : q (z % 16) < 16) : bF p q z / 16 = p (z / 16) := by unfold bF; omega
theorem bF_2 {p q : Nat → Nat} {z : Nat} (h : q (z % 16) < 16) : bF p q z % 16 = q (z % 16) := by unfold bF; omega
theorem PermN.lt16 {p : Nat → Nat} {m : Nat} (h : PermN p m) {i : Nat} (hi : i < 16) : p i < 16 := by
  obtain ⟨h1, h2, h3, h4⟩ := h
  rcases Nat.lt_or_ge i m with c | c
  · have := h3.1 i c; omega
  · rw [h4 i c hi]; omega
theorem bF_lt {p q : Nat → Nat} {m n : Nat} (hp : PermN p m) (hq : PermN q n) (z : Nat) (hz : z < 256) : bF p q z < 256 := by
  have h1 := hp.lt16 (i := z / 16) (by omega)
  have h2 := hq.lt16 (i := z % 16) (by omega)
  unfold bF; omega
def dec (l : List Nat) : List (Nat × Nat) := l.map fun z => (z / 16, z % 16)
theorem dec_length (l : List Nat) : (dec l).length = l.length := by unfold dec; simp
theorem dec_snoc (l : List Nat) (z : Nat) : dec (l ++ [z]) = dec l ++ [(z / 16, z % 16)] := by unfold dec; simp
theorem dec_at {l : List Nat} {k : Nat} (hk : k < l.length) : (dec l)[k]'(by rw [dec_length]; exact hk) = (l[k] / 16, l[k] % 16) := by unfold dec; simp
theorem badd_mem {n : Nat} {S : List Nat × (Nat → Bool)} (h : BInv n S) (y : Nat) : y ∈ (badd S y).1 := by
  unfold badd
  by_cases c : S.2 y = true
  · rw [if_pos c]; exact (h.mem y).1 c
  · rw [if_neg c]; simp
/-- what has been found is closed -/
theorem bfs_clos {p q : Nat → Nat} {n K z : Nat} (hp : ∀ x, x < n → p x < n) (hq : ∀ x, x < n → q x < n) (hz : z < n) (hK : n ≤ K) {y : Nat} (hy : y ∈ (bfs p q z K).1) : p y ∈ (bfs p q z K).1 ∧ q y ∈ (bfs p q z K).1 := by
  obtain ⟨k, hk⟩ := List.getElem?_of_mem hy
  have hkl := (List.getElem?_eq_some_iff.1 hk).1
  have hle := (bfs_inv hp hq hz K).length_le
  have hlt : k < (bfs p q z k).1.length := by
    rcases Nat.lt_or_ge k (bfs p q z k).1.length with c | c
    · exact c
    · have := bfs_stop c (j := K) (by omega)
      rw [this] at hkl
      omega
  have hpre := bfs_pre' p q z (show k ≤ K by omega)
  have hky : (bfs p q z k).1[k] = y := by
    obtain ⟨t, ht⟩ := hpre
    rw [← ht, List.getElem?_append_left hlt, List.getElem?_eq_getElem hlt] at hk
    exact Option.some.inj hk
  have hI := bfs_inv hp hq hz k
  have hn := bfs_next hlt
  rw [hky] at hn
  have hy' : y < n := (bfs_inv hp hq hz K).lt y hy
  have e : bst p q (bfs p q z k) y 2 = badd (badd (bfs p q z k) (p y)) (q y) := rfl
  rw [e] at hn
  have hpre2 := bfs_pre' p q z (show k + 1 ≤ K by omega)
  refine ⟨hpre2.subset ?_, hpre2.subset ?_⟩
  · rw [hn]; exact (badd_le _ _).subset (badd_mem hI _)
  · rw [hn]; exact badd_mem (hI.add (hp y hy')) _
/-- the value of a code; the map of a set of codes -/
def encP (z : Nat) : Value := .agg #[.int .u8 ((z / 16 : Nat) : Int), .int .u8 ((z % 16 : Nat) : Int)]
theorem encP_inj {y z : Nat} (h : encP y = encP z) : y = z := by
  unfold encP at h
  injection h with h
  have h' := congrArg Array.toList h
  simp at h'
  omega
open Classical in
noncomputable def Mp (s : Nat → Bool) : Value → Option Value := fun v => if ∃ z, v = encP z ∧ s z = true then some (.bool true) else none
theorem Mp_at (s : Nat → Bool) (z : Nat) : Mp s (encP z) = if s z = true then some (.bool true) else none := by
  unfold Mp
  by_cases h : s z = true
  · rw [if_pos ⟨z, rfl, h⟩, if_pos h]
  · rw [if_neg (fun ⟨y, e, hy⟩ => h (by rw [encP_inj e]; exact hy)), if_neg h]
theorem Mp_put (s : Nat → Bool) (z : Nat) : mput (Mp s) (encP z) (.bool true) = Mp (mset s z) := by
  funext v
  unfold mput Mp mset
  by_cases h : v = encP z
  · rw [if_pos h, if_pos ⟨z, h, by simp⟩]
  · rw [if_neg h]
    by_cases c : ∃ y, v = encP y ∧ s y = true
    · rw [if_pos c]
      obtain ⟨y, e, hy⟩ := c
      rw [if_pos ⟨y, e, by simp [hy]⟩]
    · rw [if_neg c, if_neg]
      rintro ⟨y, e, hy⟩
      by_cases d : y = z
      · subst d; exact h e
      · exact c ⟨y, e, by simpa [d] using hy⟩
theorem Mp_nil : (fun _ => none : Value → Option Value) = Mp fun _ => false := by funext v; unfold Mp; simp
theorem isK_code {z : Nat} (hz : z < 256) : IsK Try.prog 68 (encP z) := isK_pair _ _ (by omega) (by omega)
theorem zeroBool (w : World) : (zeroValue 4).run Try.prog w = .ok (.bool false) w := by
  have h : (Try.prog.info? 4).map (·.zero) = some (some (.bool false)) := by kernel_rfl
  rcases hi : Try.prog.info? 4 with _ | i
  · rw [hi] at h; cases h
  · rw [hi] at h
    have hz : i.zero = some (.bool false) := by simpa using h
    simp [zeroValue, typeInfo, hi, hz]
theorem look_code {w0 w : World} {L : List Part} (H : Holds w0 w L) (i : Nat) {G : Nat} {s : Nat → Bool} (hi : L[i]? = some (pMap Try.prog 68 G (Mp s))) {z : Nat} (hz : z < 256) :
    (Instr.lookup 114 (.map (some G)) (encP z) false).run Try.prog w = .ok (.bool (s z)) w := by
  rw [run_mlook keyedPr Try.underlying114 zeroBool (H.at i hi) (isK_code hz) false, Mp_at]
  rcases s z with _ | _ <;> rfl
theorem infoArr2 : (Try.prog.info? 68).map (·.size) = some 2 := by kernel_rfl
theorem idx_two (a b c d : Value) (w : World) (hs : a.oneCell' = true ∧ b.oneCell' = true ∧ c.oneCell' = true ∧ d.oneCell' = true) :
    (Instr.index 116 (.agg #[a, b, c, d]) (.int .i64 0)).run Try.prog w = .ok (.agg #[a, b]) w ∧ (Instr.index 116 (.agg #[a, b, c, d]) (.int .i64 1)).run Try.prog w = .ok (.agg #[c, d]) w := by
  rcases hi : Try.prog.info? 68 with _ | i
  · have := infoArr2; rw [hi] at this; cases this
  · have hsz : i.size = 2 := by have := infoArr2; rw [hi] at this; simpa using this
    have hag : (isAgg 68).run Try.prog w = .ok true w := by simp [isAgg, run_underlying Try.underlying68]
    constructor
    · simp [Instr.index, run_underlying Try.underlying116, asIntOf, go_sem, sizeOf, typeInfo, hi, hsz, part, hag]
    · simp [Instr.index, run_underlying Try.underlying116, asIntOf, go_sem, sizeOf, typeInfo, hi, hsz, part, hag]

set_option maxRecDepth 100000 in
set_option maxHeartbeats 2000000 in
theorem pairsFrom_any (f g f' g' : Nat → Nat) (m n : Nat) (hd : DesN f g m) (he : DesN f' g' n) (x y : Nat) (hx : x < 16) (hy : y < 16) (w : World) :
    Calls Try.prog 52 #[.agg (dv m f g), .agg (dv n f' g'), .agg #[.int .u8 x, .int .u8 y]] w fun e w' => ∃ v, e = .returned v ∧ Below w.heap.size w w' ∧
      w'.ownsRow w.heap.size 68 2 v (bfs (bF f f') (bF g g') (16 * x + y) 256).1.length (pairB (dec (bfs (bF f f') (bF g g') (16 * x + y) 256).1)) := by
  have hm := hd.le
  have hB := fun z hz => bF_lt hd.black he.black z hz
  have hW := fun z hz => bF_lt hd.white he.white z hz
  have C2 := hide fun (p q : Nat → Nat) (a b : Nat) (ha : a < 16) (hb : b < 16) w => pairAfter_any p q a b ha hb w
  have hz0 : 16 * x + y < 256 := by omega
  obtain ⟨F, FI, F0, FN, FE⟩ : ∃ (F : Nat → List Nat × (Nat → Bool)), Hid (∀ k, BInv 256 (F k)) ∧ Hid (F 0 = ([16 * x + y], mset (fun _ => false) (16 * x + y))) ∧ Hid (∀ k (hk : k < (F k).1.length), F (k + 1) = bst (bF f f') (bF g g') (F k) ((F k).1[k]) 2) ∧
      Hid (∀ k, k ≤ 256 → (F k).1.length ≤ k → (bfs (bF f f') (bF g g') (16 * x + y) 256).1 = (F k).1) :=
    ⟨bfs (bF f f') (bF g g') (16 * x + y), hide fun k => bfs_inv hB hW hz0 k, hide (bfs_start _ _ _), hide fun k hk => bfs_next hk, hide fun k h1 h2 => by
      generalize 256 = K at *
      rw [bfs_stop h2 h1]⟩
  obtain ⟨R, hR⟩ : ∃ R, R = (bfs (bF f f') (bF g g') (16 * x + y) 256).1 := ⟨_, rfl⟩
  rw [← hR] at FE ⊢
  clear hR
  have HBW := hide (And.intro hB hW); clear hB hW
  have HP := hide (And.intro (And.intro hd.black hd.white) (And.intro he.black he.white)); clear hd he
  have mk := fun w => run_mk (P := Try.prog) 114 w
  have e0 : encP (16 * x + y) = .agg #[.int .u8 (x : Int), .int .u8 (y : Int)] := by
    unfold encP
    rw [show (16 * x + y) / 16 = x by omega, show (16 * x + y) % 16 = y by omega]
  have HE0 := hide e0; clear e0
  go_enter Try.func52, Try.ntmps52
  have HH0 := (((Holds.start w).blk (dv m f g) 30 w.heap.size rfl).blk (dv n f' g') 30 (w.heap.size + 1) (by simp)).blk #[.int .u8 x, .int .u8 y] 68 (w.heap.size + 1 + 1) (by simp)
  have HH1 := HH0.rowNew #[.int .u8 x, .int .u8 y] 68 2 1 (w.heap.size + 1 + 1 + 1) (by simp) rfl (by unfold maxLen; omega)
  have HH2 := HH1.newMap Try.prog 68 (w.heap.size + 1 + 1 + 1 + 1) (by simp)
  clear HH0 HH1
  go_wp2_with (refine minsH keyedPr rfl _ _ _ rfl Try.underlying114 HH2 0 rfl rfl rfl rfl ?_ ?_)
  · have := isK_code (z := 16 * x + y) (by omega)
    rw [HE0.out] at this
    exact this
  intro w1 HH3 hs1
  rw [← HE0.out, Mp_nil, Mp_put] at HH3
  have hd0 : dec [16 * x + y] = [(x, y)] := by
    unfold dec
    simp only [List.map_cons, List.map_nil]
    rw [show (16 * x + y) / 16 = x by omega, show (16 * x + y) % 16 = y by omega]
  have HD0 := hide hd0; clear hd0
  have HH4 := HH3.sub (.cons_cons _ (.cons_cons _ (.cons _ (.refl _))))
  clear mk HH2 HH3 hs1
  go_wp2
  go_loopw [7, 9] (fun u t wr => ∃ k : Nat, k ≤ (F k).1.length ∧ t = .int .i64 k ∧ Holds w wr [pMap Try.prog 68 (w.heap.size + 1 + 1 + 1 + 1) (Mp (F k).2), pPairs u (dec (F k).1), pBlk (w.heap.size + 1) (dv n f' g') 30, pBlk w.heap.size (dv m f g) 30]) (fun _ t _ => 257 - (intOf t).toNat)
  case atStart => exact ⟨0, by omega, rfl, by rw [F0.out, HD0.out]; exact HH4⟩
  case round =>
    clear HH4
    obtain ⟨k, hk, rfl, hH⟩ := hrel
    have hI := FI.out k
    have hle := hI.length_le
    by_cases hkl : k < (F k).1.length
    · obtain ⟨g0, c0, rfl, _, _, _⟩ := hH.pairs 1 rfl (k := k) (by rw [dec_length]; exact hkl)
      have hnx := FN.out k hkl
      have hX := hI.lt _ (List.getElem_mem hkl)
      have hda := dec_at hkl
      obtain ⟨a, hab1⟩ : ∃ a, a = (F k).1[k] / 16 := ⟨_, rfl⟩
      obtain ⟨b, hab2⟩ : ∃ b, b = (F k).1[k] % 16 := ⟨_, rfl⟩
      rw [← hab1, ← hab2] at hda
      have ha16 : a < 16 := by omega
      have hb16 : b < 16 := by omega
      rw [dec_length] at hH ⊢
      generalize hS : F k = S at *
      have hat : ∀ wx, Holds w wx [pMap Try.prog 68 (w.heap.size + 1 + 1 + 1 + 1) (Mp (S).2), pPairs (.slice (some ⟨g0, 0, none⟩) S.1.length c0) (dec (S).1), pBlk (w.heap.size + 1) (dv n f' g') 30, pBlk w.heap.size (dv m f g) 30] → wx.cell? ⟨g0, k * 2, none⟩ = some (.int .u8 (a : Int)) ∧ wx.cell? ⟨g0, k * 2 + 1, none⟩ = some (.int .u8 (b : Int)) := by
        intro wx hx
        obtain ⟨gq, cq, eq, _, q1, q2⟩ := hx.pairs 1 rfl (k := k) (by rw [dec_length]; exact hkl)
        injection eq with eq
        injection eq with eq
        injection eq with eq
        subst eq
        rw [hda] at q1 q2
        exact ⟨q1, q2⟩
      clear hda
      generalize S.1[k] = X at *
      have HAT := hide hat; clear hat
      have HS := hide hS; clear hS
      have HNX := hide hnx; clear hnx
      have HI := hide hI; clear hI
      have hfa := HP.out.1.1.lt16 ha16
      have hga := HP.out.1.2.lt16 ha16
      have hfb := HP.out.2.1.lt16 hb16
      have hgb := HP.out.2.2.lt16 hb16
      have hB := HBW.out.1 X hX
      have hW := HBW.out.2 X hX
      have vB : bF f f' X / 16 = f a ∧ bF f f' X % 16 = f' b := by rw [hab1, hab2]; rw [hab2] at hfb; exact ⟨bF_1 hfb, bF_2 hfb⟩
      have vW : bF g g' X / 16 = g a ∧ bF g g' X % 16 = g' b := by rw [hab1, hab2]; rw [hab2] at hgb; exact ⟨bF_1 hgb, bF_2 hgb⟩
      have eB : encP (bF f f' X) = .agg #[.int .u8 (f a : Nat), .int .u8 (f' b : Nat)] := by unfold encP; rw [vB.1, vB.2]
      have eW : encP (bF g g' X) = .agg #[.int .u8 (g a : Nat), .int .u8 (g' b : Nat)] := by unfold encP; rw [vW.1, vW.2]
      have dB : ∀ l : List Nat, dec (l ++ [bF f f' X]) = dec l ++ [(f a, f' b)] := fun l => by rw [dec_snoc, vB.1, vB.2]
      have dW : ∀ l : List Nat, dec (l ++ [bF g g' X]) = dec l ++ [(g a, g' b)] := fun l => by rw [dec_snoc, vW.1, vW.2]
      have HAB := hide (And.intro hab1 hab2); clear hab1 hab2 vB vW
      have EE := hide (And.intro (And.intro eB eW) (And.intro dB dW)); clear eB eW dB dW
      have HBX := hide (And.intro hB hW); clear hB hW
      go_wp2
      refine Rd.region_P (w0 := w) [pMap Try.prog 68 (w.heap.size + 1 + 1 + 1 + 1) (Mp (S).2), pPairs (.slice (some ⟨g0, 0, none⟩) S.1.length c0) (dec (S).1), pBlk (w.heap.size + 1) (dv n f' g') 30, pBlk w.heap.size (dv m f g) 30] [pMap Try.prog 68 (w.heap.size + 1 + 1 + 1 + 1) (Mp (S).2), pPairs (.slice (some ⟨g0, 0, none⟩) S.1.length c0) (dec (S).1), pBlk (w.heap.size + 1) (dv n f' g') 30, pBlk w.heap.size (dv m f g) 30] [9, 10] (.q 0 <| .q 1 <| .q 2 <| .q 3 <| .q 4 <| .q 5 <| .q 6 <| .q 7 <| .q 8 <| .s1 9 <| .s1 10 .fin) hH (.refl _) (by kernel_rfl) (by kernel_rfl) (by kernel_rfl) ?_
      iterate 8
        apply Rd.v_q
        · simp only [List.getElem?_toArray, List.getElem?_cons_zero, List.getElem?_cons_succ]; exact rfl
        · rfl
        · go_simp
        · intro wx hx
          have q1 := (HAT.out wx hx).1
          have q2 := (HAT.out wx hx).2
          have c3 := hx.cells 3 rfl
          have c4 := hx.cells 2 rfl
          unfold atG
          go_simp
          simp only [uponG]
          exact ⟨by trivial, rfl⟩
      iterate 1
        apply Rd.v_q
        · simp only [List.getElem?_toArray, List.getElem?_cons_zero, List.getElem?_cons_succ]; exact rfl
        · rfl
        · go_simp
        · intro wx hx
          have q1 := (HAT.out wx hx).1
          have q2 := (HAT.out wx hx).2
          have c3 := hx.cells 3 rfl
          have c4 := hx.cells 2 rfl
          unfold atG
          go_simp
          simp only [uponG]
          exact ⟨by trivial, C2.out f f' a b (by omega) (by omega) wx⟩
      refine Rd.v_box #[.int .u8 0, .int .u8 0] 68 (by simp only [List.getElem?_toArray, List.getElem?_cons_zero, List.getElem?_cons_succ]; exact rfl) rfl (by go_simp) (fun wx hx hD => by go_simp) fun gq => ?_
      refine Rd.v_s (Rd.rHolds w fun _ => pBlk gq #[.int .u8 (f a : Nat), .int .u8 (f' b : Nat)] 68 :: [pMap Try.prog 68 (w.heap.size + 1 + 1 + 1 + 1) (Mp (S).2), pPairs (.slice (some ⟨g0, 0, none⟩) S.1.length c0) (dec (S).1), pBlk (w.heap.size + 1) (dv n f' g') 30, pBlk w.heap.size (dv m f g) 30]) Rd.rHolds_stable (by simp only [List.getElem?_toArray, List.getElem?_cons_zero, List.getElem?_cons_succ]; exact rfl) rfl (by go_simp) (fun wx hx hD => ?_) ?_
      · skip
        have c0 := hD.cell 0 (j := 0) rfl rfl
        have fr0 := hD.frozen 0 rfl 0
        have c1 := hD.cell 0 (j := 1) rfl rfl
        have fr1 := hD.frozen 0 rfl 1
        go_simp
        simp only [Rd.uponE]
        have h2 := (hD.set 0 rfl 0 (.int .u8 (f a : Nat))).set 0 rfl 1 (.int .u8 (f' b : Nat))
        exact ⟨h2.tail, h2⟩
      rintro vn -
      rintro w2 - hx2
      clear hH
      generalize gq = G6 at *
      go_wp2
      refine Rd.region_P (w0 := w) (pBlk G6 #[.int .u8 (f a : Nat), .int .u8 (f' b : Nat)] 68 :: [pMap Try.prog 68 (w.heap.size + 1 + 1 + 1 + 1) (Mp (S).2), pPairs (.slice (some ⟨g0, 0, none⟩) S.1.length c0) (dec (S).1), pBlk (w.heap.size + 1) (dv n f' g') 30, pBlk w.heap.size (dv m f g) 30]) (pBlk G6 #[.int .u8 (f a : Nat), .int .u8 (f' b : Nat)] 68 :: [pMap Try.prog 68 (w.heap.size + 1 + 1 + 1 + 1) (Mp (S).2), pPairs (.slice (some ⟨g0, 0, none⟩) S.1.length c0) (dec (S).1), pBlk (w.heap.size + 1) (dv n f' g') 30, pBlk w.heap.size (dv m f g) 30]) [9, 10] (.q 0 <| .q 1 <| .q 2 <| .q 3 <| .q 4 <| .q 5 <| .q 6 <| .q 7 <| .q 8 <| .s1 9 <| .s1 10 .fin) hx2 (.refl _) (by kernel_rfl) (by kernel_rfl) (by kernel_rfl) ?_
      iterate 8
        apply Rd.v_q
        · simp only [List.getElem?_toArray, List.getElem?_cons_zero, List.getElem?_cons_succ]; exact rfl
        · rfl
        · go_simp
        · intro wx hx
          have q1 := (HAT.out wx hx.tail).1
          have q2 := (HAT.out wx hx.tail).2
          have c3 := hx.cells 4 rfl
          have c4 := hx.cells 3 rfl
          unfold atG
          go_simp
          simp only [uponG]
          exact ⟨by trivial, rfl⟩
      iterate 1
        apply Rd.v_q
        · simp only [List.getElem?_toArray, List.getElem?_cons_zero, List.getElem?_cons_succ]; exact rfl
        · rfl
        · go_simp
        · intro wx hx
          have q1 := (HAT.out wx hx.tail).1
          have q2 := (HAT.out wx hx.tail).2
          have c3 := hx.cells 4 rfl
          have c4 := hx.cells 3 rfl
          unfold atG
          go_simp
          simp only [uponG]
          exact ⟨by trivial, C2.out g g' a b (by omega) (by omega) wx⟩
      refine Rd.v_box #[.int .u8 0, .int .u8 0] 68 (by simp only [List.getElem?_toArray, List.getElem?_cons_zero, List.getElem?_cons_succ]; exact rfl) rfl (by go_simp) (fun wx hx hD => by go_simp) fun gq => ?_
      refine Rd.v_s (Rd.rHolds w fun _ => pBlk gq #[.int .u8 (g a : Nat), .int .u8 (g' b : Nat)] 68 :: (pBlk G6 #[.int .u8 (f a : Nat), .int .u8 (f' b : Nat)] 68 :: [pMap Try.prog 68 (w.heap.size + 1 + 1 + 1 + 1) (Mp (S).2), pPairs (.slice (some ⟨g0, 0, none⟩) S.1.length c0) (dec (S).1), pBlk (w.heap.size + 1) (dv n f' g') 30, pBlk w.heap.size (dv m f g) 30])) Rd.rHolds_stable (by simp only [List.getElem?_toArray, List.getElem?_cons_zero, List.getElem?_cons_succ]; exact rfl) rfl (by go_simp) (fun wx hx hD => ?_) ?_
      · skip
        have c0 := hD.cell 0 (j := 0) rfl rfl
        have fr0 := hD.frozen 0 rfl 0
        have c1 := hD.cell 0 (j := 1) rfl rfl
        have fr1 := hD.frozen 0 rfl 1
        go_simp
        simp only [Rd.uponE]
        have h2 := (hD.set 0 rfl 0 (.int .u8 (g a : Nat))).set 0 rfl 1 (.int .u8 (g' b : Nat))
        exact ⟨h2.tail, h2⟩
      rintro vn -
      rintro w3 - hx3
      clear hx2
      have c0 := hx3.cell 0 (j := 0) rfl rfl
      have c1 := hx3.cell 0 (j := 1) rfl rfl
      have c2 := hx3.cell 1 (j := 0) rfl rfl
      have c3 := hx3.cell 1 (j := 1) rfl rfl
      have hHe := (Holds.tail (Holds.tail hx3))
      go_wp2
      clear c0 c1 c2 c3 hx3
      go_loopw [7, 46] (fun u t wr => ∃ jj : Nat, jj ≤ 2 ∧ t = .int .i64 jj ∧ Holds w wr [pMap Try.prog 68 (w.heap.size + 1 + 1 + 1 + 1) (Mp (bst (bF f f') (bF g g') S X jj).2), pPairs u (dec (bst (bF f f') (bF g g') S X jj).1), pBlk (w.heap.size + 1) (dv n f' g') 30, pBlk w.heap.size (dv m f g) 30]) (fun _ t _ => 2 - (intOf t).toNat)
      case atStart => exact ⟨0, by omega, rfl, hHe⟩
      case round =>
        clear hHe
        obtain ⟨j, hj, rfl, hH⟩ := hrel
        by_cases hj2 : j < 2
        · have hjj : j = 0 ∨ j = 1 := by omega
          rcases hjj with hj0 | hj1
          · obtain rfl := hj0
            have hst : bst (bF f f') (bF g g') S X 1 = badd (bst (bF f f') (bF g g') S X 0) (bF f f' X) := rfl
            have hIT := bst_inv HI.out HBX.out.1 HBX.out.2 0
            have hTl := hIT.length_le
            generalize bst (bF f f') (bF g g') S X 0 = T at *
            have ix := fun w' => (idx_two (.int .u8 (f a : Nat)) (.int .u8 (f' b : Nat)) (.int .u8 (g a : Nat)) (.int .u8 (g' b : Nat)) w' ⟨rfl, rfl, rfl, rfl⟩).1
            have hHb := hH.blk #[.int .u8 (f a : Nat), .int .u8 (f' b : Nat)] 68 wr.heap.size rfl
            have lk := look_code hHb 1 rfl (z := bF f f' X) HBX.out.1
            have HIT := hide hIT; clear hIT
            have HST := hide hst; clear hst
            rcases hTY : T.2 (bF f f' X) with _ | _
            · rw [hTY, EE.out.1.1] at lk
              have HTY := hide hTY; clear hTY
              obtain ⟨A', c', rfl⟩ := hH.pairsForm 1 rfl
              go_wp2_with (refine mputH keyedPr rfl _ _ _ rfl Try.underlying114 hHb 1 rfl rfl rfl rfl ?_ ?_)
              · have := isK_code (z := bF f f' X) HBX.out.1
                rw [EE.out.1.1] at this
                exact this
              intro w4 hH4 hs4
              clear hs4
              rw [← EE.out.1.1, Mp_put] at hH4
              have d0 : w4.cell? ⟨wr.heap.size, 0, none⟩ = some (.int .u8 (f a : Nat)) := hH4.cell 0 rfl rfl
              have d1 : w4.cell? ⟨wr.heap.size, 1, none⟩ = some (.int .u8 (f' b : Nat)) := hH4.cell 0 rfl rfl
              clear lk ix hHb hH
              go_wp2_with (at_builtin; refine appP (hH4.alloc _) 2 rfl w4.heap.size [(f a, f' b)] 68 ?_ ?_ rfl _ _ rfl rfl rfl ?_)
              · exact heap_at _ _ _ rfl
              · rw [dec_length]; simp only [List.length_cons, List.length_nil]; omega
              intro v' w5 hH5
              clear d0 d1 hH4
              go_wp2
              go_roundw
              case rel =>
                refine ⟨1, by omega, by go_num, ?_⟩
                rw [HST.out, badd_new HTY.out]
                show Holds w w5 [_, pPairs v' (dec (T.1 ++ [bF f f' X])), _, _]
                rw [EE.out.2.1]
                exact hH5.tail
              case measure => simp [intOf]
            · rw [hTY, EE.out.1.1] at lk
              have HTY := hide hTY; clear hTY
              go_wp2
              go_roundw
              case rel =>
                refine ⟨1, by omega, by go_num, ?_⟩
                rw [HST.out, badd_old HTY.out]
                exact hHb.tail
              case measure => simp [intOf]
          · obtain rfl := hj1
            have hst : bst (bF f f') (bF g g') S X 2 = badd (bst (bF f f') (bF g g') S X 1) (bF g g' X) := rfl
            have hIT := bst_inv HI.out HBX.out.1 HBX.out.2 1
            have hTl := hIT.length_le
            generalize bst (bF f f') (bF g g') S X 1 = T at *
            have ix := fun w' => (idx_two (.int .u8 (f a : Nat)) (.int .u8 (f' b : Nat)) (.int .u8 (g a : Nat)) (.int .u8 (g' b : Nat)) w' ⟨rfl, rfl, rfl, rfl⟩).2
            have hHb := hH.blk #[.int .u8 (g a : Nat), .int .u8 (g' b : Nat)] 68 wr.heap.size rfl
            have lk := look_code hHb 1 rfl (z := bF g g' X) HBX.out.2
            have HIT := hide hIT; clear hIT
            have HST := hide hst; clear hst
            rcases hTY : T.2 (bF g g' X) with _ | _
            · rw [hTY, EE.out.1.2] at lk
              have HTY := hide hTY; clear hTY
              obtain ⟨A', c', rfl⟩ := hH.pairsForm 1 rfl
              go_wp2_with (refine mputH keyedPr rfl _ _ _ rfl Try.underlying114 hHb 1 rfl rfl rfl rfl ?_ ?_)
              · have := isK_code (z := bF g g' X) HBX.out.2
                rw [EE.out.1.2] at this
                exact this
              intro w4 hH4 hs4
              clear hs4
              rw [← EE.out.1.2, Mp_put] at hH4
              have d0 : w4.cell? ⟨wr.heap.size, 0, none⟩ = some (.int .u8 (g a : Nat)) := hH4.cell 0 rfl rfl
              have d1 : w4.cell? ⟨wr.heap.size, 1, none⟩ = some (.int .u8 (g' b : Nat)) := hH4.cell 0 rfl rfl
              clear lk ix hHb hH
              go_wp2_with (at_builtin; refine appP (hH4.alloc _) 2 rfl w4.heap.size [(g a, g' b)] 68 ?_ ?_ rfl _ _ rfl rfl rfl ?_)
              · exact heap_at _ _ _ rfl
              · rw [dec_length]; simp only [List.length_cons, List.length_nil]; omega
              intro v' w5 hH5
              clear d0 d1 hH4
              go_wp2
              go_roundw
              case rel =>
                refine ⟨2, by omega, by go_num, ?_⟩
                rw [HST.out, badd_new HTY.out]
                show Holds w w5 [_, pPairs v' (dec (T.1 ++ [bF g g' X])), _, _]
                rw [EE.out.2.2]
                exact hH5.tail
              case measure => simp [intOf]
            · rw [hTY, EE.out.1.2] at lk
              have HTY := hide hTY; clear hTY
              go_wp2
              go_roundw
              case rel =>
                refine ⟨2, by omega, by go_num, ?_⟩
                rw [HST.out, badd_old HTY.out]
                exact hHb.tail
              case measure => simp [intOf]
        · obtain rfl : j = 2 := by omega
          have hn2 := HNX.out
          rw [← hn2] at hH
          have hIN := FI.out (k + 1)
          have hln : k + 1 ≤ (F (k + 1)).1.length := by
            have h1 := (bst_pre (bF f f') (bF g g') S X 2).length_le
            rw [hn2]; omega
          clear hj hj2 hn2
          go_wp2
          go_roundw
          case rel => exact ⟨k + 1, hln, by go_num, hH⟩
          case measure => simp [intOf]; omega
    · have hR := FE.out k (by omega) (by omega)
      have hkk : (F k).1.length = k := by omega
      obtain ⟨A', c', rfl⟩ := hH.pairsForm 1 rfl
      have hRl : R.length = k := by rw [hR]; exact hkk
      have hdl : (dec (F k).1).length = k := by rw [dec_length]; exact hkk
      rw [hdl] at hH ⊢
      rw [← hR] at hH
      have HRL := hide hRl
      clear hR hkk hdl hRl hI hle hk hkl
      go_wp2
      go_ret
      refine ⟨_, rfl, hH.low, ?_⟩
      have hr := hH.row 1 rfl
      rw [dec_length] at hr
      exact hr
end Go.Proofs.Ytjhpkibeddnbfaa
