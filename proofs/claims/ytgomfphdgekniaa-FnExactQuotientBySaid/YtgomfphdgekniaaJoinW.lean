/- impl.joinedSets, impl.leastBlock -/
import Derived.Test.YtgomfphdgekniaaPr
import Derived.Test.YtgomfphdgekniaaRegC
import Derived.Test.YtgomfphdgekniaaJoin
import Derived.Test.YtgomfphdgekniaaPl1
import Derived.Test.YtgomfphdgekniaaArg
import Derived.Test.YtgomfphdgekniaaIsDes
namespace Go.Proofs.Ytgomfphdgekniaa
open Go.RowKit

def ints (l : List Nat) : List Int := l.map fun (x : Nat) => (x : Int)
theorem ints_length (l : List Nat) : (ints l).length = l.length := by unfold ints; simp
theorem RdZ.nat {w : World} {A : Option Addr} {n c k : Nat} {l : List Nat} (h : RdZ w (.slice A n c) (ints l)) (hk : k < l.length) :
    ∃ a, A = some a ∧ a.block < w.heap.size ∧ w.cell? (a.add k) = some (.int .i64 (l[k] : Nat)) := by
  obtain ⟨a, h1, h2, h3⟩ := h.at (k := k) (by rw [ints_length]; exact hk)
  refine ⟨a, h1, h2, ?_⟩
  rw [h3]
  simp [ints]
theorem RdZ.nat0 {w : World} {A : Option Addr} {n c : Nat} {l : List Nat} (h : RdZ w (.slice A n c) (ints l)) (hk : 0 < l.length) : ∃ a, A = some a ∧ a.block < w.heap.size ∧ w.cell? a = some (.int .i64 (l[0] : Nat)) := by
  obtain ⟨a, h1, h2, h3⟩ := h.nat hk
  refine ⟨a, h1, h2, ?_⟩
  rw [← h3]
  rfl
theorem sameF_N (m : Nat) : sameF m = sameN m := rfl
/-- what is to be joined at first -/
def joinQ (l : List Nat) (x : Nat) : List (Nat × Nat) := l.map fun y => (x, y)
theorem joinQ_succ (l : List Nat) (x : Nat) {k : Nat} (hk : k < l.length) : joinQ (l.take k) x ++ [(x, l[k])] = joinQ (l.take (k + 1)) x := by
  unfold joinQ; rw [List.take_succ_eq_append_getElem hk, List.map_append]; rfl
theorem joinQ_length (l : List Nat) (x : Nat) : (joinQ l x).length = l.length := by unfold joinQ; simp

/-- the merging, j darts on -/
def mgP (j : Nat) (c : Nat → Nat) (a b : Nat) : Nat → Nat := fun i => if i < j ∧ (c i = c a ∨ c i = c b) then min (c a) (c b) else c i
theorem mgP_all (m : Nat) (c : Nat → Nat) (a b : Nat) : mgP m c a b = mgI m c a b := rfl
theorem mgP_zero (c : Nat → Nat) (a b : Nat) : mgP 0 c a b = c := by funext i; simp [mgP]
theorem mgP_at (j : Nat) (c : Nat → Nat) (a b : Nat) : mgP j c a b j = c j := by simp [mgP]
theorem mgP_yes {j : Nat} {c : Nat → Nat} {a b : Nat} (h : c j = c a ∨ c j = c b) : fset (mgP j c a b) j (min (c a) (c b)) = mgP (j + 1) c a b := by
  funext i
  unfold fset mgP
  by_cases e : i = j
  · subst e; simp [h]
  · have : i < j + 1 ↔ i < j := by omega
    simp [e, this]
theorem mgP_no {j : Nat} {c : Nat → Nat} {a b : Nat} (h : ¬ (c j = c a ∨ c j = c b)) : mgP j c a b = mgP (j + 1) c a b := by
  funext i
  unfold mgP
  by_cases e : i = j
  · subst e; simp [h]
  · have : i < j + 1 ↔ i < j := by omega
    simp [this]
theorem min_cast (a b : Nat) : (if b < a then ((b : Nat) : Int) else ((a : Nat) : Int)) = ((min a b : Nat) : Int) := by split <;> omega
theorem cast_beq {a b : Nat} (h : a = b) : (((a : Nat) : Int) == ((b : Nat) : Int)) = true := by simp [h]
theorem cast_bne {a b : Nat} (h : ¬ a = b) : (((a : Nat) : Int) == ((b : Nat) : Int)) = false := by simp; omega

@[irreducible] def joinR (f g : Nat → Nat) (m : Nat) (l : List Nat) (x : Nat) : Nat → Nat := (jrun (mgI m) f g (joinQ l x, sameN m) 64).2
theorem join_fact (f g : Nat → Nat) (m : Nat) (hf : ∀ i, i < m → f i < m) (hg : ∀ i, i < m → g i < m) (l : List Nat) (x : Nat) (hl16 : l.length ≤ 16) (hxm : x < m) (hlt : ∀ y ∈ l, y < m) (hm : m ≤ 16 := by omega) :
    ∃ F : Nat → JS, (∀ k, JInv m 48 (F k)) ∧ F 0 = (joinQ l x, sameN m) ∧ (∀ k, F (k + 1) = jst (mgI m) f g (F k) k) ∧ (∀ k, k ≤ 64 → (F k).1.length ≤ k → joinR f g m l x = (F k).2) := by
  refine ⟨jrun (mgI m) f g (joinQ l x, sameN m), fun k => ?_, rfl, fun k => rfl, fun k h1 h2 => ?_⟩
  · have := jrun_inv (mgI_ok m) hf hg (JInv.start (joinQ l x) (fun p hp => by
      unfold joinQ at hp
      obtain ⟨y, hy, rfl⟩ := List.mem_map.1 hp
      exact ⟨hxm, hlt y hy⟩)) k
    refine ⟨this.lt, this.num, this.far, Nat.le_trans this.len ?_⟩
    rw [joinQ_length]; omega
  · unfold joinR
    generalize 64 = K at *
    rw [jrun_stop h2 h1]

set_option maxRecDepth 100000 in
set_option maxHeartbeats 2000000 in
theorem joinedSets_any (f g : Nat → Nat) (m : Nat) (hd : DesN f g m) (l : List Nat) (hl : 0 < l.length) (hl16 : l.length ≤ 16) (hlt : ∀ x ∈ l, x < m) (v : Value) (w : World) (hv : RdZ w v (ints l)) :
    Calls Try.prog 74 #[.agg (dv m f g), v] w fun e w' => e = .returned (.agg (av (joinR f g m l l[0]))) ∧ Below w.heap.size w w' := by
  have hm := hd.le
  have hn := dv_n m f g
  have C1 := hide fun w => stay_any m hm w
  have C2 := hide fun (p : Nat → Nat) (a b : Nat) (ha : a < 16) (hb : b < 16) w => pairAfter_any p p a b ha hb w
  obtain ⟨A, c, rfl, _⟩ := hv.form
  rw [ints_length] at hv ⊢
  obtain ⟨x, hx0⟩ : ∃ x, x = l[0] := ⟨_, rfl⟩
  have hxm : x < m := by rw [hx0]; exact hlt _ (List.getElem_mem hl)
  obtain ⟨F, FI, F0, FS, FE⟩ := join_fact f g m hd.bf.1 hd.bg.1 l x hl16 hxm hlt
  rw [← hx0]
  generalize joinR f g m l x = R at *
  replace FI := hide FI
  replace F0 := hide F0
  replace FS := hide FS
  replace FE := hide FE
  have HV := hide hv; clear hv
  have HL := hide hlt; clear hlt
  have HF := hide (And.intro hd.bf.1 hd.bg.1); clear hd
  have HX := hide hx0; clear hx0
  have HH0 := ((Holds.start w).blk (dv m f g) 30 w.heap.size rfl).blk (av fun _ => 0) 28 (w.heap.size + 1) (by simp)
  go_enter Try.func74, Try.ntmps74
  go_wp2_with fail
  rw [← av_zero]
  refine (C1.out _).mono ?_
  rintro e w1 ⟨rfl, hb⟩
  have HH1 := (HH0.call hb).blk (av (sameN m)) 28 w1.heap.size rfl
  have cn := HH1.tail.cell 1 rfl hn
  have HH2 := HH1.nilRow 113 2
  clear hb HH0 HH1
  go_wp2
  rw [sameF_N]
  go_loopw [6, 19] (fun u t wr => ∃ k : Nat, k ≤ l.length ∧ t = .int .i64 k ∧ Holds w wr [pPairs u (joinQ (l.take k) x), pBlk w1.heap.size (av (sameN m)) 28, pBlk (w.heap.size + 1) (av fun _ => 0) 28, pBlk w.heap.size (dv m f g) 30])
    (fun _ t _ => l.length - (intOf t).toNat)
  case atStart => exact ⟨0, by omega, rfl, HH2⟩
  case round =>
    clear HH2 cn
    obtain ⟨k, hk, rfl, hH⟩ := hrel
    by_cases hkl : k < l.length
    · obtain ⟨q, rfl, _, x1⟩ := (HV.out.below hH.low (Nat.le_refl _)).nat hkl
      obtain ⟨q', e', _, x0⟩ := (HV.out.below hH.low (Nat.le_refl _)).nat0 hl
      injection e' with e'
      subst e'
      rw [← HX.out] at x0
      obtain ⟨A', c', rfl⟩ := hH.pairsForm 0 rfl
      have hq := joinQ_succ l x hkl
      have hy := HL.out _ (List.getElem_mem hkl)
      have hql : (joinQ (l.take k) x).length = k := by rw [joinQ_length, List.length_take]; omega
      generalize l[k] = y at *
      have HQ := hide hq; clear hq
      have hx' : (x : Int) < 16 := by omega
      have hy' : (y : Int) < 16 := by omega
      rw [hql] at hH ⊢
      have HQL := hide hql; clear hql
      go_wp2_with (at_builtin; refine appP (hH.alloc _) 0 rfl wr.heap.size [(x, y)] 113 ?_ ?_ rfl _ _ rfl rfl rfl ?_)
      · exact heap_at _ _ _ rfl
      · rw [HQL.out]; simp only [List.length_cons, List.length_nil]; omega
      intro v' w' h1
      clear hH x0 x1
      go_wp2
      go_roundw
      case rel => exact ⟨k + 1, by omega, by go_num, by rw [← HQ.out]; exact h1⟩
      case measure => simp [intOf]; omega
    · obtain rfl : k = l.length := by omega
      obtain ⟨A', c', rfl⟩ := hH.pairsForm 0 rfl
      rw [List.take_length] at hH ⊢
      clear hk hkl
      go_wp2
      go_loopw [6, 9] (fun u t wr => ∃ k : Nat, k ≤ (F k).1.length ∧ t = .int .i64 k ∧ Holds w wr [pPairs u (F k).1, pBlk w1.heap.size (av (F k).2) 28, pBlk (w.heap.size + 1) (av fun _ => 0) 28, pBlk w.heap.size (dv m f g) 30])
        (fun _ t _ => 64 - (intOf t).toNat)
      case atStart => exact ⟨0, by omega, rfl, by rw [F0.out]; exact hH⟩
      case round =>
        clear hH
        obtain ⟨k, hk, rfl, hH⟩ := hrel
        have hI := FI.out k
        have hst := FS.out k
        have hle := hI.len
        by_cases hkl : k < (F k).1.length
        · obtain ⟨g0, c0, rfl, _, y1, y2⟩ := hH.pairs 0 rfl hkl
          unfold jst at hst
          rw [List.getElem?_eq_getElem hkl] at hst
          have hpl := hI.lt _ (List.getElem_mem hkl)
          have hnum := hI.num
          generalize hS : F k = S at *
          generalize S.1[k] = p at *
          obtain ⟨a, b⟩ := p
          simp only at hst y1 y2 hpl
          obtain ⟨hpa, hpb⟩ := hpl
          have ha16 : (a : Int) < 16 := by omega
          have hb16 : (b : Int) < 16 := by omega
          have hca := (hnum a hpa).1
          have hcb := (hnum b hpb).1
          have HS := hide hS; clear hS
          have HN := hide hnum; clear hnum
          have HI := hide hI; clear hI
          have z1 : wr.cell? ⟨w1.heap.size, a, none⟩ = some (.int .u8 (S.2 a)) := hH.cell 1 rfl (av_get _ (by omega))
          have z2 : wr.cell? ⟨w1.heap.size, b, none⟩ = some (.int .u8 (S.2 b)) := hH.cell 1 rfl (av_get _ (by omega))
          have l1 := hH.lt 1 rfl
          have hHb := hH.blk #[.int .u8 a, .int .u8 b] 113 wr.heap.size rfl
          by_cases hab : S.2 a = S.2 b
          · have d1 := cast_beq hab
            rw [if_pos hab] at hst
            have HST := hide hst; clear hst hab
            clear hHb
            go_wp2
            go_quiet (fail)
            go_wp2
            go_roundw
            case rel => exact ⟨k + 1, by rw [HST.out]; omega, by go_num, by rw [HST.out]; exact (hH.alloc _).drewN _⟩
            case measure => simp [intOf]; omega
          · have d1 := cast_bne hab
            rw [if_neg hab] at hst
            have HST := hide hst; clear hst
            have HAB := hide hab; clear hab
            clear hH
            go_wp2
            go_quiet (fail)
            have hHz := hHb.drewN nq
            have cn := hHz.cell 4 rfl hn
            clear hHb y1 y2 z1 z2 l1
            generalize (wr.alloc (.cells #[.int .u8 a, .int .u8 b] 113)).drewN nq = wz at *
            generalize wr.heap.size = G2 at *
            clear wr
            go_wp2
            clear cn
            go_loopw [57] (fun t wr => ∃ j : Nat, j ≤ m ∧ t = .int .i64 j ∧ Holds w wr [pBlk G2 #[.int .u8 a, .int .u8 b] 113, pPairs (.slice (some ⟨g0, 0, none⟩) S.1.length c0) S.1, pBlk w1.heap.size (av (mgP j S.2 a b)) 28, pBlk (w.heap.size + 1) (av fun _ => 0) 28, pBlk w.heap.size (dv m f g) 30]) (fun t _ => m - (intOf t).toNat)
            case atStart => exact ⟨0, by omega, rfl, by rw [mgP_zero]; exact hHz⟩
            case round =>
              clear hHz
              obtain ⟨j, hj, rfl, hH⟩ := hrel
              by_cases hjm : j < m
              · have hj16 : j < 16 := by omega
                have z1 : wr.cell? ⟨w1.heap.size, j, none⟩ = some (.int .u8 (S.2 j)) := hH.cell 2 rfl (by rw [av_get _ hj16, mgP_at])
                have f1 := hH.frozen 2 rfl j
                by_cases e1 : S.2 j = S.2 a
                · have d2 := cast_beq e1
                  have hm2 := mgP_yes (a := a) (b := b) (.inl e1)
                  have HM := hide hm2; clear hm2 e1
                  go_wp2
                  go_roundw
                  case rel =>
                    refine ⟨j + 1, by omega, by go_num, ?_⟩
                    rw [min_cast, ← HM.out, ← av_set]
                    exact hH.set 2 rfl j _
                  case measure => simp [intOf]; omega
                · by_cases e2 : S.2 j = S.2 b
                  · have d2 := cast_bne e1
                    have d3 := cast_beq e2
                    have hm2 := mgP_yes (a := a) (b := b) (.inr e2)
                    have HM := hide hm2; clear hm2 e1 e2
                    go_wp2
                    go_roundw
                    case rel =>
                      refine ⟨j + 1, by omega, by go_num, ?_⟩
                      rw [min_cast, ← HM.out, ← av_set]
                      exact hH.set 2 rfl j _
                    case measure => simp [intOf]; omega
                  · have d2 := cast_bne e1
                    have d3 := cast_bne e2
                    have hm2 := mgP_no (a := a) (b := b) (fun h => h.elim e1 e2)
                    have HM := hide hm2; clear hm2 e1 e2
                    go_wp2
                    go_roundw
                    case rel => exact ⟨j + 1, by omega, by go_num, by rw [← HM.out]; exact hH⟩
                    case measure => simp [intOf]; omega
              · obtain rfl : m = j := by omega
                rw [mgP_all] at hH
                clear hj hjm
                go_wp2
                have hql : S.1.length ≤ 48 := by have := HI.out.len; omega
                refine Rc.region_P (w0 := w) [pBlk G2 #[.int .u8 a, .int .u8 b] 113, pBlk w1.heap.size (av (mgI m S.2 a b)) 28, pBlk (w.heap.size + 1) (av fun _ => 0) 28, pBlk w.heap.size (dv m f g) 30] [pBlk G2 #[.int .u8 a, .int .u8 b] 113, pPairs (.slice (some ⟨g0, 0, none⟩) S.1.length c0) S.1, pBlk w1.heap.size (av (mgI m S.2 a b)) 28, pBlk (w.heap.size + 1) (av fun _ => 0) 28, pBlk w.heap.size (dv m f g) 30] (fun i => if i = 13 then some (Rc.rBuild w #[.int .u8 (f a), .int .u8 (f b), .int .u8 (g a), .int .u8 (g b)] 113 2 [pBlk G2 #[.int .u8 a, .int .u8 b] 113, pPairs (.slice (some ⟨g0, 0, none⟩) S.1.length c0) S.1, pBlk w1.heap.size (av (mgI m S.2 a b)) 28, pBlk (w.heap.size + 1) (av fun _ => 0) 28, pBlk w.heap.size (dv m f g) 30]) else if i = 14 then some (Rc.rHolds w fun v => [pBlk G2 #[.int .u8 a, .int .u8 b] 113, pPairs v (S.1 ++ [(f a, f b), (g a, g b)]), pBlk w1.heap.size (av (mgI m S.2 a b)) 28, pBlk (w.heap.size + 1) (av fun _ => 0) 28, pBlk w.heap.size (dv m f g) 30]) else none) [13, 14] (.q 0 <| .q 1 <| .q 2 <| .q 3 <| .q 4 <| .q 5 <| .q 6 <| .q 7 <| .q 8 <| .q 9 <| .q 10 <| .q 11 <| .q 12 <| .s1 13 <| .s1 14 <| .q 15 .fin) hH (.cons_cons _ (.cons _ (.refl _))) (fun i R hR v => ?_) (by kernel_rfl) (by kernel_rfl) (by kernel_rfl) (fun k hk => ?_) ?_
                · split at hR
                  · cases hR; exact Rc.rBuild_stable v
                  · split at hR
                    · cases hR; exact Rc.rHolds_stable v
                    · cases hR
                · simp at hk; simp [hk]
                iterate 6
                  apply Rc.v_q
                  · simp only [List.getElem?_toArray, List.getElem?_cons_zero, List.getElem?_cons_succ]; exact rfl
                  · rfl
                  · go_simp
                  · intro wx hx
                    have c1 : wx.cell? ⟨G2, 0, none⟩ = some (.int .u8 a) := hx.cell 0 rfl rfl
                    have c2 : wx.cell? ⟨G2, 1, none⟩ = some (.int .u8 b) := hx.cell 0 rfl rfl
                    have c3 := hx.cells 3 rfl
                    unfold atG
                    go_simp
                    simp only [uponG]
                    exact ⟨by trivial, rfl⟩
                iterate 1
                  apply Rc.v_q
                  · simp only [List.getElem?_toArray, List.getElem?_cons_zero, List.getElem?_cons_succ]; exact rfl
                  · rfl
                  · go_simp
                  · intro wx hx
                    have c1 : wx.cell? ⟨G2, 0, none⟩ = some (.int .u8 a) := hx.cell 0 rfl rfl
                    have c2 : wx.cell? ⟨G2, 1, none⟩ = some (.int .u8 b) := hx.cell 0 rfl rfl
                    have c3 := hx.cells 3 rfl
                    unfold atG
                    go_simp
                    simp only [uponG]
                    exact ⟨by trivial, C2.out f a b (by omega) (by omega) wx⟩
                iterate 5
                  apply Rc.v_q
                  · simp only [List.getElem?_toArray, List.getElem?_cons_zero, List.getElem?_cons_succ]; exact rfl
                  · rfl
                  · go_simp
                  · intro wx hx
                    have c1 : wx.cell? ⟨G2, 0, none⟩ = some (.int .u8 a) := hx.cell 0 rfl rfl
                    have c2 : wx.cell? ⟨G2, 1, none⟩ = some (.int .u8 b) := hx.cell 0 rfl rfl
                    have c3 := hx.cells 3 rfl
                    unfold atG
                    go_simp
                    simp only [uponG]
                    exact ⟨by trivial, rfl⟩
                iterate 1
                  apply Rc.v_q
                  · simp only [List.getElem?_toArray, List.getElem?_cons_zero, List.getElem?_cons_succ]; exact rfl
                  · rfl
                  · go_simp
                  · intro wx hx
                    have c1 : wx.cell? ⟨G2, 0, none⟩ = some (.int .u8 a) := hx.cell 0 rfl rfl
                    have c2 : wx.cell? ⟨G2, 1, none⟩ = some (.int .u8 b) := hx.cell 0 rfl rfl
                    have c3 := hx.cells 3 rfl
                    unfold atG
                    go_simp
                    simp only [uponG]
                    exact ⟨by trivial, C2.out g a b (by omega) (by omega) wx⟩
                refine Rc.v_s (by simp only [List.getElem?_toArray, List.getElem?_cons_zero, List.getElem?_cons_succ]; exact rfl) rfl (by go_simp) (fun wx hx hD => ?_) ?_
                · go_simp
                  simp only [Rc.uponE]
                  exact ⟨hx.alloc _, _, rfl, hD.blk _ _ _ rfl⟩
                rintro vg ⟨_, _, gq, rfl, _⟩
                refine Rc.v_s (by simp only [List.getElem?_toArray, List.getElem?_cons_zero, List.getElem?_cons_succ]; exact rfl) rfl (by go_simp) (fun wx hx hD => ?_) ?_
                · obtain ⟨gq', eq', hD⟩ := hD
                  injection eq' with eq'
                  injection eq' with eq'
                  injection eq' with eq'
                  subst eq'
                  exact upon_appP hD 2 rfl gq [(f a, f b), (g a, g b)] 113 (hD.at 0 rfl) (by simp only [List.length_cons, List.length_nil]; omega) (fun vn wn r2 => ⟨Holds.sub (Holds.tail r2) (.cons_cons _ (.cons _ (.refl _))), Holds.tail r2⟩) _ _ rfl (by go_simp) (by go_simp)
                rintro vn -
                apply Rc.v_q
                · simp only [List.getElem?_toArray, List.getElem?_cons_zero, List.getElem?_cons_succ]; exact rfl
                · rfl
                · go_simp
                · intro wx hx
                  unfold atG
                  go_simp
                  simp only [uponG]
                  exact ⟨by trivial, rfl⟩
                rintro w2 - h1
                clear hH
                go_wp2
                go_roundw
                case rel => exact ⟨k + 1, by rw [HST.out]; simp; omega, by go_num, by rw [HST.out]; exact Holds.tail h1⟩
                case measure => simp [intOf]; omega
        · obtain ⟨A1, c1, rfl⟩ := hH.pairsForm 0 rfl
          have hR := FE.out k (by omega) (by omega)
          have hkk : (F k).1.length = k := by omega
          rw [← hR, hkk] at hH
          rw [hkk]
          have cc := hH.cells 1 rfl
          have rr := hH.rowOk 2 rfl (av_size _)
          clear hst hR hkk hle hI hk hkl
          go_wp2
          have H2 := hH.setRow 2 rfl (av R)
          exact res_agg (p := 4) (g := w.heap.size + 1) aggP (av_size R) rfl rfl rfl (H2.at 2 rfl) ⟨rfl, H2.low⟩
end Go.Proofs.Ytgomfphdgekniaa
