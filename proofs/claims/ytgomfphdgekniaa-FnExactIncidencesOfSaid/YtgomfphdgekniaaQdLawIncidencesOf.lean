/- Texts put together: IsDes, JoinW, Face, PF, Nam, Cell, SNam, ToPl, EqPl, ToDs, NamOf, Blk, SBlk, CellR, Cnt, SCyc -/
import Derived.Test.YtgomfphdgekniaaQcLawIncidencesOf
import Derived.Test.YtgomfphdgekniaaChecked
import Derived.WalkKit
import Derived.WalkSpells
import Derived.WalkLawsBesides
import Derived.Deep.LoopGhost
import Derived.Deep.OwnRows
import Derived.Laws.Rows
import Derived.Laws.Tables
import Derived.Laws.CopyOwn
import Derived.ProofKit
import Derived.OpenShut
import Derived.ShutString
import Derived.ChangeOld
import Derived.Below
import Derived.Laws.OwnMore
import Derived.BigQuiet
import Derived.Deep.QuietTactic
import Derived.RegionTactic
import Derived.Deep.RegionWith
import Derived.Laws.CopyRow
import Derived.Deep.MidRow
import Derived.Deep.Quiet
import Derived.StillTail
import Derived.OwnWalk
import Derived.ChangeSlices
import Derived.ChangeKeysEq
import Derived.StillTailTactics
import Derived.Deep.RegionHeld3
import Derived.Laws.Cover3
import Derived.IntWalk
namespace Go.Proofs.Ytgomfphdgekniaa
open Go.RowKit

/-- a dessin of n darts, as the document has it -/
noncomputable def desB (n : Int) (f g : Nat → Nat) : Bool := permB f n && (permB g n && connB f g n.toNat)
/-- what is known of a dessin -/
structure DesN (f g : Nat → Nat) (m : Nat) : Prop where
  pos : 0 < m
  le : m ≤ 16
  black : PermN f m
  white : PermN g m
  conn : conn f g m
theorem DesN.bf {f g : Nat → Nat} {m : Nat} (h : DesN f g m) : Bij f m := h.black.2.2.1
theorem DesN.bg {f g : Nat → Nat} {m : Nat} (h : DesN f g m) : Bij g m := h.white.2.2.1
theorem desB_true {n : Int} {f g : Nat → Nat} (h : desB n f g = true) : ∃ m : Nat, n = (m : Int) ∧ DesN f g m := by
  unfold desB at h
  simp only [Bool.and_eq_true] at h
  obtain ⟨h1, h2, h3⟩ := h
  obtain ⟨m, rfl, hp⟩ := permB_true h1
  obtain ⟨m', e, hq⟩ := permB_true h2
  obtain rfl : m = m' := by omega
  rw [Int.toNat_natCast] at h3
  unfold connB at h3
  exact ⟨m, rfl, hp.1, hp.2.1, hp, hq, by simpa using h3⟩

set_option maxRecDepth 100000 in
set_option maxHeartbeats 1000000 in
theorem isDessin_any (n : Int) (f g : Nat → Nat) (hf : ∀ i, f i < 256) (hg : ∀ i, g i < 256) (w : World) :
    Calls Try.prog 53 #[.agg (dv n f g)] w fun e w' => e = .returned (.bool (desB n f g)) ∧ Below w.heap.size w w' := by
  have hn := dv_n n f g
  have C1 := hide fun w => isPerm_any f hf n w
  have C2 := hide fun w => isPerm_any g hg n w
  clear hf hg
  have hD : desB n f g = (permB f n && (permB g n && connB f g n.toNat)) := rfl
  rcases h1 : permB f n with _ | _
  · rw [h1] at C1 hD
    rw [Bool.false_and] at hD
    rw [hD]
    clear hD h1 C2
    go_enter Try.func53, Try.ntmps53
    go_wp2_with fail
    refine (C1.out _).mono ?_
    rintro e w1 ⟨rfl, hb⟩
    have b1 := (below1 w _).trans (hb.mono (by simp))
    clear hb
    go_wp2
    go_ret
    exact ⟨rfl, b1⟩
  · rcases h2 : permB g n with _ | _
    · rw [h1, h2] at hD
      rw [h1] at C1
      rw [h2] at C2
      rw [Bool.false_and, Bool.and_false] at hD
      rw [hD]
      clear hD h1 h2
      go_enter Try.func53, Try.ntmps53
      go_wp2_with fail
      refine (C1.out _).mono ?_
      rintro e w1 ⟨rfl, hb⟩
      have c1 : cellsOf w1 w.heap.size = dv n f g := (below_cells hb (by simp)).trans (cellsOf_heap (heap_at _ _ _ rfl))
      have n1 : w1.cell? ⟨w.heap.size, 0, none⟩ = some (.int .i64 n) := by rw [cell_of_cells, c1]; exact hn
      have b1 := (below1 w _).trans (hb.mono (by simp))
      clear hb
      go_wp2_with fail
      refine (C2.out _).mono ?_
      rintro e w2 ⟨rfl, hb⟩
      have b2 := b1.trans (hb.mono b1.size)
      clear hb b1 c1 n1
      go_wp2
      go_ret
      exact ⟨rfl, b2⟩
    · obtain ⟨m, rfl, hp⟩ := permB_true h1
      obtain ⟨m', e, hq⟩ := permB_true h2
      obtain rfl : m = m' := by omega
      rw [h1, h2, Bool.true_and, Bool.true_and, Int.toNat_natCast] at hD
      rw [h1] at C1
      rw [h2] at C2
      rw [hD]
      have C3 := hide fun w => isConn_any f g m hp.1 hp.2.1 hp.2.2.1.1 hq.2.2.1.1 w
      generalize connB f g m = B at *
      clear hD h1 h2 e hp hq
      go_enter Try.func53, Try.ntmps53
      go_wp2_with fail
      refine (C1.out _).mono ?_
      rintro e w1 ⟨rfl, hb⟩
      have c1 : cellsOf w1 w.heap.size = dv m f g := (below_cells hb (by simp)).trans (cellsOf_heap (heap_at _ _ _ rfl))
      have n1 : w1.cell? ⟨w.heap.size, 0, none⟩ = some (.int .i64 m) := by rw [cell_of_cells, c1]; exact hn
      have b1 := (below1 w _).trans (hb.mono (by simp))
      have l1 : w.heap.size < w1.heap.size := by have := hb.size; simp at this; omega
      clear hb
      go_wp2_with fail
      refine (C2.out _).mono ?_
      rintro e w2 ⟨rfl, hb⟩
      have c2 : cellsOf w2 w.heap.size = dv m f g := (below_cells hb l1).trans c1
      have b2 := b1.trans (hb.mono b1.size)
      clear hb b1 c1 n1 l1
      go_wp2_with fail
      refine (C3.out _).mono ?_
      rintro e w3 ⟨rfl, hb⟩
      have b3 := b2.trans (hb.mono b2.size)
      clear hb b2 c2
      go_wp2
      go_ret
      exact ⟨rfl, b3⟩

set_option maxRecDepth 100000 in
set_option maxHeartbeats 1000000 in
theorem sIs_any (n : Int) (f g : Nat → Nat) (hf : ∀ i, f i < 256) (hg : ∀ i, g i < 256) (w : World) :
    Calls Try.prog 50 #[.agg (dv n f g)] w fun e w' => e = .returned (.bool (desB n f g)) ∧ Below w.heap.size w w' := by
  have hn := dv_n n f g
  have C1 := hide fun w => sPerm_any f hf n w
  have C2 := hide fun w => sPerm_any g hg n w
  clear hf hg
  have hD : desB n f g = (permB f n && (permB g n && connB f g n.toNat)) := rfl
  rcases h1 : permB f n with _ | _
  · rw [h1] at C1 hD
    rw [Bool.false_and] at hD
    rw [hD]
    clear hD h1 C2
    go_enter Try.func50, Try.ntmps50
    go_wp2_with fail
    refine (C1.out _).mono ?_
    rintro e w1 ⟨rfl, hb⟩
    have b1 := (below1 w _).trans (hb.mono (by simp))
    clear hb
    go_wp2
    go_ret
    exact ⟨rfl, b1⟩
  · rcases h2 : permB g n with _ | _
    · rw [h1, h2] at hD
      rw [h1] at C1
      rw [h2] at C2
      rw [Bool.false_and, Bool.and_false] at hD
      rw [hD]
      clear hD h1 h2
      go_enter Try.func50, Try.ntmps50
      go_wp2_with fail
      refine (C1.out _).mono ?_
      rintro e w1 ⟨rfl, hb⟩
      have c1 : cellsOf w1 w.heap.size = dv n f g := (below_cells hb (by simp)).trans (cellsOf_heap (heap_at _ _ _ rfl))
      have n1 : w1.cell? ⟨w.heap.size, 0, none⟩ = some (.int .i64 n) := by rw [cell_of_cells, c1]; exact hn
      have b1 := (below1 w _).trans (hb.mono (by simp))
      clear hb
      go_wp2_with fail
      refine (C2.out _).mono ?_
      rintro e w2 ⟨rfl, hb⟩
      have b2 := b1.trans (hb.mono b1.size)
      clear hb b1 c1 n1
      go_wp2
      go_ret
      exact ⟨rfl, b2⟩
    · obtain ⟨m, rfl, hp⟩ := permB_true h1
      obtain ⟨m', e, hq⟩ := permB_true h2
      obtain rfl : m = m' := by omega
      rw [h1, h2, Bool.true_and, Bool.true_and, Int.toNat_natCast] at hD
      rw [h1] at C1
      rw [h2] at C2
      rw [hD]
      have C3 := hide fun w => sConn_any f g m hp.1 hp.2.1 hp.2.2.1.1 hq.2.2.1.1 w
      generalize connB f g m = B at *
      clear hD h1 h2 e hp hq
      go_enter Try.func50, Try.ntmps50
      go_wp2_with fail
      refine (C1.out _).mono ?_
      rintro e w1 ⟨rfl, hb⟩
      have c1 : cellsOf w1 w.heap.size = dv m f g := (below_cells hb (by simp)).trans (cellsOf_heap (heap_at _ _ _ rfl))
      have n1 : w1.cell? ⟨w.heap.size, 0, none⟩ = some (.int .i64 m) := by rw [cell_of_cells, c1]; exact hn
      have b1 := (below1 w _).trans (hb.mono (by simp))
      have l1 : w.heap.size < w1.heap.size := by have := hb.size; simp at this; omega
      clear hb
      go_wp2_with fail
      refine (C2.out _).mono ?_
      rintro e w2 ⟨rfl, hb⟩
      have c2 : cellsOf w2 w.heap.size = dv m f g := (below_cells hb l1).trans c1
      have n2 : w2.cell? ⟨w.heap.size, 0, none⟩ = some (.int .i64 m) := by rw [cell_of_cells, c2]; exact hn
      have b2 := b1.trans (hb.mono b1.size)
      clear hb b1 c1 n1 l1
      go_wp2_with fail
      refine (C3.out _).mono ?_
      rintro e w3 ⟨rfl, hb⟩
      have b3 := b2.trans (hb.mono b2.size)
      clear hb b2 c2 n2
      go_wp2
      go_ret
      exact ⟨rfl, b3⟩
end Go.Proofs.Ytgomfphdgekniaa

namespace Go.Proofs.Ytgomfphdgekniaa
open Go.RowKit

def ints (l : List Nat) : List Int := l.map fun (x : Nat) => (x : Int)
theorem ints_length (l : List Nat) : (ints l).length = l.length := by unfold ints; simp
theorem RdZ.nat {w : World} {A : Option Addr} {n c k : Nat} {l : List Nat} (h : RdZ w (.slice A n c) (ints l)) (hk : k < l.length) :
    ∃ a, A = some a ∧ a.block < w.heap.size ∧ w.cell? (a.add k) = some (.int .i64 (l[k] : Nat)) := by
  obtain ⟨a, h1, h2, h3⟩ := h.at (k := k) (by rw [ints_length]; exact hk)
  refine ⟨a, h1, h2, ?_⟩
  rw [h3]
  simp [ints]
theorem RdZ.nat0 {w : World} {A : Option Addr} {n c : Nat} {l : List Nat} (h : RdZ w (.slice A n c) (ints l)) (hk : 0 < l.length) : ∃ a, A = some a ∧ a.block < w.heap.size ∧ w.cell? a = some (.int .i64 (l[0] : Nat)) := by
  obtain ⟨a, h1, h2, h3⟩ := h.nat hk
  refine ⟨a, h1, h2, ?_⟩
  rw [← h3]
  rfl
theorem sameF_N (m : Nat) : sameF m = sameN m := rfl
/-- what is to be joined at first -/
def joinQ (l : List Nat) (x : Nat) : List (Nat × Nat) := l.map fun y => (x, y)
theorem joinQ_succ (l : List Nat) (x : Nat) {k : Nat} (hk : k < l.length) : joinQ (l.take k) x ++ [(x, l[k])] = joinQ (l.take (k + 1)) x := by
  unfold joinQ; rw [List.take_succ_eq_append_getElem hk, List.map_append]; rfl
theorem joinQ_length (l : List Nat) (x : Nat) : (joinQ l x).length = l.length := by unfold joinQ; simp

/-- the merging, j darts on -/
def mgP (j : Nat) (c : Nat → Nat) (a b : Nat) : Nat → Nat := fun i => if i < j ∧ (c i = c a ∨ c i = c b) then min (c a) (c b) else c i
theorem mgP_all (m : Nat) (c : Nat → Nat) (a b : Nat) : mgP m c a b = mgI m c a b := rfl
theorem mgP_zero (c : Nat → Nat) (a b : Nat) : mgP 0 c a b = c := by funext i; simp [mgP]
theorem mgP_at (j : Nat) (c : Nat → Nat) (a b : Nat) : mgP j c a b j = c j := by simp [mgP]
theorem mgP_yes {j : Nat} {c : Nat → Nat} {a b : Nat} (h : c j = c a ∨ c j = c b) : fset (mgP j c a b) j (min (c a) (c b)) = mgP (j + 1) c a b := by
  funext i
  unfold fset mgP
  by_cases e : i = j
  · subst e; simp [h]
  · have : i < j + 1 ↔ i < j := by omega
    simp [e, this]
theorem mgP_no {j : Nat} {c : Nat → Nat} {a b : Nat} (h : ¬ (c j = c a ∨ c j = c b)) : mgP j c a b = mgP (j + 1) c a b := by
  funext i
  unfold mgP
  by_cases e : i = j
  · subst e; simp [h]
  · have : i < j + 1 ↔ i < j := by omega
    simp [this]
theorem min_cast (a b : Nat) : (if b < a then ((b : Nat) : Int) else ((a : Nat) : Int)) = ((min a b : Nat) : Int) := by split <;> omega
theorem cast_beq {a b : Nat} (h : a = b) : (((a : Nat) : Int) == ((b : Nat) : Int)) = true := by simp [h]
theorem cast_bne {a b : Nat} (h : ¬ a = b) : (((a : Nat) : Int) == ((b : Nat) : Int)) = false := by simp; omega

@[irreducible] def joinR (f g : Nat → Nat) (m : Nat) (l : List Nat) (x : Nat) : Nat → Nat := (jrun (mgI m) f g (joinQ l x, sameN m) 64).2
theorem join_fact (f g : Nat → Nat) (m : Nat) (hf : ∀ i, i < m → f i < m) (hg : ∀ i, i < m → g i < m) (l : List Nat) (x : Nat) (hl16 : l.length ≤ 16) (hxm : x < m) (hlt : ∀ y ∈ l, y < m) (hm : m ≤ 16 := by omega) :
    ∃ F : Nat → JS, (∀ k, JInv m 48 (F k)) ∧ F 0 = (joinQ l x, sameN m) ∧ (∀ k, F (k + 1) = jst (mgI m) f g (F k) k) ∧ (∀ k, k ≤ 64 → (F k).1.length ≤ k → joinR f g m l x = (F k).2) := by
  refine ⟨jrun (mgI m) f g (joinQ l x, sameN m), fun k => ?_, rfl, fun k => rfl, fun k h1 h2 => ?_⟩
  · have := jrun_inv (mgI_ok m) hf hg (JInv.start (joinQ l x) (fun p hp => by
      unfold joinQ at hp
      obtain ⟨y, hy, rfl⟩ := List.mem_map.1 hp
      exact ⟨hxm, hlt y hy⟩)) k
    refine ⟨this.lt, this.num, this.far, Nat.le_trans this.len ?_⟩
    rw [joinQ_length]; omega
  · unfold joinR
    generalize 64 = K at *
    rw [jrun_stop h2 h1]

set_option maxRecDepth 100000 in
set_option maxHeartbeats 2000000 in
theorem joinedSets_any (f g : Nat → Nat) (m : Nat) (hd : DesN f g m) (l : List Nat) (hl : 0 < l.length) (hl16 : l.length ≤ 16) (hlt : ∀ x ∈ l, x < m) (v : Value) (w : World) (hv : RdZ w v (ints l)) :
    Calls Try.prog 74 #[.agg (dv m f g), v] w fun e w' => e = .returned (.agg (av (joinR f g m l l[0]))) ∧ Below w.heap.size w w' := by
  have hm := hd.le
  have hn := dv_n m f g
  have C1 := hide fun w => stay_any m hm w
  have C2 := hide fun (p : Nat → Nat) (a b : Nat) (ha : a < 16) (hb : b < 16) w => pairAfter_any p p a b ha hb w
  obtain ⟨A, c, rfl, _⟩ := hv.form
  rw [ints_length] at hv ⊢
  obtain ⟨x, hx0⟩ : ∃ x, x = l[0] := ⟨_, rfl⟩
  have hxm : x < m := by rw [hx0]; exact hlt _ (List.getElem_mem hl)
  obtain ⟨F, FI, F0, FS, FE⟩ := join_fact f g m hd.bf.1 hd.bg.1 l x hl16 hxm hlt
  rw [← hx0]
  generalize joinR f g m l x = R at *
  replace FI := hide FI
  replace F0 := hide F0
  replace FS := hide FS
  replace FE := hide FE
  have HV := hide hv; clear hv
  have HL := hide hlt; clear hlt
  have HF := hide (And.intro hd.bf.1 hd.bg.1); clear hd
  have HX := hide hx0; clear hx0
  have HH0 := ((Holds.start w).blk (dv m f g) 30 w.heap.size rfl).blk (av fun _ => 0) 28 (w.heap.size + 1) (by simp)
  go_enter Try.func74, Try.ntmps74
  go_wp2_with fail
  rw [← av_zero]
  refine (C1.out _).mono ?_
  rintro e w1 ⟨rfl, hb⟩
  have HH1 := (HH0.call hb).blk (av (sameN m)) 28 w1.heap.size rfl
  have cn := HH1.tail.cell 1 rfl hn
  have HH2 := HH1.nilRow 113 2
  clear hb HH0 HH1
  go_wp2
  rw [sameF_N]
  go_loopw [6, 19] (fun u t wr => ∃ k : Nat, k ≤ l.length ∧ t = .int .i64 k ∧ Holds w wr [pPairs u (joinQ (l.take k) x), pBlk w1.heap.size (av (sameN m)) 28, pBlk (w.heap.size + 1) (av fun _ => 0) 28, pBlk w.heap.size (dv m f g) 30])
    (fun _ t _ => l.length - (intOf t).toNat)
  case atStart => exact ⟨0, by omega, rfl, HH2⟩
  case round =>
    clear HH2 cn
    obtain ⟨k, hk, rfl, hH⟩ := hrel
    by_cases hkl : k < l.length
    · obtain ⟨q, rfl, _, x1⟩ := (HV.out.below hH.low (Nat.le_refl _)).nat hkl
      obtain ⟨q', e', _, x0⟩ := (HV.out.below hH.low (Nat.le_refl _)).nat0 hl
      injection e' with e'
      subst e'
      rw [← HX.out] at x0
      obtain ⟨A', c', rfl⟩ := hH.pairsForm 0 rfl
      have hq := joinQ_succ l x hkl
      have hy := HL.out _ (List.getElem_mem hkl)
      have hql : (joinQ (l.take k) x).length = k := by rw [joinQ_length, List.length_take]; omega
      generalize l[k] = y at *
      have HQ := hide hq; clear hq
      have hx' : (x : Int) < 16 := by omega
      have hy' : (y : Int) < 16 := by omega
      rw [hql] at hH ⊢
      have HQL := hide hql; clear hql
      go_wp2_with (at_builtin; refine appP (hH.alloc _) 0 rfl wr.heap.size [(x, y)] 113 ?_ ?_ rfl _ _ rfl rfl rfl ?_)
      · exact heap_at _ _ _ rfl
      · rw [HQL.out]; simp only [List.length_cons, List.length_nil]; omega
      intro v' w' h1
      clear hH x0 x1
      go_wp2
      go_roundw
      case rel => exact ⟨k + 1, by omega, by go_num, by rw [← HQ.out]; exact h1⟩
      case measure => simp [intOf]; omega
    · obtain rfl : k = l.length := by omega
      obtain ⟨A', c', rfl⟩ := hH.pairsForm 0 rfl
      rw [List.take_length] at hH ⊢
      clear hk hkl
      go_wp2
      go_loopw [6, 9] (fun u t wr => ∃ k : Nat, k ≤ (F k).1.length ∧ t = .int .i64 k ∧ Holds w wr [pPairs u (F k).1, pBlk w1.heap.size (av (F k).2) 28, pBlk (w.heap.size + 1) (av fun _ => 0) 28, pBlk w.heap.size (dv m f g) 30])
        (fun _ t _ => 64 - (intOf t).toNat)
      case atStart => exact ⟨0, by omega, rfl, by rw [F0.out]; exact hH⟩
      case round =>
        clear hH
        obtain ⟨k, hk, rfl, hH⟩ := hrel
        have hI := FI.out k
        have hst := FS.out k
        have hle := hI.len
        by_cases hkl : k < (F k).1.length
        · obtain ⟨g0, c0, rfl, _, y1, y2⟩ := hH.pairs 0 rfl hkl
          unfold jst at hst
          rw [List.getElem?_eq_getElem hkl] at hst
          have hpl := hI.lt _ (List.getElem_mem hkl)
          have hnum := hI.num
          generalize hS : F k = S at *
          generalize S.1[k] = p at *
          obtain ⟨a, b⟩ := p
          simp only at hst y1 y2 hpl
          obtain ⟨hpa, hpb⟩ := hpl
          have ha16 : (a : Int) < 16 := by omega
          have hb16 : (b : Int) < 16 := by omega
          have hca := (hnum a hpa).1
          have hcb := (hnum b hpb).1
          have HS := hide hS; clear hS
          have HN := hide hnum; clear hnum
          have HI := hide hI; clear hI
          have z1 : wr.cell? ⟨w1.heap.size, a, none⟩ = some (.int .u8 (S.2 a)) := hH.cell 1 rfl (av_get _ (by omega))
          have z2 : wr.cell? ⟨w1.heap.size, b, none⟩ = some (.int .u8 (S.2 b)) := hH.cell 1 rfl (av_get _ (by omega))
          have l1 := hH.lt 1 rfl
          have hHb := hH.blk #[.int .u8 a, .int .u8 b] 113 wr.heap.size rfl
          by_cases hab : S.2 a = S.2 b
          · have d1 := cast_beq hab
            rw [if_pos hab] at hst
            have HST := hide hst; clear hst hab
            clear hHb
            go_wp2
            go_quiet (fail)
            go_wp2
            go_roundw
            case rel => exact ⟨k + 1, by rw [HST.out]; omega, by go_num, by rw [HST.out]; exact (hH.alloc _).drewN _⟩
            case measure => simp [intOf]; omega
          · have d1 := cast_bne hab
            rw [if_neg hab] at hst
            have HST := hide hst; clear hst
            have HAB := hide hab; clear hab
            clear hH
            go_wp2
            go_quiet (fail)
            have hHz := hHb.drewN nq
            have cn := hHz.cell 4 rfl hn
            clear hHb y1 y2 z1 z2 l1
            generalize (wr.alloc (.cells #[.int .u8 a, .int .u8 b] 113)).drewN nq = wz at *
            generalize wr.heap.size = G2 at *
            clear wr
            go_wp2
            clear cn
            go_loopw [57] (fun t wr => ∃ j : Nat, j ≤ m ∧ t = .int .i64 j ∧ Holds w wr [pBlk G2 #[.int .u8 a, .int .u8 b] 113, pPairs (.slice (some ⟨g0, 0, none⟩) S.1.length c0) S.1, pBlk w1.heap.size (av (mgP j S.2 a b)) 28, pBlk (w.heap.size + 1) (av fun _ => 0) 28, pBlk w.heap.size (dv m f g) 30]) (fun t _ => m - (intOf t).toNat)
            case atStart => exact ⟨0, by omega, rfl, by rw [mgP_zero]; exact hHz⟩
            case round =>
              clear hHz
              obtain ⟨j, hj, rfl, hH⟩ := hrel
              by_cases hjm : j < m
              · have hj16 : j < 16 := by omega
                have z1 : wr.cell? ⟨w1.heap.size, j, none⟩ = some (.int .u8 (S.2 j)) := hH.cell 2 rfl (by rw [av_get _ hj16, mgP_at])
                have f1 := hH.frozen 2 rfl j
                by_cases e1 : S.2 j = S.2 a
                · have d2 := cast_beq e1
                  have hm2 := mgP_yes (a := a) (b := b) (.inl e1)
                  have HM := hide hm2; clear hm2 e1
                  go_wp2
                  go_roundw
                  case rel =>
                    refine ⟨j + 1, by omega, by go_num, ?_⟩
                    rw [min_cast, ← HM.out, ← av_set]
                    exact hH.set 2 rfl j _
                  case measure => simp [intOf]; omega
                · by_cases e2 : S.2 j = S.2 b
                  · have d2 := cast_bne e1
                    have d3 := cast_beq e2
                    have hm2 := mgP_yes (a := a) (b := b) (.inr e2)
                    have HM := hide hm2; clear hm2 e1 e2
                    go_wp2
                    go_roundw
                    case rel =>
                      refine ⟨j + 1, by omega, by go_num, ?_⟩
                      rw [min_cast, ← HM.out, ← av_set]
                      exact hH.set 2 rfl j _
                    case measure => simp [intOf]; omega
                  · have d2 := cast_bne e1
                    have d3 := cast_bne e2
                    have hm2 := mgP_no (a := a) (b := b) (fun h => h.elim e1 e2)
                    have HM := hide hm2; clear hm2 e1 e2
                    go_wp2
                    go_roundw
                    case rel => exact ⟨j + 1, by omega, by go_num, by rw [← HM.out]; exact hH⟩
                    case measure => simp [intOf]; omega
              · obtain rfl : m = j := by omega
                rw [mgP_all] at hH
                clear hj hjm
                go_wp2
                have hql : S.1.length ≤ 48 := by have := HI.out.len; omega
                refine Rc.region_P (w0 := w) [pBlk G2 #[.int .u8 a, .int .u8 b] 113, pBlk w1.heap.size (av (mgI m S.2 a b)) 28, pBlk (w.heap.size + 1) (av fun _ => 0) 28, pBlk w.heap.size (dv m f g) 30] [pBlk G2 #[.int .u8 a, .int .u8 b] 113, pPairs (.slice (some ⟨g0, 0, none⟩) S.1.length c0) S.1, pBlk w1.heap.size (av (mgI m S.2 a b)) 28, pBlk (w.heap.size + 1) (av fun _ => 0) 28, pBlk w.heap.size (dv m f g) 30] (fun i => if i = 13 then some (Rc.rBuild w #[.int .u8 (f a), .int .u8 (f b), .int .u8 (g a), .int .u8 (g b)] 113 2 [pBlk G2 #[.int .u8 a, .int .u8 b] 113, pPairs (.slice (some ⟨g0, 0, none⟩) S.1.length c0) S.1, pBlk w1.heap.size (av (mgI m S.2 a b)) 28, pBlk (w.heap.size + 1) (av fun _ => 0) 28, pBlk w.heap.size (dv m f g) 30]) else if i = 14 then some (Rc.rHolds w fun v => [pBlk G2 #[.int .u8 a, .int .u8 b] 113, pPairs v (S.1 ++ [(f a, f b), (g a, g b)]), pBlk w1.heap.size (av (mgI m S.2 a b)) 28, pBlk (w.heap.size + 1) (av fun _ => 0) 28, pBlk w.heap.size (dv m f g) 30]) else none) [13, 14] (.q 0 <| .q 1 <| .q 2 <| .q 3 <| .q 4 <| .q 5 <| .q 6 <| .q 7 <| .q 8 <| .q 9 <| .q 10 <| .q 11 <| .q 12 <| .s1 13 <| .s1 14 <| .q 15 .fin) hH (.cons_cons _ (.cons _ (.refl _))) (fun i R hR v => ?_) (by kernel_rfl) (by kernel_rfl) (by kernel_rfl) (fun k hk => ?_) ?_
                · split at hR
                  · cases hR; exact Rc.rBuild_stable v
                  · split at hR
                    · cases hR; exact Rc.rHolds_stable v
                    · cases hR
                · simp at hk; simp [hk]
                iterate 6
                  apply Rc.v_q
                  · simp only [List.getElem?_toArray, List.getElem?_cons_zero, List.getElem?_cons_succ]; exact rfl
                  · rfl
                  · go_simp
                  · intro wx hx
                    have c1 : wx.cell? ⟨G2, 0, none⟩ = some (.int .u8 a) := hx.cell 0 rfl rfl
                    have c2 : wx.cell? ⟨G2, 1, none⟩ = some (.int .u8 b) := hx.cell 0 rfl rfl
                    have c3 := hx.cells 3 rfl
                    unfold atG
                    go_simp
                    simp only [uponG]
                    exact ⟨by trivial, rfl⟩
                iterate 1
                  apply Rc.v_q
                  · simp only [List.getElem?_toArray, List.getElem?_cons_zero, List.getElem?_cons_succ]; exact rfl
                  · rfl
                  · go_simp
                  · intro wx hx
                    have c1 : wx.cell? ⟨G2, 0, none⟩ = some (.int .u8 a) := hx.cell 0 rfl rfl
                    have c2 : wx.cell? ⟨G2, 1, none⟩ = some (.int .u8 b) := hx.cell 0 rfl rfl
                    have c3 := hx.cells 3 rfl
                    unfold atG
                    go_simp
                    simp only [uponG]
                    exact ⟨by trivial, C2.out f a b (by omega) (by omega) wx⟩
                iterate 5
                  apply Rc.v_q
                  · simp only [List.getElem?_toArray, List.getElem?_cons_zero, List.getElem?_cons_succ]; exact rfl
                  · rfl
                  · go_simp
                  · intro wx hx
                    have c1 : wx.cell? ⟨G2, 0, none⟩ = some (.int .u8 a) := hx.cell 0 rfl rfl
                    have c2 : wx.cell? ⟨G2, 1, none⟩ = some (.int .u8 b) := hx.cell 0 rfl rfl
                    have c3 := hx.cells 3 rfl
                    unfold atG
                    go_simp
                    simp only [uponG]
                    exact ⟨by trivial, rfl⟩
                iterate 1
                  apply Rc.v_q
                  · simp only [List.getElem?_toArray, List.getElem?_cons_zero, List.getElem?_cons_succ]; exact rfl
                  · rfl
                  · go_simp
                  · intro wx hx
                    have c1 : wx.cell? ⟨G2, 0, none⟩ = some (.int .u8 a) := hx.cell 0 rfl rfl
                    have c2 : wx.cell? ⟨G2, 1, none⟩ = some (.int .u8 b) := hx.cell 0 rfl rfl
                    have c3 := hx.cells 3 rfl
                    unfold atG
                    go_simp
                    simp only [uponG]
                    exact ⟨by trivial, C2.out g a b (by omega) (by omega) wx⟩
                refine Rc.v_s (by simp only [List.getElem?_toArray, List.getElem?_cons_zero, List.getElem?_cons_succ]; exact rfl) rfl (by go_simp) (fun wx hx hD => ?_) ?_
                · go_simp
                  simp only [Rc.uponE]
                  exact ⟨hx.alloc _, _, rfl, hD.blk _ _ _ rfl⟩
                rintro vg ⟨_, _, gq, rfl, _⟩
                refine Rc.v_s (by simp only [List.getElem?_toArray, List.getElem?_cons_zero, List.getElem?_cons_succ]; exact rfl) rfl (by go_simp) (fun wx hx hD => ?_) ?_
                · obtain ⟨gq', eq', hD⟩ := hD
                  injection eq' with eq'
                  injection eq' with eq'
                  injection eq' with eq'
                  subst eq'
                  exact upon_appP hD 2 rfl gq [(f a, f b), (g a, g b)] 113 (hD.at 0 rfl) (by simp only [List.length_cons, List.length_nil]; omega) (fun vn wn r2 => ⟨Holds.sub (Holds.tail r2) (.cons_cons _ (.cons _ (.refl _))), Holds.tail r2⟩) _ _ rfl (by go_simp) (by go_simp)
                rintro vn -
                apply Rc.v_q
                · simp only [List.getElem?_toArray, List.getElem?_cons_zero, List.getElem?_cons_succ]; exact rfl
                · rfl
                · go_simp
                · intro wx hx
                  unfold atG
                  go_simp
                  simp only [uponG]
                  exact ⟨by trivial, rfl⟩
                rintro w2 - h1
                clear hH
                go_wp2
                go_roundw
                case rel => exact ⟨k + 1, by rw [HST.out]; simp; omega, by go_num, by rw [HST.out]; exact Holds.tail h1⟩
                case measure => simp [intOf]; omega
        · obtain ⟨A1, c1, rfl⟩ := hH.pairsForm 0 rfl
          have hR := FE.out k (by omega) (by omega)
          have hkk : (F k).1.length = k := by omega
          rw [← hR, hkk] at hH
          rw [hkk]
          have cc := hH.cells 1 rfl
          have rr := hH.rowOk 2 rfl (av_size _)
          clear hst hR hkk hle hI hk hkl
          go_wp2
          have H2 := hH.setRow 2 rfl (av R)
          exact res_agg (p := 4) (g := w.heap.size + 1) aggP (av_size R) rfl rfl rfl (H2.at 2 rfl) ⟨rfl, H2.low⟩
end Go.Proofs.Ytgomfphdgekniaa

namespace Go.Proofs.Ytgomfphdgekniaa
open Go.RowKit

/-- what is held of a boxed dessin, in worlds that only grow -/
theorem keepD {B b : Nat} {w w1 w' : World} {cs : Array Value} {v : Value} (hB : B ≤ b) (h : cellsOf w1 b = cs ∧ w1.cell? ⟨b, 0, none⟩ = some v ∧ b < w1.heap.size ∧ Below B w w1) (hb : Below w1.heap.size w1 w') :
    cellsOf w' b = cs ∧ w'.cell? ⟨b, 0, none⟩ = some v ∧ b < w'.heap.size ∧ Below B w w' :=
  ⟨(below_cells hb h.2.2.1).trans h.1, (hb.cell (p := ⟨b, 0, none⟩) h.2.2.1).trans h.2.1, Nat.lt_of_lt_of_le h.2.2.1 hb.size, h.2.2.2.trans (hb.mono (by have := h.2.2.1; omega))⟩

def faceF (f g : Nat → Nat) (m : Nat) : Nat → Nat := backF (thenF f g m) m

theorem thenF_lt {f g : Nat → Nat} {m : Nat} (hm : m ≤ 16) (hf : ∀ i, i < m → f i < m) (hg : ∀ i, i < m → g i < m) (i : Nat) (hi : i < m) : thenF f g m i < 16 := by
  unfold thenF upto
  rw [if_pos hi]
  have := hg _ (hf i hi)
  show g (f i) < 16
  omega

set_option maxRecDepth 100000 in
set_option maxHeartbeats 1000000 in
theorem face_any (f g : Nat → Nat) (m : Nat) (hm : m ≤ 16) (hf : ∀ i, i < m → f i < m) (hg : ∀ i, i < m → g i < m) (w : World) :
    Calls Try.prog 108 #[.agg (dv m f g)] w fun e w' => e = .returned (.agg (av (faceF f g m))) ∧ Below w.heap.size w w' := by
  have C1 := hide fun w => follow_any f g m hm (fun i hi => by have := hf i hi; omega) w
  have C2 := hide fun w => undo_any (thenF f g m) m hm (thenF_lt hm hf hg) w
  have hF : faceF f g m = backF (thenF f g m) m := rfl
  rw [hF]
  generalize thenF f g m = T at *
  generalize backF T m = F at *
  clear hf hg hF
  have hn := dv_n m f g
  go_enter Try.func108, Try.ntmps108
  go_wp2
  rw [← av_zero]
  generalize hW : (w.alloc (.cells (dv m f g) 30)).alloc (.cells (av fun _ => 0) 28) = W
  have c0 : cellsOf W w.heap.size = dv m f g := by rw [← hW]; exact cellsOf_heap (heap1 rfl)
  have r1 : rowOk W (w.heap.size + 1) 16 := by rw [← hW]; exact ⟨_, _, heap_at _ _ _ (by simp), av_size _⟩
  have b0 : Below w.heap.size w W := by rw [← hW]; exact below2 _ _ _
  have l0 : w.heap.size < W.heap.size := by rw [← hW]; simp <;> omega
  clear hW
  refine region_tail (Grown W) 10 (by kernel_rfl) (by kernel_rfl) (Grown.drew W) ?_
  simp only [List.take_succ_cons, List.take_zero, List.drop_succ_cons, List.drop_zero]
  iterate 10
    apply q_step
    · go_simp
    · intro wx hx
      have e0 := hx.cells c0 l0
      have n0 : wx.cell? ⟨w.heap.size, 0, none⟩ = some (.int .i64 m) := by rw [cell_of_cells, e0]; exact hn
      first
        | (go_simp; exact rfl)
        | (go_simp; go_at_call 92; exact Calls.mono (C1.out wx) fun e w' h => ⟨h.1, hx.call h.2⟩)
        | (go_simp; go_at_call 91; exact Calls.mono (C2.out wx) fun e w' h => ⟨h.1, hx.call h.2⟩)
  refine wpQuiet_nil ?_
  intro w1 hx
  have r2 := hx.row r1
  have b2 : Below w.heap.size w w1 := b0.trans (Below.mono hx b0.size)
  clear c0 r1 b0 l0 hx
  go_wp2
  obtain ⟨t, ht, _⟩ := r2.heap
  exact res_agg (p := 2) (g := w.heap.size + 1) aggP (av_size F) rfl rfl rfl (setRow_heap _ _ _ _ t (0, 0) ht) ⟨rfl, below_setRow b2 (by omega) _⟩

set_option maxRecDepth 100000 in
set_option maxHeartbeats 1000000 in
theorem sFace_any (f g : Nat → Nat) (m : Nat) (hm : m ≤ 16) (hf : ∀ i, i < m → f i < m) (hg : ∀ i, i < m → g i < m) (w : World) :
    Calls Try.prog 106 #[.agg (dv m f g)] w fun e w' => e = .returned (.agg (av (faceF f g m))) ∧ Below w.heap.size w w' := by
  have C1 := hide fun w => sThen_any f g m hm (fun i hi => by have := hf i hi; omega) w
  have C2 := hide fun w => sBack_any (thenF f g m) m hm (thenF_lt hm hf hg) w
  have hF : faceF f g m = backF (thenF f g m) m := rfl
  rw [hF]
  generalize thenF f g m = T at *
  generalize backF T m = F at *
  clear hf hg hF
  have hn := dv_n m f g
  go_enter Try.func106, Try.ntmps106
  go_wp2
  rw [← av_zero]
  generalize hW : (w.alloc (.cells (dv m f g) 30)).alloc (.cells (av fun _ => 0) 28) = W
  have c0 : cellsOf W w.heap.size = dv m f g := by rw [← hW]; exact cellsOf_heap (heap1 rfl)
  have r1 : rowOk W (w.heap.size + 1) 16 := by rw [← hW]; exact ⟨_, _, heap_at _ _ _ (by simp), av_size _⟩
  have b0 : Below w.heap.size w W := by rw [← hW]; exact below2 _ _ _
  have l0 : w.heap.size < W.heap.size := by rw [← hW]; simp <;> omega
  clear hW
  refine region_tail (Grown W) 10 (by kernel_rfl) (by kernel_rfl) (Grown.drew W) ?_
  simp only [List.take_succ_cons, List.take_zero, List.drop_succ_cons, List.drop_zero]
  iterate 10
    apply q_step
    · go_simp
    · intro wx hx
      have e0 := hx.cells c0 l0
      have n0 : wx.cell? ⟨w.heap.size, 0, none⟩ = some (.int .i64 m) := by rw [cell_of_cells, e0]; exact hn
      first
        | (go_simp; exact rfl)
        | (go_simp; go_at_call 103; exact Calls.mono (C1.out wx) fun e w' h => ⟨h.1, hx.call h.2⟩)
        | (go_simp; go_at_call 104; exact Calls.mono (C2.out wx) fun e w' h => ⟨h.1, hx.call h.2⟩)
  refine wpQuiet_nil ?_
  intro w1 hx
  have r2 := hx.row r1
  have b2 : Below w.heap.size w w1 := b0.trans (Below.mono hx b0.size)
  clear c0 r1 b0 l0 hx
  go_wp2
  obtain ⟨t, ht, _⟩ := r2.heap
  exact res_agg (p := 2) (g := w.heap.size + 1) aggP (av_size F) rfl rfl rfl (setRow_heap _ _ _ _ t (0, 0) ht) ⟨rfl, below_setRow b2 (by omega) _⟩
end Go.Proofs.Ytgomfphdgekniaa

namespace Go.Proofs.Ytgomfphdgekniaa
open Go.RowKit

theorem backTo_at {p : Nat → Nat} {n : Nat} (h : Bij p n) : ∀ k, k ≤ n → ∀ x, x < k → backTo p k (p x) = x := by
  intro k
  induction k with
  | zero => intro _ x hx; omega
  | succ k ih =>
    intro hk x hx
    show fset (backTo p k) (p k) k (p x) = x
    unfold fset
    by_cases c : p x = p k
    · rw [if_pos c]; exact (h.2 x k (by omega) (by omega) c).symm
    · rw [if_neg c]
      by_cases d : x = k
      · subst d; exact absurd rfl c
      · exact ih (by omega) x (by omega)
theorem backTo_none {p : Nat → Nat} {y : Nat} : ∀ k, (∀ x, x < k → p x ≠ y) → backTo p k y = 0 := by
  intro k
  induction k with
  | zero => intro _; rfl
  | succ k ih =>
    intro h
    show fset (backTo p k) (p k) k y = 0
    unfold fset
    rw [if_neg (fun e => h k (by omega) e.symm)]
    exact ih fun x hx => h x (by omega)
theorem backF_at {p : Nat → Nat} {m : Nat} (h : Bij p m) {x : Nat} (hx : x < m) : backF p m (p x) = x := backTo_at h m (Nat.le_refl m) x hx
theorem Bij.onto {p : Nat → Nat} {m : Nat} (h : Bij p m) {y : Nat} (hy : y < m) : ∃ x, x < m ∧ p x = y := by
  obtain ⟨L, h0, _, e⟩ := h.period hy
  obtain ⟨k, rfl⟩ : ∃ k, L = k + 1 := ⟨L - 1, by omega⟩
  exact ⟨it p k y, h.it_lt k hy, e⟩
theorem backF_perm {p : Nat → Nat} {m : Nat} (h : PermN p m) : PermN (backF p m) m := by
  obtain ⟨h1, h2, h3, _⟩ := h
  refine ⟨h1, h2, ⟨fun y hy => ?_, fun y z hy hz e => ?_⟩, fun y h4 _ => ?_⟩
  · obtain ⟨x, hx, rfl⟩ := h3.onto hy
    rw [backF_at h3 hx]; exact hx
  · obtain ⟨x, hx, rfl⟩ := h3.onto hy
    obtain ⟨x', hx', rfl⟩ := h3.onto hz
    rw [backF_at h3 hx, backF_at h3 hx'] at e
    rw [e]
  · exact backTo_none m fun x hx e => by have := h3.1 x hx; omega
theorem thenF_at {p q : Nat → Nat} {m x : Nat} (hx : x < m) : thenF p q m x = q (p x) := by unfold thenF upto; rw [if_pos hx]
theorem thenF_out {p q : Nat → Nat} {m x : Nat} (hx : m ≤ x) : thenF p q m x = 0 := by unfold thenF upto; rw [if_neg (by omega)]
theorem thenF_perm {p q : Nat → Nat} {m : Nat} (hp : PermN p m) (hq : PermN q m) : PermN (thenF p q m) m := by
  refine ⟨hp.1, hp.2.1, ⟨fun x hx => ?_, fun x y hx hy e => ?_⟩, fun x hx _ => thenF_out hx⟩
  · rw [thenF_at hx]; exact hq.2.2.1.1 _ (hp.2.2.1.1 x hx)
  · rw [thenF_at hx, thenF_at hy] at e
    exact hp.2.2.1.2 x y hx hy (hq.2.2.1.2 _ _ (hp.2.2.1.1 x hx) (hp.2.2.1.1 y hy) e)
theorem faceF_perm {f g : Nat → Nat} {m : Nat} (hf : PermN f m) (hg : PermN g m) : PermN (faceF f g m) m := backF_perm (thenF_perm hf hg)
theorem faceF_at {f g : Nat → Nat} {m x : Nat} (hf : PermN f m) (hg : PermN g m) (hx : x < m) : faceF f g m (g (f x)) = x := by
  have := backF_at (thenF_perm hf hg).2.2.1 hx
  rwa [thenF_at hx] at this
theorem DesN.face {f g : Nat → Nat} {m : Nat} (h : DesN f g m) : PermN (faceF f g m) m := faceF_perm h.black h.white
/-- the numbers of cycles of a dessin -/
theorem DesN.euler {f g : Nat → Nat} {m : Nat} (h : DesN f g m) : ((cycs f m).length + (cycs g m).length + (cycs (faceF f g m) m).length + m) % 2 = 0 ∧ (cycs f m).length + (cycs g m).length + (cycs (faceF f g m) m).length ≤ m + 2 := by
  rw [cycs_length h.bf h.le, cycs_length h.bg h.le, cycs_length h.face.2.2.1 h.le]
  exact euler_dessin h.bf h.bg h.face.2.2.1 h.pos h.conn fun x hx => faceF_at h.black h.white hx
theorem PermN.lt {f : Nat → Nat} {m : Nat} (h : PermN f m) (i : Nat) (hi : i < 16) : f i < 16 := by
  rcases Nat.lt_or_ge i m with c | c
  · have := h.2.2.1.1 i c; have := h.2.1; omega
  · rw [h.2.2.2 i c hi]; omega
end Go.Proofs.Ytgomfphdgekniaa

namespace Go.Proofs.Ytgomfphdgekniaa
open Go.RowKit

theorem zeros16 : (Builtin.zeroCells #[Value.int .u8 0] 16).toList = bytesL (List.replicate 16 0) := by kernel_rfl
theorem wrap16 : IntKind.i64.wrap 16 = 16 := by kernel_rfl
theorem run_app16 {w : World} {B : Nat} {v : Value} {l : List Nat} (ty : TypeId) (h : OwnB B w v l) (h0 : 0 < l.length) (hl : l.length ≤ 16) (hBw : B ≤ w.heap.size) :
    ∃ v' w', (Builtin.append_ #[101, 3] ty #[v, .int .i64 16]).run Try.prog w = .ok v' w' ∧ OwnB B w' v' (l ++ List.replicate 16 0) ∧ w.grownBy w' v.ownBlock := by
  obtain ⟨i0, hi, hz0, hz1, hz2⟩ := info_parts infoU8
  rcases h.2 with ⟨_, e⟩ | ⟨g, cap, cur, rfl, hB, hh, h1, h2, h3, h4⟩
  · omega
  · rw [Nat.mul_one] at h3 h4
    have hbl : (bytesL l).length = l.length := by simp [bytesL]
    by_cases hroom : l.length + 16 ≤ cap
    · have hst := run_storeCells_at Try.prog g l.length 5 (bytesL (List.replicate 16 0)) 0 cur w hh (by simp [bytesL]; omega) (by simp [bytesL, Value.oneCell'])
      refine ⟨.slice (some ⟨g, 0, none⟩) (l.length + 16) cap, w.setRow g (cur.toList.take l.length ++ bytesL (List.replicate 16 0) ++ cur.toList.drop (l.length + 16)).toArray, ?_, ?_, ?_⟩
      · have hz := zeros16
        simp only [Nat.add_zero] at hst
        have hZl : (bytesL (List.replicate 16 0)).length = 16 := by simp [bytesL]
        generalize bytesL (List.replicate 16 0) = Z at *
        rw [hZl] at hst
        simp [Builtin.append_, run_underlying Try.underlying101, run_underlying Try.underlying3, sizeOf, typeInfo, zeroValue, hi, hz0, hz1, hz2, hroom, asInt, asIntOf, Addr.add_lit, wrap16, hz, Value.cells, hst, hbl]
      · refine ⟨by simp [bytesL], .inr ⟨g, cap, _, by simp, hB, setRow_heap _ _ _ _ _ _ hh, by simpa using hroom, h2, ?_, ?_⟩⟩
        · simp [bytesL]; omega
        · rw [h4]
          have : (l ++ List.replicate 16 0).length * 1 = (bytesL l ++ bytesL (List.replicate 16 0)).length := by simp [bytesL]
          rw [this]
          simp only [List.take_left]
          simp [bytesL]
      · exact ⟨rfl, rfl, rfl, by simp, fun k _ hk => setRow_other w g k _ (fun e => hk (by simp [Value.ownBlock, e]))⟩
    · have hn : ¬ (l.length + 16 ≤ cap) := hroom
      have h63 : ¬ (9223372036854775807 < ((l.length : Int) + max 16 0)) := by omega
      have h48 : ¬ (281474976710656 < Builtin.nextslicecap (l.length + 16) cap) := by
        have := growslice_fits (need := l.length + 16) (old := cap) (bytes := 1) (by omega) (by omega)
        omega
      have hfo := run_firstCells_some (P := Try.prog) w.drew 1 l.length ⟨g, 0, none⟩ l.length cap (bytesL l) (by simp [bytesL]) (fun j u hu => by
        have := World.ownsRow.cells h (g := g) rfl j u hu
        simpa using this)
      have hz := zeros16
      have hge := grownCap_ge w (l.length + 16) cap 5
      have hcm := grownCap_le_maxLen w (l.length + 16) cap 5 (by unfold maxLen; omega)
      refine ⟨.slice (some ⟨w.heap.size, 0, none⟩) (l.length + 16) (grownCap w (l.length + 16) cap 5), w.drew.alloc (.cells ((bytesL l).toArray ++ (Builtin.zeroCells #[Value.int .u8 0] 16 ++ Builtin.zeroCells #[Value.int .u8 0] (grownCap w (l.length + 16) cap 5 - (l.length + 16)))) 5), ?_, ?_, ?_⟩
      · simp [Builtin.append_, run_underlying Try.underlying101, run_underlying Try.underlying3, sizeOf, typeInfo, zeroValue, hi, hz0, hz1, hz2, hn, h63, h48, asInt, asIntOf, Addr.add_lit, wrap16, hz, Value.cells, Question.forced, hfo, newRow, grownCap]
      · refine ⟨by simp [bytesL], .inr ⟨w.heap.size, _, _, by simp, hBw, heap_alloc_new w.drew _, by simpa using hge, hcm, ?_, ?_⟩⟩
        · simp [size_zeroCells, bytesL]; omega
        · have e : (l ++ List.replicate 16 0).length * 1 = (bytesL l ++ bytesL (List.replicate 16 0)).length := by simp [bytesL]
          rw [e]
          simp only [Array.toList_append, hz]
          rw [← List.append_assoc]
          simp only [List.take_left]
          simp [bytesL]
      · exact ⟨rfl, rfl, rfl, by simp, fun k hk _ => heap_past w.drew _ k hk⟩
/-- the operation -/
theorem appZ {ops : Array Oper} {rest : List Oper} {o : Oper} {a : Act} {Q : Exit → Act → World → Prop} {w : World} (hgd : o.guard = none) (s : Operand)
    (ho : o.op = .call { callee := .builtin .append, args := #[s, .const (.int .i64 16)], argTypes := #[101, 3] }) {B : Nat} {v : Value} {l : List Nat} (hs : a.eval s = v) (hown : OwnB B w v l) (h0 : 0 < l.length) (hl : l.length ≤ 16) (hB : B ≤ w.heap.size)
    (h : ∀ v' w', OwnB B w' v' (l ++ List.replicate 16 0) → w.grownBy w' v.ownBlock → wpList Try.prog ops Q rest (a.put o.dst v') w') : wpList Try.prog ops Q (o :: rest) a w := by
  obtain ⟨v', w', hr, h2, h3⟩ := run_app16 o.type hown h0 hl hB
  refine wpList_plain hgd fun _ hK => ?_
  unfold Oper.wp execOp
  have hc : a.eval (.const (.int .i64 16)) = .int .i64 16 := rfl
  simp only [ho, resolve, invoke, builtin, Sem.run_bind, Sem.run_pure, Result.andThen_ok, List.map_toArray, List.map_cons, List.map_nil, hs, hc, hr]
  exact hK _ _ (h v' w' h2 h3)

/-- the first sixteen of a list of bytes and sixteen zeros behind it -/
def lstF (l : List Nat) : Nat → Nat := fun i => l.getD i 0
theorem lstF_take (l : List Nat) (hl : l.length ≤ 16) : ((bytesL (l ++ List.replicate 16 0)).take 16).toArray = av (lstF l) := by
  apply Array.ext_getElem?
  intro i
  rw [List.getElem?_toArray, av_cases]
  by_cases h : i < 16
  · rw [List.getElem?_take_of_lt h, if_pos h]
    unfold bytesL lstF
    rw [List.getElem?_map]
    rcases Nat.lt_or_ge i l.length with c | c
    · rw [List.getElem?_append_left c, List.getD_eq_getElem?_getD, List.getElem?_eq_getElem c]; rfl
    · rw [List.getElem?_append_right c, List.getD_eq_getElem?_getD, List.getElem?_eq_none c, List.getElem?_replicate, if_pos (by omega)]; rfl
  · rw [List.getElem?_take_eq_none (by omega), if_neg h]
/-- the array that lies at the beginning of such a list -/
theorem own_sixteen {B : Nat} {w : World} {v : Value} {l : List Nat} (h : OwnB B w v (l ++ List.replicate 16 0)) (h0 : 0 < (l ++ List.replicate 16 0).length) (hl : l.length ≤ 16) :
    ∃ g c, v = .slice (some ⟨g, 0, none⟩) (l ++ List.replicate 16 0).length c ∧ B ≤ g ∧ g < w.heap.size ∧
      ∀ wx, cellsOf wx g = cellsOf w g → (loadT 28 (.pointer (some ⟨g, 0, none⟩))).run Try.prog wx = .ok (.value (.agg (av (lstF l)))) wx := by
  rcases h.2 with ⟨_, e⟩ | ⟨g, cap, cur, rfl, hB, hh, h1, h2, h3, h4⟩
  · omega
  · refine ⟨g, cap, rfl, hB, (Array.getElem?_eq_some_iff.1 hh).1, fun wx hx => run_load_mid aggP ?_ (av_size _)⟩
    rw [hx, cellsOf_heap hh, ← lstF_take l hl, ← h4, List.take_take]
    have hm : min 16 ((l ++ List.replicate 16 0).length * 1) = 16 := by simp
    rw [hm]
    apply Array.ext'
    simp
def namF (f g : Nat → Nat) (m x : Nat) : Nat → Nat := backF (lstF (bfs f g x 16).1) m

-- left out here: loop.example/g01200/impl.naming
end Go.Proofs.Ytgomfphdgekniaa

namespace Go.Proofs.Ytgomfphdgekniaa
open Go.RowKit

theorem below_setCell {B g : Nat} {w0 w : World} (h : Below B w0 w) (hg : B ≤ g) (i : Nat) (v : Value) : Below B w0 (w.setCell ⟨g, i, none⟩ v) :=
  ⟨h.os, h.tape, h.output, by have := h.size; simpa using this, fun k hk => (Below.heap_setCell w ⟨g, i, none⟩ v k (fun e => by have : k = g := e; omega)).trans (h.block k hk)⟩
theorem dv_setb (n : Int) (f g : Nat → Nat) {i : Nat} (v : Nat) (h : i < 16) : (dv n f g).setIfInBounds (1 + i) (.int .u8 v) = dv n (fset f i v) g := by
  unfold dv
  rw [row_set]
  apply row_congr
  intro j _
  unfold fset
  by_cases c : j = 1 + i
  · rw [if_pos c, if_neg (by omega), if_pos (by omega), if_pos (by omega)]
  · rw [if_neg c]
    by_cases d : j = 0
    · rw [if_pos d, if_pos d]
    · rw [if_neg d, if_neg d]
      by_cases e : j < 17
      · rw [if_pos e, if_pos e, if_neg (by omega)]
      · rw [if_neg e, if_neg e]
theorem dv_setw (n : Int) (f g : Nat → Nat) {i : Nat} (v : Nat) (h : i < 16) : (dv n f g).setIfInBounds (17 + i) (.int .u8 v) = dv n f (fset g i v) := by
  unfold dv
  rw [row_set]
  apply row_congr
  intro j _
  unfold fset
  by_cases c : j = 17 + i
  · rw [if_pos c, if_neg (by omega), if_neg (by omega), if_pos (by omega)]
  · rw [if_neg c]
    by_cases d : j = 0
    · rw [if_pos d, if_pos d]
    · rw [if_neg d, if_neg d]
      by_cases e : j < 17
      · rw [if_pos e, if_pos e]
      · rw [if_neg e, if_neg e, if_neg (by omega)]

end Go.Proofs.Ytgomfphdgekniaa

namespace Go.Proofs.Ytgomfphdgekniaa
open Go.RowKit

/-- one byte more at the end of a list of bytes of the call's own -/
theorem appB {ops : Array Oper} {rest : List Oper} {o : Oper} {a : Act} {Q : Exit → Act → World → Prop} {w : World} {t : TypeId} (hgd : o.guard = none) (s x : Operand)
    (ho : o.op = .call { callee := .builtin .append, args := #[s, x], argTypes := #[101, 101] }) {B : Nat} {v : Value} {l : List Nat} (hs : a.eval s = v) (hown : OwnB B w v l) (hB : B ≤ w.heap.size)
    (y : Nat) (g : Nat) (hx : a.eval x = .slice (some ⟨g, 0, none⟩) 1 1) (hg : g = w.heap.size) (hl : l.length ≤ 1000000000)
    (h : ∀ v' w', OwnB B w' v' (l ++ [y]) → w.grownBy w' v.ownBlock → w.heap.size < w'.heap.size → wpList Try.prog ops Q rest (a.put o.dst v') w') :
    wpList Try.prog ops Q (o :: rest) a (w.alloc (.cells #[.int .u8 (y : Int)] t)) := by
  obtain ⟨i0, hi, hz0, hz1, hz2⟩ := info_parts infoU8
  unfold OwnB at hown
  refine wpList_append_own (P := Try.prog) _ hgd s x 101 ho B 5 i0 (.int .u8 0) 1 1 Try.underlying101 hi hz0 hz1 hz2 rfl (by decide) v l.length (bytesL l) hs (hown.alloc _) ⟨g, 0, none⟩ 1 1 [.int .u8 (y : Int)] hx rfl
    (one_new _ _ _ _ hg) (fun u hu => ?_) (by unfold maxLen; omega) (by omega) (by simp; omega) fun v' w' h1 h2 _ => h v' w' ?_ ?_ ?_
  · simp at hu; subst hu; rfl
  · unfold OwnB bytesL at *
    simpa using h1
  · exact grown_step (grown_alloc (grown_refl w v.ownBlock) _) h2 fun g hg => .inr hg
  · have := h2.size; simp at this; omega

theorem heap4 {w : World} {o o1 o2 o3 o4 : Obj} {g : Nat} (h : g = w.heap.size) : (((((w.alloc o).alloc o1).alloc o2).alloc o3).alloc o4).heap[g]? = some o := (heap_past _ _ _ (by simp; omega)).trans (heap3 h)
/-- what l02Naming has made -/
structure NW (w wr : World) (m : Nat) (f g : Nat → Nat) (o : Nat → Nat) (b : Nat → Bool) : Prop where
  low : Below w.heap.size w wr
  des : cellsOf wr w.heap.size = dv m f g
  res : rowOk wr (w.heap.size + 1) 16
  out : wr.heap[w.heap.size + 1 + 1 + 1]? = some (.cells (av o) 28 (0, 0))
  met : wr.heap[w.heap.size + 1 + 1 + 1 + 1]? = some (.cells (bv b) 99 (0, 0))
theorem NW.lt {w wr : World} {m : Nat} {f g o : Nat → Nat} {b : Nat → Bool} (h : NW w wr m f g o b) : w.heap.size + 1 + 1 + 1 + 1 < wr.heap.size := (Array.getElem?_eq_some_iff.1 h.met).1
theorem NW.grown {w wr w' : World} {m : Nat} {f g o : Nat → Nat} {b : Nat → Bool} {r : Option Nat} (h : NW w wr m f g o b) (hg : wr.grownBy w' r) (hr : ∀ k, r = some k → w.heap.size + 2 ≤ k ∧ k ≠ w.heap.size + 1 + 1 + 1 ∧ k ≠ w.heap.size + 1 + 1 + 1 + 1) : NW w w' m f g o b := by
  have hl := h.lt
  exact ⟨h.low.grown hg (by omega) (fun k hk => by have := hr k hk; omega), (grown_cells hg (by omega) (fun e => by have := hr _ e.symm; omega)).trans h.des, (grown_row hg (by omega) (fun e => by have := hr _ e.symm; omega)).2 h.res,
    (hg.block _ (by omega) (fun e => (hr _ e.symm).2.1 rfl)).trans h.out, (hg.block _ (by omega) (fun e => (hr _ e.symm).2.2 rfl)).trans h.met⟩
theorem NW.setB {w wr : World} {m : Nat} {f g o : Nat → Nat} {b : Nat → Bool} (h : NW w wr m f g o b) (y : Nat) : NW w (wr.setCell ⟨w.heap.size + 1 + 1 + 1 + 1, y, none⟩ (.bool true)) m f g o (mset b y) := by
  refine ⟨below_setCell h.low (by omega) _ _, (cellsOf_setCell_ne (by omega)).trans h.des, rowOk_setCell h.res, ?_, ?_⟩
  · rw [Below.heap_setCell wr ⟨w.heap.size + 1 + 1 + 1 + 1, y, none⟩ _ _ (show w.heap.size + 1 + 1 + 1 ≠ w.heap.size + 1 + 1 + 1 + 1 by omega)]; exact h.out
  · rw [heap_setCell_same _ _ _ _ _ _ h.met, bv_set]
theorem NW.setO {w wr : World} {m : Nat} {f g o : Nat → Nat} {b : Nat → Bool} (h : NW w wr m f g o b) (y v : Nat) : NW w (wr.setCell ⟨w.heap.size + 1 + 1 + 1, y, none⟩ (.int .u8 v)) m f g (fset o y v) b := by
  refine ⟨below_setCell h.low (by omega) _ _, (cellsOf_setCell_ne (by omega)).trans h.des, rowOk_setCell h.res, ?_, ?_⟩
  · rw [heap_setCell_same _ _ _ _ _ _ h.out, av_set]
  · rw [Below.heap_setCell wr ⟨w.heap.size + 1 + 1 + 1, y, none⟩ _ _ (show w.heap.size + 1 + 1 + 1 + 1 ≠ w.heap.size + 1 + 1 + 1 by omega)]; exact h.met
theorem NW.far {w wr : World} {m : Nat} {f g o : Nat → Nat} {b : Nat → Bool} (h : NW w wr m f g o b) {v : Value} {l : List Nat} (ho : OwnB (w.heap.size + 2) wr v l) : ∀ k, v.ownBlock = some k → w.heap.size + 2 ≤ k ∧ k ≠ w.heap.size + 1 + 1 + 1 ∧ k ≠ w.heap.size + 1 + 1 + 1 + 1 := by
  intro k hk
  refine ⟨(World.ownsRow.lt ho k hk).1, fun e => ?_, fun e => ?_⟩
  · rcases own_ne_blk ho h.out (by decide) with c | c
    · rw [c] at hk; cases hk
    · exact c (by rw [hk, e])
  · rcases own_ne_blk ho h.met (by decide) with c | c
    · rw [c] at hk; cases hk
    · exact c (by rw [hk, e])
theorem OwnB.setCell {B g i : Nat} {w : World} {v u : Value} {l : List Nat} (h : OwnB B w v l) (hne : ∀ k, v.ownBlock = some k → k ≠ g) : OwnB B (w.setCell ⟨g, i, none⟩ u) v l :=
  World.ownsRow.kept h (grown_setCell (grown_refl w (some g))) (by rcases hv : v.ownBlock with _ | k; exact .inl rfl; exact .inr fun e => hne k hv (by injection e))
theorem lstF_at {f g : Nat → Nat} {m x k : Nat} (hI : BInv m (bfs f g x k)) (hm : m ≤ 16) (hk : k < (bfs f g x k).1.length) : lstF (bfs f g x 16).1 k = (bfs f g x k).1[k] := by
  have h16 := hI.length_le
  obtain ⟨t, ht⟩ := bfs_pre' f g x (show k ≤ 16 by omega)
  unfold lstF
  rw [← ht, List.getD_eq_getElem?_getD, List.getElem?_append_left hk, List.getElem?_eq_getElem hk]; rfl

-- left out here: loop.example/g01200/spec.l02Naming
end Go.Proofs.Ytgomfphdgekniaa

namespace Go.Proofs.Ytgomfphdgekniaa
open Go.RowKit

set_option maxHeartbeats 400000 in
theorem toPlaces_any (f : Nat → Nat) (w : World) : Calls Try.prog 22 #[.agg (av f)] w fun e w' => e = .returned (.agg (av f)) ∧ Below w.heap.size w w' := by
  go_enter Try.func22, Try.ntmps22
  go_wp2
  rw [← av_zero]
  go_loopw [4] (fun i wr => ∃ k : Nat, k ≤ 16 ∧ i = .int .i64 k ∧ wr = ((w.alloc (.cells (av f) 22)).alloc (.cells (av fun _ => 0) 28)).alloc (.cells (av (upto f k)) 28)) (fun i _ => 16 - (intOf i).toNat)
  case atStart => exact ⟨0, by omega, rfl, by rw [upto_zero]⟩
  case round =>
    obtain ⟨k, hk, rfl, rfl⟩ := hrel
    by_cases hlt : k < 16
    · have h1 := av_get f hlt
      have h2 := av_get (upto f k) hlt
      have h3 := av_set (upto f k) k (f k)
      rw [upto_step] at h3
      go_wp2
      go_roundw
      case rel => exact ⟨k + 1, by omega, by go_num, rfl⟩
      case measure => simp [intOf]; omega
    · obtain rfl : k = 16 := by omega
      clear hlt hk
      rw [av_congr (f := upto f 16) (g := f) (fun i h => by simp [upto, h])]
      go_wp2_with (first
        | (refine ld0 aggP (av_size _) rfl _ rfl _ rfl (by simp) ?_)
        | (refine st1 aggP (av_size f) (av_size _) (av_cells f) rfl _ _ rfl (w.heap.size + 1) rfl rfl (by simp) ?_))
      exact res_agg (p := 2) (g := w.heap.size + 1) aggP (av_size f) rfl rfl rfl (heap1 (by simp)) ⟨rfl, below3 _ _ _ _⟩

end Go.Proofs.Ytgomfphdgekniaa

namespace Go.Proofs.Ytgomfphdgekniaa
open Go.RowKit
set_option maxHeartbeats 400000 in
theorem eqPlaces_same (f : Nat → Nat) (w : World) : Calls Try.prog 49 #[.agg (av f), .agg (av f)] w fun e w' => e = .returned (.bool true) ∧ Below w.heap.size w w' := by
  go_enter Try.func49, Try.ntmps49
  go_wp2
  go_loopw [5] (fun i wr => ∃ k : Nat, k ≤ 16 ∧ i = .int .i64 k ∧ Below w.heap.size w wr ∧ cellsOf wr w.heap.size = av f ∧ cellsOf wr (w.heap.size + 1) = av f) (fun i _ => 16 - (intOf i).toNat)
  case atStart => exact ⟨0, by omega, rfl, below2 _ _ _, cellsOf_heap (heap1 rfl), cellsOf_heap (heap_at _ _ _ (by simp))⟩
  case round =>
    obtain ⟨k, hk, rfl, hb, h0, h1⟩ := hrel
    by_cases hlt : k < 16
    · have c0 : wr.cell? ⟨w.heap.size, k, none⟩ = some (.int .u8 (f k)) := by rw [cell_of_cells, h0, av_get f hlt]
      have c1 : wr.cell? ⟨w.heap.size + 1, k, none⟩ = some (.int .u8 (f k)) := by rw [cell_of_cells, h1, av_get f hlt]
      have H0 := hide h0; clear h0
      have H1 := hide h1; clear h1
      go_wp2
      go_region
      all_goals go_wp2
      all_goals go_roundw
      case rel => exact ⟨k + 1, by omega, by go_num, hb.drew, H0.out, H1.out⟩
      case measure => simp [intOf]; omega
    · obtain rfl : k = 16 := by omega
      clear hlt hk h0 h1
      go_wp2
      go_ret
      exact ⟨rfl, hb⟩
end Go.Proofs.Ytgomfphdgekniaa

namespace Go.Proofs.Ytgomfphdgekniaa
open Go.RowKit Go.ChangeShapes Go.WideShapes

set_option maxRecDepth 100000 in
set_option maxHeartbeats 400000 in
theorem toDessin_any (n : Int) (f g : Nat → Nat) (w : World) : Calls Try.prog 16 #[.agg (dv n f g)] w fun e w' => e = .returned (.agg (dv n f g)) ∧ Below w.heap.size w w' := by
  have hn := dv_n n f g
  go_enter Try.func16, Try.ntmps16
  go_wp2_with fail
  rw [← dv_lit n, ← dv_lit 0]
  refine (toPlaces_any f _).mono ?_
  rintro e w1 ⟨rfl, h1⟩
  have c0 : cellsOf w1 w.heap.size = dv n f g := (below_cells h1 (by simp <;> omega)).trans (cellsOf_heap (heap2 rfl))
  have r1 : rowOk w1 (w.heap.size + 1) 33 := (below_row h1 (by simp <;> omega)).2 ⟨_, _, heap1 (by simp), dv_size _ _ _⟩
  have c2 : cellsOf w1 (w.heap.size + 1 + 1) = dv n (fun _ => 0) (fun _ => 0) := (below_cells h1 (by simp)).trans (cellsOf_heap (heap_at _ _ _ (by simp)))
  have r2 : rowOk w1 (w.heap.size + 1 + 1) 33 := (below_row h1 (by simp)).2 ⟨_, _, heap_at _ _ _ (by simp), dv_size _ _ _⟩
  have b1 := (below3 w (.cells (dv n f g) 24) (.cells (dv 0 (fun _ => 0) (fun _ => 0)) 30) (.cells (dv n (fun _ => 0) (fun _ => 0)) 30)).trans (h1.mono (by simp <;> omega))
  clear h1
  go_wp2_with fail
  refine (toPlaces_any g _).mono ?_
  rintro e w2 ⟨rfl, h2⟩
  have l1 := r1.lt
  have l2 := r2.lt
  have s1 : rowOk (w1.setRow (w.heap.size + 1 + 1) (dv n f fun _ => 0)) (w.heap.size + 1) 33 := (rowOk_setRow_ne (by omega)).2 r1
  have s2 : rowOk (w1.setRow (w.heap.size + 1 + 1) (dv n f fun _ => 0)) (w.heap.size + 1 + 1) 33 := rowOk_setRow r2 (dv_size _ _ _)
  have q1 : rowOk w2 (w.heap.size + 1) 33 := (below_row h2 (by simp; omega)).2 s1
  have q2 : rowOk w2 (w.heap.size + 1 + 1) 33 := (below_row h2 (by simp; omega)).2 s2
  have k2 : cellsOf w2 (w.heap.size + 1 + 1) = dv n f (fun _ => 0) := (below_cells h2 (by simp; omega)).trans (cellsOf_setRow r2)
  have b2 := (below_setRow b1 (show w.heap.size ≤ w.heap.size + 1 + 1 by omega) (dv n f fun _ => 0)).trans (h2.mono (by simp; omega))
  clear h2 b1 r1 r2 c0 c2 s1 s2 l1 l2
  go_wp2
  obtain ⟨t, ht, _⟩ := ((rowOk_setRow_ne (c' := dv n f g) (show w.heap.size + 1 ≠ w.heap.size + 1 + 1 by omega)).2 q1).heap
  exact res_agg (p := 2) (g := w.heap.size + 1) aggD (dv_size n f g) rfl rfl rfl (setRow_heap _ _ _ _ t (0, 0) ht) ⟨rfl, below_setRow (below_setRow b2 (by omega) _) (by omega) _⟩

section
variable {H : Type} {enc : TypeId × Value → H} {w : World} {base : Nat} {spare : Nat → Bool} {held : Bool}
set_option maxRecDepth 100000 in
/-- a dessin that came in -/
theorem open_dessin {r : Reach} {b0 : Nat} {v : Value} {d : DataW H} {ps : List MemPlace}
    (hval : Value.okWide Try.prog w r b0 24 v) (hd : DataW.Trod enc Try.prog w base spare held 24 v d ps) :
    ∃ (n : Int) (f g : Nat → Nat), (-9223372036854775808 ≤ n ∧ n ≤ 9223372036854775807) ∧ (∀ i, f i < 256) ∧ (∀ i, g i < 256) ∧ v = .agg (dv n f g) := by
  obtain ⟨cs, rfl, hs⟩ := okWide_struct Try.underlying24 hval
  have h33 : cs.size = 33 := hs.trans (by kernel_rfl)
  obtain ⟨fuel, hf⟩ := hd
  obtain ⟨xs, m, _, hx, _, hlen, hfl⟩ := DataW.trod_struct Try.underlying24 hf
  have hx3 : xs.length = 3 := hlen
  have h0 : DataW.trod enc Try.prog w base spare held m 2 (List.take (Try.prog.cellsOf 2) (List.drop 0 cs.toList)) = xs[0]? := hfl 0 _ rfl
  have h1 : DataW.trod enc Try.prog w base spare held m 22 (List.take (Try.prog.cellsOf 22) (List.drop 1 cs.toList)) = xs[1]? := hfl 1 _ rfl
  have h2 : DataW.trod enc Try.prog w base spare held m 22 (List.take (Try.prog.cellsOf 22) (List.drop 17 cs.toList)) = xs[2]? := hfl 2 _ rfl
  rw [List.getElem?_eq_getElem (by omega)] at h0 h1 h2
  have e2 : Try.prog.cellsOf 2 = 1 := by kernel_rfl
  have e16 : Try.prog.cellsOf 22 = 16 := by kernel_rfl
  have e1 : Try.prog.cellsOf 5 = 1 := by kernel_rfl
  rw [e2] at h0
  rw [e16] at h1 h2
  obtain ⟨n, hn, _, hw⟩ := DataW.trod_int Try.underlying2 h0
  have part : ∀ (o : Nat), o + 16 ≤ 33 → ∀ y, DataW.trod enc Try.prog w base spare held m 22 (List.take 16 (List.drop o cs.toList)) = some y → ∃ f : Nat → Nat, (∀ i, f i < 256) ∧ ∀ i, i < 16 → cs[o + i]? = some (.int .u8 (f i)) := by
    intro o ho y hy
    obtain ⟨ys, m', _, _, _, hl, hi⟩ := DataW.trod_array Try.underlying22 hy
    obtain ⟨f, hf, e⟩ := bytes_of (l := List.take 16 (List.drop o cs.toList)) Try.underlying5 (by simp; omega) hl (fun i h => by have := hi i h; rw [e1, Nat.mul_one] at this; exact this)
    refine ⟨f, hf, fun i h => ?_⟩
    have := congrArg (·[i]?) e
    simp only [List.getElem?_toArray, List.getElem?_take_of_lt h, List.getElem?_drop, Array.getElem?_toList, av_get f h] at this
    exact this
  obtain ⟨f, hf, hfc⟩ := part 1 (by omega) _ h1
  obtain ⟨g, hg, hgc⟩ := part 17 (by omega) _ h2
  refine ⟨n, f, g, bounds_i64 hw, hf, hg, ?_⟩
  congr 1
  apply Array.ext_getElem?
  intro i
  rw [get_cases]
  by_cases hi : i < 33
  · rw [if_pos hi]
    by_cases h0 : i = 0
    · subst h0
      rw [if_pos rfl]
      have := congrArg (·[0]?) hn
      simpa [List.getElem?_take] using this
    · rw [if_neg h0]
      by_cases h17 : i < 17
      · have := hfc (i - 1) (by omega)
        rw [show 1 + (i - 1) = i from by omega] at this
        rw [if_pos h17, this]
      · have := hgc (i - 17) (by omega)
        rw [show 17 + (i - 17) = i from by omega] at this
        rw [if_neg h17, this]
  · rw [if_neg hi, Array.getElem?_eq_none]; omega
end

end Go.Proofs.Ytgomfphdgekniaa

namespace Go.Proofs.Ytgomfphdgekniaa
open Go.RowKit

set_option maxRecDepth 100000 in
set_option maxHeartbeats 1000000 in
theorem isDart_any (n : Int) (f g : Nat → Nat) (x : Int) (w : World) :
    Calls Try.prog 66 #[.agg (dv n f g), .int .i64 x] w fun e w' => e = .returned (.bool (decide (0 ≤ x ∧ x < n))) ∧ Below w.heap.size w w' := by
  have hn := dv_n n f g
  by_cases h0 : 0 ≤ x
  · have hd : decide (0 ≤ x ∧ x < n) = decide (x < n) := by simp [h0]
    rw [hd]
    have hd0 : decide (0 ≤ x) = true := by simp [h0]
    clear hd
    go_enter Try.func66, Try.ntmps66
    go_wp2
    go_ret
    exact ⟨rfl, below1 _ _⟩
  · have hd : decide (0 ≤ x ∧ x < n) = false := by simp [h0]
    rw [hd]
    have hd0 : decide (0 ≤ x) = false := by simp [h0]
    clear hd
    go_enter Try.func66, Try.ntmps66
    go_wp2
    go_ret
    exact ⟨rfl, below1 _ _⟩
open Classical in
noncomputable def namR (n : Int) (f g : Nat → Nat) (x : Int) : Value :=
  if desB n f g = true then (if 0 ≤ x ∧ x < n then .tuple #[.agg (av (namF f g n.toNat x.toNat)), .int .i64 0] else .tuple #[.agg (av fun _ => 0), .int .i64 2]) else .tuple #[.agg (av fun _ => 0), .int .i64 1]
theorem namR_eq (n : Int) (f g : Nat → Nat) (x : Int) : ∃ (r : Nat → Nat) (c : Int), namR n f g x = .tuple #[.agg (av r), .int .i64 c] := by
  unfold namR; split
  · split
    · exact ⟨_, _, rfl⟩
    · exact ⟨_, _, rfl⟩
  · exact ⟨_, _, rfl⟩

-- left out here: loop.example/g01200/impl.NamingFrom
-- left out here: loop.example/g01200/spec.NamingFrom
-- left out here: loop.example/g01200/laws.FnExactNamingFrom
end Go.Proofs.Ytgomfphdgekniaa

namespace Go.Proofs.Ytgomfphdgekniaa
open Go.RowKit

/-- the darts with the number of x -/
def classL (m : Nat) (c : Nat → Nat) (x : Nat) : List Nat := (List.range m).filter fun i => c i == c x
def classP (k : Nat) (c : Nat → Nat) (x : Nat) : List Nat := (List.range k).filter fun i => c i == c x
theorem classP_yes {k x : Nat} {c : Nat → Nat} (h : c k = c x) : classP k c x ++ [k] = classP (k + 1) c x := by unfold classP; rw [List.range_succ, List.filter_append]; simp [h]
theorem classP_no {k x : Nat} {c : Nat → Nat} (h : ¬ c k = c x) : classP k c x = classP (k + 1) c x := by unfold classP; rw [List.range_succ, List.filter_append]; simp [h]
theorem classP_len (k : Nat) (c : Nat → Nat) (x : Nat) : (classP k c x).length ≤ k := by unfold classP; have := List.length_filter_le (fun i => c i == c x) (List.range k); simpa using this

set_option maxRecDepth 100000 in
set_option maxHeartbeats 1000000 in
theorem leastBlock_any (f g : Nat → Nat) (m : Nat) (hd : DesN f g m) (l : List Nat) (hl : 0 < l.length) (hl16 : l.length ≤ 16) (hlt : ∀ x ∈ l, x < m) (v : Value) (w : World) (hv : RdZ w v (ints l)) :
    Calls Try.prog 67 #[.agg (dv m f g), v] w fun e w' => ∃ u, e = .returned u ∧ Below w.heap.size w w' ∧ Own1 w.heap.size w' u (classL m (joinR f g m l l[0]) l[0]) := by
  have hm := hd.le
  have hn := dv_n m f g
  have C1 := hide fun (w' : World) (h : RdZ w' v (ints l)) => joinedSets_any f g m hd l hl hl16 hlt v w' h
  obtain ⟨A, c, rfl, _⟩ := hv.form
  rw [ints_length] at hv C1 ⊢
  obtain ⟨x, hx0⟩ : ∃ x, x = l[0] := ⟨_, rfl⟩
  have hxm : x < m := by rw [hx0]; exact hlt _ (List.getElem_mem hl)
  rw [← hx0] at C1 ⊢
  generalize joinR f g m l x = R at *
  have HV := hide hv; clear hv
  have HX := hide hx0; clear hx0
  clear hd hlt
  have hx16 : x < 16 := by omega
  have HH0 := (Holds.start w).blk (dv m f g) 30 w.heap.size rfl
  go_enter Try.func67, Try.ntmps67
  go_wp2_with fail
  refine (C1.out _ (HV.out.below HH0.low (Nat.le_refl _))).mono ?_
  rintro e w1 ⟨rfl, hb⟩
  have HH1 := (HH0.call hb).blk (av R) 28 w1.heap.size rfl
  have HH2 := HH1.nilRow 2 1
  have cn := HH1.cell 1 rfl hn
  clear hb HH0 HH1
  go_wp2
  clear cn
  go_loopw [6, 13] (fun u t wr => ∃ k : Nat, k ≤ m ∧ t = .int .i64 k ∧ Holds w wr [pInts u (classP k R x), pBlk w1.heap.size (av R) 28, pBlk w.heap.size (dv m f g) 30]) (fun _ t _ => m - (intOf t).toNat)
  case atStart => exact ⟨0, by omega, rfl, HH2⟩
  case round =>
    clear HH2
    obtain ⟨k, hk, rfl, hH⟩ := hrel
    obtain ⟨A', c', rfl⟩ := hH.intsForm 0 rfl
    by_cases hkm : k < m
    · obtain ⟨q, rfl, _, x0⟩ := (HV.out.below hH.low (Nat.le_refl _)).nat0 hl
      rw [← HX.out] at x0
      have hk16 : k < 16 := by omega
      have z1 : wr.cell? ⟨w1.heap.size, k, none⟩ = some (.int .u8 (R k)) := hH.cell 1 rfl (av_get _ hk16)
      have z2 : wr.cell? ⟨w1.heap.size, x, none⟩ = some (.int .u8 (R x)) := hH.cell 1 rfl (av_get _ hx16)
      have hlen := classP_len k R x
      by_cases e : R k = R x
      · have d := cast_beq e
        have hcl := classP_yes e
        have HC := hide hcl; clear hcl e
        go_wp2
        go_quiet (fail)
        have hHz := hH.drewN nq
        clear hH z1 z2 x0
        generalize wr.drewN nq = wz at *
        go_wp2_with (at_builtin; refine appI (hHz.alloc _) 0 rfl wz.heap.size [k] 2 ?_ ?_ rfl _ _ rfl rfl rfl ?_)
        · exact heap_at _ _ _ rfl
        · simp only [List.length_cons, List.length_nil]; omega
        intro v' w' h1
        clear hHz
        go_wp2
        go_roundw
        case rel => exact ⟨k + 1, by omega, by go_num, by rw [← HC.out]; exact h1⟩
        case measure => simp [intOf]; omega
      · have d := cast_bne e
        have hcl := classP_no e
        have HC := hide hcl; clear hcl e
        go_wp2
        go_quiet (fail)
        have hHz := hH.drewN nq
        clear hH z1 z2 x0
        go_wp2
        go_roundw
        case rel => exact ⟨k + 1, by omega, by go_num, by rw [← HC.out]; exact hHz⟩
        case measure => simp [intOf]; omega
    · obtain rfl : m = k := by omega
      clear hkm hk
      go_wp2
      go_ret
      exact ⟨_, rfl, hH.low, hH.own1 0 rfl⟩

open Classical in
noncomputable def blkR (n : Int) (f g : Nat → Nat) (x y : Int) : List Nat := if desB n f g = true ∧ (0 ≤ x ∧ x < n) ∧ 0 ≤ y ∧ y < n then classL n.toNat (joinR f g n.toNat [x.toNat, y.toNat] x.toNat) x.toNat else []
open Classical in
noncomputable def blkC (n : Int) (f g : Nat → Nat) (x y : Int) : Int := if desB n f g = true then (if (0 ≤ x ∧ x < n) ∧ 0 ≤ y ∧ y < n then 0 else 2) else 1
theorem blkR_bound (n : Int) (f g : Nat → Nat) (x y : Int) : (blkR n f g x y).length ≤ 16 := by
  unfold blkR
  split
  · rename_i h
    obtain ⟨m, rfl, hd⟩ := desB_true h.1
    have := classP_len m (joinR f g m [x.toNat, y.toNat] x.toNat) x.toNat
    have := hd.le
    rw [Int.toNat_natCast]
    show (classP m _ _).length ≤ 16
    omega
  · simp
theorem rd_two {w : World} {g x y : Nat} {t : TypeId} {fr : Nat × Nat} (h : w.heap[g]? = some (.cells #[.int .i64 x, .int .i64 y] t fr)) : RdZ w (.slice (some ⟨g, 0, none⟩) 2 2) (ints [x, y]) := by
  refine ⟨some ⟨g, 0, none⟩, 2, rfl, by simp [ints], fun i z hi => ⟨⟨g, 0, none⟩, rfl, lt_of_some h, ?_⟩⟩
  rcases i with _ | _ | i
  · simp [ints] at hi
    subst hi
    show w.cell? ⟨g, 0, none⟩ = _
    unfold World.cell?
    simp [h]
  · simp [ints] at hi
    subst hi
    show w.cell? ⟨g, 1, none⟩ = _
    unfold World.cell?
    simp [h]
  · simp [ints] at hi

set_option maxRecDepth 100000 in
set_option maxHeartbeats 1000000 in
theorem blockOf_any (n : Int) (f g : Nat → Nat) (hf : ∀ i, f i < 256) (hg : ∀ i, g i < 256) (x y : Int) (w : World) :
    Calls Try.prog 31 #[.agg (dv n f g), .int .i64 x, .int .i64 y] w fun e w' => ∃ v, e = .returned (.tuple #[v, .int .i64 (blkC n f g x y)]) ∧ Below w.heap.size w w' ∧ Own1 w.heap.size w' v (blkR n f g x y) := by
  have C1 := hide fun w => isDessin_any n f g hf hg w
  have C2 := hide fun w => isDart_any n f g x w
  have C3 := hide fun w => isDart_any n f g y w
  have HH0 := (Holds.start w).blk (dv n f g) 30 w.heap.size rfl
  clear hf hg
  rcases h1 : desB n f g with _ | _
  · rw [h1] at C1
    have hr : blkR n f g x y = [] := by unfold blkR; rw [if_neg (by simp [h1])]
    have hc : blkC n f g x y = 1 := by unfold blkC; rw [if_neg (by simp [h1])]
    rw [hr, hc]
    clear h1 hr hc
    go_enter Try.func31, Try.ntmps31
    go_wp2_with fail
    refine (C1.out _).mono ?_
    rintro e w1 ⟨rfl, hb⟩
    have HH1 := HH0.call hb
    clear hb
    go_wp2
    go_ret2
    exact ⟨.slice none 0 0, rfl, HH1.low, Own1.nil _ _⟩
  · rw [h1] at C1
    by_cases hx : 0 ≤ x ∧ x < n
    · rw [decide_eq_true hx] at C2
      by_cases hy : 0 ≤ y ∧ y < n
      · rw [decide_eq_true hy] at C3
        obtain ⟨m, rfl, hd⟩ := desB_true h1
        obtain ⟨a, rfl⟩ := Int.eq_ofNat_of_zero_le hx.1
        obtain ⟨b, rfl⟩ := Int.eq_ofNat_of_zero_le hy.1
        have hr : blkR (m : Int) f g a b = classL m (joinR f g m [a, b] a) a := by unfold blkR; rw [if_pos ⟨h1, hx, hy⟩]; simp only [Int.toNat_natCast]
        have hc : blkC (m : Int) f g a b = 0 := by unfold blkC; rw [if_pos h1, if_pos ⟨hx, hy⟩]
        rw [hr, hc]
        have C4 := hide fun (v : Value) (w' : World) (h : RdZ w' v (ints [a, b])) => leastBlock_any f g m hd [a, b] (by simp) (by simp) (by intro z hz; simp at hz; omega) v w' h
        simp only [List.getElem_cons_zero] at C4
        clear h1 hr hc hx hy hd
        generalize classL m (joinR f g m [a, b] a) a = B at *
        go_enter Try.func31, Try.ntmps31
        go_wp2_with fail
        refine (C1.out _).mono ?_
        rintro e w1 ⟨rfl, hb⟩
        have HH1 := HH0.call hb
        have cd := HH1.cells 0 rfl
        clear hb HH0
        go_wp2_with fail
        refine (C2.out _).mono ?_
        rintro e w2 ⟨rfl, hb⟩
        have HH2 := HH1.call hb
        have cd2 := HH2.cells 0 rfl
        clear hb HH1 cd
        go_wp2_with fail
        refine (C3.out _).mono ?_
        rintro e w3 ⟨rfl, hb⟩
        have HH3 := HH2.call hb
        have cd3 := HH3.cells 0 rfl
        clear hb HH2 cd2
        go_wp2_with fail
        have HH4 := HH3.blk #[.int .i64 a, .int .i64 b] 2 w3.heap.size rfl
        refine (C4.out _ _ (rd_two (HH4.at 0 rfl))).mono ?_
        rintro e w4 ⟨v, rfl, hb, ho⟩
        have HH5 := HH4.newRow hb ho
        clear hb HH3 cd3 ho HH4
        go_wp2
        go_ret2
        exact ⟨v, rfl, HH5.low, HH5.row 0 rfl⟩
      · rw [decide_eq_false hy] at C3
        have hr : blkR n f g x y = [] := by unfold blkR; rw [if_neg (fun k => hy k.2.2)]
        have hc : blkC n f g x y = 2 := by unfold blkC; rw [if_pos h1, if_neg (fun k => hy k.2)]
        rw [hr, hc]
        clear h1 hr hc hx hy
        go_enter Try.func31, Try.ntmps31
        go_wp2_with fail
        refine (C1.out _).mono ?_
        rintro e w1 ⟨rfl, hb⟩
        have HH1 := HH0.call hb
        have cd := HH1.cells 0 rfl
        clear hb HH0
        go_wp2_with fail
        refine (C2.out _).mono ?_
        rintro e w2 ⟨rfl, hb⟩
        have HH2 := HH1.call hb
        have cd2 := HH2.cells 0 rfl
        clear hb HH1 cd
        go_wp2_with fail
        refine (C3.out _).mono ?_
        rintro e w3 ⟨rfl, hb⟩
        have HH3 := HH2.call hb
        clear hb HH2 cd2
        go_wp2
        go_ret2
        exact ⟨.slice none 0 0, rfl, HH3.low, Own1.nil _ _⟩
    · rw [decide_eq_false hx] at C2
      have hr : blkR n f g x y = [] := by unfold blkR; rw [if_neg (fun k => hx k.2.1)]
      have hc : blkC n f g x y = 2 := by unfold blkC; rw [if_pos h1, if_neg (fun k => hx k.1)]
      rw [hr, hc]
      clear h1 hr hc hx
      go_enter Try.func31, Try.ntmps31
      go_wp2_with fail
      refine (C1.out _).mono ?_
      rintro e w1 ⟨rfl, hb⟩
      have HH1 := HH0.call hb
      have cd := HH1.cells 0 rfl
      clear hb HH0
      go_wp2_with fail
      refine (C2.out _).mono ?_
      rintro e w2 ⟨rfl, hb⟩
      have HH2 := HH1.call hb
      clear hb HH1 cd
      go_wp2
      go_ret2
      exact ⟨.slice none 0 0, rfl, HH2.low, Own1.nil _ _⟩
end Go.Proofs.Ytgomfphdgekniaa

namespace Go.Proofs.Ytgomfphdgekniaa
open Go.RowKit

/-- sixteen numbers -/
@[irreducible] def zv (f : Nat → Nat) : Array Value := row 16 fun i => .int .i64 (f i)
theorem zv_size (f : Nat → Nat) : (zv f).size = 16 := by unfold zv; exact row_size _ _
theorem zv_get (f : Nat → Nat) {i : Nat} (h : i < 16) : (zv f)[i]? = some (.int .i64 (f i)) := by unfold zv; exact row_get _ _ h
theorem zv_set (f : Nat → Nat) (i v : Nat) : (zv f).setIfInBounds i (.int .i64 v) = zv (fset f i v) := by
  unfold zv
  rw [row_set]
  apply row_congr
  intro j _
  unfold fset
  by_cases c : j = i
  · rw [if_pos c, if_pos c]
  · rw [if_neg c, if_neg c]
theorem zv_zero : zv (fun _ => 0) = #[.int .i64 0, .int .i64 0, .int .i64 0, .int .i64 0, .int .i64 0, .int .i64 0, .int .i64 0, .int .i64 0, .int .i64 0, .int .i64 0, .int .i64 0, .int .i64 0, .int .i64 0, .int .i64 0, .int .i64 0, .int .i64 0] := by
  unfold zv row; rfl
/-- rows of pairs of numbers -/
def pairZ (l : List (Nat × Nat)) : List Value := l.flatMap fun p => [Value.int .i64 (p.1 : Int), Value.int .i64 (p.2 : Int)]
theorem pairZ_length (l : List (Nat × Nat)) : (pairZ l).length = l.length * 2 := by unfold pairZ; induction l <;> simp_all <;> omega
theorem pairZ_append (l l' : List (Nat × Nat)) : pairZ (l ++ l') = pairZ l ++ pairZ l' := by unfold pairZ; simp
theorem pairZ_at {l : List (Nat × Nat)} {k : Nat} (hk : k < l.length) : (pairZ l)[k * 2]? = some (.int .i64 (l[k].1 : Int)) ∧ (pairZ l)[k * 2 + 1]? = some (.int .i64 (l[k].2 : Int)) := by
  induction l generalizing k with
  | nil => simp at hk
  | cons p l ih =>
    rcases k with _ | k
    · exact ⟨rfl, rfl⟩
    · have := ih (k := k) (by simpa using hk)
      have e : pairZ (p :: l) = [Value.int .i64 (p.1 : Int), Value.int .i64 (p.2 : Int)] ++ pairZ l := rfl
      rw [e, List.getElem?_append_right (by simp; omega), List.getElem?_append_right (by simp; omega)]
      simp only [List.length_cons, List.length_nil, List.getElem_cons_succ]
      rw [show (k + 1) * 2 - (0 + 1 + 1) = k * 2 by omega, show (k + 1) * 2 + 1 - (0 + 1 + 1) = k * 2 + 1 by omega]
      exact this
theorem pairZ_one {l : List (Nat × Nat)} : ∀ u ∈ pairZ l, u.oneCell' = true := by
  intro u hu
  unfold pairZ at hu
  obtain ⟨p, _, hp⟩ := List.mem_flatMap.1 hu
  simp at hp
  rcases hp with rfl | rfl <;> rfl
theorem infoPz : (Try.prog.info? 104).map (fun i => (i.zero, i.size, i.bytes)) = some (some (.agg #[.int .i64 0, .int .i64 0]), 2, 16) := by kernel_rfl
def pPairsZ (v : Value) (l : List (Nat × Nat)) : Part := pRow v 104 2 l.length (pairZ l)
theorem Holds.pairsZ {w0 w : World} {L : List Part} (h : Holds w0 w L) (i : Nat) {v : Value} {l : List (Nat × Nat)} (hi : L[i]? = some (pPairsZ v l)) {k : Nat} (hk : k < l.length) :
    ∃ g c, v = .slice (some ⟨g, 0, none⟩) l.length c ∧ g < w.heap.size ∧ w.cell? ⟨g, k * 2, none⟩ = some (.int .i64 (l[k].1 : Int)) ∧ w.cell? ⟨g, k * 2 + 1, none⟩ = some (.int .i64 (l[k].2 : Int)) := by
  obtain ⟨g, c, h1, h2, h3, h4, h5, h6, h7⟩ := row_at (h.row i hi) (by omega : 0 < l.length)
  exact ⟨g, c, h1, h3, h6 _ _ (pairZ_at hk).1, h6 _ _ (pairZ_at hk).2⟩
theorem Holds.pairsZForm {w0 w : World} {L : List Part} (h : Holds w0 w L) (i : Nat) {v : Value} {l : List (Nat × Nat)} (hi : L[i]? = some (pPairsZ v l)) : ∃ A c, v = .slice A l.length c := own_slice (h.row i hi)
theorem appZp {ops : Array Oper} {rest : List Oper} {o : Oper} {a : Act} {Q : Exit → Act → World → Prop} {w0 w : World} {L : List Part} (H : Holds w0 w L) (k : Nat) {v : Value} {l : List (Nat × Nat)} (hk : L[k]? = some (pPairsZ v l))
    (g : Nat) (news : List (Nat × Nat)) (t : TypeId) (hc : w.heap[g]? = some (.cells (pairZ news).toArray t (0, 0))) (hb : l.length + news.length ≤ 1000000)
    (hgd : o.guard = none) (s x : Operand)
    (ho : o.op = .call { callee := .builtin .append, args := #[s, x], argTypes := #[105, 105] })
    (hs : a.eval s = v) (hx : a.eval x = .slice (some ⟨g, 0, none⟩) news.length news.length)
    (h : ∀ v' w', Holds w0 w' (L.set k (pPairsZ v' (l ++ news))) → wpList Try.prog ops Q rest (a.put o.dst v') w') : wpList Try.prog ops Q (o :: rest) a w := by
  obtain ⟨i0, hi, hz0, hz1, hz2⟩ := info_parts infoPz
  refine appH (P := Try.prog) hgd s x 105 ho 104 i0 (.agg #[.int .i64 0, .int .i64 0]) 2 16 Try.underlying105 hi hz0 hz1 hz2 rfl (by decide) v l.length (pairZ l) hs H k hk ⟨g, 0, none⟩ news.length news.length (pairZ news) hx
    (pairZ_length _) (fun j u hu => ?_) pairZ_one (by unfold maxLen; omega) (by omega) fun v' w' h1 => h v' w' ?_
  · have : ((⟨g, 0, none⟩ : Addr).add j) = ⟨g, j, none⟩ := by simp [Addr.add]; exact Eq.symm
    rw [this, cell_of_cells, cellsOf_heap hc]
    simpa using hu
  · unfold pPairsZ at *
    rw [List.length_append, pairZ_append]
    exact h1
theorem upon_appZp {o : Oper} {a : Act} {w0 w : World} {L : List Part} (H : Holds w0 w L) (k : Nat) {v : Value} {l : List (Nat × Nat)} (hk : L[k]? = some (pPairsZ v l))
    (g : Nat) (news : List (Nat × Nat)) (t : TypeId) (hc : w.heap[g]? = some (.cells (pairZ news).toArray t (0, 0))) (hb : l.length + news.length ≤ 1000000) {C : World → Prop} {R : Value → World → Prop}
    (h : ∀ v' w', Holds w0 w' (L.set k (pPairsZ v' (l ++ news))) → C w' ∧ R v' w') (s x : Operand)
    (ho : o.op = .call { callee := .builtin .append, args := #[s, x], argTypes := #[105, 105] })
    (hs : a.eval s = v) (hx : a.eval x = .slice (some ⟨g, 0, none⟩) news.length news.length) : Rc.uponE Try.prog C R w ((execOp a.eval o).run Try.prog w) := by
  obtain ⟨i0, hi, hz0, hz1, hz2⟩ := info_parts infoPz
  obtain ⟨v', w', h1, h2, _⟩ := run_appH (P := Try.prog) (w := w) 105 o.type 104 i0 (.agg #[.int .i64 0, .int .i64 0]) 2 16 Try.underlying105 hi hz0 hz1 hz2 rfl (by decide) v l.length (pairZ l) H k hk ⟨g, 0, none⟩ news.length news.length (pairZ news)
    (pairZ_length _) (fun j u hu => by
      have : ((⟨g, 0, none⟩ : Addr).add j) = ⟨g, j, none⟩ := by simp [Addr.add]; exact Eq.symm
      rw [this, cell_of_cells, cellsOf_heap hc]
      simpa using hu) pairZ_one (by unfold maxLen; omega) (by omega)
  rw [exec_append ho hs hx h1]
  refine h v' w' ?_
  unfold pPairsZ at *
  rw [List.length_append, pairZ_append]
  exact h2

/-- the first k numbers themselves -/
theorem same_step {k m : Nat} (h : k < m) : fset (sameN k) k k = sameN (k + 1) := by
  funext i
  unfold fset sameN
  by_cases e : i = k
  · subst e; simp
  · have : i < k + 1 ↔ i < k := by omega
    simp [e, this]
/-- the merging, j darts on -/
def mgT (j : Nat) (c : Nat → Nat) (a b : Nat) : Nat → Nat := fun i => if i < j ∧ c i = c b then c a else c i
theorem mgT_all (m : Nat) (c : Nat → Nat) (a b : Nat) : mgT m c a b = mgS m c a b := rfl
theorem mgT_zero (c : Nat → Nat) (a b : Nat) : mgT 0 c a b = c := by funext i; simp [mgT]
theorem mgT_at (j : Nat) (c : Nat → Nat) (a b : Nat) : mgT j c a b j = c j := by simp [mgT]
theorem mgT_yes {j : Nat} {c : Nat → Nat} {a b : Nat} (h : c j = c b) : fset (mgT j c a b) j (c a) = mgT (j + 1) c a b := by
  funext i
  unfold fset mgT
  by_cases e : i = j
  · subst e; simp [h]
  · have : i < j + 1 ↔ i < j := by omega
    simp [e, this]
theorem mgT_no {j : Nat} {c : Nat → Nat} {a b : Nat} (h : ¬ c j = c b) : mgT j c a b = mgT (j + 1) c a b := by
  funext i
  unfold mgT
  by_cases e : i = j
  · subst e; simp [h]
  · have : i < j + 1 ↔ i < j := by omega
    simp [this]
@[irreducible] def joinS (f g : Nat → Nat) (m x y : Nat) : Nat → Nat := (jrun (mgS m) f g ([(x, y)], sameN m) 64).2
theorem joinS_fact (f g : Nat → Nat) (m : Nat) (hf : ∀ i, i < m → f i < m) (hg : ∀ i, i < m → g i < m) (x y : Nat) (hx : x < m) (hy : y < m) (hm : m ≤ 16 := by omega) :
    ∃ F : Nat → JS, (∀ k, JInv m 33 (F k)) ∧ F 0 = ([(x, y)], sameN m) ∧ (∀ k, F (k + 1) = jst (mgS m) f g (F k) k) ∧ (∀ k, k ≤ 64 → (F k).1.length ≤ k → joinS f g m x y = (F k).2) := by
  refine ⟨jrun (mgS m) f g ([(x, y)], sameN m), fun k => ?_, rfl, fun k => rfl, fun k h1 h2 => ?_⟩
  · have := jrun_inv (mgS_ok m) hf hg (JInv.start [(x, y)] (by simpa using ⟨hx, hy⟩)) k
    refine ⟨this.lt, this.num, this.far, Nat.le_trans this.len ?_⟩
    simp only [List.length_cons, List.length_nil]; omega
  · unfold joinS
    generalize 64 = K at *
    rw [jrun_stop h2 h1]
theorem class_gen (K : Nat) (f g : Nat → Nat) (m : Nat) (hf : ∀ i, i < m → f i < m) (hg : ∀ i, i < m → g i < m) (x y : Nat) (hx : x < m) (hy : y < m) (hK : 2 * m + 1 ≤ K) :
    classL m (jrun (mgS m) f g ([(x, y)], sameN m) (K + 1)).2 x = classL m (jrun (mgI m) f g ([(x, x), (x, y)], sameN m) (K + 1)).2 x := by
  have I := jrun_inv (mgS_ok m) hf hg (JInv.start [(x, y)] (by simpa using ⟨hx, hy⟩)) K
  have hl := I.len
  simp only [List.length_cons, List.length_nil] at hl
  rw [jrun_stop (i := K) (j := K + 1) (by omega) (by omega)]
  have h2 := (jrun_two (mgI_ok m) (mgS_ok m) hf hg hx hy K).2
  unfold classL
  apply List.filter_congr
  intro i hi
  have := h2 i x (List.mem_range.1 hi) hx
  rw [Bool.eq_iff_iff]
  simp only [beq_iff_eq]
  exact this.symm
/-- both tell the same block -/
theorem class_both (f g : Nat → Nat) (m : Nat) (hf : ∀ i, i < m → f i < m) (hg : ∀ i, i < m → g i < m) (x y : Nat) (hx : x < m) (hy : y < m) (hm : m ≤ 16) : classL m (joinS f g m x y) x = classL m (joinR f g m [x, y] x) x := by
  unfold joinS joinR
  exact class_gen 63 f g m hf hg x y hx hy (by omega)

set_option maxRecDepth 100000 in
set_option maxHeartbeats 2000000 in
theorem sBlock_any (f g : Nat → Nat) (m : Nat) (hd : DesN f g m) (x y : Nat) (hx : x < m) (hy : y < m) (w : World) :
    Calls Try.prog 65 #[.agg (dv m f g), .int .i64 x, .int .i64 y] w fun e w' => ∃ u, e = .returned u ∧ Below w.heap.size w w' ∧ Own1 w.heap.size w' u (classL m (joinS f g m x y) x) := by
  have hm := hd.le
  have hn := dv_n m f g
  have hfg := And.intro hd.bf.1 hd.bg.1
  obtain ⟨F, FI, F0, FS, FE⟩ := joinS_fact f g m hd.bf.1 hd.bg.1 x y hx hy
  generalize joinS f g m x y = R at *
  replace FI := hide FI
  replace F0 := hide F0
  replace FS := hide FS
  replace FE := hide FE
  have HF := hide hfg; clear hfg hd
  have HH0 := (Holds.start w).blk (dv m f g) 30 w.heap.size rfl
  go_enter Try.func65, Try.ntmps65
  go_wp2
  rw [← zv_zero]
  have HH1 := HH0.blk (zv fun _ => 0) 61 (w.heap.size + 1) (by simp)
  clear HH0
  go_loopw [8] (fun t wr => ∃ k : Nat, k ≤ m ∧ t = .int .i64 k ∧ Holds w wr [pBlk (w.heap.size + 1) (zv (sameN k)) 61, pBlk w.heap.size (dv m f g) 30]) (fun t _ => m - (intOf t).toNat)
  case atStart => exact ⟨0, by omega, rfl, HH1⟩
  case round =>
    clear HH1
    obtain ⟨k, hk, rfl, hH⟩ := hrel
    have cn := hH.cell 1 rfl hn
    by_cases hkm : k < m
    · have hk16 : k < 16 := by omega
      have z1 : wr.cell? ⟨w.heap.size + 1, k, none⟩ = some (.int .i64 (sameN k k)) := hH.cell 0 rfl (zv_get _ hk16)
      have f1 := hH.frozen 0 rfl k
      have hs := same_step hkm
      have HS := hide hs; clear hs
      go_wp2
      go_roundw
      case rel => exact ⟨k + 1, by omega, by go_num, by rw [← HS.out, ← zv_set]; exact hH.set 0 rfl k _⟩
      case measure => simp [intOf]; omega
    · obtain rfl : m = k := by omega
      clear hk hkm
      have HH3 : Holds w (wr.alloc (.cells #[.int .i64 x, .int .i64 y] 104)) [pPairsZ (.slice (some ⟨wr.heap.size, 0, none⟩) 1 1) [(x, y)], pBlk (w.heap.size + 1) (zv (sameN m)) 61, pBlk w.heap.size (dv m f g) 30] := hH.rowNew #[.int .i64 x, .int .i64 y] 104 2 1 wr.heap.size rfl rfl (by unfold maxLen; omega)
      clear hH
      go_wp2
      clear cn
      go_loopw [9, 10] (fun u t wr => ∃ k : Nat, k ≤ (F k).1.length ∧ t = .int .i64 k ∧ Holds w wr [pPairsZ u (F k).1, pBlk (w.heap.size + 1) (zv (F k).2) 61, pBlk w.heap.size (dv m f g) 30]) (fun _ t _ => 64 - (intOf t).toNat)
      case atStart => exact ⟨0, by omega, rfl, by rw [F0.out]; exact HH3⟩
      case round =>
        clear HH3
        obtain ⟨k, hk, rfl, hH⟩ := hrel
        have hI := FI.out k
        have hst := FS.out k
        have hle := hI.len
        by_cases hkl : k < (F k).1.length
        · obtain ⟨g0, c0, rfl, _, y1, y2⟩ := hH.pairsZ 0 rfl hkl
          unfold jst at hst
          rw [List.getElem?_eq_getElem hkl] at hst
          have hpl := hI.lt _ (List.getElem_mem hkl)
          have hnum := hI.num
          generalize hS : F k = S at *
          generalize S.1[k] = p at *
          obtain ⟨a, b⟩ := p
          simp only at hst y1 y2 hpl
          obtain ⟨hpa, hpb⟩ := hpl
          have ha16 : (a : Int) < 16 := by omega
          have hb16 : (b : Int) < 16 := by omega
          have hca := (hnum a hpa).1
          have hcb := (hnum b hpb).1
          have HS := hide hS; clear hS
          have HN := hide hnum; clear hnum
          have HI := hide hI; clear hI
          go_wp2
          go_quiet (fail)
          have hHz := hH.drewN nq
          clear y1 y2 hH
          generalize wr.drewN nq = wz at *
          have z1 : wz.cell? ⟨w.heap.size + 1, a, none⟩ = some (.int .i64 (S.2 a)) := hHz.cell 1 rfl (zv_get _ (by omega))
          have z2 : wz.cell? ⟨w.heap.size + 1, b, none⟩ = some (.int .i64 (S.2 b)) := hHz.cell 1 rfl (zv_get _ (by omega))
          by_cases hab : S.2 a = S.2 b
          · have d1 := cast_beq hab
            rw [if_pos hab] at hst
            have HST := hide hst; clear hst hab
            go_wp2
            go_quiet (fail)
            go_wp2
            go_roundw
            case rel => exact ⟨k + 1, by rw [HST.out]; omega, by go_num, by rw [HST.out]; exact hHz.drewN _⟩
            case measure => simp [intOf]; omega
          · have d1 := cast_bne hab
            rw [if_neg hab] at hst
            have HST := hide hst; clear hst
            have HAB := hide hab; clear hab
            go_wp2
            go_quiet (fail)
            have hHy := hHz.drewN nq
            clear z1 z2 hHz
            generalize wz.drewN nq = wy at *
            have z1 : wy.cell? ⟨w.heap.size + 1, a, none⟩ = some (.int .i64 (S.2 a)) := hHy.cell 1 rfl (zv_get _ (by omega))
            have z2 : wy.cell? ⟨w.heap.size + 1, b, none⟩ = some (.int .i64 (S.2 b)) := hHy.cell 1 rfl (zv_get _ (by omega))
            go_wp2
            go_quiet (fail)
            have hHx := hHy.drewN nq
            clear z1 z2 hHy
            generalize wy.drewN nq = wv at *
            go_wp2
            go_loopw [15] (fun t wr => ∃ j : Nat, j ≤ m ∧ t = .int .i64 j ∧ Holds w wr [pPairsZ (.slice (some ⟨g0, 0, none⟩) S.1.length c0) S.1, pBlk (w.heap.size + 1) (zv (mgT j S.2 a b)) 61, pBlk w.heap.size (dv m f g) 30]) (fun t _ => m - (intOf t).toNat)
            case atStart => exact ⟨0, by omega, rfl, by rw [mgT_zero]; exact hHx⟩
            case round =>
              clear hHx
              obtain ⟨j, hj, rfl, hH⟩ := hrel
              have cn := hH.cell 2 rfl hn
              by_cases hjm : j < m
              · have hj16 : j < 16 := by omega
                have z1 : wr.cell? ⟨w.heap.size + 1, j, none⟩ = some (.int .i64 (S.2 j)) := hH.cell 1 rfl (by rw [zv_get _ hj16, mgT_at])
                have f1 := hH.frozen 1 rfl j
                by_cases e1 : S.2 j = S.2 b
                · have d2 := cast_beq e1
                  have hm2 := mgT_yes (a := a) (b := b) e1
                  have HM := hide hm2; clear hm2 e1
                  go_wp2
                  go_roundw
                  case rel => exact ⟨j + 1, by omega, by go_num, by rw [← HM.out, ← zv_set]; exact hH.set 1 rfl j _⟩
                  case measure => simp [intOf]; omega
                · have d2 := cast_bne e1
                  have hm2 := mgT_no (a := a) (b := b) e1
                  have HM := hide hm2; clear hm2 e1
                  go_wp2
                  go_roundw
                  case rel => exact ⟨j + 1, by omega, by go_num, by rw [← HM.out]; exact hH⟩
                  case measure => simp [intOf]; omega
              · obtain rfl : m = j := by omega
                rw [mgT_all] at hH
                clear hj hjm
                go_wp2
                have hql : S.1.length ≤ 48 := by have := HI.out.len; omega
                have hfa := HF.out.1 a hpa
                have hfb := HF.out.1 b hpb
                have hga := HF.out.2 a hpa
                have hgb := HF.out.2 b hpb
                have i1 : IntKind.i64.wrap ((f a : Nat) : Int) = (f a : Nat) := IntWalk.i64_in _ (by omega)
                have i2 : IntKind.i64.wrap ((f b : Nat) : Int) = (f b : Nat) := IntWalk.i64_in _ (by omega)
                have i3 : IntKind.i64.wrap ((g a : Nat) : Int) = (g a : Nat) := IntWalk.i64_in _ (by omega)
                have i4 : IntKind.i64.wrap ((g b : Nat) : Int) = (g b : Nat) := IntWalk.i64_in _ (by omega)
                clear cn
                refine Rc.region_P (w0 := w) [pBlk (w.heap.size + 1) (zv (mgS m S.2 a b)) 61, pBlk w.heap.size (dv m f g) 30] [pPairsZ (.slice (some ⟨g0, 0, none⟩) S.1.length c0) S.1, pBlk (w.heap.size + 1) (zv (mgS m S.2 a b)) 61, pBlk w.heap.size (dv m f g) 30] (fun i => if i = 23 then some (Rc.rBuild w #[.int .i64 (f a), .int .i64 (f b), .int .i64 (g a), .int .i64 (g b)] 104 2 [pPairsZ (.slice (some ⟨g0, 0, none⟩) S.1.length c0) S.1, pBlk (w.heap.size + 1) (zv (mgS m S.2 a b)) 61, pBlk w.heap.size (dv m f g) 30]) else if i = 24 then some (Rc.rHolds w fun v => [pPairsZ v (S.1 ++ [(f a, f b), (g a, g b)]), pBlk (w.heap.size + 1) (zv (mgS m S.2 a b)) 61, pBlk w.heap.size (dv m f g) 30]) else none) [23, 24] (.q 0 <| .q 1 <| .q 2 <| .q 3 <| .q 4 <| .q 5 <| .q 6 <| .q 7 <| .q 8 <| .q 9 <| .q 10 <| .q 11 <| .q 12 <| .q 13 <| .q 14 <| .q 15 <| .q 16 <| .q 17 <| .q 18 <| .q 19 <| .q 20 <| .q 21 <| .q 22 <| .s1 23 <| .s1 24 <| .q 25 .fin) hH (.cons _ (.refl _)) (fun i R hR v => ?_) (by kernel_rfl) (by kernel_rfl) (by kernel_rfl) (fun k hk => ?_) ?_
                · split at hR
                  · cases hR; exact Rc.rBuild_stable v
                  · split at hR
                    · cases hR; exact Rc.rHolds_stable v
                    · cases hR
                · simp at hk; simp [hk]
                iterate 23
                  apply Rc.v_q
                  · simp only [List.getElem?_toArray, List.getElem?_cons_zero, List.getElem?_cons_succ]; exact rfl
                  · rfl
                  · go_simp
                  · intro wx hx
                    have c1 := hx.cell 1 rfl (dv_b m f g (i := a) (by omega))
                    have c2 := hx.cell 1 rfl (dv_b m f g (i := b) (by omega))
                    have c3 := hx.cell 1 rfl (dv_w m f g (i := a) (by omega))
                    have c4 := hx.cell 1 rfl (dv_w m f g (i := b) (by omega))
                    unfold atG
                    go_simp
                    simp only [uponG]
                    exact ⟨by trivial, rfl⟩
                refine Rc.v_s (by simp only [List.getElem?_toArray, List.getElem?_cons_zero, List.getElem?_cons_succ]; exact rfl) rfl (by go_simp) (fun wx hx hD => ?_) ?_
                · go_simp
                  simp only [Rc.uponE]
                  exact ⟨hx.alloc _, _, rfl, hD.blk _ _ _ rfl⟩
                rintro vg ⟨_, _, gq, rfl, _⟩
                refine Rc.v_s (by simp only [List.getElem?_toArray, List.getElem?_cons_zero, List.getElem?_cons_succ]; exact rfl) rfl (by go_simp) (fun wx hx hD => ?_) ?_
                · obtain ⟨gq', eq', hD⟩ := hD
                  injection eq' with eq'
                  injection eq' with eq'
                  injection eq' with eq'
                  subst eq'
                  exact upon_appZp hD 1 rfl gq [(f a, f b), (g a, g b)] 104 (hD.at 0 rfl) (by simp only [List.length_cons, List.length_nil]; omega) (fun vn wn r2 => ⟨Holds.sub (Holds.tail r2) (.cons _ (.refl _)), Holds.tail r2⟩) _ _ rfl (by go_simp) (by go_simp)
                rintro vn -
                iterate 1
                  apply Rc.v_q
                  · simp only [List.getElem?_toArray, List.getElem?_cons_zero, List.getElem?_cons_succ]; exact rfl
                  · rfl
                  · go_simp
                  · intro wx hx
                    unfold atG
                    go_simp
                    simp only [uponG]
                    exact ⟨by trivial, rfl⟩
                rintro w2 - h1
                clear hH
                go_wp2
                go_roundw
                case rel => exact ⟨k + 1, by rw [HST.out]; simp; omega, by go_num, by rw [HST.out]; exact h1⟩
                case measure => simp [intOf]; omega
        · obtain ⟨A1, c1, rfl⟩ := hH.pairsZForm 0 rfl
          have hR := FE.out k (by omega) (by omega)
          have hkk : (F k).1.length = k := by omega
          rw [← hR, hkk] at hH
          rw [hkk]
          have hHq : Holds w (wr.alloc (.cells #[] 2)) [pInts (.slice (some ⟨wr.heap.size, 0, none⟩) 0 0) [], pBlk (w.heap.size + 1) (zv R) 61, pBlk w.heap.size (dv m f g) 30] := (hH.tail).rowNew #[] 2 1 0 wr.heap.size rfl rfl (by unfold maxLen; omega)
          clear hst hR hkk hle hI hk hkl hH
          go_wp2
          go_loopw [16, 17] (fun u t wr => ∃ k : Nat, k ≤ m ∧ t = .int .i64 k ∧ Holds w wr [pInts u (classP k R x), pBlk (w.heap.size + 1) (zv R) 61, pBlk w.heap.size (dv m f g) 30]) (fun _ t _ => m - (intOf t).toNat)
          case atStart => exact ⟨0, by omega, rfl, hHq⟩
          case round =>
            clear hHq
            obtain ⟨k, hk, rfl, hH⟩ := hrel
            obtain ⟨A', c', rfl⟩ := hH.intsForm 0 rfl
            have cn := hH.cell 2 rfl hn
            by_cases hkm : k < m
            · have hk16 : k < 16 := by omega
              have z1 : wr.cell? ⟨w.heap.size + 1, k, none⟩ = some (.int .i64 (R k)) := hH.cell 1 rfl (zv_get _ hk16)
              have z2 : wr.cell? ⟨w.heap.size + 1, x, none⟩ = some (.int .i64 (R x)) := hH.cell 1 rfl (zv_get _ (by omega))
              have hlen := classP_len k R x
              by_cases e : R k = R x
              · have d := cast_beq e
                have hcl := classP_yes e
                have HC := hide hcl; clear hcl e
                go_wp2
                go_quiet (fail)
                have hHz := hH.drewN nq
                clear hH z1 z2 cn
                generalize wr.drewN nq = wz at *
                go_wp2_with (at_builtin; refine appI (hHz.alloc _) 0 rfl wz.heap.size [k] 2 ?_ ?_ rfl _ _ rfl rfl rfl ?_)
                · exact heap_at _ _ _ rfl
                · simp only [List.length_cons, List.length_nil]; omega
                intro v' w' h1
                clear hHz
                go_wp2
                go_roundw
                case rel => exact ⟨k + 1, by omega, by go_num, by rw [← HC.out]; exact h1⟩
                case measure => simp [intOf]; omega
              · have d := cast_bne e
                have hcl := classP_no e
                have HC := hide hcl; clear hcl e
                go_wp2
                go_quiet (fail)
                have hHz := hH.drewN nq
                clear hH z1 z2 cn
                go_wp2
                go_roundw
                case rel => exact ⟨k + 1, by omega, by go_num, by rw [← HC.out]; exact hHz⟩
                case measure => simp [intOf]; omega
            · obtain rfl : m = k := by omega
              clear hkm hk
              go_wp2
              go_ret
              exact ⟨_, rfl, hH.low, hH.own1 0 rfl⟩
end Go.Proofs.Ytgomfphdgekniaa

namespace Go.Proofs.Ytgomfphdgekniaa
open Go.RowKit

theorem Holds.cellR {w0 w : World} {L : List Part} (h : Holds w0 w L) (i : Nat) {g n c : Nat} {e : TypeId} {s : Nat} {xs : List Value} (hi : L[i]? = some (pRow (.slice (some ⟨g, 0, none⟩) n c) e s n xs)) {j : Nat} {u : Value} (hj : xs[j]? = some u) : w.cell? ⟨g, j, none⟩ = some u := by
  have hn : 0 < n := by
    have h1 := (h.row i hi).1
    have h2 := (List.getElem?_eq_some_iff.1 hj).1
    rcases Nat.eq_zero_or_pos n with rfl | c
    · simp at h1; subst h1; simp at h2
    · exact c
  obtain ⟨g', c', e1, _, _, _, _, h6, _⟩ := row_at (h.row i hi) hn
  injection e1 with e1
  injection e1 with e1
  injection e1 with e1
  subst e1
  exact h6 j u hj
theorem Holds.frozenR {w0 w : World} {L : List Part} (h : Holds w0 w L) (i : Nat) {g n c : Nat} {e : TypeId} {s : Nat} {xs : List Value} (hi : L[i]? = some (pRow (.slice (some ⟨g, 0, none⟩) n c) e s n xs)) (hn : 0 < n) (j : Nat) : w.frozen? ⟨g, j, none⟩ = false := by
  obtain ⟨g', c', e1, _, _, _, _, _, h7⟩ := row_at (h.row i hi) hn
  injection e1 with e1
  injection e1 with e1
  injection e1 with e1
  subst e1
  exact h7 j
theorem Holds.cellV {w0 w : World} {L : List Part} (h : Holds w0 w L) (i : Nat) {g n c : Nat} {vs : List Value} (hi : L[i]? = some (pVals (.slice (some ⟨g, 0, none⟩) n c) vs)) (hl : vs.length = n) {j : Nat} {u : Value} (hj : vs[j]? = some u) : w.cell? ⟨g, j, none⟩ = some u := by
  subst hl
  exact h.cellR i hi hj
end Go.Proofs.Ytgomfphdgekniaa

namespace Go.Proofs.Ytgomfphdgekniaa
open Go.RowKit

theorem tuple2 {a b c d : Value} (h1 : a = c) (h2 : b = d) : Ending.returned (.tuple #[a, b]) = .returned (.tuple #[c, d]) := by rw [h1, h2]
theorem cycs_le {p : Nat → Nat} {m : Nat} (hp : PermN p m) : (cycs p m).length ≤ m := by
  rw [cycs_length hp.2.2.1 hp.2.1]; exact orb_le p m

set_option maxRecDepth 100000 in
set_option maxHeartbeats 400000 in
theorem countCycles_any (p : Nat → Nat) (m : Nat) (hp : PermN p m) (w : World) :
    Calls Try.prog 55 #[.agg (av p), .int .i64 m] w fun e w' => e = .returned (.int .i64 (cycs p m).length) ∧ Below w.heap.size w w' := by
  have C := hide fun w => cycleList_any p m hp w
  have hle := cycs_le hp
  have h16 := hp.2.1
  clear hp
  go_enter Try.func55, Try.ntmps55
  go_wp2_with fail
  refine (C.out _).mono ?_
  rintro e w1 ⟨v, rfl, hb, ho⟩
  obtain ⟨A, c, rfl⟩ := ho.form
  clear ho C
  go_wp2
  go_ret
  exact ⟨rfl, (below1 w _).trans (hb.mono (by simp))⟩

end Go.Proofs.Ytgomfphdgekniaa

namespace Go.Proofs.Ytgomfphdgekniaa
open Go.RowKit

set_option maxRecDepth 100000 in
set_option maxHeartbeats 1000000 in
theorem sCycles_any (p : Nat → Nat) (m : Nat) (hp : PermN p m) (w : World) :
    Calls Try.prog 52 #[.agg (av p), .int .i64 m] w fun e w' => ∃ v, e = .returned v ∧ Below w.heap.size w w' ∧ Own2 w.heap.size w' v (cycs p m) := by
  obtain ⟨hm1, hm2, hbij, _⟩ := hp
  have HB := hide hbij; clear hbij
  obtain ⟨i0, hi, hz0, hz1, hz2⟩ := info_parts info64
  obtain ⟨j0, hj, hy0, hy1, hy2⟩ := info_parts infoSl
  have I0 := hide (And.intro hi (And.intro hz0 (And.intro hz1 hz2))); clear hi hz0 hz1 hz2
  have J0 := hide (And.intro hj (And.intro hy0 (And.intro hy1 hy2))); clear hj hy0 hy1 hy2
  go_enter Try.func52, Try.ntmps52
  go_wp2
  rw [← bv_false]
  go_loopw [5, 7] (fun out i wr => ∃ k : Nat, k ≤ m ∧ i = .int .i64 k ∧ Below w.heap.size w wr ∧ cellsOf wr w.heap.size = av p ∧ wr.heap[w.heap.size + 1 + 1]? = some (.cells (bv (cycs.met p k)) 99 (0, 0)) ∧ Own2 (w.heap.size + 1) wr out (cycs p k))
    (fun _ i _ => m - (intOf i).toNat)
  case atStart =>
    refine ⟨0, by omega, rfl, below3 _ _ _ _, cellsOf_heap (heap2 rfl), heap_at _ _ _ (by simp), [], rfl, ?_, fun i u l h => by simp at h, fun i j u u' _ h => by simp at h⟩
    have h := (own_empty (w.alloc (.cells (av p) 28)) 35 1 (w.heap.size + 1) (by simp)).alloc (.cells (bv fun _ => false) 99)
    simp only [World.size_alloc] at h
    exact h
  case round =>
    obtain ⟨k, hk, rfl, hb, hcp, hhm, hown⟩ := hrel
    by_cases hlt : k < m
    · have hlt16 : k < 16 := by omega
      have l1 : w.heap.size + 1 + 1 < wr.heap.size := by
        rcases Nat.lt_or_ge (w.heap.size + 1 + 1) wr.heap.size with c | c
        · exact c
        · rw [Array.getElem?_eq_none c] at hhm; cases hhm
      obtain ⟨J, hJ16, hJf, hJt, hJc, hJm⟩ := cyc_J HB.out hm2 hlt
      have HC := hide hcp; clear hcp
      have HM := hide hhm; clear hhm
      have HJf := hide hJf; clear hJf
      have HJt := hide hJt; clear hJt
      have HJc := hide hJc; clear hJc
      have HJm := hide hJm; clear hJm
      go_wp2
      obtain ⟨wo, rfl⟩ : ∃ wo : World, wo = wr := ⟨_, rfl⟩
      go_loopg [8, 9] J (fun gd own x wr => ∃ j : Nat, j ≤ J ∧ gd = J - j ∧ x = .int .i64 (it p j k) ∧ it p j k < m ∧ Own1 wo.heap.size wr own (orbTo p k j) ∧
          cellsOf wr w.heap.size = av p ∧ wr.heap[w.heap.size + 1 + 1]? = some (.cells (bv (Mj p (cycs.met p k) k j)) 99 (0, 0)) ∧ wo.grownBy wr (some (w.heap.size + 1 + 1)))
      case atStart => exact ⟨0, by omega, by omega, rfl, hlt, own_empty wo 2 1 _ (Nat.le_refl _), by rw [cellsOf_past (by omega)]; exact HC.out, by rw [heap_past _ _ _ l1, Mj_zero]; exact HM.out, grown_alloc (grown_refl _ _) _⟩
      case round =>
        obtain ⟨j, hj, rfl, rfl, hx, hown1, hcp1, hhm1, hg1⟩ := hrel
        have HCP := hide hcp1; clear hcp1
        have hszs : wo.heap.size ≤ wr.heap.size := hg1.size
        have hcm1 : cellsOf wr (w.heap.size + 1 + 1) = bv (Mj p (cycs.met p k) k j) := cellsOf_heap hhm1
        have HCM := hide hcm1; clear hcm1
        have HH := hide hhm1; clear hhm1
        by_cases hjp : j < J
        · have c0 : wr.cell? ⟨w.heap.size + 1 + 1, it p j k, none⟩ = some (.bool false) := by rw [cell_of_cells, HCM.out, bv_get _ (by omega), HJf.out j hjp]
          have f0 : wr.frozen? ⟨w.heap.size + 1 + 1, it p j k, none⟩ = false := by have := HH.out; simp [World.frozen?, this]
          generalize hX : it p j k = X at *
          have HX := hide hX; clear hX
          have hownA : (wr.setCell ⟨w.heap.size + 1 + 1, X, none⟩ (.bool true)).ownsRow wo.heap.size 2 1 u8 (orbTo p k j).length (nums (orbTo p k j)) := ownsRow_setCell_below hown1 (by show w.heap.size + 1 + 1 < wo.heap.size; omega) _
          have hlen : (orbTo p k j).length = j := orbTo_length p k j
          have HL := hide hlen; clear hlen
          have hX16 : X < 16 := by omega
          go_wp2_with (at_builtin; refine wpList_append_own _ rfl _ _ 35 rfl wo.heap.size 2 i0 (.int .i64 0) 1 8 Try.underlying35 I0.out.1 I0.out.2.1 I0.out.2.2.1 I0.out.2.2.2 rfl (by decide) _ _ _ rfl (hownA.alloc _) ⟨wr.heap.size, 0, none⟩ 1 1 [.int .i64 X] rfl rfl ?c1 ?c2 ?c3 ?c4 ?c5 ?_)
          case c1 => exact one_new _ _ _ _ (by simp)
          case c2 => intro u hu; simp at hu; subst hu; rfl
          case c3 => rw [HL.out]; unfold maxLen; omega
          case c4 => rw [HL.out]; omega
          case c5 => simp; omega
          intro v' w1 hown' hg' _
          have hrow : ∀ g, u8.ownBlock = some g → wo.heap.size ≤ g := fun g hg => (hownA.lt g hg).1
          have G0 := grown_alloc (grown_setCell (i := X) (v := .bool true) hg1) (.cells #[.int .i64 X] 2)
          have G1 := grown_step G0 hg' (fun g hg => .inl (hrow g hg))
          have hpc : cellsOf w1 w.heap.size = av p := by
            rw [grown_cells hg' (by simp; omega) (fun e => by have := hrow _ e.symm; omega), cellsOf_past (by simp; omega), cellsOf_setCell_ne (by omega)]; exact HCP.out
          have hmc : w1.heap[w.heap.size + 1 + 1]? = some (.cells (bv (Mj p (cycs.met p k) k (j + 1))) 99 (0, 0)) := by
            rw [hg'.block _ (by simp; omega) (fun e => by have := hrow _ e.symm; omega), heap_past _ _ _ (by simp; omega), heap_setCell_same _ _ _ _ _ _ HH.out, bv_set, ← HX.out, Mj_step]
          have hpx : p X < m := HB.out.1 X hx
          have c2 : w1.cell? ⟨w.heap.size, X, none⟩ = some (.int .u8 (p X)) := by rw [cell_of_cells, hpc, av_get p hX16]
          have hO : Own1 wo.heap.size w1 v' (orbTo p k (j + 1)) := by
            rw [orbTo_step, HX.out]
            unfold Own1 nums at *
            simpa using hown'
          have hit : it p (j + 1) k = p X := by rw [← HX.out]; rfl
          have H1 := hide hpc; clear hpc
          have H2 := hide hmc; clear hmc
          have HIT := hide hit; clear hit
          clear hown' hg' G0 hownA hrow c0 f0
          go_wp2
          go_roundg (J - (j + 1))
          case measure => omega
          case rel => exact ⟨j + 1, by omega, rfl, by rw [HIT.out], by rw [HIT.out]; exact hpx, hO, H1.out, H2.out, G1⟩
        · obtain rfl : j = J := by omega
          have hX16 : it p j k < 16 := by omega
          have c0 : wr.cell? ⟨w.heap.size + 1 + 1, it p j k, none⟩ = some (.bool true) := by rw [cell_of_cells, HCM.out, bv_get _ hX16, HJt.out]
          obtain ⟨A, cc, rfl⟩ := own_slice hown1
          have hll : (orbTo p k j).length = j := orbTo_length p k j
          rw [hll]
          have HL := hide hll; clear hll
          have hbr : Below w.heap.size w wr := hb.grown hg1 hb.size (fun g hg => by simp at hg; omega)
          obtain ⟨vs, hvl, ho0, hi0, hd0⟩ := hown
          have hC : ∀ (i : Nat) (x : Value), vs[i]? = some x → ∀ g, x.ownBlock = some g → g < wo.heap.size := by
            intro i x hx1 g hg
            have : i < (cycs p k).length := by rw [← hvl]; exact (List.getElem?_eq_some_iff.1 hx1).1
            exact (World.ownsRow.lt (hi0 i x _ hx1 (List.getElem?_eq_getElem this)) g hg).2
          have hk2 : Own2 (w.heap.size + 1) wr u5 (cycs p k) := Own2.keptBlk ⟨vs, hvl, ho0, hi0, hd0⟩ hg1 HM.out (by decide) (by decide)
          have ho1 := ho0.kept hg1 (own_ne_blk ho0 HM.out (by decide))
          have hi1 : ∀ (i : Nat) (u : Value) (l : List Nat), vs[i]? = some u → (cycs p k)[i]? = some l → Own1 (w.heap.size + 1) wr u l := fun i u l h1 h2 => (hi0 i u l h1 h2).kept hg1 (own_ne_blk (hi0 i u l h1 h2) HM.out (by decide))
          have hvs16 : vs.length ≤ 16 := by rw [hvl]; exact cycs_len_le HB.out hm2 (by omega)
          have HVL := hide hvl; clear hvl
          have HI := hide hi1; clear hi1 hi0
          have HD := hide hd0; clear hd0
          have HCC := hide hC; clear hC
          have HO := hide hk2; clear hk2
          clear ho0
          by_cases hj0 : j = 0
          · have H00 := hide hj0
            have hd : decide (0 < j) = false := by simp; omega
            clear hj0
            go_wp2
            go_roundw
            case rel => exact ⟨k + 1, by omega, by go_num, hbr, HCP.out, by rw [HJm.out]; exact HH.out, by rw [HJc.out, if_pos H00.out]; exact HO.out⟩
            case measure => simp [intOf]; omega
          · have hd : decide (0 < j) = true := by simp; omega
            have hjp0 : 0 < j := by omega
            go_wp2_with (at_builtin; refine wpList_append_own _ rfl _ _ 25 rfl (w.heap.size + 1) 35 j0 (.slice none 0 0) 1 24 Try.underlying25 J0.out.1 J0.out.2.1 J0.out.2.2.1 J0.out.2.2.2 rfl (by decide) _ _ _ rfl (ho1.alloc _) ⟨wr.heap.size, 0, none⟩ 1 1 [.slice A j cc] rfl rfl ?d1 ?d2 ?d3 ?d4 ?d5 ?_)
            case d1 => exact one_new _ _ _ _ (by simp)
            case d2 => intro u hu; simp at hu; subst hu; rfl
            case d3 => unfold maxLen; omega
            case d4 => omega
            case d5 => simp; omega
            intro v' w1 hown' hg' _
            have hrow : ∀ g, u5.ownBlock = some g → w.heap.size + 1 ≤ g := fun g hg => (ho1.lt g hg).1
            have hnm := own_ne_blk ho1 HH.out (by decide)
            have hpc : cellsOf w1 w.heap.size = av p := by
              rw [grown_cells hg' (by simp; omega) (fun e => by have := hrow _ e.symm; omega), cellsOf_past (by omega)]; exact HCP.out
            have hmc : w1.heap[w.heap.size + 1 + 1]? = some (.cells (bv (cycs.met p (k + 1))) 99 (0, 0)) := by
              rw [hg'.block _ (by simp; omega) (fun e => by rcases hnm with c | c; rw [c] at e; cases e; exact c e.symm), heap_past _ _ _ (by omega), HJm.out]; exact HH.out
            have hbw : Below w.heap.size w w1 := (hbr.alloc hbr.size _).grown hg' (by have := hbr.size; simp; omega) (fun g hg => by have := hrow g hg; omega)
            have hOO : Own2 (w.heap.size + 1) w1 v' (cycs p (k + 1)) := by
              rw [HJc.out, if_neg hj0]
              have hown1' : Own1 wo.heap.size wr (.slice A j cc) (orbTo p k j) := by have := hown1; rwa [HL.out] at this
              exact Own2.add HVL.out (ho1.alloc _) (fun i u l h1 h2 => World.ownsRow.alloc (HI.out i u l h1 h2) _) HD.out (World.ownsRow.alloc hown1' _) (by omega) HCC.out hown' hg'
            have H1 := hide hpc; clear hpc
            have H2 := hide hmc; clear hmc
            have H3 := hide hOO; clear hOO
            clear hown' hg' ho1 hrow c0 hnm
            go_wp2
            go_roundw
            case rel => exact ⟨k + 1, by omega, by go_num, hbw, H1.out, H2.out, H3.out⟩
            case measure => simp [intOf]; omega
    · obtain rfl : k = m := by omega
      clear hlt hk hcp hhm
      go_wp2
      go_ret
      exact ⟨_, rfl, hb, hown.mono (by omega)⟩
end Go.Proofs.Ytgomfphdgekniaa
