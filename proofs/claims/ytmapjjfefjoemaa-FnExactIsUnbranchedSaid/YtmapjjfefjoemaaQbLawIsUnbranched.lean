/- Texts put together: IsPerm, CycL, Arg, QTail, Reg, Arg2, Pl1, SPerm, Des, Cell, Poc, SPoc -/
import Derived.Test.YtmapjjfefjoemaaQaLawIsUnbranched
import Derived.Test.YtmapjjfefjoemaaChecked
import Derived.WalkKit
import Derived.WalkSpells
import Derived.WalkLawsBesides
import Derived.Deep.LoopGhost
import Derived.Deep.OwnRows
import Derived.Laws.Rows
import Derived.Laws.Tables
import Derived.Laws.CopyOwn
import Derived.ProofKit
import Derived.OpenShut
import Derived.ShutString
import Derived.ChangeOld
import Derived.Below
import Derived.Laws.OwnMore
import Derived.BigQuiet
import Derived.Deep.QuietTactic
import Derived.OwnWalk
import Derived.ChangeSlices
import Derived.RegionTactic
import Derived.Deep.Quiet
import Derived.StillTail
import Derived.Deep.Slices
import Derived.WideShapes
import Derived.Laws.CopyRow
import Derived.Deep.MidRow
namespace Go.Proofs.Ytmapjjfefjoemaa
open Go.RowKit

/-- a permutation of n numbers, as the document has it -/
def PermN (f : Nat → Nat) (n : Nat) : Prop := 1 ≤ n ∧ n ≤ 16 ∧ Bij f n ∧ ∀ i, n ≤ i → i < 16 → f i = 0
open Classical in
@[irreducible] noncomputable def permB (f : Nat → Nat) (n : Int) : Bool := decide (0 ≤ n ∧ PermN f n.toNat)
theorem permB_yes {f : Nat → Nat} {m : Nat} (h : PermN f m) : permB f (m : Int) = true := by unfold permB; simpa using h
theorem permB_no {f : Nat → Nat} {m : Nat} (h : ¬ PermN f m) : permB f (m : Int) = false := by unfold permB; simpa using h
theorem permB_out {f : Nat → Nat} {n : Int} (h : ¬ (1 ≤ n ∧ n ≤ 16)) : permB f n = false := by
  unfold permB; simp only [decide_eq_false_iff_not]
  rintro ⟨h0, h1, h2, _⟩
  omega
theorem permB_true {f : Nat → Nat} {n : Int} (h : permB f n = true) : ∃ m : Nat, n = (m : Int) ∧ PermN f m := by
  unfold permB at h; simp only [decide_eq_true_eq] at h
  exact ⟨n.toNat, by omega, h.2⟩

/-- what the first k entries have met -/
@[irreducible] def metk (f : Nat → Nat) (k : Nat) : Nat → Bool := fun y => (List.range k).any fun i => f i == y
theorem metk_iff (f : Nat → Nat) (k y : Nat) : metk f k y = true ↔ ∃ i, i < k ∧ f i = y := by unfold metk; simp
theorem metk_zero (f : Nat → Nat) : metk f 0 = fun _ => false := by unfold metk; rfl
theorem metk_step (f : Nat → Nat) (k : Nat) : mset (metk f k) (f k) = metk f (k + 1) := by
  funext y
  rw [Bool.eq_iff_iff]
  simp only [mset, Bool.or_eq_true, beq_iff_eq, metk_iff]
  constructor
  · rintro (rfl | ⟨i, hi, rfl⟩)
    · exact ⟨k, by omega, rfl⟩
    · exact ⟨i, by omega, rfl⟩
  · rintro ⟨i, hi, rfl⟩
    by_cases c : i = k
    · subst c; exact .inl rfl
    · exact .inr ⟨i, by omega, rfl⟩


theorem dart_yes (n : Int) (w : World) (h1 : 1 ≤ n) (h2 : n ≤ 16) : Calls Try.prog 88 #[.int .i64 n] w fun e w' => e = .returned (.bool true) ∧ w = w' := by
  go_enter Try.func88, Try.ntmps88
  go_wp2
  go_ret
  exact ⟨by simp, rfl⟩
theorem dart_no (n : Int) (w : World) (h : ¬ (1 ≤ n ∧ n ≤ 16)) : Calls Try.prog 88 #[.int .i64 n] w fun e w' => e = .returned (.bool false) ∧ w = w' := by
  by_cases h1 : 1 ≤ n
  · have h2 : ¬ n ≤ 16 := fun c => h ⟨h1, c⟩
    clear h
    go_enter Try.func88, Try.ntmps88
    go_wp2
    go_ret
    exact ⟨by simp, rfl⟩
  · clear h
    go_enter Try.func88, Try.ntmps88
    go_wp2
    go_ret
    exact ⟨by simp, rfl⟩

set_option maxRecDepth 100000 in
set_option maxHeartbeats 400000 in
theorem isPerm_any (f : Nat → Nat) (hf : ∀ i, f i < 256) (n : Int) (w : World) : Calls Try.prog 86 #[.agg (av f), .int .i64 n] w fun e w' => e = .returned (.bool (permB f n)) ∧ Below w.heap.size w w' := by
  by_cases hn : 1 ≤ n ∧ n ≤ 16
  · obtain ⟨m, rfl⟩ := Int.eq_ofNat_of_zero_le (show 0 ≤ n by omega)
    have hm1 : 1 ≤ m := by omega
    have hm2 : m ≤ 16 := by omega
    clear hn
    have hsl := slice_hi w.heap.size m hm2
    obtain ⟨o, ho, hsr⟩ := slice_lo w.heap.size m hm2
    have HO := hide ho; clear ho
    go_enter Try.func86, Try.ntmps86
    go_wp2_with (go_at_call 88; refine (dart_yes _ _ (by omega) (by omega)).mono ?_; rintro e w' ⟨rfl, rfl⟩)
    clear hsl
    rw [← bv_false]
    go_loopw [16] (fun i wr => ∃ k : Nat, k ≤ m ∧ i = .int .i64 k ∧ wr = (w.alloc (.cells (av f) 29)).alloc (.cells (bv (metk f k)) 85) ∧ (∀ i, i < k → f i < m) ∧ (∀ i j, i < j → j < k → f i ≠ f j))
      (fun i _ => m - (intOf i).toNat)
    case atStart => exact ⟨0, by omega, rfl, by rw [metk_zero], by omega, by omega⟩
    case round =>
      obtain ⟨k, hk, rfl, rfl, hb, hd⟩ := hrel
      have HB := hide hb; clear hb
      have HD := hide hd; clear hd
      by_cases hlt : k < m
      · have h1 := av_get f (i := k) (by omega)
        have h256 := hf k
        have HF := hide hf; clear hf
        by_cases hfm : f k < m
        · have h2 := bv_get (metk f k) (i := f k) (by omega)
          rcases hmk : metk f k (f k) with _ | _
          · rw [hmk] at h2
            have h3 := bv_set (metk f k) (f k)
            rw [metk_step] at h3
            have HM := hide hmk; clear hmk
            go_wp2
            go_roundw
            case rel =>
              refine ⟨k + 1, by omega, by go_num, rfl, fun i hi => ?_, fun i j hij hj e => ?_⟩
              · by_cases c : i = k
                · subst c; exact hfm
                · exact HB.out i (by omega)
              · by_cases c : j = k
                · subst c
                  have : metk f j (f j) = true := (metk_iff f j (f j)).2 ⟨i, hij, e⟩
                  rw [HM.out] at this; cases this
                · exact HD.out i j hij (by omega) e
            case measure => simp [intOf]; omega
          · rw [hmk] at h2
            have HM := hide hmk; clear hmk
            have hno : ¬ PermN f m := by
              rintro ⟨_, _, hbj, _⟩
              obtain ⟨i, hi, e⟩ := (metk_iff f k (f k)).1 HM.out
              have := hbj.2 i k (by omega) (by omega) e
              omega
            have HN := hide (permB_no hno); clear hno
            go_wp2
            go_ret
            exact ⟨by rw [HN.out]; rfl, ((Below.refl _ _).alloc (Nat.le_refl _) _).alloc (by simp) _⟩
        · have hno : ¬ PermN f m := by
            rintro ⟨_, _, hbj, _⟩
            exact hfm (hbj.1 k (by omega))
          have hd : decide (m ≤ f k) = true := by simp; omega
          have HN := hide (permB_no hno); clear hno
          go_wp2
          go_ret
          exact ⟨by rw [HN.out]; rfl, ((Below.refl _ _).alloc (Nat.le_refl _) _).alloc (by simp) _⟩
      · obtain rfl : k = m := by omega
        clear hlt hk
        go_wp2
        clear hsr
        go_loopw [35] (fun i wr => ∃ j : Nat, j ≤ 16 - k ∧ i = .int .i64 j ∧ wr = (w.alloc (.cells (av f) 29)).alloc (.cells (bv (metk f k)) 85) ∧ (∀ i, i < j → f (k + i) = 0))
          (fun i _ => 16 - k - (intOf i).toNat)
        case atStart => exact ⟨0, by omega, rfl, rfl, by omega⟩
        case round =>
          obtain ⟨j, hj, rfl, rfl, hz⟩ := hrel
          have HZ := hide hz; clear hz
          by_cases hlt : j < 16 - k
          · have hk16 : ¬ k = 16 := by omega
            obtain rfl : k = o := (HO.out (by omega)).symm
            have h1 := av_get f (i := k + j) (by omega)
            have h256 := hf (k + j)
            clear hf
            have hw : ((16 - k : Nat) : Int) = 16 - (k : Int) := by omega
            by_cases hf0 : f (k + j) = 0
            · have h0 : ((f (k + j) : Int) != 0) = false := by simp [hf0]
              have H0 := hide hf0; clear hf0
              go_wp2
              go_roundw
              case rel =>
                refine ⟨j + 1, by omega, by go_num, by first | rfl | trivial, fun i hi => ?_⟩
                by_cases c : i = j
                · subst c; exact H0.out
                · exact HZ.out i (by omega)
              case measure => simp [intOf]; omega
            · have h0 : ((f (k + j) : Int) != 0) = true := by simp [hf0]
              have hno : ¬ PermN f k := by
                rintro ⟨_, _, _, hz0⟩
                exact hf0 (hz0 (k + j) (by omega) (by omega))
              have HN := hide (permB_no hno); clear hno hf0
              go_wp2
              go_ret
              exact ⟨by rw [HN.out]; rfl, ((Below.refl _ _).alloc (Nat.le_refl _) _).alloc (by simp) _⟩
          · obtain rfl : j = 16 - k := by omega
            have hyes : PermN f k := by
              refine ⟨hm1, hm2, ⟨HB.out, fun x y hx hy e => ?_⟩, fun i h1 h2 => ?_⟩
              · rcases Nat.lt_trichotomy x y with c | c | c
                · exact absurd e (HD.out x y c hy)
                · exact c
                · exact absurd e.symm (HD.out y x c hx)
              · have := HZ.out (i - k) (by omega)
                rwa [show k + (i - k) = i from by omega] at this
            have HN := hide (permB_yes hyes); clear hyes
            go_wp2
            go_ret
            exact ⟨by rw [HN.out]; rfl, ((Below.refl _ _).alloc (Nat.le_refl _) _).alloc (by simp) _⟩
  · rw [permB_out hn]
    go_enter Try.func86, Try.ntmps86
    go_wp2_with (go_at_call 88; refine (dart_no _ _ hn).mono ?_; rintro e w' ⟨rfl, rfl⟩)
    go_ret
    exact ⟨rfl, (Below.refl _ _).alloc (Nat.le_refl _) _⟩

end Go.Proofs.Ytmapjjfefjoemaa

namespace Go.Proofs.Ytmapjjfefjoemaa
open Go.RowKit

theorem info64 : (Try.prog.info? 2).map (fun i => (i.zero, i.size, i.bytes)) = some (some (.int .i64 0), 1, 8) := by kernel_rfl
theorem infoSl : (Try.prog.info? 25).map (fun i => (i.zero, i.size, i.bytes)) = some (some (.slice none 0 0), 1, 24) := by kernel_rfl

set_option maxRecDepth 100000 in
set_option maxHeartbeats 1000000 in
theorem cycleList_any (p : Nat → Nat) (m : Nat) (hp : PermN p m) (w : World) :
    Calls Try.prog 69 #[.agg (av p), .int .i64 m] w fun e w' => ∃ v, e = .returned v ∧ Below w.heap.size w w' ∧ Own2 w.heap.size w' v (cycs p m) := by
  obtain ⟨hm1, hm2, hbij, _⟩ := hp
  have HB := hide hbij; clear hbij
  obtain ⟨i0, hi, hz0, hz1, hz2⟩ := info_parts info64
  obtain ⟨j0, hj, hy0, hy1, hy2⟩ := info_parts infoSl
  have I0 := hide (And.intro hi (And.intro hz0 (And.intro hz1 hz2))); clear hi hz0 hz1 hz2
  have J0 := hide (And.intro hj (And.intro hy0 (And.intro hy1 hy2))); clear hj hy0 hy1 hy2
  go_enter Try.func69, Try.ntmps69
  go_wp2
  rw [← bv_false]
  go_loopw [5, 11] (fun out i wr => ∃ k : Nat, k ≤ m ∧ i = .int .i64 k ∧ Below w.heap.size w wr ∧ cellsOf wr w.heap.size = av p ∧ cellsOf wr (w.heap.size + 1) = bv (cycs.met p k) ∧ rowOk wr (w.heap.size + 1) 16 ∧ Own2 (w.heap.size + 2) wr out (cycs p k))
    (fun _ i _ => m - (intOf i).toNat)
  case atStart => exact ⟨0, by omega, rfl, below2 _ _ _, cellsOf_heap (heap1 rfl), cellsOf_heap (heap_at _ _ _ (by simp)), ⟨_, _, heap_at _ _ _ (by simp), bv_size _⟩, Own2.nil _ _⟩
  case round =>
    obtain ⟨k, hk, rfl, hb, hcp, hcm, hrm, hown⟩ := hrel
    by_cases hlt : k < m
    · have hlt16 : k < 16 := by omega
      have l1 := hrm.lt
      have HC := hide hcp; clear hcp
      have HM := hide hcm; clear hcm
      rcases hmk : cycs.met p k k with _ | _
      · have c0 : wr.cell? ⟨w.heap.size + 1, k, none⟩ = some (.bool false) := by rw [cell_of_cells, HM.out, bv_get _ hlt16, hmk]
        have HK := hide hmk; clear hmk
        go_wp2
        clear c0
        obtain ⟨wo, rfl⟩ : ∃ wo : World, wo = wr := ⟨_, rfl⟩
        go_loopg [8, 9] (per p k) (fun gd own x wr => ∃ j : Nat, j ≤ per p k ∧ gd = per p k - j ∧ x = .int .i64 (it p j k) ∧ it p j k < m ∧ Own1 wo.heap.size wr own (orbTo p k j) ∧
            cellsOf wr w.heap.size = av p ∧ cellsOf wr (w.heap.size + 1) = bv (Mj p (cycs.met p k) k j) ∧ rowOk wr (w.heap.size + 1) 16 ∧ wo.grownBy wr (some (w.heap.size + 1)))
        case atStart => exact ⟨0, by omega, by omega, rfl, hlt, Own1.nil _ _, HC.out, by rw [Mj_zero]; exact HM.out, hrm, grown_refl _ _⟩
        case round =>
          obtain ⟨j, hj, rfl, rfl, hx, hown1, hcp1, hcm1, hrm1, hg1⟩ := hrel
          have HCP := hide hcp1; clear hcp1
          have HCM := hide hcm1; clear hcm1
          have l2 := hrm1.lt
          by_cases hjp : j < per p k
          · have c0 : wr.cell? ⟨w.heap.size + 1, it p j k, none⟩ = some (.bool false) := by rw [cell_of_cells, HCM.out, bv_get _ (by omega), Mj_false HB.out hm2 hlt HK.out hjp]
            have f0 : wr.frozen? ⟨w.heap.size + 1, it p j k, none⟩ = false := hrm1.frozen
            generalize hX : it p j k = X at *
            have HX := hide hX; clear hX
            have hownA : (wr.setCell ⟨w.heap.size + 1, X, none⟩ (.bool true)).ownsRow wo.heap.size 2 1 u8 (orbTo p k j).length (nums (orbTo p k j)) := ownsRow_setCell_below hown1 (by show w.heap.size + 1 < wo.heap.size; omega) _
            have hszs : wo.heap.size ≤ wr.heap.size := hg1.size
            have hj16 : j ≤ 16 := by have := (per_spec HB.out hlt).2.1; omega
            have hlen : (orbTo p k j).length = j := orbTo_length p k j
            have HL := hide hlen; clear hlen
            have hpX := HCP.out
            have hX16 : X < 16 := by omega
            go_wp2_with (at_builtin; refine wpList_append_own _ rfl _ _ 25 rfl wo.heap.size 2 i0 (.int .i64 0) 1 8 Try.underlying25 I0.out.1 I0.out.2.1 I0.out.2.2.1 I0.out.2.2.2 rfl (by decide) _ _ _ rfl (hownA.alloc _) ⟨wr.heap.size, 0, none⟩ 1 1 [.int .i64 X] rfl rfl ?c1 ?c2 ?c3 ?c4 ?c5 ?_)
            case c1 => exact one_new _ _ _ _ (by simp)
            case c2 => intro u hu; simp at hu; subst hu; rfl
            case c3 => rw [HL.out]; unfold maxLen; omega
            case c4 => rw [HL.out]; omega
            case c5 => simp; omega
            intro v' w1 hown' hg' _
            have hrow : ∀ g, u8.ownBlock = some g → wo.heap.size ≤ g := fun g hg => (hownA.lt g hg).1
            have G0 := grown_alloc (grown_setCell (i := X) (v := .bool true) hg1) (.cells #[.int .i64 X] 2)
            have G1 := grown_step G0 hg' (fun g hg => .inl (hrow g hg))
            have hpc : cellsOf w1 w.heap.size = av p := by
              rw [grown_cells hg' (by simp; omega) (fun e => by have := hrow _ e.symm; omega), cellsOf_past (by simp; omega), cellsOf_setCell_ne (by omega)]; exact HCP.out
            have hmc : cellsOf w1 (w.heap.size + 1) = bv (Mj p (cycs.met p k) k (j + 1)) := by
              rw [grown_cells hg' (by simp; omega) (fun e => by have := hrow _ e.symm; omega), cellsOf_past (by simp; omega), cellsOf_setCell, HCM.out, bv_set, ← HX.out, Mj_step]
            have hmr : rowOk w1 (w.heap.size + 1) 16 := (grown_row hg' (by simp; omega) (fun e => by have := hrow _ e.symm; omega)).2 ((rowOk_past (by simp; omega)).2 (rowOk_setCell hrm1))
            have hpx : p X < m := HB.out.1 X hx
            have c2 : w1.cell? ⟨w.heap.size, X, none⟩ = some (.int .u8 (p X)) := by rw [cell_of_cells, hpc, av_get p hX16]
            have hO : Own1 wo.heap.size w1 v' (orbTo p k (j + 1)) := by
              rw [orbTo_step, HX.out]
              unfold Own1 nums at *
              simpa using hown'
            have hit : it p (j + 1) k = p X := by rw [← HX.out]; rfl
            have H1 := hide hpc; clear hpc
            have H2 := hide hmc; clear hmc
            have HIT := hide hit; clear hit
            clear hown' hg' G0 hownA hrow c0 f0 hpX
            go_wp2
            go_roundg (per p k - (j + 1))
            case measure => omega
            case rel => exact ⟨j + 1, by omega, rfl, by rw [HIT.out], by rw [HIT.out]; exact hpx, hO, H1.out, H2.out, hmr, G1⟩
          · obtain rfl : j = per p k := by omega
            have hX16 : it p (per p k) k < 16 := by omega
            have c0 : wr.cell? ⟨w.heap.size + 1, it p (per p k) k, none⟩ = some (.bool true) := by rw [cell_of_cells, HCM.out, bv_get _ hX16, Mj_true HB.out hlt]
            obtain ⟨A, cc, rfl⟩ := own_slice hown1
            have hszs : wo.heap.size ≤ wr.heap.size := hg1.size
            obtain ⟨vs, hvl, ho0, hi0, hd0⟩ := hown
            have hC : ∀ (i : Nat) (x : Value), vs[i]? = some x → ∀ g, x.ownBlock = some g → g < wo.heap.size := by
              intro i x hx1 g hg
              have : i < (cycs p k).length := by rw [← hvl]; exact (List.getElem?_eq_some_iff.1 hx1).1
              exact (World.ownsRow.lt (hi0 i x _ hx1 (List.getElem?_eq_getElem this)) g hg).2
            have hk2 : Own2 (w.heap.size + 2) wr u5 (cycs p k) := Own2.kept ⟨vs, hvl, ho0, hi0, hd0⟩ hg1 (fun g hg => by simp at hg; omega)
            have far : ∀ {e : TypeId} {s n : Nat} {u : Value} {xs : List Value}, wo.ownsRow (w.heap.size + 2) e s u n xs → u.ownBlock = none ∨ u.ownBlock ≠ some (w.heap.size + 1) := by
              intro e s n u xs hu
              rcases hb : u.ownBlock with _ | g
              · exact .inl rfl
              · refine .inr fun e => ?_
                have := hu.lt g hb
                simp at e; omega
            have ho1 := ho0.kept hg1 (far ho0)
            have hi1 : ∀ (i : Nat) (u : Value) (l : List Nat), vs[i]? = some u → (cycs p k)[i]? = some l → Own1 (w.heap.size + 2) wr u l := fun i u l h1 h2 => (hi0 i u l h1 h2).kept hg1 (far (hi0 i u l h1 h2))
            have hvs16 : vs.length ≤ 16 := by rw [hvl]; exact cycs_len_le HB.out hm2 (by omega)
            have HVL := hide hvl; clear hvl
            have HI := hide hi1; clear hi1 hi0
            have HD := hide hd0; clear hd0
            have HCC := hide hC; clear hC
            have HO := hide hk2; clear hk2
            clear ho0
            have hll : (orbTo p k (per p k)).length ≤ 16 := by rw [orbTo_length]; have := (per_spec HB.out hlt).2.1; omega
            generalize hL : (orbTo p k (per p k)).length = L at *
            have HL := hide hL; clear hL
            clear far
            go_wp2_with (at_builtin; refine wpList_append_own _ rfl _ _ 26 rfl (w.heap.size + 2) 25 j0 (.slice none 0 0) 1 24 Try.underlying26 J0.out.1 J0.out.2.1 J0.out.2.2.1 J0.out.2.2.2 rfl (by decide) _ _ _ rfl (ho1.alloc _) ⟨wr.heap.size, 0, none⟩ 1 1 [.slice A L cc] rfl rfl ?d1 ?d2 ?d3 ?d4 ?d5 ?_)
            case d1 => exact one_new _ _ _ _ (by simp)
            case d2 => intro u hu; simp at hu; subst hu; rfl
            case d3 => unfold maxLen; omega
            case d4 => omega
            case d5 => simp; omega
            intro v' w1 hown' hg' _
            have hrow : ∀ g, u5.ownBlock = some g → w.heap.size + 2 ≤ g := fun g hg => (ho1.lt g hg).1
            have hpc : cellsOf w1 w.heap.size = av p := by
              rw [grown_cells hg' (by simp; omega) (fun e => by have := hrow _ e.symm; omega), cellsOf_past (by omega)]; exact HCP.out
            have hmc : cellsOf w1 (w.heap.size + 1) = bv (cycs.met p (k + 1)) := by
              rw [grown_cells hg' (by simp; omega) (fun e => by have := hrow _ e.symm; omega), cellsOf_past (by omega), HCM.out, (cycs_new HB.out hm2 hlt HK.out).2]
            have hmr : rowOk w1 (w.heap.size + 1) 16 := (grown_row hg' (by simp; omega) (fun e => by have := hrow _ e.symm; omega)).2 ((rowOk_past (by omega)).2 hrm1)
            have hbw : Below w.heap.size w w1 := ((hb.grown hg1 hb.size (fun g hg => by simp at hg; omega)).alloc (by have := hb.size; omega) _).grown hg' (by have := hb.size; simp; omega) (fun g hg => by have := hrow g hg; omega)
            have hOO : Own2 (w.heap.size + 2) w1 v' (cycs p (k + 1)) := by
              rw [(cycs_new HB.out hm2 hlt HK.out).1, ← orbTo_per]
              exact Own2.add HVL.out (ho1.alloc _) (fun i u l h1 h2 => World.ownsRow.alloc (HI.out i u l h1 h2) _) HD.out (World.ownsRow.alloc hown1 _) (by omega) HCC.out hown' hg'
            have H1 := hide hpc; clear hpc
            have H2 := hide hmc; clear hmc
            have H3 := hide hOO; clear hOO
            clear hown' hg' ho1 hrow c0
            go_wp2
            go_roundw
            case rel => exact ⟨k + 1, by omega, by go_num, hbw, H1.out, H2.out, hmr, H3.out⟩
            case measure => simp [intOf]; omega
      · have c0 : wr.cell? ⟨w.heap.size + 1, k, none⟩ = some (.bool true) := by rw [cell_of_cells, HM.out, bv_get _ hlt16, hmk]
        have HK := hide hmk; clear hmk
        go_wp2
        go_roundw
        case rel => exact ⟨k + 1, by omega, by go_num, hb, HC.out, by rw [HM.out, (cycs_old HK.out).2], hrm, by rw [(cycs_old HK.out).1]; exact hown⟩
        case measure => simp [intOf]; omega
    · obtain rfl : k = m := by omega
      clear hlt hk hcp hcm
      go_wp2
      go_ret
      exact ⟨_, rfl, hb, by obtain ⟨vs, a, b, c, d⟩ := hown; exact ⟨vs, a, ⟨b.1, b.2.imp id (fun ⟨g, cap, cur, h1, h2, h3⟩ => ⟨g, cap, cur, h1, by omega, h3⟩)⟩, fun i u l h1 h2 => (c i u l h1 h2).mono (by omega), d⟩⟩
end Go.Proofs.Ytmapjjfefjoemaa

namespace Go.Proofs.Ytmapjjfefjoemaa
open Go.RowKit

def zc (l : List Int) : List Value := l.map fun x => Value.int .i64 x
theorem zc_length (l : List Int) : (zc l).length = l.length := by simp [zc]
theorem zc_get (l : List Int) (i : Nat) : (zc l)[i]? = l[i]?.map (Value.int .i64) := by simp [zc]
/-- a list of numbers in a row of the call's own -/
def OwnZ (B : Nat) (w : World) (v : Value) (l : List Int) : Prop := w.ownsRow B 2 1 v l.length (zc l)
/-- a slice whose cells read as the list -/
def RdZ (w : World) (v : Value) (l : List Int) : Prop :=
  ∃ (A : Option Addr) (c : Nat), v = .slice A l.length c ∧ l.length ≤ 9223372036854775807 ∧ ∀ (i : Nat) (x : Int), l[i]? = some x → ∃ a, A = some a ∧ a.block < w.heap.size ∧ w.cell? (a.add i) = some (.int .i64 x)
theorem RdZ.form {w : World} {v : Value} {l : List Int} (h : RdZ w v l) : ∃ A c, v = .slice A l.length c ∧ l.length ≤ 9223372036854775807 := by
  obtain ⟨A, c, h1, h2, _⟩ := h; exact ⟨A, c, h1, h2⟩
theorem RdZ.at {w : World} {A : Option Addr} {n c k : Nat} {l : List Int} (h : RdZ w (.slice A n c) l) (hk : k < l.length) :
    ∃ a, A = some a ∧ a.block < w.heap.size ∧ w.cell? (a.add k) = some (.int .i64 l[k]) := by
  obtain ⟨A', c', e, _, h3⟩ := h
  injection e with e1 _ _
  subst e1
  exact h3 k _ (List.getElem?_eq_getElem hk)
theorem RdZ.below {C : Nat} {w w' : World} {v : Value} {l : List Int} (h : RdZ w v l) (hb : Below C w w') (hC : w.heap.size ≤ C) : RdZ w' v l := by
  obtain ⟨A, c, h1, h2, h3⟩ := h
  refine ⟨A, c, h1, h2, fun i x hx => ?_⟩
  obtain ⟨a, e, h4, h5⟩ := h3 i x hx
  refine ⟨a, e, Nat.lt_of_lt_of_le h4 hb.size, ?_⟩
  rw [← h5]
  have hq : (a.add i).block = a.block := by unfold Addr.add; split <;> rfl
  exact hb.cell (p := a.add i) (by omega)
theorem OwnZ.rd {B : Nat} {w : World} {v : Value} {l : List Int} (h : OwnZ B w v l) (hl : l.length ≤ 9223372036854775807) : RdZ w v l := by
  rcases h.2 with ⟨e, h0⟩ | ⟨g, cap, cur, e, hB, hh, h1, h2, h3, h4⟩
  · exact ⟨none, 0, by rw [e, h0], hl, fun i x hx => by have := (List.getElem?_eq_some_iff.1 hx).1; omega⟩
  · refine ⟨_, _, e, hl, fun i x hx => ⟨_, rfl, (Array.getElem?_eq_some_iff.1 hh).1, ?_⟩⟩
    have hadd : (⟨g, 0, none⟩ : Addr).add i = ⟨g, i, none⟩ := by unfold Addr.add; split <;> simp_all
    rw [hadd, cell_of_cells, cellsOf_heap hh]
    have hi := (List.getElem?_eq_some_iff.1 hx).1
    have e2 : (cur.toList.take (l.length * 1))[i]? = (zc l)[i]? := by rw [h4]
    rw [List.getElem?_take_of_lt (by omega), Array.getElem?_toList, zc_get, hx] at e2
    exact e2
theorem OwnZ.kept {B : Nat} {w w' : World} {v : Value} {l : List Int} {r : Option Nat} (h : OwnZ B w v l) (hg : w.grownBy w' r) (hne : v.ownBlock = none ∨ v.ownBlock ≠ r) : OwnZ B w' v l := World.ownsRow.kept h hg hne
theorem OwnZ.below {B C : Nat} {w w' : World} {v : Value} {l : List Int} (h : OwnZ B w v l) (hb : Below C w w') (hC : w.heap.size ≤ C) : OwnZ B w' v l := h.kept (grown_of_below (hb.mono hC) none) (Classical.em _)

-- left out here: loop.example/g01200/laws.szInt64S
set_option maxRecDepth 100000 in
set_option maxHeartbeats 400000 in
theorem eqInt64S_rd (l : List Int) (v v' : Value) (w : World) (h : RdZ w v l) (h' : RdZ w v' l) :
    Calls Try.prog 20 #[v, v'] w fun e w' => e = .returned (.bool true) ∧ Below w.heap.size w w' := by
  obtain ⟨A, c, rfl, hl⟩ := h.form
  obtain ⟨A', c', rfl, _⟩ := h'.form
  have H := hide h; clear h
  have H' := hide h'; clear h'
  have hne : ((l.length : Int) != (l.length : Int)) = false := by simp
  go_enter Try.func20, Try.ntmps20
  go_wp2
  go_loopw [5] (fun i wr => ∃ k : Nat, k ≤ l.length ∧ i = .int .i64 k ∧ Below w.heap.size w wr) (fun i _ => l.length - (intOf i).toNat)
  case atStart => exact ⟨0, by omega, rfl, Below.refl _ _⟩
  case round =>
    obtain ⟨k, hk, rfl, hb⟩ := hrel
    by_cases hlt : k < l.length
    · obtain ⟨a, rfl, _, c1⟩ := (H.out.below hb (Nat.le_refl _)).at hlt
      obtain ⟨a', rfl, _, c2⟩ := (H'.out.below hb (Nat.le_refl _)).at hlt
      generalize l[k] = x at *
      have hx : (x != x) = false := by simp
      go_wp2
      go_region
      all_goals go_wp2
      all_goals go_roundw
      case rel => exact ⟨k + 1, by omega, by go_num, hb.drew⟩
      case measure => simp [intOf]; omega
    · obtain rfl : k = l.length := by omega
      clear hlt hk
      go_wp2
      go_ret
      exact ⟨rfl, hb⟩

/-- the first k numbers, zeros behind them -/
def upZ (l : List Int) (k : Nat) : List Int := l.take k ++ List.replicate (l.length - k) 0
theorem upZ_length (l : List Int) {k : Nat} (h : k ≤ l.length) : (upZ l k).length = l.length := by unfold upZ; simp; omega
theorem upZ_set (l : List Int) {k : Nat} (h : k < l.length) : (upZ l k).set k l[k] = upZ l (k + 1) := by
  unfold upZ
  rw [List.set_append_right _ _ (by simp; omega), List.take_succ_eq_append_getElem h]
  have e : k - (l.take k).length = 0 := by simp; omega
  rw [e, show l.length - k = (l.length - (k + 1)) + 1 from by omega, List.replicate_succ, List.set_cons_zero, List.append_assoc]
  rfl

set_option maxRecDepth 100000 in
set_option maxHeartbeats 400000 in
theorem toInt64S_any (l : List Int) (v : Value) (w : World) (h : RdZ w v l) (hl : l.length ≤ 1048576) :
    Calls Try.prog 17 #[v] w fun e w' => ∃ u, e = .returned u ∧ Below w.heap.size w w' ∧ OwnZ w.heap.size w' u l := by
  obtain ⟨A, c, rfl, _⟩ := h.form
  obtain ⟨i0, hi, hz0, hz1, hz2⟩ := info_parts info64
  have I0 := hide (And.intro hi (And.intro hz0 (And.intro hz1 hz2))); clear hi hz0 hz1 hz2
  have H := hide h; clear h
  have hb8 := I0.out.2.2.2
  have hbb : i0.bytes * l.length ≤ 281474976710656 := by rw [hb8]; omega
  clear hb8
  go_enter Try.func17, Try.ntmps17
  go_wp2_with (refine wpList_make_full _ rfl _ _ 25 rfl w.heap.size 2 i0 (.int .i64 0) 1 Try.underlying25 I0.out.1 I0.out.2.1 I0.out.2.2.1 .i64 .i64 _ _ l.length rfl rfl rfl rfl hbb (by unfold maxLen; omega) (Nat.le_refl _) ?_)
  intro w1 ho hg
  have b1 : Below w.heap.size w w1 := (Below.refl _ _).grown hg (Nat.le_refl _) (fun k hk => by cases hk)
  have hz : (madeCells #[Value.int .i64 0] l.length).toList = zc (upZ l 0) := by rw [toList_madeCells_one]; unfold upZ zc; simp
  rw [hz] at ho
  clear hz hg hbb
  have HO := hide ho; clear ho
  go_wp2
  go_loopw [4] (fun i wr => ∃ k : Nat, k ≤ l.length ∧ i = .int .i64 k ∧ Below w.heap.size w wr ∧ wr.ownsRow w.heap.size 2 1 (.slice (some ⟨w.heap.size, 0, none⟩) l.length l.length) l.length (zc (upZ l k))) (fun i _ => l.length - (intOf i).toNat)
  case atStart => exact ⟨0, by omega, rfl, b1, HO.out⟩
  case round =>
    clear HO b1
    obtain ⟨k, hk, rfl, hbw, ho⟩ := hrel
    by_cases hlt : k < l.length
    · obtain ⟨a, rfl, ha, c1⟩ := (H.out.below hbw (Nat.le_refl _)).at hlt
      have f0 := World.ownsRow.frozenAt ho k
      have c0 : wr.cell? ⟨w.heap.size, k, none⟩ = some (.int .i64 ((upZ l k).getD k 0)) := by
        have := World.ownsRow.cellAt ho k (by omega)
        rw [this, zc_get, List.getD_eq_getElem?_getD, List.getElem?_eq_getElem (by rw [upZ_length _ hk]; exact hlt)]; rfl
      have hst := World.ownsRow.stored ho k (.int .i64 l[k])
      have hup : (zc (upZ l k)).set k (.int .i64 l[k]) = zc (upZ l (k + 1)) := by rw [← upZ_set l hlt]; unfold zc; rw [List.map_set]
      rw [hup] at hst
      generalize (upZ l k).getD k 0 = y at *
      generalize l[k] = x at *
      have HST := hide hst; clear hst hup ho
      go_wp2
      go_roundw
      case rel => exact ⟨k + 1, by omega, by go_num, hbw.grown HST.out.2 hbw.size (fun g hg => by cases hg; exact Nat.le_refl _), HST.out.1⟩
      case measure => simp [intOf]; omega
    · obtain rfl : k = l.length := by omega
      have hul : upZ l l.length = l := by unfold upZ; simp
      rw [hul] at ho
      have HO := hide ho; clear ho hul hlt hk
      go_wp2
      go_ret
      exact ⟨_, rfl, hbw, HO.out⟩
end Go.Proofs.Ytmapjjfefjoemaa

namespace Go.Proofs.Ytmapjjfefjoemaa
open Go.RowKit

section
variable {P : Program} {ops : Array Oper} {md : Region.Mode} {C : World → Prop}

/-- k operations more, all below n, whichever comes up; then L -/
def headQ (P : Program) (md : Region.Mode) (ops : Array Oper) (C : World → Prop) (n : Nat) (L : Array Bool → Act → Prop) : Nat → Array Bool → Act → Prop
  | 0, done, a => L done a
  | k + 1, done, a => Region.ready md ops done ≠ [] ∧ ∀ i ∈ Region.ready md ops done, i < n ∧ qOp P ops C i (headQ P md ops C n L k (done.setIfInBounds i true)) a

theorem headQ_any {n g : Nat} {L : Array Bool → Act → Prop} {Q : Exit → Act → World → Prop} (hL : ∀ done a w, C w → L done a → wpAny P md ops Q g done a w) (k : Nat) :
    ∀ (done : Array Bool) (a : Act) (w : World), C w → headQ P md ops C n L k done a → wpAny P md ops Q (k + g) done a w := by
  induction k with
  | zero => intro done a w hw h; rw [Nat.zero_add]; exact hL _ _ _ hw h
  | succ k ih =>
    intro done a w hw h
    rw [show k + 1 + g = (k + g) + 1 by omega]
    exact ⟨fun e => absurd e h.1, fun i hi => wpOp_of_qOp hw (fun a' w' hw' h' => ih _ a' w' hw' h') (h.2 i hi).2⟩

/-- an operation of the head may be taken first -/
theorem headQ_first {n i : Nat} {o : Oper} {v : Value} {L : Array Bool → Act → Prop} (hi : ops[i]? = some o) (hsel : ∀ (j : Nat) (o : Oper) cs b, ops[j]? = some o → o.op ≠ .select cs b)
    (hs : Region.sinkB md ops n = true) (hc : Region.chainB md ops n = true) (hn : n < ops.size) (hin : i < n) (hdone : ∀ done a, L done a → ∀ j ∈ Region.ready md ops done, n ≤ j) (k : Nat) :
    ∀ (done : Array Bool) (a : Act), HeadInv md ops n done →
      (∀ j oj, ops[j]? = some oj → j ≠ i → done.getD j true = false → (∀ e ∈ oj.after, Region.binds md e = true → e.on ≠ i) → o.apart ops oj = true) →
      i ∈ Region.ready md ops done → YieldsIn P ops C o v a →
      headQ P md ops C n L k (done.setIfInBounds i true) (a.put o.dst v) → headQ P md ops C n L (k + 1) done a := by
  have low : ∀ (done : Array Bool), HeadInv md ops n done → i ∈ Region.ready md ops done → ∀ j ∈ Region.ready md ops done, j < n := by
    intro done inv hr j hj
    rcases Nat.lt_or_ge j n with h | h
    · exact h
    · exact absurd hj (tail_waits hs hc hn inv _ i rfl hin (mem_ready.1 hr).1 j h)
  have some_ready : ∀ (done : Array Bool), i ∈ Region.ready md ops done → Region.ready md ops done ≠ [] := fun done hr e => by rw [e] at hr; cases hr
  induction k with
  | zero =>
    intro done a inv _ hr hy H
    refine ⟨some_ready done hr, fun j hj => ⟨low done inv hr j hj, ?_⟩⟩
    by_cases e : j = i
    · subst e; exact hy.qOp hi H
    · have := hdone _ _ H j (ready_mono hj e)
      have := low done inv hr j hj
      omega
  | succ k ih =>
    intro done a inv hfree hr hy H
    refine ⟨some_ready done hr, fun j hj => ⟨low done inv hr j hj, ?_⟩⟩
    by_cases e : j = i
    · subst e; exact hy.qOp hi H
    · obtain ⟨hjun, oj, hoj, hall⟩ := mem_ready.1 hj
      have hun := (mem_ready.1 hr).1
      have hno : ∀ e ∈ oj.after, Region.binds md e = true → e.on ≠ i := fun e he hb h => by
        have := hall e he hb
        rw [h, getD_both hun] at this
        cases this
      refine qOp_mono (fun a' h3 => ih (done.setIfInBounds j true) a' (inv.set hj (low done inv hr j hj)) (fun k' ok hk hki hk' hnk => hfree k' ok hk hki ?_ hnk) (ready_mono hr (Ne.symm e)) h3.1 ?_)
        (qOp_put hoj (hfree j oj hoj e hjun hno) (fun cs b => hsel i o cs b hi) (fun cs b => hsel j oj cs b hoj) hy (H.2 j (ready_mono hj e)).2)
      · by_cases e' : j = k'
        · subst e'; exact hjun
        · rw [getD_set_ne true e'] at hk'; exact hk'
      · rw [Array.setIfInBounds_comm _ _ e]; exact h3.2

theorem headQ_lex {n g : Nat} {K : Act → Prop} (hsel : Region.noSelect ops = true) (hs : Region.sinkB md ops n = true) (hc : Region.chainB md ops n = true) (hn : n < ops.size) (l : List Oper) :
    ∀ (k : Nat) (done : Array Bool) (a : Act), (∀ j, j < l.length → l[j]? = ops[k + j]?) → k + l.length = n → HeadInv md ops n done → Region.lexHead md ops g l.length k done = true →
    wpQuiet P ops C K l a → headQ P md ops C n (fun done' a' => Region.seqB md ops g n done' = true ∧ K a') l.length done a := by
  induction l with
  | nil =>
    intro k done a _ hk _ hB h
    obtain rfl : k = n := by simpa using hk
    exact ⟨by simpa [Region.lexHead] using hB, h⟩
  | cons o l ih =>
    intro k done a hl hk inv hB h
    have h0 : ops[k]? = some o := by simpa using (hl 0 (by simp)).symm
    simp only [List.length_cons] at hk
    simp only [List.length_cons, Region.lexHead, Bool.and_eq_true] at hB
    have hr : k ∈ Region.ready md ops done := by simpa using hB.1.1
    obtain ⟨v, hy, hK⟩ := yieldsIn_of_qOp (C := C) (K := wpQuiet P ops C K l) h0 (by unfold qOp; simp only [h0]; exact h)
    exact headQ_first h0 (Region.noSelect_spec hsel) hs hc hn (by omega) (fun done' a' hL => seqB_ready hL.1) l.length done a inv (Region.free_spec h0 hB.1.2) hr hy
      (ih (k + 1) _ _ (fun j hj => by have := hl (j + 1) (by simp; omega); simpa [Nat.add_assoc, Nat.add_comm 1 j] using this) (by omega) (inv.set hr (by omega)) hB.2 hK)

theorem region_tail {id : Nat} {Q : Exit → Act → World → Prop} {a : Act} {w : World} {l : List Oper} (C : World → Prop) (n : Nat) (hm : P.follows .mixedOrders = true) (hB : Region.lexTailB .any l.toArray n = true) (hC : C w.drew)
    (h : wpQuiet P l.toArray C (fun a' => ∀ w', C w' → wpList P l.toArray Q (l.drop n) a' w') (l.take n) a) : (Code.region id l.toArray true).wp P Q a w := by
  simp only [Region.lexTailB, Bool.and_eq_true, decide_eq_true_eq] at hB
  obtain ⟨⟨⟨⟨hsel, hn⟩, hs⟩, hc⟩, hlex⟩ := hB
  have hl : n < l.length := by simpa using hn
  have ht : (l.take n).length = n := by simp; omega
  have hd : (l.drop n).length = l.toArray.size - n := by simp
  have H := headQ_lex (md := .any) (g := l.toArray.size - n) hsel hs hc hn (l.take n) 0 (Array.replicate l.toArray.size false) a (fun j hj => by
    have hj' : j < n := by rw [ht] at hj; exact hj
    simp [hj']) (by simpa using ht) ⟨by simp, fun j oj _ e => (by rw [getD_replicate_false] at e; cases e), fun t _ e => getD_in (by simpa using e) (getD_replicate_false _ _)⟩ (by rw [ht]; exact hlex) h
  refine wp_region_any hm ?_
  have := headQ_any (Q := Q) (g := l.toArray.size - n) (fun done a' w' hw' hL => by
    have := wpAny_of_seq (md := .any) (Q' := Q) (l.drop n) n done a' w' (fun j => by simp [List.getElem?_drop]) (by rw [hd]; exact hL.1) (hL.2 w' hw')
    rwa [hd] at this) _ _ _ _ hC H
  rw [ht, show n + (l.toArray.size - n) = l.toArray.size by omega] at this
  exact this

/-- one operation of the head -/
theorem q_step {o : Oper} {rest : List Oper} {a : Act} {K : Act → Prop} (hw : Region.wanted o (yielded ops a.tmps) = true) (v : Value) (h1 : ∀ w, C w → o.quietAt P a C w v) (h2 : wpQuiet P ops C K rest (a.put o.dst v)) :
    wpQuiet P ops C K (o :: rest) a := by
  unfold wpQuiet; rw [if_pos hw]; exact ⟨v, h1, h2⟩
end

/-- the class: what has been made before stands, and new blocks may have come -/
def Grown (w0 w : World) : Prop := Below w0.heap.size w0 w
theorem Grown.drew (w : World) : Grown w w.drew := ⟨rfl, rfl, rfl, Nat.le_refl _, fun _ _ => rfl⟩
theorem Grown.cells {w0 w : World} {g : Nat} {c : Array Value} (h : Grown w0 w) (hc : cellsOf w0 g = c) (hg : g < w0.heap.size) : cellsOf w g = c := (below_cells h hg).trans hc
theorem Grown.row {w0 w : World} {g n : Nat} (h : Grown w0 w) (hr : rowOk w0 g n) : rowOk w g n := (below_row h hr.lt).2 hr
theorem Grown.call {w0 w w' : World} (h : Grown w0 w) (hb : Below w.heap.size w w') : Grown w0 w' := Below.trans h (hb.mono h.size)
end Go.Proofs.Ytmapjjfefjoemaa

namespace Go.Proofs.Ytmapjjfefjoemaa
open Go.RowKit

theorem Grown.trans {a b c : World} (h : Grown a b) (k : Grown b c) : Grown a c := Below.trans h (Below.mono k h.size)
theorem grown_below {w w' : World} (h : Below w.heap.size w w') : Grown w w' := h

section
variable (P : Program) (md : Region.Mode) (ops : Array Oper) (W : World) (E : Nat → Option (World → Value → World → Prop)) (S : Nat → Bool) (K : Act → World → Prop)

def uponG (w : World) (v : Value) : Result Next → Prop
  | .ok (.value u) w' => w' = w ∧ u = v
  | .ok .skip w' => w' = w ∧ v = undef
  | .ok (.enter f args) w' => w' = w ∧ Calls P f args w (fun e w'' => e = .returned v ∧ Below w.heap.size w w'')
  | _ => False
def uponE (R : Value → World → Prop) (w : World) : Result Next → Prop
  | .ok (.value u) w' => Below w.heap.size w w' ∧ R u w'
  | .ok (.enter f args) w' => w' = w ∧ Calls P f args w (fun e w'' => ∃ v, e = .returned v ∧ Below w.heap.size w w'' ∧ R v w'')
  | _ => False
def atG (o : Oper) (a : Act) (w : World) (v : Value) : Prop := uponG P w v ((execOp a.eval o).run P w)
def Stable (R : World → Prop) : Prop := ∀ w w', R w → Below w.heap.size w w' → R w'

/-- one operation, and what follows -/
def opV (i : Nat) (N : Act → (World → Prop) → Prop) (a : Act) (D : World → Prop) : Prop :=
  match ops[i]? with
  | none => N a D
  | some o =>
    if Region.wanted o (yielded ops a.tmps) then
      match E i with
      | some R => (∀ w, Grown W w → D w → uponE P (R w) w ((execOp a.eval o).run P w)) ∧ ∀ v, (∃ w w', Grown W w ∧ R w v w') → N (a.put o.dst v) (fun w => ∃ w0 w1, D w0 ∧ Grown W w0 ∧ Grown w0 w1 ∧ R w0 v w1 ∧ Grown w1 w)
      | none =>
        if S i then ∃ (g n : Nat) (cs : Array Value), (∀ w, D w → rowOk w g n) ∧ W.heap.size ≤ g ∧ (∀ w, Grown W w → rowOk w g n → (execOp a.eval o).run P w = .ok .skip (w.setRow g cs)) ∧
          N (a.put o.dst undef) (fun w => ∃ w1, D w1 ∧ Grown W w1 ∧ Grown (w1.setRow g cs) w)
        else ∃ v, (∀ w, Grown W w → atG P o a w v) ∧ N (a.put o.dst v) D
    else N (a.put o.dst undef) D

theorem opV_mono {i : Nat} {N N' : Act → (World → Prop) → Prop} {a : Act} {D : World → Prop} (h : ∀ a D, N a D → N' a D) (hh : opV P ops W E S i N a D) : opV P ops W E S i N' a D := by
  unfold opV at *
  split
  · rename_i ho; simp only [ho] at hh; exact h _ _ hh
  · rename_i o ho
    simp only [ho] at hh
    split
    · rename_i hw
      rw [if_pos hw] at hh
      split
      · rename_i R hR; simp only [hR] at hh; exact ⟨hh.1, fun v hv => h _ _ (hh.2 v hv)⟩
      · rename_i hR
        simp only [hR] at hh
        split
        · rename_i hS; rw [if_pos hS] at hh; obtain ⟨g, n, cs, h1, h2, h3, h4⟩ := hh; exact ⟨g, n, cs, h1, h2, h3, h _ _ h4⟩
        · rename_i hS; rw [if_neg hS] at hh; obtain ⟨v, h1, h2⟩ := hh; exact ⟨v, h1, h _ _ h2⟩
    · rename_i hw; rw [if_neg hw] at hh; exact h _ _ hh

/-- whatever order is picked -/
def anyV : Nat → Array Bool → Act → (World → Prop) → Prop
  | 0, done, a, D => Region.ready md ops done = [] ∧ ∀ w, Grown W w → D w → K a w
  | f + 1, done, a, D => (Region.ready md ops done = [] → ∀ w, Grown W w → D w → K a w) ∧ ∀ i ∈ Region.ready md ops done, opV P ops W E S i (anyV f (done.setIfInBounds i true)) a D

theorem op_sound {i : Nat} {N : Act → (World → Prop) → Prop} {K' : Act → World → Prop} {Q : Exit → Act → World → Prop} {a : Act} {D : World → Prop} {w : World} (hD : Stable D) (hw : Grown W w) (hDw : D w)
    (hN : ∀ a D w, Stable D → Grown W w → D w → N a D → K' a w) (h : opV P ops W E S i N a D) : wpOp P ops Q i K' a w := by
  unfold opV at h
  unfold wpOp
  split
  · rename_i ho; simp only [ho] at h; exact hN _ _ _ hD hw hDw h
  · rename_i o ho
    simp only [ho] at h
    split
    · rename_i hwa
      rw [if_pos hwa] at h
      refine .inl ?_
      unfold Oper.wp
      rcases hE : E i with _ | R
      · simp only [hE] at h
        by_cases hS : S i = true
        · rw [if_pos hS] at h
          obtain ⟨g, n, cs, h1, h2, h3, h4⟩ := h
          rw [h3 w hw (h1 w hDw)]
          simp only [Oper.upon]
          have hg : Grown W (w.setRow g cs) := below_setRow hw h2 cs
          refine hN _ _ _ ?_ hg ⟨w, hDw, hw, Below.refl _ _⟩ h4
          rintro x x' ⟨w1, k1, k2, k3⟩ hb
          exact ⟨w1, k1, k2, k3.call hb⟩
        · rw [if_neg hS] at h
          obtain ⟨v, h1, h2⟩ := h
          have h3 := h1 w hw
          unfold atG at h3
          generalize (execOp a.eval o).run P w = r at *
          cases r with
          | ok n w' =>
            cases n <;> simp only [uponG] at h3 <;> simp only [Oper.upon]
            case value u => obtain ⟨e1, e2⟩ := h3; rw [e1, e2]; exact hN _ _ _ hD hw hDw h2
            case skip => obtain ⟨e1, e2⟩ := h3; rw [e1, ← e2]; exact hN _ _ _ hD hw hDw h2
            case enter f args => obtain ⟨e1, hc⟩ := h3; rw [e1]; exact hc.mono fun e w'' ⟨he, hb⟩ => by subst he; exact hN _ _ _ hD (hw.call hb) (hD _ _ hDw hb) h2
          | halt x w' => simp only [uponG] at h3
      · simp only [hE] at h
        have h3 := h.1 w hw hDw
        generalize (execOp a.eval o).run P w = r at *
        cases r with
        | ok n w' =>
          cases n <;> simp only [uponE] at h3 <;> simp only [Oper.upon]
          case value u => obtain ⟨e1, e2⟩ := h3; exact hN _ _ _ (fun x x' ⟨y0, y1, k1, k2, k3, k4, k5⟩ hb => ⟨y0, y1, k1, k2, k3, k4, k5.call hb⟩) (hw.call e1) ⟨w, w', hDw, hw, e1, e2, Below.refl _ _⟩ (h.2 u ⟨w, w', hw, e2⟩)
          case enter f args =>
            obtain ⟨e1, hc⟩ := h3
            rw [e1]
            refine hc.mono ?_
            rintro e w'' ⟨v, he, hb, hr⟩
            subst he
            exact hN _ _ _ (fun x x' ⟨y0, y1, k1, k2, k3, k4, k5⟩ hb => ⟨y0, y1, k1, k2, k3, k4, k5.call hb⟩) (hw.call hb) ⟨w, w'', hDw, hw, hb, hr, Below.refl _ _⟩ (h.2 v ⟨w, w'', hw, hr⟩)
        | halt x w' => simp only [uponE] at h3
    · rename_i hwa; rw [if_neg hwa] at h; exact hN _ _ _ hD hw hDw h

theorem anyV_any {Q : Exit → Act → World → Prop} (hQ : ∀ a w, K a w → Q .normal a w) (f : Nat) : ∀ (done : Array Bool) (a : Act) (D : World → Prop) (w : World), Stable D → Grown W w → D w →
    anyV P md ops W E S K f done a D → wpAny P md ops Q f done a w := by
  induction f with
  | zero => intro done a D w _ hw hDw h; exact ⟨h.1, hQ _ _ (h.2 w hw hDw)⟩
  | succ f ih =>
    intro done a D w hD hw hDw h
    exact ⟨fun e => hQ _ _ (h.1 e w hw hDw), fun i hi => op_sound P ops W E S hD hw hDw (fun a' D' w' h1 h2 h3 h4 => ih _ a' D' w' h1 h2 h3 h4) (h.2 i hi)⟩

def YieldsG (o : Oper) (v : Value) (a : Act) : Prop :=
  (Region.wanted o (yielded ops a.tmps) = true ∧ ∀ w, Grown W w → atG P o a w v) ∨ (Region.wanted o (yielded ops a.tmps) = false ∧ v = undef)

theorem YieldsG.op {i : Nat} {o : Oper} {v : Value} {a : Act} {D : World → Prop} (hi : ops[i]? = some o) (hE : E i = none) (hS : S i = false) (hy : YieldsG P ops W o v a) {N : Act → (World → Prop) → Prop} (h : N (a.put o.dst v) D) : opV P ops W E S i N a D := by
  unfold opV
  simp only [hi, hE, hS]
  rcases hy with ⟨hw, hv⟩ | ⟨hw, rfl⟩
  · rw [if_pos hw]; exact ⟨v, hv, h⟩
  · rw [if_neg (by simp [hw])]; exact h

theorem yieldsG_of {i : Nat} {o : Oper} {a : Act} {D : World → Prop} {N : Act → (World → Prop) → Prop} (hi : ops[i]? = some o) (hE : E i = none) (hS : S i = false) (h : opV P ops W E S i N a D) : ∃ v, YieldsG P ops W o v a ∧ N (a.put o.dst v) D := by
  unfold opV at h
  simp only [hi, hE, hS] at h
  by_cases hw : Region.wanted o (yielded ops a.tmps) = true
  · rw [if_pos hw] at h
    obtain ⟨v, h1, h2⟩ := h
    exact ⟨v, .inl ⟨hw, h1⟩, h2⟩
  · rw [if_neg hw] at h
    exact ⟨undef, .inr ⟨by simpa using hw, rfl⟩, h⟩

theorem opV_put {j : Nat} {oi oj : Oper} {v : Value} (hj : ops[j]? = some oj) (hap : oi.apart ops oj = true) (hsi : ∀ cs b, oi.op ≠ .select cs b) (hsj : ∀ cs b, oj.op ≠ .select cs b)
    {N : Act → (World → Prop) → Prop} {a : Act} {D : World → Prop} (hy : YieldsG P ops W oi v a) (h : opV P ops W E S j N (a.put oi.dst v) D) :
    opV P ops W E S j (fun a' D' => YieldsG P ops W oi v a' ∧ N (a'.put oi.dst v) D') a D := by
  obtain ⟨h1, h2, h3⟩ := Oper.apart_spec hap
  have keep : ∀ u, YieldsG P ops W oi v (a.put oj.dst u) := fun u => by
    have e1 := execOp_put oi hsi a oj.dst u h3
    have e2 := wanted_put oi a oj.dst u h3
    unfold YieldsG atG at *
    rw [e1, e2]; exact hy
  unfold opV at *
  simp only [hj] at *
  rw [wanted_put oj a oi.dst v h1, execOp_put oj hsj a oi.dst v h1] at h
  have ep : ∀ u, (a.put oj.dst u).put oi.dst v = (a.put oi.dst v).put oj.dst u := fun u => (Act.put_comm a v u h2).symm
  by_cases hw : Region.wanted oj (yielded ops a.tmps) = true
  · rw [if_pos hw] at h ⊢
    rcases hE : E j with _ | R
    · simp only [hE] at h ⊢
      by_cases hS : S j = true
      · rw [if_pos hS] at h ⊢
        obtain ⟨g, n, cs, k1, k2, k3, k4⟩ := h
        exact ⟨g, n, cs, k1, k2, k3, keep _, by rw [ep]; exact k4⟩
      · rw [if_neg hS] at h ⊢
        obtain ⟨u, k1, k2⟩ := h
        refine ⟨u, fun w hg => ?_, keep _, by rw [ep]; exact k2⟩
        have := k1 w hg
        unfold atG at *
        rwa [execOp_put oj hsj a oi.dst v h1] at this
    · simp only [hE] at h ⊢
      exact ⟨h.1, fun u hu => ⟨keep _, by rw [ep]; exact h.2 u hu⟩⟩
  · rw [if_neg hw] at h ⊢
    exact ⟨keep _, by rw [ep]; exact h⟩

theorem anyV_first {i : Nat} {o : Oper} {v : Value} (hi : ops[i]? = some o) (hE : E i = none) (hS : S i = false) (hsel : ∀ (j : Nat) (o : Oper) cs b, ops[j]? = some o → o.op ≠ .select cs b) (f : Nat) :
    ∀ (done : Array Bool) (a : Act) (D : World → Prop),
      (∀ j oj, ops[j]? = some oj → j ≠ i → done.getD j true = false → (∀ e ∈ oj.after, Region.binds md e = true → e.on ≠ i) → o.apart ops oj = true) →
      i ∈ Region.ready md ops done → YieldsG P ops W o v a →
      anyV P md ops W E S K f (done.setIfInBounds i true) (a.put o.dst v) D → anyV P md ops W E S K (f + 1) done a D := by
  induction f with
  | zero =>
    intro done a D _ hr hy H
    refine ⟨fun e => (by rw [e] at hr; cases hr), fun j hj => ?_⟩
    by_cases e : j = i
    · subst e; exact hy.op P ops W E S hi hE hS H
    · have := ready_mono hj e
      rw [H.1] at this; cases this
  | succ f ih =>
    intro done a D hfree hr hy H
    refine ⟨fun e => (by rw [e] at hr; cases hr), fun j hj => ?_⟩
    by_cases e : j = i
    · subst e; exact hy.op P ops W E S hi hE hS H
    · obtain ⟨hjun, oj, hoj, hall⟩ := mem_ready.1 hj
      have hun := (mem_ready.1 hr).1
      have hno : ∀ e ∈ oj.after, Region.binds md e = true → e.on ≠ i := fun e he hb h => by
        have := hall e he hb
        rw [h, getD_both hun] at this
        cases this
      refine opV_mono P ops W E S (fun a' D' h3 => ih (done.setIfInBounds j true) a' D' (fun k' ok hk hki hk' hnk => hfree k' ok hk hki ?_ hnk) (ready_mono hr (Ne.symm e)) h3.1 ?_)
        (opV_put P ops W E S hoj (hfree j oj hoj e hjun hno) (fun cs b => hsel i o cs b hi) (fun cs b => hsel j oj cs b hoj) hy (H.2 j (ready_mono hj e)))
      · by_cases e' : j = k'
        · subst e'; exact hjun
        · rw [getD_set_ne true e'] at hk'; exact hk'
      · rw [Array.setIfInBounds_comm _ _ e]; exact h3.2

/-- how a region is walked: operations that may be taken first; special ones alone; two or three special ones in either order -/
inductive Plan where
  | fin
  | q (k : Nat) (p : Plan)
  | s1 (k : Nat) (p : Plan)
  | s2 (k1 : Nat) (p1 : Plan) (k2 : Nat) (p2 : Plan)
  | s3 (k1 : Nat) (p1 : Plan) (k2 : Nat) (p2 : Plan) (k3 : Nat) (p3 : Plan)

def planB (sp : List Nat) : Nat → Plan → Array Bool → Bool
  | _, .fin, done => (Region.ready md ops done).isEmpty
  | 0, _, _ => false
  | f + 1, .q k p, done => !sp.contains k && ((Region.ready md ops done).contains k && Region.free md ops done k && (decide (k < ops.size) && planB sp f p (done.setIfInBounds k true)))
  | f + 1, .s1 k p, done => decide (Region.ready md ops done = [k]) && planB sp f p (done.setIfInBounds k true)
  | f + 1, .s2 k1 p1 k2 p2, done => decide (Region.ready md ops done = [k1, k2]) && (planB sp f p1 (done.setIfInBounds k1 true) && planB sp f p2 (done.setIfInBounds k2 true))
  | f + 1, .s3 k1 p1 k2 p2 k3 p3, done => decide (Region.ready md ops done = [k1, k2, k3]) && (planB sp f p1 (done.setIfInBounds k1 true) && (planB sp f p2 (done.setIfInBounds k2 true) && planB sp f p3 (done.setIfInBounds k3 true)))

def walkV : Plan → Act → (World → Prop) → Prop
  | .fin, a, D => ∀ w, Grown W w → D w → K a w
  | .q k p, a, D => opV P ops W E S k (walkV p) a D
  | .s1 k p, a, D => opV P ops W E S k (walkV p) a D
  | .s2 k1 p1 k2 p2, a, D => opV P ops W E S k1 (walkV p1) a D ∧ opV P ops W E S k2 (walkV p2) a D
  | .s3 k1 p1 k2 p2 k3 p3, a, D => opV P ops W E S k1 (walkV p1) a D ∧ opV P ops W E S k2 (walkV p2) a D ∧ opV P ops W E S k3 (walkV p3) a D

theorem anyV_walk (hsel : Region.noSelect ops = true) (sp : List Nat) (hsp : ∀ k, sp.contains k = false → E k = none ∧ S k = false) (p : Plan) :
    ∀ (f : Nat) (done : Array Bool) (a : Act) (D : World → Prop), planB md ops sp f p done = true → walkV P ops W E S K p a D → anyV P md ops W E S K f done a D := by
  induction p with
  | fin =>
    intro f done a D hB h
    cases f with
    | zero => exact ⟨by simpa [planB] using hB, h⟩
    | succ f =>
      have e : Region.ready md ops done = [] := by simpa [planB] using hB
      exact ⟨fun _ => h, fun i hi => by rw [e] at hi; cases hi⟩
  | q k p ih =>
    intro f done a D hB h
    cases f with
    | zero => simp [planB] at hB
    | succ f =>
      simp only [planB, Bool.and_eq_true, decide_eq_true_eq, Bool.not_eq_true'] at hB
      obtain ⟨hc, ⟨hr, hfree⟩, hk, hB'⟩ := hB
      obtain ⟨hE, hS⟩ := hsp k hc
      have hi : ops[k]? = some ops[k] := Array.getElem?_eq_getElem hk
      obtain ⟨v, hy, hK⟩ := yieldsG_of P ops W E S hi hE hS h
      exact anyV_first P md ops W E S K hi hE hS (Region.noSelect_spec hsel) f done a D (Region.free_spec hi hfree) (by simpa using hr) hy (ih _ _ _ _ hB' hK)
  | s1 k p ih =>
    intro f done a D hB h
    cases f with
    | zero => simp [planB] at hB
    | succ f =>
      simp only [planB, Bool.and_eq_true, decide_eq_true_eq] at hB
      obtain ⟨hr, hB'⟩ := hB
      refine ⟨fun e => (by rw [hr] at e; cases e), fun i hi => ?_⟩
      rw [hr] at hi
      obtain rfl : i = k := by simpa using hi
      exact opV_mono P ops W E S (fun a' D' h' => ih _ _ _ _ hB' h') h
  | s2 k1 p1 k2 p2 ih1 ih2 =>
    intro f done a D hB h
    cases f with
    | zero => simp [planB] at hB
    | succ f =>
      simp only [planB, Bool.and_eq_true, decide_eq_true_eq] at hB
      obtain ⟨hr, hB1, hB2⟩ := hB
      refine ⟨fun e => (by rw [hr] at e; cases e), fun i hi => ?_⟩
      rw [hr] at hi
      simp only [List.mem_cons, List.not_mem_nil, or_false] at hi
      rcases hi with rfl | rfl
      · exact opV_mono P ops W E S (fun a' D' h' => ih1 _ _ _ _ hB1 h') h.1
      · exact opV_mono P ops W E S (fun a' D' h' => ih2 _ _ _ _ hB2 h') h.2
  | s3 k1 p1 k2 p2 k3 p3 ih1 ih2 ih3 =>
    intro f done a D hB h
    cases f with
    | zero => simp [planB] at hB
    | succ f =>
      simp only [planB, Bool.and_eq_true, decide_eq_true_eq] at hB
      obtain ⟨hr, hB1, hB2, hB3⟩ := hB
      refine ⟨fun e => (by rw [hr] at e; cases e), fun i hi => ?_⟩
      rw [hr] at hi
      simp only [List.mem_cons, List.not_mem_nil, or_false] at hi
      rcases hi with rfl | rfl | rfl
      · exact opV_mono P ops W E S (fun a' D' h' => ih1 _ _ _ _ hB1 h') h.1
      · exact opV_mono P ops W E S (fun a' D' h' => ih2 _ _ _ _ hB2 h') h.2.1
      · exact opV_mono P ops W E S (fun a' D' h' => ih3 _ _ _ _ hB3 h') h.2.2
end

theorem region_V {P : Program} {id : Nat} {Q : Exit → Act → World → Prop} {a : Act} {w : World} {l : List Oper} (E : Nat → Option (World → Value → World → Prop)) (S : Nat → Bool) (sp : List Nat) (p : Plan) (hm : P.follows .mixedOrders = true)
    (hsel : Region.noSelect l.toArray = true) (hB : planB .any l.toArray sp l.toArray.size p (Array.replicate l.toArray.size false) = true) (hsp : ∀ k, sp.contains k = false → E k = none ∧ S k = false)
    (h : walkV P l.toArray w E S (fun a' w' => Q .normal a' w') p a (fun _ => True)) : (Code.region id l.toArray true).wp P Q a w := by
  refine wp_region_any hm ?_
  exact anyV_any (Q := Q) P .any l.toArray w E S (fun a' w' => Q .normal a' w') (fun _ _ h => h) _ _ _ _ w.drew (fun _ _ _ _ => trivial) (Grown.drew w) trivial (anyV_walk P .any l.toArray w E S _ hsel sp hsp p _ _ a _ hB h)

section
variable {P : Program} {ops : Array Oper} {W : World} {E : Nat → Option (World → Value → World → Prop)} {S : Nat → Bool} {k : Nat} {a : Act} {D : World → Prop} {N : Act → (World → Prop) → Prop}
theorem v_other {o : Oper} (ho : ops[k]? = some o) (hE : E k = none) (hS : S k = false) (hw : Region.wanted o (yielded ops a.tmps) = true) {v : Value} (h1 : ∀ w, Grown W w → atG P o a w v) (h2 : N (a.put o.dst v) D) :
    opV P ops W E S k N a D := by
  unfold opV
  simp only [ho, hE, hS]
  rw [if_pos hw]
  exact ⟨v, h1, h2⟩
theorem v_E {o : Oper} {R : World → Value → World → Prop} (ho : ops[k]? = some o) (hE : E k = some R) (hw : Region.wanted o (yielded ops a.tmps) = true) (h1 : ∀ w, Grown W w → D w → uponE P (R w) w ((execOp a.eval o).run P w))
    (h2 : ∀ v, (∃ w w', Grown W w ∧ R w v w') → N (a.put o.dst v) (fun w => ∃ w0 w1, D w0 ∧ Grown W w0 ∧ Grown w0 w1 ∧ R w0 v w1 ∧ Grown w1 w)) : opV P ops W E S k N a D := by
  unfold opV
  simp only [ho, hE]
  rw [if_pos hw]
  exact ⟨h1, h2⟩
theorem v_S {o : Oper} (g n : Nat) (cs : Array Value) (ho : ops[k]? = some o) (hE : E k = none) (hS : S k = true) (hw : Region.wanted o (yielded ops a.tmps) = true) (h1 : ∀ w, D w → rowOk w g n) (h2 : W.heap.size ≤ g)
    (h3 : ∀ w, Grown W w → rowOk w g n → (execOp a.eval o).run P w = .ok .skip (w.setRow g cs)) (h4 : N (a.put o.dst undef) (fun w => ∃ w1, D w1 ∧ Grown W w1 ∧ Grown (w1.setRow g cs) w)) :
    opV P ops W E S k N a D := by
  unfold opV
  simp only [ho, hE, hS]
  rw [if_pos hw]
  exact ⟨g, n, cs, h1, h2, h3, h4⟩
end
/-- a new block of n cells, not below B -/
def newR (B n : Nat) : Value → World → Prop := fun v w => ∃ g, v = .pointer (some ⟨g, 0, none⟩) ∧ B ≤ g ∧ rowOk w g n
/-- .. and where it stands later -/
theorem newR.at {B n g : Nat} {D : World → Prop} {W w : World} (h : ∃ w0 w1, D w0 ∧ Grown W w0 ∧ Grown w0 w1 ∧ newR B n (.pointer (some ⟨g, 0, none⟩)) w1 ∧ Grown w1 w) : B ≤ g ∧ rowOk w g n := by
  obtain ⟨_, w1, _, _, _, ⟨g', e, h1, h2⟩, h3⟩ := h
  injection e with e
  injection e with e
  injection e with e
  subst e
  exact ⟨h1, h3.row h2⟩
/-- behind the store -/
theorem stored {w1 w : World} {g n : Nat} {cs : Array Value} (h : rowOk w1 g n) (hs : cs.size = n) (k : Grown (w1.setRow g cs) w) : cellsOf w g = cs ∧ rowOk w g n ∧ g < w.heap.size := by
  have hr : rowOk (w1.setRow g cs) g n := rowOk_setRow h hs
  exact ⟨k.cells (cellsOf_setRow h) hr.lt, k.row hr, (k.row hr).lt⟩
end Go.Proofs.Ytmapjjfefjoemaa

namespace Go.Proofs.Ytmapjjfefjoemaa
open Go.RowKit

def RdZ2 (w : World) (v : Value) (ls : List (List Int)) : Prop :=
  ∃ (A : Option Addr) (c : Nat) (us : List Value), v = .slice A ls.length c ∧ ls.length ≤ 9223372036854775807 ∧ us.length = ls.length ∧
    (∀ (i : Nat) (u : Value), us[i]? = some u → ∃ a, A = some a ∧ a.block < w.heap.size ∧ w.cell? (a.add i) = some u) ∧ ∀ (i : Nat) (u : Value) (l : List Int), us[i]? = some u → ls[i]? = some l → RdZ w u l
theorem RdZ2.form {w : World} {v : Value} {ls : List (List Int)} (h : RdZ2 w v ls) : ∃ A c, v = .slice A ls.length c ∧ ls.length ≤ 9223372036854775807 := by
  obtain ⟨A, c, _, h1, h2, _⟩ := h; exact ⟨A, c, h1, h2⟩
theorem RdZ2.below {C : Nat} {w w' : World} {v : Value} {ls : List (List Int)} (h : RdZ2 w v ls) (hb : Below C w w') (hC : w.heap.size ≤ C) : RdZ2 w' v ls := by
  obtain ⟨A, c, us, h1, h2, h3, h4, h5⟩ := h
  refine ⟨A, c, us, h1, h2, h3, fun i u hu => ?_, fun i u l hu hl => (h5 i u l hu hl).below hb hC⟩
  obtain ⟨a, e, k4, k5⟩ := h4 i u hu
  refine ⟨a, e, Nat.lt_of_lt_of_le k4 hb.size, ?_⟩
  rw [← k5]
  have hq : (a.add i).block = a.block := by unfold Addr.add; split <;> rfl
  exact hb.cell (p := a.add i) (by omega)
theorem RdZ2.at {w : World} {A : Option Addr} {n c k : Nat} {ls : List (List Int)} (h : RdZ2 w (.slice A n c) ls) (hk : k < ls.length) :
    ∃ a A' c', A = some a ∧ w.cell? (a.add k) = some (.slice A' ls[k].length c') ∧ RdZ w (.slice A' ls[k].length c') ls[k] := by
  obtain ⟨A0, c0, us, e, _, h3, h4, h5⟩ := h
  injection e with e1 _ _
  subst e1
  have hu : us[k]? = some us[k] := List.getElem?_eq_getElem (by omega)
  obtain ⟨a, ea, _, hc⟩ := h4 k _ hu
  have hr := h5 k _ _ hu (List.getElem?_eq_getElem hk)
  obtain ⟨A', c', e', _⟩ := hr.form
  rw [e'] at hc hr
  exact ⟨a, A', c', ea, hc, hr⟩

theorem block_of_cell {w : World} {p : Addr} {u : Value} (h : w.cell? p = some u) : p.block < w.heap.size := by
  rcases Nat.lt_or_ge p.block w.heap.size with c | c
  · exact c
  · unfold World.cell? at h
    rw [Array.getElem?_eq_none c] at h
    simp at h
theorem rd2_lt {w : World} {a : Addr} {n c k : Nat} {ls : List (List Int)} (h : RdZ2 w (.slice (some a) n c) ls) (hk : k < ls.length) : a.block < w.heap.size := by
  obtain ⟨A0, c0, us, e, _, h3, h4, h5⟩ := h
  injection e with e1 _ _
  obtain ⟨a', ea, hl, _⟩ := h4 k _ (List.getElem?_eq_getElem (by omega))
  rw [← e1] at ea
  injection ea with ea
  rw [ea]; exact hl
theorem rd_cell {w wx : World} {a : Addr} {k : Nat} {u : Value} (hx : Grown w wx) (h : w.cell? (a.add k) = some u) (hl : a.block < w.heap.size) : wx.cell? (a.add k) = some u := by
  have hq : (a.add k).block = a.block := by unfold Addr.add; split <;> rfl
  rw [← h]
  exact Below.cell hx (p := a.add k) (by omega)
/-- what has been measured is small -/
def smallZ (ls : List (List Int)) : Prop := ls.length ≤ 1048576 ∧ ∀ l ∈ ls, l.length ≤ 1048576
-- left out here: loop.example/g01200/laws.szInt64S loop.example/g01200/laws.szInt64SS
set_option maxRecDepth 100000 in
set_option maxHeartbeats 1000000 in
theorem eqInt64SS_rd (ls : List (List Int)) (v v' : Value) (w : World) (h : RdZ2 w v ls) (h' : RdZ2 w v' ls) :
    Calls Try.prog 19 #[v, v'] w fun e w' => e = .returned (.bool true) ∧ Below w.heap.size w w' := by
  obtain ⟨A, c, rfl, hl⟩ := h.form
  obtain ⟨A', c', rfl, _⟩ := h'.form
  have H := hide h; clear h
  have H' := hide h'; clear h'
  have hne : ((ls.length : Int) != (ls.length : Int)) = false := by simp
  go_enter Try.func19, Try.ntmps19
  go_wp2
  go_loopw [5] (fun i wr => ∃ k : Nat, k ≤ ls.length ∧ i = .int .i64 k ∧ Below w.heap.size w wr) (fun i _ => ls.length - (intOf i).toNat)
  case atStart => exact ⟨0, by omega, rfl, Below.refl _ _⟩
  case round =>
    obtain ⟨k, hk, rfl, hb⟩ := hrel
    by_cases hlt : k < ls.length
    · obtain ⟨a, A1, d1, rfl, c1, r1⟩ := (H.out.below hb (Nat.le_refl _)).at hlt
      obtain ⟨a', A2, d2, rfl, c2, r2⟩ := (H'.out.below hb (Nat.le_refl _)).at hlt
      have hab : a.block < wr.heap.size := rd2_lt (H.out.below hb (Nat.le_refl _)) hlt
      have hab' : a'.block < wr.heap.size := rd2_lt (H'.out.below hb (Nat.le_refl _)) hlt
      have R1 := hide r1; clear r1
      have R2 := hide r2; clear r2
      generalize ls[k] = l at *
      go_wp2
      refine region_V (w := wr) (fun _ => none) (fun _ => false) [] (.q 0 <| .q 1 <| .q 2 <| .q 3 <| .q 4 <| .q 5 <| .q 6 <| .q 7 <| .q 8 <| .q 9 .fin) (by kernel_rfl) (by kernel_rfl) (by kernel_rfl) (fun k hk => ?_) ?_
      · exact ⟨rfl, rfl⟩
      apply v_other
      · simp only [List.getElem?_toArray, List.getElem?_cons_zero, List.getElem?_cons_succ]; exact rfl
      · rfl
      · rfl
      · go_simp
      · intro wx hx
        have e1 := rd_cell hx c1 hab
        have e2 := rd_cell hx c2 hab'
        have D1 := hide fun (_ : World) => eqInt64S_rd l _ _ wx (R1.out.below hx (Nat.le_refl _)) (R2.out.below hx (Nat.le_refl _))
        unfold atG
        go_simp
        simp only [uponG]
        exact ⟨by trivial, rfl⟩
      apply v_other
      · simp only [List.getElem?_toArray, List.getElem?_cons_zero, List.getElem?_cons_succ]; exact rfl
      · rfl
      · rfl
      · go_simp
      · intro wx hx
        have e1 := rd_cell hx c1 hab
        have e2 := rd_cell hx c2 hab'
        have D1 := hide fun (_ : World) => eqInt64S_rd l _ _ wx (R1.out.below hx (Nat.le_refl _)) (R2.out.below hx (Nat.le_refl _))
        unfold atG
        go_simp
        simp only [uponG]
        exact ⟨by trivial, rfl⟩
      apply v_other
      · simp only [List.getElem?_toArray, List.getElem?_cons_zero, List.getElem?_cons_succ]; exact rfl
      · rfl
      · rfl
      · go_simp
      · intro wx hx
        have e1 := rd_cell hx c1 hab
        have e2 := rd_cell hx c2 hab'
        have D1 := hide fun (_ : World) => eqInt64S_rd l _ _ wx (R1.out.below hx (Nat.le_refl _)) (R2.out.below hx (Nat.le_refl _))
        unfold atG
        go_simp
        simp only [uponG]
        exact ⟨by trivial, rfl⟩
      apply v_other
      · simp only [List.getElem?_toArray, List.getElem?_cons_zero, List.getElem?_cons_succ]; exact rfl
      · rfl
      · rfl
      · go_simp
      · intro wx hx
        have e1 := rd_cell hx c1 hab
        have e2 := rd_cell hx c2 hab'
        have D1 := hide fun (_ : World) => eqInt64S_rd l _ _ wx (R1.out.below hx (Nat.le_refl _)) (R2.out.below hx (Nat.le_refl _))
        unfold atG
        go_simp
        simp only [uponG]
        exact ⟨by trivial, rfl⟩
      apply v_other
      · simp only [List.getElem?_toArray, List.getElem?_cons_zero, List.getElem?_cons_succ]; exact rfl
      · rfl
      · rfl
      · go_simp
      · intro wx hx
        have e1 := rd_cell hx c1 hab
        have e2 := rd_cell hx c2 hab'
        have D1 := hide fun (_ : World) => eqInt64S_rd l _ _ wx (R1.out.below hx (Nat.le_refl _)) (R2.out.below hx (Nat.le_refl _))
        unfold atG
        go_simp
        simp only [uponG]
        exact ⟨by trivial, rfl⟩
      apply v_other
      · simp only [List.getElem?_toArray, List.getElem?_cons_zero, List.getElem?_cons_succ]; exact rfl
      · rfl
      · rfl
      · go_simp
      · intro wx hx
        have e1 := rd_cell hx c1 hab
        have e2 := rd_cell hx c2 hab'
        have D1 := hide fun (_ : World) => eqInt64S_rd l _ _ wx (R1.out.below hx (Nat.le_refl _)) (R2.out.below hx (Nat.le_refl _))
        unfold atG
        go_simp
        simp only [uponG]
        exact ⟨by trivial, rfl⟩
      apply v_other
      · simp only [List.getElem?_toArray, List.getElem?_cons_zero, List.getElem?_cons_succ]; exact rfl
      · rfl
      · rfl
      · go_simp
      · intro wx hx
        have e1 := rd_cell hx c1 hab
        have e2 := rd_cell hx c2 hab'
        have D1 := hide fun (_ : World) => eqInt64S_rd l _ _ wx (R1.out.below hx (Nat.le_refl _)) (R2.out.below hx (Nat.le_refl _))
        unfold atG
        go_simp
        simp only [uponG]
        exact ⟨by trivial, rfl⟩
      apply v_other
      · simp only [List.getElem?_toArray, List.getElem?_cons_zero, List.getElem?_cons_succ]; exact rfl
      · rfl
      · rfl
      · go_simp
      · intro wx hx
        have e1 := rd_cell hx c1 hab
        have e2 := rd_cell hx c2 hab'
        have D1 := hide fun (_ : World) => eqInt64S_rd l _ _ wx (R1.out.below hx (Nat.le_refl _)) (R2.out.below hx (Nat.le_refl _))
        unfold atG
        go_simp
        simp only [uponG]
        exact ⟨by trivial, rfl⟩
      apply v_other
      · simp only [List.getElem?_toArray, List.getElem?_cons_zero, List.getElem?_cons_succ]; exact rfl
      · rfl
      · rfl
      · go_simp
      · intro wx hx
        have e1 := rd_cell hx c1 hab
        have e2 := rd_cell hx c2 hab'
        have D1 := hide fun (_ : World) => eqInt64S_rd l _ _ wx (R1.out.below hx (Nat.le_refl _)) (R2.out.below hx (Nat.le_refl _))
        unfold atG
        go_simp
        simp only [uponG]
        exact ⟨by trivial, D1.out wx⟩
      apply v_other
      · simp only [List.getElem?_toArray, List.getElem?_cons_zero, List.getElem?_cons_succ]; exact rfl
      · rfl
      · rfl
      · go_simp
      · intro wx hx
        have e1 := rd_cell hx c1 hab
        have e2 := rd_cell hx c2 hab'
        have D1 := hide fun (_ : World) => eqInt64S_rd l _ _ wx (R1.out.below hx (Nat.le_refl _)) (R2.out.below hx (Nat.le_refl _))
        unfold atG
        go_simp
        simp only [uponG]
        exact ⟨by trivial, rfl⟩
      rintro w1 hx _
      have b1 : Below w.heap.size w w1 := hb.trans (Below.mono hx hb.size)
      clear hx c1 c2
      go_simp
      go_wp2
      go_roundw
      case rel => exact ⟨k + 1, by omega, by go_num, b1⟩
      case measure => simp [intOf]; omega
    · obtain rfl : k = ls.length := by omega
      clear hlt hk
      go_wp2
      go_ret
      exact ⟨rfl, hb⟩

-- left out here: loop.example/g01200/laws.toInt64SS
section
open Go.ChangeShapes Go.WideShapes
variable {H : Type} {enc : TypeId × Value → H} {P : Program} {w : World} {base : Nat} {spare : Nat → Bool} {held : Bool}
/-- whole numbers that int64 holds -/
def fits64 (l : List Int) : Prop := ∀ x ∈ l, -9223372036854775808 ≤ x ∧ x ≤ 9223372036854775807
theorem rd_of_trod {t e : TypeId} {fuel : Nat} {v : Value} {x : DataW H × List MemPlace} (ht : P.underlying t = some (.slice e)) (he : P.underlying e = some (.int .i64)) (hc : P.cellsOf e = 1) (h : DataW.trod enc P w base spare held fuel t [v] = some x) :
    ∃ l, RdZ w v l ∧ fits64 l := by
  rcases open_ints ht he hc h with ⟨e1, _⟩ | ⟨a, len, cap, zs, e1, _, hl, hm, hz, _, hcell, hw⟩
  · injection e1 with e1
    subst e1
    exact ⟨[], ⟨none, 0, rfl, by simp, fun i x hx => by simp at hx⟩, fun x hx => by simp at hx⟩
  · injection e1 with e1
    subst e1
    have hlz : len ≤ zs.length := by rw [hz]; split <;> omega
    refine ⟨zs.take len, ⟨some a, cap, by simp [Nat.min_eq_left hlz], ?_, fun i x hx => ?_⟩, fun x hx => bounds_i64 (hw x (List.mem_of_mem_take hx))⟩
    · have : maxLen = 9223372036854775807 := rfl
      simp; omega
    · have hi : i < len := by have := (List.getElem?_eq_some_iff.1 hx).1; simp at this; omega
      rw [List.getElem?_take_of_lt hi] at hx
      have hc' := hcell i (by omega)
      have hg : zs.getD i 0 = x := by rw [List.getD_eq_getElem?_getD, hx]; rfl
      rw [hg] at hc'
      refine ⟨a, rfl, ?_, hc'⟩
      have hq : (a.add i).block = a.block := by unfold Addr.add; split <;> rfl
      rw [← hq]
      exact block_of_cell hc'
theorem open_is {r : Reach} {b0 : Nat} {t e : TypeId} {v : Value} {d : DataW H} {ps : List MemPlace} (ht : P.underlying t = some (.slice e)) (he : P.underlying e = some (.int .i64)) (hc : P.cellsOf e = 1)
    (hval : Value.okWide P w r b0 t v) (hd : DataW.Trod enc P w base spare held t v d ps) : ∃ l, RdZ w v l ∧ fits64 l := by
  obtain ⟨a, len, cap, rfl⟩ := okWide_slice ht hval
  obtain ⟨fuel, hf⟩ := hd
  exact rd_of_trod ht he hc hf
theorem open_iss {r : Reach} {b0 : Nat} {t s e : TypeId} {v : Value} {d : DataW H} {ps : List MemPlace} (ht : P.underlying t = some (.slice s)) (hs : P.underlying s = some (.slice e)) (he : P.underlying e = some (.int .i64)) (hc : P.cellsOf s = 1) (hc2 : P.cellsOf e = 1)
    (hval : Value.okWide P w r b0 t v) (hd : DataW.Trod enc P w base spare held t v d ps) : ∃ ls, RdZ2 w v ls ∧ ∀ l ∈ ls, fits64 l := by
  obtain ⟨a0, len0, cap0, rfl⟩ := okWide_slice ht hval
  obtain ⟨fuel, hf⟩ := hd
  rcases Go.Deep.open_slice1 ht hc hf with ⟨e1, _⟩ | ⟨a, len, cap, m, n, V, D, Pl, e1, _, hl, hm, hmm, _, hV⟩
  · injection e1 with e1
    rw [e1]
    exact ⟨[], ⟨none, 0, [], rfl, by simp, rfl, fun i u hu => by simp at hu, fun i u l hu => by simp at hu⟩, fun l hl => by simp at hl⟩
  · injection e1 with e1
    rw [e1]
    have hlm : len ≤ m := by rw [hmm]; split <;> omega
    have key : ∀ i, i < len → ∃ l, RdZ w (V i) l ∧ fits64 l := fun i hi => rd_of_trod hs he hc2 (hV i (by omega)).2
    obtain ⟨L, hL⟩ : ∃ L : Nat → List Int, ∀ i, i < len → RdZ w (V i) (L i) ∧ fits64 (L i) := by
      refine ⟨fun i => if h : i < len then (key i h).choose else [], fun i hi => ?_⟩
      simp only [hi, dif_pos]
      exact (key i hi).choose_spec
    refine ⟨(List.range len).map L, ⟨some a, cap, (List.range len).map V, by simp, ?_, by simp, fun i u hu => ?_, fun i u l hu hl => ?_⟩, fun l hl => ?_⟩
    · have : maxLen = 9223372036854775807 := rfl
      simp; omega
    · have hi : i < len := by have := (List.getElem?_eq_some_iff.1 hu).1; simpa using this
      simp [hi] at hu
      subst hu
      have hc' := (hV i (by omega)).1
      refine ⟨a, rfl, ?_, hc'⟩
      have hq : (a.add i).block = a.block := by unfold Addr.add; split <;> rfl
      rw [← hq]
      exact block_of_cell hc'
    · have hi : i < len := by have := (List.getElem?_eq_some_iff.1 hu).1; simpa using this
      simp [hi] at hu hl
      subst hu hl
      exact (hL i hi).1
    · obtain ⟨i, hi, rfl⟩ := List.mem_map.1 hl
      exact (hL i (List.mem_range.1 hi)).2
end
end Go.Proofs.Ytmapjjfefjoemaa

namespace Go.Proofs.Ytmapjjfefjoemaa
open Go.RowKit

def thenF (p q : Nat → Nat) (n : Nat) : Nat → Nat := upto (fun i => q (p i)) n
def backTo (p : Nat → Nat) : Nat → Nat → Nat
  | 0 => fun _ => 0
  | k + 1 => fset (backTo p k) (p k) k
def sameF (n : Nat) : Nat → Nat := upto (fun i => i) n
def backF (p : Nat → Nat) (n : Nat) : Nat → Nat := backTo p n
theorem backTo_step (p : Nat → Nat) (k : Nat) : fset (backTo p k) (p k) k = backTo p (k + 1) := rfl

set_option maxHeartbeats 400000 in
theorem follow_any (p q : Nat → Nat) (m : Nat) (hm : m ≤ 16) (hp : ∀ i, i < m → p i < 16) (w : World) :
    Calls Try.prog 103 #[.agg (av p), .agg (av q), .int .i64 m] w fun e w' => e = .returned (.agg (av (thenF p q m))) ∧ Below w.heap.size w w' := by
  have HP := hide hp; clear hp
  go_enter Try.func103, Try.ntmps103
  go_wp2
  rw [← av_zero]
  go_loopw [10] (fun i wr => ∃ k : Nat, k ≤ m ∧ i = .int .i64 k ∧ wr = (((w.alloc (.cells (av p) 29)).alloc (.cells (av q) 29)).alloc (.cells (av fun _ => 0) 29)).alloc (.cells (av (upto (fun i => q (p i)) k)) 29)) (fun i _ => m - (intOf i).toNat)
  case atStart => exact ⟨0, by omega, rfl, by rw [upto_zero]⟩
  case round =>
    obtain ⟨k, hk, rfl, rfl⟩ := hrel
    by_cases hlt : k < m
    · have hp16 := HP.out k hlt
      have h1 := av_get p (i := k) (by omega)
      have h2 := av_get q (i := p k) hp16
      have h4 := av_get (upto (fun i => q (p i)) k) (i := k) (by omega)
      have h3 := av_set (upto (fun i => q (p i)) k) k (q (p k))
      rw [upto_step (fun i => q (p i))] at h3
      go_wp2
      go_roundw
      case rel => exact ⟨k + 1, by omega, by go_num, rfl⟩
      case measure => simp [intOf]; omega
    · obtain rfl : k = m := by omega
      clear hlt hk
      go_wp2
      exact res_agg (p := 6) (g := w.heap.size + 1 + 1) aggP (av_size (thenF p q k)) rfl rfl rfl (heap1 (by simp)) ⟨rfl, below4 _ _ _ _ _⟩

set_option maxHeartbeats 400000 in
theorem sThen_any (p q : Nat → Nat) (m : Nat) (hm : m ≤ 16) (hp : ∀ i, i < m → p i < 16) (w : World) :
    Calls Try.prog 97 #[.agg (av p), .agg (av q), .int .i64 m] w fun e w' => e = .returned (.agg (av (thenF p q m))) ∧ Below w.heap.size w w' := by
  have HP := hide hp; clear hp
  go_enter Try.func97, Try.ntmps97
  go_wp2
  rw [← av_zero]
  go_loopw [8] (fun i wr => ∃ k : Nat, k ≤ m ∧ i = .int .i64 k ∧ wr = (((w.alloc (.cells (av p) 29)).alloc (.cells (av q) 29)).alloc (.cells (av fun _ => 0) 29)).alloc (.cells (av (upto (fun i => q (p i)) k)) 29)) (fun i _ => m - (intOf i).toNat)
  case atStart => exact ⟨0, by omega, rfl, by rw [upto_zero]⟩
  case round =>
    obtain ⟨k, hk, rfl, rfl⟩ := hrel
    by_cases hlt : k < m
    · have hp16 := HP.out k hlt
      have h1 := av_get p (i := k) (by omega)
      have h2 := av_get q (i := p k) hp16
      have h4 := av_get (upto (fun i => q (p i)) k) (i := k) (by omega)
      have h3 := av_set (upto (fun i => q (p i)) k) k (q (p k))
      rw [upto_step (fun i => q (p i))] at h3
      go_wp2
      go_roundw
      case rel => exact ⟨k + 1, by omega, by go_num, rfl⟩
      case measure => simp [intOf]; omega
    · obtain rfl : k = m := by omega
      clear hlt hk
      go_wp2
      exact res_agg (p := 6) (g := w.heap.size + 1 + 1) aggP (av_size (thenF p q k)) rfl rfl rfl (heap1 (by simp)) ⟨rfl, below4 _ _ _ _ _⟩

set_option maxHeartbeats 400000 in
theorem undo_any (p : Nat → Nat) (m : Nat) (hm : m ≤ 16) (hp : ∀ i, i < m → p i < 16) (w : World) :
    Calls Try.prog 102 #[.agg (av p), .int .i64 m] w fun e w' => e = .returned (.agg (av (backF p m))) ∧ Below w.heap.size w w' := by
  have HP := hide hp; clear hp
  go_enter Try.func102, Try.ntmps102
  go_wp2
  rw [← av_zero]
  go_loopw [8] (fun i wr => ∃ k : Nat, k ≤ m ∧ i = .int .i64 k ∧ wr = ((w.alloc (.cells (av p) 29)).alloc (.cells (av fun _ => 0) 29)).alloc (.cells (av (backTo p k)) 29)) (fun i _ => m - (intOf i).toNat)
  case atStart => exact ⟨0, by omega, rfl, rfl⟩
  case round =>
    obtain ⟨k, hk, rfl, rfl⟩ := hrel
    by_cases hlt : k < m
    · have hp16 := HP.out k hlt
      have h1 := av_get p (i := k) (by omega)
      have h4 := av_get (backTo p k) (i := p k) hp16
      have h3 := av_set (backTo p k) (p k) k
      rw [backTo_step] at h3
      go_wp2
      go_roundw
      case rel => exact ⟨k + 1, by omega, by go_num, rfl⟩
      case measure => simp [intOf]; omega
    · obtain rfl : k = m := by omega
      clear hlt hk
      go_wp2
      exact res_agg (p := 4) (g := w.heap.size + 1) aggP (av_size (backF p k)) rfl rfl rfl (heap1 (by simp)) ⟨rfl, below3 _ _ _ _⟩

set_option maxHeartbeats 400000 in
theorem sBack_any (p : Nat → Nat) (m : Nat) (hm : m ≤ 16) (hp : ∀ i, i < m → p i < 16) (w : World) :
    Calls Try.prog 62 #[.agg (av p), .int .i64 m] w fun e w' => e = .returned (.agg (av (backF p m))) ∧ Below w.heap.size w w' := by
  have HP := hide hp; clear hp
  go_enter Try.func62, Try.ntmps62
  go_wp2
  rw [← av_zero]
  go_loopw [6] (fun i wr => ∃ k : Nat, k ≤ m ∧ i = .int .i64 k ∧ wr = ((w.alloc (.cells (av p) 29)).alloc (.cells (av fun _ => 0) 29)).alloc (.cells (av (backTo p k)) 29)) (fun i _ => m - (intOf i).toNat)
  case atStart => exact ⟨0, by omega, rfl, rfl⟩
  case round =>
    obtain ⟨k, hk, rfl, rfl⟩ := hrel
    by_cases hlt : k < m
    · have hp16 := HP.out k hlt
      have h1 := av_get p (i := k) (by omega)
      have h4 := av_get (backTo p k) (i := p k) hp16
      have h3 := av_set (backTo p k) (p k) k
      rw [backTo_step] at h3
      go_wp2
      go_roundw
      case rel => exact ⟨k + 1, by omega, by go_num, rfl⟩
      case measure => simp [intOf]; omega
    · obtain rfl : k = m := by omega
      clear hlt hk
      go_wp2
      exact res_agg (p := 4) (g := w.heap.size + 1) aggP (av_size (backF p k)) rfl rfl rfl (heap1 (by simp)) ⟨rfl, below3 _ _ _ _⟩

set_option maxHeartbeats 400000 in
theorem stay_any (m : Nat) (hm : m ≤ 16) (w : World) :
    Calls Try.prog 99 #[.int .i64 m] w fun e w' => e = .returned (.agg (av (sameF m))) ∧ Below w.heap.size w w' := by
  go_enter Try.func99, Try.ntmps99
  go_wp2
  rw [← av_zero]
  go_loopw [6] (fun i wr => ∃ k : Nat, k ≤ m ∧ i = .int .i64 k ∧ wr = (w.alloc (.cells (av fun _ => 0) 29)).alloc (.cells (av (upto (fun i => i) k)) 29)) (fun i _ => m - (intOf i).toNat)
  case atStart => exact ⟨0, by omega, rfl, by rw [upto_zero]⟩
  case round =>
    obtain ⟨k, hk, rfl, rfl⟩ := hrel
    by_cases hlt : k < m
    · have h4 := av_get (upto (fun i => i) k) (i := k) (by omega)
      have h3 := av_set (upto (fun i => i) k) k k
      rw [upto_step (fun i => i)] at h3
      go_wp2
      go_roundw
      case rel => exact ⟨k + 1, by omega, by go_num, rfl⟩
      case measure => simp [intOf]; omega
    · obtain rfl : k = m := by omega
      clear hlt hk
      go_wp2
      exact res_agg (p := 2) (g := w.heap.size) aggP (av_size (sameF k)) rfl rfl rfl (heap1 (by simp)) ⟨rfl, below2 _ _ _⟩

set_option maxHeartbeats 400000 in
theorem sSame_any (m : Nat) (hm : m ≤ 16) (w : World) :
    Calls Try.prog 96 #[.int .i64 m] w fun e w' => e = .returned (.agg (av (sameF m))) ∧ Below w.heap.size w w' := by
  go_enter Try.func96, Try.ntmps96
  go_wp2
  rw [← av_zero]
  go_loopw [4] (fun i wr => ∃ k : Nat, k ≤ m ∧ i = .int .i64 k ∧ wr = (w.alloc (.cells (av fun _ => 0) 29)).alloc (.cells (av (upto (fun i => i) k)) 29)) (fun i _ => m - (intOf i).toNat)
  case atStart => exact ⟨0, by omega, rfl, by rw [upto_zero]⟩
  case round =>
    obtain ⟨k, hk, rfl, rfl⟩ := hrel
    by_cases hlt : k < m
    · have h4 := av_get (upto (fun i => i) k) (i := k) (by omega)
      have h3 := av_set (upto (fun i => i) k) k k
      rw [upto_step (fun i => i)] at h3
      go_wp2
      go_roundw
      case rel => exact ⟨k + 1, by omega, by go_num, rfl⟩
      case measure => simp [intOf]; omega
    · obtain rfl : k = m := by omega
      clear hlt hk
      go_wp2
      exact res_agg (p := 2) (g := w.heap.size) aggP (av_size (sameF k)) rfl rfl rfl (heap1 (by simp)) ⟨rfl, below2 _ _ _⟩

end Go.Proofs.Ytmapjjfefjoemaa
namespace Go.Proofs.Ytmapjjfefjoemaa
open Go.RowKit

theorem in_yes (n a b : Int) (w : World) (h1 : a ≤ n) (h2 : n ≤ b) : Calls Try.prog 60 #[.int .i64 n, .int .i64 a, .int .i64 b] w fun e w' => e = .returned (.bool true) ∧ w = w' := by
  go_enter Try.func60, Try.ntmps60
  go_wp2
  go_ret
  exact ⟨by simp, rfl⟩
theorem in_no (n a b : Int) (w : World) (h : ¬ (a ≤ n ∧ n ≤ b)) : Calls Try.prog 60 #[.int .i64 n, .int .i64 a, .int .i64 b] w fun e w' => e = .returned (.bool false) ∧ w = w' := by
  by_cases h1 : a ≤ n
  · have h2 : ¬ n ≤ b := fun c => h ⟨h1, c⟩
    clear h
    go_enter Try.func60, Try.ntmps60
    go_wp2
    go_ret
    exact ⟨by simp, rfl⟩
  · clear h
    go_enter Try.func60, Try.ntmps60
    go_wp2
    go_ret
    exact ⟨by simp, rfl⟩

set_option maxRecDepth 100000 in
set_option maxHeartbeats 400000 in
theorem sPerm_any (f : Nat → Nat) (hf : ∀ i, f i < 256) (n : Int) (w : World) : Calls Try.prog 92 #[.agg (av f), .int .i64 n] w fun e w' => e = .returned (.bool (permB f n)) ∧ Below w.heap.size w w' := by
  by_cases hn : 1 ≤ n ∧ n ≤ 16
  · obtain ⟨m, rfl⟩ := Int.eq_ofNat_of_zero_le (show 0 ≤ n by omega)
    have hm1 : 1 ≤ m := by omega
    have hm2 : m ≤ 16 := by omega
    clear hn
    go_enter Try.func92, Try.ntmps92
    go_wp2_with (go_at_call 60; refine (in_yes _ _ _ _ (by omega) (by omega)).mono ?_; rintro e w' ⟨rfl, rfl⟩)
    rw [← bv_false]
    go_loopw [6] (fun i wr => ∃ k : Nat, k ≤ 16 ∧ i = .int .i64 k ∧ wr = (w.alloc (.cells (av f) 29)).alloc (.cells (bv (metk f (min k m))) 85) ∧ (∀ i, i < k → i < m → f i < m) ∧ (∀ i j, i < j → j < k → j < m → f i ≠ f j) ∧ (∀ i, m ≤ i → i < k → f i = 0))
      (fun i _ => 16 - (intOf i).toNat)
    case atStart => exact ⟨0, by omega, rfl, by rw [Nat.zero_min, metk_zero], by omega, by omega, by omega⟩
    case round =>
      obtain ⟨k, hk, rfl, rfl, hb, hd, hz⟩ := hrel
      have HB := hide hb; clear hb
      have HD := hide hd; clear hd
      have HZ := hide hz; clear hz
      have h256 := hf k
      have HF := hide hf; clear hf
      by_cases hlt : k < 16
      · have h1 := av_get f (i := k) (by omega)
        by_cases hkm : k < m
        · have hmin : min k m = k := by omega
          have hmin' : min (k + 1) m = k + 1 := by omega
          rw [hmin]
          clear hmin
          by_cases hfm : f k < m
          · have h2 := bv_get (metk f k) (i := f k) (by omega)
            rcases hmk : metk f k (f k) with _ | _
            · rw [hmk] at h2
              have h3 := bv_set (metk f k) (f k)
              rw [metk_step] at h3
              have HM := hide hmk; clear hmk
              have HI := hide hmin'; clear hmin'
              go_wp2
              go_roundw
              case rel =>
                refine ⟨k + 1, by omega, by go_num, by rw [HI.out], fun i hi _ => ?_, fun i j hij hj _ e => ?_, by omega⟩
                · by_cases c : i = k
                  · subst c; exact hfm
                  · exact HB.out i (by omega) (by omega)
                · by_cases c : j = k
                  · subst c
                    have : metk f j (f j) = true := (metk_iff f j (f j)).2 ⟨i, hij, e⟩
                    rw [HM.out] at this; cases this
                  · exact HD.out i j hij (by omega) (by omega) e
              case measure => simp [intOf]; omega
            · rw [hmk] at h2
              have HM := hide hmk; clear hmk hmin'
              have hno : ¬ PermN f m := by
                rintro ⟨_, _, hbj, _⟩
                obtain ⟨i, hi, e⟩ := (metk_iff f k (f k)).1 HM.out
                have := hbj.2 i k (by omega) (by omega) e
                omega
              have HN := hide (permB_no hno); clear hno
              go_wp2
              go_ret
              exact ⟨by rw [HN.out]; rfl, below2 _ _ _⟩
          · have hno : ¬ PermN f m := by
              rintro ⟨_, _, hbj, _⟩
              exact hfm (hbj.1 k (by omega))
            have hd : decide (m ≤ f k) = true := by simp; omega
            have HN := hide (permB_no hno); clear hno hmin'
            go_wp2
            go_ret
            exact ⟨by rw [HN.out]; rfl, below2 _ _ _⟩
        · have hmin : min k m = m := by omega
          have hmin' : min (k + 1) m = m := by omega
          rw [hmin]
          have HI := hide hmin'; clear hmin hmin'
          by_cases hf0 : f k = 0
          · have h0 : ((f k : Int) != 0) = false := by simp [hf0]
            have H0 := hide hf0; clear hf0
            go_wp2
            go_roundw
            case rel =>
              refine ⟨k + 1, by omega, by go_num, by rw [HI.out], fun i hi h => HB.out i (by omega) h, fun i j hij hj h => HD.out i j hij (by omega) h, fun i hi h => ?_⟩
              by_cases c : i = k
              · subst c; exact H0.out
              · exact HZ.out i hi (by omega)
            case measure => simp [intOf]; omega
          · have h0 : ((f k : Int) != 0) = true := by simp [hf0]
            have hno : ¬ PermN f m := by
              rintro ⟨_, _, _, hz0⟩
              exact hf0 (hz0 k (by omega) (by omega))
            have HN := hide (permB_no hno); clear hno hf0
            go_wp2
            go_ret
            exact ⟨by rw [HN.out]; rfl, below2 _ _ _⟩
      · obtain rfl : k = 16 := by omega
        clear hlt hk
        have hyes : PermN f m := by
          refine ⟨hm1, hm2, ⟨fun x hx => HB.out x (by omega) hx, fun x y hx hy e => ?_⟩, fun i h1 h2 => HZ.out i h1 h2⟩
          rcases Nat.lt_trichotomy x y with c | c | c
          · exact absurd e (HD.out x y c (by omega) hy)
          · exact c
          · exact absurd e.symm (HD.out y x c (by omega) hx)
        have HN := hide (permB_yes hyes); clear hyes
        go_wp2
        go_ret
        exact ⟨by rw [HN.out]; rfl, below2 _ _ _⟩
  · rw [permB_out hn]
    go_enter Try.func92, Try.ntmps92
    go_wp2_with (go_at_call 60; refine (in_no _ _ _ _ hn).mono ?_; rintro e w' ⟨rfl, rfl⟩)
    go_ret
    exact ⟨rfl, below1 _ _⟩

end Go.Proofs.Ytmapjjfefjoemaa

namespace Go.Proofs.Ytmapjjfefjoemaa
open Go.RowKit

@[irreducible] def dv (n : Int) (f g : Nat → Nat) : Array Value := row 33 fun i => if i = 0 then .int .i64 n else if i < 17 then .int .u8 (f (i - 1)) else .int .u8 (g (i - 17))
theorem dv_size (n : Int) (f g : Nat → Nat) : (dv n f g).size = 33 := by unfold dv; exact row_size _ _
theorem dv_n (n : Int) (f g : Nat → Nat) : (dv n f g)[0]? = some (.int .i64 n) := by unfold dv; rw [row_get _ _ (by omega)]; rfl
theorem dv_b (n : Int) (f g : Nat → Nat) {i : Nat} (h : i < 16) : (dv n f g)[1 + i]? = some (.int .u8 (f i)) := by
  unfold dv; rw [row_get _ _ (by omega), if_neg (by omega), if_pos (by omega), show 1 + i - 1 = i from by omega]
theorem dv_w (n : Int) (f g : Nat → Nat) {i : Nat} (h : i < 16) : (dv n f g)[17 + i]? = some (.int .u8 (g i)) := by
  unfold dv; rw [row_get _ _ (by omega), if_neg (by omega), if_neg (by omega), show 17 + i - 17 = i from by omega]
theorem dv_zero : dv 0 (fun _ => 0) (fun _ => 0) = #[Value.int .i64 0, Value.int .u8 0, Value.int .u8 0, Value.int .u8 0, Value.int .u8 0, Value.int .u8 0, Value.int .u8 0, Value.int .u8 0, Value.int .u8 0, Value.int .u8 0, Value.int .u8 0, Value.int .u8 0, Value.int .u8 0, Value.int .u8 0, Value.int .u8 0, Value.int .u8 0, Value.int .u8 0, Value.int .u8 0, Value.int .u8 0, Value.int .u8 0, Value.int .u8 0, Value.int .u8 0, Value.int .u8 0, Value.int .u8 0, Value.int .u8 0, Value.int .u8 0, Value.int .u8 0, Value.int .u8 0, Value.int .u8 0, Value.int .u8 0, Value.int .u8 0, Value.int .u8 0, Value.int .u8 0] := by unfold dv row; rfl
theorem dv_lit (n : Int) : dv n (fun _ => 0) (fun _ => 0) = #[Value.int .i64 n, Value.int .u8 0, Value.int .u8 0, Value.int .u8 0, Value.int .u8 0, Value.int .u8 0, Value.int .u8 0, Value.int .u8 0, Value.int .u8 0, Value.int .u8 0, Value.int .u8 0, Value.int .u8 0, Value.int .u8 0, Value.int .u8 0, Value.int .u8 0, Value.int .u8 0, Value.int .u8 0, Value.int .u8 0, Value.int .u8 0, Value.int .u8 0, Value.int .u8 0, Value.int .u8 0, Value.int .u8 0, Value.int .u8 0, Value.int .u8 0, Value.int .u8 0, Value.int .u8 0, Value.int .u8 0, Value.int .u8 0, Value.int .u8 0, Value.int .u8 0, Value.int .u8 0, Value.int .u8 0] := by unfold dv row; rfl
theorem dv_cells (n : Int) (f g : Nat → Nat) : (dv n f g).all (·.oneCell') = true := by
  unfold dv row
  simp only [List.all_toArray, List.all_map, List.all_eq_true, Function.comp]
  intro i _
  split
  · rfl
  · split <;> rfl

def Is33 (c : Array Value) : Prop := c.size = 33
@[go_sem] theorem is33_dv (n : Int) (f g : Nat → Nat) : Is33 (dv n f g) ↔ True := ⟨fun _ => trivial, fun _ => dv_size n f g⟩
@[go_sem] theorem is33_lit (x0 x1 x2 x3 x4 x5 x6 x7 x8 x9 x10 x11 x12 x13 x14 x15 x16 x17 x18 x19 x20 x21 x22 x23 x24 x25 x26 x27 x28 x29 x30 x31 x32 : Value) : Is33 #[x0, x1, x2, x3, x4, x5, x6, x7, x8, x9, x10, x11, x12, x13, x14, x15, x16, x17, x18, x19, x20, x21, x22, x23, x24, x25, x26, x27, x28, x29, x30, x31, x32] ↔ True := ⟨fun _ => trivial, fun _ => rfl⟩
@[go_sem] theorem ones_dv (n : Int) (f g : Nat → Nat) : Ones (dv n f g) ↔ True := ⟨fun _ => trivial, fun _ => dv_cells n f g⟩
@[go_sem] theorem ones_z33 : Ones #[Value.int .i64 0, Value.int .u8 0, Value.int .u8 0, Value.int .u8 0, Value.int .u8 0, Value.int .u8 0, Value.int .u8 0, Value.int .u8 0, Value.int .u8 0, Value.int .u8 0, Value.int .u8 0, Value.int .u8 0, Value.int .u8 0, Value.int .u8 0, Value.int .u8 0, Value.int .u8 0, Value.int .u8 0, Value.int .u8 0, Value.int .u8 0, Value.int .u8 0, Value.int .u8 0, Value.int .u8 0, Value.int .u8 0, Value.int .u8 0, Value.int .u8 0, Value.int .u8 0, Value.int .u8 0, Value.int .u8 0, Value.int .u8 0, Value.int .u8 0, Value.int .u8 0, Value.int .u8 0, Value.int .u8 0] ↔ True := ⟨fun _ => trivial, fun _ => by unfold Ones; simp [Value.oneCell']⟩
@[go_sem] theorem rowOk_at33 {w : World} {g : Nat} {c : Array Value} {t : TypeId} (h : g = w.heap.size) (hc : Is33 c) : rowOk (w.alloc (.cells c t)) g 33 ↔ True := ⟨fun _ => trivial, fun _ => ⟨c, t, heap_at _ _ _ h, hc⟩⟩

@[go_sem] theorem cellsOf_ne {w : World} {g g' : Nat} {c' : Array Value} (h : g ≠ g') : cellsOf (w.setRow g' c') g = cellsOf w g := cellsOf_setRow_ne h
@[go_sem] theorem cellsOf_same33 {w : World} {g : Nat} {c' : Array Value} (h : rowOk w g 33) : cellsOf (w.setRow g c') g = c' := cellsOf_setRow h
@[go_sem] theorem cellsOf_same16 {w : World} {g : Nat} {c' : Array Value} (h : rowOk w g 16) : cellsOf (w.setRow g c') g = c' := cellsOf_setRow h
@[go_sem] theorem rowOk_ne {w : World} {g g' n : Nat} {c' : Array Value} (h : g ≠ g') : rowOk (w.setRow g' c') g n ↔ rowOk w g n := rowOk_setRow_ne h
@[go_sem] theorem rowOk_same33 {w : World} {g : Nat} {c' : Array Value} (h : rowOk w g 33) (hc : Is33 c') : rowOk (w.setRow g c') g 33 ↔ True := ⟨fun _ => trivial, fun _ => rowOk_setRow h hc⟩
@[go_sem] theorem rowOk_same16 {w : World} {g : Nat} {c' : Array Value} (h : rowOk w g 16) (hc : Is16 c') : rowOk (w.setRow g c') g 16 ↔ True := ⟨fun _ => trivial, fun _ => rowOk_setRow h hc⟩
/-- Black and White of thirty-three cells -/
def blackOf (c : Array Value) : Array Value := c.extract 1 17
def whiteOf (c : Array Value) : Array Value := c.extract 17 33
def setBlack (c b : Array Value) : Array Value := (c.toList.take 1 ++ b.toList ++ c.toList.drop 17).toArray
def setWhite (c b : Array Value) : Array Value := (c.toList.take 17 ++ b.toList ++ c.toList.drop 33).toArray
theorem get_cases (n : Int) (f g : Nat → Nat) (i : Nat) : (dv n f g)[i]? = if i < 33 then some (if i = 0 then .int .i64 n else if i < 17 then .int .u8 (f (i - 1)) else .int .u8 (g (i - 17))) else none := by
  unfold dv
  by_cases h : i < 33
  · rw [row_get _ _ h, if_pos h]
  · rw [row_none _ _ h, if_neg h]
theorem av_cases (f : Nat → Nat) (i : Nat) : (av f)[i]? = if i < 16 then some (.int .u8 (f i)) else none := by
  by_cases h : i < 16
  · rw [av_get _ h, if_pos h]
  · rw [if_neg h, Array.getElem?_eq_none]; rw [av_size]; omega
@[go_sem] theorem blackOf_dv (n : Int) (f g : Nat → Nat) : blackOf (dv n f g) = av f := by
  apply Array.ext_getElem?
  intro i
  unfold blackOf
  rw [Array.getElem?_extract, get_cases, av_cases, dv_size]
  by_cases h : i < 16
  · rw [if_pos (by omega), if_pos (by omega), if_neg (by omega), if_pos (by omega), if_pos h, show 1 + i - 1 = i from by omega]
  · rw [if_neg (by omega), if_neg h]
@[go_sem] theorem whiteOf_dv (n : Int) (f g : Nat → Nat) : whiteOf (dv n f g) = av g := by
  apply Array.ext_getElem?
  intro i
  unfold whiteOf
  rw [Array.getElem?_extract, get_cases, av_cases, dv_size]
  by_cases h : i < 16
  · rw [if_pos (by omega), if_pos (by omega), if_neg (by omega), if_neg (by omega), if_pos h, show 17 + i - 17 = i from by omega]
  · rw [if_neg (by omega), if_neg h]
@[go_sem] theorem setBlack_dv (n : Int) (f g b : Nat → Nat) : setBlack (dv n f g) (av b) = dv n b g := by
  apply Array.ext_getElem?
  intro i
  have l1 : (dv n f g).toList.length = 33 := by simpa using dv_size n f g
  have l2 : (av b).toList.length = 16 := by simpa using av_size b
  unfold setBlack
  rw [List.getElem?_toArray, get_cases]
  by_cases h0 : i < 1
  · rw [List.getElem?_append_left (by simp [l1]; omega), List.getElem?_append_left (by simp [l1]; omega), List.getElem?_take_of_lt (by omega), Array.getElem?_toList, get_cases]
    rw [if_pos (by omega), if_pos (by omega), if_pos (by omega), if_pos (by omega)]
  · by_cases h1 : i < 17
    · rw [List.getElem?_append_left (by simp [l1, l2, av_size]; omega), List.getElem?_append_right (by simp [l1]; omega), Array.getElem?_toList, av_cases]
      have e : i - (List.take 1 (dv n f g).toList).length = i - 1 := by simp [l1, dv_size]
      rw [e, if_pos (by omega), if_pos (by omega), if_neg (by omega), if_pos h1]
    · rw [List.getElem?_append_right (by simp [l1, l2, av_size, dv_size]; omega), List.getElem?_drop, Array.getElem?_toList, get_cases]
      have e : 17 + (i - (List.take 1 (dv n f g).toList ++ (av b).toList).length) = i := by simp [l1, l2, av_size, dv_size]; omega
      rw [e]
      by_cases h2 : i < 33
      · rw [if_pos h2, if_pos h2, if_neg (by omega), if_neg (by omega), if_neg (by omega), if_neg (by omega)]
      · rw [if_neg h2, if_neg h2]
@[go_sem] theorem setWhite_dv (n : Int) (f g b : Nat → Nat) : setWhite (dv n f g) (av b) = dv n f b := by
  apply Array.ext_getElem?
  intro i
  have l1 : (dv n f g).toList.length = 33 := by simpa using dv_size n f g
  have l2 : (av b).toList.length = 16 := by simpa using av_size b
  unfold setWhite
  rw [List.getElem?_toArray, get_cases]
  by_cases h0 : i < 17
  · rw [List.getElem?_append_left (by simp [l1, dv_size, av_size]; omega), List.getElem?_append_left (by simp [l1, dv_size]; omega), List.getElem?_take_of_lt (by omega), Array.getElem?_toList, get_cases]
    by_cases h : i = 0
    · simp [h]
    · simp [h, h0, show i < 33 from by omega]
  · by_cases h1 : i < 33
    · rw [List.getElem?_append_left (by simp [l1, l2, av_size, dv_size]; omega), List.getElem?_append_right (by simp [l1, dv_size]; omega), Array.getElem?_toList, av_cases]
      have e : i - (List.take 17 (dv n f g).toList).length = i - 17 := by simp [l1, dv_size]
      rw [e, if_pos (by omega), if_pos (by omega), if_neg (by omega), if_neg (by omega)]
    · rw [List.getElem?_append_right (by simp [l1, l2, av_size, dv_size]; omega), List.getElem?_drop, Array.getElem?_toList, get_cases, if_neg (by omega), if_neg h1]

theorem aggD : AggT 31 33 := ⟨⟨_, Try.underlying31, rfl⟩, by kernel_rfl⟩
theorem aggL : AggT 24 33 := ⟨⟨_, Try.underlying24, rfl⟩, by kernel_rfl⟩

/-- sixteen cells out of the midst of a block, and into it -/
theorem run_load_mid {T n : Nat} (hT : AggT T n) {w : World} {g o : Nat} {cs : Array Value} (h : (cellsOf w g).extract o (o + n) = cs) (hs : cs.size = n) :
    (loadT T (.pointer (some ⟨g, o, none⟩))).run Try.prog w = .ok (.value (.agg cs)) w := by
  obtain ⟨d, hd, hd'⟩ := hT.und
  have := run_loadVar_mid (P := Try.prog) w g o T cs.toList d (fun j v hv => by
    rw [cell_of_cells]
    rw [← h] at hv
    simp only [Array.getElem?_toList, Array.getElem?_extract] at hv
    split at hv
    · exact hv
    · cases hv) hd (by cases d <;> first | rfl | simp at hd') (by rw [Array.length_toList, hs]; exact hT.siz)
  simp only [loadT, Instr.loadAt, Instr.sureAddr, Sem.run_bind, Sem.run_pure, Result.andThen_ok, this]
theorem run_store_mid {T n m : Nat} (hT : AggT T n) {w : World} {g o : Nat} {cs : Array Value} (h : rowOk w g m) (hm : o + n ≤ m) (hs : cs.size = n) (hc : cs.all (·.oneCell') = true) :
    (storeT T (.pointer (some ⟨g, o, none⟩)) (.agg cs)).run Try.prog w = .ok .skip (w.setRow g ((cellsOf w g).toList.take o ++ cs.toList ++ (cellsOf w g).toList.drop (o + n)).toArray) := by
  obtain ⟨t, h1, h2⟩ := h.heap
  have := run_storeCells_at (P := Try.prog) g o t cs.toList 0 (cellsOf w g) w h1 (by simp [hs, h2]; omega) (fun v hv => (Array.all_eq_true_iff_forall_mem.1 hc) v (by simpa using hv))
  rcases hq : Try.prog.info? T with _ | i
  · have := hT.siz; rw [hq] at this; cases this
  · have hi : i.size = n := by have := hT.siz; rw [hq] at this; simpa using this
    simp only [Nat.add_zero, Array.length_toList, hs] at this
    simp only [storeT, Instr.storeAt, Instr.sureAddr, storeVar, sizeOf, typeInfo, hq, Value.cells, Sem.run_bind, Sem.run_pure, Result.andThen_ok, run_program, hs, hi, ne_eq, not_true_eq_false, if_false, this]

section
variable (ρ : Operand → Value) (dst : Option Tmp) (x y : Operand) (ty : TypeId) (pos : String) (after : Array Edge) (guard : Option (Nat × Bool))
@[go_sem ↓] theorem exec_loadD : execOp ρ { dst, op := .load 31 x, type := ty, pos, after, guard } = loadT 31 (ρ x) := rfl
@[go_sem ↓] theorem exec_storeD : execOp ρ { dst, op := .store 31 x y, type := ty, pos, after, guard } = storeT 31 (ρ x) (ρ y) := rfl
@[go_sem ↓] theorem exec_loadL : execOp ρ { dst, op := .load 24 x, type := ty, pos, after, guard } = loadT 24 (ρ x) := rfl
end
section
variable {w : World} {g : Nat} {cs : Array Value}
@[go_sem] theorem run_loadD (h : Is33 (cellsOf w g)) : (loadT 31 (.pointer (some ⟨g, 0, none⟩))).run Try.prog w = .ok (.value (.agg (cellsOf w g))) w := run_loadT aggD h (by decide)
@[go_sem] theorem run_loadL (h : Is33 (cellsOf w g)) : (loadT 24 (.pointer (some ⟨g, 0, none⟩))).run Try.prog w = .ok (.value (.agg (cellsOf w g))) w := run_loadT aggL h (by decide)
@[go_sem] theorem run_storeD (h : rowOk w g 33) (hs : Is33 cs) (hc : Ones cs) :
    (storeT 31 (.pointer (some ⟨g, 0, none⟩)) (.agg cs)).run Try.prog w = .ok .skip (w.setRow g cs) := run_storeT aggD h hs hc
@[go_sem] theorem run_loadPb (h : Is16 (blackOf (cellsOf w g))) : (loadT 29 (.pointer (some ⟨g, 1, none⟩))).run Try.prog w = .ok (.value (.agg (blackOf (cellsOf w g)))) w := run_load_mid aggP rfl h
@[go_sem] theorem run_loadPw (h : Is16 (whiteOf (cellsOf w g))) : (loadT 29 (.pointer (some ⟨g, 17, none⟩))).run Try.prog w = .ok (.value (.agg (whiteOf (cellsOf w g)))) w := run_load_mid aggP rfl h
@[go_sem] theorem run_loadAb (h : Is16 (blackOf (cellsOf w g))) : (loadT 22 (.pointer (some ⟨g, 1, none⟩))).run Try.prog w = .ok (.value (.agg (blackOf (cellsOf w g)))) w := run_load_mid aggA rfl h
@[go_sem] theorem run_loadAw (h : Is16 (whiteOf (cellsOf w g))) : (loadT 22 (.pointer (some ⟨g, 17, none⟩))).run Try.prog w = .ok (.value (.agg (whiteOf (cellsOf w g)))) w := run_load_mid aggA rfl h
@[go_sem] theorem run_storePb (h : rowOk w g 33) (hs : Is16 cs) (hc : Ones cs) :
    (storeT 29 (.pointer (some ⟨g, 1, none⟩)) (.agg cs)).run Try.prog w = .ok .skip (w.setRow g (setBlack (cellsOf w g) cs)) := run_store_mid aggP h (by decide) hs hc
@[go_sem] theorem run_storePw (h : rowOk w g 33) (hs : Is16 cs) (hc : Ones cs) :
    (storeT 29 (.pointer (some ⟨g, 17, none⟩)) (.agg cs)).run Try.prog w = .ok .skip (w.setRow g (setWhite (cellsOf w g) cs)) := run_store_mid aggP h (by decide) hs hc
end

end Go.Proofs.Ytmapjjfefjoemaa

namespace Go.Proofs.Ytmapjjfefjoemaa
open Go.RowKit

theorem below_setCell {B g : Nat} {w0 w : World} (h : Below B w0 w) (hg : B ≤ g) (i : Nat) (v : Value) : Below B w0 (w.setCell ⟨g, i, none⟩ v) :=
  ⟨h.os, h.tape, h.output, by have := h.size; simpa using this, fun k hk => (Below.heap_setCell w ⟨g, i, none⟩ v k (fun e => by have : k = g := e; omega)).trans (h.block k hk)⟩
theorem dv_setb (n : Int) (f g : Nat → Nat) {i : Nat} (v : Nat) (h : i < 16) : (dv n f g).setIfInBounds (1 + i) (.int .u8 v) = dv n (fset f i v) g := by
  unfold dv
  rw [row_set]
  apply row_congr
  intro j _
  unfold fset
  by_cases c : j = 1 + i
  · rw [if_pos c, if_neg (by omega), if_pos (by omega), if_pos (by omega)]
  · rw [if_neg c]
    by_cases d : j = 0
    · rw [if_pos d, if_pos d]
    · rw [if_neg d, if_neg d]
      by_cases e : j < 17
      · rw [if_pos e, if_pos e, if_neg (by omega)]
      · rw [if_neg e, if_neg e]
theorem dv_setw (n : Int) (f g : Nat → Nat) {i : Nat} (v : Nat) (h : i < 16) : (dv n f g).setIfInBounds (17 + i) (.int .u8 v) = dv n f (fset g i v) := by
  unfold dv
  rw [row_set]
  apply row_congr
  intro j _
  unfold fset
  by_cases c : j = 17 + i
  · rw [if_pos c, if_neg (by omega), if_neg (by omega), if_pos (by omega)]
  · rw [if_neg c]
    by_cases d : j = 0
    · rw [if_pos d, if_pos d]
    · rw [if_neg d, if_neg d]
      by_cases e : j < 17
      · rw [if_pos e, if_pos e]
      · rw [if_neg e, if_neg e, if_neg (by omega)]

end Go.Proofs.Ytmapjjfefjoemaa

namespace Go.Proofs.Ytmapjjfefjoemaa
open Go.RowKit

def yb (x : Int) : Nat := (x % 256).toNat
theorem yb_cast (x : Int) : ((yb x : Nat) : Int) = x % 256 := by unfold yb; omega
def prs (l : List Int) : List (Nat × Nat) := (List.range l.length).map fun i => ((l.getD i 0).toNat, yb (l.getD ((i + 1) % l.length) 0))
def outP (m : Nat) (P : List (Nat × Nat)) : Nat → Nat := P.foldl (fun f p => fset f p.1 p.2) (sameF m)
theorem outP_snoc (m : Nat) (P : List (Nat × Nat)) (q : Nat × Nat) : outP m (P ++ [q]) = fset (outP m P) q.1 q.2 := by simp [outP]
theorem prs_succ (l : List Int) {i : Nat} (hi : i < l.length) : (prs l).take (i + 1) = (prs l).take i ++ [((l[i]).toNat, yb (l[(i + 1) % l.length]'(Nat.mod_lt _ (by omega))))] := by
  have hl : (prs l).length = l.length := by simp [prs]
  rw [List.take_succ_eq_append_getElem (by omega)]
  congr 2
  have h2 : (i + 1) % l.length < l.length := Nat.mod_lt _ (by omega)
  simp [prs, List.getD_eq_getElem?_getD, hi, h2]
theorem prs_all (l : List Int) : (prs l).take l.length = prs l := List.take_of_length_le (by simp [prs])
def inR (m : Nat) (D : List Int) : Prop := (∀ x ∈ D, 0 ≤ x ∧ x < (m : Int)) ∧ D.Nodup
theorem inR.sub {m : Nat} {D E : List Int} (h : inR m E) (hs : D.Sublist E) : inR m D := ⟨fun x hx => h.1 x (hs.subset hx), hs.nodup h.2⟩
theorem inR.snoc {m : Nat} {D : List Int} {x : Int} (h : inR m D) (h0 : 0 ≤ x) (h1 : x < m) (h2 : x ∉ D) : inR m (D ++ [x]) := by
  refine ⟨fun y hy => ?_, ?_⟩
  · rcases List.mem_append.1 hy with c | c
    · exact h.1 y c
    · rw [List.mem_singleton.1 c]; exact ⟨h0, h1⟩
  · rw [List.nodup_append]
    refine ⟨h.2, by simp, fun a ha b hb e => ?_⟩
    rw [List.mem_singleton.1 hb] at e
    exact h2 (e ▸ ha)
def goodC (m : Nat) (ls : List (List Int)) : Prop := (∀ l ∈ ls, l ≠ []) ∧ inR m ls.flatten
theorem flat_succ (ls : List (List Int)) {j : Nat} (hj : j < ls.length) : (ls.take (j + 1)).flatten = (ls.take j).flatten ++ ls[j] := by
  rw [List.take_succ_eq_append_getElem hj, List.flatten_append, List.flatten_cons, List.flatten_nil, List.append_nil]
theorem prs_flat (ls : List (List Int)) {j : Nat} (hj : j < ls.length) : (ls.take (j + 1)).flatMap prs = (ls.take j).flatMap prs ++ prs ls[j] := by
  rw [List.take_succ_eq_append_getElem hj, List.flatMap_append, List.flatMap_cons, List.flatMap_nil, List.append_nil]
theorem flat_sub (ls : List (List Int)) {j i : Nat} (hj : j < ls.length) (hi : i < ls[j].length) : ((ls.take j).flatten ++ ls[j].take i ++ [ls[j][i]]).Sublist ls.flatten := by
  have e : ls[j].take i ++ [ls[j][i]] = ls[j].take (i + 1) := (List.take_succ_eq_append_getElem hi).symm
  rw [List.append_assoc, e]
  have h1 : ((ls.take j).flatten ++ ls[j].take (i + 1)).Sublist ((ls.take (j + 1)).flatten) := by
    rw [flat_succ ls hj]
    exact List.Sublist.append (List.Sublist.refl _) (List.take_sublist _ _)
  refine h1.trans ?_
  conv => rhs; rw [← List.take_append_drop (j + 1) ls, List.flatten_append]
  exact List.sublist_append_left _ _
def metB (D : List Int) : Nat → Bool := fun y => decide ((y : Int) ∈ D)
theorem metB_snoc (D : List Int) (y : Nat) : mset (metB D) y = metB (D ++ [(y : Int)]) := by
  funext z
  unfold mset metB
  by_cases c : z = y
  · subst c; simp
  · have : ¬ (z : Int) = (y : Int) := by omega
    simp [c, this]
theorem metB_nil : metB [] = fun _ => false := by funext z; simp [metB]

/-- what the program and the model have made: the result's cell, the places, what has been used -/
structure PW (w wr : World) (G : Nat) (f : Nat → Nat) (b : Nat → Bool) : Prop where
  low : Below w.heap.size w wr
  res : rowOk wr w.heap.size 16
  out : wr.heap[G]? = some (.cells (av f) 29 (0, 0))
  met : wr.heap[G + 1]? = some (.cells (bv b) 85 (0, 0))
  pos : w.heap.size < G
theorem PW.setB {w wr : World} {G : Nat} {f : Nat → Nat} {b : Nat → Bool} (h : PW w wr G f b) (y : Nat) : PW w (wr.setCell ⟨G + 1, y, none⟩ (.bool true)) G f (mset b y) := by
  have hp := h.pos
  refine ⟨below_setCell h.low (by omega) _ _, rowOk_setCell h.res, ?_, ?_, hp⟩
  · rw [Below.heap_setCell wr ⟨G + 1, y, none⟩ _ _ (show G ≠ G + 1 by omega)]; exact h.out
  · rw [heap_setCell_same _ _ _ _ _ _ h.met, bv_set]
theorem PW.setO {w wr : World} {G : Nat} {f : Nat → Nat} {b : Nat → Bool} (h : PW w wr G f b) (y v : Nat) : PW w (wr.setCell ⟨G, y, none⟩ (.int .u8 v)) G (fset f y v) b := by
  have hp := h.pos
  refine ⟨below_setCell h.low (by omega) _ _, rowOk_setCell h.res, ?_, ?_, hp⟩
  · rw [heap_setCell_same _ _ _ _ _ _ h.out, av_set]
  · rw [Below.heap_setCell wr ⟨G, y, none⟩ _ _ (show G + 1 ≠ G by omega)]; exact h.met
open Classical in
noncomputable def pocR (ls : List (List Int)) (n : Int) : Value := if 1 ≤ n ∧ n ≤ 16 ∧ goodC n.toNat ls then .tuple #[.agg (av (outP n.toNat (ls.flatMap prs))), .int .i64 0] else .tuple #[.agg (av fun _ => 0), .int .i64 2]
theorem pocR_eq (ls : List (List Int)) (n : Int) : ∃ (r : Nat → Nat) (c : Int), pocR ls n = .tuple #[.agg (av r), .int .i64 c] := by
  unfold pocR; split
  · exact ⟨_, _, rfl⟩
  · exact ⟨_, _, rfl⟩

-- left out here: loop.example/g01200/impl.PlacesOfCycles
end Go.Proofs.Ytmapjjfefjoemaa

namespace Go.Proofs.Ytmapjjfefjoemaa
open Go.RowKit

theorem PW.drew {w wr : World} {G : Nat} {f : Nat → Nat} {b : Nat → Bool} (h : PW w wr G f b) : PW w wr.drew G f b := ⟨h.low.drew, h.res, h.out, h.met, h.pos⟩
theorem in_any (n a b : Int) (w : World) : Calls Try.prog 60 #[.int .i64 n, .int .i64 a, .int .i64 b] w fun e w' => e = .returned (.bool (decide (a ≤ n ∧ n ≤ b))) ∧ w = w' := by
  by_cases h : a ≤ n ∧ n ≤ b
  · rw [decide_eq_true h]; exact in_yes n a b w h.1 h.2
  · rw [decide_eq_false h]; exact in_no n a b w h
open Classical in
noncomputable def madeR (ls : List (List Int)) (n : Int) : Value := if 1 ≤ n ∧ n ≤ 16 ∧ goodC n.toNat ls then .tuple #[.agg (av (outP n.toNat (ls.flatMap prs))), .bool true] else .tuple #[.agg (av fun _ => 0), .bool false]

-- left out here: loop.example/g01200/spec.l01Made
-- left out here: loop.example/g01200/spec.PlacesOfCycles
end Go.Proofs.Ytmapjjfefjoemaa
