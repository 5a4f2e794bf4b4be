/- Texts put together: Val, ValS, Vow, LVow -/
import Derived.Test.YtlmhnimpglookaaQeLawValueOfWord
import Derived.Test.YtlmhnimpglookaaChecked
import Derived.WalkKit
import Derived.WalkSpells
import Derived.WalkLawsBesides
import Derived.Deep.LoopGhost
import Derived.Deep.OwnRows
import Derived.Laws.Rows
import Derived.Laws.Tables
import Derived.Laws.CopyOwn
import Derived.ProofKit
import Derived.OpenShut
import Derived.ShutString
import Derived.ChangeOld
import Derived.Below
import Derived.Laws.OwnMore
import Derived.Laws.CopyRow
import Derived.Deep.MidRow
import Derived.BigQuiet
import Derived.Deep.QuietTactic
import Derived.RegionTactic
import Derived.Deep.RegionWith
import Derived.Maps.Keyed
import Derived.DeepKeys4
import Derived.Maps.Own
import Derived.Carry
import Derived.Deep.Quiet
import Derived.StillTail
import Derived.ChangeKeysEq
import Derived.StillTailTactics
import Derived.Deep.RegionHeld3
import Derived.Laws.Cover3
import Derived.Lib.Bytealg
import Derived.Lib.BytesEntry
import Derived.Laws.Externs
import Derived.Laws.StructEq
import Derived.OwnWalk
import Derived.ChangeSlices
import Derived.Deep.Slices
import Derived.WideShapes
import Derived.Laws.RangeAny
namespace Go.Proofs.Ytlmhnimpglookaa
open Go.RowKit

theorem ltr_eq (m : Nat) (f g : Nat → Nat) (c : Nat) : ltr m f g c = if c = 98 then some f else if c = 66 then some (backF f m) else if c = 119 then some g else if c = 87 then some (backF g m) else if c = 102 then some (faceF f g m) else if c = 70 then some (backF (faceF f g m) m) else none := rfl
theorem sameF_perm' {m : Nat} (h1 : 1 ≤ m) (hm : m ≤ 16) : PermN (sameF m) m := by
  have e : ∀ x, x < m → sameF m x = x := fun x hx => by unfold sameF upto; rw [if_pos hx]
  refine ⟨h1, hm, ⟨fun x hx => by rw [e x hx]; exact hx, fun x y hx hy h => by rwa [e x hx, e y hy] at h⟩, fun i hi _ => by unfold sameF upto; rw [if_neg (by omega)]⟩
noncomputable def valO (r : Option (Nat → Nat)) (c : Value) (c0 : Value) : Value := match r with
  | some v => .tuple #[.agg (av v), c]
  | none => .tuple #[.agg (av fun _ => 0), c0]

set_option maxRecDepth 100000 in
set_option maxHeartbeats 4000000 in
theorem l03Value_any (f g : Nat → Nat) (m : Nat) (hd : DesN f g m) (s : ByteArray) (w : World) :
    Calls Try.prog 74 #[.agg (dv m f g), .string s] w fun e w' => e = .returned (valO (wordR m f g s) (.bool true) (.bool false)) ∧ Below w.heap.size w w' := by
  have hm := hd.le
  have hm1 := hd.pos
  have H0 := ((Holds.start w).blk (dv m f g) 44 w.heap.size rfl).blk (av fun _ => 0) 42 (w.heap.size + 1) (by simp)
  have hn' := dv_n m f g
  by_cases h60 : s.size ≤ 60
  · have hr : wordR m f g s = valW m f g (lets s 0) (sameF m) := by unfold wordR; rw [if_pos h60]
    rw [hr]
    have hgt : decide ((60 : Int) < (s.size : Int)) = false := decide_eq_false (by omega)
    obtain ⟨RES, hRES⟩ : ∃ RES, RES = valW m f g (lets s 0) (sameF m) := ⟨_, rfl⟩
    rw [← hRES]
    have HRES := hide hRES; clear hRES hr
    have CF := hide fun w => sFace_any f g m hd.le hd.bf.1 hd.bg.1 w
    have CS := hide fun w => sSame_any m hm w
    have HFP := hide hd.face
    have HLP := hide (fun (c : Nat) (p : Nat → Nat) (h : ltr m f g c = some p) => ltr_perm hd.black hd.white h)
    have HFG := hide (And.intro hd.black hd.white)
    clear hd
    generalize hFE : faceF f g m = F at *
    have HFE := hide hFE; clear hFE
    go_enter Try.func74, Try.ntmps74
    go_wp2
    rw [← av_zero]
    apply Rd.region_R2 (w0 := w) [pBlk (w.heap.size + 1) (av fun _ => 0) 42, pBlk w.heap.size (dv m f g) 44] [pBlk (w.heap.size + 1) (av fun _ => 0) 42, pBlk w.heap.size (dv m f g) 44] [7, 8, 10, 11] (.q 0 <| .q 1 <| .q 2 <| .q 3 <| .q 4 <| .q 5 <| .q 6 <| .s2 7 (.s1 8 <| .q 9 <| .s1 10 <| .s1 11 .fin) 8 (.s1 7 <| .q 9 <| .s1 10 <| .s1 11 .fin)) H0 (.refl _) (by kernel_rfl) (by kernel_rfl) (by kernel_rfl) (F := fun (k7 k8 : Nat) => pBlk k8 (av (sameF m)) 42 :: pBlk k7 (av F) 42 :: [pBlk (w.heap.size + 1) (av fun _ => 0) 42, pBlk w.heap.size (dv m f g) 44])
    case h =>
      intro K key
      apply Rd.v_q
      · simp only [List.getElem?_toArray, List.getElem?_cons_zero, List.getElem?_cons_succ]; exact rfl
      · rfl
      · go_simp
      · intro wx hx
        have q0 := hx.cells 1 rfl
        have q1 := hx.cell 1 rfl hn'
        unfold atG
        go_simp
        simp only [uponG]
        exact ⟨by trivial, rfl⟩
      apply Rd.v_q
      · simp only [List.getElem?_toArray, List.getElem?_cons_zero, List.getElem?_cons_succ]; exact rfl
      · rfl
      · go_simp
      · intro wx hx
        have q0 := hx.cells 1 rfl
        have q1 := hx.cell 1 rfl hn'
        unfold atG
        go_simp
        simp only [uponG]
        exact ⟨by trivial, rfl⟩
      apply Rd.v_q
      · simp only [List.getElem?_toArray, List.getElem?_cons_zero, List.getElem?_cons_succ]; exact rfl
      · rfl
      · go_simp
      · intro wx hx
        have q0 := hx.cells 1 rfl
        have q1 := hx.cell 1 rfl hn'
        unfold atG
        go_simp
        simp only [uponG]
        exact ⟨by trivial, rfl⟩
      apply Rd.v_q
      · simp only [List.getElem?_toArray, List.getElem?_cons_zero, List.getElem?_cons_succ]; exact rfl
      · rfl
      · go_simp
      · intro wx hx
        have q0 := hx.cells 1 rfl
        have q1 := hx.cell 1 rfl hn'
        unfold atG
        go_simp
        simp only [uponG]
        exact ⟨by trivial, CF.out wx⟩
      apply Rd.v_q
      · simp only [List.getElem?_toArray, List.getElem?_cons_zero, List.getElem?_cons_succ]; exact rfl
      · rfl
      · go_simp
      · intro wx hx
        have q0 := hx.cells 1 rfl
        have q1 := hx.cell 1 rfl hn'
        unfold atG
        go_simp
        simp only [uponG]
        exact ⟨by trivial, rfl⟩
      apply Rd.v_q
      · simp only [List.getElem?_toArray, List.getElem?_cons_zero, List.getElem?_cons_succ]; exact rfl
      · rfl
      · go_simp
      · intro wx hx
        have q0 := hx.cells 1 rfl
        have q1 := hx.cell 1 rfl hn'
        unfold atG
        go_simp
        simp only [uponG]
        exact ⟨by trivial, rfl⟩
      apply Rd.v_q
      · simp only [List.getElem?_toArray, List.getElem?_cons_zero, List.getElem?_cons_succ]; exact rfl
      · rfl
      · go_simp
      · intro wx hx
        have q0 := hx.cells 1 rfl
        have q1 := hx.cell 1 rfl hn'
        unfold atG
        go_simp
        simp only [uponG]
        exact ⟨by trivial, CS.out wx⟩
      refine ⟨?_, ?_⟩
      · refine Rd.v_box (av fun _ => 0) 42 (by simp only [List.getElem?_toArray, List.getElem?_cons_zero, List.getElem?_cons_succ]; exact rfl) rfl (by go_simp) (fun wx hx hD => by rw [av_zero]; go_simp) fun g7 => ?_
        refine Rd.v_box (av fun _ => 0) 42 (by simp only [List.getElem?_toArray, List.getElem?_cons_zero, List.getElem?_cons_succ]; exact rfl) rfl (by go_simp) (fun wx hx hD => by rw [av_zero]; go_simp) fun g8 => ?_
        apply Rd.v_q
        · simp only [List.getElem?_toArray, List.getElem?_cons_zero, List.getElem?_cons_succ]; exact rfl
        · rfl
        · go_simp
        · intro wx hx
          unfold atG
          go_simp
          simp only [uponG]
          exact ⟨by trivial, rfl⟩
        refine Rd.v_put 1 g7 (av fun _ => 0) (av F) 42 rfl (.cons _ (.cons _ (.refl _))) (by simp only [List.getElem?_toArray, List.getElem?_cons_zero, List.getElem?_cons_succ]; exact rfl) rfl (by go_simp) (fun wx hx hD => ?_) ?_
        · have rr := hD.rowOk 1 rfl (av_size _)
          go_simp
        refine Rd.v_put 0 g8 (av fun _ => 0) (av (sameF m)) 42 rfl (.cons _ (.cons _ (.refl _))) (by simp only [List.getElem?_toArray, List.getElem?_cons_zero, List.getElem?_cons_succ]; exact rfl) rfl (by go_simp) (fun wx hx hD => ?_) ?_
        · have rr := hD.rowOk 0 rfl (av_size _)
          go_simp
        rintro w4 - hx4
        go_simp
        exact key g7 g8 _ (hx4)
      · refine Rd.v_box (av fun _ => 0) 42 (by simp only [List.getElem?_toArray, List.getElem?_cons_zero, List.getElem?_cons_succ]; exact rfl) rfl (by go_simp) (fun wx hx hD => by rw [av_zero]; go_simp) fun g8 => ?_
        refine Rd.v_box (av fun _ => 0) 42 (by simp only [List.getElem?_toArray, List.getElem?_cons_zero, List.getElem?_cons_succ]; exact rfl) rfl (by go_simp) (fun wx hx hD => by rw [av_zero]; go_simp) fun g7 => ?_
        apply Rd.v_q
        · simp only [List.getElem?_toArray, List.getElem?_cons_zero, List.getElem?_cons_succ]; exact rfl
        · rfl
        · go_simp
        · intro wx hx
          unfold atG
          go_simp
          simp only [uponG]
          exact ⟨by trivial, rfl⟩
        refine Rd.v_put 0 g7 (av fun _ => 0) (av F) 42 rfl (.cons _ (.cons _ (.refl _))) (by simp only [List.getElem?_toArray, List.getElem?_cons_zero, List.getElem?_cons_succ]; exact rfl) rfl (by go_simp) (fun wx hx hD => ?_) ?_
        · have rr := hD.rowOk 0 rfl (av_size _)
          go_simp
        refine Rd.v_put 1 g8 (av fun _ => 0) (av (sameF m)) 42 rfl (.cons _ (.cons _ (.refl _))) (by simp only [List.getElem?_toArray, List.getElem?_cons_zero, List.getElem?_cons_succ]; exact rfl) rfl (by go_simp) (fun wx hx hD => ?_) ?_
        · have rr := hD.rowOk 1 rfl (av_size _)
          go_simp
        rintro w4 - hx4
        go_simp
        exact key g7 g8 _ (hx4.perm (List.Perm.swap _ _ _))
    intro g7 g8 w4 H4
    clear H0
    go_wp2
    go_loopw [9] (fun t wr => ∃ (i : Nat) (v : Nat → Nat), i ≤ s.size ∧ t = .int .i64 i ∧ PermN v m ∧ RES = valW m f g (lets s i) v ∧ Holds w wr [pBlk g8 (av v) 42, pBlk g7 (av F) 42, pBlk (w.heap.size + 1) (av fun _ => 0) 42, pBlk w.heap.size (dv m f g) 44]) (fun t _ => s.size - (intOf t).toNat)
    case atStart => exact ⟨0, sameF m, by omega, rfl, sameF_perm' hm1 hm, HRES.out, H4⟩
    case round =>
      clear H4 HRES
      obtain ⟨i, v, hi, rfl, hv, hres, hH⟩ := hrel
      by_cases hlt : i < s.size
      · have hlt' : (i : Int) < s.size := by omega
        rw [lets_at s hlt, valW] at hres
        have hix : 0 ≤ (i : Int) ∧ (i : Int) < s.size := by omega
        obtain ⟨c, hc⟩ : ∃ c, c = (s[i]'hlt).toNat := ⟨_, rfl⟩
        rw [← hc] at hres
        have hc256 : c < 256 := by rw [hc]; exact (s[i]'hlt).toNat_lt
        have hcs : (s[i]'hlt).toNat = c := hc.symm
        have HC := hide hc; clear hc
        have hvl := fun i (hi : i < m) => hv.lt i (by omega)
        have HV := hide (And.intro hv hvl); clear hv hvl
        have hl := ltr_eq m f g c
        rw [HFE.out] at hl
        by_cases e98 : c = 98
        · rw [if_pos e98] at hl
          rw [hl] at hres
          simp only at hres
          have hpp := HLP.out _ _ hl
          have hp2 := thenF_perm HV.out.1 hpp
          have HRS := hide (And.intro hres hp2); clear hres hp2 hl
          have t98 : (((c : Nat) : Int) == 98) = true := by subst e98; rfl
          have t97 : decide (((c : Nat) : Int) < 97) = false := by subst e98; rfl
          have CT := hide fun w => sThen_any v f m hm HV.out.2 w
          clear e98 hpp
          have H1 := hH.blk (av f) 42 wr.heap.size rfl
          have Hz := hH.blk (av fun _ => 0) 42 wr.heap.size rfl
          have d8 := H1.cells 1 rfl
          have d7 := Hz.cells 2 rfl
          have dd := Hz.cells 4 rfl
          have rrz := Hz.rowOk 0 rfl (av_size _)
          rw [av_zero] at d7 dd rrz
          clear Hz
          have H3 := H1
          have d10 := H1.cells 0 rfl
          clear H1
          go_wp2_with fail
          refine (CT.out _).mono ?_
          rintro e w6 ⟨rfl, hb6⟩
          have H4 := H3.call hb6
          have H5 := (H4.setRow 1 rfl (av (thenF v f m))).tail
          have rr6 := H4.rowOk 1 rfl (av_size _)
          clear hb6 H3 d8 d10 hH d7 dd rrz
          go_wp2
          go_roundw
          case rel => exact ⟨i + 1, thenF v f m, by omega, by go_num, HRS.out.2, HRS.out.1, H5⟩
          case measure => simp [intOf]; omega
        by_cases e66 : c = 66
        · rw [if_neg e98, if_pos e66] at hl
          rw [hl] at hres
          simp only at hres
          have hpp := HLP.out _ _ hl
          have hp2 := thenF_perm HV.out.1 hpp
          have HRS := hide (And.intro hres hp2); clear hres hp2 hl
          have t98 : (((c : Nat) : Int) == 98) = false := by subst e66; rfl
          have t66 : (((c : Nat) : Int) == 66) = true := by subst e66; rfl
          have t97 : decide (((c : Nat) : Int) < 97) = true := by subst e66; rfl
          have CT := hide fun w => sThen_any v (backF f m) m hm HV.out.2 w
          have CB := hide fun w => sBack_any f m hm (fun i hi => (HFG.out.1).lt i (by omega)) w
          clear e98 e66 hpp
          have H1 := hH.blk (av f) 42 wr.heap.size rfl
          have Hz := hH.blk (av fun _ => 0) 42 wr.heap.size rfl
          have d8 := H1.cells 1 rfl
          have d7 := Hz.cells 2 rfl
          have dd := Hz.cells 4 rfl
          have rrz := Hz.rowOk 0 rfl (av_size _)
          rw [av_zero] at d7 dd rrz
          clear Hz
          have d10 := H1.cells 0 rfl
          go_wp2_with fail
          refine (CB.out _).mono ?_
          rintro e w5 ⟨rfl, hb⟩
          have H2 := H1.call hb
          have H3 := H2.setRow 0 rfl (av (backF f m))
          have rr := H2.rowOk 0 rfl (av_size _)
          clear hb H1 hH d8 d7 dd d10 rrz
          have d8 := H3.cells 1 rfl
          have d10 := H3.cells 0 rfl
          go_wp2_with fail
          refine (CT.out _).mono ?_
          rintro e w6 ⟨rfl, hb6⟩
          have H4 := H3.call hb6
          have H5 := (H4.setRow 1 rfl (av (thenF v (backF f m) m))).tail
          have rr6 := H4.rowOk 1 rfl (av_size _)
          clear hb6 H3 d8 d10
          go_wp2
          go_roundw
          case rel => exact ⟨i + 1, thenF v (backF f m) m, by omega, by go_num, HRS.out.2, HRS.out.1, H5⟩
          case measure => simp [intOf]; omega
        by_cases e119 : c = 119
        · rw [if_neg e98, if_neg e66, if_pos e119] at hl
          rw [hl] at hres
          simp only at hres
          have hpp := HLP.out _ _ hl
          have hp2 := thenF_perm HV.out.1 hpp
          have HRS := hide (And.intro hres hp2); clear hres hp2 hl
          have t98 : (((c : Nat) : Int) == 98) = false := by subst e119; rfl
          have t66 : (((c : Nat) : Int) == 66) = false := by subst e119; rfl
          have t119 : (((c : Nat) : Int) == 119) = true := by subst e119; rfl
          have t97 : decide (((c : Nat) : Int) < 97) = false := by subst e119; rfl
          have CT := hide fun w => sThen_any v g m hm HV.out.2 w
          clear e98 e66 e119 hpp
          have H1 := hH.blk (av g) 42 wr.heap.size rfl
          have Hz := hH.blk (av fun _ => 0) 42 wr.heap.size rfl
          have d8 := H1.cells 1 rfl
          have d7 := Hz.cells 2 rfl
          have dd := Hz.cells 4 rfl
          have rrz := Hz.rowOk 0 rfl (av_size _)
          rw [av_zero] at d7 dd rrz
          clear Hz
          have H3 := H1
          have d10 := H1.cells 0 rfl
          clear H1
          go_wp2_with fail
          refine (CT.out _).mono ?_
          rintro e w6 ⟨rfl, hb6⟩
          have H4 := H3.call hb6
          have H5 := (H4.setRow 1 rfl (av (thenF v g m))).tail
          have rr6 := H4.rowOk 1 rfl (av_size _)
          clear hb6 H3 d8 d10 hH d7 dd rrz
          go_wp2
          go_roundw
          case rel => exact ⟨i + 1, thenF v g m, by omega, by go_num, HRS.out.2, HRS.out.1, H5⟩
          case measure => simp [intOf]; omega
        by_cases e87 : c = 87
        · rw [if_neg e98, if_neg e66, if_neg e119, if_pos e87] at hl
          rw [hl] at hres
          simp only at hres
          have hpp := HLP.out _ _ hl
          have hp2 := thenF_perm HV.out.1 hpp
          have HRS := hide (And.intro hres hp2); clear hres hp2 hl
          have t98 : (((c : Nat) : Int) == 98) = false := by subst e87; rfl
          have t66 : (((c : Nat) : Int) == 66) = false := by subst e87; rfl
          have t119 : (((c : Nat) : Int) == 119) = false := by subst e87; rfl
          have t87 : (((c : Nat) : Int) == 87) = true := by subst e87; rfl
          have t97 : decide (((c : Nat) : Int) < 97) = true := by subst e87; rfl
          have CT := hide fun w => sThen_any v (backF g m) m hm HV.out.2 w
          have CB := hide fun w => sBack_any g m hm (fun i hi => (HFG.out.2).lt i (by omega)) w
          clear e98 e66 e119 e87 hpp
          have H1 := hH.blk (av g) 42 wr.heap.size rfl
          have Hz := hH.blk (av fun _ => 0) 42 wr.heap.size rfl
          have d8 := H1.cells 1 rfl
          have d7 := Hz.cells 2 rfl
          have dd := Hz.cells 4 rfl
          have rrz := Hz.rowOk 0 rfl (av_size _)
          rw [av_zero] at d7 dd rrz
          clear Hz
          have d10 := H1.cells 0 rfl
          go_wp2_with fail
          refine (CB.out _).mono ?_
          rintro e w5 ⟨rfl, hb⟩
          have H2 := H1.call hb
          have H3 := H2.setRow 0 rfl (av (backF g m))
          have rr := H2.rowOk 0 rfl (av_size _)
          clear hb H1 hH d8 d7 dd d10 rrz
          have d8 := H3.cells 1 rfl
          have d10 := H3.cells 0 rfl
          go_wp2_with fail
          refine (CT.out _).mono ?_
          rintro e w6 ⟨rfl, hb6⟩
          have H4 := H3.call hb6
          have H5 := (H4.setRow 1 rfl (av (thenF v (backF g m) m))).tail
          have rr6 := H4.rowOk 1 rfl (av_size _)
          clear hb6 H3 d8 d10
          go_wp2
          go_roundw
          case rel => exact ⟨i + 1, thenF v (backF g m) m, by omega, by go_num, HRS.out.2, HRS.out.1, H5⟩
          case measure => simp [intOf]; omega
        by_cases e102 : c = 102
        · rw [if_neg e98, if_neg e66, if_neg e119, if_neg e87, if_pos e102] at hl
          rw [hl] at hres
          simp only at hres
          have hpp := HLP.out _ _ hl
          have hp2 := thenF_perm HV.out.1 hpp
          have HRS := hide (And.intro hres hp2); clear hres hp2 hl
          have t98 : (((c : Nat) : Int) == 98) = false := by subst e102; rfl
          have t66 : (((c : Nat) : Int) == 66) = false := by subst e102; rfl
          have t119 : (((c : Nat) : Int) == 119) = false := by subst e102; rfl
          have t87 : (((c : Nat) : Int) == 87) = false := by subst e102; rfl
          have t102 : (((c : Nat) : Int) == 102) = true := by subst e102; rfl
          have t97 : decide (((c : Nat) : Int) < 97) = false := by subst e102; rfl
          have CT := hide fun w => sThen_any v F m hm HV.out.2 w
          clear e98 e66 e119 e87 e102 hpp
          have H1 := hH.blk (av F) 42 wr.heap.size rfl
          have Hz := hH.blk (av fun _ => 0) 42 wr.heap.size rfl
          have d8 := H1.cells 1 rfl
          have d7 := Hz.cells 2 rfl
          have dd := Hz.cells 4 rfl
          have rrz := Hz.rowOk 0 rfl (av_size _)
          rw [av_zero] at d7 dd rrz
          clear Hz
          have H3 := H1
          have d10 := H1.cells 0 rfl
          clear H1
          go_wp2_with fail
          refine (CT.out _).mono ?_
          rintro e w6 ⟨rfl, hb6⟩
          have H4 := H3.call hb6
          have H5 := (H4.setRow 1 rfl (av (thenF v F m))).tail
          have rr6 := H4.rowOk 1 rfl (av_size _)
          clear hb6 H3 d8 d10 hH d7 dd rrz
          go_wp2
          go_roundw
          case rel => exact ⟨i + 1, thenF v F m, by omega, by go_num, HRS.out.2, HRS.out.1, H5⟩
          case measure => simp [intOf]; omega
        by_cases e70 : c = 70
        · rw [if_neg e98, if_neg e66, if_neg e119, if_neg e87, if_neg e102, if_pos e70] at hl
          rw [hl] at hres
          simp only at hres
          have hpp := HLP.out _ _ hl
          have hp2 := thenF_perm HV.out.1 hpp
          have HRS := hide (And.intro hres hp2); clear hres hp2 hl
          have t98 : (((c : Nat) : Int) == 98) = false := by subst e70; rfl
          have t66 : (((c : Nat) : Int) == 66) = false := by subst e70; rfl
          have t119 : (((c : Nat) : Int) == 119) = false := by subst e70; rfl
          have t87 : (((c : Nat) : Int) == 87) = false := by subst e70; rfl
          have t102 : (((c : Nat) : Int) == 102) = false := by subst e70; rfl
          have t70 : (((c : Nat) : Int) == 70) = true := by subst e70; rfl
          have t97 : decide (((c : Nat) : Int) < 97) = true := by subst e70; rfl
          have CT := hide fun w => sThen_any v (backF F m) m hm HV.out.2 w
          have CB := hide fun w => sBack_any F m hm (fun i hi => (HFP.out).lt i (by omega)) w
          clear e98 e66 e119 e87 e102 e70 hpp
          have H1 := hH.blk (av F) 42 wr.heap.size rfl
          have Hz := hH.blk (av fun _ => 0) 42 wr.heap.size rfl
          have d8 := H1.cells 1 rfl
          have d7 := Hz.cells 2 rfl
          have dd := Hz.cells 4 rfl
          have rrz := Hz.rowOk 0 rfl (av_size _)
          rw [av_zero] at d7 dd rrz
          clear Hz
          have d10 := H1.cells 0 rfl
          go_wp2_with fail
          refine (CB.out _).mono ?_
          rintro e w5 ⟨rfl, hb⟩
          have H2 := H1.call hb
          have H3 := H2.setRow 0 rfl (av (backF F m))
          have rr := H2.rowOk 0 rfl (av_size _)
          clear hb H1 hH d8 d7 dd d10 rrz
          have d8 := H3.cells 1 rfl
          have d10 := H3.cells 0 rfl
          go_wp2_with fail
          refine (CT.out _).mono ?_
          rintro e w6 ⟨rfl, hb6⟩
          have H4 := H3.call hb6
          have H5 := (H4.setRow 1 rfl (av (thenF v (backF F m) m))).tail
          have rr6 := H4.rowOk 1 rfl (av_size _)
          clear hb6 H3 d8 d10
          go_wp2
          go_roundw
          case rel => exact ⟨i + 1, thenF v (backF F m) m, by omega, by go_num, HRS.out.2, HRS.out.1, H5⟩
          case measure => simp [intOf]; omega
        have hl0 : ltr m f g c = none := by rw [hl, if_neg e98, if_neg e66, if_neg e119, if_neg e87, if_neg e102, if_neg e70]
        rw [hl0] at hres
        simp only at hres
        subst hres
        have t98 : (((c : Nat) : Int) == 98) = false := by rw [beq_eq_false_iff_ne]; omega
        have t66 : (((c : Nat) : Int) == 66) = false := by rw [beq_eq_false_iff_ne]; omega
        have t119 : (((c : Nat) : Int) == 119) = false := by rw [beq_eq_false_iff_ne]; omega
        have t87 : (((c : Nat) : Int) == 87) = false := by rw [beq_eq_false_iff_ne]; omega
        have t102 : (((c : Nat) : Int) == 102) = false := by rw [beq_eq_false_iff_ne]; omega
        have t70 : (((c : Nat) : Int) == 70) = false := by rw [beq_eq_false_iff_ne]; omega
        clear hl hl0 e98 e66 e119 e87 e102 e70
        have Hz := hH.blk (av fun _ => 0) 42 wr.heap.size rfl
        have rr := Hz.rowOk 3 rfl (av_size _)
        rw [av_zero] at rr
        have H6 := (Hz.setRow 3 rfl (av fun _ => 0))
        go_wp2
        (try simp only [Exit.inBlock, Exit.then])
        rw [← av_zero]
        exact res_agg2 (p := 4) (t := 5) (g := w.heap.size + 1) (v := .bool false) aggP (av_size _) rfl rfl rfl rfl (H6.at 3 rfl) ⟨rfl, H6.low⟩
      · have hie : i = s.size := by omega
        have hlt' : ¬ (i : Int) < s.size := by omega
        rw [lets_end s (by omega)] at hres
        simp only [valW] at hres
        subst hres
        clear hie hlt
        have rr := hH.rowOk 2 rfl (av_size _)
        have d8 := hH.cells 0 rfl
        go_wp2
        have ht := (hH.setRow 2 rfl (av v)).at 2 rfl
        exact res_agg2 (p := 4) (t := 5) (g := w.heap.size + 1) (v := .bool true) aggP (av_size _) rfl rfl rfl rfl ht ⟨rfl, (hH.setRow 2 rfl (av v)).low⟩
  · have hr : wordR m f g s = none := by unfold wordR; rw [if_neg h60]
    rw [hr]
    have hgt : decide ((60 : Int) < (s.size : Int)) = true := decide_eq_true (by omega)
    clear hr hd
    go_enter Try.func74, Try.ntmps74
    go_wp2
    rw [← av_zero]
    exact res_agg2 (p := 4) (t := 5) (g := w.heap.size + 1) (v := .bool false) aggP (av_size _) rfl rfl rfl rfl (H0.at 0 rfl) ⟨rfl, H0.low⟩
end Go.Proofs.Ytlmhnimpglookaa

namespace Go.Proofs.Ytlmhnimpglookaa
open Go.RowKit

noncomputable def vowR (n : Int) (f g : Nat → Nat) (s : ByteArray) : Value := if desB n f g then valO (wordR n.toNat f g s) (.int .i64 0) (.int .i64 6) else .tuple #[.agg (av fun _ => 0), .int .i64 1]
theorem vowR_eq (n : Int) (f g : Nat → Nat) (s : ByteArray) : ∃ (r : Nat → Nat) (c : Int), vowR n f g s = .tuple #[.agg (av r), .int .i64 c] := by
  unfold vowR valO
  split
  · split
    · exact ⟨_, _, rfl⟩
    · exact ⟨_, _, rfl⟩
  · exact ⟨_, _, rfl⟩

set_option maxRecDepth 100000 in
set_option maxHeartbeats 1000000 in
theorem sValueOfWord_any (n : Int) (f g : Nat → Nat) (hf : ∀ i, f i < 256) (hg : ∀ i, g i < 256) (s : ByteArray) (w : World) :
    Calls Try.prog 42 #[.agg (dv n f g), .string s] w fun e w' => e = .returned (vowR n f g s) ∧ Below w.heap.size w w' := by
  have C1 := hide fun w => sIs_any n f g hf hg w
  clear hf hg
  have H1 := ((Holds.start w).blk (dv n f g) 44 w.heap.size rfl).blk (av fun _ => 0) 42 (w.heap.size + 1) (by simp)
  rcases h1 : desB n f g with _ | _
  · rw [h1] at C1
    have hr : vowR n f g s = .tuple #[.agg (av fun _ => 0), .int .i64 1] := by unfold vowR; rw [if_neg (by simp [h1])]
    rw [hr]
    clear h1 hr
    rw [av_zero] at H1
    go_enter Try.func42, Try.ntmps42
    go_wp2_with fail
    refine (C1.out _).mono ?_
    rintro e w1 ⟨rfl, hb⟩
    have H2 := H1.call hb
    have rr := H2.rowOk (n := 16) 0 rfl rfl
    rw [← av_zero] at H2
    have H3 := H2.setRow 0 rfl (av fun _ => 0)
    go_wp2
    rw [← av_zero]
    exact res_agg2 (p := 4) (t := 5) (g := w.heap.size + 1) (v := .int .i64 1) aggP (av_size _) rfl rfl rfl rfl (H3.at 0 rfl) ⟨rfl, H3.low⟩
  · rw [h1] at C1
    have hr : vowR n f g s = valO (wordR n.toNat f g s) (.int .i64 0) (.int .i64 6) := by unfold vowR; rw [if_pos h1]
    rw [hr]
    obtain ⟨m, rfl, hd⟩ := desB_true h1
    rw [Int.toNat_natCast]
    clear h1 hr
    have c2 := fun w => l03Value_any f g m hd s w
    clear hd
    rcases hw : wordR m f g s with _ | v
    · rw [hw] at c2
      have C2 := hide c2; clear c2 hw
      show Calls _ _ _ _ fun e w' => e = .returned (.tuple #[.agg (av fun _ => 0), .int .i64 6]) ∧ Below w.heap.size w w'
      rw [av_zero] at H1
      go_enter Try.func42, Try.ntmps42
      go_wp2_with fail
      refine (C1.out _).mono ?_
      rintro e w1 ⟨rfl, hb⟩
      have H2 := H1.call hb
      have dd := H2.cells 1 rfl
      go_wp2_with fail
      refine (C2.out _).mono ?_
      rintro e w2 ⟨rfl, hb2⟩
      simp only [valO]
      have H3 := (H2.call hb2).blk (av fun _ => 0) 42 w2.heap.size rfl
      have rr := H3.rowOk (n := 16) 1 rfl rfl
      rw [← av_zero] at H3
      have H4 := H3.setRow 1 rfl (av fun _ => 0)
      clear hb hb2 dd
      go_wp2
      rw [← av_zero]
      exact res_agg2 (p := 4) (t := 5) (g := w.heap.size + 1) (v := .int .i64 6) aggP (av_size _) rfl rfl rfl rfl (H4.at 1 rfl) ⟨rfl, H4.low⟩
    · rw [hw] at c2
      have C2 := hide c2; clear c2 hw
      show Calls _ _ _ _ fun e w' => e = .returned (.tuple #[.agg (av v), .int .i64 0]) ∧ Below w.heap.size w w'
      rw [av_zero] at H1
      go_enter Try.func42, Try.ntmps42
      go_wp2_with fail
      refine (C1.out _).mono ?_
      rintro e w1 ⟨rfl, hb⟩
      have H2 := H1.call hb
      have dd := H2.cells 1 rfl
      go_wp2_with fail
      refine (C2.out _).mono ?_
      rintro e w2 ⟨rfl, hb2⟩
      simp only [valO]
      have H3 := (H2.call hb2).blk (av v) 42 w2.heap.size rfl
      have rr := H3.rowOk (n := 16) 1 rfl rfl
      have H4 := H3.setRow 1 rfl (av v)
      have d0 := H3.cells 0 rfl
      clear hb hb2 dd
      go_wp2
      exact res_agg2 (p := 4) (t := 5) (g := w.heap.size + 1) (v := .int .i64 0) aggP (av_size _) rfl rfl rfl rfl (H4.at 1 rfl) ⟨rfl, H4.low⟩
end Go.Proofs.Ytlmhnimpglookaa

namespace Go.Proofs.Ytlmhnimpglookaa
open Go.RowKit

section
variable {P : Program} {ops : Array Oper} {rest : List Oper} {o : Oper} {a : Act} {Q : Exit → Act → World → Prop} {w : World}
/-- the next letter of a string that is ranged over -/
theorem nextH (hgd : o.guard = none) (x : Operand) (ho : o.op = .next x true) {w0 : World} {L : List Part} (H : Holds w0 w L) (i : Nat) {g : Nat} {s : ByteArray} {p : Nat} (hi : L[i]? = some (pObj g (.stringIter s p))) (hx : a.eval x = .pointer (some ⟨g, 0, none⟩)) (hp : p < s.size) {C wd : Nat} (hd : Utf8.decode s p = (C, wd))
    (h : ∀ w', Holds w0 w' (L.set i (pObj g (.stringIter s (p + wd)))) → wpList P ops Q rest (a.put o.dst (.tuple #[.bool true, .int .i64 p, .int .i32 C])) w') : wpList P ops Q (o :: rest) a w := by
  refine wpList_plain hgd fun _ hK => ?_
  have hg : w.heap[g]? = some (.stringIter s p) := H.at i hi
  have hgo : (getObj g).run P w = .ok (.stringIter s p) w := by simp [getObj, Sem.run, hg]
  have hso : ∀ o, (setObj g o).run P w = .ok () { w with heap := w.heap.setIfInBounds g o } := fun o => by simp [setObj, Sem.run, hg]
  have hl := lt_of_some hg
  unfold Oper.wp execOp
  simp only [ho, hx, Sem.run_bind, Sem.run_pure, Instr.next, hgo, Result.andThen_ok, if_pos hp, hd, hso, goInt]
  refine hK _ _ (h _ ?_)
  refine H.turn i hi _ ?_ rfl rfl rfl (by simp) (fun j _ hj => ?_) fun j hj => .inl hj
  · show _ = _
    simp [hl]
  · have : g ≠ j := fun e => hj e.symm
    simp [this]
theorem nextEndH (hgd : o.guard = none) (x : Operand) (ho : o.op = .next x true) {w0 : World} {L : List Part} (H : Holds w0 w L) (i : Nat) {g : Nat} {s : ByteArray} {p : Nat} (hi : L[i]? = some (pObj g (.stringIter s p))) (hx : a.eval x = .pointer (some ⟨g, 0, none⟩)) (hp : ¬ p < s.size)
    (h : wpList P ops Q rest (a.put o.dst (.tuple #[.bool false])) w) : wpList P ops Q (o :: rest) a w := by
  refine wpList_plain hgd fun _ hK => ?_
  have hg : w.heap[g]? = some (.stringIter s p) := H.at i hi
  have hgo : (getObj g).run P w = .ok (.stringIter s p) w := by simp [getObj, Sem.run, hg]
  unfold Oper.wp execOp
  simp only [ho, hx, Sem.run_bind, Sem.run_pure, Instr.next, hgo, Result.andThen_ok, if_neg hp]
  exact hK _ _ h
end
theorem letM_cases (m : Nat) (f g : Nat → Nat) (hf : PermN f m) (hg : PermN g m) (c : Nat) : (ltr m f g c = none ∧ letM m f g (faceF f g m) (.int .i32 c) = none) ∨
    ∃ p V, ltr m f g c = some p ∧ letM m f g (faceF f g m) (.int .i32 c) = some V ∧ (V = aftV p m ∨ ∃ q, V = bakV q m ∧ p = backF q m ∧ PermN q m) := by
  rw [ltr_eq, letM_at]
  have hF := faceF_perm hf hg
  by_cases h1 : c = 98
  · subst h1; exact .inr ⟨_, _, rfl, rfl, .inl rfl⟩
  by_cases h2 : c = 66
  · subst h2; exact .inr ⟨_, _, rfl, rfl, .inr ⟨_, rfl, rfl, hf⟩⟩
  by_cases h3 : c = 119
  · subst h3; exact .inr ⟨_, _, rfl, rfl, .inl rfl⟩
  by_cases h4 : c = 87
  · subst h4; exact .inr ⟨_, _, rfl, rfl, .inr ⟨_, rfl, rfl, hg⟩⟩
  by_cases h5 : c = 102
  · subst h5; exact .inr ⟨_, _, rfl, rfl, .inl rfl⟩
  by_cases h6 : c = 70
  · subst h6; exact .inr ⟨_, _, rfl, rfl, .inr ⟨_, rfl, rfl, hF⟩⟩
  refine .inl ⟨?_, ?_⟩
  · simp only [h1, h2, h3, h4, h5, h6, if_false]
  · rw [if_neg (by omega), if_neg (by omega), if_neg (by omega), if_neg (by omega), if_neg (by omega), if_neg (by omega)]
theorem ltr_high (m : Nat) (f g : Nat → Nat) {c : Nat} (h : 128 ≤ c) : ltr m f g c = none := by
  rw [ltr_eq, if_neg (by omega), if_neg (by omega), if_neg (by omega), if_neg (by omega), if_neg (by omega), if_neg (by omega)]
theorem letM_high (m : Nat) (f g F : Nat → Nat) {c : Int} (h : 128 ≤ c) : letM m f g F (.int .i32 c) = none := by
  rw [letM_at, if_neg (by omega), if_neg (by omega), if_neg (by omega), if_neg (by omega), if_neg (by omega), if_neg (by omega)]
theorem iterPos_at {w : World} {g : Nat} {s : ByteArray} {p : Nat} (h : (pObj g (.stringIter s p)).ok w) : w.iterPos g = p := by
  have h' : w.heap[g]? = some (.stringIter s p) := h
  unfold World.iterPos
  rw [h']
theorem zeroFn (w : World) : (zeroValue 80).run Try.prog w = .ok (.nilFunc) w := by
  have h : (Try.prog.info? 80).map (·.zero) = some (some (.nilFunc)) := by kernel_rfl
  rcases hi : Try.prog.info? 80 with _ | i
  · rw [hi] at h; cases h
  · rw [hi] at h
    have hz : i.zero = some (.nilFunc) := by simpa using h
    simp [zeroValue, typeInfo, hi, hz]

set_option maxRecDepth 100000 in
set_option maxHeartbeats 4000000 in
theorem valueOfWord_any (n : Int) (f g : Nat → Nat) (hf : ∀ i, f i < 256) (hg : ∀ i, g i < 256) (s : ByteArray) (w : World) :
    Calls Try.prog 43 #[.agg (dv n f g), .string s] w fun e w' => e = .returned (vowR n f g s) ∧ Below w.heap.size w w' := by
  have C1 := hide fun w => isDessin_any n f g hf hg w
  clear hf hg
  have H1 := ((Holds.start w).blk (dv n f g) 44 w.heap.size rfl).blk (av fun _ => 0) 42 (w.heap.size + 1) (by simp)
  rcases h1 : desB n f g with _ | _
  · rw [h1] at C1
    have hr : vowR n f g s = .tuple #[.agg (av fun _ => 0), .int .i64 1] := by unfold vowR; rw [if_neg (by simp [h1])]
    rw [hr]
    clear h1 hr
    rw [av_zero] at H1
    go_enter Try.func43, Try.ntmps43
    go_wp2_with fail
    refine (C1.out _).mono ?_
    rintro e w1 ⟨rfl, hb⟩
    have H2 := H1.call hb
    have rr := H2.rowOk (n := 16) 0 rfl rfl
    rw [← av_zero] at H2
    have H3 := H2.setRow 0 rfl (av fun _ => 0)
    go_wp2
    rw [← av_zero]
    exact res_agg2 (p := 4) (t := 5) (g := w.heap.size + 1) (v := .int .i64 1) aggP (av_size _) rfl rfl rfl rfl (H3.at 0 rfl) ⟨rfl, H3.low⟩
  rw [h1] at C1
  have hr : vowR n f g s = valO (wordR n.toNat f g s) (.int .i64 0) (.int .i64 6) := by unfold vowR; rw [if_pos h1]
  rw [hr]
  obtain ⟨m, rfl, hd⟩ := desB_true h1
  rw [Int.toNat_natCast]
  clear h1 hr
  have hm := hd.le
  have hm1 := hd.pos
  have hn' := dv_n m f g
  by_cases h60 : s.size ≤ 60
  · have hr : wordR m f g s = valW m f g (lets s 0) (sameF m) := by unfold wordR; rw [if_pos h60]
    rw [hr]
    have hgt : decide ((60 : Int) < (s.size : Int)) = false := decide_eq_false (by omega)
    obtain ⟨RES, hRES⟩ : ∃ RES, RES = valW m f g (lets s 0) (sameF m) := ⟨_, rfl⟩
    rw [← hRES]
    have HRES := hide hRES; clear hRES hr
    have CL := hide fun w => lettersOf_any f g m hm hd.bf.1 hd.bg.1 w
    have CS := hide fun w => stay_any m hm w
    have HLP := hide (fun (c : Nat) (p : Nat → Nat) (h : ltr m f g c = some p) => ltr_perm hd.black hd.white h)
    have HLC := hide (fun (c : Nat) => letM_cases m f g hd.black hd.white c)
    have HLH := hide (fun (c : Int) (h : 128 ≤ c) => letM_high m f g (faceF f g m) h)
    clear hd
    generalize letM m f g (faceF f g m) = M at *
    rw [av_zero] at H1
    go_enter Try.func43, Try.ntmps43
    go_wp2_with fail
    refine (C1.out _).mono ?_
    rintro e w1 ⟨rfl, hb⟩
    have H2 := H1.call hb
    have dd := H2.cells 1 rfl
    clear hb
    go_wp2_with fail
    refine (CL.out _).mono ?_
    rintro e w2 ⟨G, rfl, hb, hG, hM⟩
    have H3 := H2.new hb (pMap Try.prog 21 G M) hM (fun k hk => by cases hk; exact hG)
    clear hb hG hM dd H2 H1
    have n3 := H3.cell 2 rfl hn'
    go_wp2_with fail
    refine (CS.out _).mono ?_
    rintro e w3 ⟨rfl, hb⟩
    have H4 := (H3.call hb).blk (av (sameF m)) 42 w3.heap.size rfl
    have Hz := (H3.call hb).blk (av fun _ => 0) 42 w3.heap.size rfl
    have rrz := Hz.rowOk 0 rfl (av_size _)
    rw [av_zero] at rrz
    clear hb H3 n3 Hz
    have H5 := H4.obj (.stringIter s 0) (w3.heap.size + 1) (by simp)
    rw [← av_zero] at H5
    clear H4
    go_wp2
    generalize w3.heap.size + 1 = G8 at *
    generalize w3.heap.size = G7 at *
    go_loopw [9, 10, 11] (fun _ _ _ wr => ∃ (i : Nat) (v : Nat → Nat), i ≤ s.size ∧ PermN v m ∧ RES = valW m f g (lets s i) v ∧ Holds w wr [pObj G8 (.stringIter s i), pBlk G7 (av v) 42, pMap Try.prog 21 G M, pBlk (w.heap.size + 1) (av fun _ => 0) 42, pBlk w.heap.size (dv m f g) 44]) (fun _ _ _ wr => s.size - wr.iterPos G8)
    case atStart => exact ⟨0, sameF m, by omega, sameF_perm' hm1 hm, HRES.out, H5⟩
    case round =>
      clear H5 HRES
      obtain ⟨i, v, hi, hv, hres, hH⟩ := hrel
      have hip := iterPos_at (hH.at 0 rfl)
      by_cases hlt : i < s.size
      · rw [lets_at s hlt, valW] at hres
        obtain ⟨c, hc⟩ : ∃ c, c = (s[i]'hlt).toNat := ⟨_, rfl⟩
        rw [← hc] at hres
        have hc256 : c < 256 := by rw [hc]; exact (s[i]'hlt).toNat_lt
        by_cases h128 : c < 128
        · have hdec : Utf8.decode s i = (c, 1) := by rw [decode_ascii s i hlt (by omega), hc]
          rcases HLC.out c with ⟨hl, hMc⟩ | ⟨p, V, hl, hMc, hV⟩
          · rw [hl] at hres
            simp only at hres
            clear hc
            go_wp2_with (refine nextH rfl _ rfl hH 0 rfl rfl hlt hdec ?_)
            intro w5 K5
            have lk := run_mlook (c := true) keyedI32 Try.underlying77 zeroFn (K5.at 2 rfl) (isK_i32 (c : Nat) (by omega) (by omega))
            rw [hMc] at lk
            simp only [if_true, Option.getD_none, Option.isSome_none] at lk
            have rrs := K5.rowOk (n := 16) 3 rfl (av_size _)
            have K6 := K5.setRow 3 rfl (av fun _ => 0)
            clear hH
            go_wp2
            rw [← av_zero]
            exact res_agg2 (p := 4) (t := 5) (g := w.heap.size + 1) (v := .int .i64 6) aggP (av_size _) rfl rfl rfl rfl (K6.at 3 rfl) ⟨rfl, K6.low⟩
          · rw [hl] at hres
            simp only at hres
            have hpp := HLP.out _ _ hl
            have hp2 := thenF_perm hv hpp
            have hvl := fun i (hi : i < m) => (show v i < 16 by have := hv.lt i (by omega); omega)
            have HRS := hide (And.intro hres hp2); clear hres hp2
            clear hc
            rcases hV with rfl | ⟨q, rfl, rfl, hq⟩
            · have CA := hide fun w => after_any p v m hm hvl w
              clear hl hpp hv hvl
              go_wp2_with (refine nextH rfl _ rfl hH 0 rfl rfl hlt hdec ?_)
              intro w5 K5
              have lk := run_mlook (c := true) keyedI32 Try.underlying77 zeroFn (K5.at 2 rfl) (isK_i32 (c : Nat) (by omega) (by omega))
              unfold aftV at hMc
              rw [hMc] at lk
              simp only [if_true, Option.getD_some, Option.isSome_some] at lk
              have dv7 := K5.cells 1 rfl
              clear hH
              go_wp2_with fail
              refine (CA.out _).mono ?_
              rintro e w6 ⟨rfl, hb6⟩
              have K6 := K5.call hb6
              have rr7 := K6.rowOk (n := 16) 1 rfl (av_size _)
              have K7 := K6.setRow 1 rfl (av (thenF v p m))
              clear hb6 lk dv7 K5
              go_wp2
              go_roundw
              case rel => exact ⟨i + 1, _, by omega, HRS.out.2, HRS.out.1, K7⟩
              case measure =>
                rw [iterPos_at (K7.at 0 rfl), hip]; omega
            · have CA := hide fun w => backAfter_any q v m hm hvl (fun i hi => (by have := hq.lt i (by omega); omega)) w
              clear hl hpp hv hvl hq
              go_wp2_with (refine nextH rfl _ rfl hH 0 rfl rfl hlt hdec ?_)
              intro w5 K5
              have lk := run_mlook (c := true) keyedI32 Try.underlying77 zeroFn (K5.at 2 rfl) (isK_i32 (c : Nat) (by omega) (by omega))
              unfold bakV at hMc
              rw [hMc] at lk
              simp only [if_true, Option.getD_some, Option.isSome_some] at lk
              have dv7 := K5.cells 1 rfl
              clear hH
              go_wp2_with fail
              refine (CA.out _).mono ?_
              rintro e w6 ⟨rfl, hb6⟩
              have K6 := K5.call hb6
              have rr7 := K6.rowOk (n := 16) 1 rfl (av_size _)
              have K7 := K6.setRow 1 rfl (av (thenF v (backF q m) m))
              clear hb6 lk dv7 K5
              go_wp2
              go_roundw
              case rel => exact ⟨i + 1, _, by omega, HRS.out.2, HRS.out.1, K7⟩
              case measure =>
                rw [iterPos_at (K7.at 0 rfl), hip]; omega
        · have hl := ltr_high m f g (c := c) (by omega)
          rw [hl] at hres
          simp only at hres
          have hh := decode_high s i hlt (by omega)
          have hle := decode_le s i
          obtain ⟨C, wd, hdec⟩ : ∃ C wd, Utf8.decode s i = (C, wd) := ⟨_, _, rfl⟩
          rw [hdec] at hh hle
          simp only at hh hle
          have hMc := HLH.out (C : Nat) (by omega)
          clear hl hc
          go_wp2_with (refine nextH rfl _ rfl hH 0 rfl rfl hlt hdec ?_)
          intro w5 K5
          have lk := run_mlook (c := true) keyedI32 Try.underlying77 zeroFn (K5.at 2 rfl) (isK_i32 (C : Nat) (by omega) (by omega))
          rw [hMc] at lk
          simp only [if_true, Option.getD_none, Option.isSome_none] at lk
          have rrs := K5.rowOk (n := 16) 3 rfl (av_size _)
          have K6 := K5.setRow 3 rfl (av fun _ => 0)
          clear hH
          go_wp2
          rw [← av_zero]
          exact res_agg2 (p := 4) (t := 5) (g := w.heap.size + 1) (v := .int .i64 6) aggP (av_size _) rfl rfl rfl rfl (K6.at 3 rfl) ⟨rfl, K6.low⟩
      · obtain rfl : i = s.size := by omega
        rw [lets_end s (Nat.le_refl _), valW] at hres
        have dv7 := hH.cells 1 rfl
        have rrs := hH.rowOk (n := 16) 3 rfl (av_size _)
        have K6 := hH.setRow 3 rfl (av v)
        go_wp2_with (refine nextEndH rfl _ rfl hH 0 rfl rfl hlt ?_)
        exact res_agg2 (p := 4) (t := 5) (g := w.heap.size + 1) (v := .int .i64 0) aggP (av_size _) rfl rfl rfl rfl (K6.at 3 rfl) ⟨by first | rw [hres]; rfl | rfl, K6.low⟩
  · have hr : wordR m f g s = none := by unfold wordR; rw [if_neg h60]
    rw [hr]
    have hgt : decide ((60 : Int) < (s.size : Int)) = true := decide_eq_true (by omega)
    clear hd hr
    rw [av_zero] at H1
    show Calls _ _ _ _ fun e w' => e = .returned (.tuple #[.agg (av fun _ => 0), .int .i64 6]) ∧ Below w.heap.size w w'
    go_enter Try.func43, Try.ntmps43
    go_wp2_with fail
    refine (C1.out _).mono ?_
    rintro e w1 ⟨rfl, hb⟩
    have H2 := H1.call hb
    have rr := H2.rowOk (n := 16) 0 rfl rfl
    rw [← av_zero] at H2
    have H3 := H2.setRow 0 rfl (av fun _ => 0)
    go_wp2
    rw [← av_zero]
    exact res_agg2 (p := 4) (t := 5) (g := w.heap.size + 1) (v := .int .i64 6) aggP (av_size _) rfl rfl rfl rfl (H3.at 0 rfl) ⟨rfl, H3.low⟩
end Go.Proofs.Ytlmhnimpglookaa

namespace Go.Proofs.Ytlmhnimpglookaa
open Go.RowKit

set_option maxRecDepth 100000 in
set_option maxHeartbeats 1000000 in
theorem fnExactValueOfWord_walk (n : Int) (f g : Nat → Nat) (_hn : -9223372036854775808 ≤ n ∧ n ≤ 9223372036854775807) (hf : ∀ i, f i < 256) (hg : ∀ i, g i < 256) (s : ByteArray) {HW : Prop} (_hw : HW) (w : World) :
    Calls Try.prog 12 #[.agg (dv n f g), .string s] w fun e w' => e = .returned (.bool true) ∧ Below w.heap.size w w' := by
  clear _hn _hw
  by_cases hbig : (s.size : Int) > 1048576
  · have hgt : decide ((1048576 : Int) < (s.size : Int)) = true := decide_eq_true hbig
    go_enter Try.func12, Try.ntmps12
    go_wp2
    go_ret
    exact ⟨rfl, below1 _ _⟩
  have hgt : decide ((1048576 : Int) < (s.size : Int)) = false := decide_eq_false hbig
  obtain ⟨r, c, hR⟩ := vowR_eq n f g s
  have c1 := fun w => valueOfWord_any n f g hf hg s w
  have c2 := fun w => sValueOfWord_any n f g hf hg s w
  rw [hR] at c1 c2
  have C1 := hide c1; clear c1
  have C2 := hide c2; clear c2
  clear hR hf hg hbig
  have hne : (c != c) = false := by simp
  go_enter Try.func12, Try.ntmps12
  go_wp2_with fail
  refine (toDessin_any n f g _).mono ?_
  rintro e w1 ⟨rfl, h1⟩
  go_wp2_with fail
  refine (C2.out _).mono ?_
  rintro e w2 ⟨rfl, h2⟩
  have b2 := (below1 w (.cells (dv n f g) 40)).trans ((h1.trans (h2.mono h1.size)).mono (by simp))
  have s2 : w.heap.size < w2.heap.size := by have := (h1.trans (h2.mono h1.size)).size; simp at this; omega
  have g2 : cellsOf w2 w.heap.size = dv n f g := (below_cells (h1.trans (h2.mono h1.size)) (by simp)).trans (cellsOf_heap (heap_at _ _ _ rfl))
  clear h1 h2
  go_wp2_with fail
  refine (toDessin_any n f g _).mono ?_
  rintro e w3 ⟨rfl, h3⟩
  go_wp2_with fail
  refine (C1.out _).mono ?_
  rintro e w4 ⟨rfl, h4⟩
  have h34 := h3.trans (h4.mono h3.size)
  have g4 : cellsOf w4 w2.heap.size = av r := (below_cells h34 (by simp)).trans (cellsOf_heap (heap_at _ _ _ rfl))
  have s4 : w2.heap.size < w4.heap.size := by have := h34.size; simp at this; omega
  have b4 := (b2.alloc (by omega) (.cells (av r) 42)).trans (h34.mono (by simp <;> omega))
  clear h3 h4 h34 b2 g2
  go_wp2_with fail
  refine (eqPlaces_same r _).mono ?_
  rintro e w5 ⟨rfl, h5⟩
  have b5 := (b4.alloc (by omega) (.cells (av r) 42)).trans (h5.mono (by simp <;> omega))
  clear h5 b4 g4
  go_wp2
  go_ret
  exact ⟨rfl, b5⟩

end Go.Proofs.Ytlmhnimpglookaa
