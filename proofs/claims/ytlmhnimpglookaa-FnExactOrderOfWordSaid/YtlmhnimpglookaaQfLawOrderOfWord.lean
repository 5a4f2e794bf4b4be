/- Texts put together: Val, ValS, Vow, Ord, Com, SCyc, Typ, WOrd, Oow -/
import Derived.Test.YtlmhnimpglookaaQeLawOrderOfWord
import Derived.Test.YtlmhnimpglookaaChecked
import Derived.WalkKit
import Derived.WalkSpells
import Derived.WalkLawsBesides
import Derived.Deep.LoopGhost
import Derived.Deep.OwnRows
import Derived.Laws.Rows
import Derived.Laws.Tables
import Derived.Laws.CopyOwn
import Derived.ProofKit
import Derived.OpenShut
import Derived.ShutString
import Derived.ChangeOld
import Derived.Below
import Derived.Laws.OwnMore
import Derived.Laws.CopyRow
import Derived.Deep.MidRow
import Derived.BigQuiet
import Derived.Deep.QuietTactic
import Derived.RegionTactic
import Derived.Deep.RegionWith
import Derived.Maps.Keyed
import Derived.DeepKeys4
import Derived.Maps.Own
import Derived.Carry
import Derived.Deep.Quiet
import Derived.StillTail
import Derived.ChangeKeysEq
import Derived.StillTailTactics
import Derived.Deep.RegionHeld3
import Derived.Laws.Cover3
import Derived.Lib.Bytealg
import Derived.Lib.BytesEntry
import Derived.Laws.Externs
import Derived.Laws.StructEq
import Derived.OwnWalk
import Derived.ChangeSlices
import Derived.Deep.Slices
import Derived.WideShapes
import Derived.Laws.RangeAny
namespace Go.Proofs.Ytlmhnimpglookaa
open Go.RowKit

theorem ltr_eq (m : Nat) (f g : Nat → Nat) (c : Nat) : ltr m f g c = if c = 98 then some f else if c = 66 then some (backF f m) else if c = 119 then some g else if c = 87 then some (backF g m) else if c = 102 then some (faceF f g m) else if c = 70 then some (backF (faceF f g m) m) else none := rfl
theorem sameF_perm' {m : Nat} (h1 : 1 ≤ m) (hm : m ≤ 16) : PermN (sameF m) m := by
  have e : ∀ x, x < m → sameF m x = x := fun x hx => by unfold sameF upto; rw [if_pos hx]
  refine ⟨h1, hm, ⟨fun x hx => by rw [e x hx]; exact hx, fun x y hx hy h => by rwa [e x hx, e y hy] at h⟩, fun i hi _ => by unfold sameF upto; rw [if_neg (by omega)]⟩
noncomputable def valO (r : Option (Nat → Nat)) (c : Value) (c0 : Value) : Value := match r with
  | some v => .tuple #[.agg (av v), c]
  | none => .tuple #[.agg (av fun _ => 0), c0]

set_option maxRecDepth 100000 in
set_option maxHeartbeats 4000000 in
theorem l03Value_any (f g : Nat → Nat) (m : Nat) (hd : DesN f g m) (s : ByteArray) (w : World) :
    Calls Try.prog 74 #[.agg (dv m f g), .string s] w fun e w' => e = .returned (valO (wordR m f g s) (.bool true) (.bool false)) ∧ Below w.heap.size w w' := by
  have hm := hd.le
  have hm1 := hd.pos
  have H0 := ((Holds.start w).blk (dv m f g) 44 w.heap.size rfl).blk (av fun _ => 0) 42 (w.heap.size + 1) (by simp)
  have hn' := dv_n m f g
  by_cases h60 : s.size ≤ 60
  · have hr : wordR m f g s = valW m f g (lets s 0) (sameF m) := by unfold wordR; rw [if_pos h60]
    rw [hr]
    have hgt : decide ((60 : Int) < (s.size : Int)) = false := decide_eq_false (by omega)
    obtain ⟨RES, hRES⟩ : ∃ RES, RES = valW m f g (lets s 0) (sameF m) := ⟨_, rfl⟩
    rw [← hRES]
    have HRES := hide hRES; clear hRES hr
    have CF := hide fun w => sFace_any f g m hd.le hd.bf.1 hd.bg.1 w
    have CS := hide fun w => sSame_any m hm w
    have HFP := hide hd.face
    have HLP := hide (fun (c : Nat) (p : Nat → Nat) (h : ltr m f g c = some p) => ltr_perm hd.black hd.white h)
    have HFG := hide (And.intro hd.black hd.white)
    clear hd
    generalize hFE : faceF f g m = F at *
    have HFE := hide hFE; clear hFE
    go_enter Try.func74, Try.ntmps74
    go_wp2
    rw [← av_zero]
    apply Rd.region_R2 (w0 := w) [pBlk (w.heap.size + 1) (av fun _ => 0) 42, pBlk w.heap.size (dv m f g) 44] [pBlk (w.heap.size + 1) (av fun _ => 0) 42, pBlk w.heap.size (dv m f g) 44] [7, 8, 10, 11] (.q 0 <| .q 1 <| .q 2 <| .q 3 <| .q 4 <| .q 5 <| .q 6 <| .s2 7 (.s1 8 <| .q 9 <| .s1 10 <| .s1 11 .fin) 8 (.s1 7 <| .q 9 <| .s1 10 <| .s1 11 .fin)) H0 (.refl _) (by kernel_rfl) (by kernel_rfl) (by kernel_rfl) (F := fun (k7 k8 : Nat) => pBlk k8 (av (sameF m)) 42 :: pBlk k7 (av F) 42 :: [pBlk (w.heap.size + 1) (av fun _ => 0) 42, pBlk w.heap.size (dv m f g) 44])
    case h =>
      intro K key
      apply Rd.v_q
      · simp only [List.getElem?_toArray, List.getElem?_cons_zero, List.getElem?_cons_succ]; exact rfl
      · rfl
      · go_simp
      · intro wx hx
        have q0 := hx.cells 1 rfl
        have q1 := hx.cell 1 rfl hn'
        unfold atG
        go_simp
        simp only [uponG]
        exact ⟨by trivial, rfl⟩
      apply Rd.v_q
      · simp only [List.getElem?_toArray, List.getElem?_cons_zero, List.getElem?_cons_succ]; exact rfl
      · rfl
      · go_simp
      · intro wx hx
        have q0 := hx.cells 1 rfl
        have q1 := hx.cell 1 rfl hn'
        unfold atG
        go_simp
        simp only [uponG]
        exact ⟨by trivial, rfl⟩
      apply Rd.v_q
      · simp only [List.getElem?_toArray, List.getElem?_cons_zero, List.getElem?_cons_succ]; exact rfl
      · rfl
      · go_simp
      · intro wx hx
        have q0 := hx.cells 1 rfl
        have q1 := hx.cell 1 rfl hn'
        unfold atG
        go_simp
        simp only [uponG]
        exact ⟨by trivial, rfl⟩
      apply Rd.v_q
      · simp only [List.getElem?_toArray, List.getElem?_cons_zero, List.getElem?_cons_succ]; exact rfl
      · rfl
      · go_simp
      · intro wx hx
        have q0 := hx.cells 1 rfl
        have q1 := hx.cell 1 rfl hn'
        unfold atG
        go_simp
        simp only [uponG]
        exact ⟨by trivial, CF.out wx⟩
      apply Rd.v_q
      · simp only [List.getElem?_toArray, List.getElem?_cons_zero, List.getElem?_cons_succ]; exact rfl
      · rfl
      · go_simp
      · intro wx hx
        have q0 := hx.cells 1 rfl
        have q1 := hx.cell 1 rfl hn'
        unfold atG
        go_simp
        simp only [uponG]
        exact ⟨by trivial, rfl⟩
      apply Rd.v_q
      · simp only [List.getElem?_toArray, List.getElem?_cons_zero, List.getElem?_cons_succ]; exact rfl
      · rfl
      · go_simp
      · intro wx hx
        have q0 := hx.cells 1 rfl
        have q1 := hx.cell 1 rfl hn'
        unfold atG
        go_simp
        simp only [uponG]
        exact ⟨by trivial, rfl⟩
      apply Rd.v_q
      · simp only [List.getElem?_toArray, List.getElem?_cons_zero, List.getElem?_cons_succ]; exact rfl
      · rfl
      · go_simp
      · intro wx hx
        have q0 := hx.cells 1 rfl
        have q1 := hx.cell 1 rfl hn'
        unfold atG
        go_simp
        simp only [uponG]
        exact ⟨by trivial, CS.out wx⟩
      refine ⟨?_, ?_⟩
      · refine Rd.v_box (av fun _ => 0) 42 (by simp only [List.getElem?_toArray, List.getElem?_cons_zero, List.getElem?_cons_succ]; exact rfl) rfl (by go_simp) (fun wx hx hD => by rw [av_zero]; go_simp) fun g7 => ?_
        refine Rd.v_box (av fun _ => 0) 42 (by simp only [List.getElem?_toArray, List.getElem?_cons_zero, List.getElem?_cons_succ]; exact rfl) rfl (by go_simp) (fun wx hx hD => by rw [av_zero]; go_simp) fun g8 => ?_
        apply Rd.v_q
        · simp only [List.getElem?_toArray, List.getElem?_cons_zero, List.getElem?_cons_succ]; exact rfl
        · rfl
        · go_simp
        · intro wx hx
          unfold atG
          go_simp
          simp only [uponG]
          exact ⟨by trivial, rfl⟩
        refine Rd.v_put 1 g7 (av fun _ => 0) (av F) 42 rfl (.cons _ (.cons _ (.refl _))) (by simp only [List.getElem?_toArray, List.getElem?_cons_zero, List.getElem?_cons_succ]; exact rfl) rfl (by go_simp) (fun wx hx hD => ?_) ?_
        · have rr := hD.rowOk 1 rfl (av_size _)
          go_simp
        refine Rd.v_put 0 g8 (av fun _ => 0) (av (sameF m)) 42 rfl (.cons _ (.cons _ (.refl _))) (by simp only [List.getElem?_toArray, List.getElem?_cons_zero, List.getElem?_cons_succ]; exact rfl) rfl (by go_simp) (fun wx hx hD => ?_) ?_
        · have rr := hD.rowOk 0 rfl (av_size _)
          go_simp
        rintro w4 - hx4
        go_simp
        exact key g7 g8 _ (hx4)
      · refine Rd.v_box (av fun _ => 0) 42 (by simp only [List.getElem?_toArray, List.getElem?_cons_zero, List.getElem?_cons_succ]; exact rfl) rfl (by go_simp) (fun wx hx hD => by rw [av_zero]; go_simp) fun g8 => ?_
        refine Rd.v_box (av fun _ => 0) 42 (by simp only [List.getElem?_toArray, List.getElem?_cons_zero, List.getElem?_cons_succ]; exact rfl) rfl (by go_simp) (fun wx hx hD => by rw [av_zero]; go_simp) fun g7 => ?_
        apply Rd.v_q
        · simp only [List.getElem?_toArray, List.getElem?_cons_zero, List.getElem?_cons_succ]; exact rfl
        · rfl
        · go_simp
        · intro wx hx
          unfold atG
          go_simp
          simp only [uponG]
          exact ⟨by trivial, rfl⟩
        refine Rd.v_put 0 g7 (av fun _ => 0) (av F) 42 rfl (.cons _ (.cons _ (.refl _))) (by simp only [List.getElem?_toArray, List.getElem?_cons_zero, List.getElem?_cons_succ]; exact rfl) rfl (by go_simp) (fun wx hx hD => ?_) ?_
        · have rr := hD.rowOk 0 rfl (av_size _)
          go_simp
        refine Rd.v_put 1 g8 (av fun _ => 0) (av (sameF m)) 42 rfl (.cons _ (.cons _ (.refl _))) (by simp only [List.getElem?_toArray, List.getElem?_cons_zero, List.getElem?_cons_succ]; exact rfl) rfl (by go_simp) (fun wx hx hD => ?_) ?_
        · have rr := hD.rowOk 1 rfl (av_size _)
          go_simp
        rintro w4 - hx4
        go_simp
        exact key g7 g8 _ (hx4.perm (List.Perm.swap _ _ _))
    intro g7 g8 w4 H4
    clear H0
    go_wp2
    go_loopw [9] (fun t wr => ∃ (i : Nat) (v : Nat → Nat), i ≤ s.size ∧ t = .int .i64 i ∧ PermN v m ∧ RES = valW m f g (lets s i) v ∧ Holds w wr [pBlk g8 (av v) 42, pBlk g7 (av F) 42, pBlk (w.heap.size + 1) (av fun _ => 0) 42, pBlk w.heap.size (dv m f g) 44]) (fun t _ => s.size - (intOf t).toNat)
    case atStart => exact ⟨0, sameF m, by omega, rfl, sameF_perm' hm1 hm, HRES.out, H4⟩
    case round =>
      clear H4 HRES
      obtain ⟨i, v, hi, rfl, hv, hres, hH⟩ := hrel
      by_cases hlt : i < s.size
      · have hlt' : (i : Int) < s.size := by omega
        rw [lets_at s hlt, valW] at hres
        have hix : 0 ≤ (i : Int) ∧ (i : Int) < s.size := by omega
        obtain ⟨c, hc⟩ : ∃ c, c = (s[i]'hlt).toNat := ⟨_, rfl⟩
        rw [← hc] at hres
        have hc256 : c < 256 := by rw [hc]; exact (s[i]'hlt).toNat_lt
        have hcs : (s[i]'hlt).toNat = c := hc.symm
        have HC := hide hc; clear hc
        have hvl := fun i (hi : i < m) => hv.lt i (by omega)
        have HV := hide (And.intro hv hvl); clear hv hvl
        have hl := ltr_eq m f g c
        rw [HFE.out] at hl
        by_cases e98 : c = 98
        · rw [if_pos e98] at hl
          rw [hl] at hres
          simp only at hres
          have hpp := HLP.out _ _ hl
          have hp2 := thenF_perm HV.out.1 hpp
          have HRS := hide (And.intro hres hp2); clear hres hp2 hl
          have t98 : (((c : Nat) : Int) == 98) = true := by subst e98; rfl
          have t97 : decide (((c : Nat) : Int) < 97) = false := by subst e98; rfl
          have CT := hide fun w => sThen_any v f m hm HV.out.2 w
          clear e98 hpp
          have H1 := hH.blk (av f) 42 wr.heap.size rfl
          have Hz := hH.blk (av fun _ => 0) 42 wr.heap.size rfl
          have d8 := H1.cells 1 rfl
          have d7 := Hz.cells 2 rfl
          have dd := Hz.cells 4 rfl
          have rrz := Hz.rowOk 0 rfl (av_size _)
          rw [av_zero] at d7 dd rrz
          clear Hz
          have H3 := H1
          have d10 := H1.cells 0 rfl
          clear H1
          go_wp2_with fail
          refine (CT.out _).mono ?_
          rintro e w6 ⟨rfl, hb6⟩
          have H4 := H3.call hb6
          have H5 := (H4.setRow 1 rfl (av (thenF v f m))).tail
          have rr6 := H4.rowOk 1 rfl (av_size _)
          clear hb6 H3 d8 d10 hH d7 dd rrz
          go_wp2
          go_roundw
          case rel => exact ⟨i + 1, thenF v f m, by omega, by go_num, HRS.out.2, HRS.out.1, H5⟩
          case measure => simp [intOf]; omega
        by_cases e66 : c = 66
        · rw [if_neg e98, if_pos e66] at hl
          rw [hl] at hres
          simp only at hres
          have hpp := HLP.out _ _ hl
          have hp2 := thenF_perm HV.out.1 hpp
          have HRS := hide (And.intro hres hp2); clear hres hp2 hl
          have t98 : (((c : Nat) : Int) == 98) = false := by subst e66; rfl
          have t66 : (((c : Nat) : Int) == 66) = true := by subst e66; rfl
          have t97 : decide (((c : Nat) : Int) < 97) = true := by subst e66; rfl
          have CT := hide fun w => sThen_any v (backF f m) m hm HV.out.2 w
          have CB := hide fun w => sBack_any f m hm (fun i hi => (HFG.out.1).lt i (by omega)) w
          clear e98 e66 hpp
          have H1 := hH.blk (av f) 42 wr.heap.size rfl
          have Hz := hH.blk (av fun _ => 0) 42 wr.heap.size rfl
          have d8 := H1.cells 1 rfl
          have d7 := Hz.cells 2 rfl
          have dd := Hz.cells 4 rfl
          have rrz := Hz.rowOk 0 rfl (av_size _)
          rw [av_zero] at d7 dd rrz
          clear Hz
          have d10 := H1.cells 0 rfl
          go_wp2_with fail
          refine (CB.out _).mono ?_
          rintro e w5 ⟨rfl, hb⟩
          have H2 := H1.call hb
          have H3 := H2.setRow 0 rfl (av (backF f m))
          have rr := H2.rowOk 0 rfl (av_size _)
          clear hb H1 hH d8 d7 dd d10 rrz
          have d8 := H3.cells 1 rfl
          have d10 := H3.cells 0 rfl
          go_wp2_with fail
          refine (CT.out _).mono ?_
          rintro e w6 ⟨rfl, hb6⟩
          have H4 := H3.call hb6
          have H5 := (H4.setRow 1 rfl (av (thenF v (backF f m) m))).tail
          have rr6 := H4.rowOk 1 rfl (av_size _)
          clear hb6 H3 d8 d10
          go_wp2
          go_roundw
          case rel => exact ⟨i + 1, thenF v (backF f m) m, by omega, by go_num, HRS.out.2, HRS.out.1, H5⟩
          case measure => simp [intOf]; omega
        by_cases e119 : c = 119
        · rw [if_neg e98, if_neg e66, if_pos e119] at hl
          rw [hl] at hres
          simp only at hres
          have hpp := HLP.out _ _ hl
          have hp2 := thenF_perm HV.out.1 hpp
          have HRS := hide (And.intro hres hp2); clear hres hp2 hl
          have t98 : (((c : Nat) : Int) == 98) = false := by subst e119; rfl
          have t66 : (((c : Nat) : Int) == 66) = false := by subst e119; rfl
          have t119 : (((c : Nat) : Int) == 119) = true := by subst e119; rfl
          have t97 : decide (((c : Nat) : Int) < 97) = false := by subst e119; rfl
          have CT := hide fun w => sThen_any v g m hm HV.out.2 w
          clear e98 e66 e119 hpp
          have H1 := hH.blk (av g) 42 wr.heap.size rfl
          have Hz := hH.blk (av fun _ => 0) 42 wr.heap.size rfl
          have d8 := H1.cells 1 rfl
          have d7 := Hz.cells 2 rfl
          have dd := Hz.cells 4 rfl
          have rrz := Hz.rowOk 0 rfl (av_size _)
          rw [av_zero] at d7 dd rrz
          clear Hz
          have H3 := H1
          have d10 := H1.cells 0 rfl
          clear H1
          go_wp2_with fail
          refine (CT.out _).mono ?_
          rintro e w6 ⟨rfl, hb6⟩
          have H4 := H3.call hb6
          have H5 := (H4.setRow 1 rfl (av (thenF v g m))).tail
          have rr6 := H4.rowOk 1 rfl (av_size _)
          clear hb6 H3 d8 d10 hH d7 dd rrz
          go_wp2
          go_roundw
          case rel => exact ⟨i + 1, thenF v g m, by omega, by go_num, HRS.out.2, HRS.out.1, H5⟩
          case measure => simp [intOf]; omega
        by_cases e87 : c = 87
        · rw [if_neg e98, if_neg e66, if_neg e119, if_pos e87] at hl
          rw [hl] at hres
          simp only at hres
          have hpp := HLP.out _ _ hl
          have hp2 := thenF_perm HV.out.1 hpp
          have HRS := hide (And.intro hres hp2); clear hres hp2 hl
          have t98 : (((c : Nat) : Int) == 98) = false := by subst e87; rfl
          have t66 : (((c : Nat) : Int) == 66) = false := by subst e87; rfl
          have t119 : (((c : Nat) : Int) == 119) = false := by subst e87; rfl
          have t87 : (((c : Nat) : Int) == 87) = true := by subst e87; rfl
          have t97 : decide (((c : Nat) : Int) < 97) = true := by subst e87; rfl
          have CT := hide fun w => sThen_any v (backF g m) m hm HV.out.2 w
          have CB := hide fun w => sBack_any g m hm (fun i hi => (HFG.out.2).lt i (by omega)) w
          clear e98 e66 e119 e87 hpp
          have H1 := hH.blk (av g) 42 wr.heap.size rfl
          have Hz := hH.blk (av fun _ => 0) 42 wr.heap.size rfl
          have d8 := H1.cells 1 rfl
          have d7 := Hz.cells 2 rfl
          have dd := Hz.cells 4 rfl
          have rrz := Hz.rowOk 0 rfl (av_size _)
          rw [av_zero] at d7 dd rrz
          clear Hz
          have d10 := H1.cells 0 rfl
          go_wp2_with fail
          refine (CB.out _).mono ?_
          rintro e w5 ⟨rfl, hb⟩
          have H2 := H1.call hb
          have H3 := H2.setRow 0 rfl (av (backF g m))
          have rr := H2.rowOk 0 rfl (av_size _)
          clear hb H1 hH d8 d7 dd d10 rrz
          have d8 := H3.cells 1 rfl
          have d10 := H3.cells 0 rfl
          go_wp2_with fail
          refine (CT.out _).mono ?_
          rintro e w6 ⟨rfl, hb6⟩
          have H4 := H3.call hb6
          have H5 := (H4.setRow 1 rfl (av (thenF v (backF g m) m))).tail
          have rr6 := H4.rowOk 1 rfl (av_size _)
          clear hb6 H3 d8 d10
          go_wp2
          go_roundw
          case rel => exact ⟨i + 1, thenF v (backF g m) m, by omega, by go_num, HRS.out.2, HRS.out.1, H5⟩
          case measure => simp [intOf]; omega
        by_cases e102 : c = 102
        · rw [if_neg e98, if_neg e66, if_neg e119, if_neg e87, if_pos e102] at hl
          rw [hl] at hres
          simp only at hres
          have hpp := HLP.out _ _ hl
          have hp2 := thenF_perm HV.out.1 hpp
          have HRS := hide (And.intro hres hp2); clear hres hp2 hl
          have t98 : (((c : Nat) : Int) == 98) = false := by subst e102; rfl
          have t66 : (((c : Nat) : Int) == 66) = false := by subst e102; rfl
          have t119 : (((c : Nat) : Int) == 119) = false := by subst e102; rfl
          have t87 : (((c : Nat) : Int) == 87) = false := by subst e102; rfl
          have t102 : (((c : Nat) : Int) == 102) = true := by subst e102; rfl
          have t97 : decide (((c : Nat) : Int) < 97) = false := by subst e102; rfl
          have CT := hide fun w => sThen_any v F m hm HV.out.2 w
          clear e98 e66 e119 e87 e102 hpp
          have H1 := hH.blk (av F) 42 wr.heap.size rfl
          have Hz := hH.blk (av fun _ => 0) 42 wr.heap.size rfl
          have d8 := H1.cells 1 rfl
          have d7 := Hz.cells 2 rfl
          have dd := Hz.cells 4 rfl
          have rrz := Hz.rowOk 0 rfl (av_size _)
          rw [av_zero] at d7 dd rrz
          clear Hz
          have H3 := H1
          have d10 := H1.cells 0 rfl
          clear H1
          go_wp2_with fail
          refine (CT.out _).mono ?_
          rintro e w6 ⟨rfl, hb6⟩
          have H4 := H3.call hb6
          have H5 := (H4.setRow 1 rfl (av (thenF v F m))).tail
          have rr6 := H4.rowOk 1 rfl (av_size _)
          clear hb6 H3 d8 d10 hH d7 dd rrz
          go_wp2
          go_roundw
          case rel => exact ⟨i + 1, thenF v F m, by omega, by go_num, HRS.out.2, HRS.out.1, H5⟩
          case measure => simp [intOf]; omega
        by_cases e70 : c = 70
        · rw [if_neg e98, if_neg e66, if_neg e119, if_neg e87, if_neg e102, if_pos e70] at hl
          rw [hl] at hres
          simp only at hres
          have hpp := HLP.out _ _ hl
          have hp2 := thenF_perm HV.out.1 hpp
          have HRS := hide (And.intro hres hp2); clear hres hp2 hl
          have t98 : (((c : Nat) : Int) == 98) = false := by subst e70; rfl
          have t66 : (((c : Nat) : Int) == 66) = false := by subst e70; rfl
          have t119 : (((c : Nat) : Int) == 119) = false := by subst e70; rfl
          have t87 : (((c : Nat) : Int) == 87) = false := by subst e70; rfl
          have t102 : (((c : Nat) : Int) == 102) = false := by subst e70; rfl
          have t70 : (((c : Nat) : Int) == 70) = true := by subst e70; rfl
          have t97 : decide (((c : Nat) : Int) < 97) = true := by subst e70; rfl
          have CT := hide fun w => sThen_any v (backF F m) m hm HV.out.2 w
          have CB := hide fun w => sBack_any F m hm (fun i hi => (HFP.out).lt i (by omega)) w
          clear e98 e66 e119 e87 e102 e70 hpp
          have H1 := hH.blk (av F) 42 wr.heap.size rfl
          have Hz := hH.blk (av fun _ => 0) 42 wr.heap.size rfl
          have d8 := H1.cells 1 rfl
          have d7 := Hz.cells 2 rfl
          have dd := Hz.cells 4 rfl
          have rrz := Hz.rowOk 0 rfl (av_size _)
          rw [av_zero] at d7 dd rrz
          clear Hz
          have d10 := H1.cells 0 rfl
          go_wp2_with fail
          refine (CB.out _).mono ?_
          rintro e w5 ⟨rfl, hb⟩
          have H2 := H1.call hb
          have H3 := H2.setRow 0 rfl (av (backF F m))
          have rr := H2.rowOk 0 rfl (av_size _)
          clear hb H1 hH d8 d7 dd d10 rrz
          have d8 := H3.cells 1 rfl
          have d10 := H3.cells 0 rfl
          go_wp2_with fail
          refine (CT.out _).mono ?_
          rintro e w6 ⟨rfl, hb6⟩
          have H4 := H3.call hb6
          have H5 := (H4.setRow 1 rfl (av (thenF v (backF F m) m))).tail
          have rr6 := H4.rowOk 1 rfl (av_size _)
          clear hb6 H3 d8 d10
          go_wp2
          go_roundw
          case rel => exact ⟨i + 1, thenF v (backF F m) m, by omega, by go_num, HRS.out.2, HRS.out.1, H5⟩
          case measure => simp [intOf]; omega
        have hl0 : ltr m f g c = none := by rw [hl, if_neg e98, if_neg e66, if_neg e119, if_neg e87, if_neg e102, if_neg e70]
        rw [hl0] at hres
        simp only at hres
        subst hres
        have t98 : (((c : Nat) : Int) == 98) = false := by rw [beq_eq_false_iff_ne]; omega
        have t66 : (((c : Nat) : Int) == 66) = false := by rw [beq_eq_false_iff_ne]; omega
        have t119 : (((c : Nat) : Int) == 119) = false := by rw [beq_eq_false_iff_ne]; omega
        have t87 : (((c : Nat) : Int) == 87) = false := by rw [beq_eq_false_iff_ne]; omega
        have t102 : (((c : Nat) : Int) == 102) = false := by rw [beq_eq_false_iff_ne]; omega
        have t70 : (((c : Nat) : Int) == 70) = false := by rw [beq_eq_false_iff_ne]; omega
        clear hl hl0 e98 e66 e119 e87 e102 e70
        have Hz := hH.blk (av fun _ => 0) 42 wr.heap.size rfl
        have rr := Hz.rowOk 3 rfl (av_size _)
        rw [av_zero] at rr
        have H6 := (Hz.setRow 3 rfl (av fun _ => 0))
        go_wp2
        (try simp only [Exit.inBlock, Exit.then])
        rw [← av_zero]
        exact res_agg2 (p := 4) (t := 5) (g := w.heap.size + 1) (v := .bool false) aggP (av_size _) rfl rfl rfl rfl (H6.at 3 rfl) ⟨rfl, H6.low⟩
      · have hie : i = s.size := by omega
        have hlt' : ¬ (i : Int) < s.size := by omega
        rw [lets_end s (by omega)] at hres
        simp only [valW] at hres
        subst hres
        clear hie hlt
        have rr := hH.rowOk 2 rfl (av_size _)
        have d8 := hH.cells 0 rfl
        go_wp2
        have ht := (hH.setRow 2 rfl (av v)).at 2 rfl
        exact res_agg2 (p := 4) (t := 5) (g := w.heap.size + 1) (v := .bool true) aggP (av_size _) rfl rfl rfl rfl ht ⟨rfl, (hH.setRow 2 rfl (av v)).low⟩
  · have hr : wordR m f g s = none := by unfold wordR; rw [if_neg h60]
    rw [hr]
    have hgt : decide ((60 : Int) < (s.size : Int)) = true := decide_eq_true (by omega)
    clear hr hd
    go_enter Try.func74, Try.ntmps74
    go_wp2
    rw [← av_zero]
    exact res_agg2 (p := 4) (t := 5) (g := w.heap.size + 1) (v := .bool false) aggP (av_size _) rfl rfl rfl rfl (H0.at 0 rfl) ⟨rfl, H0.low⟩
end Go.Proofs.Ytlmhnimpglookaa

namespace Go.Proofs.Ytlmhnimpglookaa
open Go.RowKit

noncomputable def vowR (n : Int) (f g : Nat → Nat) (s : ByteArray) : Value := if desB n f g then valO (wordR n.toNat f g s) (.int .i64 0) (.int .i64 6) else .tuple #[.agg (av fun _ => 0), .int .i64 1]
theorem vowR_eq (n : Int) (f g : Nat → Nat) (s : ByteArray) : ∃ (r : Nat → Nat) (c : Int), vowR n f g s = .tuple #[.agg (av r), .int .i64 c] := by
  unfold vowR valO
  split
  · split
    · exact ⟨_, _, rfl⟩
    · exact ⟨_, _, rfl⟩
  · exact ⟨_, _, rfl⟩

set_option maxRecDepth 100000 in
set_option maxHeartbeats 1000000 in
theorem sValueOfWord_any (n : Int) (f g : Nat → Nat) (hf : ∀ i, f i < 256) (hg : ∀ i, g i < 256) (s : ByteArray) (w : World) :
    Calls Try.prog 42 #[.agg (dv n f g), .string s] w fun e w' => e = .returned (vowR n f g s) ∧ Below w.heap.size w w' := by
  have C1 := hide fun w => sIs_any n f g hf hg w
  clear hf hg
  have H1 := ((Holds.start w).blk (dv n f g) 44 w.heap.size rfl).blk (av fun _ => 0) 42 (w.heap.size + 1) (by simp)
  rcases h1 : desB n f g with _ | _
  · rw [h1] at C1
    have hr : vowR n f g s = .tuple #[.agg (av fun _ => 0), .int .i64 1] := by unfold vowR; rw [if_neg (by simp [h1])]
    rw [hr]
    clear h1 hr
    rw [av_zero] at H1
    go_enter Try.func42, Try.ntmps42
    go_wp2_with fail
    refine (C1.out _).mono ?_
    rintro e w1 ⟨rfl, hb⟩
    have H2 := H1.call hb
    have rr := H2.rowOk (n := 16) 0 rfl rfl
    rw [← av_zero] at H2
    have H3 := H2.setRow 0 rfl (av fun _ => 0)
    go_wp2
    rw [← av_zero]
    exact res_agg2 (p := 4) (t := 5) (g := w.heap.size + 1) (v := .int .i64 1) aggP (av_size _) rfl rfl rfl rfl (H3.at 0 rfl) ⟨rfl, H3.low⟩
  · rw [h1] at C1
    have hr : vowR n f g s = valO (wordR n.toNat f g s) (.int .i64 0) (.int .i64 6) := by unfold vowR; rw [if_pos h1]
    rw [hr]
    obtain ⟨m, rfl, hd⟩ := desB_true h1
    rw [Int.toNat_natCast]
    clear h1 hr
    have c2 := fun w => l03Value_any f g m hd s w
    clear hd
    rcases hw : wordR m f g s with _ | v
    · rw [hw] at c2
      have C2 := hide c2; clear c2 hw
      show Calls _ _ _ _ fun e w' => e = .returned (.tuple #[.agg (av fun _ => 0), .int .i64 6]) ∧ Below w.heap.size w w'
      rw [av_zero] at H1
      go_enter Try.func42, Try.ntmps42
      go_wp2_with fail
      refine (C1.out _).mono ?_
      rintro e w1 ⟨rfl, hb⟩
      have H2 := H1.call hb
      have dd := H2.cells 1 rfl
      go_wp2_with fail
      refine (C2.out _).mono ?_
      rintro e w2 ⟨rfl, hb2⟩
      simp only [valO]
      have H3 := (H2.call hb2).blk (av fun _ => 0) 42 w2.heap.size rfl
      have rr := H3.rowOk (n := 16) 1 rfl rfl
      rw [← av_zero] at H3
      have H4 := H3.setRow 1 rfl (av fun _ => 0)
      clear hb hb2 dd
      go_wp2
      rw [← av_zero]
      exact res_agg2 (p := 4) (t := 5) (g := w.heap.size + 1) (v := .int .i64 6) aggP (av_size _) rfl rfl rfl rfl (H4.at 1 rfl) ⟨rfl, H4.low⟩
    · rw [hw] at c2
      have C2 := hide c2; clear c2 hw
      show Calls _ _ _ _ fun e w' => e = .returned (.tuple #[.agg (av v), .int .i64 0]) ∧ Below w.heap.size w w'
      rw [av_zero] at H1
      go_enter Try.func42, Try.ntmps42
      go_wp2_with fail
      refine (C1.out _).mono ?_
      rintro e w1 ⟨rfl, hb⟩
      have H2 := H1.call hb
      have dd := H2.cells 1 rfl
      go_wp2_with fail
      refine (C2.out _).mono ?_
      rintro e w2 ⟨rfl, hb2⟩
      simp only [valO]
      have H3 := (H2.call hb2).blk (av v) 42 w2.heap.size rfl
      have rr := H3.rowOk (n := 16) 1 rfl rfl
      have H4 := H3.setRow 1 rfl (av v)
      have d0 := H3.cells 0 rfl
      clear hb hb2 dd
      go_wp2
      exact res_agg2 (p := 4) (t := 5) (g := w.heap.size + 1) (v := .int .i64 0) aggP (av_size _) rfl rfl rfl rfl (H4.at 1 rfl) ⟨rfl, H4.low⟩
end Go.Proofs.Ytlmhnimpglookaa

namespace Go.Proofs.Ytlmhnimpglookaa
open Go.RowKit

section
variable {P : Program} {ops : Array Oper} {rest : List Oper} {o : Oper} {a : Act} {Q : Exit → Act → World → Prop} {w : World}
/-- the next letter of a string that is ranged over -/
theorem nextH (hgd : o.guard = none) (x : Operand) (ho : o.op = .next x true) {w0 : World} {L : List Part} (H : Holds w0 w L) (i : Nat) {g : Nat} {s : ByteArray} {p : Nat} (hi : L[i]? = some (pObj g (.stringIter s p))) (hx : a.eval x = .pointer (some ⟨g, 0, none⟩)) (hp : p < s.size) {C wd : Nat} (hd : Utf8.decode s p = (C, wd))
    (h : ∀ w', Holds w0 w' (L.set i (pObj g (.stringIter s (p + wd)))) → wpList P ops Q rest (a.put o.dst (.tuple #[.bool true, .int .i64 p, .int .i32 C])) w') : wpList P ops Q (o :: rest) a w := by
  refine wpList_plain hgd fun _ hK => ?_
  have hg : w.heap[g]? = some (.stringIter s p) := H.at i hi
  have hgo : (getObj g).run P w = .ok (.stringIter s p) w := by simp [getObj, Sem.run, hg]
  have hso : ∀ o, (setObj g o).run P w = .ok () { w with heap := w.heap.setIfInBounds g o } := fun o => by simp [setObj, Sem.run, hg]
  have hl := lt_of_some hg
  unfold Oper.wp execOp
  simp only [ho, hx, Sem.run_bind, Sem.run_pure, Instr.next, hgo, Result.andThen_ok, if_pos hp, hd, hso, goInt]
  refine hK _ _ (h _ ?_)
  refine H.turn i hi _ ?_ rfl rfl rfl (by simp) (fun j _ hj => ?_) fun j hj => .inl hj
  · show _ = _
    simp [hl]
  · have : g ≠ j := fun e => hj e.symm
    simp [this]
theorem nextEndH (hgd : o.guard = none) (x : Operand) (ho : o.op = .next x true) {w0 : World} {L : List Part} (H : Holds w0 w L) (i : Nat) {g : Nat} {s : ByteArray} {p : Nat} (hi : L[i]? = some (pObj g (.stringIter s p))) (hx : a.eval x = .pointer (some ⟨g, 0, none⟩)) (hp : ¬ p < s.size)
    (h : wpList P ops Q rest (a.put o.dst (.tuple #[.bool false])) w) : wpList P ops Q (o :: rest) a w := by
  refine wpList_plain hgd fun _ hK => ?_
  have hg : w.heap[g]? = some (.stringIter s p) := H.at i hi
  have hgo : (getObj g).run P w = .ok (.stringIter s p) w := by simp [getObj, Sem.run, hg]
  unfold Oper.wp execOp
  simp only [ho, hx, Sem.run_bind, Sem.run_pure, Instr.next, hgo, Result.andThen_ok, if_neg hp]
  exact hK _ _ h
end
theorem letM_cases (m : Nat) (f g : Nat → Nat) (hf : PermN f m) (hg : PermN g m) (c : Nat) : (ltr m f g c = none ∧ letM m f g (faceF f g m) (.int .i32 c) = none) ∨
    ∃ p V, ltr m f g c = some p ∧ letM m f g (faceF f g m) (.int .i32 c) = some V ∧ (V = aftV p m ∨ ∃ q, V = bakV q m ∧ p = backF q m ∧ PermN q m) := by
  rw [ltr_eq, letM_at]
  have hF := faceF_perm hf hg
  by_cases h1 : c = 98
  · subst h1; exact .inr ⟨_, _, rfl, rfl, .inl rfl⟩
  by_cases h2 : c = 66
  · subst h2; exact .inr ⟨_, _, rfl, rfl, .inr ⟨_, rfl, rfl, hf⟩⟩
  by_cases h3 : c = 119
  · subst h3; exact .inr ⟨_, _, rfl, rfl, .inl rfl⟩
  by_cases h4 : c = 87
  · subst h4; exact .inr ⟨_, _, rfl, rfl, .inr ⟨_, rfl, rfl, hg⟩⟩
  by_cases h5 : c = 102
  · subst h5; exact .inr ⟨_, _, rfl, rfl, .inl rfl⟩
  by_cases h6 : c = 70
  · subst h6; exact .inr ⟨_, _, rfl, rfl, .inr ⟨_, rfl, rfl, hF⟩⟩
  refine .inl ⟨?_, ?_⟩
  · simp only [h1, h2, h3, h4, h5, h6, if_false]
  · rw [if_neg (by omega), if_neg (by omega), if_neg (by omega), if_neg (by omega), if_neg (by omega), if_neg (by omega)]
theorem ltr_high (m : Nat) (f g : Nat → Nat) {c : Nat} (h : 128 ≤ c) : ltr m f g c = none := by
  rw [ltr_eq, if_neg (by omega), if_neg (by omega), if_neg (by omega), if_neg (by omega), if_neg (by omega), if_neg (by omega)]
theorem letM_high (m : Nat) (f g F : Nat → Nat) {c : Int} (h : 128 ≤ c) : letM m f g F (.int .i32 c) = none := by
  rw [letM_at, if_neg (by omega), if_neg (by omega), if_neg (by omega), if_neg (by omega), if_neg (by omega), if_neg (by omega)]
theorem iterPos_at {w : World} {g : Nat} {s : ByteArray} {p : Nat} (h : (pObj g (.stringIter s p)).ok w) : w.iterPos g = p := by
  have h' : w.heap[g]? = some (.stringIter s p) := h
  unfold World.iterPos
  rw [h']
theorem zeroFn (w : World) : (zeroValue 80).run Try.prog w = .ok (.nilFunc) w := by
  have h : (Try.prog.info? 80).map (·.zero) = some (some (.nilFunc)) := by kernel_rfl
  rcases hi : Try.prog.info? 80 with _ | i
  · rw [hi] at h; cases h
  · rw [hi] at h
    have hz : i.zero = some (.nilFunc) := by simpa using h
    simp [zeroValue, typeInfo, hi, hz]

set_option maxRecDepth 100000 in
set_option maxHeartbeats 4000000 in
theorem valueOfWord_any (n : Int) (f g : Nat → Nat) (hf : ∀ i, f i < 256) (hg : ∀ i, g i < 256) (s : ByteArray) (w : World) :
    Calls Try.prog 43 #[.agg (dv n f g), .string s] w fun e w' => e = .returned (vowR n f g s) ∧ Below w.heap.size w w' := by
  have C1 := hide fun w => isDessin_any n f g hf hg w
  clear hf hg
  have H1 := ((Holds.start w).blk (dv n f g) 44 w.heap.size rfl).blk (av fun _ => 0) 42 (w.heap.size + 1) (by simp)
  rcases h1 : desB n f g with _ | _
  · rw [h1] at C1
    have hr : vowR n f g s = .tuple #[.agg (av fun _ => 0), .int .i64 1] := by unfold vowR; rw [if_neg (by simp [h1])]
    rw [hr]
    clear h1 hr
    rw [av_zero] at H1
    go_enter Try.func43, Try.ntmps43
    go_wp2_with fail
    refine (C1.out _).mono ?_
    rintro e w1 ⟨rfl, hb⟩
    have H2 := H1.call hb
    have rr := H2.rowOk (n := 16) 0 rfl rfl
    rw [← av_zero] at H2
    have H3 := H2.setRow 0 rfl (av fun _ => 0)
    go_wp2
    rw [← av_zero]
    exact res_agg2 (p := 4) (t := 5) (g := w.heap.size + 1) (v := .int .i64 1) aggP (av_size _) rfl rfl rfl rfl (H3.at 0 rfl) ⟨rfl, H3.low⟩
  rw [h1] at C1
  have hr : vowR n f g s = valO (wordR n.toNat f g s) (.int .i64 0) (.int .i64 6) := by unfold vowR; rw [if_pos h1]
  rw [hr]
  obtain ⟨m, rfl, hd⟩ := desB_true h1
  rw [Int.toNat_natCast]
  clear h1 hr
  have hm := hd.le
  have hm1 := hd.pos
  have hn' := dv_n m f g
  by_cases h60 : s.size ≤ 60
  · have hr : wordR m f g s = valW m f g (lets s 0) (sameF m) := by unfold wordR; rw [if_pos h60]
    rw [hr]
    have hgt : decide ((60 : Int) < (s.size : Int)) = false := decide_eq_false (by omega)
    obtain ⟨RES, hRES⟩ : ∃ RES, RES = valW m f g (lets s 0) (sameF m) := ⟨_, rfl⟩
    rw [← hRES]
    have HRES := hide hRES; clear hRES hr
    have CL := hide fun w => lettersOf_any f g m hm hd.bf.1 hd.bg.1 w
    have CS := hide fun w => stay_any m hm w
    have HLP := hide (fun (c : Nat) (p : Nat → Nat) (h : ltr m f g c = some p) => ltr_perm hd.black hd.white h)
    have HLC := hide (fun (c : Nat) => letM_cases m f g hd.black hd.white c)
    have HLH := hide (fun (c : Int) (h : 128 ≤ c) => letM_high m f g (faceF f g m) h)
    clear hd
    generalize letM m f g (faceF f g m) = M at *
    rw [av_zero] at H1
    go_enter Try.func43, Try.ntmps43
    go_wp2_with fail
    refine (C1.out _).mono ?_
    rintro e w1 ⟨rfl, hb⟩
    have H2 := H1.call hb
    have dd := H2.cells 1 rfl
    clear hb
    go_wp2_with fail
    refine (CL.out _).mono ?_
    rintro e w2 ⟨G, rfl, hb, hG, hM⟩
    have H3 := H2.new hb (pMap Try.prog 21 G M) hM (fun k hk => by cases hk; exact hG)
    clear hb hG hM dd H2 H1
    have n3 := H3.cell 2 rfl hn'
    go_wp2_with fail
    refine (CS.out _).mono ?_
    rintro e w3 ⟨rfl, hb⟩
    have H4 := (H3.call hb).blk (av (sameF m)) 42 w3.heap.size rfl
    have Hz := (H3.call hb).blk (av fun _ => 0) 42 w3.heap.size rfl
    have rrz := Hz.rowOk 0 rfl (av_size _)
    rw [av_zero] at rrz
    clear hb H3 n3 Hz
    have H5 := H4.obj (.stringIter s 0) (w3.heap.size + 1) (by simp)
    rw [← av_zero] at H5
    clear H4
    go_wp2
    generalize w3.heap.size + 1 = G8 at *
    generalize w3.heap.size = G7 at *
    go_loopw [9, 10, 11] (fun _ _ _ wr => ∃ (i : Nat) (v : Nat → Nat), i ≤ s.size ∧ PermN v m ∧ RES = valW m f g (lets s i) v ∧ Holds w wr [pObj G8 (.stringIter s i), pBlk G7 (av v) 42, pMap Try.prog 21 G M, pBlk (w.heap.size + 1) (av fun _ => 0) 42, pBlk w.heap.size (dv m f g) 44]) (fun _ _ _ wr => s.size - wr.iterPos G8)
    case atStart => exact ⟨0, sameF m, by omega, sameF_perm' hm1 hm, HRES.out, H5⟩
    case round =>
      clear H5 HRES
      obtain ⟨i, v, hi, hv, hres, hH⟩ := hrel
      have hip := iterPos_at (hH.at 0 rfl)
      by_cases hlt : i < s.size
      · rw [lets_at s hlt, valW] at hres
        obtain ⟨c, hc⟩ : ∃ c, c = (s[i]'hlt).toNat := ⟨_, rfl⟩
        rw [← hc] at hres
        have hc256 : c < 256 := by rw [hc]; exact (s[i]'hlt).toNat_lt
        by_cases h128 : c < 128
        · have hdec : Utf8.decode s i = (c, 1) := by rw [decode_ascii s i hlt (by omega), hc]
          rcases HLC.out c with ⟨hl, hMc⟩ | ⟨p, V, hl, hMc, hV⟩
          · rw [hl] at hres
            simp only at hres
            clear hc
            go_wp2_with (refine nextH rfl _ rfl hH 0 rfl rfl hlt hdec ?_)
            intro w5 K5
            have lk := run_mlook (c := true) keyedI32 Try.underlying77 zeroFn (K5.at 2 rfl) (isK_i32 (c : Nat) (by omega) (by omega))
            rw [hMc] at lk
            simp only [if_true, Option.getD_none, Option.isSome_none] at lk
            have rrs := K5.rowOk (n := 16) 3 rfl (av_size _)
            have K6 := K5.setRow 3 rfl (av fun _ => 0)
            clear hH
            go_wp2
            rw [← av_zero]
            exact res_agg2 (p := 4) (t := 5) (g := w.heap.size + 1) (v := .int .i64 6) aggP (av_size _) rfl rfl rfl rfl (K6.at 3 rfl) ⟨rfl, K6.low⟩
          · rw [hl] at hres
            simp only at hres
            have hpp := HLP.out _ _ hl
            have hp2 := thenF_perm hv hpp
            have hvl := fun i (hi : i < m) => (show v i < 16 by have := hv.lt i (by omega); omega)
            have HRS := hide (And.intro hres hp2); clear hres hp2
            clear hc
            rcases hV with rfl | ⟨q, rfl, rfl, hq⟩
            · have CA := hide fun w => after_any p v m hm hvl w
              clear hl hpp hv hvl
              go_wp2_with (refine nextH rfl _ rfl hH 0 rfl rfl hlt hdec ?_)
              intro w5 K5
              have lk := run_mlook (c := true) keyedI32 Try.underlying77 zeroFn (K5.at 2 rfl) (isK_i32 (c : Nat) (by omega) (by omega))
              unfold aftV at hMc
              rw [hMc] at lk
              simp only [if_true, Option.getD_some, Option.isSome_some] at lk
              have dv7 := K5.cells 1 rfl
              clear hH
              go_wp2_with fail
              refine (CA.out _).mono ?_
              rintro e w6 ⟨rfl, hb6⟩
              have K6 := K5.call hb6
              have rr7 := K6.rowOk (n := 16) 1 rfl (av_size _)
              have K7 := K6.setRow 1 rfl (av (thenF v p m))
              clear hb6 lk dv7 K5
              go_wp2
              go_roundw
              case rel => exact ⟨i + 1, _, by omega, HRS.out.2, HRS.out.1, K7⟩
              case measure =>
                rw [iterPos_at (K7.at 0 rfl), hip]; omega
            · have CA := hide fun w => backAfter_any q v m hm hvl (fun i hi => (by have := hq.lt i (by omega); omega)) w
              clear hl hpp hv hvl hq
              go_wp2_with (refine nextH rfl _ rfl hH 0 rfl rfl hlt hdec ?_)
              intro w5 K5
              have lk := run_mlook (c := true) keyedI32 Try.underlying77 zeroFn (K5.at 2 rfl) (isK_i32 (c : Nat) (by omega) (by omega))
              unfold bakV at hMc
              rw [hMc] at lk
              simp only [if_true, Option.getD_some, Option.isSome_some] at lk
              have dv7 := K5.cells 1 rfl
              clear hH
              go_wp2_with fail
              refine (CA.out _).mono ?_
              rintro e w6 ⟨rfl, hb6⟩
              have K6 := K5.call hb6
              have rr7 := K6.rowOk (n := 16) 1 rfl (av_size _)
              have K7 := K6.setRow 1 rfl (av (thenF v (backF q m) m))
              clear hb6 lk dv7 K5
              go_wp2
              go_roundw
              case rel => exact ⟨i + 1, _, by omega, HRS.out.2, HRS.out.1, K7⟩
              case measure =>
                rw [iterPos_at (K7.at 0 rfl), hip]; omega
        · have hl := ltr_high m f g (c := c) (by omega)
          rw [hl] at hres
          simp only at hres
          have hh := decode_high s i hlt (by omega)
          have hle := decode_le s i
          obtain ⟨C, wd, hdec⟩ : ∃ C wd, Utf8.decode s i = (C, wd) := ⟨_, _, rfl⟩
          rw [hdec] at hh hle
          simp only at hh hle
          have hMc := HLH.out (C : Nat) (by omega)
          clear hl hc
          go_wp2_with (refine nextH rfl _ rfl hH 0 rfl rfl hlt hdec ?_)
          intro w5 K5
          have lk := run_mlook (c := true) keyedI32 Try.underlying77 zeroFn (K5.at 2 rfl) (isK_i32 (C : Nat) (by omega) (by omega))
          rw [hMc] at lk
          simp only [if_true, Option.getD_none, Option.isSome_none] at lk
          have rrs := K5.rowOk (n := 16) 3 rfl (av_size _)
          have K6 := K5.setRow 3 rfl (av fun _ => 0)
          clear hH
          go_wp2
          rw [← av_zero]
          exact res_agg2 (p := 4) (t := 5) (g := w.heap.size + 1) (v := .int .i64 6) aggP (av_size _) rfl rfl rfl rfl (K6.at 3 rfl) ⟨rfl, K6.low⟩
      · obtain rfl : i = s.size := by omega
        rw [lets_end s (Nat.le_refl _), valW] at hres
        have dv7 := hH.cells 1 rfl
        have rrs := hH.rowOk (n := 16) 3 rfl (av_size _)
        have K6 := hH.setRow 3 rfl (av v)
        go_wp2_with (refine nextEndH rfl _ rfl hH 0 rfl rfl hlt ?_)
        exact res_agg2 (p := 4) (t := 5) (g := w.heap.size + 1) (v := .int .i64 0) aggP (av_size _) rfl rfl rfl rfl (K6.at 3 rfl) ⟨by first | rw [hres]; rfl | rfl, K6.low⟩
  · have hr : wordR m f g s = none := by unfold wordR; rw [if_neg h60]
    rw [hr]
    have hgt : decide ((60 : Int) < (s.size : Int)) = true := decide_eq_true (by omega)
    clear hd hr
    rw [av_zero] at H1
    show Calls _ _ _ _ fun e w' => e = .returned (.tuple #[.agg (av fun _ => 0), .int .i64 6]) ∧ Below w.heap.size w w'
    go_enter Try.func43, Try.ntmps43
    go_wp2_with fail
    refine (C1.out _).mono ?_
    rintro e w1 ⟨rfl, hb⟩
    have H2 := H1.call hb
    have rr := H2.rowOk (n := 16) 0 rfl rfl
    rw [← av_zero] at H2
    have H3 := H2.setRow 0 rfl (av fun _ => 0)
    go_wp2
    rw [← av_zero]
    exact res_agg2 (p := 4) (t := 5) (g := w.heap.size + 1) (v := .int .i64 6) aggP (av_size _) rfl rfl rfl rfl (H3.at 0 rfl) ⟨rfl, H3.low⟩
end Go.Proofs.Ytlmhnimpglookaa

namespace Go.Proofs.Ytlmhnimpglookaa
open Go.RowKit

/-- the k-th power -/
def powF (p : Nat → Nat) (m k : Nat) : Nat → Nat := upto (it p k) m
theorem powF_one {p : Nat → Nat} {m : Nat} (h : PermN p m) : av (powF p m 1) = av p := by
  refine av_congr fun i hi => ?_
  unfold powF upto it
  split
  · rfl
  · exact (h.2.2.2 i (by omega) hi).symm
theorem powF_step (p : Nat → Nat) (m k : Nat) : thenF (powF p m k) p m = powF p m (k + 1) := by
  funext i
  unfold thenF powF upto
  split
  · rename_i h
    show p (if i < m then it p k i else 0) = _
    rw [if_pos h]; rfl
  · rfl
theorem powF_same {p : Nat → Nat} {m : Nat} (hm : m ≤ 16) (k : Nat) : sameB (powF p m k) (sameF m) = true ↔ ∀ x, x < m → it p k x = x := by
  rw [sameB_iff]
  unfold powF sameF upto
  constructor
  · intro h x hx
    have := h x (by omega)
    rwa [if_pos hx, if_pos hx] at this
  · intro h x hx
    split
    · exact h x (by assumption)
    · rfl

noncomputable def ordR (p : Nat → Nat) (n : Int) : Value :=
  if permB p n = true then .tuple #[.int .i64 (lcms (lens p n.toNat)), .int .i64 0] else .tuple #[.int .i64 0, .int .i64 1]

set_option maxRecDepth 100000 in
set_option maxHeartbeats 1000000 in
theorem orderOf_any (p : Nat → Nat) (hp : ∀ i, p i < 256) (n : Int) (w : World) :
    Calls Try.prog 79 #[.agg (av p), .int .i64 n] w fun e w' => e = .returned (ordR p n) ∧ Below w.heap.size w w' := by
  have C1 := hide fun w => isPerm_any p hp n w
  clear hp
  rcases h1 : permB p n with _ | _
  · rw [h1] at C1
    have hr : ordR p n = .tuple #[.int .i64 0, .int .i64 1] := by unfold ordR; rw [if_neg (by simp [h1])]
    rw [hr]
    clear h1 hr
    go_enter Try.func79, Try.ntmps79
    go_wp2_with fail
    refine (C1.out _).mono ?_
    rintro e w1 ⟨rfl, hb⟩
    go_wp2
    go_ret2
    exact ⟨rfl, (below1 w _).trans (hb.mono (by simp))⟩
  · rw [h1] at C1
    obtain ⟨m, rfl, hpm⟩ := permB_true h1
    have hr : ordR p (m : Int) = .tuple #[.int .i64 (lcms (lens p m)), .int .i64 0] := by unfold ordR; rw [if_pos h1, Int.toNat_natCast]
    rw [hr]
    clear h1 hr
    have h16 := hpm.2.1
    have hbij := hpm.2.2.1
    have C2 := hide fun w => stay_any m h16 w
    have hle := lcms_le hbij h16
    have hpos := lcms_pos hbij h16
    have hall : ∀ x, x < m → it p (lcms (lens p m)) x = x := fun x hx => order_all hbij h16 hx
    have C3 := hide fun (k : Nat) (w : World) => (powF_step p m k ▸ follow_any (powF p m k) p m h16 (fun i hi => by unfold powF upto; rw [if_pos hi]; have := hbij.it_lt k hi; omega) w : Calls Try.prog 97 #[.agg (av (powF p m k)), .agg (av p), .int .i64 m] w fun e w' => e = .returned (.agg (av (powF p m (k + 1)))) ∧ Below w.heap.size w w')
    have HB := hide hbij; clear hbij
    have HA := hide hall; clear hall
    have hone := powF_one hpm
    have HP := hide hpm; clear hpm
    obtain ⟨L, hL⟩ : ∃ L, L = lcms (lens p m) := ⟨_, rfl⟩
    rw [← hL] at hle hpos HA ⊢
    have HL := hide hL; clear hL
    go_enter Try.func79, Try.ntmps79
    go_wp2_with fail
    refine (C1.out _).mono ?_
    rintro e w1 ⟨rfl, hb⟩
    have c1 : cellsOf w1 w.heap.size = av p := (below_cells hb (by simp)).trans (cellsOf_heap (heap_at _ _ _ rfl))
    have s1 : w.heap.size + 1 ≤ w1.heap.size := by have := hb.size; simpa using this
    have b1 := (below1 w _).trans (hb.mono (by simp))
    clear hb
    go_wp2_with fail
    refine (C2.out _).mono ?_
    rintro e w2 ⟨rfl, hb2⟩
    have c2 : cellsOf w2 w.heap.size = av p := (below_cells hb2 (by omega)).trans c1
    have s2 := hb2.size
    have b2 := b1.trans (hb2.mono (by omega))
    clear hb2 c1 b1
    have HO := hide hone; clear hone
    have hlt : w.heap.size < w2.heap.size := by omega
    go_wp2
    go_loopw [6, 8] (fun o q wr => ∃ k g : Nat, 1 ≤ k ∧ k ≤ L ∧ o = .int .i64 k ∧ q = .pointer (some ⟨g, 0, none⟩) ∧ Below w.heap.size w wr ∧ cellsOf wr w.heap.size = av p ∧ cellsOf wr w2.heap.size = av (sameF m) ∧ w2.heap.size < g ∧
        rowOk wr g 16 ∧ cellsOf wr g = av (powF p m k) ∧ ∀ j, 0 < j → j < k → ¬ ∀ x, x < m → it p j x = x) (fun o _ _ => L - (intOf o).toNat)
    case atStart => exact ⟨1, w2.heap.size + 1, by omega, by omega, rfl, rfl, (b2.alloc (by omega) _).alloc (by simp; omega) _, by rw [cellsOf_past (by simp; omega), cellsOf_past (by omega)]; exact c2, by rw [cellsOf_past (by simp)]; exact cellsOf_heap (heap_at _ _ _ rfl),
        by omega, ⟨_, _, heap_at _ _ _ (by simp), av_size _⟩, by rw [HO.out]; exact cellsOf_heap (heap_at _ _ _ (by simp)), fun j h1 h2 => by omega⟩
    case round =>
      obtain ⟨k, g, hk1, hk2, rfl, rfl, hbr, hcp, hcs, hgg, hrg, hcg, hmin⟩ := hrel
      have hgl := hrg.lt
      have HM := hide hmin; clear hmin
      have hsb := powF_same (p := p) h16 k
      rcases hs : sameB (powF p m k) (sameF m) with _ | _
      · have hne : ¬ ∀ x, x < m → it p k x = x := fun h => by rw [hsb.2 h] at hs; cases hs
        have hkL : k < L := by
          rcases Nat.lt_or_ge k L with c | c
          · exact c
          · obtain rfl : k = L := by omega
            exact absurd HA.out hne
        have HN := hide hne; clear hne
        clear hsb
        have HR := hide hrg; clear hrg
        have hlw : w.heap.size < wr.heap.size := by omega
        have hlw2 : w2.heap.size < wr.heap.size := by omega
        go_wp2_with fail
        refine (C3.out _ _).mono ?_
        rintro e w3 ⟨rfl, hb3⟩
        have r3 : rowOk w3 wr.heap.size 16 := (below_row hb3 (by simp)).2 ⟨_, _, heap_at _ _ _ rfl, av_size _⟩
        have p3 : cellsOf w3 w.heap.size = av p := by rw [below_cells hb3 (by simp; omega), cellsOf_past (by omega)]; exact hcp
        have q3 : cellsOf w3 w2.heap.size = av (sameF m) := by rw [below_cells hb3 (by simp; omega), cellsOf_past (by omega)]; exact hcs
        have b3 := (hbr.alloc (by omega) (.cells (av (powF p m k)) 42)).trans (hb3.mono (by simp; omega))
        clear hb3 hcp hcs hcg hbr
        go_wp2
        go_roundw
        case rel => exact ⟨k + 1, wr.heap.size, by omega, by omega, by go_num, rfl, below_setRow b3 (by omega) _, by rw [cellsOf_setRow_ne (by omega)]; exact p3, by rw [cellsOf_setRow_ne (by omega)]; exact q3, by omega,
            rowOk_setRow r3 (av_size _), cellsOf_setRow r3, fun j h1 h2 => by
              rcases Nat.lt_or_ge j k with c | c
              · exact HM.out j h1 c
              · obtain rfl : j = k := by omega
                exact HN.out⟩
        case measure => simp [intOf]; omega
      · have hkk : k = L := by rw [HL.out]; exact order_spec HB.out h16 (by omega) (hsb.1 hs) HM.out
        clear hsb
        have HK := hide hkk; clear hkk
        go_wp2
        go_ret2
        obtain rfl : k = L := HK.out
        exact ⟨rfl, hbr⟩
end Go.Proofs.Ytlmhnimpglookaa

namespace Go.Proofs.Ytlmhnimpglookaa
open Go.RowKit

theorem lcms_take_le {ls : List Nat} (h2 : lcms ls ≤ 65536) (h3 : 0 < lcms ls) (k : Nat) : 1 ≤ lcms (ls.take k) ∧ lcms (ls.take k) ≤ 65536 := by
  have hd : lcms (ls.take k) ∣ lcms ls := (lcms_dvd _ _).2 fun x hx => (lcms_dvd ls (lcms ls)).1 (Nat.dvd_refl _) x (List.mem_of_mem_take hx)
  have := Nat.le_of_dvd h3 hd
  have : 0 < lcms (ls.take k) := Nat.pos_of_dvd_of_pos hd h3
  omega
theorem lcms_take_succ {ls : List Nat} {k : Nat} (hk : k < ls.length) : lcms (ls.take (k + 1)) = Nat.lcm (lcms (ls.take k)) ls[k] := by
  unfold lcms
  rw [List.take_succ_eq_append_getElem hk, List.foldl_append]
  rfl
theorem lcm_quo (o x : Nat) : (o : Int) / ((Nat.gcd o x : Nat) : Int) * (x : Int) = ((Nat.lcm o x : Nat) : Int) := by
  have : Nat.lcm o x = o / Nat.gcd o x * x := by
    unfold Nat.lcm
    exact Nat.mul_div_right_comm (Nat.gcd_dvd_left o x) x
  rw [this]; simp

set_option maxRecDepth 100000 in
set_option maxHeartbeats 400000 in
theorem common_any (ls : List Nat) (A : Option Addr) (c B : Nat) (h1 : ∀ l ∈ ls, 1 ≤ l ∧ l ≤ 16) (h2 : lcms ls ≤ 65536) (h3 : 0 < lcms ls) (hlen : ls.length ≤ 16) (w : World) (ho : Own1 B w (.slice A ls.length c) ls) :
    Calls Try.prog 77 #[.slice A ls.length c] w fun e w' => e = .returned (.int .i64 (lcms ls)) ∧ Below w.heap.size w w' := by
  have H := hide ho; clear ho
  have H1 := hide h1; clear h1
  have HT := hide fun k => lcms_take_le h2 h3 k
  clear h2 h3
  go_enter Try.func77, Try.ntmps77
  go_wp2
  go_loopw [3, 4] (fun o i wr => ∃ k : Nat, k ≤ ls.length ∧ i = .int .i64 k ∧ o = .int .i64 (lcms (ls.take k)) ∧ Below w.heap.size w wr) (fun _ i _ => ls.length - (intOf i).toNat)
  case atStart => exact ⟨0, by omega, rfl, rfl, Below.refl _ _⟩
  case round =>
    obtain ⟨k, hk, rfl, rfl, hb⟩ := hrel
    by_cases hlt : k < ls.length
    · obtain ⟨g, rfl, _, hg, c1, _⟩ := H.out.at hlt
      have hx := H1.out ls[k] (List.getElem_mem hlt)
      have ho := HT.out k
      have hn := HT.out (k + 1)
      have hs := lcms_take_succ hlt
      rw [hs] at hn
      have HS := hide hs; clear hs
      generalize ls[k] = x at *
      generalize lcms (ls.take k) = o at *
      have C1 := hide c1
      have c1' : wr.cell? ⟨g, k, none⟩ = some (.int .i64 (x : Nat)) := (hb.cell (p := ⟨g, k, none⟩) hg).trans c1
      clear c1
      go_wp2
      go_region
      all_goals go_wp2
      all_goals (obtain ⟨wo, rfl⟩ : ∃ wo : World, wo = wr := ⟨_, rfl⟩)
      all_goals go_loopg [5, 6] x (fun gd a b wr => ∃ a' b' : Nat, gd = b' ∧ a = .int .i64 a' ∧ b = .int .i64 b' ∧ 1 ≤ a' ∧ a' ≤ 65536 ∧ b' ≤ 16 ∧ Nat.gcd a' b' = Nat.gcd o x ∧ Below w.heap.size w wr)
      case atStart => exact ⟨o, x, rfl, rfl, rfl, ho.1, ho.2, hx.2, rfl, hb.drew⟩
      case round =>
        obtain ⟨a, b, hgd, rfl, rfl, ha1, ha2, hb16, hgc, hbw⟩ := hrel
        by_cases hb0 : 0 < b
        · have hgb : decide ((0 : Int) < (b : Int)) = true := by simp; omega
          have hm : 0 ≤ (a : Int) % (b : Int) ∧ (a : Int) % (b : Int) < (b : Int) := ⟨Int.emod_nonneg _ (by omega), Int.emod_lt_of_pos _ (by omega)⟩
          have hne : ((b : Int) = 0) = False := by simp; omega
          have hgc2 : Nat.gcd b (a % b) = Nat.gcd o x := by rw [← hgc, Nat.gcd_comm a b, Nat.gcd_rec b a, Nat.gcd_comm]
          have hml : a % b < b := Nat.mod_lt _ hb0
          have HG := hide hgc2; clear hgc2 hgc
          go_wp2
          go_roundg (a % b)
          case measure => omega
          case rel => exact ⟨b, a % b, rfl, rfl, by simp, by omega, by omega, by omega, HG.out, hbw⟩
        · obtain rfl : b = 0 := by omega
          obtain rfl : a = Nat.gcd o x := by rw [← hgc, Nat.gcd_zero_right]
          have hq := lcm_quo o x
          have hq1 : 0 ≤ (o : Int) / ((Nat.gcd o x : Nat) : Int) ∧ (o : Int) / ((Nat.gcd o x : Nat) : Int) ≤ 65536 := ⟨Int.ediv_nonneg (by omega) (by omega), by have h := Nat.div_le_self o (Nat.gcd o x); rw [← Int.natCast_ediv]; generalize o / Nat.gcd o x = t at *; omega⟩
          have hq2 : 0 ≤ (o : Int) / ((Nat.gcd o x : Nat) : Int) * (x : Int) ∧ (o : Int) / ((Nat.gcd o x : Nat) : Int) * (x : Int) ≤ 65536 := by rw [hq]; omega
          have HQ := hide hq; clear hq
          have c2 : wr.cell? ⟨g, k, none⟩ = some (.int .i64 (x : Nat)) := (hbw.cell (p := ⟨g, k, none⟩) hg).trans C1.out
          clear c1'
          go_wp2
          go_region
          all_goals go_wp2
          all_goals go_roundw
          case rel => exact ⟨k + 1, by omega, by go_num, by rw [HS.out, HQ.out], hbw.drew⟩
          case measure => simp [intOf]; omega
    · obtain rfl : k = ls.length := by omega
      rw [List.take_length]
      go_wp2
      go_ret
      exact ⟨rfl, hb⟩
end Go.Proofs.Ytlmhnimpglookaa

namespace Go.Proofs.Ytlmhnimpglookaa
open Go.RowKit

set_option maxRecDepth 100000 in
set_option maxHeartbeats 1000000 in
theorem sCycles_any (p : Nat → Nat) (m : Nat) (hp : PermN p m) (w : World) :
    Calls Try.prog 96 #[.agg (av p), .int .i64 m] w fun e w' => ∃ v, e = .returned v ∧ Below w.heap.size w w' ∧ Own2 w.heap.size w' v (cycs p m) := by
  obtain ⟨hm1, hm2, hbij, _⟩ := hp
  have HB := hide hbij; clear hbij
  obtain ⟨i0, hi, hz0, hz1, hz2⟩ := info_parts info64
  obtain ⟨j0, hj, hy0, hy1, hy2⟩ := info_parts infoSl
  have I0 := hide (And.intro hi (And.intro hz0 (And.intro hz1 hz2))); clear hi hz0 hz1 hz2
  have J0 := hide (And.intro hj (And.intro hy0 (And.intro hy1 hy2))); clear hj hy0 hy1 hy2
  go_enter Try.func96, Try.ntmps96
  go_wp2
  rw [← bv_false]
  go_loopw [5, 7] (fun out i wr => ∃ k : Nat, k ≤ m ∧ i = .int .i64 k ∧ Below w.heap.size w wr ∧ cellsOf wr w.heap.size = av p ∧ wr.heap[w.heap.size + 1 + 1]? = some (.cells (bv (cycs.met p k)) 88 (0, 0)) ∧ Own2 (w.heap.size + 1) wr out (cycs p k))
    (fun _ i _ => m - (intOf i).toNat)
  case atStart =>
    refine ⟨0, by omega, rfl, below3 _ _ _ _, cellsOf_heap (heap2 rfl), heap_at _ _ _ (by simp), [], rfl, ?_, fun i u l h => by simp at h, fun i j u u' _ h => by simp at h⟩
    have h := (own_empty (w.alloc (.cells (av p) 42)) 22 1 (w.heap.size + 1) (by simp)).alloc (.cells (bv fun _ => false) 88)
    simp only [World.size_alloc] at h
    exact h
  case round =>
    obtain ⟨k, hk, rfl, hb, hcp, hhm, hown⟩ := hrel
    by_cases hlt : k < m
    · have hlt16 : k < 16 := by omega
      have l1 : w.heap.size + 1 + 1 < wr.heap.size := by
        rcases Nat.lt_or_ge (w.heap.size + 1 + 1) wr.heap.size with c | c
        · exact c
        · rw [Array.getElem?_eq_none c] at hhm; cases hhm
      obtain ⟨J, hJ16, hJf, hJt, hJc, hJm⟩ := cyc_J HB.out hm2 hlt
      have HC := hide hcp; clear hcp
      have HM := hide hhm; clear hhm
      have HJf := hide hJf; clear hJf
      have HJt := hide hJt; clear hJt
      have HJc := hide hJc; clear hJc
      have HJm := hide hJm; clear hJm
      go_wp2
      obtain ⟨wo, rfl⟩ : ∃ wo : World, wo = wr := ⟨_, rfl⟩
      go_loopg [8, 9] J (fun gd own x wr => ∃ j : Nat, j ≤ J ∧ gd = J - j ∧ x = .int .i64 (it p j k) ∧ it p j k < m ∧ Own1 wo.heap.size wr own (orbTo p k j) ∧
          cellsOf wr w.heap.size = av p ∧ wr.heap[w.heap.size + 1 + 1]? = some (.cells (bv (Mj p (cycs.met p k) k j)) 88 (0, 0)) ∧ wo.grownBy wr (some (w.heap.size + 1 + 1)))
      case atStart => exact ⟨0, by omega, by omega, rfl, hlt, own_empty wo 2 1 _ (Nat.le_refl _), by rw [cellsOf_past (by omega)]; exact HC.out, by rw [heap_past _ _ _ l1, Mj_zero]; exact HM.out, grown_alloc (grown_refl _ _) _⟩
      case round =>
        obtain ⟨j, hj, rfl, rfl, hx, hown1, hcp1, hhm1, hg1⟩ := hrel
        have HCP := hide hcp1; clear hcp1
        have hszs : wo.heap.size ≤ wr.heap.size := hg1.size
        have hcm1 : cellsOf wr (w.heap.size + 1 + 1) = bv (Mj p (cycs.met p k) k j) := cellsOf_heap hhm1
        have HCM := hide hcm1; clear hcm1
        have HH := hide hhm1; clear hhm1
        by_cases hjp : j < J
        · have c0 : wr.cell? ⟨w.heap.size + 1 + 1, it p j k, none⟩ = some (.bool false) := by rw [cell_of_cells, HCM.out, bv_get _ (by omega), HJf.out j hjp]
          have f0 : wr.frozen? ⟨w.heap.size + 1 + 1, it p j k, none⟩ = false := by have := HH.out; simp [World.frozen?, this]
          generalize hX : it p j k = X at *
          have HX := hide hX; clear hX
          have hownA : (wr.setCell ⟨w.heap.size + 1 + 1, X, none⟩ (.bool true)).ownsRow wo.heap.size 2 1 u8 (orbTo p k j).length (nums (orbTo p k j)) := ownsRow_setCell_below hown1 (by show w.heap.size + 1 + 1 < wo.heap.size; omega) _
          have hlen : (orbTo p k j).length = j := orbTo_length p k j
          have HL := hide hlen; clear hlen
          have hX16 : X < 16 := by omega
          go_wp2_with (at_builtin; refine wpList_append_own _ rfl _ _ 22 rfl wo.heap.size 2 i0 (.int .i64 0) 1 8 Try.underlying22 I0.out.1 I0.out.2.1 I0.out.2.2.1 I0.out.2.2.2 rfl (by decide) _ _ _ rfl (hownA.alloc _) ⟨wr.heap.size, 0, none⟩ 1 1 [.int .i64 X] rfl rfl ?c1 ?c2 ?c3 ?c4 ?c5 ?_)
          case c1 => exact one_new _ _ _ _ (by simp)
          case c2 => intro u hu; simp at hu; subst hu; rfl
          case c3 => rw [HL.out]; unfold maxLen; omega
          case c4 => rw [HL.out]; omega
          case c5 => simp; omega
          intro v' w1 hown' hg' _
          have hrow : ∀ g, u8.ownBlock = some g → wo.heap.size ≤ g := fun g hg => (hownA.lt g hg).1
          have G0 := grown_alloc (grown_setCell (i := X) (v := .bool true) hg1) (.cells #[.int .i64 X] 2)
          have G1 := grown_step G0 hg' (fun g hg => .inl (hrow g hg))
          have hpc : cellsOf w1 w.heap.size = av p := by
            rw [grown_cells hg' (by simp; omega) (fun e => by have := hrow _ e.symm; omega), cellsOf_past (by simp; omega), cellsOf_setCell_ne (by omega)]; exact HCP.out
          have hmc : w1.heap[w.heap.size + 1 + 1]? = some (.cells (bv (Mj p (cycs.met p k) k (j + 1))) 88 (0, 0)) := by
            rw [hg'.block _ (by simp; omega) (fun e => by have := hrow _ e.symm; omega), heap_past _ _ _ (by simp; omega), heap_setCell_same _ _ _ _ _ _ HH.out, bv_set, ← HX.out, Mj_step]
          have hpx : p X < m := HB.out.1 X hx
          have c2 : w1.cell? ⟨w.heap.size, X, none⟩ = some (.int .u8 (p X)) := by rw [cell_of_cells, hpc, av_get p hX16]
          have hO : Own1 wo.heap.size w1 v' (orbTo p k (j + 1)) := by
            rw [orbTo_step, HX.out]
            unfold Own1 nums at *
            simpa using hown'
          have hit : it p (j + 1) k = p X := by rw [← HX.out]; rfl
          have H1 := hide hpc; clear hpc
          have H2 := hide hmc; clear hmc
          have HIT := hide hit; clear hit
          clear hown' hg' G0 hownA hrow c0 f0
          go_wp2
          go_roundg (J - (j + 1))
          case measure => omega
          case rel => exact ⟨j + 1, by omega, rfl, by rw [HIT.out], by rw [HIT.out]; exact hpx, hO, H1.out, H2.out, G1⟩
        · obtain rfl : j = J := by omega
          have hX16 : it p j k < 16 := by omega
          have c0 : wr.cell? ⟨w.heap.size + 1 + 1, it p j k, none⟩ = some (.bool true) := by rw [cell_of_cells, HCM.out, bv_get _ hX16, HJt.out]
          obtain ⟨A, cc, rfl⟩ := own_slice hown1
          have hll : (orbTo p k j).length = j := orbTo_length p k j
          rw [hll]
          have HL := hide hll; clear hll
          have hbr : Below w.heap.size w wr := hb.grown hg1 hb.size (fun g hg => by simp at hg; omega)
          obtain ⟨vs, hvl, ho0, hi0, hd0⟩ := hown
          have hC : ∀ (i : Nat) (x : Value), vs[i]? = some x → ∀ g, x.ownBlock = some g → g < wo.heap.size := by
            intro i x hx1 g hg
            have : i < (cycs p k).length := by rw [← hvl]; exact (List.getElem?_eq_some_iff.1 hx1).1
            exact (World.ownsRow.lt (hi0 i x _ hx1 (List.getElem?_eq_getElem this)) g hg).2
          have hk2 : Own2 (w.heap.size + 1) wr u5 (cycs p k) := Own2.keptBlk ⟨vs, hvl, ho0, hi0, hd0⟩ hg1 HM.out (by decide) (by decide)
          have ho1 := ho0.kept hg1 (own_ne_blk ho0 HM.out (by decide))
          have hi1 : ∀ (i : Nat) (u : Value) (l : List Nat), vs[i]? = some u → (cycs p k)[i]? = some l → Own1 (w.heap.size + 1) wr u l := fun i u l h1 h2 => (hi0 i u l h1 h2).kept hg1 (own_ne_blk (hi0 i u l h1 h2) HM.out (by decide))
          have hvs16 : vs.length ≤ 16 := by rw [hvl]; exact cycs_len_le HB.out hm2 (by omega)
          have HVL := hide hvl; clear hvl
          have HI := hide hi1; clear hi1 hi0
          have HD := hide hd0; clear hd0
          have HCC := hide hC; clear hC
          have HO := hide hk2; clear hk2
          clear ho0
          by_cases hj0 : j = 0
          · have H00 := hide hj0
            have hd : decide (0 < j) = false := by simp; omega
            clear hj0
            go_wp2
            go_roundw
            case rel => exact ⟨k + 1, by omega, by go_num, hbr, HCP.out, by rw [HJm.out]; exact HH.out, by rw [HJc.out, if_pos H00.out]; exact HO.out⟩
            case measure => simp [intOf]; omega
          · have hd : decide (0 < j) = true := by simp; omega
            have hjp0 : 0 < j := by omega
            go_wp2_with (at_builtin; refine wpList_append_own _ rfl _ _ 26 rfl (w.heap.size + 1) 22 j0 (.slice none 0 0) 1 24 Try.underlying26 J0.out.1 J0.out.2.1 J0.out.2.2.1 J0.out.2.2.2 rfl (by decide) _ _ _ rfl (ho1.alloc _) ⟨wr.heap.size, 0, none⟩ 1 1 [.slice A j cc] rfl rfl ?d1 ?d2 ?d3 ?d4 ?d5 ?_)
            case d1 => exact one_new _ _ _ _ (by simp)
            case d2 => intro u hu; simp at hu; subst hu; rfl
            case d3 => unfold maxLen; omega
            case d4 => omega
            case d5 => simp; omega
            intro v' w1 hown' hg' _
            have hrow : ∀ g, u5.ownBlock = some g → w.heap.size + 1 ≤ g := fun g hg => (ho1.lt g hg).1
            have hnm := own_ne_blk ho1 HH.out (by decide)
            have hpc : cellsOf w1 w.heap.size = av p := by
              rw [grown_cells hg' (by simp; omega) (fun e => by have := hrow _ e.symm; omega), cellsOf_past (by omega)]; exact HCP.out
            have hmc : w1.heap[w.heap.size + 1 + 1]? = some (.cells (bv (cycs.met p (k + 1))) 88 (0, 0)) := by
              rw [hg'.block _ (by simp; omega) (fun e => by rcases hnm with c | c; rw [c] at e; cases e; exact c e.symm), heap_past _ _ _ (by omega), HJm.out]; exact HH.out
            have hbw : Below w.heap.size w w1 := (hbr.alloc hbr.size _).grown hg' (by have := hbr.size; simp; omega) (fun g hg => by have := hrow g hg; omega)
            have hOO : Own2 (w.heap.size + 1) w1 v' (cycs p (k + 1)) := by
              rw [HJc.out, if_neg hj0]
              have hown1' : Own1 wo.heap.size wr (.slice A j cc) (orbTo p k j) := by have := hown1; rwa [HL.out] at this
              exact Own2.add HVL.out (ho1.alloc _) (fun i u l h1 h2 => World.ownsRow.alloc (HI.out i u l h1 h2) _) HD.out (World.ownsRow.alloc hown1' _) (by omega) HCC.out hown' hg'
            have H1 := hide hpc; clear hpc
            have H2 := hide hmc; clear hmc
            have H3 := hide hOO; clear hOO
            clear hown' hg' ho1 hrow c0 hnm
            go_wp2
            go_roundw
            case rel => exact ⟨k + 1, by omega, by go_num, hbw, H1.out, H2.out, H3.out⟩
            case measure => simp [intOf]; omega
    · obtain rfl : k = m := by omega
      clear hlt hk hcp hhm
      go_wp2
      go_ret
      exact ⟨_, rfl, hb, hown.mono (by omega)⟩
end Go.Proofs.Ytlmhnimpglookaa

namespace Go.Proofs.Ytlmhnimpglookaa
open Go.RowKit

@[irreducible] def cv (f : Nat → Nat) : Array Value := row 17 fun i => .int .i64 (f i)
theorem cv_size (f : Nat → Nat) : (cv f).size = 17 := by unfold cv; exact row_size _ _
theorem cv_get (f : Nat → Nat) {i : Nat} (h : i < 17) : (cv f)[i]? = some (.int .i64 (f i)) := by unfold cv; exact row_get _ _ h
theorem cv_set (f g : Nat → Nat) (i : Nat) (x : Int) (hx : x = g i) (h : ∀ j, j ≠ i → g j = f j) : (cv f).setIfInBounds i (.int .i64 x) = cv g := by
  unfold cv
  rw [row_set]
  refine row_congr fun j _ => ?_
  show (if j = i then _ else _) = _
  split
  · rename_i e; subst e; rw [hx]
  · rename_i e; rw [h j e]
theorem cv_cells (f : Nat → Nat) : (cv f).all (·.oneCell') = true := by unfold cv row; simp [Value.oneCell']
theorem cv_zero : cv (fun _ => 0) = #[.int .i64 0, .int .i64 0, .int .i64 0, .int .i64 0, .int .i64 0, .int .i64 0, .int .i64 0, .int .i64 0, .int .i64 0, .int .i64 0, .int .i64 0, .int .i64 0, .int .i64 0, .int .i64 0, .int .i64 0, .int .i64 0, .int .i64 0] := by
  unfold cv row; rfl
/-- how many of the first k lists have each length -/
def cntF (ls : List (List Nat)) (k : Nat) : Nat → Nat := fun l => ((ls.take k).map List.length).count l
theorem cntF_zero (ls : List (List Nat)) : cntF ls 0 = fun _ => 0 := by funext l; simp [cntF]
theorem cntF_step {ls : List (List Nat)} {k : Nat} (hk : k < ls.length) (l : Nat) : cntF ls (k + 1) l = cntF ls k l + if ls[k].length = l then 1 else 0 := by
  unfold cntF
  rw [List.take_succ_eq_append_getElem hk, List.map_append, List.count_append]
  congr 1
  simp [List.count_singleton]
theorem cntF_le (ls : List (List Nat)) (k l : Nat) : cntF ls k l ≤ ls.length := by
  unfold cntF
  refine Nat.le_trans List.count_le_length ?_
  simp; omega
theorem aggC : AggT 110 17 := ⟨⟨_, Try.underlying110, rfl⟩, by kernel_rfl⟩
def Is17 (c : Array Value) : Prop := c.size = 17
@[go_sem] theorem is17_cv (f : Nat → Nat) : Is17 (cv f) ↔ True := ⟨fun _ => trivial, fun _ => cv_size f⟩
@[go_sem] theorem ones_cv (f : Nat → Nat) : Ones (cv f) ↔ True := ⟨fun _ => trivial, fun _ => cv_cells f⟩

set_option maxRecDepth 100000 in
set_option maxHeartbeats 1000000 in
theorem sType_any (p : Nat → Nat) (m : Nat) (hp : PermN p m) (w : World) :
    Calls Try.prog 78 #[.agg (av p), .int .i64 m] w fun e w' => ∃ v, e = .returned v ∧ Below w.heap.size w w' ∧ Own1 w.heap.size w' v (sortD (lens p m)) := by
  have C := hide fun w => sCycles_any p m hp w
  have hle := cycs_len_le hp.2.2.1 hp.2.1 (Nat.le_refl m)
  have hm16 := hp.2.1
  have hls : ∀ l ∈ cycs p m, 1 ≤ l.length ∧ l.length ≤ m := fun l hl => lens_pos hp.2.2.1 hp.2.1 (List.mem_map_of_mem hl)
  have hD : countD (lens p m) m = sortD (lens p m) := countD_sort fun x hx => lens_pos hp.2.2.1 hp.2.1 hx
  have hDl : (countD (lens p m) m).length ≤ 16 := by rw [hD, (sortD_perm _).length_eq]; unfold lens; rw [List.length_map]; exact hle
  have hcnt : ∀ l, cntF (cycs p m) (cycs p m).length l = (lens p m).count l := fun l => by unfold cntF lens; rw [List.take_length]
  rw [← hD]
  clear hD hp
  generalize lens p m = D at *
  have HC := hide hcnt; clear hcnt
  have HL := hide hls; clear hls
  have HD := hide hDl; clear hDl
  obtain ⟨i0, hi, hz0, hz1, hz2⟩ := info_parts info64
  have I0 := hide (And.intro hi (And.intro hz0 (And.intro hz1 hz2))); clear hi hz0 hz1 hz2
  go_enter Try.func78, Try.ntmps78
  go_wp2_with fail
  refine (C.out _).mono ?_
  rintro e w2 ⟨v, rfl, hb, ho⟩
  generalize cycs p m = ls at *
  obtain ⟨A, c, rfl⟩ := ho.form
  obtain ⟨vs, hv⟩ := own2v.1 ho
  clear ho
  have HV := hide hv; clear hv
  have b2 := (below1 w _).trans (hb.mono (by simp))
  have s2 := b2.size
  clear hb
  go_wp2
  rw [← cv_zero]
  go_loopw [8] (fun i wr => ∃ k : Nat, k ≤ ls.length ∧ i = .int .i64 k ∧ wr = (w2.alloc (.cells #[] 2)).alloc (.cells (cv (cntF ls k)) 110)) (fun i _ => ls.length - (intOf i).toNat)
  case atStart => exact ⟨0, by omega, rfl, by rw [cntF_zero]⟩
  case round =>
    obtain ⟨k, hk, rfl, rfl⟩ := hrel
    by_cases hlt : k < ls.length
    · obtain ⟨g, A', c', rfl, hg, _, c1, _⟩ := HV.out.at hlt
      have hx := HL.out ls[k] (List.getElem_mem hlt)
      have hst := cntF_step hlt
      have hcl := cntF_le ls k
      generalize ls[k].length = x at *
      have h4 := cv_get (cntF ls k) (i := x) (by omega)
      have h3 := cv_set (cntF ls k) (cntF ls (k + 1)) x ((cntF ls k x : Nat) + 1 : Int) (by rw [hst x, if_pos rfl]; simp) (fun j hj => by rw [hst j, if_neg (fun e => hj e.symm)]; rfl)
      have hclx := hcl x
      have HST := hide hst; clear hst hcl
      generalize cntF ls k x = y at *
      go_wp2
      go_roundw
      case rel => exact ⟨k + 1, by omega, by go_num, rfl⟩
      case measure => simp [intOf]; omega
    · obtain rfl : k = ls.length := by omega
      clear hlt hk HV
      have hcf : cntF ls ls.length = fun l => D.count l := by funext l; exact HC.out l
      rw [hcf]
      clear hcf HC HL
      go_wp2
      go_loopw [7, 9] (fun out k wr => ∃ (j : Nat) (S : List Nat), j ≤ m ∧ k = .int .i64 j ∧ S ++ countD D j = countD D m ∧ Below w.heap.size w wr ∧ w2.heap.size + 1 < wr.heap.size ∧ wr.heap[w2.heap.size + 1]? = some (.cells (cv fun l => D.count l) 110 (0, 0)) ∧ Own1 w2.heap.size wr out S) (fun _ k _ => (intOf k).toNat)
      case atStart => exact ⟨m, [], by omega, rfl, rfl, (b2.alloc (by omega) _).alloc (by simp; omega) _, by simp, heap_at _ _ _ (by simp), (own_empty w2 2 1 _ (Nat.le_refl _)).alloc _⟩
      case round =>
        obtain ⟨j, S, hj, rfl, hS, hb, hsz, hh, hown⟩ := hrel
        by_cases hj0 : 0 < j
        · obtain ⟨i, hi⟩ : ∃ i, j = i + 1 := ⟨j - 1, by omega⟩
          have hcD : countD D j = List.replicate (D.count j) j ++ countD D i := by subst hi; rfl
          rw [hcD] at hS
          clear hcD
          have hi1 : i ≤ m := by omega
          have HI := hide hi; clear hi
          have hjd : decide ((0 : Int) < (j : Int)) = true := by simp; omega
          have hD16 := HD.out
          have hlen : S.length + (D.count j) ≤ 16 := by
            have := congrArg List.length hS
            rw [List.length_append, List.length_append, List.length_replicate] at this
            omega
          have c1 : wr.cell? ⟨w2.heap.size + 1, j, none⟩ = some (.int .i64 (D.count j)) := by rw [cell_of_cells, cellsOf_heap hh, cv_get _ (by omega)]
          have HH := hide hh; clear hh
          have HS := hide hS; clear hS
          obtain ⟨y, hy⟩ : ∃ y, y = D.count j := ⟨_, rfl⟩
          rw [← hy] at c1 hlen
          have HY := hide hy; clear hy
          go_wp2
          clear c1
          obtain ⟨wo, rfl⟩ : ∃ wo : World, wo = wr := ⟨_, rfl⟩
          go_loopg [7, 10] y (fun gd out c wr => ∃ (b : Nat) (T : List Nat), gd = b ∧ c = .int .i64 b ∧ T.length + b ≤ 16 ∧ T ++ List.replicate b j ++ countD D i = countD D m ∧ Below w.heap.size w wr ∧ w2.heap.size + 1 < wr.heap.size ∧ wr.heap[w2.heap.size + 1]? = some (.cells (cv fun l => D.count l) 110 (0, 0)) ∧ Own1 w2.heap.size wr out T)
          case atStart => exact ⟨y, S, rfl, rfl, hlen, by rw [HY.out, List.append_assoc]; exact HS.out, hb, hsz, HH.out, hown⟩
          case round =>
            clear hb hsz HH hown HS
            obtain ⟨b, T, hgd, rfl, hTl, hT, hbw, hsw, hhw, how⟩ := hrel
            have HW := hide hhw; clear hhw
            have HT := hide hT; clear hT
            by_cases hb0 : 0 < b
            · have hb1 : decide ((0 : Int) < (b : Int)) = true := by simp; omega
              have how' := how
              unfold Own1 at how'
              have hTl' : T.length ≤ 15 := by omega
              go_wp2_with (at_builtin; refine wpList_append_own _ rfl _ _ 22 rfl w2.heap.size 2 i0 (.int .i64 0) 1 8 Try.underlying22 I0.out.1 I0.out.2.1 I0.out.2.2.1 I0.out.2.2.2 rfl (by decide) _ _ _ rfl (how'.alloc _) ⟨wr.heap.size, 0, none⟩ 1 1 [.int .i64 j] rfl rfl ?c1 ?c2 ?c3 ?c4 ?c5 ?_)
              case c1 => exact one_new _ _ _ _ (by simp)
              case c2 => intro u hu; simp at hu; subst hu; rfl
              case c3 => unfold maxLen; omega
              case c4 => omega
              case c5 => simp; omega
              intro v' w1 hown' hg' _
              have hnm := own_ne_blk how' HW.out (by decide)
              have hs1 : wr.heap.size + 1 ≤ w1.heap.size := by have := hg'.size; simpa using this
              have hmc : w1.heap[w2.heap.size + 1]? = some (.cells (cv fun l => D.count l) 110 (0, 0)) := by
                rw [hg'.block _ (by simp; omega) (fun e => by rcases hnm with c | c; rw [c] at e; cases e; exact c e.symm), heap_past _ _ _ (by omega)]; exact HW.out
              have hbw1 : Below w.heap.size w w1 := (hbw.alloc (by omega) _).grown hg' (by simp; omega) (fun g hg => by have := (how'.lt g hg).1; omega)
              have hO : Own1 w2.heap.size w1 v' (T ++ [j]) := by
                unfold Own1 nums at *
                simpa using hown'
              have hTT : (T ++ [j]) ++ List.replicate (b - 1) j ++ countD D i = countD D m := by
                rw [← HT.out]
                obtain ⟨b, rfl⟩ : ∃ b', b = b' + 1 := ⟨b - 1, by omega⟩
                simp [List.replicate_succ]
              have H1 := hide hmc; clear hmc
              have H2 := hide hTT; clear hTT
              clear hown' hg' how' hnm
              go_wp2
              go_roundg (b - 1)
              case measure => omega
              case rel => exact ⟨b - 1, T ++ [j], rfl, by go_num, by simp; omega, H2.out, hbw1, by omega, H1.out, hO⟩
            · obtain rfl : b = 0 := by omega
              go_wp2
              go_roundw
              case rel => exact ⟨i, T, hi1, by have := HI.out; go_num, by simpa using HT.out, hbw, hsw, HW.out, how⟩
              case measure => have := HI.out; simp [intOf]; omega
        · obtain rfl : j = 0 := by omega
          clear hh
          have hO : Own1 w.heap.size wr u7 (countD D m) := by rw [← hS]; simpa [countD] using hown.mono s2
          clear hS hown
          go_wp2
          go_ret
          exact ⟨_, rfl, hb, hO⟩
end Go.Proofs.Ytlmhnimpglookaa

namespace Go.Proofs.Ytlmhnimpglookaa
open Go.RowKit

theorem lcms_sortD (l : List Nat) : lcms (sortD l) = lcms l := by
  refine Nat.dvd_antisymm ((lcms_dvd _ _).2 fun x hx => (lcms_dvd l _).1 (Nat.dvd_refl _) x ((sortD_perm l).mem_iff.1 hx)) ((lcms_dvd _ _).2 fun x hx => (lcms_dvd (sortD l) _).1 (Nat.dvd_refl _) x ((sortD_perm l).mem_iff.2 hx))
theorem own1_form {B : Nat} {w : World} {v : Value} {l : List Nat} (h : Own1 B w v l) : ∃ A c, v = .slice A l.length c := by
  obtain ⟨A, c, e⟩ := own_slice h
  exact ⟨A, c, e⟩

-- left out here: loop.example/g01200/spec.OrderOf
theorem ordR_eq (p : Nat → Nat) (n : Int) : ∃ a c : Int, ordR p n = .tuple #[.int .i64 a, .int .i64 c] := by
  unfold ordR; split
  · exact ⟨_, _, rfl⟩
  · exact ⟨_, _, rfl⟩

-- left out here: loop.example/g01200/laws.FnExactOrderOf
end Go.Proofs.Ytlmhnimpglookaa

namespace Go.Proofs.Ytlmhnimpglookaa
open Go.RowKit

theorem valW_perm {m : Nat} {f g : Nat → Nat} (hf : PermN f m) (hg : PermN g m) (l : List Nat) : ∀ {v r : Nat → Nat}, PermN v m → valW m f g l v = some r → PermN r m := by
  induction l with
  | nil => intro v r hv h; unfold valW at h; cases h; exact hv
  | cons c l ih =>
    intro v r hv h
    unfold valW at h
    rcases hl : ltr m f g c with _ | p
    · rw [hl] at h; cases h
    · rw [hl] at h
      exact ih (thenF_perm hv (ltr_perm hf hg hl)) h
theorem wordR_perm {m : Nat} {f g : Nat → Nat} (hd : DesN f g m) {s : ByteArray} {r : Nat → Nat} (h : wordR m f g s = some r) : PermN r m := by
  unfold wordR at h
  split at h
  · exact valW_perm hd.black hd.white _ (sameF_perm' hd.pos hd.le) h
  · cases h
noncomputable def oowR (n : Int) (f g : Nat → Nat) (s : ByteArray) : Value := if desB n f g then (match wordR n.toNat f g s with
  | some v => .tuple #[.int .i64 (lcms (lens v n.toNat)), .int .i64 0]
  | none => .tuple #[.int .i64 0, .int .i64 6]) else .tuple #[.int .i64 0, .int .i64 1]
theorem oowR_eq (n : Int) (f g : Nat → Nat) (s : ByteArray) : ∃ (r c : Int), oowR n f g s = .tuple #[.int .i64 r, .int .i64 c] := by
  unfold oowR
  split
  · split
    · exact ⟨_, _, rfl⟩
    · exact ⟨_, _, rfl⟩
  · exact ⟨_, _, rfl⟩
theorem upto_256 {h : Nat → Nat} {m : Nat} (hh : ∀ i, i < m → h i < 16) : ∀ i, upto h m i < 256 := fun i => by
  unfold upto
  split
  · rename_i c; have := hh i c; omega
  · omega
theorem thenF_256 {v p : Nat → Nat} {m : Nat} (hv : PermN v m) (hp : PermN p m) : ∀ i, thenF v p m i < 256 := by
  unfold thenF
  exact upto_256 fun i hi => by
    have h16 := hv.2.1
    have := hv.2.2.1.1 i hi
    exact hp.lt _ (by omega)
theorem valW_256 {m : Nat} {f g : Nat → Nat} (hf : PermN f m) (hg : PermN g m) (l : List Nat) : ∀ {v r : Nat → Nat}, PermN v m → (∀ i, v i < 256) → valW m f g l v = some r → ∀ i, r i < 256 := by
  induction l with
  | nil => intro v r hv h2 h; unfold valW at h; cases h; exact h2
  | cons c l ih =>
    intro v r hv h2 h
    unfold valW at h
    rcases hl : ltr m f g c with _ | p
    · rw [hl] at h; cases h
    · rw [hl] at h
      have hp := ltr_perm hf hg hl
      exact ih (thenF_perm hv hp) (thenF_256 hv hp) h
theorem wordR_256 {m : Nat} {f g : Nat → Nat} (hd : DesN f g m) {s : ByteArray} {r : Nat → Nat} (h : wordR m f g s = some r) : ∀ i, r i < 256 := by
  unfold wordR at h
  split at h
  · exact valW_256 hd.black hd.white _ (sameF_perm' hd.pos hd.le) (by unfold sameF; exact upto_256 fun i hi => by have := hd.le; omega) h
  · cases h

set_option maxRecDepth 100000 in
set_option maxHeartbeats 1000000 in
theorem orderOfWord_any (n : Int) (f g : Nat → Nat) (hf : ∀ i, f i < 256) (hg : ∀ i, g i < 256) (s : ByteArray) (w : World) :
    Calls Try.prog 46 #[.agg (dv n f g), .string s] w fun e w' => e = .returned (oowR n f g s) ∧ Below w.heap.size w w' := by
  have c1 := fun w => valueOfWord_any n f g hf hg s w
  clear hf hg
  have hn' := dv_n n f g
  have H1 := (Holds.start w).blk (dv n f g) 44 w.heap.size rfl
  rcases h1 : desB n f g with _ | _
  · have hr : oowR n f g s = .tuple #[.int .i64 0, .int .i64 1] := by unfold oowR; rw [if_neg (by simp [h1])]
    have hv : vowR n f g s = .tuple #[.agg (av fun _ => 0), .int .i64 1] := by unfold vowR; rw [if_neg (by simp [h1])]
    rw [hr]
    rw [hv] at c1
    have C1 := hide c1; clear c1 h1 hr hv
    go_enter Try.func46, Try.ntmps46
    go_wp2_with fail
    refine (C1.out _).mono ?_
    rintro e w1 ⟨rfl, hb⟩
    have H2 := (H1.call hb).blk (av fun _ => 0) 42 w1.heap.size rfl
    go_wp2
    go_ret2
    exact ⟨rfl, H2.low⟩
  obtain ⟨m, rfl, hd⟩ := desB_true h1
  have hv : vowR (m : Int) f g s = valO (wordR m f g s) (.int .i64 0) (.int .i64 6) := by unfold vowR; rw [if_pos h1, Int.toNat_natCast]
  rw [hv] at c1
  have hp := fun r (h : wordR m f g s = some r) => wordR_perm hd h
  rcases hw : wordR m f g s with _ | r
  · have hr : oowR (m : Int) f g s = .tuple #[.int .i64 0, .int .i64 6] := by unfold oowR; rw [if_pos h1, Int.toNat_natCast, hw]
    rw [hr]
    rw [hw] at c1
    have c2 : ∀ w, Calls Try.prog 43 #[.agg (dv (m : Int) f g), .string s] w fun e w' => e = .returned (.tuple #[.agg (av fun _ => 0), .int .i64 6]) ∧ Below w.heap.size w w' := c1
    have C1 := hide c2; clear c1 c2 h1 hr hv hw hp hd
    go_enter Try.func46, Try.ntmps46
    go_wp2_with fail
    refine (C1.out _).mono ?_
    rintro e w1 ⟨rfl, hb⟩
    have H2 := (H1.call hb).blk (av fun _ => 0) 42 w1.heap.size rfl
    go_wp2
    go_ret2
    exact ⟨rfl, H2.low⟩
  · have hr : oowR (m : Int) f g s = .tuple #[.int .i64 (lcms (lens r m)), .int .i64 0] := by unfold oowR; rw [if_pos h1, Int.toNat_natCast, hw]
    rw [hr]
    rw [hw] at c1
    have c2 : ∀ w, Calls Try.prog 43 #[.agg (dv (m : Int) f g), .string s] w fun e w' => e = .returned (.tuple #[.agg (av r), .int .i64 0]) ∧ Below w.heap.size w w' := c1
    have hpr := hp r hw
    have h256 := wordR_256 hd hw
    have ho : ordR r (m : Int) = .tuple #[.int .i64 (lcms (lens r m)), .int .i64 0] := by unfold ordR; rw [if_pos (permB_yes hpr), Int.toNat_natCast]
    have c3 := fun w => orderOf_any r h256 (m : Int) w
    rw [ho] at c3
    have C3 := hide c3
    have C1 := hide c2; clear c1 c2 c3 h1 hr hv hw hp hd hpr ho h256
    go_enter Try.func46, Try.ntmps46
    go_wp2_with fail
    refine (C1.out _).mono ?_
    rintro e w1 ⟨rfl, hb⟩
    have H2 := (H1.call hb).blk (av r) 42 w1.heap.size rfl
    have d2 := H2.cells 0 rfl
    have n2 := H2.cell 1 rfl hn'
    clear H1 hb
    go_wp2_with fail
    refine (C3.out _).mono ?_
    rintro e w2 ⟨rfl, hb2⟩
    have H3 := H2.call hb2
    clear hb2 d2 n2
    go_wp2
    go_ret2
    exact ⟨rfl, H3.low⟩

set_option maxRecDepth 100000 in
set_option maxHeartbeats 1000000 in
theorem sOrderOfWord_any (n : Int) (f g : Nat → Nat) (hf : ∀ i, f i < 256) (hg : ∀ i, g i < 256) (s : ByteArray) (w : World) :
    Calls Try.prog 45 #[.agg (dv n f g), .string s] w fun e w' => e = .returned (oowR n f g s) ∧ Below w.heap.size w w' := by
  have C1 := hide fun w => sIs_any n f g hf hg w
  clear hf hg
  have hn' := dv_n n f g
  have H1 := (Holds.start w).blk (dv n f g) 44 w.heap.size rfl
  rcases h1 : desB n f g with _ | _
  · rw [h1] at C1
    have hr : oowR n f g s = .tuple #[.int .i64 0, .int .i64 1] := by unfold oowR; rw [if_neg (by simp [h1])]
    rw [hr]
    clear h1 hr
    go_enter Try.func45, Try.ntmps45
    go_wp2_with fail
    refine (C1.out _).mono ?_
    rintro e w1 ⟨rfl, hb⟩
    have H2 := H1.call hb
    go_wp2
    go_ret2
    exact ⟨rfl, H2.low⟩
  rw [h1] at C1
  obtain ⟨m, rfl, hd⟩ := desB_true h1
  have c2 := fun w => l03Value_any f g m hd s w
  have hp := fun r (h : wordR m f g s = some r) => wordR_perm hd h
  rcases hw : wordR m f g s with _ | r
  · have hr : oowR (m : Int) f g s = .tuple #[.int .i64 0, .int .i64 6] := by unfold oowR; rw [if_pos h1, Int.toNat_natCast, hw]
    rw [hr]
    rw [hw] at c2
    have c3 : ∀ w, Calls Try.prog 74 #[.agg (dv (m : Int) f g), .string s] w fun e w' => e = .returned (.tuple #[.agg (av fun _ => 0), .bool false]) ∧ Below w.heap.size w w' := c2
    have C2 := hide c3; clear c2 c3 h1 hr hw hp hd
    go_enter Try.func45, Try.ntmps45
    go_wp2_with fail
    refine (C1.out _).mono ?_
    rintro e w1 ⟨rfl, hb⟩
    have H2 := H1.call hb
    have d2 := H2.cells 0 rfl
    clear hb
    go_wp2_with fail
    refine (C2.out _).mono ?_
    rintro e w2 ⟨rfl, hb2⟩
    have H3 := (H2.call hb2).blk (av fun _ => 0) 42 w2.heap.size rfl
    clear hb2 d2
    go_wp2
    go_ret2
    exact ⟨rfl, H3.low⟩
  · have hr : oowR (m : Int) f g s = .tuple #[.int .i64 (lcms (lens r m)), .int .i64 0] := by unfold oowR; rw [if_pos h1, Int.toNat_natCast, hw]
    rw [hr]
    rw [hw] at c2
    have c3 : ∀ w, Calls Try.prog 74 #[.agg (dv (m : Int) f g), .string s] w fun e w' => e = .returned (.tuple #[.agg (av r), .bool true]) ∧ Below w.heap.size w w' := c2
    have C2 := hide c3
    have hpm := hp r hw
    have C3 := hide fun w => sType_any r m hpm w
    have hbij := hpm.2.2.1
    have h16 := hpm.2.1
    have hs1 : ∀ l ∈ sortD (lens r m), 1 ≤ l ∧ l ≤ 16 := fun l hl => by have := lens_pos hbij h16 ((sortD_perm _).mem_iff.1 hl); omega
    have hs2 : lcms (sortD (lens r m)) ≤ 65536 := by rw [lcms_sortD]; exact lcms_le hbij h16
    have hs3 : 0 < lcms (sortD (lens r m)) := by rw [lcms_sortD]; exact lcms_pos hbij h16
    have hs4 : (sortD (lens r m)).length ≤ 16 := by rw [(sortD_perm _).length_eq]; unfold lens; rw [List.length_map]; exact cycs_len_le hbij h16 (Nat.le_refl m)
    rw [← lcms_sortD]
    generalize sortD (lens r m) = S at *
    have C4 := hide fun (A : Option Addr) (c B : Nat) (w : World) (h : Own1 B w (.slice A S.length c) S) => common_any S A c B hs1 hs2 hs3 hs4 w h
    clear c2 c3 h1 hr hw hp hd hpm hbij h16 hs1 hs2 hs3
    go_enter Try.func45, Try.ntmps45
    go_wp2_with fail
    refine (C1.out _).mono ?_
    rintro e w1 ⟨rfl, hb⟩
    have H2 := H1.call hb
    have d2 := H2.cells 0 rfl
    clear hb H1
    go_wp2_with fail
    refine (C2.out _).mono ?_
    rintro e w2 ⟨rfl, hb2⟩
    have H3 := (H2.call hb2).blk (av r) 42 w2.heap.size rfl
    have d3 := H3.cells 0 rfl
    have n3 := H3.cell 1 rfl hn'
    clear hb2 d2 H2
    go_wp2_with fail
    refine (C3.out _).mono ?_
    rintro e w3 ⟨v, rfl, hb3, ho⟩
    obtain ⟨A, c, rfl⟩ := own1_form ho
    have O := hide ho; clear ho
    have H4 := H3.call hb3
    clear hb3 H3 d3 n3
    go_wp2_with fail
    refine (C4.out _ _ _ _ O.out).mono ?_
    rintro e w4 ⟨rfl, hb4⟩
    have H5 := H4.call hb4
    clear hb4
    go_wp2
    go_ret2
    exact ⟨rfl, H5.low⟩

set_option maxRecDepth 100000 in
set_option maxHeartbeats 1000000 in
theorem fnExactOrderOfWord_walk (n : Int) (f g : Nat → Nat) (_hn : -9223372036854775808 ≤ n ∧ n ≤ 9223372036854775807) (hf : ∀ i, f i < 256) (hg : ∀ i, g i < 256) (s : ByteArray) {HW : Prop} (_hw : HW) (w : World) :
    Calls Try.prog 13 #[.agg (dv n f g), .string s] w fun e w' => e = .returned (.bool true) ∧ Below w.heap.size w w' := by
  clear _hn _hw
  have H0 := (Holds.start w).blk (dv n f g) 40 w.heap.size rfl
  by_cases hbig : (s.size : Int) > 1048576
  · have hgt : decide ((1048576 : Int) < (s.size : Int)) = true := decide_eq_true hbig
    go_enter Try.func13, Try.ntmps13
    go_wp2
    go_ret
    exact ⟨rfl, H0.low⟩
  have hgt : decide ((1048576 : Int) < (s.size : Int)) = false := decide_eq_false hbig
  obtain ⟨r, c, hR⟩ := oowR_eq n f g s
  have c1 := fun w => orderOfWord_any n f g hf hg s w
  have c2 := fun w => sOrderOfWord_any n f g hf hg s w
  rw [hR] at c1 c2
  have C1 := hide c1; clear c1
  have C2 := hide c2; clear c2
  clear hR hf hg hbig
  have hne : (c != c) = false := by simp
  have hna : (r != r) = false := by simp
  go_enter Try.func13, Try.ntmps13
  go_wp2_with fail
  refine (toDessin_any n f g _).mono ?_
  rintro e w1 ⟨rfl, h1⟩
  have H1 := H0.call h1
  clear h1
  go_wp2_with fail
  refine (C2.out _).mono ?_
  rintro e w2 ⟨rfl, h2⟩
  have H2 := H1.call h2
  have d2 := H2.cells 0 rfl
  clear h2 H1 H0
  go_wp2_with fail
  refine (toDessin_any n f g _).mono ?_
  rintro e w3 ⟨rfl, h3⟩
  have H3 := H2.call h3
  clear h3 d2 H2
  go_wp2_with fail
  refine (C1.out _).mono ?_
  rintro e w4 ⟨rfl, h4⟩
  have H4 := H3.call h4
  clear h4 H3
  go_wp2
  go_ret
  exact ⟨rfl, H4.low⟩
end Go.Proofs.Ytlmhnimpglookaa
