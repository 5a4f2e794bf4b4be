/- SatisfiesRelations of program and model. -/
import Derived.Test.YteeideminlcblaaDoorStr
import Derived.Test.YteeideminlcblaaDoorWpS
import Derived.Test.YteeideminlcblaaDoorIsW
import Derived.Test.YteeideminlcblaaDoorSame
namespace Go.Proofs.YteeideminlcblaaDoor
open Go.RowKit

def fitB (m : Nat) (f g : Nat → Nat) (s : ByteArray) : Bool := sameB (wplF f g m (lts s)) (sameF m)
noncomputable def satR (n : Int) (f g : Nat → Nat) (l : List ByteArray) : Value :=
  if desB n f g = true ∧ l.all wdB = true then (if 20 < l.length then .tuple #[.bool false, .int .i64 2] else .tuple #[.bool (l.all (fitB n.toNat f g)), .int .i64 0]) else .tuple #[.bool false, .int .i64 1]
theorem satR_eq (n : Int) (f g : Nat → Nat) (l : List ByteArray) : ∃ (b : Bool) (c : Int), satR n f g l = .tuple #[.bool b, .int .i64 c] := by
  unfold satR
  split
  · split <;> exact ⟨_, _, rfl⟩
  · exact ⟨_, _, rfl⟩
/-- what holds of all of the first k -/
theorem all_step {α : Type} {p : α → Bool} {l : List α} {k : Nat} (h : k < l.length) (h1 : (l.take k).all p = true) (h2 : p l[k] = true) : (l.take (k + 1)).all p = true := by
  rw [List.take_succ_eq_append_getElem h, List.all_append, h1]; simp [h2]
theorem all_no {α : Type} {p : α → Bool} {l : List α} {k : Nat} (h : k < l.length) (h2 : p l[k] = false) : l.all p = false := by
  rw [Bool.eq_false_iff]
  intro e
  rw [List.all_eq_true.1 e _ (List.getElem_mem h)] at h2
  cases h2
set_option maxRecDepth 100000 in
set_option maxHeartbeats 1000000 in
theorem areWords_any (v : Value) (l : List ByteArray) (w : World) (hv : RdS w v l) :
    Calls Tryd.prog 36 #[v] w fun e w' => e = .returned (.bool (l.all wdB)) ∧ Below w.heap.size w w' := by
  obtain ⟨A, c, rfl, _⟩ := rdS_form hv
  have HV := hide hv; clear hv
  obtain ⟨R, hR⟩ : ∃ R, R = l.all wdB := ⟨_, rfl⟩
  rw [← hR]
  have HR := hide hR; clear hR
  go_enter Tryd.func36, Tryd.ntmps36
  go_wp2
  go_loopw [7] (fun t wr => ∃ k : Nat, k ≤ l.length ∧ t = .int .i64 k ∧ (l.take k).all wdB = true ∧ Below w.heap.size w wr) (fun t _ => l.length - (intOf t).toNat)
  case atStart => exact ⟨0, Nat.zero_le _, rfl, rfl, Below.refl _ _⟩
  case round =>
    obtain ⟨k, hk, rfl, hok, hb⟩ := hrel
    have HOK := hide hok; clear hok
    by_cases hlt : k < l.length
    · have hlti : (k : Int) < (l.length : Int) := by omega
      obtain ⟨a, rfl, _, c1⟩ := rdS_at (rdS_below HV.out hb (Nat.le_refl _)) hlt
      have hst := fun h2 => all_step (p := wdB) hlt HOK.out h2
      have hno := fun h2 => HR.out.trans (all_no (p := wdB) hlt h2)
      generalize l[k] = x at *
      have CW := hide fun w => isWord_any x w
      rcases hx : wdB x with _ | _
      · rw [hx] at CW
        have hr := hno hx
        clear hst hno hx
        replace hr := hr.symm
        subst hr
        go_wp2_with fail
        refine (CW.out _).mono ?_
        rintro e w1 ⟨rfl, h1⟩
        have b1 := hb.trans (h1.mono hb.size)
        clear h1
        go_wp2
        go_ret
        exact ⟨rfl, b1⟩
      · rw [hx] at CW
        have HST := hide (hst hx); clear hst hno hx
        go_wp2_with fail
        refine (CW.out _).mono ?_
        rintro e w1 ⟨rfl, h1⟩
        have b1 := hb.trans (h1.mono hb.size)
        clear h1
        go_wp2
        go_roundw
        case rel => exact ⟨k + 1, by omega, by go_num, HST.out, b1⟩
        case measure => simp [intOf]; omega
    · obtain rfl : k = l.length := by omega
      have hr := HOK.out
      rw [List.take_length] at hr
      have hr2 := HR.out.trans hr
      subst hr2
      clear hlt hk hr
      go_wp2
      go_ret
      exact ⟨rfl, hb⟩
set_option maxRecDepth 100000 in
set_option maxHeartbeats 1000000 in
theorem l08Words_any (v : Value) (l : List ByteArray) (hl : ∀ x ∈ l, x.size ≤ 9223372036854775807) (gs : Nat) (w : World) (hg : (pBlk gs #[v] 36).ok w) (hv : RdS w v l) :
    Calls Tryd.prog 34 #[.slice (some ⟨gs, 0, none⟩) 1 1] w fun e w' => e = .returned (.int .i64 (if l.all wdB = true then (if 20 < l.length then 2 else 0) else 1)) ∧ Below w.heap.size w w' := by
  obtain ⟨A, c, rfl, _⟩ := rdS_form hv
  have HV := hide hv; clear hv
  have hgs : gs < w.heap.size := lt_of_some hg
  have HG := hide (fun (wx : World) (hb : Below w.heap.size w wx) => show wx.cell? ⟨gs, 0, none⟩ = some (.slice A l.length c) by
    have := (pBlk gs #[.slice A l.length c] 36).keep _ _ hg fun k hk => hb.block k ((pBlk gs #[.slice A l.length c] 36).lt _ _ hg hk)
    rw [cell_of_cells, cellsOf_heap this]; rfl)
  clear hg
  obtain ⟨R, hR⟩ : ∃ R : Int, R = (if l.all wdB = true then (if 20 < l.length then 2 else 0) else 1) := ⟨_, rfl⟩
  rw [← hR]
  have HR1 := hide (fun h : l.all wdB = false => show R = 1 by rw [hR, if_neg (by simp [h])])
  have HR2 := hide (fun (h : l.all wdB = true) (h2 : 20 < l.length) => show R = 2 by rw [hR, if_pos h, if_pos h2])
  have HR3 := hide (fun (h : l.all wdB = true) (h2 : ¬ 20 < l.length) => show R = 0 by rw [hR, if_pos h, if_neg h2])
  have HL := hide hl; clear hl hR
  go_enter Tryd.func34, Tryd.ntmps34
  go_wp2
  go_loopw [3] (fun t wr => ∃ i : Nat, i ≤ 1 ∧ t = .int .i64 i ∧ (i = 1 → l.all wdB = true) ∧ Below w.heap.size w wr) (fun t _ => 1 - (intOf t).toNat)
  case atStart => exact ⟨0, by omega, rfl, fun h => by omega, Below.refl _ _⟩
  case round =>
    obtain ⟨i, hi, rfl, hall, hb⟩ := hrel
    have HA := hide hall; clear hall
    by_cases h1 : i < 1
    · have HI0 := hide (show i = 0 by omega)
      have h1i : (i : Int) < 1 := by omega
      have hme : 1 - (i + 1) < 1 - i := by omega
      clear hi HA
      go_wp2
      go_loopw [4] (fun t wr => ∃ k : Nat, k ≤ l.length ∧ t = .int .i64 k ∧ (l.take k).all wdB = true ∧ Below w.heap.size w wr) (fun t _ => l.length - (intOf t).toNat)
      case atStart => exact ⟨0, Nat.zero_le _, rfl, rfl, hb⟩
      case round =>
        clear hb
        obtain ⟨k, hk, rfl, hok, hb⟩ := hrel
        have HOK := hide hok; clear hok
        have c0 : wr.cell? ⟨gs, i, none⟩ = some (.slice A l.length c) := by rw [HI0.out]; exact HG.out wr hb
        by_cases hlt : k < l.length
        · have hlti : (k : Int) < (l.length : Int) := by omega
          obtain ⟨a, rfl, _, c1⟩ := rdS_at (rdS_below HV.out hb (Nat.le_refl _)) hlt
          have hst := fun h2 => all_step (p := wdB) hlt HOK.out h2
          have hno := fun h2 => HR1.out (all_no (p := wdB) hlt h2)
          have hsz := HL.out _ (List.getElem_mem hlt)
          generalize l[k] = x at *
          have CW := hide fun w => l08Word_any x hsz w
          clear hsz
          rcases hx : wdB x with _ | _
          · rw [hx] at CW
            have hr := hno hx
            clear hst hno hx
            subst hr
            go_wp2_with fail
            refine (CW.out _).mono ?_
            rintro e w1 ⟨rfl, h1⟩
            have b1 := hb.trans (h1.mono hb.size)
            clear h1
            go_wp2
            go_ret
            exact ⟨rfl, b1⟩
          · rw [hx] at CW
            have HST := hide (hst hx); clear hst hno hx
            go_wp2_with fail
            refine (CW.out _).mono ?_
            rintro e w1 ⟨rfl, h1⟩
            have b1 := hb.trans (h1.mono hb.size)
            clear h1
            go_wp2
            go_roundw
            case rel => exact ⟨k + 1, by omega, by go_num, HST.out, b1⟩
            case measure => simp [intOf]; omega
        · obtain rfl : k = l.length := by omega
          have hr := HOK.out
          rw [List.take_length] at hr
          have HRR := hide hr
          clear hlt hk hr HOK
          go_wp2
          go_roundw
          case rel => exact ⟨i + 1, by omega, by go_num, fun _ => HRR.out, hb⟩
          case measure => first | (simp [intOf]; done) | (simp [intOf]; omega)
    · obtain rfl : i = 1 := by omega
      have hall := HA.out rfl
      have HALL := hide hall
      clear h1 hi HA hall
      go_wp2
      go_loopw [5] (fun t wr => ∃ i : Nat, i ≤ 1 ∧ t = .int .i64 i ∧ (i = 1 → ¬ 20 < l.length) ∧ Below w.heap.size w wr) (fun t _ => 1 - (intOf t).toNat)
      case atStart => exact ⟨0, by omega, rfl, fun h => by omega, hb⟩
      case round =>
        clear hb
        obtain ⟨i, hi, rfl, hall, hb⟩ := hrel
        have HA := hide hall; clear hall
        by_cases h1 : i < 1
        · have HI0 := hide (show i = 0 by omega)
          have h1i : (i : Int) < 1 := by omega
          clear hi HA
          have c0 : wr.cell? ⟨gs, i, none⟩ = some (.slice A l.length c) := by rw [HI0.out]; exact HG.out wr hb
          by_cases h20 : 20 < l.length
          · have d := decide_eq_true (show (20 : Int) < (l.length : Int) by omega)
            have hr := HR2.out HALL.out h20
            subst hr
            clear h20
            go_wp2
            go_ret
            exact ⟨rfl, hb⟩
          · have d := decide_eq_false (show ¬ (20 : Int) < (l.length : Int) by omega)
            have H20 := hide h20; clear h20
            go_wp2
            go_roundw
            case rel => exact ⟨i + 1, by omega, by go_num, fun _ => H20.out, hb⟩
            case measure => first | (simp [intOf]; done) | (simp [intOf]; omega)
        · obtain rfl : i = 1 := by omega
          have hr := HR3.out HALL.out (HA.out rfl)
          subst hr
          clear h1 hi HA
          go_wp2
          go_ret
          exact ⟨rfl, hb⟩
set_option maxRecDepth 100000 in
set_option maxHeartbeats 1000000 in
theorem satisfies_any (m : Nat) (f g : Nat → Nat) (hd : DesN f g m) (v : Value) (l : List ByteArray) (hw : l.all wdB = true) (w : World) (hv : RdS w v l) :
    Calls Tryd.prog 37 #[.agg (dv m f g), v] w fun e w' => e = .returned (.bool (l.all (fitB m f g))) ∧ Below w.heap.size w w' := by
  obtain ⟨A, c, rfl, _⟩ := rdS_form hv
  have HV := hide hv; clear hv
  have WD := hide (fun (k : Nat) (hk : k < l.length) => show wdB l[k] = true from List.all_eq_true.1 hw _ (List.getElem_mem hk))
  have hn := dv_n m f g
  have hm := hd.le
  have CS := hide fun w => stay_any m hm w
  have CP := hide (fun (s : ByteArray) (h : wdB s = true) (w : World) => wordPlaces_any m f g hd s (by have := wdB_size h; omega) (wdB_all h) w)
  obtain ⟨R, hR⟩ : ∃ R, R = l.all (fitB m f g) := ⟨_, rfl⟩
  rw [← hR]
  have HR := hide hR; clear hR hw hd
  have H0 := (Holds.start w).blk (dv m f g) 32 w.heap.size rfl
  go_enter Tryd.func37, Tryd.ntmps37
  go_wp2
  go_loopw [9] (fun t wr => ∃ k : Nat, k ≤ l.length ∧ t = .int .i64 k ∧ (l.take k).all (fitB m f g) = true ∧ Holds w wr [pBlk w.heap.size (dv m f g) 32]) (fun t _ => l.length - (intOf t).toNat)
  case atStart => exact ⟨0, Nat.zero_le _, rfl, rfl, H0⟩
  case round =>
    clear H0
    obtain ⟨k, hk, rfl, hok, hH⟩ := hrel
    have HOK := hide hok; clear hok
    by_cases hlt : k < l.length
    · have hlti : (k : Int) < (l.length : Int) := by omega
      have hrd := rdS_at (rdS_below HV.out hH.low (Nat.le_refl _)) hlt
      obtain ⟨a, rfl, _, c1⟩ := hrd
      have RDS := hide (fun (wx : World) (hb : Below w.heap.size w wx) => show wx.cell? (a.add k) = some (.string l[k]) by
        obtain ⟨a', e, _, h⟩ := rdS_at (rdS_below HV.out hb (Nat.le_refl _)) hlt
        injection e with e
        subst e
        exact h)
      have hst := fun h2 => all_step (p := fitB m f g) hlt HOK.out h2
      have hno := fun h2 => HR.out.trans (all_no (p := fitB m f g) hlt h2)
      have CX := hide (CP.out l[k] (WD.out k hlt))
      obtain ⟨x, hx⟩ : ∃ x, x = l[k] := ⟨_, rfl⟩
      rw [← hx] at RDS CX c1
      obtain ⟨q, hq⟩ : ∃ q, q = wplF f g m (lts x) := ⟨_, rfl⟩
      rw [← hq] at CX
      have hfit : fitB m f g l[k] = sameB q (sameF m) := by unfold fitB; rw [hq, hx]
      rw [hfit] at hst hno
      clear hx hq hfit
      go_wp2
      refine Rd.region_P (w0 := w) [pBlk w.heap.size (dv m f g) 32] [pBlk w.heap.size (dv m f g) 32] [] (.q 0 <| .q 1 <| .q 2 <| .q 3 <| .q 4 <| .q 5 <| .q 6 .fin) hH (.refl _) (by kernel_rfl) (by kernel_rfl) (by kernel_rfl) ?_
      iterate 2
        apply Rd.v_q
        · simp only [List.getElem?_toArray, List.getElem?_cons_zero, List.getElem?_cons_succ]; exact rfl
        · rfl
        · go_simp
        · intro wx hx
          have q1 := hx.cells 0 rfl
          have q2 := hx.cell 0 rfl hn
          unfold atG
          go_simp
          simp only [uponG]
          exact ⟨by trivial, rfl⟩
      iterate 1
        apply Rd.v_q
        · simp only [List.getElem?_toArray, List.getElem?_cons_zero, List.getElem?_cons_succ]; exact rfl
        · rfl
        · go_simp
        · intro wx hx
          have q1 := hx.cells 0 rfl
          have q2 := hx.cell 0 rfl hn
          unfold atG
          go_simp
          simp only [uponG]
          exact ⟨by trivial, CX.out wx⟩
      iterate 2
        apply Rd.v_q
        · simp only [List.getElem?_toArray, List.getElem?_cons_zero, List.getElem?_cons_succ]; exact rfl
        · rfl
        · go_simp
        · intro wx hx
          have q1 := hx.cells 0 rfl
          have q2 := hx.cell 0 rfl hn
          unfold atG
          go_simp
          simp only [uponG]
          exact ⟨by trivial, rfl⟩
      iterate 1
        apply Rd.v_q
        · simp only [List.getElem?_toArray, List.getElem?_cons_zero, List.getElem?_cons_succ]; exact rfl
        · rfl
        · go_simp
        · intro wx hx
          have q1 := hx.cells 0 rfl
          have q2 := hx.cell 0 rfl hn
          unfold atG
          go_simp
          simp only [uponG]
          exact ⟨by trivial, CS.out wx⟩
      iterate 1
        apply Rd.v_q
        · simp only [List.getElem?_toArray, List.getElem?_cons_zero, List.getElem?_cons_succ]; exact rfl
        · rfl
        · go_simp
        · intro wx hx
          have q1 := hx.cells 0 rfl
          have q2 := hx.cell 0 rfl hn
          unfold atG
          go_simp
          simp only [uponG]
          exact ⟨by trivial, rfl⟩
      rintro w3 h3 -
      go_simp
      clear hH
      rcases hs : sameB q (sameF m) with _ | _
      · have hr := hno hs
        clear hst hno
        have hs2 : (!sameB q (sameF m)) = true := by rw [hs]; rfl
        replace hr := hr.symm
        subst hr
        go_wp2
        go_ret
        exact ⟨rfl, h3.low⟩
      · have HST := hide (hst hs); clear hst hno
        have hs2 : (!sameB q (sameF m)) = false := by rw [hs]; rfl
        go_wp2
        go_roundw
        case rel => exact ⟨k + 1, by omega, by go_num, HST.out, h3⟩
        case measure => simp [intOf]; omega
    · obtain rfl : k = l.length := by omega
      have hr := HOK.out
      rw [List.take_length] at hr
      have hr2 := HR.out.trans hr
      subst hr2
      clear hlt hk hr
      go_wp2
      go_ret
      exact ⟨rfl, hH.low⟩
set_option maxRecDepth 100000 in
set_option maxHeartbeats 1000000 in
theorem l08Fits_any (m : Nat) (f g : Nat → Nat) (hd : DesN f g m) (v : Value) (l : List ByteArray) (hw : l.all wdB = true) (w : World) (hv : RdS w v l) :
    Calls Tryd.prog 35 #[.agg (dv m f g), v] w fun e w' => e = .returned (.bool (l.all (fitB m f g))) ∧ Below w.heap.size w w' := by
  obtain ⟨A, c, rfl, _⟩ := rdS_form hv
  have HV := hide hv; clear hv
  have WD := hide (fun (k : Nat) (hk : k < l.length) => show wdB l[k] = true from List.all_eq_true.1 hw _ (List.getElem_mem hk))
  have hn := dv_n m f g
  have hm := hd.le
  have CS := hide fun w => sSame_any m hm w
  have CP := hide (fun (s : ByteArray) (h : wdB s = true) (w : World) => l08Places_any m f g hd s (by have := wdB_size h; omega) (wdB_all h) w)
  obtain ⟨R, hR⟩ : ∃ R, R = l.all (fitB m f g) := ⟨_, rfl⟩
  rw [← hR]
  have HR := hide hR; clear hR hw hd
  have H0 := (Holds.start w).blk (dv m f g) 32 w.heap.size rfl
  go_enter Tryd.func35, Tryd.ntmps35
  go_wp2
  go_loopw [5] (fun t wr => ∃ k : Nat, k ≤ l.length ∧ t = .int .i64 k ∧ (l.take k).all (fitB m f g) = true ∧ Holds w wr [pBlk w.heap.size (dv m f g) 32]) (fun t _ => l.length - (intOf t).toNat)
  case atStart => exact ⟨0, Nat.zero_le _, rfl, rfl, H0⟩
  case round =>
    clear H0
    obtain ⟨k, hk, rfl, hok, hH⟩ := hrel
    have HOK := hide hok; clear hok
    by_cases hlt : k < l.length
    · have hlti : (k : Int) < (l.length : Int) := by omega
      have hrd := rdS_at (rdS_below HV.out hH.low (Nat.le_refl _)) hlt
      obtain ⟨a, rfl, _, c1⟩ := hrd
      have RDS := hide (fun (wx : World) (hb : Below w.heap.size w wx) => show wx.cell? (a.add k) = some (.string l[k]) by
        obtain ⟨a', e, _, h⟩ := rdS_at (rdS_below HV.out hb (Nat.le_refl _)) hlt
        injection e with e
        subst e
        exact h)
      have hst := fun h2 => all_step (p := fitB m f g) hlt HOK.out h2
      have hno := fun h2 => HR.out.trans (all_no (p := fitB m f g) hlt h2)
      have CX := hide (CP.out l[k] (WD.out k hlt))
      obtain ⟨x, hx⟩ : ∃ x, x = l[k] := ⟨_, rfl⟩
      rw [← hx] at RDS CX c1
      obtain ⟨q, hq⟩ : ∃ q, q = wplF f g m (lts x) := ⟨_, rfl⟩
      rw [← hq] at CX
      have hfit : fitB m f g l[k] = sameB q (sameF m) := by unfold fitB; rw [hq, hx]
      rw [hfit] at hst hno
      clear hx hq hfit
      go_wp2
      refine Rd.region_P (w0 := w) [pBlk w.heap.size (dv m f g) 32] [pBlk w.heap.size (dv m f g) 32] [] (.q 0 <| .q 1 <| .q 2 <| .q 3 <| .q 4 <| .q 5 <| .q 6 <| .q 7 <| .q 8 <| .q 9 .fin) hH (.refl _) (by kernel_rfl) (by kernel_rfl) (by kernel_rfl) ?_
      iterate 5
        apply Rd.v_q
        · simp only [List.getElem?_toArray, List.getElem?_cons_zero, List.getElem?_cons_succ]; exact rfl
        · rfl
        · go_simp
        · intro wx hx
          have q1 := hx.cells 0 rfl
          have q2 := hx.cell 0 rfl hn
          have q3 := RDS.out wx hx.low
          unfold atG
          go_simp
          simp only [uponG]
          exact ⟨by trivial, rfl⟩
      iterate 1
        apply Rd.v_q
        · simp only [List.getElem?_toArray, List.getElem?_cons_zero, List.getElem?_cons_succ]; exact rfl
        · rfl
        · go_simp
        · intro wx hx
          have q1 := hx.cells 0 rfl
          have q2 := hx.cell 0 rfl hn
          have q3 := RDS.out wx hx.low
          unfold atG
          go_simp
          simp only [uponG]
          exact ⟨by trivial, CX.out wx⟩
      iterate 2
        apply Rd.v_q
        · simp only [List.getElem?_toArray, List.getElem?_cons_zero, List.getElem?_cons_succ]; exact rfl
        · rfl
        · go_simp
        · intro wx hx
          have q1 := hx.cells 0 rfl
          have q2 := hx.cell 0 rfl hn
          have q3 := RDS.out wx hx.low
          unfold atG
          go_simp
          simp only [uponG]
          exact ⟨by trivial, rfl⟩
      iterate 1
        apply Rd.v_q
        · simp only [List.getElem?_toArray, List.getElem?_cons_zero, List.getElem?_cons_succ]; exact rfl
        · rfl
        · go_simp
        · intro wx hx
          have q1 := hx.cells 0 rfl
          have q2 := hx.cell 0 rfl hn
          have q3 := RDS.out wx hx.low
          unfold atG
          go_simp
          simp only [uponG]
          exact ⟨by trivial, CS.out wx⟩
      iterate 1
        apply Rd.v_q
        · simp only [List.getElem?_toArray, List.getElem?_cons_zero, List.getElem?_cons_succ]; exact rfl
        · rfl
        · go_simp
        · intro wx hx
          have q1 := hx.cells 0 rfl
          have q2 := hx.cell 0 rfl hn
          have q3 := RDS.out wx hx.low
          unfold atG
          go_simp
          simp only [uponG]
          exact ⟨by trivial, rfl⟩
      rintro w3 h3 -
      go_simp
      clear hH
      rcases hs : sameB q (sameF m) with _ | _
      · have hr := hno hs
        clear hst hno
        have hs2 : (!sameB q (sameF m)) = true := by rw [hs]; rfl
        replace hr := hr.symm
        subst hr
        go_wp2
        go_ret
        exact ⟨rfl, h3.low⟩
      · have HST := hide (hst hs); clear hst hno
        have hs2 : (!sameB q (sameF m)) = false := by rw [hs]; rfl
        go_wp2
        go_roundw
        case rel => exact ⟨k + 1, by omega, by go_num, HST.out, h3⟩
        case measure => simp [intOf]; omega
    · obtain rfl : k = l.length := by omega
      have hr := HOK.out
      rw [List.take_length] at hr
      have hr2 := HR.out.trans hr
      subst hr2
      clear hlt hk hr
      go_wp2
      go_ret
      exact ⟨rfl, hH.low⟩
set_option maxRecDepth 100000 in
set_option maxHeartbeats 1000000 in
theorem satisfiesRelations_any (n : Int) (f g : Nat → Nat) (hf : ∀ i, f i < 256) (hg : ∀ i, g i < 256) (v : Value) (l : List ByteArray) (hl : ∀ x ∈ l, x.size ≤ 9223372036854775807) (w : World) (hv : RdS w v l) :
    Calls Tryd.prog 21 #[.agg (dv n f g), v] w fun e w' => e = .returned (satR n f g l) ∧ Below w.heap.size w w' := by
  have C1 := hide fun w => isDessin_any n f g hf hg w
  clear hf hg
  obtain ⟨A, c, rfl, _⟩ := rdS_form hv
  have HV := hide hv; clear hv
  have HH0 := (Holds.start w).blk (dv n f g) 32 w.heap.size rfl
  rcases h1 : desB n f g with _ | _
  · rw [h1] at C1
    have hr : satR n f g l = .tuple #[.bool false, .int .i64 1] := by unfold satR; rw [if_neg (by simp [h1])]
    rw [hr]
    clear h1 hr hl
    go_enter Tryd.func21, Tryd.ntmps21
    go_wp2_with fail
    refine (C1.out _).mono ?_
    rintro e w1 ⟨rfl, hb⟩
    have HH1 := HH0.call hb
    go_wp2
    go_ret2
    exact ⟨rfl, HH1.low⟩
  rw [h1] at C1
  rcases h2 : l.all wdB with _ | _
  · have hr : satR n f g l = .tuple #[.bool false, .int .i64 1] := by unfold satR; rw [if_neg (by simp [h2])]
    rw [hr]
    have h2i : (if l.all wdB = true then (if 20 < l.length then (2 : Int) else 0) else 1) = 1 := by rw [if_neg (by simp [h2])]
    clear h1 hr
    go_enter Tryd.func21, Tryd.ntmps21
    go_wp2_with fail
    refine (C1.out _).mono ?_
    rintro e w1 ⟨rfl, hb⟩
    have HH1 := HH0.call hb
    have cd1 := HH1.cells 0 rfl
    clear hb HH0
    go_wp2_with fail
    refine (areWords_any _ l _ (rdS_below HV.out HH1.low (Nat.le_refl _))).mono ?_
    rw [h2]
    rintro e w2 ⟨rfl, hb⟩
    have HH2 := HH1.call hb
    have cd2 := HH2.cells 0 rfl
    clear hb HH1 cd1
    go_wp2
    go_ret2
    exact ⟨rfl, HH2.low⟩
  obtain ⟨m, rfl, hd⟩ := desB_true h1
  by_cases h3 : 20 < l.length
  · have hr : satR (m : Int) f g l = .tuple #[.bool false, .int .i64 2] := by unfold satR; rw [if_pos ⟨h1, h2⟩, if_pos h3]
    rw [hr]
    have h2i : (if l.all wdB = true then (if 20 < l.length then (2 : Int) else 0) else 1) = 2 := by rw [if_pos h2, if_pos h3]
    have d20 := decide_eq_true (show (20 : Int) < (l.length : Int) by omega)
    clear h1 hr hd h3
    go_enter Tryd.func21, Tryd.ntmps21
    go_wp2_with fail
    refine (C1.out _).mono ?_
    rintro e w1 ⟨rfl, hb⟩
    have HH1 := HH0.call hb
    have cd1 := HH1.cells 0 rfl
    clear hb HH0
    go_wp2_with fail
    refine (areWords_any _ l _ (rdS_below HV.out HH1.low (Nat.le_refl _))).mono ?_
    rw [h2]
    rintro e w2 ⟨rfl, hb⟩
    have HH2 := HH1.call hb
    have cd2 := HH2.cells 0 rfl
    clear hb HH1 cd1
    go_wp2
    go_ret2
    exact ⟨rfl, HH2.low⟩
  · have hr : satR (m : Int) f g l = .tuple #[.bool (l.all (fitB m f g)), .int .i64 0] := by unfold satR; rw [if_pos ⟨h1, h2⟩, if_neg h3, Int.toNat_natCast]
    rw [hr]
    have h2i : (if l.all wdB = true then (if 20 < l.length then (2 : Int) else 0) else 1) = 0 := by rw [if_pos h2, if_neg h3]
    have d20 := decide_eq_false (show ¬ (20 : Int) < (l.length : Int) by omega)
    have CF := hide (fun (w' : World) (h : RdS w' (.slice A l.length c) l) => satisfies_any m f g hd _ l h2 w' h)
    generalize l.all (fitB m f g) = R at *
    clear h1 hr hd h3
    go_enter Tryd.func21, Tryd.ntmps21
    go_wp2_with fail
    refine (C1.out _).mono ?_
    rintro e w1 ⟨rfl, hb⟩
    have HH1 := HH0.call hb
    have cd1 := HH1.cells 0 rfl
    clear hb HH0
    go_wp2_with fail
    refine (areWords_any _ l _ (rdS_below HV.out HH1.low (Nat.le_refl _))).mono ?_
    rw [h2]
    rintro e w2 ⟨rfl, hb⟩
    have HH2 := HH1.call hb
    have cd2 := HH2.cells 0 rfl
    clear hb HH1 cd1
    go_wp2_with fail
    refine (CF.out _ (rdS_below HV.out HH2.low (Nat.le_refl _))).mono ?_
    rintro e w3 ⟨rfl, hb⟩
    have HH3 := HH2.call hb
    clear hb HH2 cd2
    go_wp2
    go_ret2
    exact ⟨rfl, HH3.low⟩
set_option maxRecDepth 100000 in
set_option maxHeartbeats 1000000 in
theorem sSatisfiesRelations_any (n : Int) (f g : Nat → Nat) (hf : ∀ i, f i < 256) (hg : ∀ i, g i < 256) (v : Value) (l : List ByteArray) (hl : ∀ x ∈ l, x.size ≤ 9223372036854775807) (w : World) (hv : RdS w v l) :
    Calls Tryd.prog 19 #[.agg (dv n f g), v] w fun e w' => e = .returned (satR n f g l) ∧ Below w.heap.size w w' := by
  have C1 := hide fun w => sIs_any n f g hf hg w
  clear hf hg
  obtain ⟨A, c, rfl, _⟩ := rdS_form hv
  have HV := hide hv; clear hv
  have HH0 := (Holds.start w).blk (dv n f g) 32 w.heap.size rfl
  rcases h1 : desB n f g with _ | _
  · rw [h1] at C1
    have hr : satR n f g l = .tuple #[.bool false, .int .i64 1] := by unfold satR; rw [if_neg (by simp [h1])]
    rw [hr]
    clear h1 hr hl
    go_enter Tryd.func19, Tryd.ntmps19
    go_wp2_with fail
    refine (C1.out _).mono ?_
    rintro e w1 ⟨rfl, hb⟩
    have HH1 := HH0.call hb
    go_wp2
    go_ret2
    exact ⟨rfl, HH1.low⟩
  rw [h1] at C1
  rcases h2 : l.all wdB with _ | _
  · have hr : satR n f g l = .tuple #[.bool false, .int .i64 1] := by unfold satR; rw [if_neg (by simp [h2])]
    rw [hr]
    have h2i : (if l.all wdB = true then (if 20 < l.length then (2 : Int) else 0) else 1) = 1 := by rw [if_neg (by simp [h2])]
    clear h1 hr
    go_enter Tryd.func19, Tryd.ntmps19
    go_wp2_with fail
    refine (C1.out _).mono ?_
    rintro e w1 ⟨rfl, hb⟩
    have HH1 := HH0.call hb
    have cd1 := HH1.cells 0 rfl
    clear hb HH0
    have HB := HH1.blk #[.slice A l.length c] 36 w1.heap.size rfl
    go_wp2_with fail
    refine (l08Words_any _ l hl _ _ (HB.at 0 rfl) (rdS_below HV.out HB.low (Nat.le_refl _))).mono ?_
    rw [h2i]
    rintro e w2 ⟨rfl, hb⟩
    have HH2 := (HB.call hb).tail
    have cd2 := HH2.cells 0 rfl
    clear hb HH1 HB cd1
    go_wp2
    go_ret2
    exact ⟨rfl, HH2.low⟩
  obtain ⟨m, rfl, hd⟩ := desB_true h1
  by_cases h3 : 20 < l.length
  · have hr : satR (m : Int) f g l = .tuple #[.bool false, .int .i64 2] := by unfold satR; rw [if_pos ⟨h1, h2⟩, if_pos h3]
    rw [hr]
    have h2i : (if l.all wdB = true then (if 20 < l.length then (2 : Int) else 0) else 1) = 2 := by rw [if_pos h2, if_pos h3]
    clear h1 hr hd h3
    go_enter Tryd.func19, Tryd.ntmps19
    go_wp2_with fail
    refine (C1.out _).mono ?_
    rintro e w1 ⟨rfl, hb⟩
    have HH1 := HH0.call hb
    have cd1 := HH1.cells 0 rfl
    clear hb HH0
    have HB := HH1.blk #[.slice A l.length c] 36 w1.heap.size rfl
    go_wp2_with fail
    refine (l08Words_any _ l hl _ _ (HB.at 0 rfl) (rdS_below HV.out HB.low (Nat.le_refl _))).mono ?_
    rw [h2i]
    rintro e w2 ⟨rfl, hb⟩
    have HH2 := (HB.call hb).tail
    have cd2 := HH2.cells 0 rfl
    clear hb HH1 HB cd1
    go_wp2
    go_ret2
    exact ⟨rfl, HH2.low⟩
  · have hr : satR (m : Int) f g l = .tuple #[.bool (l.all (fitB m f g)), .int .i64 0] := by unfold satR; rw [if_pos ⟨h1, h2⟩, if_neg h3, Int.toNat_natCast]
    rw [hr]
    have h2i : (if l.all wdB = true then (if 20 < l.length then (2 : Int) else 0) else 1) = 0 := by rw [if_pos h2, if_neg h3]
    have CF := hide (fun (w' : World) (h : RdS w' (.slice A l.length c) l) => l08Fits_any m f g hd _ l h2 w' h)
    generalize l.all (fitB m f g) = R at *
    clear h1 hr hd h3
    go_enter Tryd.func19, Tryd.ntmps19
    go_wp2_with fail
    refine (C1.out _).mono ?_
    rintro e w1 ⟨rfl, hb⟩
    have HH1 := HH0.call hb
    have cd1 := HH1.cells 0 rfl
    clear hb HH0
    have HB := HH1.blk #[.slice A l.length c] 36 w1.heap.size rfl
    go_wp2_with fail
    refine (l08Words_any _ l hl _ _ (HB.at 0 rfl) (rdS_below HV.out HB.low (Nat.le_refl _))).mono ?_
    rw [h2i]
    rintro e w2 ⟨rfl, hb⟩
    have HH2 := (HB.call hb).tail
    have cd2 := HH2.cells 0 rfl
    clear hb HH1 HB cd1
    go_wp2_with fail
    refine (CF.out _ (rdS_below HV.out HH2.low (Nat.le_refl _))).mono ?_
    rintro e w3 ⟨rfl, hb⟩
    have HH3 := HH2.call hb
    clear hb HH2 cd2
    go_wp2
    go_ret2
    exact ⟨rfl, HH3.low⟩
end Go.Proofs.YteeideminlcblaaDoor
