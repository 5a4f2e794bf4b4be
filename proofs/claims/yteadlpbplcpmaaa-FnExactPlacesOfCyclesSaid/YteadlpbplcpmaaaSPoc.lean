/- PlacesOfCycles of the model -/
import Derived.Test.YteadlpbplcpmaaaPoc
namespace Go.Proofs.Yteadlpbplcpmaaa
open Go.RowKit

theorem PW.drew {w wr : World} {G : Nat} {f : Nat → Nat} {b : Nat → Bool} (h : PW w wr G f b) : PW w wr.drew G f b := ⟨h.low.drew, h.res, h.out, h.met, h.pos⟩
theorem in_any (n a b : Int) (w : World) : Calls Try.prog 109 #[.int .i64 n, .int .i64 a, .int .i64 b] w fun e w' => e = .returned (.bool (decide (a ≤ n ∧ n ≤ b))) ∧ w = w' := by
  by_cases h : a ≤ n ∧ n ≤ b
  · rw [decide_eq_true h]; exact in_yes n a b w h.1 h.2
  · rw [decide_eq_false h]; exact in_no n a b w h
open Classical in
noncomputable def madeR (ls : List (List Int)) (n : Int) : Value := if 1 ≤ n ∧ n ≤ 16 ∧ goodC n.toNat ls then .tuple #[.agg (av (outP n.toNat (ls.flatMap prs))), .bool true] else .tuple #[.agg (av fun _ => 0), .bool false]

set_option maxRecDepth 100000 in
set_option maxHeartbeats 4000000 in
theorem made_any (v : Value) (ls : List (List Int)) (n : Int) (hs : smallZ ls) (w : World) (hv : RdZ2 w v ls) :
    Calls Try.prog 90 #[v, .int .i64 n] w fun e w' => e = .returned (madeR ls n) ∧ Below w.heap.size w w' := by
  obtain ⟨A, c, rfl, _⟩ := hv.form
  obtain ⟨hs1, hs2⟩ := hs
  have HS := hide hs2; clear hs2
  have HV := hide hv; clear hv
  obtain ⟨r, hr⟩ : ∃ r, r = madeR ls n := ⟨_, rfl⟩
  rw [← hr]
  by_cases hn : 1 ≤ n ∧ n ≤ 16
  · obtain ⟨m, rfl⟩ := Int.eq_ofNat_of_zero_le (show 0 ≤ n by omega)
    have hm1 : 1 ≤ m := by omega
    have hm2 : m ≤ 16 := by omega
    have bad : ¬ goodC m ls → r = .tuple #[.agg (av fun _ => 0), .bool false] := fun h => by rw [hr]; unfold madeR; rw [if_neg (fun k => h (by rw [Int.toNat_natCast] at k; exact k.2.2))]
    have ok : goodC m ls → r = .tuple #[.agg (av (outP m (ls.flatMap prs))), .bool true] := fun h => by rw [hr]; unfold madeR; rw [if_pos (by rw [Int.toNat_natCast]; exact ⟨hn.1, hn.2, h⟩), Int.toNat_natCast]
    have BAD := hide bad; clear bad
    have OK := hide ok; clear ok
    clear hn hr
    have C := hide fun w => sSame_any m hm2 w
    go_enter Try.func90, Try.ntmps90
    go_wp2_with (go_at_call 109; refine (in_yes _ _ _ _ (by omega) (by omega)).mono ?_; rintro e w' ⟨rfl, rfl⟩)
    rw [← av_zero]
    refine (C.out _).mono ?_
    rintro e w1 ⟨rfl, hb⟩
    have r1 : rowOk w1 w.heap.size 16 := (below_row hb (by simp)).2 ⟨_, _, heap_at _ _ _ rfl, av_size _⟩
    have b1 := (below1 w (.cells (av fun _ => 0) 25)).trans (hb.mono (by simp))
    have l1 : w.heap.size < w1.heap.size := r1.lt
    clear hb
    go_wp2
    rw [← bv_false]
    go_loopw [8] (fun t wr => ∃ j : Nat, j ≤ ls.length ∧ t = .int .i64 j ∧ PW w wr w1.heap.size (outP m ((ls.take j).flatMap prs)) (metB (ls.take j).flatten) ∧ inR m (ls.take j).flatten ∧ ∀ l ∈ ls.take j, l ≠ []) (fun t _ => ls.length - (intOf t).toNat)
    case atStart =>
      have e0 : outP m ((ls.take 0).flatMap prs) = sameF m := by simp [outP]
      have e1 : metB (ls.take 0).flatten = fun _ => false := by simp [metB_nil]
      refine ⟨0, by omega, rfl, ?_, ⟨by simp, by simp⟩, by simp⟩
      rw [e0, e1]
      exact ⟨(b1.alloc (by omega) _).alloc (by simp; omega) _, (rowOk_past (by simp; omega)).2 ((rowOk_past l1).2 r1), heap1 rfl, heap_at _ _ _ (by simp), l1⟩
    case round =>
      clear b1 r1 l1
      obtain ⟨j, hj, rfl, hP, hin, hne⟩ := hrel
      have HIN := hide hin; clear hin
      have HNE := hide hne; clear hne
      by_cases hlt : j < ls.length
      · obtain ⟨a, A', c', rfl, c1, hr⟩ := HV.out.at hlt
        have hab := rd2_lt HV.out hlt
        have c2 := rd_cell hP.low c1 hab
        have hsm := HS.out _ (List.getElem_mem hlt)
        have hmem := List.getElem_mem hlt
        have hfs := flat_succ ls hlt
        have hps := prs_flat ls hlt
        have hsub := fun i hi => flat_sub ls hlt (i := i) hi
        have htk : ls.take (j + 1) = ls.take j ++ [ls[j]] := List.take_succ_eq_append_getElem hlt
        generalize ls[j] = l at *
        have HF := hide (And.intro hfs (And.intro hps (And.intro hsub (And.intro hmem htk)))); clear hfs hps hsub hmem htk
        have HR := hide hr; clear hr
        have HP0 := hide hP; clear hP
        have HC := hide (And.intro c1 hab); clear c1 hab
        go_wp2
        clear c2
        go_loopw [10] (fun t wr => ∃ i : Nat, i ≤ l.length ∧ t = .int .i64 i ∧ PW w wr w1.heap.size (outP m ((ls.take j).flatMap prs ++ (prs l).take i)) (metB ((ls.take j).flatten ++ l.take i)) ∧ inR m ((ls.take j).flatten ++ l.take i)) (fun t _ => l.length - (intOf t).toNat)
        case atStart => exact ⟨0, by omega, rfl, by simpa using HP0.out, by simpa using HIN.out⟩
        case round =>
          clear HP0 HIN
          obtain ⟨i, hi, rfl, hP, hin⟩ := hrel
          have HIN := hide hin; clear hin
          by_cases hil : i < l.length
          · have c2 := rd_cell hP.low HC.out.1 HC.out.2
            have hk : (i + 1) % l.length < l.length := Nat.mod_lt _ (by omega)
            obtain ⟨q, rfl, _, x1⟩ := (HR.out.below hP.low (Nat.le_refl _)).at hil
            obtain ⟨q', e', _, x2⟩ := (HR.out.below hP.low (Nat.le_refl _)).at hk
            injection e' with e'
            subst e'
            have hpr := prs_succ l hil
            have hfl := HF.out.2.2.1 i hil
            have htl : l.take (i + 1) = l.take i ++ [l[i]] := List.take_succ_eq_append_getElem hil
            have hyl : goodC m ls → 0 ≤ l[(i + 1) % l.length] ∧ l[(i + 1) % l.length] < (m : Int) := fun h => h.2.1 _ (List.mem_flatten.2 ⟨l, HF.out.2.2.2.1, List.getElem_mem hk⟩)
            generalize l[(i + 1) % l.length] = y at *
            generalize l[i] = x at *
            have hmod : ((i : Int) + 1) % (l.length : Int) = (((i + 1) % l.length : Nat) : Int) := by simp
            obtain ⟨kk, hkk⟩ : ∃ kk, kk = (i + 1) % l.length := ⟨_, rfl⟩
            rw [← hkk] at hmod hk x2
            have HPR := hide hpr; clear hpr
            have HFL := hide hfl; clear hfl
            have HTL := hide htl; clear htl
            have HKK := hide hkk; clear hkk
            have HYL := hide hyl; clear hyl
            have RR := hP.res
            have BB := hP.low
            by_cases hx : 0 ≤ x ∧ x ≤ (m : Int) - 1
            · by_cases hy : 0 ≤ y ∧ y ≤ (m : Int) - 1
              · obtain ⟨z, rfl⟩ := Int.eq_ofNat_of_zero_le hx.1
                have hz16 : z < 16 := by omega
                have hzm : z < m := by omega
                have hout := hP.out
                have hmet : cellsOf wr (w1.heap.size + 1) = bv (metB ((ls.take j).flatten ++ l.take i)) := cellsOf_heap hP.met
                rcases hu : metB ((ls.take j).flatten ++ l.take i) z with _ | _
                · have x3 : wr.cell? ⟨w1.heap.size + 1, z, none⟩ = some (.bool false) := by rw [cell_of_cells, hmet, bv_get _ hz16, hu]
                  have f3 : wr.frozen? ⟨w1.heap.size + 1, z, none⟩ = false := by simp [World.frozen?, hP.met]
                  have x4 : wr.cell? ⟨w1.heap.size, z, none⟩ = some (.int .u8 (outP m ((ls.take j).flatMap prs ++ (prs l).take i) z)) := by rw [cell_of_cells, cellsOf_heap hout, av_get _ hz16]
                  have f4 : wr.frozen? ⟨w1.heap.size, z, none⟩ = false := by simp [World.frozen?, hout]
                  have hnm : ((z : Nat) : Int) ∉ (ls.take j).flatten ++ l.take i := by unfold metB at hu; simpa using hu
                  have hP2 := (hP.setB z).setO z (yb y)
                  have hin2 := HIN.out.snoc (x := (z : Int)) (by omega) (by omega) hnm
                  rw [List.append_assoc, ← HTL.out] at hin2
                  rw [metB_snoc, List.append_assoc, ← HTL.out] at hP2
                  have ho : fset (outP m ((ls.take j).flatMap prs ++ (prs l).take i)) z (yb y) = outP m ((ls.take j).flatMap prs ++ (prs l).take (i + 1)) := by
                    rw [HPR.out, ← List.append_assoc, outP_snoc]; rfl
                  rw [ho, yb_cast, Int.emod_eq_of_lt hy.1 (show y < 256 by omega)] at hP2
                  have HP2 := hide hP2; clear hP2 ho
                  have HI2 := hide hin2; clear hin2
                  have HNM := hide hnm; clear hnm
                  have HU := hide hu; clear hu
                  have HP := hide hP; clear hP
                  have HM := hide hmet; clear hmet
                  clear hout RR BB
                  generalize outP m ((ls.take j).flatMap prs ++ (prs l).take i) z = y4 at x4
                  go_wp2
                  go_region
                  all_goals go_wp2_with (go_at_call 109; refine (in_yes _ _ _ _ (by omega) (by omega)).mono ?_; rintro e w' ⟨rfl, rfl⟩)
                  all_goals go_roundw
                  case rel => exact ⟨i + 1, by omega, by go_num, HP2.out.drew, HI2.out⟩
                  case measure => simp [intOf]; omega
                · have x3 : wr.cell? ⟨w1.heap.size + 1, z, none⟩ = some (.bool true) := by rw [cell_of_cells, hmet, bv_get _ hz16, hu]
                  have hbad := BAD.out fun h => by
                    have h2 := (h.2.sub HFL.out).2
                    rw [List.nodup_append] at h2
                    unfold metB at hu
                    exact h2.2.2 _ (by simpa using hu) _ (by simp) rfl
                  subst hbad
                  have HP := hide hP; clear hP hout
                  have HM := hide hmet; clear hmet
                  have HU := hide hu; clear hu
                  go_wp2
                  go_region
                  all_goals go_wp2_with (go_at_call 109; refine (in_yes _ _ _ _ (by omega) (by omega)).mono ?_; rintro e w' ⟨rfl, rfl⟩)
                  rw [← av_zero]
                  obtain ⟨t, ht, _⟩ := RR.heap
                  exact res_agg2 (p := 4) (t := 5) (g := w.heap.size) (v := .bool false) aggP (av_size _) rfl rfl rfl rfl (setRow_heap _ _ _ _ t (0, 0) ht) ⟨rfl, (below_setRow BB (Nat.le_refl _) _).drew⟩
              · have hbad := BAD.out fun h => by
                  have := HYL.out h
                  omega
                have hdx := decide_eq_true hx
                have hdy := decide_eq_false hy
                clear hx hy
                subst hbad
                have HP := hide hP; clear hP
                go_wp2
                go_region
                all_goals go_wp2_with (go_at_call 109; refine (in_any _ _ _ _).mono ?_; rintro e w' ⟨rfl, rfl⟩)
                rw [← av_zero]
                obtain ⟨t, ht, _⟩ := RR.heap
                exact res_agg2 (p := 4) (t := 5) (g := w.heap.size) (v := .bool false) aggP (av_size _) rfl rfl rfl rfl (setRow_heap _ _ _ _ t (0, 0) ht) ⟨rfl, (below_setRow BB (Nat.le_refl _) _).drew⟩
            · have hbad := BAD.out fun h => by
                have := (h.2.sub HFL.out).1 x (by simp)
                omega
              subst hbad
              have HP := hide hP; clear hP
              go_wp2
              go_region
              all_goals go_wp2_with (go_at_call 109; refine (in_no _ _ _ _ hx).mono ?_; rintro e w' ⟨rfl, rfl⟩)
              rw [← av_zero]
              obtain ⟨t, ht, _⟩ := RR.heap
              exact res_agg2 (p := 4) (t := 5) (g := w.heap.size) (v := .bool false) aggP (av_size _) rfl rfl rfl rfl (setRow_heap _ _ _ _ t (0, 0) ht) ⟨rfl, (below_setRow BB (Nat.le_refl _) _).drew⟩
          · obtain rfl : i = l.length := by omega
            have hin2 := HIN.out
            rw [List.take_length, ← HF.out.1] at hin2
            rw [prs_all, List.take_length, ← HF.out.2.1, ← HF.out.1] at hP
            have HIN2 := hide hin2; clear hin2 HIN
            clear hil hi
            by_cases hl0 : l.length = 0
            · have hz : ((l.length : Int) == 0) = true := by simp [hl0]
              have hbad := BAD.out fun h => h.1 l HF.out.2.2.2.1 (List.length_eq_zero_iff.1 hl0)
              subst hbad
              have RR := hP.res
              have BB := hP.low
              have HP := hide hP; clear hP hl0
              go_wp2
              rw [← av_zero]
              obtain ⟨t, ht, _⟩ := RR.heap
              exact res_agg2 (p := 4) (t := 5) (g := w.heap.size) (v := .bool false) aggP (av_size _) rfl rfl rfl rfl (setRow_heap _ _ _ _ t (0, 0) ht) ⟨rfl, below_setRow BB (Nat.le_refl _) _⟩
            · have hz : ((l.length : Int) == 0) = false := beq_eq_false_iff_ne.2 (by omega)
              have HP := hide hP; clear hP
              go_wp2
              go_roundw
              case rel =>
                refine ⟨j + 1, by omega, by go_num, HP.out, HIN2.out, fun k hk => ?_⟩
                rw [HF.out.2.2.2.2] at hk
                rcases List.mem_append.1 hk with c | c
                · exact HNE.out k c
                · rw [List.mem_singleton.1 c]
                  intro e
                  subst e
                  exact hl0 rfl
              case measure => simp [intOf]; omega
      · obtain rfl : j = ls.length := by omega
        rw [List.take_length] at hP
        have hin2 := HIN.out
        have hne2 := HNE.out
        rw [List.take_length] at hin2 hne2
        have hok := OK.out ⟨hne2, hin2⟩
        subst hok
        clear hin2 hne2 HIN HNE
        have RR := hP.res
        have BB := hP.low
        have hout := hP.out
        have hce := cellsOf_heap hout
        have hlt2 : decide ((ls.length : Int) < (ls.length : Int)) = false := by simp
        clear hlt hj
        go_wp2
        obtain ⟨t, ht, _⟩ := RR.heap
        exact res_agg2 (p := 4) (t := 5) (g := w.heap.size) (v := .bool true) aggP (av_size _) rfl rfl rfl rfl (setRow_heap _ _ _ _ t (0, 0) ht) ⟨rfl, below_setRow BB (Nat.le_refl _) _⟩
  · have hr2 : madeR ls n = .tuple #[.agg (av fun _ => 0), .bool false] := by unfold madeR; rw [if_neg (fun k => hn ⟨k.1, k.2.1⟩)]
    rw [hr2] at hr
    subst hr
    clear hr2 HS HV
    go_enter Try.func90, Try.ntmps90
    go_wp2_with (go_at_call 109; refine (in_no _ _ _ _ hn).mono ?_; rintro e w' ⟨rfl, rfl⟩)
    rw [← av_zero]
    exact res_agg2 (p := 4) (t := 5) (g := w.heap.size) (v := .bool false) aggP (av_size _) rfl rfl rfl rfl (heap_at _ _ _ rfl) ⟨rfl, below1 _ _⟩

set_option maxRecDepth 100000 in
set_option maxHeartbeats 1000000 in
theorem sPlacesOfCycles_any (v : Value) (ls : List (List Int)) (n : Int) (hs : smallZ ls) (w : World) (hv : RdZ2 w v ls) :
    Calls Try.prog 35 #[v, .int .i64 n] w fun e w' => e = .returned (pocR ls n) ∧ Below w.heap.size w w' := by
  have C := hide fun (w' : World) (h : RdZ2 w' v ls) => made_any v ls n hs w' h
  obtain ⟨A, c, rfl, _⟩ := hv.form
  have hv1 : RdZ2 (w.alloc (.cells (av fun _ => 0) 25)) (.slice A ls.length c) ls := hv.below (below1 w _) (Nat.le_refl _)
  by_cases h : 1 ≤ n ∧ n ≤ 16 ∧ goodC n.toNat ls
  · have e1 : pocR ls n = .tuple #[.agg (av (outP n.toNat (ls.flatMap prs))), .int .i64 0] := by unfold pocR; rw [if_pos h]
    have e2 : madeR ls n = .tuple #[.agg (av (outP n.toNat (ls.flatMap prs))), .bool true] := by unfold madeR; rw [if_pos h]
    rw [e1]
    rw [e2] at C
    have HV := hide hv1
    clear h e1 e2 hv hs hv1
    generalize outP n.toNat (ls.flatMap prs) = p at *
    go_enter Try.func35, Try.ntmps35
    go_wp2_with fail
    rw [← av_zero]
    refine (C.out _ HV.out).mono ?_
    rintro e w1 ⟨rfl, hb⟩
    have r1 : rowOk w1 w.heap.size 16 := (below_row hb (by simp)).2 ⟨_, _, heap_at _ _ _ rfl, av_size _⟩
    have b1 := (below1 w (.cells (av fun _ => 0) 25)).trans (hb.mono (by simp))
    have l1 := r1.lt
    clear hb
    go_wp2
    obtain ⟨t, ht, _⟩ := r1.heap
    have hx := setRow_heap w1 w.heap.size _ (av p) t (0, 0) ht
    have bx := below_setRow b1 (Nat.le_refl _) (av p)
    exact res_agg2 (p := 4) (t := 5) (g := w.heap.size) (v := .int .i64 0) aggP (av_size _) rfl rfl rfl rfl ((((Below.refl _ _).alloc (Nat.le_refl _) _).block _ (Array.getElem?_eq_some_iff.1 hx).1).trans hx) ⟨rfl, bx.alloc bx.size _⟩
  · have e1 : pocR ls n = .tuple #[.agg (av fun _ => 0), .int .i64 2] := by unfold pocR; rw [if_neg h]
    have e2 : madeR ls n = .tuple #[.agg (av fun _ => 0), .bool false] := by unfold madeR; rw [if_neg h]
    rw [e1]
    rw [e2] at C
    have HV := hide hv1
    clear h e1 e2 hv hs hv1
    go_enter Try.func35, Try.ntmps35
    go_wp2_with fail
    rw [← av_zero]
    refine (C.out _ HV.out).mono ?_
    rintro e w1 ⟨rfl, hb⟩
    have r1 : rowOk w1 w.heap.size 16 := (below_row hb (by simp)).2 ⟨_, _, heap_at _ _ _ rfl, av_size _⟩
    have b1 := (below1 w (.cells (av fun _ => 0) 25)).trans (hb.mono (by simp))
    have l1 := r1.lt
    clear hb
    go_wp2
    rw [← av_zero]
    obtain ⟨t, ht, _⟩ := r1.heap
    have hx := setRow_heap w1 w.heap.size _ (av fun _ => 0) t (0, 0) ht
    have bx := below_setRow b1 (Nat.le_refl _) (av fun _ => 0)
    exact res_agg2 (p := 4) (t := 5) (g := w.heap.size) (v := .int .i64 2) aggP (av_size _) rfl rfl rfl rfl ((((Below.refl _ _).alloc (Nat.le_refl _) _).block _ (Array.getElem?_eq_some_iff.1 hx).1).trans hx) ⟨rfl, bx.alloc bx.size _⟩

end Go.Proofs.Yteadlpbplcpmaaa
