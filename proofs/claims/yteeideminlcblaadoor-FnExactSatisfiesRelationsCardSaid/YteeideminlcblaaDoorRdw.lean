/- Reduced words of program and model. -/
import Derived.Test.YteeideminlcblaaDoorInl
namespace Go.Proofs.YteeideminlcblaaDoor
open Go.RowKit

theorem letU8 (s : ByteArray) {i : Nat} (h : i < s.size) (wx : World) : (Instr.index 9 (.string s) (.int .i64 (i : Int))).run Tryd.prog wx = .ok (.int .u8 ((s[i]'h).toNat : Nat)) wx := by
  rw [run_index_string wx 9 s .i64 i Tryd.underlying9, dif_pos ⟨by omega, by omega⟩]
  rfl
theorem getLast_at {l : List Nat} {q : Nat} (h : l.length = q + 1) : l.getLast? = some (l[q]'(by omega)) := by
  have e : l.length - 1 = q := by omega
  rw [List.getLast?_eq_getElem?, e, List.getElem?_eq_getElem (by omega)]
theorem dropLast_take {l : List Nat} {q : Nat} (h : l.length = q + 1) : l.dropLast = l.take q := by rw [List.dropLast_eq_take, h]; rfl

set_option maxRecDepth 100000 in
set_option maxHeartbeats 1000000 in
theorem reduced_any (s : ByteArray) (hs : s.size ≤ 100000) (hl : ∀ x ∈ lts s, isL x = true) (w : World) :
    Calls Tryd.prog 26 #[.string s] w fun e w' => e = .returned (.string (mkS (redL (lts s)))) ∧ Below w.heap.size w w' := by
  have HA := hide (fun k hk => redK_all (l := lts s) hl k hk)
  have HLE := hide (fun k => redK_len (lts s) k)
  obtain ⟨F, F0, FS, FE⟩ : ∃ F : Nat → List Nat, Hid (F 0 = []) ∧ Hid (∀ k (h : k < s.size), F (k + 1) = stepR (F k) (s[k]'h).toNat) ∧ Hid (redL (lts s) = F s.size ∧ (∀ k, (F k).length ≤ s.size) ∧ ∀ k, k ≤ s.size → ∀ x ∈ F k, isL x = true) :=
    ⟨redK (lts s), hide (redK_zero _), hide fun k h => by rw [redK_succ (lts s) (by rw [lts_length]; exact h), lts_get s h], hide ⟨by rw [← lts_length s, redK_end], fun k => by have := HLE.out k; rwa [lts_length] at this, fun k hk => HA.out k (by rw [lts_length]; exact hk)⟩⟩
  have HLS := hide (fun (i : Nat) (hi : i < s.size) => show isL ((s[i]'hi).toNat) = true by rw [← lts_get s hi]; exact hl _ (List.getElem_mem _))
  rw [FE.out.1]
  clear HA HLE hl
  have hcv := run_bytes_of_string (P := Tryd.prog) w 9 59 5 s Tryd.underlying9 Tryd.underlying59 Tryd.underlying5
  generalize grownCap w s.size 0 5 = cap at hcv
  have CEL := hide (fun (i : Nat) (hi : i < s.size) => show (bytesRow s cap)[i]? = some (.int .u8 ((s[i]'hi).toNat : Nat)) from bytesRow_at s cap i hi)
  generalize hbr : bytesRow s cap = BR at *
  clear hbr
  have H1 := ((Holds.start w).drew.obj (.cells BR 5 (BR.size, BR.size + 1)) w.heap.size rfl).nilRow 5 1
  have H2 : Holds w _ (pBs (.slice none 0 0) [] :: _) := H1
  go_enter Tryd.func26, Tryd.ntmps26
  go_wp2
  generalize hG : w.heap.size = G at *
  go_loopw [3, 10] (fun q t wr => ∃ i : Nat, i ≤ s.size ∧ t = .int .i64 i ∧ Holds w wr [pBs q (F i), pObj G (.cells BR 5 (BR.size, BR.size + 1))]) (fun _ t _ => s.size - (intOf t).toNat)
  case atStart => exact ⟨0, Nat.zero_le _, rfl, by rw [F0.out]; exact H2⟩
  case round =>
    clear H1 H2 hcv
    obtain ⟨i, hi, rfl, hH⟩ := hrel
    by_cases hlt : i < s.size
    · have hlti : (i : Int) < (s.size : Int) := by omega
      have hst := FS.out i hlt
      have hLc := HLS.out i hlt
      have hlen := FE.out.2.1 i
      have hce := CEL.out i hlt
      have ho : wr.heap[G]? = some (.cells BR 5 (BR.size, BR.size + 1)) := hH.at 1 rfl
      have c1 : wr.cell? ⟨G, i, none⟩ = some (.int .u8 ((s[i]'hlt).toNat : Nat)) := by rw [cell_of_cells]; unfold cellsOf; rw [ho]; exact hce
      clear ho hce
      obtain ⟨c, hc⟩ : ∃ c, c = (s[i]'hlt).toNat := ⟨_, rfl⟩
      rw [← hc] at hst hLc c1
      clear hc
      have CI := hide fun w => inverseLetter_any c hLc w
      have HST := hide hst; clear hst
      generalize hFi : F i = K at *
      clear hFi
      obtain ⟨A0, cp, rfl⟩ := hH.bsForm 0 rfl
      rcases Nat.eq_zero_or_pos K.length with k0 | k0
      · obtain rfl : K = [] := List.eq_nil_of_length_eq_zero k0
        have hnew : stepR [] c = [c] := by unfold stepR; simp
        have HNW := hide (HST.out.trans hnew); clear hnew k0 HST
        have hH0 : Holds w wr [pBs (.slice A0 0 cp) [], pObj G (.cells BR 5 (BR.size, BR.size + 1))] := hH
        clear hH
        show Code.wp _ _ _ _ _
        simp only [List.length_nil]
        have d0 : decide ((0 : Int) ≤ -1) = false := by decide
        go_wp2
        go_quiet (fail)
        have hq := hH0.drewN nq
        clear hH0 c1
        go_wp2_with (at_builtin; refine appBs (hq.alloc _) 0 rfl (wr.drewN nq).heap.size [c] 5 ?_ ?_ rfl _ _ rfl rfl rfl ?_)
        · exact heap_at _ _ _ (by simp)
        · simp
        intro v' w' h1
        go_wp2
        go_roundw
        case rel => exact ⟨i + 1, by omega, by go_num, by rw [HNW.out]; exact h1⟩
        case measure => simp [intOf]; omega
      · obtain ⟨q, hq1⟩ : ∃ q, K.length = q + 1 := ⟨K.length - 1, by omega⟩
        obtain ⟨g, c', e, c2, hcp⟩ := hH.bsAt 0 rfl (show q < K.length by omega)
        injection e with e1 e2 e3
        subst e1
        clear e2 e3
        have hgl := getLast_at hq1
        have hdl := dropLast_take hq1
        have hcut := hH.cutBs 0 rfl q (by omega)
        have hcl : q ≤ K.length := by omega
        have hql : q ≤ cp := by
          obtain ⟨_, _, e, _, hh⟩ := hH.bsAt 0 rfl (show q < K.length by omega)
          injection e with _ _ e3
          omega
        have wq : wrap64 (q : Int) = q := by unfold wrap64; omega
        have dq : decide ((0 : Int) ≤ (q : Int)) = true := decide_eq_true (by omega)
        have hqi : (q : Int) ≤ (cp : Int) := by omega
        obtain ⟨x, hx⟩ : ∃ x, x = K[q]'(by omega) := ⟨_, rfl⟩
        rw [← hx] at c2 hgl
        clear hx
        by_cases hxi : x = invL c
        · have hold : stepR K c = K.take q := by unfold stepR; rw [hgl, hxi, if_pos rfl, hdl]
          have HNW := hide (HST.out.trans hold); clear hold HST hgl hdl
          have d1 : ((x : Int) == (invL c : Nat)) = true := by rw [hxi]; simp
          have HC := hide hcut; clear hcut
          rw [hq1]
          clear hxi hq1 k0 hcl
          generalize invL c = y at *
          go_wp2
          go_quiet ((go_at_call 47; exact quiet_eq8 (CI.out _)))
          have hq := HC.out.drewN nq
          clear hH c1 c2
          go_wp2
          go_roundw
          case rel => exact ⟨i + 1, by omega, by go_num, by rw [HNW.out]; exact hq⟩
          case measure => simp [intOf]; omega
        · have hnew : stepR K c = K ++ [c] := by unfold stepR; rw [hgl, if_neg (fun e => hxi (Option.some.inj e))]
          have HNW := hide (HST.out.trans hnew); clear hnew HST hgl hdl hcut
          have d1 : ((x : Int) == (invL c : Nat)) = false := by rw [beq_eq_false_iff_ne]; omega
          have hK : K.length ≤ 100000 := by omega
          have HKL := hide hq1
          rw [hq1]
          clear hxi k0 hcl hq1
          generalize invL c = y at *
          go_wp2
          go_quiet ((go_at_call 47; exact quiet_eq8 (CI.out _)))
          have hq := hH.drewN nq
          rw [HKL.out] at hq
          clear hH c1 c2
          go_wp2_with (at_builtin; refine appBs (hq.alloc _) 0 rfl (wr.drewN nq).heap.size [c] 5 ?_ ?_ rfl _ _ rfl rfl rfl ?_)
          · exact heap_at _ _ _ (by simp)
          · simp only [List.length_cons, List.length_nil]; omega
          intro v' w' h1
          go_wp2
          go_roundw
          case rel => exact ⟨i + 1, by omega, by go_num, by rw [HNW.out]; exact h1⟩
          case measure => simp [intOf]; omega
    · obtain rfl : i = s.size := by omega
      have hcs := hH.bsStr 0 rfl (fun x hx => by
        have := isL_cases (FE.out.2.2 s.size (Nat.le_refl _) x hx); omega)
      clear hlt hi
      go_wp2
      go_ret
      exact ⟨rfl, hH.low⟩
end Go.Proofs.YteeideminlcblaaDoor
