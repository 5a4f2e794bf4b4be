/- impl.typesUpTo -/
import Derived.Test.YtlmhnimpglookaaTys
namespace Go.Proofs.Ytlmhnimpglookaa
open Go.RowKit

theorem subAt {a : Part} {v2 : Value} {vs2 : List Value} {Sub : List (List Nat)} {R : List Part} (hl : vs2.length = Sub.length) {i : Nat} (hi : i < Sub.length) :
    (a :: ((pVals v2 vs2 :: rowsP vs2 Sub) ++ R))[i + 2]? = some (pInts (vs2[i]'(by omega)) Sub[i]) := by
  have h := rowsP_at (List.getElem?_eq_getElem (show i < vs2.length by omega)) (List.getElem?_eq_getElem hi)
  rw [List.getElem?_cons_succ, List.cons_append, List.getElem?_cons_succ, List.getElem?_append_left (by rw [rowsP_length hl]; exact hi)]
  exact h

set_option maxRecDepth 100000 in
set_option maxHeartbeats 2000000 in
theorem typesUpTo_any : ∀ (f n g : Nat), n ≤ f → n ≤ 16 → g ≤ 16 → ∀ (w : World),
    Calls Try.prog 53 #[.int .i64 n, .int .i64 g] w fun e w' => ∃ v vs, e = .returned v ∧ vs.length = (typ n g).length ∧ Holds w w' (pVals v vs :: rowsP vs (typ n g)) := by
  intro f
  induction f with
  | zero =>
    intro n g hf hn hg w
    obtain rfl : n = 0 := by omega
    rw [typ_zero]
    have h0 : (((0 : Nat) : Int) == 0) = true := rfl
    have H1 := (Holds.start w).rowNew #[.slice none 0 0] 22 1 1 w.heap.size rfl rfl (by decide)
    have H2 := (H1.nilRow 2 1).perm (List.Perm.swap _ _ _)
    go_enter Try.func53, Try.ntmps53
    go_wp2
    go_ret
    first | exact ⟨_, rfl, [Value.slice none 0 0], rfl, H2⟩ | exact ⟨_, [Value.slice none 0 0], rfl, rfl, H2⟩
  | succ f ih =>
    intro n g hf hn hg w
    by_cases hn0 : n = 0
    · subst hn0
      rw [typ_zero]
      have h0 : (((0 : Nat) : Int) == 0) = true := rfl
      have H1 := (Holds.start w).rowNew #[.slice none 0 0] 22 1 1 w.heap.size rfl rfl (by decide)
      have H2 := (H1.nilRow 2 1).perm (List.Perm.swap _ _ _)
      clear ih
      go_enter Try.func53, Try.ntmps53
      go_wp2
      go_ret
      first | exact ⟨_, rfl, [Value.slice none 0 0], rfl, H2⟩ | exact ⟨_, [Value.slice none 0 0], rfl, rfl, H2⟩
    · have hn1 : 1 ≤ n := by omega
      have h0 : (((n : Nat) : Int) == 0) = false := by rw [beq_eq_false_iff_ne]; omega
      have hta := typ_all (g := g) hn1 hn
      obtain ⟨T, hT⟩ : ∃ T, T = typ n g := ⟨_, rfl⟩
      rw [← hT] at hta ⊢
      have HT := hide hta; clear hta hT
      have HTB := hide (fun x (hx : x ≤ min n g) => tyP_bd hn1 hn hg hx)
      have IH := hide ih; clear ih
      have H0 := (Holds.start w).nilRow 22 1
      obtain ⟨mn, hmn⟩ : ∃ mn, mn = min n g := ⟨_, rfl⟩
      rw [← hmn] at HT HTB
      have hmn1 : (g : Int) < (n : Int) → mn = g := by omega
      have hmn2 : ¬ (g : Int) < (n : Int) → mn = n := by omega
      have hmn16 : mn ≤ 16 := by omega
      have hmnn : mn ≤ n := by omega
      have hmng : mn ≤ g := by omega
      clear hmn hn0
      by_cases hgi : (g : Int) < (n : Int)
      all_goals
        have HMN := hide (And.intro hmn1 hmn2)
        clear hmn1 hmn2
        go_enter Try.func53, Try.ntmps53
        go_wp2
        go_loopw [5, 6] (fun u t wr => ∃ (x : Nat) (vs : List Value), x ≤ mn ∧ t = .int .i64 ((x : Int) + 1) ∧ vs.length = (tyP n x).length ∧ Holds w wr (pVals u vs :: rowsP vs (tyP n x))) (fun _ t _ => mn + 1 - (intOf t).toNat)
        case atStart => exact ⟨0, [], by omega, rfl, rfl, H0⟩
        case round =>
          clear H0
          obtain ⟨x, vs, hx, rfl, hvs, hH⟩ := hrel
          have hb := HTB.out x hx
          by_cases hlt : x < mn
          · have hlt1 : (x : Int) + 1 ≤ n := by omega
            have hlt2 : (x : Int) + 1 ≤ g := by omega
            have hb1 := HTB.out (x + 1) (by omega)
            rw [tyP_succ, List.length_append, List.length_map] at hb1
            have c1 := IH.out (n - (x + 1)) (x + 1) (by omega) (by omega) (by omega)
            have hst := tyP_succ n x
            have hsl := (typ_bd (n := n - (x + 1)) (g := x + 1) (by omega) (by omega)).2
            obtain ⟨Sub, hSub⟩ : ∃ Sub, Sub = typ (n - (x + 1)) (x + 1) := ⟨_, rfl⟩
            rw [← hSub] at c1 hst hsl hb1
            have e1 : ((n - (x + 1) : Nat) : Int) = (n : Int) - ((x : Int) + 1) := by omega
            have e2 : ((x + 1 : Nat) : Int) = (x : Int) + 1 := by omega
            rw [e1, e2] at c1
            have hnx : 0 ≤ (n : Int) - ((x : Int) + 1) ∧ (n : Int) - ((x : Int) + 1) ≤ 16 := by omega
            have C1 := hide c1; clear c1 e1 e2
            have HST := hide hst; clear hst hSub
            have HSL := hide hsl; clear hsl
            obtain ⟨P0, hP0⟩ : ∃ P0, P0 = tyP n x := ⟨_, rfl⟩
            rw [← hP0] at hvs hH hb hb1 HST
            have HP0 := hide hP0; clear hP0
            have HVS0 := hide hvs; clear hvs
            obtain ⟨A0, c0, rfl⟩ := hH.valsForm 0 rfl
            go_wp2_with fail
            refine (C1.out _).mono ?_
            rintro e w2 ⟨v2, vs2, rfl, hl2, hN⟩
            have hJ := hH.joinL hN
            have hJ2 : Holds w w2 (pVals (.slice A0 vs.length c0) vs :: ((pVals v2 vs2 :: rowsP vs2 Sub) ++ rowsP vs P0))   := hJ.perm (.cons _ List.perm_append_comm)
            obtain ⟨A2, c2, rfl⟩ := hN.valsForm 0 rfl
            rw [hl2] at hJ2 ⊢
            have HL2 := hide hl2; clear hl2 hJ hN hH
            go_wp2
            go_loopw [5, 25] (fun u t wr => ∃ (j : Nat) (vs : List Value), j ≤ Sub.length ∧ t = .int .i64 j ∧ vs.length = (P0 ++ (Sub.take j).map fun r => (x + 1) :: r).length ∧ Holds w wr (pVals u vs :: ((pVals (.slice A2 Sub.length c2) vs2 :: rowsP vs2 Sub) ++ rowsP vs (P0 ++ (Sub.take j).map fun r => (x + 1) :: r)))) (fun _ t _ => Sub.length - (intOf t).toNat)
            case atStart => exact ⟨0, vs, by omega, rfl, by rw [List.take_zero, List.map_nil, List.append_nil]; exact HVS0.out, by rw [List.take_zero, List.map_nil, List.append_nil]; exact hJ2⟩
            case round =>
              clear hJ2
              obtain ⟨j, vs, hj, rfl, hvs, hH⟩ := hrel
              by_cases hjl : j < Sub.length
              · have hjl' : (j : Int) < Sub.length := by omega
                have hpart := subAt (a := pVals u5 vs) (v2 := .slice A2 Sub.length c2) (R := rowsP vs (P0 ++ (Sub.take j).map fun r => (x + 1) :: r)) HL2.out hjl
                obtain ⟨A3, c3, e3⟩ := hH.intsForm (j + 2) hpart
                obtain ⟨g2, cp2, e0, -, -, -, -, hcell, -⟩ := row_at (hH.row 1 (show _ = some (pVals (.slice A2 Sub.length c2) vs2) from rfl)) (by rw [HL2.out]; omega)
                injection e0 with e0 e4 e5
                subst e0
                clear e4 e5
                have x1 := hcell j _ (List.getElem?_eq_getElem (by rw [HL2.out]; exact hjl))
                rw [e3] at x1 hpart
                have hlb := HSL.out _ (List.getElem_mem hjl)
                have htk : (Sub.take (j + 1)).map (fun r => (x + 1) :: r) = (Sub.take j).map (fun r => (x + 1) :: r) ++ [(x + 1) :: Sub[j]] := by rw [List.take_succ_eq_append_getElem hjl, List.map_append]; rfl
                have hlen : vs.length ≤ 1000 := by rw [hvs, List.length_append, List.length_map, List.length_take]; omega
                obtain ⟨q, hq⟩ : ∃ q, q = Sub[j] := ⟨_, rfl⟩
                rw [← hq] at x1 hpart hlb htk
                obtain ⟨P1, hP1⟩ : ∃ P1, P1 = P0 ++ (Sub.take j).map (fun r => (x + 1) :: r) := ⟨_, rfl⟩
                have hP2 : P0 ++ (Sub.take (j + 1)).map (fun r => (x + 1) :: r) = P1 ++ [(x + 1) :: q] := by rw [htk, hP1, List.append_assoc]
                rw [← hP1] at hvs hH hpart
                have HP2 := hide hP2; clear hP2 hP1 htk hq e3 hcell
                have HVS := hide hvs; clear hvs
                obtain ⟨A5, c5, rfl⟩ := hH.valsForm 0 rfl
                have e2 : ((x + 1 : Nat) : Int) = (x : Int) + 1 := by omega
                have H1 := hH.rowNew #[.int .i64 ((x : Int) + 1)] 2 1 1 wr.heap.size rfl rfl (by decide)
                have H2 : Holds w (wr.alloc (.cells #[.int .i64 ((x : Int) + 1)] 2)) (pInts (.slice (some ⟨wr.heap.size, 0, none⟩) 1 1) [x + 1] :: pVals (.slice A5 vs.length c5) vs :: ((pVals (.slice (some ⟨g2, 0, none⟩) Sub.length c2) vs2 :: rowsP vs2 Sub) ++ rowsP vs P1)) := by
                  have hn1 : nums [x + 1] = [.int .i64 ((x : Int) + 1)] := by unfold nums; simp
                  unfold pInts at H1 ⊢
                  rw [hn1]
                  exact H1
                have hpart2 : (pInts (.slice A3 q.length c3) q).ok (wr.alloc (.cells #[.int .i64 ((x : Int) + 1)] 2)) := H2.at (j + 3) (by rw [List.getElem?_cons_succ]; exact hpart)
                have HPT := hide hpart2; clear hpart hpart2 H1 hH
                go_wp2_with (at_builtin; refine appIv H2 0 rfl HPT.out (by simp; omega) rfl _ _ rfl rfl rfl ?_)
                intro v' w3 h3
                have H3 : Holds w w3 (pInts v' ((x + 1) :: q) :: pVals (.slice A5 vs.length c5) vs :: ((pVals (.slice (some ⟨g2, 0, none⟩) Sub.length c2) vs2 :: rowsP vs2 Sub) ++ rowsP vs P1)) := h3
                clear h3 H2 HPT
                obtain ⟨A6, c6, rfl⟩ := H3.intsForm 0 rfl
                go_wp2_with (at_builtin; refine appRow (H3.alloc _) 1 rfl w3.heap.size (.slice A6 ((x + 1) :: q).length c6) rfl 22 (heap_at _ _ _ rfl) (by omega) rfl _ _ rfl rfl rfl ?_)
                intro v4 w4 h4
                have H4 := Holds.rowEnd (A := pVals v4 (vs ++ [.slice A6 ((x + 1) :: q).length c6]) :: (pVals (.slice (some ⟨g2, 0, none⟩) Sub.length c2) vs2 :: rowsP vs2 Sub)) HVS.out h4
                clear h4 H3
                go_wp2
                go_roundw
                case rel => exact ⟨j + 1, vs ++ [.slice A6 ((x + 1) :: q).length c6], by omega, by go_num, by rw [HP2.out, List.length_append, List.length_append, HVS.out]; rfl, by rw [HP2.out]; exact H4⟩
                case measure => simp [intOf]; omega
              · have hje : j = Sub.length := by omega
                have hjl' : ¬ (j : Int) < Sub.length := by omega
                rw [hje, List.take_length, ← HST.out] at hH
                rw [hje, List.take_length, ← HST.out] at hvs
                have H5 : Holds w wr (pVals u5 vs :: rowsP vs (tyP n (x + 1))) := hH.sub (.cons_cons _ (List.sublist_append_right _ _))
                clear hH hjl hje
                have HVS := hide hvs; clear hvs
                obtain ⟨A5, c5, rfl⟩ := H5.valsForm 0 rfl
                go_wp2
                go_roundw
                case rel => exact ⟨x + 1, vs, by omega, by go_num, HVS.out, H5⟩
                case measure => simp [intOf]; omega
          · have hxe : x = mn := by omega
            have hneg : ((g : Int) < n → ¬ (x : Int) + 1 ≤ g) ∧ (¬ (g : Int) < n → ¬ (x : Int) + 1 ≤ n) := by have h1 := HMN.out.1; have h2 := HMN.out.2; omega
            first | have hlt' := hneg.1 (by omega) | have hlt' := hneg.2 (by omega)
            clear hneg
            rw [hxe, ← HT.out] at hvs hH
            clear hlt hxe hb
            have HVS := hide hvs; clear hvs
            obtain ⟨A5, c5, rfl⟩ := hH.valsForm 0 rfl
            go_wp2
            go_ret
            first | exact ⟨_, vs, rfl, HVS.out, hH⟩ | exact ⟨_, rfl, vs, HVS.out, hH⟩
end Go.Proofs.Ytlmhnimpglookaa
