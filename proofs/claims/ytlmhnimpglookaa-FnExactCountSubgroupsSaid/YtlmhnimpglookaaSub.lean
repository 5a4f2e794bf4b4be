/- CountSubgroups of program and model -/
import Derived.Test.YtlmhnimpglookaaCtr
import Derived.Test.YtlmhnimpglookaaInts
import Derived.Test.YtlmhnimpglookaaHS2
namespace Go.Proofs.Ytlmhnimpglookaa
open Go.RowKit

/-- the numbers of subgroups of the indexes up to 14 -/
def subT : List Nat := [0, 1, 3, 13, 71, 461, 3447, 29093, 273343, 2829325, 31998903, 392743957, 5201061455, 73943424413, 1123596277863]
def sT (k : Nat) : Int := ((subT.getD k 0 : Nat) : Int)
/-- what is left when the first indexes have been taken off -/
def sP (m : Nat) : Nat → Int
  | 0 => (m : Int) * (fac m : Nat)
  | k + 1 => if k = 0 then (m : Int) * (fac m : Nat) else sP m k - (fac (m - k) : Nat) * sT k
theorem sP_all : ∀ m, m < 15 → 1 ≤ m → sP m m = sT m := by
  have h : ((List.range 15).all fun m => decide (1 ≤ m → sP m m = sT m)) = true := by decide +kernel
  intro m hm h1
  exact of_decide_eq_true (List.all_eq_true.1 h m (List.mem_range.2 hm)) h1
theorem sP_bd {m k : Nat} (hm : m < 15) (hk : k < 15) : -2000000000000 ≤ sP m k ∧ sP m k ≤ 2000000000000 ∧ 0 ≤ sT k ∧ sT k ≤ 2000000000000 ∧ -4000000000000 ≤ ((fac (m - k) : Nat) : Int) * sT k ∧ ((fac (m - k) : Nat) : Int) * sT k ≤ 200000000000000000 := by
  have h : ((List.range 15).all fun m => (List.range 15).all fun k => decide (-2000000000000 ≤ sP m k ∧ sP m k ≤ 2000000000000 ∧ 0 ≤ sT k ∧ sT k ≤ 2000000000000 ∧ -4000000000000 ≤ ((fac (m - k) : Nat) : Int) * sT k ∧ ((fac (m - k) : Nat) : Int) * sT k ≤ 200000000000000000)) = true := by decide +kernel
  exact of_decide_eq_true (List.all_eq_true.1 (List.all_eq_true.1 h m (List.mem_range.2 hm)) k (List.mem_range.2 hk))
theorem fac_bd {m : Nat} (hm : m < 17) : fac m ≤ 20922789888000 := by rw [← fac16]; exact fac_le (by omega)

set_option maxRecDepth 100000 in
set_option maxHeartbeats 1000000 in
theorem factorial_any (n : Nat) (hn : n < 17) (w : World) :
    Calls Try.prog 63 #[.int .i64 n] w fun e w' => e = .returned (.int .i64 ((fac n : Nat) : Int)) ∧ w = w' := by
  obtain ⟨F, hF⟩ : ∃ F, F = fac n := ⟨_, rfl⟩
  rw [← hF]
  have HF := hide hF; clear hF
  go_enter Try.func63, Try.ntmps63
  go_wp2
  go_loopw [3, 4] (fun s t wr => ∃ k : Nat, 1 ≤ k ∧ (k ≤ n ∨ k = 1) ∧ t = .int .i64 ((k : Int) + 1) ∧ s = .int .i64 ((fac k : Nat) : Int) ∧ w = wr) (fun _ t _ => n + 1 - (intOf t).toNat)
  case atStart => exact ⟨1, by omega, by omega, rfl, rfl, rfl⟩
  case round =>
    obtain ⟨k, hk1, hk, rfl, rfl, rfl⟩ := hrel
    by_cases hlt : k + 1 ≤ n
    · have hb := fac_bd (m := k + 1) (by omega)
      have hb0 := fac_bd (m := k) (by omega)
      have hst : (fac (k + 1) : Nat) = (k + 1) * fac k := rfl
      have e : ((fac (k + 1) : Nat) : Int) = ((fac k : Nat) : Int) * ((k : Int) + 1) := by rw [hst, Int.natCast_mul, Int.mul_comm]; simp
      have m1 : wrap64 (((fac k : Nat) : Int) * ((k : Int) + 1)) = ((fac k : Nat) : Int) * ((k : Int) + 1) := by rw [← e]; exact w64 (by omega) (by omega)
      have HE := hide e; clear e hst hb
      generalize fac k = y at *
      have hlt' : (k : Int) + 1 ≤ n := by omega
      have hk16 : (k : Int) ≤ 16 := by omega
      clear hk
      go_wp2
      go_roundw
      case rel => exact ⟨k + 1, by omega, by omega, by go_num, by first | (rw [HE.out]; done) | rw [HE.out, m1], by trivial⟩
      case measure => simp [intOf]; omega
    · have he : fac k = F := by
        rw [HF.out]
        by_cases c : k = n
        · rw [c]
        · have e1 : k = 1 := by omega
          subst e1
          have : n = 0 := by omega
          subst this
          rfl
      rw [he]
      have hlt' : ¬ (k : Int) + 1 ≤ n := by omega
      clear hlt hk he
      go_wp2
      go_ret
      exact ⟨rfl, rfl⟩

set_option maxRecDepth 100000 in
set_option maxHeartbeats 1000000 in
theorem l04Factorial_any (n : Nat) (hn : n < 17) (w : World) :
    Calls Try.prog 62 #[.int .i64 n] w fun e w' => e = .returned (.int .i64 ((fac n : Nat) : Int)) ∧ w = w' := by
  have hb := fac_bd hn
  obtain ⟨F, hF⟩ : ∃ F, F = fac n := ⟨_, rfl⟩
  rw [← hF] at hb ⊢
  have HF := hide hF; clear hF
  go_enter Try.func62, Try.ntmps62
  go_wp2
  go_loopw [3, 0] (fun s t wr => ∃ k o : Nat, k ≤ n ∧ t = .int .i64 ((k : Nat) : Int) ∧ s = .int .i64 ((o : Nat) : Int) ∧ o * fac k = F ∧ w = wr) (fun _ t _ => (intOf t).toNat)
  case atStart => exact ⟨n, 1, by omega, rfl, rfl, by rw [Nat.one_mul, HF.out], rfl⟩
  case round =>
    obtain ⟨k, o, hk, rfl, rfl, ho, rfl⟩ := hrel
    by_cases hlt : 1 < k
    · obtain ⟨j, rfl⟩ : ∃ j, k = j + 1 := ⟨k - 1, by omega⟩
      rw [fac, ← Nat.mul_assoc] at ho
      have h1 : o * (j + 1) ≤ F := by rw [← ho]; exact Nat.le_mul_of_pos_right _ (fac_pos j)
      have HO := hide ho; clear ho
      have e : (((o * (j + 1) : Nat)) : Int) = (o : Int) * ((j : Int) + 1) := by rw [Int.natCast_mul]; simp
      have m1 : wrap64 ((o : Int) * ((j : Int) + 1)) = (o : Int) * ((j : Int) + 1) := by rw [← e]; exact w64 (by omega) (by omega)
      have HE := hide e; clear e h1
      have hlt' : (1 : Int) < (j : Int) + 1 := by omega
      go_wp2
      go_roundw
      case rel => exact ⟨j, o * (j + 1), by omega, by go_num, by first | (rw [HE.out]; done) | rw [HE.out, m1], HO.out, by trivial⟩
      case measure => simp [intOf]
    · have he : o = F := by
        rw [← ho]
        have : fac k = 1 := by
          rcases k with _ | _ | k
          · rfl
          · rfl
          · omega
        rw [this, Nat.mul_one]
      subst he
      have hlt' : ¬ (1 : Int) < (k : Int) := by omega
      clear hlt ho HF
      go_wp2
      go_ret
      exact ⟨rfl, rfl⟩

/-- fifteen numbers -/
@[irreducible] def z15 (c : Nat → Int) : Array Value := row 15 fun i => .int .i64 (c i)
theorem z15_get (c : Nat → Int) {i : Nat} (h : i < 15) : (z15 c)[i]? = some (.int .i64 (c i)) := by unfold z15; exact row_get _ _ h
theorem z15_zero : z15 (fun _ => 0) = #[.int .i64 0, .int .i64 0, .int .i64 0, .int .i64 0, .int .i64 0, .int .i64 0, .int .i64 0, .int .i64 0, .int .i64 0, .int .i64 0, .int .i64 0, .int .i64 0, .int .i64 0, .int .i64 0, .int .i64 0] := by
  unfold z15 row; rfl
def iset (c : Nat → Int) (i : Nat) (x : Int) : Nat → Int := fun j => if j = i then x else c j
theorem z15_set (c : Nat → Int) {i : Nat} (x : Int) : (z15 c).setIfInBounds i (.int .i64 x) = z15 (iset c i x) := by
  unfold z15
  rw [row_set]
  apply row_congr
  intro j _
  unfold iset
  by_cases e : j = i
  · rw [if_pos e, if_pos e]
  · rw [if_neg e, if_neg e]
theorem iset_twice (c : Nat → Int) (i : Nat) (x y : Int) : iset (iset c i x) i y = iset c i y := by
  funext j; unfold iset; split <;> rfl
def upS (m : Nat) : Nat → Int := fun i => if i < m then sT i else 0
theorem upS_step {m : Nat} : iset (upS m) m (sT m) = upS (m + 1) := by
  funext j
  unfold iset upS
  by_cases e : j = m
  · subst e; rw [if_pos rfl, if_pos (by omega)]
  · rw [if_neg e]
    by_cases c : j < m
    · rw [if_pos c, if_pos (by omega)]
    · rw [if_neg c, if_neg (by omega)]
theorem upS_zero : upS 1 = fun _ => 0 := by
  funext j
  unfold upS
  split
  · obtain rfl : j = 0 := by omega
    rfl
  · rfl
noncomputable def subR (n : Int) : Value := if 1 ≤ n ∧ n ≤ 14 then .tuple #[.int .i64 (sT n.toNat), .int .i64 0] else .tuple #[.int .i64 0, .int .i64 2]
theorem subR_eq (n : Int) : ∃ a c : Int, subR n = .tuple #[.int .i64 a, .int .i64 c] := by
  unfold subR; split
  · exact ⟨_, _, rfl⟩
  · exact ⟨_, _, rfl⟩

set_option maxRecDepth 100000 in
set_option maxHeartbeats 1000000 in
theorem countSubgroups_any (n : Int) (w : World) :
    Calls Try.prog 33 #[.int .i64 n] w fun e w' => e = .returned (subR n) ∧ Below w.heap.size w w' := by
  by_cases h1 : n < 1
  · have d1 : decide (n < 1) = true := decide_eq_true h1
    have hr : subR n = .tuple #[.int .i64 0, .int .i64 2] := by unfold subR; rw [if_neg (by omega)]
    rw [hr]
    clear h1 hr
    go_enter Try.func33, Try.ntmps33
    go_wp2
    go_ret2
    exact ⟨rfl, Below.refl _ _⟩
  · have d1 : decide (n < 1) = false := decide_eq_false h1
    by_cases h2 : 14 < n
    · have d2 : decide (14 < n) = true := decide_eq_true h2
      have hr : subR n = .tuple #[.int .i64 0, .int .i64 2] := by unfold subR; rw [if_neg (by omega)]
      rw [hr]
      clear h1 h2 hr
      go_enter Try.func33, Try.ntmps33
      go_wp2
      go_ret2
      exact ⟨rfl, Below.refl _ _⟩
    · have d2 : decide (14 < n) = false := decide_eq_false h2
      obtain ⟨N, rfl⟩ := Int.eq_ofNat_of_zero_le (show 0 ≤ n by omega)
      have hr : subR (N : Int) = .tuple #[.int .i64 (sT N), .int .i64 0] := by unfold subR; rw [if_pos ⟨by omega, by omega⟩, Int.toNat_natCast]
      rw [hr]
      obtain ⟨RES, hRES⟩ : ∃ RES, RES = sT N := ⟨_, rfl⟩
      rw [← hRES]
      have HRES := hide hRES; clear hRES hr
      have hN1 : 1 ≤ N := by omega
      have hN : N ≤ 14 := by omega
      clear h1 h2
      have H0 := (Holds.start w).blk (z15 (fun _ => 0)) 64 w.heap.size rfl
      rw [← upS_zero] at H0
      have CF := hide fun (m : Nat) (hm : m < 17) (w : World) => factorial_any m hm w
      go_enter Try.func33, Try.ntmps33
      go_wp2
      clear d1 d2
      rw [← z15_zero]
      rw [← upS_zero]
      generalize hG : w.heap.size = G at *
      have HG := hide hG; clear hG
      go_loopw [5] (fun t wr => ∃ m : Nat, 1 ≤ m ∧ m ≤ N + 1 ∧ t = .int .i64 m ∧ Holds w wr [pBlk G (z15 (upS m)) 64]) (fun t _ => N + 1 - (intOf t).toNat)
      case atStart => exact ⟨1, by omega, by omega, rfl, H0⟩
      case round =>
        clear H0
        obtain ⟨m, hm1, hm, rfl, hH⟩ := hrel
        by_cases hlt : m ≤ N
        · have hlt' : (m : Int) ≤ N := by omega
          have hm15 : m < 15 := by omega
          have c0 := hH.cell 0 rfl (z15_get (upS m) (i := m) (by omega))
          have f0 := hH.frozen 0 rfl m
          have hb := sP_bd hm15 (show 0 < 15 by omega)
          have hz : sP m 0 = (m : Int) * (fac m : Nat) := rfl
          have hz1 : sP m 1 = (m : Int) * (fac m : Nat) := rfl
          have hfb := fac_bd (show m < 17 by omega)
          have H1 := hH.set 0 rfl m (.int .i64 (sP m 1))
          rw [z15_set] at H1
          have hcf := fun w => CF.out m (by omega) w
          have HCF := hide hcf; clear hcf
          have m1 : wrap64 ((m : Int) * ((fac m : Nat) : Int)) = (m : Int) * ((fac m : Nat) : Int) := by rw [← hz]; exact w64 (by omega) (by omega)
          rw [hz1] at H1
          have HZ1 := hide hz1; clear hz1 hz hb
          generalize fac m = y at *
          have hmi : (m : Int) < 15 := by omega
          go_wp2_with fail
          refine (HCF.out _).mono ?_
          rintro e w' ⟨rfl, rfl⟩
          go_wp2
          clear c0 f0 hH m1
          generalize wr.setCell ⟨G, m, none⟩ (.int .i64 ((m : Int) * (y : Int))) = w1 at *
          rw [← HZ1.out] at H1
          go_loopw [6] (fun t wr => ∃ k : Nat, 1 ≤ k ∧ k ≤ m ∧ t = .int .i64 k ∧ Holds w wr [pBlk G (z15 (iset (upS m) m (sP m k))) 64]) (fun t _ => m - (intOf t).toNat)
          case atStart => exact ⟨1, by omega, by omega, rfl, H1⟩
          case round =>
            clear H1
            obtain ⟨k, hk1, hk, rfl, hH⟩ := hrel
            by_cases hkm : k < m
            · have hkm' : (k : Int) < m := by omega
              have hki : (k : Int) < 15 := by omega
              have q1 : (z15 (iset (upS m) m (sP m k)))[k]? = some (.int .i64 (sT k)) := by
                rw [z15_get _ (by omega)]; unfold iset upS; rw [if_neg (by omega), if_pos hkm]
              have q2 : (z15 (iset (upS m) m (sP m k)))[m]? = some (.int .i64 (sP m k)) := by
                rw [z15_get _ (by omega)]; unfold iset; rw [if_pos rfl]
              have hb := sP_bd hm15 (show k < 15 by omega)
              have hb1 := sP_bd hm15 (show k + 1 < 15 by omega)
              have hst : sP m (k + 1) = sP m k - (fac (m - k) : Nat) * sT k := by show (if k = 0 then _ else _) = _; rw [if_neg (by omega)]
              obtain ⟨d, hd⟩ : ∃ d, d = m - k := ⟨_, rfl⟩
              have hdi : (m : Int) - k = (d : Int) := by omega
              rw [← hd] at hb hst
              have hd16 : (d : Int) ≤ 16 := by omega
              have m3' : IntKind.i64.wrap ((d : Nat) : Int) = ((d : Nat) : Int) := w64k (by omega) (by omega)
              have HK := hide (fun w => CF.out d (by omega) w)
              have hfd := fac_bd (show d < 17 by omega)
              rw [hst] at hb1
              generalize fac d = F at *
              generalize hS : sT k = S at *
              generalize hPP : sP m k = P at *
              have m1 : wrap64 ((F : Int) * S) = (F : Int) * S := w64 (by omega) (by omega)
              have m2 : wrap64 (P - (F : Int) * S) = P - (F : Int) * S := w64 (by omega) (by omega)
              have m1' : IntKind.i64.wrap ((F : Int) * S) = (F : Int) * S := w64k (by omega) (by omega)
              have m2' : IntKind.i64.wrap (P - (F : Int) * S) = P - (F : Int) * S := w64k (by omega) (by omega)
              have HST := hide hst; clear hst
              have HQ := hide (And.intro q1 q2); clear q1 q2
              have HX := hide (And.intro hS (And.intro hPP hd)); clear hS hPP hd
              clear hb hb1
              go_wp2
              refine region_tail (fun wx => Holds w wx _) 12 (by kernel_rfl) (by kernel_rfl) hH.drew ?_
              simp only [List.take_succ_cons, List.take_zero, List.drop_succ_cons, List.drop_zero]
              iterate 6
                apply q_step
                · go_simp
                · intro wx hx
                  have q1 := hx.cell 0 rfl HQ.out.1
                  have q2 := hx.cell 0 rfl HQ.out.2
                  go_simp
                  try exact rfl
              iterate 1
                apply q_step
                · go_simp
                · intro wx hx
                  go_simp
                  exact Calls.mono (HK.out wx) fun e w' h => ⟨h.1, by rw [← h.2]; exact hx⟩
              iterate 5
                apply q_step
                · go_simp
                · intro wx hx
                  have q1 := hx.cell 0 rfl HQ.out.1
                  have q2 := hx.cell 0 rfl HQ.out.2
                  go_simp
                  try exact rfl
              refine wpQuiet_nil ?_
              intro w4 H4
              have c0 := H4.cell 0 rfl HQ.out.2
              have f0 := H4.frozen 0 rfl m
              have H5 := H4.set 0 rfl m (.int .i64 (P - (F : Int) * S))
              rw [z15_set, iset_twice] at H5
              clear H4 hH
              go_wp2
              go_roundw
              case rel => exact ⟨k + 1, by omega, by omega, by go_num, by rw [HST.out]; exact H5⟩
              case measure => simp [intOf]; omega
            · have hke : k = m := by omega
              have hkm' : ¬ (k : Int) < m := by omega
              rw [hke, sP_all m hm15 hm1, upS_step] at hH
              clear hkm
              go_wp2
              go_roundw
              case rel => exact ⟨m + 1, by omega, by omega, by go_num, hH⟩
              case measure => simp [intOf]; omega
        · have hlt' : ¬ (m : Int) ≤ N := by omega
          have hme : m = N + 1 := by omega
          rw [hme] at hH
          have c0 := hH.cell 0 rfl (show (z15 (upS (N + 1)))[N]? = some (.int .i64 RES) by rw [z15_get _ (by omega)]; unfold upS; rw [if_pos (by omega), HRES.out])
          have hNi : (N : Int) < 15 := by omega
          clear hlt hme
          go_wp2
          go_ret2
          exact ⟨rfl, hH.low⟩

set_option maxRecDepth 100000 in
set_option maxHeartbeats 1000000 in
theorem sCountSubgroups_any (n : Int) (w : World) :
    Calls Try.prog 32 #[.int .i64 n] w fun e w' => e = .returned (subR n) ∧ Below w.heap.size w w' := by
  by_cases h1 : 1 ≤ n ∧ n ≤ 14
  · obtain ⟨N, rfl⟩ := Int.eq_ofNat_of_zero_le (show 0 ≤ n by omega)
    have hr : subR (N : Int) = .tuple #[.int .i64 (sT N), .int .i64 0] := by unfold subR; rw [if_pos h1, Int.toNat_natCast]
    rw [hr]
    obtain ⟨RES, hRES⟩ : ∃ RES, RES = sT N := ⟨_, rfl⟩
    rw [← hRES]
    have HRES := hide hRES; clear hRES hr
    have hN1 : 1 ≤ N := by omega
    have hN : N ≤ 14 := by omega
    have H0 := (Holds.start w).rowNew #[.int .i64 ((0 : Nat) : Int)] 2 1 1 w.heap.size rfl rfl (by decide)
    have CF := hide fun (m : Nat) (hm : m < 17) (w : World) => l04Factorial_any m hm w
    go_enter Try.func32, Try.ntmps32
    go_wp2_with (go_at_call 51; refine (in_yes _ _ _ _ h1.1 h1.2).mono ?_; rintro e w' ⟨rfl, rfl⟩)
    clear h1
    go_loopw [4, 5] (fun u t wr => ∃ m : Nat, 1 ≤ m ∧ m ≤ N + 1 ∧ t = .int .i64 m ∧ Holds w wr [pInts u (subT.take m)]) (fun _ t _ => N + 1 - (intOf t).toNat)
    case atStart => exact ⟨1, by omega, by omega, rfl, H0⟩
    case round =>
      clear H0
      obtain ⟨m, hm1, hm, rfl, hH⟩ := hrel
      have hl15 : subT.length = 15 := rfl
      have hlm : (subT.take m).length = m := by rw [List.length_take, hl15]; omega
      by_cases hlt : m ≤ N
      · have hlt' : (m : Int) ≤ N := by omega
        have hm15 : m < 15 := by omega
        obtain ⟨q0, c0, e0, -, -, -, -, hcell, -⟩ := row_at (hH.row 0 rfl) (by rw [hlm]; omega)
        subst e0
        have hb := sP_bd hm15 (show 0 < 15 by omega)
        have hz : sP m 0 = (m : Int) * (fac m : Nat) := rfl
        have hz1 : sP m 1 = (m : Int) * (fac m : Nat) := rfl
        have hfb := fac_bd (show m < 17 by omega)
        have hcf := fun w => CF.out m (by omega) w
        have HCF := hide hcf; clear hcf
        have m1 : wrap64 ((m : Int) * ((fac m : Nat) : Int)) = (m : Int) * ((fac m : Nat) : Int) := by rw [← hz]; exact w64 (by omega) (by omega)
        have HZ1 := hide hz1; clear hz1 hz hb
        generalize fac m = y at *
        rw [hlm]
        go_wp2_with fail
        refine (HCF.out _).mono ?_
        rintro e w' ⟨rfl, rfl⟩
        go_wp2
        try rw [m1]
        clear m1
        rw [← HZ1.out]
        go_loopw [6, 7] (fun s t wx => ∃ k : Nat, 1 ≤ k ∧ k ≤ m ∧ t = .int .i64 k ∧ s = .int .i64 (sP m k) ∧ Dr wr wx) (fun _ t _ => m - (intOf t).toNat)
        case atStart => exact ⟨1, by omega, by omega, rfl, rfl, Dr.refl _⟩
        case round =>
          rename_i wx _ _ _ _ _
          obtain ⟨k, hk1, hk, rfl, rfl, hD⟩ := hrel
          by_cases hkm : k < m
          · have hkm' : (k : Int) < m := by omega
            have hck := hcell k (.int .i64 (sT k)) (by rw [nums_at (by rw [hlm]; exact hkm)]; unfold sT; simp [List.getD_eq_getElem?_getD, show k < subT.length by omega])
            have hb := sP_bd hm15 (show k < 15 by omega)
            have hb1 := sP_bd hm15 (show k + 1 < 15 by omega)
            have hst : sP m (k + 1) = sP m k - (fac (m - k) : Nat) * sT k := by show (if k = 0 then _ else _) = _; rw [if_neg (by omega)]
            obtain ⟨d, hd⟩ : ∃ d, d = m - k := ⟨_, rfl⟩
            have hdi : (m : Int) - k = (d : Int) := by omega
            rw [← hd] at hb hst
            have hd16 : (d : Int) ≤ 16 := by omega
            have m3' : IntKind.i64.wrap ((d : Nat) : Int) = ((d : Nat) : Int) := w64k (by omega) (by omega)
            have HK := hide (fun w => CF.out d (by omega) w)
            have hfd := fac_bd (show d < 17 by omega)
            rw [hst] at hb1
            generalize fac d = F at *
            generalize hS : sT k = S at *
            generalize hPP : sP m k = P at *
            have m1 : wrap64 ((F : Int) * S) = (F : Int) * S := w64 (by omega) (by omega)
            have m2 : wrap64 (P - (F : Int) * S) = P - (F : Int) * S := w64 (by omega) (by omega)
            have m1' : IntKind.i64.wrap ((F : Int) * S) = (F : Int) * S := w64k (by omega) (by omega)
            have m2' : IntKind.i64.wrap (P - (F : Int) * S) = P - (F : Int) * S := w64k (by omega) (by omega)
            have HST := hide hst; clear hst
            have HX := hide (And.intro hS (And.intro hPP hd)); clear hS hPP hd
            clear hb hb1
            have hck2 := hD.cell hck
            go_wp2
            go_quiet ((go_at_call 62; exact quiet_eq (HK.out _)))
            go_wp2
            go_roundw
            case rel => exact ⟨k + 1, by omega, by omega, by go_num, by rw [HST.out], hD.more _⟩
            case measure => simp [intOf]; omega
          · have hke : k = m := by omega
            have hkm' : ¬ (k : Int) < m := by omega
            have hsm : sP m k = ((subT.getD m 0 : Nat) : Int) := by rw [hke]; exact sP_all m hm15 hm1
            rw [hsm]
            have hst : subT.take (m + 1) = subT.take m ++ [subT.getD m 0] := by rw [List.take_succ_eq_append_getElem (by omega)]; simp [List.getD_eq_getElem?_getD, hm15, hl15]
            generalize subT.getD m 0 = z at *
            have HST := hide hst; clear hst hkm hke hsm
            obtain ⟨nd, rfl⟩ := hD
            have hH2 := hH.drewN nd
            clear hcell hH
            generalize wr.drewN nd = wy at *
            go_wp2_with (at_builtin; refine appI (hH2.alloc _) 0 rfl wy.heap.size [z] 2 ?_ ?_ rfl _ _ rfl (by rw [hlm]; rfl) rfl ?_)
            · first | exact heap_at _ _ _ rfl | exact (Array.getElem?_eq_some_iff.1 (heap_at wy _ _ rfl)).2
            · first | omega | (rw [hlm]; simp only [List.length_cons, List.length_nil]; omega)
            intro v' w' h1
            clear hH2
            go_wp2
            go_roundw
            case rel => exact ⟨m + 1, by omega, by omega, by go_num, by rw [HST.out]; exact h1⟩
            case measure => simp [intOf]; omega
      · have hlt' : ¬ (m : Int) ≤ N := by omega
        have hme : m = N + 1 := by omega
        obtain ⟨q0, c0, e0, -, -, -, -, hcell, -⟩ := row_at (hH.row 0 rfl) (by rw [hlm]; omega)
        subst e0
        have hck := hcell N (.int .i64 RES) (by rw [nums_at (by rw [hlm]; omega), HRES.out]; unfold sT; simp [List.getD_eq_getElem?_getD, show N < subT.length by omega])
        rw [hlm]
        have hNm : (N : Int) < m := by omega
        clear hlt hme hcell
        go_wp2
        go_ret2
        exact ⟨rfl, hH.low⟩
  · have hr : subR n = .tuple #[.int .i64 0, .int .i64 2] := by unfold subR; rw [if_neg h1]
    rw [hr]
    clear hr
    go_enter Try.func32, Try.ntmps32
    go_wp2_with (go_at_call 51; refine (in_no _ _ _ _ h1).mono ?_; rintro e w' ⟨rfl, rfl⟩)
    go_ret2
    exact ⟨rfl, Below.refl _ _⟩
end Go.Proofs.Ytlmhnimpglookaa
