/- Types: the walks of IsType, l04Type, sumOf and l04Sum. -/
import Derived.Test.YtdoehnckolhloaaTy
import Derived.Test.YtdoehnckolhloaaSPoc
namespace Go.Proofs.Ytdoehnckolhloaa
open Go.RowKit

theorem quiet_eq {P : Program} {f : FuncId} {args : Array Value} {w : World} {n : Nat} {v : Value} (h : Calls P f args (w.drewN n) fun e w' => e = .returned v ∧ w.drewN n = w') : Calls P f args (w.drewN n) fun e w'' => e = .returned v ∧ ∃ m, w'' = w.drewN m :=
  h.mono fun _ _ ⟨he, hm⟩ => ⟨he, n, hm.symm⟩
theorem below_drewN {B : Nat} {w w' : World} (h : Below B w w') (n : Nat) : Below B w (w'.drewN n) := ⟨h.os, h.tape, h.output, h.size, h.block⟩

/-- some answers have been drawn, nothing else -/
def Dr (w w' : World) : Prop := ∃ m, w' = w.drewN m
theorem Dr.refl (w : World) : Dr w w := ⟨0, rfl⟩
theorem Dr.more {w w' : World} (h : Dr w w') (n : Nat) : Dr w (w'.drewN n) := by obtain ⟨m, rfl⟩ := h; exact ⟨m + n, World.drewN_drewN _ _ _⟩
theorem Dr.cell {w w' : World} (h : Dr w w') {p : Addr} {v : Value} (hc : w.cell? p = some v) : w'.cell? p = some v := by obtain ⟨m, rfl⟩ := h; exact hc
theorem Dr.low {w w' : World} (h : Dr w w') : Below w.heap.size w w' := by obtain ⟨m, rfl⟩ := h; exact below_drewN (Below.refl _ _) m

set_option maxRecDepth 100000 in
set_option maxHeartbeats 1000000 in
theorem isType_any (v : Value) (l : List Int) (w : World) (hv : RdZ w v l) :
    Calls Try.prog 89 #[v] w fun e w' => e = .returned (.bool (typB l)) ∧ w = w' := by
  obtain ⟨A, c, rfl, hlen⟩ := hv.form
  have HV := hide hv; clear hv
  obtain ⟨r, hr⟩ : ∃ r, r = typB l := ⟨_, rfl⟩
  rw [← hr]
  have BAD := hide fun (h : ¬ isTyp l) => hr.trans (typB_false h)
  have OK := hide fun (h : isTyp l) => hr.trans (typB_true h)
  clear hr
  go_enter Try.func89, Try.ntmps89
  go_wp2
  go_loopw [3, 8] (fun s t wr => ∃ i : Nat, i ≤ l.length ∧ t = .int .i64 i ∧ s = .int .i64 (zs (l.take i)) ∧ preT (l.take i) ∧ w = wr) (fun _ t _ => l.length - (intOf t).toNat)
  case atStart => exact ⟨0, by omega, rfl, rfl, preT_nil, rfl⟩
  case round =>
    obtain ⟨i, hi, rfl, rfl, hp, rfl⟩ := hrel
    have hs0 := hp.low
    have hs1 := hp.2.2
    have HP := hide hp; clear hp
    by_cases hlt : i < l.length
    · have hat := fun (h : isTyp l) => h.2.at hlt
      have hsc := HP.out.succ hlt
      have hzs := zs_succ l hlt
      obtain ⟨a, rfl, _, c1⟩ := HV.out.at hlt
      have hprev : 0 < i → ∃ q : Nat, q < l.length ∧ (i : Int) - 1 = (q : Int) ∧ q = i - 1 := fun h => ⟨i - 1, by omega, by omega, rfl⟩
      generalize zs (l.take i) = s at *
      generalize hx : l[i] = x at *
      have HX := hide hx; clear hx
      have HZS := hide hzs; clear hzs
      have HAT := hide hat; clear hat
      have HSC := hide hsc; clear hsc
      by_cases h1 : x < 1
      · have d1 : decide (x < 1) = true := decide_eq_true h1
        have hbad := BAD.out fun h => by have := (HAT.out h).1; omega
        subst hbad
        clear h1 hprev
        go_wp2
        go_ret
        exact ⟨rfl, rfl⟩
      · have d1 : decide (x < 1) = false := decide_eq_false h1
        by_cases h2 : 16 - s < x
        · have d2 : decide (16 - s < x) = true := decide_eq_true h2
          have hbad := BAD.out fun h => by have := (HAT.out h).2.1; omega
          subst hbad
          clear h1 h2 hprev
          go_wp2
          go_ret
          exact ⟨rfl, rfl⟩
        · have d2 : decide (16 - s < x) = false := decide_eq_false h2
          by_cases h0 : 0 < i
          · have d0 : decide ((0 : Int) < (i : Int)) = true := decide_eq_true (by omega)
            obtain ⟨q, hq, hqi, hqe⟩ := hprev h0
            obtain ⟨a', e', _, c2⟩ := HV.out.at hq
            injection e' with e'
            subst e'
            subst hqe
            obtain ⟨y, hy⟩ : ∃ y, y = l[i - 1] := ⟨_, rfl⟩
            rw [← hy] at c2
            have HY := hide hy; clear hy
            obtain ⟨q, hqq⟩ : ∃ q, q = i - 1 := ⟨_, rfl⟩
            rw [← hqq] at c2 hqi hq
            have HQ := hide hqq; clear hqq
            by_cases h3 : y < x
            · have d3 : decide (y < x) = true := decide_eq_true h3
              have hbad := BAD.out fun h => by have := (HAT.out h).2.2 h0; have := HY.out; omega
              subst hbad
              clear h1 h2 h3 hprev
              go_wp2
              go_ret
              exact ⟨rfl, rfl⟩
            · have d3 : decide (y < x) = false := decide_eq_false h3
              have hnew := HSC.out (by omega) (by omega) (fun _ => by have := HY.out; omega)
              have HN := hide hnew; clear hnew
              clear hprev
              go_wp2
              go_roundw
              case rel => exact ⟨i + 1, by omega, by go_num, by rw [HZS.out], HN.out, by trivial⟩
              case measure => simp [intOf]; omega
          · have d0 : decide ((0 : Int) < (i : Int)) = false := decide_eq_false (by omega)
            have hnew := HSC.out (by omega) (by omega) (fun h => absurd h h0)
            have HN := hide hnew; clear hnew
            clear hprev
            go_wp2
            go_roundw
            case rel => exact ⟨i + 1, by omega, by go_num, by rw [HZS.out], HN.out, by trivial⟩
            case measure => simp [intOf]; omega
    · obtain rfl : i = l.length := by omega
      have hp := HP.out
      rw [List.take_length] at hp hs0 hs1
      rw [List.take_length]
      clear hlt hi HP
      have HP := hide hp; clear hp
      by_cases h1 : 1 ≤ zs l
      · have hok := OK.out (HP.out.typ h1)
        subst hok
        generalize zs l = s at *
        go_wp2_with (go_at_call 119; refine (dart_yes _ _ (by omega) (by omega)).mono ?_; rintro e w' ⟨rfl, rfl⟩)
        go_ret
        exact ⟨rfl, rfl⟩
      · have hbad := BAD.out fun h => h1 h.sum.1
        subst hbad
        generalize zs l = s at *
        go_wp2_with (go_at_call 119; refine (dart_no _ _ (by omega)).mono ?_; rintro e w' ⟨rfl, rfl⟩)
        go_ret
        exact ⟨rfl, rfl⟩

set_option maxRecDepth 100000 in
set_option maxHeartbeats 1000000 in
theorem sumOf_any (v : Value) (l : List Int) (hs : smallS l) (w : World) (hv : RdZ w v l) :
    Calls Try.prog 54 #[v] w fun e w' => e = .returned (.int .i64 (zs l)) ∧ w = w' := by
  obtain ⟨A, c, rfl, _⟩ := hv.form
  have HV := hide hv; clear hv
  have hl := hs.2
  have HS := hide hs; clear hs
  go_enter Try.func54, Try.ntmps54
  go_wp2
  go_loopw [3, 8] (fun s t wr => ∃ i : Nat, i ≤ l.length ∧ t = .int .i64 i ∧ s = .int .i64 (zs (l.take i)) ∧ w = wr) (fun _ t _ => l.length - (intOf t).toNat)
  case atStart => exact ⟨0, by omega, rfl, rfl, rfl⟩
  case round =>
    obtain ⟨i, hi, rfl, rfl, rfl⟩ := hrel
    have hs0 := HS.out.part i hi
    by_cases hlt : i < l.length
    · have hzs := zs_succ l hlt
      have hx := HS.out.1 l[i] (List.getElem_mem _)
      obtain ⟨a, rfl, _, c1⟩ := HV.out.at hlt
      generalize zs (l.take i) = s at *
      generalize l[i] = x at *
      have HZS := hide hzs; clear hzs
      go_wp2
      go_roundw
      case rel => exact ⟨i + 1, by omega, by go_num, by rw [HZS.out], by trivial⟩
      case measure => simp [intOf]; omega
    · obtain rfl : i = l.length := by omega
      rw [List.take_length]
      clear hlt hi hs0
      go_wp2
      go_ret
      exact ⟨rfl, rfl⟩

-- left out here: loop.example/g01200/spec.l04Sum
-- left out here: loop.example/g01200/spec.l04Type
end Go.Proofs.Ytdoehnckolhloaa
