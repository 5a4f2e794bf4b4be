/- Lists of numbers in a range (impl.areNumbersIn, spec.l09List); sums of a list's numbers at places (impl.sumAt). -/
import Derived.Test.YtmapjjfefjoemaaArg
import Derived.Test.YtmapjjfefjoemaaSPoc
import Derived.Test.YtmapjjfefjoemaaZZ
import Derived.Test.YtmapjjfefjoemaaWr
namespace Go.Proofs.Ytmapjjfefjoemaa
open Go.RowKit

/-- n numbers, all in a range -/
def lstB (l : List Int) (n a b : Int) : Bool := (l.all fun x => decide (a ≤ x ∧ x ≤ b)) && ((l.length : Int) == n)
theorem lstB_true {l : List Int} {n a b : Int} (h : lstB l n a b = true) : (l.length : Int) = n ∧ ∀ x ∈ l, a ≤ x ∧ x ≤ b := by
  unfold lstB at h
  rw [Bool.and_eq_true] at h
  obtain ⟨h1, h2⟩ := h
  rw [List.all_eq_true] at h1
  exact ⟨by simpa using h2, fun x hx => by simpa using h1 x hx⟩
theorem lstB_bad {l : List Int} {n a b : Int} {i : Nat} (hi : i < l.length) (h : ¬ (a ≤ l[i] ∧ l[i] ≤ b)) : lstB l n a b = false := by
  unfold lstB
  have : (l.all fun x => decide (a ≤ x ∧ x ≤ b)) = false := by
    rw [List.all_eq_false]
    exact ⟨l[i], List.getElem_mem _, by simpa using h⟩
  rw [this, Bool.false_and]
theorem lstB_good {l : List Int} {n a b : Int} (h : ∀ i (hi : i < l.length), a ≤ l[i] ∧ l[i] ≤ b) : lstB l n a b = ((l.length : Int) == n) := by
  unfold lstB
  have : (l.all fun x => decide (a ≤ x ∧ x ≤ b)) = true := by
    rw [List.all_eq_true]
    intro x hx
    obtain ⟨i, hi, rfl⟩ := List.getElem_of_mem hx
    simpa using h i hi
  rw [this, Bool.true_and]
set_option maxRecDepth 100000 in
set_option maxHeartbeats 1000000 in
theorem areNumbersIn_any (v : Value) (l : List Int) (n a b : Int) (w : World) (hv : RdZ w v l) :
    Calls Try.prog 89 #[v, .int .i64 n, .int .i64 a, .int .i64 b] w fun e w' => e = .returned (.bool (lstB l n a b)) ∧ w = w' := by
  obtain ⟨A, c, rfl, _⟩ := hv.form
  have HV := hide hv; clear hv
  obtain ⟨r, hr⟩ : ∃ r, r = lstB l n a b := ⟨_, rfl⟩
  rw [← hr]
  have HR := hide hr; clear hr
  go_enter Try.func89, Try.ntmps89
  go_wp2
  go_loopw [13] (fun t wr => ∃ i : Nat, i ≤ l.length ∧ t = .int .i64 i ∧ w = wr ∧ Hid (∀ j (hj : j < l.length), j < i → a ≤ l[j] ∧ l[j] ≤ b)) (fun t _ => l.length - (intOf t).toNat)
  case atStart => exact ⟨0, Nat.zero_le _, rfl, rfl, hide (fun j hj h => by omega)⟩
  case round =>
    obtain ⟨i, hi, rfl, rfl, hA⟩ := hrel
    by_cases hlt : i < l.length
    · obtain ⟨a0, rfl, _, c1⟩ := HV.out.at hlt
      by_cases h1 : l[i] < a
      · have hF := hide (lstB_bad (n := n) hlt (a := a) (b := b) (by omega))
        generalize l[i] = x at *
        go_wp2
        go_ret
        exact ⟨by rw [HR.out, hF.out]; rfl, rfl⟩
      · by_cases h2 : l[i] > b
        · have hF := hide (lstB_bad (n := n) hlt (a := a) (b := b) (by omega))
          generalize l[i] = x at *
          go_wp2
          go_ret
          exact ⟨by rw [HR.out, hF.out]; rfl, rfl⟩
        · have hA' := hide (fun (j : Nat) (hj : j < l.length) (h : j < i + 1) => (by
            by_cases e : j = i
            · subst e; omega
            · exact hA.out j hj (by omega) : a ≤ l[j] ∧ l[j] ≤ b))
          generalize l[i] = x at *
          go_wp2
          go_roundw
          case rel => exact ⟨i + 1, by omega, by go_num, by trivial, hA'⟩
          case measure => simp [intOf]; omega
    · obtain rfl : i = l.length := by omega
      have hF := hide (lstB_good (n := n) (a := a) (b := b) fun j hj => hA.out j hj hj)
      clear hA hlt hi
      go_wp2
      go_ret
      exact ⟨by rw [HR.out, hF.out]; rfl, rfl⟩
set_option maxRecDepth 100000 in
set_option maxHeartbeats 1000000 in
theorem l09List_any (v : Value) (l : List Int) (n a b : Int) (w : World) (hv : RdZ w v l) :
    Calls Try.prog 85 #[v, .int .i64 n, .int .i64 a, .int .i64 b] w fun e w' => e = .returned (.bool (lstB l n a b)) ∧ w = w' := by
  obtain ⟨A, c, rfl, _⟩ := hv.form
  have HV := hide hv; clear hv
  obtain ⟨r, hr⟩ : ∃ r, r = lstB l n a b := ⟨_, rfl⟩
  rw [← hr]
  have HR := hide hr; clear hr
  go_enter Try.func85, Try.ntmps85
  go_wp2
  go_loopw [9] (fun t wr => ∃ i : Nat, i ≤ l.length ∧ t = .int .i64 i ∧ w = wr ∧ Hid (∀ j (hj : j < l.length), j < i → a ≤ l[j] ∧ l[j] ≤ b)) (fun t _ => l.length - (intOf t).toNat)
  case atStart => exact ⟨0, Nat.zero_le _, rfl, rfl, hide (fun j hj h => by omega)⟩
  case round =>
    obtain ⟨i, hi, rfl, rfl, hA⟩ := hrel
    by_cases hlt : i < l.length
    · obtain ⟨a0, rfl, _, c1⟩ := HV.out.at hlt
      have C := hide fun w => in_any l[i] a b w
      by_cases h1 : a ≤ l[i] ∧ l[i] ≤ b
      · rw [decide_eq_true h1] at C
        have hA' := hide (fun (j : Nat) (hj : j < l.length) (h : j < i + 1) => (by
            by_cases e : j = i
            · subst e; exact h1
            · exact hA.out j hj (by omega) : a ≤ l[j] ∧ l[j] ≤ b))
        clear h1
        generalize l[i] = x at *
        go_wp2_with fail
        refine (C.out _).mono ?_
        rintro e w1 ⟨rfl, rfl⟩
        go_wp2
        go_roundw
        case rel => exact ⟨i + 1, by omega, by go_num, by trivial, hA'⟩
        case measure => simp [intOf]; omega
      · rw [decide_eq_false h1] at C
        have hF := hide (lstB_bad (n := n) hlt (a := a) (b := b) h1)
        clear h1
        generalize l[i] = x at *
        go_wp2_with fail
        refine (C.out _).mono ?_
        rintro e w1 ⟨rfl, rfl⟩
        go_wp2
        go_ret
        exact ⟨by rw [HR.out, hF.out]; rfl, rfl⟩
    · obtain rfl : i = l.length := by omega
      have hF := hide (lstB_good (n := n) (a := a) (b := b) fun j hj => hA.out j hj hj)
      clear hA hlt hi
      go_wp2
      go_ret
      exact ⟨by rw [HR.out, hF.out]; rfl, rfl⟩
/-- the sum of the numbers at some places -/
def sm9 (l : List Int) (c : List Nat) : Int := (c.map fun x => l.getD x 0).sum
theorem sm9_nil (l : List Int) : sm9 l [] = 0 := rfl
theorem sm9_snoc (l : List Int) (c : List Nat) (x : Nat) : sm9 l (c ++ [x]) = sm9 l c + l.getD x 0 := by unfold sm9; simp
theorem sm9_take (l : List Int) (c : List Nat) {i : Nat} (h : i < c.length) : sm9 l (c.take (i + 1)) = sm9 l (c.take i) + l.getD c[i] 0 := by
  rw [List.take_succ_eq_append_getElem h, sm9_snoc]
theorem sm9_bound {l : List Int} {K : Int} (hK : 0 ≤ K) (hs : ∀ x ∈ l, -K ≤ x ∧ x ≤ K) (c : List Nat) : -(K * c.length) ≤ sm9 l c ∧ sm9 l c ≤ K * c.length := by
  have one : ∀ x, -K ≤ l.getD x 0 ∧ l.getD x 0 ≤ K := fun x => by
    rw [List.getD_eq_getElem?_getD]
    rcases h : l[x]? with _ | y
    · simp; omega
    · exact hs y (List.mem_of_getElem? h)
  induction c with
  | nil => simp [sm9]
  | cons x c ih =>
    have h1 := one x
    have : sm9 l (x :: c) = l.getD x 0 + sm9 l c := rfl
    rw [this, List.length_cons, Int.natCast_add, Int.mul_add]
    omega
theorem zs9_get {c : List Nat} {i : Nat} (h : i < c.length) (h' : i < (zs9 c).length) : (zs9 c)[i] = ((c[i] : Nat) : Int) := by simp [zs9]
set_option maxRecDepth 100000 in
set_option maxHeartbeats 1000000 in
theorem sumAt_any (v u : Value) (l : List Int) (c : List Nat) (hs : ∀ x ∈ l, -100000 ≤ x ∧ x ≤ 100000) (hc : c.length ≤ 100) (hx : ∀ x ∈ c, x < l.length) (w : World) (hv : RdZ w v l) (hu : RdZ w u (zs9 c)) :
    Calls Try.prog 90 #[v, u] w fun e w' => e = .returned (.int .i64 (sm9 l c)) ∧ w = w' := by
  obtain ⟨A, c0, rfl, _⟩ := hv.form
  obtain ⟨B, c1, rfl, _⟩ := hu.form
  have HV := hide hv; clear hv
  have HU := hide hu; clear hu
  have HX := hide hx; clear hx
  have HS := hide hs; clear hs
  rw [zs9_length]
  go_enter Try.func90, Try.ntmps90
  go_wp2
  go_loopw [5, 10] (fun s t wr => ∃ i : Nat, i ≤ c.length ∧ t = .int .i64 i ∧ s = .int .i64 (sm9 l (c.take i)) ∧ w = wr) (fun _ t _ => c.length - (intOf t).toNat)
  case atStart => exact ⟨0, Nat.zero_le _, rfl, rfl, rfl⟩
  case round =>
    obtain ⟨i, hi, rfl, rfl, rfl⟩ := hrel
    by_cases hlt : i < c.length
    · have hzs := sm9_take l c hlt
      have hlt' : i < (zs9 c).length := by rw [zs9_length]; exact hlt
      obtain ⟨b0, rfl, _, d1⟩ := HU.out.at hlt'
      rw [zs9_get hlt] at d1
      have hxl := HX.out _ (List.getElem_mem hlt)
      generalize c[i] = x at *
      obtain ⟨a0, rfl, _, d2⟩ := HV.out.at hxl
      rw [List.getD_eq_getElem?_getD, List.getElem?_eq_getElem hxl, Option.getD_some] at hzs
      have hb := sm9_bound (K := 100000) (by omega) HS.out (c.take i)
      have hb2 := HS.out _ (List.getElem_mem hxl)
      rw [List.length_take] at hb
      generalize l[x] = y at *
      generalize sm9 l (c.take i) = s at *
      have ws : wrap64 (s + y) = s + y := wr64 (by omega) (by omega)
      have HZS := hide hzs; clear hzs hb hb2 hlt'
      have hx' : (x : Int) < l.length := by omega
      go_wp2
      go_roundw
      case rel => exact ⟨i + 1, by omega, by go_num, by rw [HZS.out, ws], by trivial⟩
      case measure => simp [intOf]; omega
    · obtain rfl : i = c.length := by omega
      rw [List.take_length]
      clear hlt hi
      go_wp2
      go_ret
      exact ⟨rfl, rfl⟩
end Go.Proofs.Ytmapjjfefjoemaa
