/- Rules of moves behind their interface: degrees. -/
import Derived.Test.YtpkfjdaedaplfaaMvl
namespace Go.Proofs.Ytpkfjdaedaplfaa
open Go.RowKit

def rlT (k : Int) : TypeId := if k = 0 then 115 else if k = 1 then 116 else 118
/-- the rule of a move -/
def rlV (k a b : Int) : Value := if k = 0 then .iface 115 (.agg #[]) else if k = 1 then .iface 116 (.agg #[]) else .iface 118 (.agg #[.int .i64 a, .int .i64 b])
set_option maxHeartbeats 1000000 in
theorem ruleOf_any (k a b : Int) (w : World) : Calls Try.prog 66 #[.agg #[.int .i64 k, .int .i64 a, .int .i64 b]] w fun e w' => e = .returned (rlV k a b) ∧ Below w.heap.size w w' := by
  rcases h0 : (k == 0) with _ | _
  · rcases h1 : (k == 1) with _ | _
    · rw [show rlV k a b = .iface 118 (.agg #[.int .i64 a, .int .i64 b]) from (if_neg (by simpa using h0)).trans (if_neg (by simpa using h1))]
      go_enter Try.func66, Try.ntmps66
      go_wp2
      go_ret
      exact ⟨rfl, below1 _ _⟩
    · rw [show rlV k a b = .iface 116 (.agg #[]) from (if_neg (by simpa using h0)).trans (if_pos (by simpa using h1))]
      go_enter Try.func66, Try.ntmps66
      go_wp2
      go_ret
      exact ⟨rfl, below1 _ _⟩
  · rw [show rlV k a b = .iface 115 (.agg #[]) from if_pos (by simpa using h0)]
    go_enter Try.func66, Try.ntmps66
    go_wp2
    go_ret
    exact ⟨rfl, below1 _ _⟩
/-- a rule of the degree -/
def DegV (v : Value) (d : Int) : Prop :=
  ∃ (T : TypeId) (x : Value) (K : Nat) (r : Value), v = .iface T x ∧ (∀ (N : Nat) w, (method (N + 1) T x "loop.example/g01200/impl.degree").run Try.prog w = .ok (K, r) w) ∧ (∀ (N : Nat) w, (nilAhead (N + 1) T x "loop.example/g01200/impl.degree").run Try.prog w = .ok (some false) w) ∧ (∀ (a : Value) w, (callFunc K #[a]).run Try.prog w = .ok (.enter K #[a]) w) ∧
    ∀ w, Calls Try.prog K #[r] w fun e w' => e = .returned (.int .i64 d) ∧ Below w.heap.size w w'
set_option maxHeartbeats 1000000 in
theorem oneDegree_any (w : World) : Calls Try.prog 131 #[.agg #[]] w fun e w' => e = .returned (.int .i64 1) ∧ Below w.heap.size w w' := by
  go_enter Try.func131, Try.ntmps131
  go_wp2
  go_ret
  exact ⟨rfl, below1 _ _⟩
set_option maxHeartbeats 1000000 in
theorem powDegree_any (a b : Int) (h : (a + b).natAbs ≤ 4000000000) (w : World) : Calls Try.prog 135 #[.agg #[.int .i64 a, .int .i64 b]] w fun e w' => e = .returned (.int .i64 (a + b)) ∧ Below w.heap.size w w' := by
  have hw : wrap64 (a + b) = a + b := wr64 (by omega) (by omega)
  clear h
  go_enter Try.func135, Try.ntmps135
  go_wp2
  go_ret
  exact ⟨congrArg Ending.returned (congrArg (Value.int .i64) hw), below1 _ _⟩
/-- the degree of a move -/
def dg (k a b : Int) : Int := if k = 2 then a + b else 1
set_option maxRecDepth 100000 in
theorem deg_rule {k a b : Int} (h : mvB k a b = true) : DegV (rlV k a b) (dg k a b) := by
  have hm := mvB_true h
  by_cases h0 : k = 0
  · rw [show rlV k a b = .iface 115 (.agg #[]) from if_pos h0, show dg k a b = 1 from if_neg (by omega)]
    exact ⟨115, .agg #[], 131, .agg #[], rfl, fun _ _ => by kernel_rfl, fun _ _ => by kernel_rfl, fun _ _ => by kernel_rfl, fun w => oneDegree_any w⟩
  · by_cases h1 : k = 1
    · rw [show rlV k a b = .iface 116 (.agg #[]) from (if_neg h0).trans (if_pos h1), show dg k a b = 1 from if_neg (by omega)]
      exact ⟨116, .agg #[], 131, .agg #[], rfl, fun _ _ => by kernel_rfl, fun _ _ => by kernel_rfl, fun _ _ => by kernel_rfl, fun w => oneDegree_any w⟩
    · rw [show rlV k a b = .iface 118 (.agg #[.int .i64 a, .int .i64 b]) from (if_neg h0).trans (if_neg h1), show dg k a b = a + b from if_pos (by omega)]
      exact ⟨118, .agg #[.int .i64 a, .int .i64 b], 135, .agg #[.int .i64 a, .int .i64 b], rfl, fun _ _ => by kernel_rfl, fun _ _ => by kernel_rfl, fun _ _ => by kernel_rfl, fun w => powDegree_any a b (by omega) w⟩
/-- all are moves -/
def amB (l : List (Int × Int × Int)) : Bool := l.all fun x => mvB x.1 x.2.1 x.2.2
theorem amB_bad {l : List (Int × Int × Int)} {i : Nat} (hi : i < l.length) (h : mvB l[i].1 l[i].2.1 l[i].2.2 = false) : amB l = false := by
  unfold amB
  rw [List.all_eq_false]
  exact ⟨l[i], List.getElem_mem hi, by rw [h]; decide⟩
theorem amB_good {l : List (Int × Int × Int)} (h : ∀ i (hi : i < l.length), mvB l[i].1 l[i].2.1 l[i].2.2 = true) : amB l = true := by
  unfold amB
  rw [List.all_eq_true]
  intro x hx
  obtain ⟨i, hi, rfl⟩ := List.getElem_of_mem hx
  exact h i hi
theorem amB_true {l : List (Int × Int × Int)} (h : amB l = true) {i : Nat} (hi : i < l.length) : mvB l[i].1 l[i].2.1 l[i].2.2 = true := by
  unfold amB at h
  rw [List.all_eq_true] at h
  exact h _ (List.getElem_mem hi)
set_option maxHeartbeats 1000000 in
theorem areMoves1_any (k a b : Int) (w : World) : Calls Try.prog 91 #[.agg #[.int .i64 k, .int .i64 a, .int .i64 b]] w fun e w' => e = .returned (.bool (!mvB k a b)) ∧ Below w.heap.size w w' := by
  have C := hide fun w => isMove_any k a b w
  have HH := (Holds.start w).blk #[.int .i64 k, .int .i64 a, .int .i64 b] 38 w.heap.size rfl
  generalize mvB k a b = r at *
  go_enter Try.func91, Try.ntmps91
  go_wp2_with fail
  refine (C.out _).mono ?_
  rintro e w5 ⟨rfl, hb5⟩
  have H5 := (HH.call hb5).low
  go_wp2_with fail
  go_ret
  exact ⟨rfl, H5⟩
/-- where the first that is none stands, or -1 -/
def jx (l : List (Int × Int × Int)) : Int := if l.findIdx (fun x => !mvB x.1 x.2.1 x.2.2) < l.length then ((l.findIdx (fun x => !mvB x.1 x.2.1 x.2.2) : Nat) : Int) else -1
theorem jx_at {l : List (Int × Int × Int)} {k : Nat} (hk : k < l.length) (h : ∀ i (hi : i < l.length), i < k → mvB l[i].1 l[i].2.1 l[i].2.2 = true) (ht : mvB l[k].1 l[k].2.1 l[k].2.2 = false) : jx l = k := by
  have e : l.findIdx (fun x => !mvB x.1 x.2.1 x.2.2) = k := by
    rw [List.findIdx_eq hk]
    exact ⟨by simp [ht], fun j hj => by simp [h j (by omega) hj]⟩
  unfold jx
  rw [e, if_pos hk]
theorem jx_end {l : List (Int × Int × Int)} (h : ∀ i (hi : i < l.length), mvB l[i].1 l[i].2.1 l[i].2.2 = true) : jx l = -1 := by
  have e : l.findIdx (fun x => !mvB x.1 x.2.1 x.2.2) = l.length := by
    rw [List.findIdx_eq_length]
    intro x hx
    obtain ⟨i, hi, rfl⟩ := List.getElem_of_mem hx
    simp [h i hi]
  unfold jx
  rw [e, if_neg (by omega)]
theorem jx_am (l : List (Int × Int × Int)) : decide (0 ≤ jx l) = !amB l := by
  rcases h : amB l with _ | _
  · unfold amB at h
    rw [List.all_eq_false] at h
    obtain ⟨x, hx, hn⟩ := h
    have : l.findIdx (fun x => !mvB x.1 x.2.1 x.2.2) < l.length := List.findIdx_lt_length_of_exists ⟨x, hx, by simpa using hn⟩
    unfold jx
    rw [if_pos this]
    simp
  · rw [jx_end (fun i hi => amB_true h hi)]
    rfl
set_option maxRecDepth 100000 in
set_option maxHeartbeats 2000000 in
theorem indexMoves_any (l : List (Int × Int × Int)) (v : Value) (w : World) (h : RdM w v l) :
    Calls Try.prog 98 #[v, .func (.func 91) #[] #[]] w fun e w' => e = .returned (.int .i64 (jx l)) ∧ Below w.heap.size w w' := by
  obtain ⟨A, c, rfl, hl⟩ := h.form
  have H := hide h; clear h
  obtain ⟨R, hR⟩ : ∃ R : Int, jx l = R := ⟨_, rfl⟩
  rw [hR]
  have HR := hide hR; clear hR
  go_enter Try.func98, Try.ntmps98
  go_wp2
  go_loopw [8] (fun i wr => ∃ k : Nat, k ≤ l.length ∧ i = .int .i64 k ∧ Hid (∀ i (hi : i < l.length), i < k → mvB l[i].1 l[i].2.1 l[i].2.2 = true) ∧ Below w.heap.size w wr) (fun i _ => l.length - (intOf i).toNat)
  case atStart => exact ⟨0, by omega, rfl, hide (fun i hi h => by omega), Below.refl _ _⟩
  case round =>
    obtain ⟨k, hk, rfl, hK, hb⟩ := hrel
    by_cases hlt : k < l.length
    · obtain ⟨a, rfl, k1, c1, c2, c3⟩ := (H.out.below hb (Nat.le_refl _)).at hlt
      clear k1
      have C := hide fun w => areMoves1_any l[k].1 l[k].2.1 l[k].2.2 w
      obtain ⟨b, hbt⟩ : ∃ b, mvB l[k].1 l[k].2.1 l[k].2.2 = b := ⟨_, rfl⟩
      rw [hbt] at C
      have HN := hide (show b = true → ∀ i (hi : i < l.length), i < k + 1 → mvB l[i].1 l[i].2.1 l[i].2.2 = true from fun e i hi h => by
        by_cases ce : i = k
        · subst ce; rw [hbt, e]
        · exact hK.out i hi (by omega))
      have HF := hide (show b = false → (k : Int) = R from fun e => by
        rw [← HR.out, jx_at hlt (fun i hi h => hK.out i hi h) (hbt.trans e)])
      clear hK hbt
      generalize l[k].1 = x at *
      generalize l[k].2.1 = y at *
      generalize l[k].2.2 = z at *
      go_wp2_with fail
      refine (C.out _).mono ?_
      rintro e w2 ⟨rfl, hb2⟩
      have hb3 : Below w.heap.size w w2 := hb.trans (hb2.mono hb.size)
      clear hb hb2 C c1 c2 c3
      rcases b with _ | _
      · have hR := hide (HF.out rfl)
        clear HN HF
        go_wp2_with fail
        go_ret
        exact ⟨by rw [← hR.out]; rfl, hb3⟩
      · clear HF
        have HN' := hide (HN.out rfl)
        clear HN
        go_wp2_with fail
        go_roundw
        case rel => exact ⟨k + 1, by omega, by go_num, HN', hb3⟩
        case measure => simp [intOf]; omega
    · obtain rfl : k = l.length := by omega
      have hF := hide (show (-1 : Int) = R by
        rw [← HR.out, jx_end (fun i hi => hK.out i hi hi)])
      clear hlt hk hK
      go_wp2
      go_ret
      exact ⟨by rw [← hF.out]; rfl, hb⟩
set_option maxRecDepth 100000 in
set_option maxHeartbeats 1000000 in
theorem areMoves_any (l : List (Int × Int × Int)) (v : Value) (w : World) (h : RdM w v l) :
    Calls Try.prog 78 #[v] w fun e w' => e = .returned (.bool (amB l)) ∧ Below w.heap.size w w' := by
  have C := hide (indexMoves_any l v w h)
  have hd := jx_am l
  clear h
  have KEY : Calls Try.prog 90 #[v, .func (.func 91) #[] #[]] w fun e w' => e = .returned (.bool (!amB l)) ∧ Below w.heap.size w w' := by
    generalize amB l = r at *
    generalize jx l = j at *
    go_enter Try.func90, Try.ntmps90
    go_wp2_with fail
    refine C.out.mono ?_
    rintro e w1 ⟨rfl, hb⟩
    go_wp2_with fail
    go_ret
    exact ⟨by rw [← hd]; rfl, hb⟩
  have K := hide KEY
  clear KEY C hd
  generalize amB l = r at *
  go_enter Try.func78, Try.ntmps78
  go_wp2_with fail
  refine K.out.mono ?_
  rintro e w1 ⟨rfl, hb⟩
  cases r
  all_goals (
    go_wp2_with fail
    go_ret
    exact ⟨rfl, hb⟩)
end Go.Proofs.Ytpkfjdaedaplfaa
