/- The next move of a set, of the program. -/
import Derived.Test.YtpkfjdaedaplfaaFst
import Derived.Test.YtpkfjdaedaplfaaFrv
namespace Go.Proofs.Ytpkfjdaedaplfaa
open Go.RowKit

/-- none of 0, 1 and infinity -/
@[irreducible] def tmB (x : Int × Int) : Bool := !(eqF x.1 x.2 0 1 || (eqF x.1 x.2 1 1 || eqF x.1 x.2 1 0))
/-- the next move for its sake -/
def moK (x : Int × Int) : Int := if x.1 < 0 then 0 else if x.2 < x.1 then 1 else 2
def moA (x : Int × Int) : Int := if x.1 < 0 then 0 else if x.2 < x.1 then 0 else x.1
def moB (x : Int × Int) : Int := if x.1 < 0 then 0 else if x.2 < x.1 then 0 else x.2 - x.1
set_option maxHeartbeats 1000000 in
theorem isToMove_any (n d : Int) (w : World) : Calls Try.prog 73 #[.agg #[.int .i64 n, .int .i64 d]] w fun e w' => e = .returned (.bool (tmB (n, d))) ∧ Below w.heap.size w w' := by
  obtain ⟨b1, h1⟩ : ∃ b, eqF n d 0 1 = b := ⟨_, rfl⟩
  obtain ⟨b2, h2⟩ : ∃ b, eqF n d 1 1 = b := ⟨_, rfl⟩
  obtain ⟨b3, h3⟩ : ∃ b, eqF n d 1 0 = b := ⟨_, rfl⟩
  have e : tmB (n, d) = !(b1 || (b2 || b3)) := by unfold tmB; rw [h1, h2, h3]
  rw [e]
  clear e
  cases b1
  · cases b2
    · cases b3
      all_goals (
        go_enter Try.func73, Try.ntmps73
        go_wp2
        go_ret
        exact ⟨rfl, below1 _ _⟩)
    · clear h3
      go_enter Try.func73, Try.ntmps73
      go_wp2
      go_ret
      exact ⟨rfl, below1 _ _⟩
  · clear h2 h3
    go_enter Try.func73, Try.ntmps73
    go_wp2
    go_ret
    exact ⟨rfl, below1 _ _⟩
set_option maxHeartbeats 1000000 in
theorem moveOf_any (n d : Int) (hn : n.natAbs ≤ 4000000000) (hd : d.natAbs ≤ 4000000000) (w : World) : Calls Try.prog 74 #[.agg #[.int .i64 n, .int .i64 d]] w fun e w' => e = .returned (.agg #[.int .i64 (moK (n, d)), .int .i64 (moA (n, d)), .int .i64 (moB (n, d))]) ∧ Below w.heap.size w w' := by
  have hw : wrap64 (d - n) = d - n := wr64 (by omega) (by omega)
  unfold moK moA moB
  dsimp only
  by_cases h1 : n < 0
  · rw [if_pos h1, if_pos h1, if_pos h1]
    have d1 := decide_eq_true h1
    clear h1 hw hn hd
    go_enter Try.func74, Try.ntmps74
    go_wp2
    exact res_agg (p := 2) (g := w.heap.size + 1) aggMv (by rfl) rfl rfl rfl (heap_at _ _ _ (by simp)) ⟨rfl, below2 _ _ _⟩
  · rw [if_neg h1, if_neg h1, if_neg h1]
    have d1 := decide_eq_false h1
    by_cases h2 : d < n
    · rw [if_pos h2, if_pos h2, if_pos h2]
      have d2 := decide_eq_true h2
      clear h1 h2 hw hn hd
      go_enter Try.func74, Try.ntmps74
      go_wp2
      exact res_agg (p := 2) (g := w.heap.size + 1) aggMv (by rfl) rfl rfl rfl (heap_at _ _ _ (by simp)) ⟨rfl, below2 _ _ _⟩
    · rw [if_neg h2, if_neg h2, if_neg h2]
      have d2 := decide_eq_false h2
      clear h1 h2 hn hd
      go_enter Try.func74, Try.ntmps74
      go_wp2
      exact res_agg (p := 2) (g := w.heap.size + 1) aggMv (by rfl) rfl rfl rfl (heap_at _ _ _ (by simp)) ⟨rfl, below2 _ _ _⟩
/-- where the first of them is -/
def ix (l : List (Int × Int)) : Nat := l.findIdx tmB
theorem ix_at {l : List (Int × Int)} {k : Nat} (hk : k < l.length) (h : ∀ i (hi : i < l.length), i < k → tmB l[i] = false) (ht : tmB l[k] = true) : ix l = k := by
  unfold ix
  rw [List.findIdx_eq hk]
  exact ⟨ht, fun j hj => by rw [h j (by omega) hj]⟩
theorem ix_end {l : List (Int × Int)} (h : ∀ i (hi : i < l.length), tmB l[i] = false) : ix l = l.length := by
  unfold ix
  rw [List.findIdx_eq_length]
  intro x hx
  obtain ⟨i, hi, rfl⟩ := List.getElem_of_mem hx
  exact h i hi
set_option maxRecDepth 100000 in
set_option maxHeartbeats 2000000 in
theorem indexFunc_any (l : List (Int × Int)) (v : Value) (w : World) (h : RdF w v l) :
    Calls Try.prog 72 #[v, .func (.func 73) #[] #[]] w fun e w' => e = .returned (.int .i64 (if ix l < l.length then (ix l : Int) else -1)) ∧ Below w.heap.size w w' := by
  obtain ⟨A, c, rfl, hl⟩ := h.form
  have H := hide h; clear h
  obtain ⟨R, hR⟩ : ∃ R : Int, (if ix l < l.length then (ix l : Int) else -1) = R := ⟨_, rfl⟩
  rw [hR]
  have HR := hide hR; clear hR
  go_enter Try.func72, Try.ntmps72
  go_wp2
  go_loopw [8] (fun i wr => ∃ k : Nat, k ≤ l.length ∧ i = .int .i64 k ∧ Hid (∀ i (hi : i < l.length), i < k → tmB l[i] = false) ∧ Below w.heap.size w wr) (fun i _ => l.length - (intOf i).toNat)
  case atStart => exact ⟨0, by omega, rfl, hide (fun i hi h => by omega), Below.refl _ _⟩
  case round =>
    obtain ⟨k, hk, rfl, hK, hb⟩ := hrel
    by_cases hlt : k < l.length
    · obtain ⟨a, rfl, _, c1, c2⟩ := (H.out.below hb (Nat.le_refl _)).at hlt
      have C := hide fun w => isToMove_any l[k].1 l[k].2 w
      obtain ⟨b, hbt⟩ : ∃ b, tmB l[k] = b := ⟨_, rfl⟩
      rw [show (l[k].1, l[k].2) = l[k] from rfl, hbt] at C
      have HN := hide (show b = false → ∀ i (hi : i < l.length), i < k + 1 → tmB l[i] = false from fun e i hi h => by
        by_cases ce : i = k
        · subst ce; rw [hbt, e]
        · exact hK.out i hi (by omega))
      have HF := hide (show b = true → (k : Int) = R from fun e => by
        have := ix_at hlt (fun i hi h => hK.out i hi h) (hbt.trans e)
        rw [← HR.out, this, if_pos hlt])
      clear hK hbt
      generalize l[k].1 = x at *
      generalize l[k].2 = y at *
      go_wp2_with fail
      refine (C.out _).mono ?_
      rintro e w2 ⟨rfl, hb2⟩
      have hb3 : Below w.heap.size w w2 := hb.trans (hb2.mono hb.size)
      clear hb hb2 C c1 c2
      rcases b with _ | _
      · clear HF
        have HN' := hide (HN.out rfl)
        clear HN
        go_wp2_with fail
        go_roundw
        case rel => exact ⟨k + 1, by omega, by go_num, HN', hb3⟩
        case measure => simp [intOf]; omega
      · have hR := hide (HF.out rfl)
        clear HN HF
        go_wp2_with fail
        go_ret
        exact ⟨by rw [← hR.out]; rfl, hb3⟩
    · obtain rfl : k = l.length := by omega
      have hF := hide (show (-1 : Int) = R by
        rw [← HR.out, ix_end (fun i hi => hK.out i hi hi), if_neg (by omega)])
      clear hlt hk hK
      go_wp2
      go_ret
      exact ⟨by rw [← hF.out]; rfl, hb⟩
/-- what NextMove tells -/
def nxF (l : List (Int × Int)) : Int × Int := l.getD (ix l) (0, 0)
def nxB (l : List (Int × Int)) : Bool := decide (ix l < l.length) && mvB (moK (nxF l)) (moA (nxF l)) (moB (nxF l))
def nxC (l : List (Int × Int)) : Int := if stB l = true then (if ix l < l.length then (if mvB (moK (nxF l)) (moA (nxF l)) (moB (nxF l)) = true then 0 else 3) else 5) else 1
def nxK (l : List (Int × Int)) : Int := if nxC l = 0 then moK (nxF l) else 0
def nxX (l : List (Int × Int)) : Int := if nxC l = 0 then moA (nxF l) else 0
def nxY (l : List (Int × Int)) : Int := if nxC l = 0 then moB (nxF l) else 0
theorem stB_fr {l : List (Int × Int)} (h : stB l = true) {i : Nat} (hi : i < l.length) : frB l[i].1 l[i].2 = true := by
  have := bad_fr ((stB_true h).1 i hi)
  rwa [List.getD_eq_getElem?_getD, List.getElem?_eq_getElem hi] at this
set_option maxRecDepth 100000 in
set_option maxHeartbeats 4000000 in
theorem nextMove_any (l : List (Int × Int)) (v : Value) (w : World) (h : RdF w v l) :
    Calls Try.prog 38 #[v] w fun e w' => e = .returned (.tuple #[.agg #[.int .i64 (nxK l), .int .i64 (nxX l), .int .i64 (nxY l)], .int .i64 (nxC l)]) ∧ Below w.heap.size w w' := by
  have H0 := (Holds.start w).blk #[.int .i64 0, .int .i64 0, .int .i64 0] 38 w.heap.size rfl
  have H := hide (h.below H0.low (Nat.le_refl _))
  have CS := hide fun w h => isSet_any l v w h
  have CI := hide fun w h => indexFunc_any l v w h
  obtain ⟨B, d, rfl, hl0⟩ := h.form
  clear h
  rcases hs : stB l with _ | _
  · have hC : nxC l = 1 := by unfold nxC; rw [if_neg (by rw [hs]; decide)]
    have e1 : nxK l = 0 := by unfold nxK; rw [if_neg (by rw [hC]; decide)]
    have e2 : nxX l = 0 := by unfold nxX; rw [if_neg (by rw [hC]; decide)]
    have e3 : nxY l = 0 := by unfold nxY; rw [if_neg (by rw [hC]; decide)]
    rw [hC, e1, e2, e3]
    rw [hs] at CS
    clear hC e1 e2 e3 hs CI
    go_enter Try.func38, Try.ntmps38
    go_wp2_with fail
    refine (CS.out _ H.out).mono ?_
    rintro e w1 ⟨rfl, hb⟩
    have H1 := H0.call hb
    clear hb CS
    have c0 := H1.cell 0 rfl (j := 0) (v := .int .i64 0) rfl
    have c1 := H1.cell 0 rfl (j := 1) (v := .int .i64 0) rfl
    have c2 := H1.cell 0 rfl (j := 2) (v := .int .i64 0) rfl
    have f0 := H1.frozen 0 rfl 0
    have f1 := H1.frozen 0 rfl 1
    have f2 := H1.frozen 0 rfl 2
    have lX := H1.lt 0 rfl
    have H2 := H1.set3 0 rfl (.int .i64 0) (.int .i64 0) (.int .i64 0)
    clear H1
    go_wp2_with fail
    exact res_agg2 (p := 2) (t := 3) (g := w.heap.size) (v := .int .i64 1) aggMv (by rfl) rfl rfl rfl rfl (H2.at 0 rfl) ⟨rfl, H2.low⟩
  rw [hs] at CS
  by_cases hi : ix l < l.length
  · rw [if_pos hi] at CI
    have hnx : nxF l = l[ix l] := by unfold nxF; rw [List.getD_eq_getElem?_getD, List.getElem?_eq_getElem hi]; rfl
    have hfr := stB_fr hs hi
    obtain ⟨x1, x2, x3⟩ := frB_true hfr
    have CM := hide fun w => moveOf_any l[ix l].1 l[ix l].2 (by omega) (by omega) w
    have CB := hide fun w => isMove_any (moK (nxF l)) (moA (nxF l)) (moB (nxF l)) w
    have CA := hide fun (wx : World) (hx : Below (w.alloc (.cells #[.int .i64 0, .int .i64 0, .int .i64 0] 38)).heap.size (w.alloc (.cells #[.int .i64 0, .int .i64 0, .int .i64 0] 38)) wx) => fun (a : Addr) (e : B = some a) => RdF.atC (w := w.alloc (.cells #[.int .i64 0, .int .i64 0, .int .i64 0] 38)) (w' := wx) (a := a) (n := l.length) (c := d) (by have := H.out; rw [e] at this; exact this) hx (Nat.le_refl _) hi
    obtain ⟨a, e0, k1, k2, k3⟩ := H.out.at hi
    clear k1 k2 k3
    subst e0
    have CA' := hide fun (wx : World) hx => CA.out wx hx a rfl
    clear CA
    rw [show ((l[ix l]).1, (l[ix l]).2) = nxF l from hnx.symm] at CM
    rw [← hnx] at CA' CM
    have hC : nxC l = if mvB (moK (nxF l)) (moA (nxF l)) (moB (nxF l)) = true then 0 else 3 := by unfold nxC; rw [if_pos hs, if_pos hi]
    have hil : (ix l : Int) < l.length := by omega
    have hneg : ¬ ((ix l : Int) < 0) := by omega
    clear hnx hfr x1 x2 x3
    obtain ⟨p, hp⟩ : ∃ p, moK (nxF l) = p := ⟨_, rfl⟩
    obtain ⟨q, hq⟩ : ∃ q, moA (nxF l) = q := ⟨_, rfl⟩
    obtain ⟨r, hr⟩ : ∃ r, moB (nxF l) = r := ⟨_, rfl⟩
    rw [hp, hq, hr] at hC CM CB
    rcases hm : mvB p q r with _ | _
    · rw [hm] at hC CB
      rw [if_neg (by decide)] at hC
      have e1 : nxK l = 0 := by unfold nxK; rw [if_neg (by rw [hC]; decide)]
      have e2 : nxX l = 0 := by unfold nxX; rw [if_neg (by rw [hC]; decide)]
      have e3 : nxY l = 0 := by unfold nxY; rw [if_neg (by rw [hC]; decide)]
      rw [hC, e1, e2, e3]
      clear hC e1 e2 e3 hs hm hp hq hr hi
      generalize (nxF l).1 = x at *
      generalize (nxF l).2 = y at *
      generalize ix l = k at *
      go_enter Try.func38, Try.ntmps38
      go_wp2_with fail
      refine (CS.out _ H.out).mono ?_
      rintro e w1 ⟨rfl, hb⟩
      have H1 := H0.call hb
      have b1 := hb
      clear hb CS H0
      go_wp2_with fail
      refine (CI.out _ (H.out.below b1 (Nat.le_refl _))).mono ?_
      rintro e w2 ⟨rfl, hb⟩
      have H2 := H1.call hb
      have b2 := b1.trans (hb.mono b1.size)
      clear hb CI H1 b1
      have a1 := (CA'.out w2 b2).1
      have a2 := (CA'.out w2 b2).2
      go_wp2_with fail
      refine (CM.out _).mono ?_
      rintro e w3 ⟨rfl, hb⟩
      have H3 := (H2.call hb).blk #[.int .i64 p, .int .i64 q, .int .i64 r] 38 w3.heap.size rfl
      clear hb CM H2 b2 a1 a2 CA' H
      obtain ⟨Y, hY⟩ : ∃ Y, Y = w3.heap.size := ⟨_, rfl⟩
      go_wp2_with fail
      refine (CB.out _).mono ?_
      rintro e w4 ⟨rfl, hb⟩
      have H4 := H3.call hb
      clear hb CB H3
      have c0 := H4.cell 1 rfl (j := 0) (v := .int .i64 0) rfl
      have c1 := H4.cell 1 rfl (j := 1) (v := .int .i64 0) rfl
      have c2 := H4.cell 1 rfl (j := 2) (v := .int .i64 0) rfl
      have f0 := H4.frozen 1 rfl 0
      have f1 := H4.frozen 1 rfl 1
      have f2 := H4.frozen 1 rfl 2
      have lX := H4.lt 1 rfl
      have H5 := H4.set3 1 rfl (.int .i64 0) (.int .i64 0) (.int .i64 0)
      clear H4
      go_wp2_with fail
      exact res_agg2 (p := 2) (t := 3) (g := w.heap.size) (v := .int .i64 3) aggMv (by rfl) rfl rfl rfl rfl (H5.at 1 rfl) ⟨rfl, H5.low⟩
    · rw [hm] at hC CB
      rw [if_pos rfl] at hC
      have e1 : nxK l = p := by unfold nxK; rw [if_pos hC, hp]
      have e2 : nxX l = q := by unfold nxX; rw [if_pos hC, hq]
      have e3 : nxY l = r := by unfold nxY; rw [if_pos hC, hr]
      rw [hC, e1, e2, e3]
      clear hC e1 e2 e3 hs hm hp hq hr hi
      generalize (nxF l).1 = x at *
      generalize (nxF l).2 = y at *
      generalize ix l = k at *
      go_enter Try.func38, Try.ntmps38
      go_wp2_with fail
      refine (CS.out _ H.out).mono ?_
      rintro e w1 ⟨rfl, hb⟩
      have H1 := H0.call hb
      have b1 := hb
      clear hb CS H0
      go_wp2_with fail
      refine (CI.out _ (H.out.below b1 (Nat.le_refl _))).mono ?_
      rintro e w2 ⟨rfl, hb⟩
      have H2 := H1.call hb
      have b2 := b1.trans (hb.mono b1.size)
      clear hb CI H1 b1
      have a1 := (CA'.out w2 b2).1
      have a2 := (CA'.out w2 b2).2
      go_wp2_with fail
      refine (CM.out _).mono ?_
      rintro e w3 ⟨rfl, hb⟩
      have H3 := (H2.call hb).blk #[.int .i64 p, .int .i64 q, .int .i64 r] 38 w3.heap.size rfl
      clear hb CM H2 b2 a1 a2 CA' H
      go_wp2_with fail
      refine (CB.out _).mono ?_
      rintro e w4 ⟨rfl, hb⟩
      have H4 := H3.call hb
      clear hb CB H3
      have c0 := H4.cell 1 rfl (j := 0) (v := .int .i64 0) rfl
      have c1 := H4.cell 1 rfl (j := 1) (v := .int .i64 0) rfl
      have c2 := H4.cell 1 rfl (j := 2) (v := .int .i64 0) rfl
      have g0 := H4.cell 0 rfl (j := 0) (v := .int .i64 p) rfl
      have g1 := H4.cell 0 rfl (j := 1) (v := .int .i64 q) rfl
      have g2 := H4.cell 0 rfl (j := 2) (v := .int .i64 r) rfl
      have f0 := H4.frozen 1 rfl 0
      have f1 := H4.frozen 1 rfl 1
      have f2 := H4.frozen 1 rfl 2
      have lX := H4.lt 1 rfl
      have H5 := H4.set3 1 rfl (.int .i64 p) (.int .i64 q) (.int .i64 r)
      clear H4
      go_wp2_with fail
      exact res_agg2 (p := 2) (t := 3) (g := w.heap.size) (v := .int .i64 0) aggMv (by rfl) rfl rfl rfl rfl (H5.at 1 rfl) ⟨rfl, H5.low⟩
  · rw [if_neg hi] at CI
    have hC : nxC l = 5 := by unfold nxC; rw [if_pos hs, if_neg hi]
    have e1 : nxK l = 0 := by unfold nxK; rw [if_neg (by rw [hC]; decide)]
    have e2 : nxX l = 0 := by unfold nxX; rw [if_neg (by rw [hC]; decide)]
    have e3 : nxY l = 0 := by unfold nxY; rw [if_neg (by rw [hC]; decide)]
    rw [hC, e1, e2, e3]
    clear hC e1 e2 e3 hs hi
    go_enter Try.func38, Try.ntmps38
    go_wp2_with fail
    refine (CS.out _ H.out).mono ?_
    rintro e w1 ⟨rfl, hb⟩
    have H1 := H0.call hb
    have b1 := hb
    clear hb CS H0
    go_wp2_with fail
    refine (CI.out _ (H.out.below b1 (Nat.le_refl _))).mono ?_
    rintro e w2 ⟨rfl, hb⟩
    have H4 := H1.call hb
    clear hb CI H1 b1
    have c0 := H4.cell 0 rfl (j := 0) (v := .int .i64 0) rfl
    have c1 := H4.cell 0 rfl (j := 1) (v := .int .i64 0) rfl
    have c2 := H4.cell 0 rfl (j := 2) (v := .int .i64 0) rfl
    have f0 := H4.frozen 0 rfl 0
    have f1 := H4.frozen 0 rfl 1
    have f2 := H4.frozen 0 rfl 2
    have lX := H4.lt 0 rfl
    have H5 := H4.set3 0 rfl (.int .i64 0) (.int .i64 0) (.int .i64 0)
    clear H4
    go_wp2_with fail
    exact res_agg2 (p := 2) (t := 3) (g := w.heap.size) (v := .int .i64 5) aggMv (by rfl) rfl rfl rfl rfl (H5.at 0 rfl) ⟨rfl, H5.low⟩
end Go.Proofs.Ytpkfjdaedaplfaa
