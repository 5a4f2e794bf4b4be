/- Shabat polynomials. -/
import Derived.Test.YtjjmjnohbebbaaaVc6
namespace Go.Proofs.Ytjjmjnohbebbaaa
open Go.RowKit

noncomputable def two6 (l : List Int) (a b : Int) : Int := if vcode l [a, b] = 0 then (if a = b then 2 else 0) else vcode l [a, b]
theorem two6_ok {l : List Int} {a b : Int} (h : vcode l [a, b] = 0) (k : a ≠ b) : two6 l a b = 0 := (if_pos h).trans (if_neg k)
theorem two6_eq {l : List Int} {a b : Int} (h : vcode l [a, b] = 0) (k : a = b) : two6 l a b = 2 := (if_pos h).trans (if_pos k)
theorem two6_bad {l : List Int} {a b : Int} (h : ¬ vcode l [a, b] = 0) : two6 l a b = vcode l [a, b] := if_neg h
def shaB (na nb n : Nat) : Bool := decide (na + nb = n)
noncomputable def shaR (l : List Int) (a b : Int) : Value := .tuple #[.bool (if two6 l a b = 0 then shaB (res6 l a).length (res6 l b).length l.length else false), .int .i64 (two6 l a b)]
theorem shaR_eq (l : List Int) (a b : Int) : ∃ x c, shaR l a b = .tuple #[.bool x, .int .i64 c] := ⟨_, _, rfl⟩

set_option maxRecDepth 100000 in
set_option maxHeartbeats 1000000 in
theorem isShabat6_any (G : Nat) (A B : Option Addr) (na nb ca cb gz cz cG : Nat) (n : Nat) (hna : na ≤ 1000) (hnb : nb ≤ 1000) (hn : n ≤ 1000) (h0 : 0 < n) (w : World)
    (h1 : w.cell? ⟨G, 0, none⟩ = some (.slice A na ca)) (h2 : w.cell? ⟨G, 1, none⟩ = some (.slice B nb cb)) (h3 : w.cell? ⟨G, 2, none⟩ = some (.slice (some ⟨gz, 0, none⟩) 1 cz)) (h4 : w.cell? ⟨gz, 0, none⟩ = some (.int .i64 ((n : Int) - 1))) :
    Calls Try.prog 18 #[.slice (some ⟨G, 0, none⟩) 3 cG] w fun e w' => e = .returned (.bool (shaB na nb n)) ∧ Below w.heap.size w w' := by
  by_cases he : na + nb = n
  · have e1 : shaB na nb n = true := decide_eq_true he
    rw [e1]
    have e2 : ((na : Int) + (nb : Int) == (n : Int)) = true := by simp; omega
    have e3 : (na + nb == n) = true := by simpa using he
    clear he e1
    go_enter Try.func18, Try.ntmps18
    go_wp2
    go_quiet (fail)
    go_wp2
    go_ret
    exact ⟨rfl, below_drewN (Below.refl _ _) _⟩
  · have e1 : shaB na nb n = false := decide_eq_false he
    rw [e1]
    have e2 : ((na : Int) + (nb : Int) == (n : Int)) = false := by simp; omega
    have e3 : (na + nb == n) = false := by simpa using he
    clear he e1
    go_enter Try.func18, Try.ntmps18
    go_wp2
    go_quiet (fail)
    go_wp2
    go_ret
    exact ⟨rfl, below_drewN (Below.refl _ _) _⟩
set_option maxRecDepth 100000 in
set_option maxHeartbeats 1000000 in
theorem both6p_bad (u0 : Value) (l0 : List Int) (x0 x1 : Int) (w : World) (h0 : RdZ w u0 l0) (hz : two6 l0 x0 x1 ≠ 0) :
    Calls Try.prog 17 #[u0, .int .i64 x0, .int .i64 x1] w fun e w' => e = .returned (.tuple #[.slice none 0 0, .int .i64 (two6 l0 x0 x1)]) ∧ Below w.heap.size w w' := by
  obtain ⟨A, c, rfl, _⟩ := h0.form
  have hb := below1 w (.cells #[.int .i64 x0, .int .i64 x1] 2)
  have CA := valuesCode_any _ _ l0 [x0, x1] _ (h0.below hb (Nat.le_refl _)) (rdz_cells w [x0, x1] 2 2 rfl (by decide))
  replace hb := hide hb
  clear h0
  by_cases hv : vcode l0 [x0, x1] = 0
  · rw [hv] at CA
    have hxx : x0 = x1 := Classical.byContradiction fun k => hz (two6_ok hv k)
    rw [two6_eq hv hxx]
    have e1 : (x0 == x1) = true := by simpa using hxx
    clear hz hv hxx
    have CA' := hide CA; clear CA
    go_enter Try.func17, Try.ntmps17
    go_wp2_with fail
    refine (CA'.out).mono ?_
    rintro e w1 ⟨rfl, rfl⟩
    go_wp2
    go_ret2
    exact ⟨rfl, hb.out⟩
  · rw [two6_bad hv]
    have hne : (vcode l0 [x0, x1] != 0) = true := by simpa using hv
    generalize vcode l0 [x0, x1] = cd at *
    clear hz hv
    have CA' := hide CA; clear CA
    go_enter Try.func17, Try.ntmps17
    go_wp2_with fail
    refine (CA'.out).mono ?_
    rintro e w1 ⟨rfl, rfl⟩
    go_wp2
    go_ret2
    exact ⟨rfl, hb.out⟩
set_option maxRecDepth 100000 in
set_option maxHeartbeats 1000000 in
theorem both6p_ok (u0 : Value) (l0 : List Int) (x0 x1 : Int) (w : World) (h0 : RdZ w u0 l0) (hz : two6 l0 x0 x1 = 0) :
    Calls Try.prog 17 #[u0, .int .i64 x0, .int .i64 x1] w fun e w' => ∃ v vs, e = .returned (.tuple #[v, .int .i64 0]) ∧ vs.length = 3 ∧ Holds w w' (pVals v vs :: rowsP vs [res6 l0 x0, res6 l0 x1, [l0.length - 1]]) := by
  obtain ⟨A, c, rfl, _⟩ := h0.form
  have hb := below1 w (.cells #[.int .i64 x0, .int .i64 x1] 2)
  have CA := valuesCode_any _ _ l0 [x0, x1] _ (h0.below hb (Nat.le_refl _)) (rdz_cells w [x0, x1] 2 2 rfl (by decide))
  have hv : vcode l0 [x0, x1] = 0 := Classical.byContradiction fun k => by rw [two6_bad k] at hz; exact k hz
  have hxx : x0 ≠ x1 := fun k => by rw [two6_eq hv k] at hz; cases hz
  obtain ⟨p0, q0, h2⟩ := vc_zero hv
  have hx := q0 x0 (by simp)
  have hy := q0 x1 (by simp)
  have e1 : (x0 == x1) = false := by simpa using hxx
  rw [hv] at CA
  have R0 := hide (fun wx (hb : Below w.heap.size w wx) => (p0.rd h0).below hb (Nat.le_refl _))
  have f0 := p0.2.2.1
  have htl := tn_length l0
  have hm := multN_any l0 x0 p0 h2 hx
  have hk := multN_any l0 x1 p0 h2 hy
  have CM := hide hm
  have CK := hide hk
  have C0 := hide (polynomialOf_any _ (tn l0) (by omega) _ (R0.out _ hb))
  have CD := hide degree6_any
  have HA0 := hide ((Holds.start w).call hb)
  have CA' := hide CA; clear CA hm hk hx hy hxx hv hz q0 p0 h0 hb
  have hl17 : (tn l0).length ≤ 17 := by omega
  generalize res6 l0 x0 = La at *
  generalize res6 l0 x1 = Lb at *
  have hdeg : ((tn l0).length : Int) - 1 = ((l0.length - 1 : Nat) : Int) := by omega
  clear htl
  go_enter Try.func17, Try.ntmps17
  go_wp2_with fail
  refine (CA'.out).mono ?_
  rintro e w1 ⟨rfl, rfl⟩
  go_wp2_with fail
  refine (C0.out).mono ?_
  rintro e w2 ⟨r0, rfl, k1⟩
  have K1 := HA0.out.joinA k1
  clear k1
  obtain ⟨X, xc, rfl, _⟩ := K1.poForm 0 rfl
  go_wp2_with fail
  refine (CM.out _ w2 (K1.poRd 0 rfl)).mono ?_
  rintro e w3 ⟨r1, rfl, k2⟩
  have K2 := K1.joinA k2
  clear k2 K1
  go_wp2_with fail
  refine (CK.out _ w3 (K2.poRd 1 rfl)).mono ?_
  rintro e w4 ⟨r2, rfl, k3⟩
  have K3 := K2.joinA k3
  clear k3 K2
  go_wp2_with fail
  refine (CD.out X (tn l0).length xc (by omega) _).mono ?_
  rintro e w5 ⟨rfl, rfl⟩
  obtain ⟨A2, b2, rfl⟩ := K3.intsForm 0 rfl
  obtain ⟨A1, b1, rfl⟩ := K3.intsForm 1 rfl
  have K4 : Holds w _ [pInts (.slice (some ⟨w4.heap.size, 0, none⟩) 1 1) [l0.length - 1], pInts (.slice A2 Lb.length b2) (Lb), pInts (.slice A1 La.length b1) (La), pPo (.slice X (tn l0).length xc) (tn l0)] := K3.rowNew #[.int .i64 ((l0.length - 1 : Nat) : Int)] 2 1 1 w4.heap.size rfl rfl (by decide)
  have K5 := K4.rowNew #[(.slice A1 La.length b1), (.slice A2 Lb.length b2), .slice (some ⟨w4.heap.size, 0, none⟩) 1 1] 22 1 3 (w4.heap.size + 1) (by simp) rfl (by decide)
  have K6 : Holds w _ [pVals (.slice (some ⟨w4.heap.size + 1, 0, none⟩) 3 3) [(.slice A1 La.length b1), (.slice A2 Lb.length b2), .slice (some ⟨w4.heap.size, 0, none⟩) 1 1], pInts (.slice (some ⟨w4.heap.size, 0, none⟩) 1 1) [l0.length - 1], pInts (.slice A2 Lb.length b2) Lb, pInts (.slice A1 La.length b1) La] :=
    K5.sub (.cons_cons _ (.cons_cons _ (.cons_cons _ (.cons_cons _ (List.nil_sublist _)))))
  replace K6 := K6.perm (List.Perm.cons _ ((List.Perm.swap (pInts (.slice A2 Lb.length b2) Lb) (pInts (.slice (some ⟨w4.heap.size, 0, none⟩) 1 1) [l0.length - 1]) [pInts (.slice A1 La.length b1) La]).trans ((List.Perm.cons (pInts (.slice A2 Lb.length b2) Lb) (List.Perm.swap (pInts (.slice A1 La.length b1) La) (pInts (.slice (some ⟨w4.heap.size, 0, none⟩) 1 1) [l0.length - 1]) [])).trans (List.Perm.swap (pInts (.slice A1 La.length b1) La) (pInts (.slice A2 Lb.length b2) Lb) [pInts (.slice (some ⟨w4.heap.size, 0, none⟩) 1 1) [l0.length - 1]]))))
  have K9 := hide K6; clear K6 K5 K4 K3
  go_wp2
  go_ret2
  exact ⟨_, [(.slice A1 La.length b1), (.slice A2 Lb.length b2), .slice (some ⟨w4.heap.size, 0, none⟩) 1 1], rfl, rfl, K9.out⟩
set_option maxRecDepth 100000 in
set_option maxHeartbeats 1000000 in
theorem isShabat_any (u0 : Value) (l0 : List Int) (x0 x1 : Int) (_hx0 : -9223372036854775808 ≤ x0 ∧ x0 ≤ 9223372036854775807) (_hx1 : -9223372036854775808 ≤ x1 ∧ x1 ≤ 9223372036854775807) (w : World) (h0 : RdZ w u0 l0) :
    Calls Try.prog 7 #[u0, .int .i64 x0, .int .i64 x1] w fun e w' => e = .returned (shaR l0 x0 x1) ∧ Below w.heap.size w w' := by
  clear _hx0 _hx1
  obtain ⟨A, c, rfl, _⟩ := h0.form
  by_cases hz : two6 l0 x0 x1 = 0
  · have CB := both6p_ok _ l0 x0 x1 w h0 hz
    have hv : vcode l0 [x0, x1] = 0 := Classical.byContradiction fun k => by rw [two6_bad k] at hz; exact k hz
    obtain ⟨p0, _, h2⟩ := vc_zero hv
    obtain ⟨_, _, m1, _⟩ := res6_ok p0 h2 x0
    obtain ⟨_, _, m2, _⟩ := res6_ok p0 h2 x1
    have f0 := p0.2.2.1
    rw [tn_length] at f0
    have e1 : shaR l0 x0 x1 = .tuple #[.bool (shaB (res6 l0 x0).length (res6 l0 x1).length l0.length), .int .i64 0] := by unfold shaR; rw [if_pos hz, hz]
    rw [e1]
    have hni : ((l0.length - 1 : Nat) : Int) = (l0.length : Int) - 1 := by omega
    have hl2 : 0 < l0.length := by omega
    clear e1 hv hz p0 h0
    generalize res6 l0 x0 = La at *
    generalize res6 l0 x1 = Lb at *
    have CB' := hide CB; clear CB
    have CS := hide isShabat6_any
    go_enter Try.func7, Try.ntmps7
    go_wp2_with fail
    refine (CB'.out).mono ?_
    rintro e w1 ⟨v, vs, rfl, hl, K⟩
    have hlen3 : vs.length = [La, Lb, [l0.length - 1]].length := hl
    obtain ⟨g, cG, A1, c1, hv1, _, a1, _⟩ := K.rowAt hlen3 0 rfl (fun i => rfl) (i := 0) (by simp)
    obtain ⟨g', cG', A2, c2, hv2, _, a2, _⟩ := K.rowAt hlen3 0 rfl (fun i => rfl) (i := 1) (by simp)
    obtain ⟨g'', cG'', A3, c3, hv3, _, a3, k3⟩ := K.rowAt hlen3 0 rfl (fun i => rfl) (i := 2) (by simp)
    rw [hv1] at hv2 hv3
    injection hv2 with hv2 hq1 hq2
    clear hq1 hq2
    injection hv2 with hv2
    injection hv2 with hv2 hq1 hq2
    clear hq1 hq2
    injection hv3 with hv3 hq1 hq2
    clear hq1 hq2
    injection hv3 with hv3
    injection hv3 with hv3 hq1 hq2
    clear hq1 hq2
    subst hv2 hv3 hv1
    obtain ⟨g3, c4, hA3, _, a4, _⟩ := K.ints (2 + (0 + 1)) k3 (k := 0) (by simp)
    injection hA3 with hA3 hq1 hq2
    clear hq1 hq2
    subst hA3
    rw [hl]
    have hs := CS.out g A1 A2 (La).length (Lb).length c1 c2 g3 c3 cG l0.length (by omega) (by omega) (by omega) (by omega) w1 a1 a2 a3 (by rw [← hni]; exact a4)
    have HS := hide hs
    have K9 := hide K.low
    clear hs K a1 a2 a3 a4 k3 hlen3 hl hni
    go_wp2_with fail
    refine (HS.out).mono ?_
    rintro e w2 ⟨rfl, hb⟩
    have hb2 := hide (K9.out.trans (hb.mono K9.out.size))
    clear hb
    go_wp2
    go_ret2
    exact ⟨rfl, hb2.out⟩
  · have CB := both6p_bad _ l0 x0 x1 w h0 hz
    have e1 : shaR l0 x0 x1 = .tuple #[.bool false, .int .i64 (two6 l0 x0 x1)] := by unfold shaR; rw [if_neg hz]
    rw [e1]
    have hne : (two6 l0 x0 x1 == 0) = false := by simpa using hz
    generalize two6 l0 x0 x1 = cd at *
    have CB' := hide CB; clear CB e1 hz h0
    go_enter Try.func7, Try.ntmps7
    go_wp2_with fail
    refine (CB'.out).mono ?_
    rintro e w1 ⟨rfl, hb⟩
    replace hb := hide hb
    go_wp2
    go_ret2
    exact ⟨rfl, hb.out⟩
set_option maxRecDepth 100000 in
set_option maxHeartbeats 1000000 in
theorem sTwo6_any (u0 : Value) (l0 : List Int) (x0 x1 : Int) (w : World) (h0 : RdZ w u0 l0) :
    Calls Try.prog 15 #[u0, .int .i64 x0, .int .i64 x1] w fun e w' => e = .returned (.int .i64 (two6 l0 x0 x1)) ∧ Below w.heap.size w w' := by
  obtain ⟨A, c, rfl, _⟩ := h0.form
  have hb := below1 w (.cells #[.int .i64 x0, .int .i64 x1] 2)
  have CA := sCode6_any _ _ l0 [x0, x1] _ (h0.below hb (Nat.le_refl _)) (rdz_cells w [x0, x1] 2 2 rfl (by decide))
  replace hb := hide hb
  clear h0
  by_cases hv : vcode l0 [x0, x1] = 0
  · rw [hv] at CA
    by_cases hxx : x0 = x1
    · rw [two6_eq hv hxx]
      have e1 : (x0 == x1) = true := by simpa using hxx
      clear hv hxx
      have CA' := hide CA; clear CA
      go_enter Try.func15, Try.ntmps15
      go_wp2_with fail
      refine (CA'.out).mono ?_
      rintro e w1 ⟨rfl, rfl⟩
      go_wp2
      go_ret
      exact ⟨rfl, hb.out⟩
    · rw [two6_ok hv hxx]
      have e1 : (x0 == x1) = false := by simpa using hxx
      clear hv hxx
      have CA' := hide CA; clear CA
      go_enter Try.func15, Try.ntmps15
      go_wp2_with fail
      refine (CA'.out).mono ?_
      rintro e w1 ⟨rfl, rfl⟩
      go_wp2
      go_ret
      exact ⟨rfl, hb.out⟩
  · rw [two6_bad hv]
    have hne : (vcode l0 [x0, x1] == 0) = false := by simpa using hv
    generalize vcode l0 [x0, x1] = cd at *
    clear hv
    have CA' := hide CA; clear CA
    go_enter Try.func15, Try.ntmps15
    go_wp2_with fail
    refine (CA'.out).mono ?_
    rintro e w1 ⟨rfl, rfl⟩
    go_wp2
    go_ret
    exact ⟨rfl, hb.out⟩
set_option maxRecDepth 100000 in
set_option maxHeartbeats 1000000 in
theorem sShabat6_any (u0 : Value) (l0 : List Int) (x0 x1 : Int) (w : World) (h0 : RdZ w u0 l0) (hz : two6 l0 x0 x1 = 0) :
    Calls Try.prog 16 #[u0, .int .i64 x0, .int .i64 x1] w fun e w' => e = .returned (.bool (shaB (res6 l0 x0).length (res6 l0 x1).length l0.length)) ∧ Below w.heap.size w w' := by
  obtain ⟨A, c, rfl, _⟩ := h0.form
  have hv : vcode l0 [x0, x1] = 0 := Classical.byContradiction fun k => by rw [two6_bad k] at hz; exact k hz
  obtain ⟨p0, q0, h2⟩ := vc_zero hv
  have hx := q0 x0 (by simp)
  have hy := q0 x1 (by simp)
  obtain ⟨_, _, m1, _⟩ := res6_ok p0 h2 x0
  obtain ⟨_, _, m2, _⟩ := res6_ok p0 h2 x1
  have R0 := hide (fun wx (hb : Below w.heap.size w wx) => (p0.rd h0).below hb (Nat.le_refl _))
  have f0 := p0.2.2.1
  rw [tn_length] at f0
  have CM := hide (sMultN_any l0 x0 p0 h2 hx)
  have CK := hide (sMultN_any l0 x1 p0 h2 hy)
  clear hx hy hv hz q0 p0 h0
  obtain ⟨r, hr⟩ : ∃ r, r = shaB (res6 l0 x0).length (res6 l0 x1).length l0.length := ⟨_, rfl⟩
  rw [← hr]
  have e2 : ((((res6 l0 x0).length : Nat) : Int) + (((res6 l0 x1).length : Nat) : Int) == (l0.length : Int)) = r := by
    rw [hr]
    unfold shaB
    rw [Bool.eq_iff_iff]
    simp
    omega
  have HR := hide hr; clear hr
  go_enter Try.func16, Try.ntmps16
  go_wp2_with fail
  refine (CM.out _ _ (R0.out _ (Below.refl _ _))).mono ?_
  rintro e w3 ⟨r1, rfl, k2⟩
  obtain ⟨X, xc, rfl⟩ := k2.intsForm 0 rfl
  go_wp2_with fail
  refine (CK.out _ w3 (R0.out _ k2.low)).mono ?_
  rintro e w4 ⟨r2, rfl, k3⟩
  have K3 := k2.joinA k3
  clear k3 k2
  obtain ⟨Y, yc, rfl⟩ := K3.intsForm 0 rfl
  have K9 := hide K3.low; clear K3
  go_wp2
  go_ret
  exact ⟨rfl, K9.out⟩
set_option maxRecDepth 100000 in
set_option maxHeartbeats 1000000 in
theorem sIsShabat_any (u0 : Value) (l0 : List Int) (x0 x1 : Int) (_hx0 : -9223372036854775808 ≤ x0 ∧ x0 ≤ 9223372036854775807) (_hx1 : -9223372036854775808 ≤ x1 ∧ x1 ≤ 9223372036854775807) (w : World) (h0 : RdZ w u0 l0) :
    Calls Try.prog 5 #[u0, .int .i64 x0, .int .i64 x1] w fun e w' => e = .returned (shaR l0 x0 x1) ∧ Below w.heap.size w w' := by
  clear _hx0 _hx1
  obtain ⟨A, c, rfl, _⟩ := h0.form
  have CA := sTwo6_any _ l0 x0 x1 w h0
  by_cases hz : two6 l0 x0 x1 = 0
  · have CB := fun w1 (hb : Below w.heap.size w w1) => sShabat6_any _ l0 x0 x1 w1 (h0.below hb (Nat.le_refl _)) hz
    have e1 : shaR l0 x0 x1 = .tuple #[.bool (shaB (res6 l0 x0).length (res6 l0 x1).length l0.length), .int .i64 0] := by unfold shaR; rw [if_pos hz, hz]
    rw [e1]
    rw [hz] at CA
    have CA' := hide CA; clear CA
    have CB' := hide CB; clear CB e1 hz h0
    go_enter Try.func5, Try.ntmps5
    go_wp2_with fail
    refine (CA'.out).mono ?_
    rintro e w1 ⟨rfl, hb⟩
    go_wp2_with fail
    refine (CB'.out w1 hb).mono ?_
    rintro e w2 ⟨rfl, hb2⟩
    have hb3 := hide (hb.trans (hb2.mono hb.size))
    clear hb hb2
    go_wp2
    go_ret2
    exact ⟨rfl, hb3.out⟩
  · have e1 : shaR l0 x0 x1 = .tuple #[.bool false, .int .i64 (two6 l0 x0 x1)] := by unfold shaR; rw [if_neg hz]
    rw [e1]
    have hne : (two6 l0 x0 x1 != 0) = true := by simpa using hz
    generalize two6 l0 x0 x1 = cd at *
    have CA' := hide CA; clear CA e1 hz h0
    go_enter Try.func5, Try.ntmps5
    go_wp2_with fail
    refine (CA'.out).mono ?_
    rintro e w1 ⟨rfl, hb⟩
    replace hb := hide hb
    go_wp2
    go_ret2
    exact ⟨rfl, hb.out⟩
end Go.Proofs.Ytjjmjnohbebbaaa
