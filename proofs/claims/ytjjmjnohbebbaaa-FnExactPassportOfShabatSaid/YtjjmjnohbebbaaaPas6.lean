/- PassportOfShabat. -/
import Derived.Test.YtjjmjnohbebbaaaSha6
namespace Go.Proofs.Ytjjmjnohbebbaaa
open Go.RowKit

noncomputable def pasR (l : List Int) (a b : Int) : List (List Nat) := if two6 l a b = 0 ∧ shaB (res6 l a).length (res6 l b).length l.length = true then [res6 l a, res6 l b, [l.length - 1]] else []
noncomputable def pasC (l : List Int) (a b : Int) : Int := if two6 l a b = 0 then (if shaB (res6 l a).length (res6 l b).length l.length = true then 0 else 5) else two6 l a b
theorem two6_zero {l : List Int} {a b : Int} (h : two6 l a b = 0) : vcode l [a, b] = 0 := Classical.byContradiction fun k => by rw [two6_bad k] at h; exact k h
theorem pasR_bd (l : List Int) (a b : Int) : total (pasR l a b) ≤ 1000000 ∧ (pasR l a b).length ≤ 1000000 := by
  unfold pasR
  split
  · rename_i h
    obtain ⟨p, _, h2⟩ := vc_zero (two6_zero h.1)
    have h3 := (res6_ok p h2 a).2.2.1
    have h4 := (res6_ok p h2 b).2.2.1
    refine ⟨?_, by simp⟩
    unfold total
    simp
    omega
  · exact ⟨by decide, by decide⟩
set_option maxRecDepth 100000 in
set_option maxHeartbeats 1000000 in
theorem passportOfShabat_any (u0 : Value) (l0 : List Int) (x0 x1 : Int) (_hx0 : -9223372036854775808 ≤ x0 ∧ x0 ≤ 9223372036854775807) (_hx1 : -9223372036854775808 ≤ x1 ∧ x1 ≤ 9223372036854775807) (w : World) (h0 : RdZ w u0 l0) :
    Calls Try.prog 10 #[u0, .int .i64 x0, .int .i64 x1] w fun e w' => ∃ v, e = .returned (.tuple #[v, .int .i64 (pasC l0 x0 x1)]) ∧ Below w.heap.size w w' ∧ Own2 w.heap.size w' v (pasR l0 x0 x1) := by
  clear _hx0 _hx1
  obtain ⟨A, c, rfl, _⟩ := h0.form
  by_cases hz : two6 l0 x0 x1 = 0
  · have hv := two6_zero hz
    obtain ⟨p0, q0, h2⟩ := vc_zero hv
    obtain ⟨_, _, m1, _⟩ := res6_ok p0 h2 x0
    obtain ⟨_, _, m2, _⟩ := res6_ok p0 h2 x1
    have f0 := p0.2.2.1
    rw [tn_length] at f0
    have hl2 : 0 < l0.length := by omega
    have hni : ((l0.length - 1 : Nat) : Int) = (l0.length : Int) - 1 := by omega
    have CB := both6p_ok _ l0 x0 x1 w h0 hz
    rcases hsb : shaB (res6 l0 x0).length (res6 l0 x1).length l0.length with _ | _
    · have e1 : pasC l0 x0 x1 = 5 := by unfold pasC; rw [if_pos hz, hsb]; rfl
      have e2 : pasR l0 x0 x1 = [] := by unfold pasR; rw [hsb]; simp
      rw [e1, e2]
      clear e1 e2
      clear hz hv p0 q0 h0
      generalize res6 l0 x0 = La at *
      generalize res6 l0 x1 = Lb at *
      have CB' := hide CB; clear CB
      have CS := hide isShabat6_any
      go_enter Try.func10, Try.ntmps10
      go_wp2_with fail
      refine (CB'.out).mono ?_
      rintro e w1 ⟨v, vs, rfl, hl, K⟩
      have hlen3 : vs.length = [La, Lb, [l0.length - 1]].length := hl
      obtain ⟨g, cG, A1, c1, hv1, _, a1, _⟩ := K.rowAt hlen3 0 rfl (fun i => rfl) (i := 0) (by simp)
      obtain ⟨g', cG', A2, c2, hv2, _, a2, _⟩ := K.rowAt hlen3 0 rfl (fun i => rfl) (i := 1) (by simp)
      obtain ⟨g'', cG'', A3, c3, hv3, _, a3, k3⟩ := K.rowAt hlen3 0 rfl (fun i => rfl) (i := 2) (by simp)
      rw [hv1] at hv2 hv3
      injection hv2 with hv2 hq1 hq2
      clear hq1 hq2
      injection hv2 with hv2
      injection hv2 with hv2 hq1 hq2
      clear hq1 hq2
      injection hv3 with hv3 hq1 hq2
      clear hq1 hq2
      injection hv3 with hv3
      injection hv3 with hv3 hq1 hq2
      clear hq1 hq2
      subst hv2 hv3 hv1
      obtain ⟨g3, c4, hA3, _, a4, _⟩ := K.ints (2 + (0 + 1)) k3 (k := 0) (by simp)
      injection hA3 with hA3 hq1 hq2
      clear hq1 hq2
      subst hA3
      rw [hl] at K ⊢
      have hs := CS.out g A1 A2 (La).length (Lb).length c1 c2 g3 c3 cG l0.length (by omega) (by omega) (by omega) (by omega) w1 a1 a2 a3 (by rw [← hni]; exact a4)
      rw [hsb] at hs
      have HS := hide hs
      have HL := hide hl
      clear hs a1 a2 a3 a4 k3 hlen3 hl hni
      go_wp2_with fail
      refine (HS.out).mono ?_
      rintro e w2 ⟨rfl, hb⟩
      have K9 := hide (K.call hb).low; clear K hb
      go_wp2
      go_ret2
      exact ⟨_, rfl, K9.out, Own2.nil _ _⟩
    · have e1 : pasC l0 x0 x1 = 0 := by unfold pasC; rw [if_pos hz, hsb]; rfl
      have e2 : pasR l0 x0 x1 = [res6 l0 x0, res6 l0 x1, [l0.length - 1]] := by unfold pasR; rw [hsb, if_pos ⟨hz, rfl⟩]
      rw [e1, e2]
      clear e1 e2
      clear hz hv p0 q0 h0
      generalize res6 l0 x0 = La at *
      generalize res6 l0 x1 = Lb at *
      have CB' := hide CB; clear CB
      have CS := hide isShabat6_any
      go_enter Try.func10, Try.ntmps10
      go_wp2_with fail
      refine (CB'.out).mono ?_
      rintro e w1 ⟨v, vs, rfl, hl, K⟩
      have hlen3 : vs.length = [La, Lb, [l0.length - 1]].length := hl
      obtain ⟨g, cG, A1, c1, hv1, _, a1, _⟩ := K.rowAt hlen3 0 rfl (fun i => rfl) (i := 0) (by simp)
      obtain ⟨g', cG', A2, c2, hv2, _, a2, _⟩ := K.rowAt hlen3 0 rfl (fun i => rfl) (i := 1) (by simp)
      obtain ⟨g'', cG'', A3, c3, hv3, _, a3, k3⟩ := K.rowAt hlen3 0 rfl (fun i => rfl) (i := 2) (by simp)
      rw [hv1] at hv2 hv3
      injection hv2 with hv2 hq1 hq2
      clear hq1 hq2
      injection hv2 with hv2
      injection hv2 with hv2 hq1 hq2
      clear hq1 hq2
      injection hv3 with hv3 hq1 hq2
      clear hq1 hq2
      injection hv3 with hv3
      injection hv3 with hv3 hq1 hq2
      clear hq1 hq2
      subst hv2 hv3 hv1
      obtain ⟨g3, c4, hA3, _, a4, _⟩ := K.ints (2 + (0 + 1)) k3 (k := 0) (by simp)
      injection hA3 with hA3 hq1 hq2
      clear hq1 hq2
      subst hA3
      rw [hl] at K ⊢
      have hs := CS.out g A1 A2 (La).length (Lb).length c1 c2 g3 c3 cG l0.length (by omega) (by omega) (by omega) (by omega) w1 a1 a2 a3 (by rw [← hni]; exact a4)
      rw [hsb] at hs
      have HS := hide hs
      have HL := hide hl
      clear hs a1 a2 a3 a4 k3 hlen3 hl hni
      go_wp2_with fail
      refine (HS.out).mono ?_
      rintro e w2 ⟨rfl, hb⟩
      have K2 := K.call hb
      clear hb K
      have O2 : Own2 w.heap.size w2 (.slice (some ⟨g, 0, none⟩) 3 cG) [La, Lb, [l0.length - 1]] := Holds.own2 (A := []) (by rw [HL.out]; rfl) K2
      have K9 := hide (And.intro K2.low O2); clear K2 O2
      go_wp2
      go_ret2
      exact ⟨_, rfl, K9.out.1, K9.out.2⟩
  · have e1 : pasC l0 x0 x1 = two6 l0 x0 x1 := by unfold pasC; rw [if_neg hz]
    have e2 : pasR l0 x0 x1 = [] := by unfold pasR; rw [if_neg (fun h => hz h.1)]
    rw [e1, e2]
    clear e1 e2
    have CB := both6p_bad _ l0 x0 x1 w h0 hz
    have hne : (two6 l0 x0 x1 != 0) = true := by simpa using hz
    generalize two6 l0 x0 x1 = cd at *
    have CB' := hide CB; clear CB hz h0
    go_enter Try.func10, Try.ntmps10
    go_wp2_with fail
    refine (CB'.out).mono ?_
    rintro e w1 ⟨rfl, hb⟩
    replace hb := hide hb
    go_wp2
    go_ret2
    exact ⟨_, rfl, hb.out, Own2.nil _ _⟩
set_option maxRecDepth 100000 in
set_option maxHeartbeats 1000000 in
theorem sPassportOfShabat_any (u0 : Value) (l0 : List Int) (x0 x1 : Int) (_hx0 : -9223372036854775808 ≤ x0 ∧ x0 ≤ 9223372036854775807) (_hx1 : -9223372036854775808 ≤ x1 ∧ x1 ≤ 9223372036854775807) (w : World) (h0 : RdZ w u0 l0) :
    Calls Try.prog 9 #[u0, .int .i64 x0, .int .i64 x1] w fun e w' => ∃ v, e = .returned (.tuple #[v, .int .i64 (pasC l0 x0 x1)]) ∧ Below w.heap.size w w' ∧ Own2 w.heap.size w' v (pasR l0 x0 x1) := by
  clear _hx0 _hx1
  obtain ⟨A, c, rfl, _⟩ := h0.form
  have CA := sTwo6_any _ l0 x0 x1 w h0
  by_cases hz : two6 l0 x0 x1 = 0
  · have hv := two6_zero hz
    obtain ⟨p0, q0, h2⟩ := vc_zero hv
    obtain ⟨_, _, m1, _⟩ := res6_ok p0 h2 x0
    obtain ⟨_, _, m2, _⟩ := res6_ok p0 h2 x1
    have f0 := p0.2.2.1
    rw [tn_length] at f0
    have hl2 : 0 < l0.length := by omega
    have hni : ((l0.length - 1 : Nat) : Int) = (l0.length : Int) - 1 := by omega
    have CB := fun w1 (hb : Below w.heap.size w w1) => sShabat6_any _ l0 x0 x1 w1 (h0.below hb (Nat.le_refl _)) hz
    rcases hsb : shaB (res6 l0 x0).length (res6 l0 x1).length l0.length with _ | _
    · have e1 : pasC l0 x0 x1 = 5 := by unfold pasC; rw [if_pos hz, hsb]; rfl
      have e2 : pasR l0 x0 x1 = [] := by unfold pasR; rw [hsb]; simp
      rw [e1, e2]
      clear e1 e2
      have R0 := hide (fun wx (hb : Below w.heap.size w wx) => (p0.rd h0).below hb (Nat.le_refl _))
      have CM := hide (sMultN_any l0 x0 p0 h2 (q0 x0 (by simp)))
      have CK := hide (sMultN_any l0 x1 p0 h2 (q0 x1 (by simp)))
      rw [hz] at CA
      rw [hsb] at CB
      clear hz hv p0 q0 h0
      generalize res6 l0 x0 = La at *
      generalize res6 l0 x1 = Lb at *
      have CA' := hide CA; clear CA
      have CB' := hide CB; clear CB
      clear hni
      go_enter Try.func9, Try.ntmps9
      go_wp2_with fail
      refine (CA'.out).mono ?_
      rintro e w1 ⟨rfl, hb⟩
      go_wp2_with fail
      refine (CB'.out w1 hb).mono ?_
      rintro e w2 ⟨rfl, hb2⟩
      have b2 := hide (hb.trans (hb2.mono hb.size))
      clear hb hb2
      go_wp2
      go_ret2
      exact ⟨_, rfl, b2.out, Own2.nil _ _⟩
    · have e1 : pasC l0 x0 x1 = 0 := by unfold pasC; rw [if_pos hz, hsb]; rfl
      have e2 : pasR l0 x0 x1 = [res6 l0 x0, res6 l0 x1, [l0.length - 1]] := by unfold pasR; rw [hsb, if_pos ⟨hz, rfl⟩]
      rw [e1, e2]
      clear e1 e2
      have R0 := hide (fun wx (hb : Below w.heap.size w wx) => (p0.rd h0).below hb (Nat.le_refl _))
      have CM := hide (sMultN_any l0 x0 p0 h2 (q0 x0 (by simp)))
      have CK := hide (sMultN_any l0 x1 p0 h2 (q0 x1 (by simp)))
      rw [hz] at CA
      rw [hsb] at CB
      clear hz hv p0 q0 h0
      generalize res6 l0 x0 = La at *
      generalize res6 l0 x1 = Lb at *
      have CA' := hide CA; clear CA
      have CB' := hide CB; clear CB
      go_enter Try.func9, Try.ntmps9
      go_wp2_with fail
      refine (CA'.out).mono ?_
      rintro e w1 ⟨rfl, hb⟩
      go_wp2_with fail
      refine (CB'.out w1 hb).mono ?_
      rintro e w2 ⟨rfl, hb2⟩
      have b2 := hb.trans (hb2.mono hb.size)
      clear hb hb2
      go_wp2_with fail
      refine (CM.out _ w2 (R0.out _ b2)).mono ?_
      rintro e w3 ⟨r1, rfl, k1⟩
      have K1 := (show Holds w w2 [] from ⟨b2, by simp, List.Pairwise.nil⟩).joinA k1
      clear k1
      go_wp2_with fail
      refine (CK.out _ w3 (R0.out _ K1.low)).mono ?_
      rintro e w4 ⟨r2, rfl, k2⟩
      have K3 := K1.joinA k2
      clear k2 K1 b2
      obtain ⟨A2, b2, rfl⟩ := K3.intsForm 0 rfl
      obtain ⟨A1, b1, rfl⟩ := K3.intsForm 1 rfl
      have K4 : Holds w _ [pInts (.slice (some ⟨w4.heap.size, 0, none⟩) 1 1) [l0.length - 1], pInts (.slice A2 Lb.length b2) Lb, pInts (.slice A1 La.length b1) La] := K3.rowNew #[.int .i64 ((l0.length - 1 : Nat) : Int)] 2 1 1 w4.heap.size rfl rfl (by decide)
      have K5 := K4.rowNew #[.slice A1 La.length b1, .slice A2 Lb.length b2, .slice (some ⟨w4.heap.size, 0, none⟩) 1 1] 22 1 3 (w4.heap.size + 1) (by simp) rfl (by decide)
      have K6 : Holds w _ [pVals (.slice (some ⟨w4.heap.size + 1, 0, none⟩) 3 3) [.slice A1 La.length b1, .slice A2 Lb.length b2, .slice (some ⟨w4.heap.size, 0, none⟩) 1 1], pInts (.slice (some ⟨w4.heap.size, 0, none⟩) 1 1) [l0.length - 1], pInts (.slice A2 Lb.length b2) Lb, pInts (.slice A1 La.length b1) La] := K5
      replace K6 := K6.perm (List.Perm.cons _ ((List.Perm.swap (pInts (.slice A2 Lb.length b2) Lb) (pInts (.slice (some ⟨w4.heap.size, 0, none⟩) 1 1) [l0.length - 1]) [pInts (.slice A1 La.length b1) La]).trans ((List.Perm.cons (pInts (.slice A2 Lb.length b2) Lb) (List.Perm.swap (pInts (.slice A1 La.length b1) La) (pInts (.slice (some ⟨w4.heap.size, 0, none⟩) 1 1) [l0.length - 1]) [])).trans (List.Perm.swap (pInts (.slice A1 La.length b1) La) (pInts (.slice A2 Lb.length b2) Lb) [pInts (.slice (some ⟨w4.heap.size, 0, none⟩) 1 1) [l0.length - 1]]))))
      have hO := Holds.own2 (A := []) (vs := [.slice A1 La.length b1, .slice A2 Lb.length b2, .slice (some ⟨w4.heap.size, 0, none⟩) 1 1]) (ls := [La, Lb, [l0.length - 1]]) rfl K6
      rw [hni] at hO
      have K7 := K6.low
      rw [hni] at K7
      have K9 := hide (And.intro K7 hO); clear K7 K6 K5 K4 K3 hO hni
      go_wp2
      go_ret2
      exact ⟨_, rfl, K9.out.1, K9.out.2⟩
  · have e1 : pasC l0 x0 x1 = two6 l0 x0 x1 := by unfold pasC; rw [if_neg hz]
    have e2 : pasR l0 x0 x1 = [] := by unfold pasR; rw [if_neg (fun h => hz h.1)]
    rw [e1, e2]
    clear e1 e2
    have hne : (two6 l0 x0 x1 == 0) = false := by simpa using hz
    have hne2 : (two6 l0 x0 x1 != 0) = true := by simpa using hz
    generalize two6 l0 x0 x1 = cd at *
    have CA' := hide CA; clear CA hz h0
    go_enter Try.func9, Try.ntmps9
    go_wp2_with fail
    refine (CA'.out).mono ?_
    rintro e w1 ⟨rfl, hb⟩
    replace hb := hide hb
    go_wp2
    go_ret2
    exact ⟨_, rfl, hb.out, Own2.nil _ _⟩
end Go.Proofs.Ytjjmjnohbebbaaa
