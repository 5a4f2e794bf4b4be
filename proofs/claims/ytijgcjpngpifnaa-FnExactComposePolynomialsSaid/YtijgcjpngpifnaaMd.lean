/- The model's division, divisors. -/
import Derived.Test.YtijgcjpngpifnaaMp
import Derived.Test.YtijgcjpngpifnaaRegI
namespace Go.Proofs.Ytijgcjpngpifnaa
open Go.RowKit

/-- what a call has made: a list of its own; what a build has made, of which nothing more is asked -/
def rOwnI (w0 : World) (l : List Nat) (L : List Part) : Value → World → Prop := fun v wx => (∃ A c, v = .slice A l.length c) ∧ Holds w0 wx (pInts v l :: L)
theorem rOwnI_stable {w0 : World} {l : List Nat} {L : List Part} (v : Value) : Stable (rOwnI w0 l L v) := fun _ _ h hb => ⟨h.1, h.2.call hb⟩
def rFree (w0 : World) (L : List Part) : Value → World → Prop := fun v wx => (∃ g, v = .slice (some ⟨g, 0, none⟩) 0 0) ∧ Holds w0 wx L
theorem rFree_stable {w0 : World} {L : List Part} (v : Value) : Stable (rFree w0 L v) := fun _ _ h hb => ⟨h.1, h.2.call hb⟩


set_option maxRecDepth 100000 in
set_option maxHeartbeats 2000000 in
theorem sDivide6_any (u v : Value) (f g : List Nat) (pf : Po f) (zf : Lz f) (pg : Po g) (zg : Lz g) (h0 : g ≠ []) (lf : f.length ≤ 1000) (lg : g.length ≤ 1000) (w : World) (hu : RdN w u f) (hv : RdN w v g) :
    Calls Try.prog 84 #[u, v] w fun e w' => ∃ q r, e = .returned (.tuple #[q, r]) ∧ Holds w w' [pInts r (remL f g)] := by
  obtain ⟨A, c, rfl, _⟩ := hu.form
  obtain ⟨B, d, rfl, _⟩ := hv.form
  have lg0 := List.length_pos_iff.2 h0
  obtain ⟨n, hn⟩ : ∃ n, g.length = n + 1 := ⟨g.length - 1, by omega⟩
  have hng : n < g.length := by omega
  have hni : (g.length : Int) - 1 = (n : Int) := by omega
  obtain ⟨a, rfl, hab, hca⟩ := hv.at hng
  have hla : nth g n = lastN g := by unfold lastN; rw [hn]; rfl
  rw [hla] at hca
  have hnw : ∀ wx, Below w.heap.size w wx → wx.cell? (a.add n) = some (.int .i64 (lastN g : Nat)) := fun wx hb => by
    obtain ⟨a', e', _, h5⟩ := (hv.below hb (Nat.le_refl _)).at hng
    cases e'
    rw [h5, hla]
  have NWF := hide hnw; clear hnw hca hab
  have hwn : IntKind.i64.wrap (n : Int) = (n : Int) := wrapN _ (by omega) (by omega)
  have HNL := hide (And.intro hn hla); clear hn hla
  have CO := hide fun wx (hb : Below w.heap.size w wx) => own6_any _ f (by omega) wx (hu.below hb (Nat.le_refl _))
  have CI := hide (sInv_any (lastN g) (lastN_lt pg))
  have CM := hide sMul_any
  have CA := hide sAdd6_any
  have MB := hide mul_bds
  have PG := hide (And.intro pg (And.intro zg h0)); clear pg zg h0
  have PF := hide pf; clear pf zf
  have HV := hide hv; clear hv hu
  have H0 := Holds.start w
  obtain ⟨i0, hi, hz0, hz1, hz2⟩ := info_parts info64
  have I0 := hide (And.intro hi (And.intro hz0 (And.intro hz1 hz2))); clear hi hz0 hz1 hz2
  go_enter Try.func84, Try.ntmps84
  go_wp2
  apply Rd.region_PJ (w0 := w) [] [] [1, 9] (.q 0 <| .q 2 <| .q 3 <| .q 4 <| .q 5 <| .q 6 <| .q 7 <| .s2 1 (.q 8 <| .q 10 <| .q 11 <| .s1 9 <| .q 12 .fin) 9 (.s1 1 <| .q 8 <| .q 10 <| .q 11 <| .q 12 .fin)) H0 (.refl _) (by kernel_rfl) (by kernel_rfl) (by kernel_rfl) (F := fun _ A c => [pInts (.slice A f.length c) f])
  case h =>
    intro K key
    iterate 7
      apply Rd.v_q
      · simp only [List.getElem?_toArray, List.getElem?_cons_zero, List.getElem?_cons_succ]; exact rfl
      · rfl
      · go_simp
      · intro wx hx
        have q1 := NWF.out wx hx.low
        unfold atG
        go_simp
        simp only [uponG]
        exact ⟨by trivial, rfl⟩
    refine ⟨?_, ?_⟩
    · skip
      refine Rd.v_sJ (rOwnI w f []) rOwnI_stable (by simp only [List.getElem?_toArray, List.getElem?_cons_zero, List.getElem?_cons_succ]; exact rfl) rfl (by go_simp) (fun wx hx hD => ?_) ?_
      · go_simp
        simp only [Rd.uponJ_eq, Rd.uponE]
        refine ⟨by trivial, (CO.out wx hx.low).mono ?_⟩
        rintro e wy ⟨v, rfl, hj⟩
        obtain ⟨A', c', hf'⟩ := hj.intsForm 0 rfl
        exact ⟨_, rfl, hx.call hj.low, ⟨A', c', hf'⟩, hx.joinA hj⟩
      rintro v ⟨_, _, ⟨A', c', rfl⟩, _⟩
      iterate 1
        apply Rd.v_q
        · simp only [List.getElem?_toArray, List.getElem?_cons_zero, List.getElem?_cons_succ]; exact rfl
        · rfl
        · go_simp
        · intro wx hx
          skip
          unfold atG
          go_simp
          simp only [uponG]
          exact ⟨by trivial, Calls.mono (CI.out wx) fun e w' h => ⟨h.1, h.2 ▸ Below.refl _ _⟩⟩
      iterate 2
        apply Rd.v_q
        · simp only [List.getElem?_toArray, List.getElem?_cons_zero, List.getElem?_cons_succ]; exact rfl
        · rfl
        · go_simp
        · intro wx hx
          skip
          unfold atG
          go_simp
          simp only [uponG]
          exact ⟨by trivial, rfl⟩
      refine Rd.v_s (rFree w [pInts (.slice A' f.length c') f]) rFree_stable (by simp only [List.getElem?_toArray, List.getElem?_cons_zero, List.getElem?_cons_succ]; exact rfl) rfl (by go_simp) (fun wx hx hD => ?_) ?_
      · go_simp
        simp only [Rd.uponE]
        exact ⟨hx.alloc _, ⟨_, rfl⟩, hD.2.alloc _⟩
      rintro v ⟨_, _, ⟨g', rfl⟩, _⟩
      iterate 1
        apply Rd.v_q
        · simp only [List.getElem?_toArray, List.getElem?_cons_zero, List.getElem?_cons_succ]; exact rfl
        · rfl
        · go_simp
        · intro wx hx
          skip
          unfold atG
          go_simp
          simp only [uponG]
          exact ⟨by trivial, rfl⟩
      rintro w' - ⟨_, hx⟩
      go_simp
      exact key g' A' c' w' hx
    · skip
      refine Rd.v_s (rFree w []) rFree_stable (by simp only [List.getElem?_toArray, List.getElem?_cons_zero, List.getElem?_cons_succ]; exact rfl) rfl (by go_simp) (fun wx hx hD => ?_) ?_
      · go_simp
        simp only [Rd.uponE]
        exact ⟨hx.alloc _, ⟨_, rfl⟩, hx.alloc _⟩
      rintro v ⟨_, _, ⟨g', rfl⟩, _⟩
      refine Rd.v_sJ (rOwnI w f []) rOwnI_stable (by simp only [List.getElem?_toArray, List.getElem?_cons_zero, List.getElem?_cons_succ]; exact rfl) rfl (by go_simp) (fun wx hx hD => ?_) ?_
      · go_simp
        simp only [Rd.uponJ_eq, Rd.uponE]
        refine ⟨by trivial, (CO.out wx hx.low).mono ?_⟩
        rintro e wy ⟨v, rfl, hj⟩
        obtain ⟨A', c', hf'⟩ := hj.intsForm 0 rfl
        exact ⟨_, rfl, hx.call hj.low, ⟨A', c', hf'⟩, hx.joinA hj⟩
      rintro v ⟨_, _, ⟨A', c', rfl⟩, _⟩
      iterate 1
        apply Rd.v_q
        · simp only [List.getElem?_toArray, List.getElem?_cons_zero, List.getElem?_cons_succ]; exact rfl
        · rfl
        · go_simp
        · intro wx hx
          skip
          unfold atG
          go_simp
          simp only [uponG]
          exact ⟨by trivial, Calls.mono (CI.out wx) fun e w' h => ⟨h.1, h.2 ▸ Below.refl _ _⟩⟩
      iterate 3
        apply Rd.v_q
        · simp only [List.getElem?_toArray, List.getElem?_cons_zero, List.getElem?_cons_succ]; exact rfl
        · rfl
        · go_simp
        · intro wx hx
          skip
          unfold atG
          go_simp
          simp only [uponG]
          exact ⟨by trivial, rfl⟩
      rintro w' - ⟨_, hx⟩
      go_simp
      exact key g' A' c' w' hx
  intro gq0 A0 k0 w1 H1
  clear H0
  go_simp
  by_cases hge : g.length ≤ f.length
  · have d1 : decide ((g.length : Int) ≤ (f.length : Int)) = true := decide_eq_true (by omega)
    obtain ⟨m, hm⟩ : ∃ m, m = f.length - g.length + 1 := ⟨_, rfl⟩
    have hmi : (f.length : Int) - (g.length : Int) + 1 = (m : Int) := by omega
    have hmb : m ≤ 1001 ∧ 0 < m := by omega
    have HM := hide hm; clear hm
    go_wp2_with (refine makeH rfl 22 _ _ rfl 2 i0 (.int .i64 0) 8 Try.underlying22 I0.out.1 I0.out.2.1 I0.out.2.2.1 I0.out.2.2.2 rfl m .i64 .i64 rfl rfl (by omega) (by decide) H1 ?_)
    intro w2 h2
    have H2 : Holds w w2 [pInts (.slice (some ⟨w1.heap.size, 0, none⟩) m m) (List.replicate m 0), pInts (.slice A0 f.length k0) f] := by
      unfold pInts
      rw [← nums_zero, List.length_replicate]
      exact h2
    clear h2 H1
    generalize w1.heap.size = G1 at *
    go_wp2
    go_loopw [6] (fun s wr => ∃ l qs : List Nat, l.length ≤ f.length ∧ qs.length = m ∧ Po l ∧ remL l g = remL f g ∧ Holds w wr [pInts (.slice (some ⟨G1, 0, none⟩) m m) qs, pInts s l]) (fun s _ => lenV s)
    case atStart => exact ⟨f, List.replicate m 0, Nat.le_refl _, by simp, PF.out, rfl, H2⟩
    case round =>
      clear H2
      obtain ⟨l, qs, hl, hqs, pl, hr, hH⟩ := hrel
      obtain ⟨R, rc, rfl, hcr⟩ := hH.intsCap 1 rfl
      have HQS := hide hqs; clear hqs
      have PL := hide pl
      have HR := hide hr; clear hr
      by_cases hlt : g.length ≤ l.length
      · have d0 : decide ((g.length : Int) ≤ (l.length : Int)) = true := decide_eq_true (by omega)
        obtain ⟨off, hoff⟩ : ∃ off, off = l.length - g.length := ⟨_, rfl⟩
        have hsub : (l.length : Int) - (g.length : Int) = (off : Int) := by omega
        have hoffm : off < m := by have := HM.out; omega
        obtain ⟨q, hq⟩ : ∃ q, l.length = q + 1 := ⟨l.length - 1, by omega⟩
        have hql : q < l.length := by omega
        have hqi : (l.length : Int) - 1 = (q : Int) := by omega
        obtain ⟨b, rfl, _, c1⟩ := (hH.intsRd 1 rfl (by omega)).at hql
        have hlast : nth l q = lastN l := by unfold lastN; rw [hq]; rfl
        rw [hlast] at c1
        have hlt2 := lastN_lt pl
        have HQ := hide (And.intro hq hlast); clear hq hlast
        have hnx : remL (stepR g l) g = remL f g := (remL_step PG.out.1 PG.out.2.1 PG.out.2.2 PL.out hlt).trans HR.out
        have hlen := stepR_len PG.out.1 PG.out.2.1 PG.out.2.2 PL.out hlt
        have hpo := stepR_po (g := g) PL.out hlt
        have hst := stepR_addL PG.out.1 PG.out.2.1 PG.out.2.2 PL.out hlt
        have hiv := invN_lt (lastN g)
        have hfac : lastN l * invN (lastN g) % 10007 < 10007 := Nat.mod_lt _ (by decide)
        have hgz : Po (List.replicate (l.length - g.length) 0 ++ g) := fun x hx => by
          rcases List.mem_append.1 hx with c | c
          · rw [(List.mem_replicate.1 c).2]; decide
          · exact PG.out.1 x c
        rw [← hoff] at hst hgz
        have hgl : (List.replicate off 0 ++ g).length ≤ 2000 := by simp; omega
        have hgll : (List.replicate off 0 ++ g).length = l.length := by simp; omega
        obtain ⟨bb1, bb2⟩ := MB.out (lastN l) (invN (lastN g)) hlt2 hiv
        have HN := hide (And.intro hnx (And.intro hlen (And.intro hpo (And.intro hst (And.intro hgz (And.intro hgl hgll)))))); clear hnx hlen hpo hst hgz hgl hgll pl
        have HOFF := hide hoff; clear hoff
        obtain ⟨gq, cq, hA, _, _, _, _, hcell, hfr⟩ := row_at (hH.row 0 rfl) (by rw [HQS.out]; omega)
        injection hA with hA hA2 hA3
        clear hA2 hA3
        injection hA with hA
        injection hA with hA hA2 hA3
        clear hA2 hA3
        subst hA
        have f1 := hfr off
        have c2 := hcell off _ (nums_at (show off < qs.length by rw [HQS.out]; exact hoffm))
        generalize qs[off]'_ = old at c2
        clear hcell hfr
        have HCM := hide (CM.out (lastN l) (invN (lastN g)) hlt2 hiv)
        generalize hfa : lastN l * invN (lastN g) % 10007 = fac at *
        have hneg : -10007 ≤ -(fac : Int) ∧ -(fac : Int) ≤ 10007 := by omega
        have h2 : Holds w (wr.setCell ⟨G1, off, none⟩ (.int .i64 (fac : Nat))) [pInts (.slice (some ⟨G1, 0, none⟩) m m) (qs.set off fac), pInts (.slice (some b) l.length rc) l] := hH.putI 0 rfl off fac
        replace h2 := hide h2
        have hwf : IntKind.i64.wrap (-(fac : Int)) = -(fac : Int) := wrapN _ (by omega) (by omega)
        have hneg' := hide hneg; clear hneg hfac hH
        have HFA := hide hfa; clear hfa
        go_wp2_with fail
        refine (HCM.out _).mono ?_
        rintro e w3 ⟨rfl, rfl⟩
        simp only []
        go_wp2_with (refine makeH rfl 22 _ _ rfl 2 i0 (.int .i64 0) 8 Try.underlying22 I0.out.1 I0.out.2.1 I0.out.2.2.1 I0.out.2.2.2 rfl off .i64 .i64 rfl rfl (by omega) (by decide) h2.out ?_)
        intro w4 h4
        have h5 : Holds w w4 [pRow (.slice (some ⟨wr.heap.size, 0, none⟩) off off) 2 1 (List.replicate off 0).length (nums (List.replicate off 0)), pInts (.slice (some ⟨G1, 0, none⟩) m m) (qs.set off fac), pInts (.slice (some b) l.length rc) l] := by
          rw [← nums_zero, List.length_replicate]; exact h4
        clear h4 h2
        have hgr := HV.out.below h5.low (Nat.le_refl _)
        go_wp2_with (at_builtin; refine appRd 22 2 Try.underlying22 info64 h5 0 rfl hgr (by simp; omega) rfl _ _ rfl rfl rfl ?_)
        intro v' w6 h6
        have h7 : Holds w w6 [pInts v' (List.replicate off 0 ++ g), pInts (.slice (some ⟨G1, 0, none⟩) m m) (qs.set off fac), pInts (.slice (some b) l.length rc) l] := by
          unfold pInts
          rw [List.length_append, List.length_replicate]
          exact h6
        clear h6 h5
        have hA := CA.out _ v' l (List.replicate off 0 ++ g) (-(fac : Int)) hneg'.out PL.out HN.out.2.2.2.2.1 (by omega) (by have := HN.out.2.2.2.2.2.2; omega) w6 (h7.intsRd 2 rfl (by omega)) (h7.intsRd 0 rfl (by have := HN.out.2.2.2.2.2.1; omega))
        rw [HN.out.2.2.2.1] at hA
        have HA := hide hA; clear hA hgr
        go_wp2_with fail
        refine HA.out.mono ?_
        rintro e w8 ⟨r, rfl, h8⟩
        obtain ⟨R8, c8, rfl, hr8⟩ := h8.intsCap 0 rfl
        have h9 : Holds w w8 [pInts (.slice (some ⟨G1, 0, none⟩) m m) (qs.set off fac), pInts (.slice R8 (stepR g l).length c8) (stepR g l)] := ((h7.joinA h8).sub (show List.Sublist [pInts (.slice R8 (stepR g l).length c8) (stepR g l), pInts (.slice (some ⟨G1, 0, none⟩) m m) (qs.set off fac)] _ from .cons_cons _ (.cons _ (.cons_cons _ (List.nil_sublist _))))).perm (List.Perm.swap _ _ _)
        have H9 := hide h9; clear h9 h8 h7
        go_wp2
        go_roundw
        case rel => exact ⟨stepR g l, qs.set off fac, by have := HN.out.2.1; omega, by rw [List.length_set]; exact HQS.out, HN.out.2.2.1, HN.out.1, H9.out⟩
        case measure => have := HN.out.2.1; simp [lenV]; omega
      · have d0 : decide ((g.length : Int) ≤ (l.length : Int)) = false := decide_eq_false (by omega)
        have hst := remL_stop (f := l) (g := g) (by omega)
        rw [HR.out] at hst
        have h5 : Holds w wr [pInts (.slice R l.length rc) (remL f g)] := by rw [hst]; exact hH.tail
        have H5 := hide h5; clear h5 hH hst pl
        go_wp2
        go_ret2
        exact ⟨_, _, rfl, H5.out⟩
  · have d1 : decide ((g.length : Int) ≤ (f.length : Int)) = false := decide_eq_false (by omega)
    have hst := remL_stop (f := f) (g := g) (by omega)
    have hr : Holds w w1 [pInts (.slice A0 f.length k0) (remL f g)] := by rw [hst]; exact H1
    have HR := hide hr; clear hr hst H1
    go_wp2
    go_loopw [6] (fun s wr => s = .slice A0 f.length k0 ∧ wr = w1) (fun _ _ => 0)
    case atStart => exact ⟨rfl, rfl⟩
    case round =>
      obtain ⟨rfl, rfl⟩ := hrel
      go_wp2
      go_ret2
      exact ⟨_, _, rfl, HR.out⟩

set_option maxRecDepth 100000 in
set_option maxHeartbeats 2000000 in
theorem sMonic6_any (u : Value) (f : List Nat) (pf : Po f) (h0 : 0 < f.length) (lf : f.length ≤ 1000) (w : World) (hu : RdN w u f) :
    Calls Try.prog 85 #[u] w fun e w' => ∃ r, e = .returned r ∧ Holds w w' [pInts r (addL [] f (invN (lastN f) : Nat))] := by
  obtain ⟨A, c, rfl, _⟩ := hu.form
  obtain ⟨n, hn⟩ : ∃ n, f.length = n + 1 := ⟨f.length - 1, by omega⟩
  have hng : n < f.length := by omega
  have hni : (f.length : Int) - 1 = (n : Int) := by omega
  obtain ⟨a, rfl, _, c1⟩ := hu.at hng
  have hla : nth f n = lastN f := by unfold lastN; rw [hn]; rfl
  rw [hla] at c1
  have HNL := hide (And.intro hn hla); clear hn hla
  have hiv := invN_lt (lastN f)
  have CI := hide (sInv_any (lastN f) (lastN_lt pf))
  have CA := hide (sAdd6_any (.slice none 0 0) _ [] f (invN (lastN f) : Nat) (by omega) Po.nil pf (by simp) lf w (RdN.nil w 0) hu)
  clear hu pf
  generalize lastN f = x at *
  go_enter Try.func85, Try.ntmps85
  go_wp2_with fail
  refine (CI.out _).mono ?_
  rintro e w1 ⟨rfl, rfl⟩
  go_wp2_with fail
  refine CA.out.mono ?_
  rintro e w1 ⟨r, rfl, h1⟩
  go_wp2
  go_ret
  exact ⟨_, rfl, h1⟩

set_option maxRecDepth 100000 in
set_option maxHeartbeats 2000000 in
theorem sCommon6_any (u v : Value) (f g : List Nat) (pf : Po f) (zf : Lz f) (pg : Po g) (zg : Lz g) (h0 : f ≠ [] ∨ g ≠ []) (lf : f.length ≤ 1000) (lg : g.length ≤ 1000) (w : World) (hu : RdN w u f) (hv : RdN w v g) :
    Calls Try.prog 69 #[u, v] w fun e w' => ∃ r, e = .returned r ∧ Holds w w' [pInts r (comL f g)] := by
  obtain ⟨A, c, rfl, _⟩ := hu.form
  obtain ⟨B, d, rfl, _⟩ := hv.form
  have CR := hide sDivide6_any
  have CS := hide sMonic6_any
  obtain ⟨q1, q2, q3, _, _⟩ := gcd_all _ f g (Nat.le_refl _) pf zf pg zg
  obtain ⟨_, _, _, _, q4⟩ := com_all pf zf pg zg h0
  have Q := hide (And.intro q1 (And.intro q2 (And.intro (q3 h0) q4))); clear q1 q2 q3 q4 h0
  have PF := hide (And.intro pf zf); clear pf zf
  have PG := hide (And.intro pg zg); clear pg zg
  have HU := hide hu; clear hu
  have HV := hide hv; clear hv
  go_enter Try.func69, Try.ntmps69
  go_wp2
  go_loopw [0, 1] (fun s t wr => ∃ a b : List Nat, a.length ≤ 1000 ∧ b.length ≤ 1000 ∧ (Po a ∧ Lz a) ∧ (Po b ∧ Lz b) ∧ gcdE a b = gcdE f g ∧ RdN wr s a ∧ RdN wr t b ∧ Below w.heap.size w wr) (fun _ t _ => lenV t)
  case atStart => exact ⟨f, g, lf, lg, PF.out, PG.out, rfl, HU.out, HV.out, Below.refl _ _⟩
  case round =>
    obtain ⟨a, b, la, lb, pa, pb, hq, hs, ht, hb⟩ := hrel
    obtain ⟨R, rc, rfl, _⟩ := hs.form
    obtain ⟨T, tc, rfl, _⟩ := ht.form
    have HA := hide pa; clear pa
    have HB := hide pb; clear pb
    have HQ := hide hq; clear hq
    have HS := hide hs; clear hs
    have HT := hide ht; clear ht
    by_cases hlt : 0 < b.length
    · have d0 : decide ((0 : Int) < (b.length : Int)) = true := decide_eq_true (by omega)
      have hbn : b ≠ [] := List.length_pos_iff.1 hlt
      have hC := CR.out _ _ a b HA.out.1 HA.out.2 HB.out.1 HB.out.2 hbn la lb _ HS.out HT.out
      obtain ⟨r1, r2, r3⟩ := rem_all HB.out.1 HB.out.2 hbn _ a (Nat.le_refl _) HA.out.1 HA.out.2
      have hnx := (gcdE_step HA.out.1 HA.out.2 HB.out.1 HB.out.2 hbn).trans HQ.out
      have HN := hide (And.intro hnx (And.intro r1 (And.intro r2 r3))); clear hnx r1 r2 r3 hbn
      have HC := hide hC; clear hC
      go_wp2_with fail
      refine HC.out.mono ?_
      rintro e w3 ⟨q, r, rfl, h3⟩
      obtain ⟨X, xc, rfl, _⟩ := h3.intsCap 0 rfl
      have hb3 := hb.trans (h3.low.mono hb.size)
      have H3 := hide (And.intro h3 hb3); clear h3 hb3 hb
      go_wp2
      go_roundw
      case rel => exact ⟨b, remL a b, lb, by have := HN.out.2.2.2; omega, HB.out, ⟨HN.out.2.1, HN.out.2.2.1⟩, HN.out.1, HT.out.below H3.out.1.low (Nat.le_refl _), H3.out.1.intsRd 0 rfl (by have := HN.out.2.2.2; omega), H3.out.2⟩
      case measure => have := HN.out.2.2.2; simp [lenV]; omega
    · have d0 : decide ((0 : Int) < (b.length : Int)) = false := decide_eq_false (by omega)
      have hbn : b = [] := List.eq_nil_of_length_eq_zero (by omega)
      have hq := HQ.out
      rw [hbn, gcdE_nil] at hq
      have hq1 := Q.out.1
      have hq2 := Q.out.2.2.1
      have hq3 := Q.out.2.2.2
      rw [← hq] at hq1 hq2 hq3
      have hcs := CS.out (.slice R a.length rc) a hq1 (List.length_pos_iff.2 hq2) la wr HS.out
      rw [← hq3] at hcs
      have H3 := hide hcs; clear hcs hq hq1 hq2 hq3 hbn
      go_wp2_with fail
      refine H3.out.mono ?_
      rintro e w3 ⟨r, rfl, h3⟩
      have h4 : Holds w w3 [pInts r (comL f g)] := ((show Holds w wr [] from ⟨hb, by simp, List.Pairwise.nil⟩).joinA h3)
      have H4 := hide h4; clear h4 h3
      go_wp2
      go_ret
      exact ⟨_, rfl, H4.out⟩
end Go.Proofs.Ytijgcjpngpifnaa

