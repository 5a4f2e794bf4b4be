/- The program's derivatives, remainders, divisors. -/
import Derived.Test.YtijgcjpngpifnaaPmu
namespace Go.Proofs.Ytijgcjpngpifnaa
open Go.RowKit

/-- the derivative, of the first k numbers -/
def dpN (f : List Nat) (k : Nat) : List Nat := (List.range (k - 1)).map fun i => nth f (i + 1) * (i + 1) % 10007
theorem dpN_length (f : List Nat) (k : Nat) : (dpN f k).length = k - 1 := by simp [dpN]
theorem dpN_succ (f : List Nat) {k : Nat} (h : 0 < k) : dpN f (k + 1) = dpN f k ++ [nth f k * k % 10007] := by
  unfold dpN
  rw [show k + 1 - 1 = (k - 1) + 1 by omega, List.range_succ, List.map_append, List.map_singleton, show k - 1 + 1 = k by omega]
set_option maxRecDepth 100000 in
set_option maxHeartbeats 1000000 in
theorem derivative6_any (v : Value) (f : List Nat) (pf : Po f) (lf : f.length ≤ 1000) (w : World) (hv : RdN w v f) :
    Calls Try.prog 59 #[v] w fun e w' => ∃ r, e = .returned r ∧ Holds w w' [pPo r (dervL f)] := by
  obtain ⟨A, c, rfl, _⟩ := hv.form
  have HV := hide hv; clear hv
  have PF := hide pf; clear pf
  have CT := hide resTimes_any
  have H0 : Holds w w [pRow (.slice none 0 0) 42 1 (dpN f 0).length (nums (dpN f 0))] := (Holds.start w).nilRow 42 1
  go_enter Try.func59, Try.ntmps59
  go_wp2
  go_loopw [3, 8] (fun s t wr => ∃ k : Nat, k ≤ f.length ∧ t = .int .i64 k ∧ Holds w wr [pRow s 42 1 (dpN f k).length (nums (dpN f k))]) (fun _ t _ => f.length - (intOf t).toNat)
  case atStart => exact ⟨0, Nat.zero_le _, rfl, H0⟩
  case round =>
    clear H0
    obtain ⟨k, hk, rfl, hH⟩ := hrel
    by_cases hlt : k < f.length
    · obtain ⟨a, rfl, _, c1⟩ := (HV.out.below hH.low (Nat.le_refl _)).at hlt
      have hx := PF.out.nth k
      by_cases h0 : 0 < k
      · have d0 : decide ((0 : Int) < (k : Int)) = true := decide_eq_true (by omega)
        have hs := dpN_succ f h0
        have HS := hide hs; clear hs
        have hln : (dpN f k).length ≤ 1000 := by rw [dpN_length]; omega
        generalize nth f k = x at *
        have H2 := hH.blk #[.int .i64 ((x * k % 10007 : Nat) : Int)] 42 wr.heap.size rfl
        go_wp2_with fail
        refine (CT.out x k hx (by omega) _).mono ?_
        rintro e w3 ⟨rfl, rfl⟩
        go_wp2_with (at_builtin; refine appBl 44 42 Try.underlying44 infoRes H2 1 rfl wr.heap.size [x * k % 10007] 42 (H2.at 0 rfl) (by simp only [List.length_singleton]; omega) rfl _ _ rfl rfl rfl ?_)
        intro v' w' h3
        have h4 : Holds w w' [pRow v' 42 1 (dpN f (k + 1)).length (nums (dpN f (k + 1)))] := by
          rw [HS.out, List.length_append, List.length_singleton]
          exact Holds.tail h3
        have H4 := hide h4; clear h4 h3 H2 hH
        go_wp2
        go_roundw
        case rel => exact ⟨k + 1, by omega, by go_num, H4.out⟩
        case measure => simp [intOf]; omega
      · obtain rfl : k = 0 := by omega
        have d0 : decide ((0 : Int) < ((0 : Nat) : Int)) = false := rfl
        have h4 : Holds w wr [pRow u3 42 1 (dpN f (0 + 1)).length (nums (dpN f (0 + 1)))] := hH
        have H4 := hide h4; clear h4 hH
        rw [add_zero'] at c1
        generalize nth f 0 = x at *
        go_wp2
        go_roundw
        case rel => exact ⟨1, by omega, by go_num, H4.out⟩
        case measure => simp [intOf]; omega
    · obtain rfl : k = f.length := by omega
      have h5 : Holds w wr [pPo u3 (dervL f)] := Holds.poRow (l := dervL f) hH 0 rfl (by rw [dervL_length]; omega)
      have H5 := hide h5; clear h5 hH hlt hk
      go_wp2
      go_ret
      exact ⟨_, rfl, H5.out⟩

def lenV : Value → Nat
  | .slice _ n _ => n
  | _ => 0
set_option maxRecDepth 100000 in
set_option maxHeartbeats 2000000 in
theorem remainder6_any (u v : Value) (f g : List Nat) (pf : Po f) (zf : Lz f) (pg : Po g) (zg : Lz g) (h0 : g ≠ []) (lf : f.length ≤ 1000) (lg : g.length ≤ 1000) (w : World) (hu : RdN w u f) (hv : RdN w v g) :
    Calls Try.prog 86 #[u, v] w fun e w' => ∃ r, e = .returned r ∧ Holds w w' [pPo r (remL f g)] := by
  obtain ⟨A, c, rfl, _⟩ := hu.form
  obtain ⟨B, d, rfl, _⟩ := hv.form
  have C1 := hide (clone6_any _ f (by omega) w hu)
  have lg0 := List.length_pos_iff.2 h0
  have CL := hide fun w' (h : RdN w' (.slice B g.length d) g) => last6_any _ g lg0 w' h
  have CI := hide (resInv_any (lastN g) (lastN_lt pg))
  have CN := hide (resNeg_any (invN (lastN g)) (invN_lt _))
  have CT := hide resTimes_any
  have CLA := hide fun (r : Value) (l : List Nat) (hl : 0 < l.length) w' h => last6_any r l hl w' h
  have CA := hide fun (r : Value) (l : List Nat) (pl : Po l) (hl : g.length ≤ l.length) (w1 : World) (H : Holds w w1 [pPo r l]) => add6_any r l (lastN l * shrN g % 10007) (Nat.mod_lt _ (by decide)) (.slice B g.length d) g (l.length - g.length) (by omega) pl pg w w1 _ H 0 rfl hv
  have CC := hide cut6_any
  have PG := hide (And.intro pg (And.intro zg h0)); clear pg zg h0
  have PF := hide (And.intro pf zf); clear pf zf
  have HV := hide hv; clear hv hu
  have hsh : shrN g < 10007 := Nat.mod_lt _ (by decide)
  have hsr : (10007 - invN (lastN g)) % 10007 = shrN g := rfl
  have HSR := hide hsr; clear hsr
  go_enter Try.func86, Try.ntmps86
  go_wp2_with fail
  refine C1.out.mono ?_
  rintro e w1 ⟨r, rfl, h1⟩
  go_wp2_with fail
  refine (CL.out w1 (HV.out.below h1.low (Nat.le_refl _))).mono ?_
  rintro e w2 ⟨rfl, rfl⟩
  go_wp2_with fail
  refine (CI.out w1).mono ?_
  rintro e w2 ⟨rfl, rfl⟩
  go_wp2_with fail
  refine (CN.out w1).mono ?_
  rintro e w2 ⟨rfl, rfl⟩
  rw [HSR.out]
  go_wp2
  go_loopw [5] (fun s wr => ∃ l : List Nat, l.length ≤ 1000 ∧ Po l ∧ remL l g = remL f g ∧ Holds w wr [pPo s l]) (fun s _ => lenV s)
  case atStart => exact ⟨f, lf, PF.out.1, rfl, h1⟩
  case round =>
    clear h1
    obtain ⟨l, hl, pl, hr, hH⟩ := hrel
    obtain ⟨R, rc, rfl, hrc⟩ := hH.poForm 0 rfl
    have PL := hide pl
    have HR := hide hr; clear hr
    by_cases hlt : g.length ≤ l.length
    · have d0 : decide ((g.length : Int) ≤ (l.length : Int)) = true := decide_eq_true (by omega)
      have hsub : (l.length : Int) - (g.length : Int) = ((l.length - g.length : Nat) : Int) := by omega
      have hlast := lastN_lt pl
      clear pl
      have hA := CA.out (.slice R l.length rc) l PL.out hlt
      have HA := hide hA; clear hA
      have hL := CLA.out (.slice R l.length rc) l (by omega) wr (hH.poRd 0 rfl)
      have HL := hide hL; clear hL
      have hnx : remL (stepR g l) g = remL f g := (remL_step PG.out.1 PG.out.2.1 PG.out.2.2 PL.out hlt).trans HR.out
      have hlen := stepR_len PG.out.1 PG.out.2.1 PG.out.2.2 PL.out hlt
      have hpo := stepR_po (g := g) PL.out hlt
      have hrl : (rowL l (lastN l * shrN g % 10007) g (l.length - g.length) g.length).length = l.length := rowL_length _ _ _ _ _
      have hst : trimN (rowL l (lastN l * shrN g % 10007) g (l.length - g.length) g.length) = stepR g l := rfl
      have HN := hide (And.intro hnx (And.intro hlen (And.intro hpo (And.intro hrl hst)))); clear hnx hlen hpo hrl hst
      obtain ⟨off, hoff⟩ : ∃ off, off = l.length - g.length := ⟨_, rfl⟩
      rw [← hoff] at hsub HA HN
      have HOFF := hide hoff; clear hoff
      go_wp2_with fail
      refine HL.out.mono ?_
      rintro e w3 ⟨rfl, rfl⟩
      go_wp2_with fail
      refine (CT.out _ _ hlast hsh _).mono ?_
      rintro e w3 ⟨rfl, rfl⟩
      go_wp2_with fail
      refine (HA.out _ hH).mono ?_
      rintro e w4 ⟨rfl, h2⟩
      have h3 : Holds w w4 [pPo (.slice R l.length rc) (rowL l (lastN l * shrN g % 10007) g off g.length)] := h2
      have hcut := CC.out R rc (rowL l (lastN l * shrN g % 10007) g off g.length) (by rw [HN.out.2.2.2.1]; exact hrc) (by rw [HN.out.2.2.2.1]; omega) w4 (by have := h3.poRd 0 rfl; rwa [HN.out.2.2.2.1])
      rw [HN.out.2.2.2.1] at hcut
      have HC := hide hcut; clear hcut
      have h4 := h3.poCut 0 rfl (show tl (rowL l (lastN l * shrN g % 10007) g off g.length) l.length ≤ (rowL l (lastN l * shrN g % 10007) g off g.length).length from by rw [HN.out.2.2.2.1]; exact tl_le _ _)
      have h5 : Holds w w4 [pPo (.slice R (tl (rowL l (lastN l * shrN g % 10007) g off g.length) l.length) (tl (rowL l (lastN l * shrN g % 10007) g off g.length) l.length)) (stepR g l)] := by
        rw [← HN.out.2.2.2.2]
        unfold trimN
        rw [HN.out.2.2.2.1]
        exact h4
      have hsz : tl (rowL l (lastN l * shrN g % 10007) g off g.length) l.length = (stepR g l).length := by
        have := trimN_length (rowL l (lastN l * shrN g % 10007) g off g.length)
        rw [HN.out.2.2.2.2, HN.out.2.2.2.1] at this
        exact this.symm
      have H5 := hide (And.intro h5 hsz); clear h5 hsz h4 h3 h2 hH
      go_wp2_with fail
      refine HC.out.mono ?_
      rintro e w5 ⟨rfl, rfl⟩
      go_wp2
      go_roundw
      case rel => exact ⟨stepR g l, by have := HN.out.2.1; omega, HN.out.2.2.1, HN.out.1, H5.out.1⟩
      case measure => have := HN.out.2.1; have := H5.out.2; simp only [lenV, Array.getD, List.size_toArray] ; simp [lenV]; omega
    · have d0 : decide ((g.length : Int) ≤ (l.length : Int)) = false := decide_eq_false (by omega)
      have hst := remL_stop (f := l) (g := g) (by omega)
      rw [HR.out] at hst
      have h5 : Holds w wr [pPo (.slice R l.length rc) (remL f g)] := by rw [hst]; exact hH
      have H5 := hide h5; clear h5 hH hst pl
      go_wp2
      go_ret
      exact ⟨_, rfl, H5.out⟩

set_option maxRecDepth 100000 in
set_option maxHeartbeats 2000000 in
theorem commonDivisor6_any (u v : Value) (f g : List Nat) (pf : Po f) (zf : Lz f) (pg : Po g) (zg : Lz g) (h0 : f ≠ [] ∨ g ≠ []) (lf : f.length ≤ 1000) (lg : g.length ≤ 1000) (w : World) (hu : RdN w u f) (hv : RdN w v g) :
    Calls Try.prog 70 #[u, v] w fun e w' => ∃ r, e = .returned r ∧ Holds w w' [pPo r (comL f g)] := by
  obtain ⟨A, c, rfl, _⟩ := hu.form
  obtain ⟨B, d, rfl, _⟩ := hv.form
  have CR := hide remainder6_any
  have CL := hide last6_any
  have CI := hide resInv_any
  have CS := hide scaled6_any
  obtain ⟨q1, q2, q3, _, _⟩ := gcd_all _ f g (Nat.le_refl _) pf zf pg zg
  have Q := hide (And.intro q1 (And.intro q2 (q3 h0))); clear q1 q2 q3 h0
  have PF := hide (And.intro pf zf); clear pf zf
  have PG := hide (And.intro pg zg); clear pg zg
  have HU := hide hu; clear hu
  have HV := hide hv; clear hv
  go_enter Try.func70, Try.ntmps70
  go_wp2
  go_loopw [0, 1] (fun s t wr => ∃ a b : List Nat, a.length ≤ 1000 ∧ b.length ≤ 1000 ∧ (Po a ∧ Lz a) ∧ (Po b ∧ Lz b) ∧ gcdE a b = gcdE f g ∧ RdN wr s a ∧ RdN wr t b ∧ Below w.heap.size w wr) (fun _ t _ => lenV t)
  case atStart => exact ⟨f, g, lf, lg, PF.out, PG.out, rfl, HU.out, HV.out, Below.refl _ _⟩
  case round =>
    obtain ⟨a, b, la, lb, pa, pb, hq, hs, ht, hb⟩ := hrel
    obtain ⟨R, rc, rfl, _⟩ := hs.form
    obtain ⟨T, tc, rfl, _⟩ := ht.form
    have HA := hide pa; clear pa
    have HB := hide pb; clear pb
    have HQ := hide hq; clear hq
    have HS := hide hs; clear hs
    have HT := hide ht; clear ht
    by_cases hlt : 0 < b.length
    · have d0 : decide ((0 : Int) < (b.length : Int)) = true := decide_eq_true (by omega)
      have hbn : b ≠ [] := List.length_pos_iff.1 hlt
      have hC := CR.out _ _ a b HA.out.1 HA.out.2 HB.out.1 HB.out.2 hbn la lb _ HS.out HT.out
      obtain ⟨r1, r2, r3⟩ := rem_all HB.out.1 HB.out.2 hbn _ a (Nat.le_refl _) HA.out.1 HA.out.2
      have hnx := (gcdE_step HA.out.1 HA.out.2 HB.out.1 HB.out.2 hbn).trans HQ.out
      have HN := hide (And.intro hnx (And.intro r1 (And.intro r2 r3))); clear hnx r1 r2 r3 hbn
      have HC := hide hC; clear hC
      go_wp2_with fail
      refine HC.out.mono ?_
      rintro e w3 ⟨r, rfl, h3⟩
      obtain ⟨X, xc, rfl, _⟩ := h3.poForm 0 rfl
      have hb3 := hb.trans (h3.low.mono hb.size)
      have H3 := hide (And.intro h3 hb3); clear h3 hb3 hb
      go_wp2
      go_roundw
      case rel => exact ⟨b, remL a b, lb, by have := HN.out.2.2.2; omega, HB.out, ⟨HN.out.2.1, HN.out.2.2.1⟩, HN.out.1, HT.out.below H3.out.1.low (Nat.le_refl _), H3.out.1.poRd 0 rfl, H3.out.2⟩
      case measure => have := HN.out.2.2.2; simp [lenV]; omega
    · have d0 : decide ((0 : Int) < (b.length : Int)) = false := decide_eq_false (by omega)
      have hbn : b = [] := List.eq_nil_of_length_eq_zero (by omega)
      have hq := HQ.out
      rw [hbn, gcdE_nil] at hq
      have hq1 := Q.out.1
      have hq2 := Q.out.2.2
      rw [← hq] at hq1 hq2
      have hcl := CL.out (.slice R a.length rc) a (List.length_pos_iff.2 hq2) wr HS.out
      have hci := CI.out (lastN a) (lastN_lt hq1)
      have hcs := CS.out (.slice R a.length rc) a hq1 la (invN (lastN a)) (invN_lt _) wr HS.out
      have hres : timesL a [invN (lastN a)] = comL f g := by unfold comL; rw [hq]
      rw [hres] at hcs
      have H1 := hide hcl; clear hcl
      have H2 := hide hci; clear hci
      have H3 := hide hcs; clear hcs hres hq hq1 hq2 hbn
      go_wp2_with fail
      refine H1.out.mono ?_
      rintro e w3 ⟨rfl, rfl⟩
      go_wp2_with fail
      refine (H2.out _).mono ?_
      rintro e w3 ⟨rfl, rfl⟩
      go_wp2_with fail
      refine H3.out.mono ?_
      rintro e w3 ⟨r, rfl, h3⟩
      have h4 : Holds w w3 [pPo r (comL f g)] := ((show Holds w wr [] from ⟨hb, by simp, List.Pairwise.nil⟩).joinA h3)
      have H4 := hide h4; clear h4 h3
      go_wp2
      go_ret
      exact ⟨_, rfl, H4.out⟩
end Go.Proofs.Ytijgcjpngpifnaa
