/- cappedProduct, quotientOf of the program. -/
import Derived.Test.YtpkfjdaedaplfaaFra
import Derived.Test.YtpkfjdaedaplfaaCat
import Derived.BigQuiet
namespace Go.Proofs.Ytpkfjdaedaplfaa
open Go.RowKit

theorem pZ9_len {w : World} {A : Option Addr} {n c : Nat} {l : List Int} (h : (pZ9 (.slice A n c) l).ok w) : n = l.length := by
  rcases (show w.ownsRow 0 2 1 (.slice A n c) l.length (zc l) from h).2 with ⟨e, h0⟩ | ⟨_, _, _, e, _⟩
  · injection e with _ e _; omega
  · injection e with _ e _
/-- a store into one cell of a list of numbers of one's own -/
theorem Holds.setZ {w0 w : World} {L : List Part} (h : Holds w0 w L) (i : Nat) {g n c : Nat} {l : List Int} (hi : L[i]? = some (pZ9 (.slice (some ⟨g, 0, none⟩) n c) l)) (k : Nat) (x : Int) :
    Holds w0 (w.setCell ⟨g, k, none⟩ (.int .i64 x)) (L.set i (pZ9 (.slice (some ⟨g, 0, none⟩) n c) (l.set k x))) := by
  obtain rfl := pZ9_len (h.at i hi)
  have hr : w.ownsRow 0 2 1 (.slice (some ⟨g, 0, none⟩) l.length c) l.length (zc l) := h.at i hi
  have hst := World.ownsRow.stored hr k (.int .i64 x)
  have e : (zc l).set k (.int .i64 x) = zc (l.set k x) := by unfold zc; rw [List.map_set]
  rw [e] at hst
  have := h.grow i hi (pRow (.slice (some ⟨g, 0, none⟩) l.length c) 2 1 l.length (zc (l.set k x))) hst.1 hst.2 (fun _ hg => hg) (fun _ hg => .inl hg)
  unfold pZ9
  rw [List.length_set]
  exact this
theorem Holds.cellZ {w0 w : World} {L : List Part} (h : Holds w0 w L) (i : Nat) {g n c : Nat} {l : List Int} (hi : L[i]? = some (pZ9 (.slice (some ⟨g, 0, none⟩) n c) l)) {k : Nat} (hk : k < l.length) :
    w.cell? ⟨g, k, none⟩ = some (.int .i64 l[k]) ∧ w.frozen? ⟨g, k, none⟩ = false := by
  obtain rfl := pZ9_len (h.at i hi)
  have hr : w.ownsRow 0 2 1 (.slice (some ⟨g, 0, none⟩) l.length c) l.length (zc l) := h.at i hi
  obtain ⟨g', c', e, _, _, _, _, h1, h2⟩ := row_at hr (by omega)
  injection e with e1 _ _
  injection e1 with e1
  injection e1 with e1 _ _
  subst e1
  exact ⟨h1 k _ (by rw [zc_get, List.getElem?_eq_getElem hk]; rfl), h2 k⟩

set_option maxRecDepth 100000 in
set_option maxHeartbeats 1000000 in
theorem cappedProduct_any (v : Value) (l : List Int) (w : World) (h : RdZ w v l) (hs : ∀ x ∈ l, x.natAbs ≤ 2000000000) :
    Calls Try.prog 84 #[v] w fun e w' => e = .returned (.int .i64 (clp (prZ l))) ∧ Below w.heap.size w w' := by
  obtain ⟨A, c, rfl, hl⟩ := h.form
  have H := hide h; clear h
  have HS := hide hs; clear hs
  obtain ⟨R, hR⟩ : ∃ R, clp (prZ l) = R := ⟨_, rfl⟩
  rw [hR]
  have HR := hide hR; clear hR
  go_enter Try.func84, Try.ntmps84
  go_wp2
  go_loopw [3, 8] (fun p i wr => ∃ (k : Nat) (x : Int), k ≤ l.length ∧ i = .int .i64 k ∧ p = .int .i64 x ∧ Hid (capL x (l.drop k) = clp (prZ l) ∧ x.natAbs ≤ 1000000001) ∧ Below w.heap.size w wr) (fun _ i _ => l.length - (intOf i).toNat)
  case atStart => exact ⟨0, 1, by omega, rfl, rfl, hide ⟨by rw [List.drop_zero]; exact capL_one l, by decide⟩, Below.refl _ _⟩
  case round =>
    obtain ⟨k, x, hk, rfl, rfl, hx, hb⟩ := hrel
    by_cases hlt : k < l.length
    · obtain ⟨a, rfl, _, c1⟩ := (H.out.below hb (Nat.le_refl _)).at hlt
      have hsm := HS.out l[k] (List.getElem_mem hlt)
      have hd : l.drop k = l[k] :: l.drop (k + 1) := List.drop_eq_getElem_cons hlt
      have hlt' : (k : Int) < l.length := by omega
      obtain ⟨e1, e2⟩ := hx.out
      rw [hd, capL] at e1
      have hin := clp_in (x * l[k])
      generalize l[k] = y at *
      have hab : (x * y).natAbs ≤ 1000000001 * 2000000000 := by rw [Int.natAbs_mul]; exact Nat.mul_le_mul e2 hsm
      have hw : wrap64 (x * y) = x * y := wr64 (by omega) (by omega)
      have E1 := hide e1; clear e1 hd hx
      obtain ⟨m, hm⟩ : ∃ m, x * y = m := ⟨_, rfl⟩
      rw [hm] at hw hab E1 hin
      have HD : Hid (hm = hm) := hide rfl
      clear HD
      have key : ∀ z : Int, clp m = z → (capL z (l.drop (k + 1)) = clp (prZ l) ∧ z.natAbs ≤ 1000000001) := fun z hz => ⟨by rw [← hz]; exact E1.out, by omega⟩
      have KEY := hide key; clear key E1 hin e2 hsm
      go_wp2
      all_goals (
        go_roundw
        case rel => exact ⟨k + 1, _, by omega, by go_num, rfl, hide (KEY.out _ (by unfold clp; omega)), hb⟩
        case measure => simp [intOf]; omega)
    · obtain rfl : k = l.length := by omega
      have hx1 := hx.out.1
      rw [List.drop_length] at hx1
      have hx2 : x = R := by rw [← HR.out, ← hx1]; rfl
      clear hx hx1 hlt hk
      subst hx2
      go_wp2
      go_ret
      exact ⟨rfl, hb⟩
theorem wr_quo {a b : Int} (ha : a.natAbs ≤ 4000000000) : wrap64 (a.tdiv b) = a.tdiv b := by
  have : (a.tdiv b).natAbs ≤ a.natAbs := by rw [Int.natAbs_tdiv]; exact Nat.div_le_self _ _
  exact wr64 (by omega) (by omega)
theorem prt_iff (x : Int) : prt x = true ↔ isP x := by unfold prt isP; simp
theorem res_of {P Q a b c : Int} (h : nrm P Q = sgN a b) :
    ((prt (sgN (clp a) (clp b)).1 && prt (sgN (clp a) (clp b)).2) = true → resN P Q = (sgN (clp a) (clp b)).1 ∧ resD P Q = (sgN (clp a) (clp b)).2 ∧ resC P Q c = 0) ∧
    ((prt (sgN (clp a) (clp b)).1 && prt (sgN (clp a) (clp b)).2) = false → resN P Q = 0 ∧ resD P Q = 0 ∧ resC P Q c = c) := by
  have e : (prt (sgN (clp a) (clp b)).1 && prt (sgN (clp a) (clp b)).2) = true ↔ (isP (sgN a b).1 ∧ isP (sgN a b).2) := by
    rw [Bool.and_eq_true, prt_iff, prt_iff, isP_sgN_clp]
  unfold resN resD resC
  rw [h]
  constructor
  · intro k
    have k' := e.1 k
    rw [if_pos k', if_pos k', if_pos k', sgN_clp_eq k']
    exact ⟨rfl, rfl, rfl⟩
  · intro k
    have k' : ¬ (isP (sgN a b).1 ∧ isP (sgN a b).2) := fun j => by rw [e.2 j] at k; cases k
    rw [if_neg k', if_neg k', if_neg k']
    exact ⟨rfl, rfl, rfl⟩
set_option maxRecDepth 100000 in
set_option maxHeartbeats 4000000 in
theorem quotientOf_any {w0 w : World} {L : List Part} (A0 B0 : List Int) (va vb : Value) (H : Holds w0 w (pZ9 va A0 :: pZ9 vb B0 :: L)) (hA0 : 0 < A0.length) (hB0 : 0 < B0.length)
    (hAl : A0.length ≤ 1000) (hBl : B0.length ≤ 1000) (hz : ¬ (0 ∈ A0 ∧ 0 ∈ B0)) (hsa : ∀ x ∈ A0, x.natAbs ≤ 2000000000) (hsb : ∀ x ∈ B0, x.natAbs ≤ 2000000000) :
    Calls Try.prog 60 #[va, vb] w fun e w' => e = .returned (.tuple #[.agg #[.int .i64 (resN (prZ A0) (prZ B0)), .int .i64 (resD (prZ A0) (prZ B0))], .int .i64 (resC (prZ A0) (prZ B0) 3)]) ∧ Holds w0 w' L := by
  have HQ0 := hide (QInv.start hz hsa hsb)
  clear hz hsa hsb
  obtain ⟨ga, ca, rfl, -⟩ := row_at (H.row 0 rfl) hA0
  obtain ⟨gb, cb, rfl, -⟩ := row_at (H.row 1 rfl) hB0
  have H0 := H.blk #[.int .i64 0, .int .i64 0] 25 w.heap.size rfl
  clear H
  have gr : w.heap.size ≤ w.heap.size := Nat.le_refl _
  obtain ⟨nA, hnA⟩ : ∃ n, n = A0.length := ⟨_, rfl⟩
  obtain ⟨nB, hnB⟩ : ∃ n, n = B0.length := ⟨_, rfl⟩
  rw [← hnA, ← hnB] at H0 ⊢
  have lnA : nA ≤ 1000 := by rw [hnA]; exact hAl
  have lnB : nB ≤ 1000 := by rw [hnB]; exact hBl
  have HnA := hide hnA; have HnB := hide hnB; clear hnA hnB hA0 hB0
  obtain ⟨rN, hrN⟩ : ∃ r, r = resN (prZ A0) (prZ B0) := ⟨_, rfl⟩
  obtain ⟨rD, hrD⟩ : ∃ r, r = resD (prZ A0) (prZ B0) := ⟨_, rfl⟩
  obtain ⟨rC, hrC⟩ : ∃ r, r = resC (prZ A0) (prZ B0) 3 := ⟨_, rfl⟩
  rw [← hrN, ← hrD, ← hrC]
  have HR := hide (And.intro hrN (And.intro hrD hrC)); clear hrN hrD hrC
  go_enter Try.func60, Try.ntmps60
  go_wp2
  go_loopw [12] (fun i wr => ∃ (k : Nat) (A B : List Int), k ≤ nA ∧ i = .int .i64 k ∧ Hid (QInv A0 B0 A B k 0) ∧ Holds w0 wr (pBlk w.heap.size #[.int .i64 0, .int .i64 0] 25 :: pZ9 (.slice (some ⟨ga, 0, none⟩) nA ca) A :: pZ9 (.slice (some ⟨gb, 0, none⟩) nB cb) B :: L)) (fun i _ => nA - (intOf i).toNat)
  case atStart => exact ⟨0, A0, B0, by omega, rfl, HQ0, H0⟩
  case round =>
    obtain ⟨k, A, B, hk, rfl, hq, H1⟩ := hrel
    by_cases hlt : k < nA
    · have hlt' : (k : Int) < nA := by omega
      go_wp2
      go_loopw [17] (fun j wr => ∃ (l : Nat) (A B : List Int), l ≤ nB ∧ j = .int .i64 l ∧ Hid (QInv A0 B0 A B k l) ∧ Holds w0 wr (pBlk w.heap.size #[.int .i64 0, .int .i64 0] 25 :: pZ9 (.slice (some ⟨ga, 0, none⟩) nA ca) A :: pZ9 (.slice (some ⟨gb, 0, none⟩) nB cb) B :: L)) (fun j _ => nB - (intOf j).toNat)
      case atStart => exact ⟨0, A, B, by omega, rfl, hq, H1⟩
      case round =>
        clear hq H1
        obtain ⟨l, A, B, hl, rfl, hq, H1⟩ := hrel
        by_cases hlt2 : l < nB
        · have hlt2' : (l : Int) < nB := by omega
          have hka : k < A.length := by rw [hq.out.la, ← HnA.out]; exact hlt
          have hlb : l < B.length := by rw [hq.out.lb, ← HnB.out]; exact hlt2
          obtain ⟨hg, hnext⟩ := hq.out.next hka hlb
          have sA := hq.out.small.1 _ (List.getElem_mem hka)
          have sB := hq.out.small.2 _ (List.getElem_mem hlb)
          have CG := hide fun w => commonDivisor_any A[k] B[l] (by omega) (by omega) w
          have wq1 := wr_quo (a := A[k]) (b := Int.gcd A[k] B[l]) (by omega)
          have wq2 := wr_quo (a := B[l]) (b := Int.gcd A[k] B[l]) (by omega)
          have CA := hide fun (wx : World) (hx : Holds w0 wx (pBlk w.heap.size #[.int .i64 0, .int .i64 0] 25 :: pZ9 (.slice (some ⟨ga, 0, none⟩) nA ca) A :: pZ9 (.slice (some ⟨gb, 0, none⟩) nB cb) B :: L)) => And.intro (hx.cellZ 1 rfl hka) (hx.cellZ 2 rfl hlb)
          have CB := hide fun (wx : World) (A' : List Int) (hx : Holds w0 wx (pBlk w.heap.size #[.int .i64 0, .int .i64 0] 25 :: pZ9 (.slice (some ⟨ga, 0, none⟩) nA ca) A' :: pZ9 (.slice (some ⟨gb, 0, none⟩) nB cb) B :: L)) => hx.cellZ 2 rfl hlb
          have hgne : ¬ ((Int.gcd A[k] B[l] : Int) = 0) := by omega
          have HN := hide hnext; clear hnext hq sA sB hg
          have hkb := hide hka; have hlb' := hide hlb
          generalize (Int.gcd A[k] B[l] : Int) = d at *
          generalize A[k] = x at *
          generalize B[l] = y at *
          clear hka hlb
          obtain ⟨x', hx'⟩ : ∃ x', x.tdiv d = x' := ⟨_, rfl⟩
          obtain ⟨y', hy'⟩ : ∃ y', y.tdiv d = y' := ⟨_, rfl⟩
          rw [hx'] at wq1 HN
          rw [hy'] at wq2 HN
          go_wp2
          refine region_tail (fun wx => Holds w0 wx (pBlk w.heap.size #[.int .i64 0, .int .i64 0] 25 :: pZ9 (.slice (some ⟨ga, 0, none⟩) nA ca) A :: pZ9 (.slice (some ⟨gb, 0, none⟩) nB cb) B :: L)) 9 (by kernel_rfl) (by kernel_rfl) H1.drew ?_
          simp only [List.take_succ_cons, List.take_zero, List.drop_succ_cons, List.drop_zero]
          iterate 8 (
            apply q_step
            · go_simp
            · intro wx hx
              have c0 := (CA.out wx hx).1.1
              have c1 := (CA.out wx hx).2.1
              go_simp
              exact rfl)
          apply q_step
          · go_simp
          · intro wx hx
            go_simp
            go_at_call 83
            exact Calls.mono (CG.out wx) fun e w' h => ⟨h.1, hx.call h.2⟩
          refine wpQuiet_nil ?_
          intro w2 H2
          clear H1 CG
          have c0 := (CA.out w2 H2).1.1
          have f0 := (CA.out w2 H2).1.2
          have H3 := H2.setZ 1 rfl k x'
          simp only [List.set_cons_succ, List.set_cons_zero] at H3
          have c1 := (CB.out _ _ H3).1
          have f1 := (CB.out _ _ H3).2
          have H4 := H3.setZ 2 rfl l y'
          simp only [List.set_cons_succ, List.set_cons_zero] at H4
          have HH4 := hide H4
          clear H2 H3 H4 CA CB
          go_wp2
          go_roundw
          case rel => exact ⟨l + 1, A.set k x', B.set l y', by omega, by go_num, HN, HH4.out⟩
          case measure => simp [intOf]; omega
        · obtain rfl : l = nB := by omega
          have hq' : Hid (QInv A0 B0 A B (k + 1) 0) := hide (by
            have e := hq.out
            rw [show l = B.length from pZ9_len (H1.at 2 rfl)] at e
            exact e.row)
          clear hlt2 hl hq
          go_wp2
          go_roundw
          case rel => exact ⟨k + 1, A, B, by omega, by go_num, hq', H1⟩
          case measure => simp [intOf]; omega
    · obtain rfl : k = nA := by omega
      clear H0
      have HNRM := hide (show nrm (prZ A0) (prZ B0) = sgN (prZ A) (prZ B) by
        have e := hq.out
        rw [show k = A.length from pZ9_len (H1.at 1 rfl)] at e
        exact e.done)
      have CA := hide fun w h => cappedProduct_any (.slice (some ⟨ga, 0, none⟩) k ca) A w h hq.out.small.1
      have CB := hide fun w h => cappedProduct_any (.slice (some ⟨gb, 0, none⟩) nB cb) B w h hq.out.small.2
      have la : A.length ≤ 1000 := by rw [hq.out.la]; exact hAl
      have lb : B.length ≤ 1000 := by rw [hq.out.lb]; exact hBl
      clear hlt hk hq HQ0
      have ra := OwnZ.rd (H1.ownZ9 1 rfl) (by omega)
      go_wp2_with fail
      refine (CA.out _ ra).mono ?_
      rintro e w2 ⟨rfl, hb⟩
      have H2 := H1.call hb
      clear ra hb H1
      have rb := OwnZ.rd (H2.ownZ9 2 rfl) (by omega)
      go_wp2_with fail
      refine (CB.out _ rb).mono ?_
      rintro e w3 ⟨rfl, hb⟩
      have H3 := H2.call hb
      clear rb hb H2 CA CB
      have hres := res_of (c := 3) HNRM.out
      obtain ⟨e1, e2, e3⟩ := HR.out
      rw [← e1, ← e2, ← e3] at hres
      have ix := clp_in (prZ A)
      have iy := clp_in (prZ B)
      clear e1 e2 e3 HNRM HR la lb lnA lnB hAl hBl
      generalize clp (prZ A) = x at *
      generalize clp (prZ B) = y at *
      have wx : wrap64 (-x) = -x := wr64 (by omega) (by omega)
      have wy : wrap64 (-y) = -y := wr64 (by omega) (by omega)
      have wx2 : IntKind.i64.wrap (-x) = -x := wr64k (by omega) (by omega)
      have wy2 : IntKind.i64.wrap (-y) = -y := wr64k (by omega) (by omega)
      obtain ⟨b1, h1⟩ : ∃ b, decide (y < 0) = b := ⟨_, rfl⟩
      obtain ⟨b2, h2⟩ : ∃ b, (y == 0) = b := ⟨_, rfl⟩
      obtain ⟨b3, h3⟩ : ∃ b, decide (x < 0) = b := ⟨_, rfl⟩
      have hs : sgN x y = if (b1 || (b2 && b3)) = true then (-x, -y) else (x, y) := by
        unfold sgN
        rw [← h1, ← h2, ← h3]
        simp
      clear ix iy
      have hl := H3.lt 0 rfl
      have C4 := H3.cell 0 rfl (j := 0) (v := .int .i64 0) rfl
      have C5 := H3.cell 0 rfl (j := 1) (v := .int .i64 0) rfl
      have F4 := H3.frozen 0 rfl 0
      have F5 := H3.frozen 0 rfl 1
      have FIN : ∀ (u v r s : Int), Holds w0 (((w3.setCell ⟨w.heap.size, 0, none⟩ (.int .i64 r)).setCell ⟨w.heap.size, 1, none⟩ (.int .i64 s)).alloc (.cells #[.int .i64 u, .int .i64 v] 25)) (pBlk w3.heap.size #[.int .i64 u, .int .i64 v] 25 :: pBlk w.heap.size #[.int .i64 r, .int .i64 s] 25 :: pZ9 (.slice (some ⟨ga, 0, none⟩) k ca) A :: pZ9 (.slice (some ⟨gb, 0, none⟩) nB cb) B :: L) :=
        fun u v r s => (H3.set2 0 rfl _ _).blk #[.int .i64 u, .int .i64 v] 25 w3.heap.size (by simp)
      have FIN' := hide FIN; clear FIN
      obtain ⟨c1, hc1⟩ : ∃ b, prt x = b := ⟨_, rfl⟩
      obtain ⟨c2, hc2⟩ : ∃ b, prt y = b := ⟨_, rfl⟩
      obtain ⟨d1, hd1⟩ : ∃ b, prt (-x) = b := ⟨_, rfl⟩
      obtain ⟨d2, hd2⟩ : ∃ b, prt (-y) = b := ⟨_, rfl⟩
      cases b1
      · cases b2
        · clear h3
          replace hs : sgN x y = (x, y) := hs
          rw [hs] at hres
          simp only [hc1, hc2] at hres
          clear hs hd1 hd2
          cases c1
          · obtain ⟨rfl, rfl, rfl⟩ := hres.2 rfl
            clear hres
            go_wp2_with fail
            refine (isPart_any _ _).mono ?_
            rintro e w4 ⟨rfl, rfl⟩
            rw [hc1]
            go_wp2_with fail
            have H5 := FIN'.out (x) (y) (0) (0)
            exact res_agg2 (p := 4) (t := 5) (g := w.heap.size) (v := .int .i64 3) aggFr (by rfl) rfl rfl rfl rfl (H5.at 1 rfl) ⟨rfl, H5.sub (.cons _ (.cons _ (.cons _ (.cons _ (.refl _)))))⟩
          cases c2
          · obtain ⟨rfl, rfl, rfl⟩ := hres.2 rfl
            clear hres
            go_wp2_with fail
            refine (isPart_any _ _).mono ?_
            rintro e w4 ⟨rfl, rfl⟩
            rw [hc1]
            go_wp2_with fail
            refine (isPart_any _ _).mono ?_
            rintro e w4 ⟨rfl, rfl⟩
            rw [hc2]
            go_wp2_with fail
            have H5 := FIN'.out (x) (y) (0) (0)
            exact res_agg2 (p := 4) (t := 5) (g := w.heap.size) (v := .int .i64 3) aggFr (by rfl) rfl rfl rfl rfl (H5.at 1 rfl) ⟨rfl, H5.sub (.cons _ (.cons _ (.cons _ (.cons _ (.refl _)))))⟩
          · obtain ⟨rfl, rfl, rfl⟩ := hres.1 rfl
            clear hres
            go_wp2_with fail
            refine (isPart_any _ _).mono ?_
            rintro e w4 ⟨rfl, rfl⟩
            rw [hc1]
            go_wp2_with fail
            refine (isPart_any _ _).mono ?_
            rintro e w4 ⟨rfl, rfl⟩
            rw [hc2]
            go_wp2_with fail
            have H5 := FIN'.out (rN) (rD) (rN) (rD)
            exact res_agg2 (p := 4) (t := 5) (g := w.heap.size) (v := .int .i64 0) aggFr (by rfl) rfl rfl rfl rfl (H5.at 1 rfl) ⟨rfl, H5.sub (.cons _ (.cons _ (.cons _ (.cons _ (.refl _)))))⟩
        · cases b3
          · skip
            replace hs : sgN x y = (x, y) := hs
            rw [hs] at hres
            simp only [hc1, hc2] at hres
            clear hs hd1 hd2
            cases c1
            · obtain ⟨rfl, rfl, rfl⟩ := hres.2 rfl
              clear hres
              go_wp2_with fail
              refine (isPart_any _ _).mono ?_
              rintro e w4 ⟨rfl, rfl⟩
              rw [hc1]
              go_wp2_with fail
              have H5 := FIN'.out (x) (y) (0) (0)
              exact res_agg2 (p := 4) (t := 5) (g := w.heap.size) (v := .int .i64 3) aggFr (by rfl) rfl rfl rfl rfl (H5.at 1 rfl) ⟨rfl, H5.sub (.cons _ (.cons _ (.cons _ (.cons _ (.refl _)))))⟩
            cases c2
            · obtain ⟨rfl, rfl, rfl⟩ := hres.2 rfl
              clear hres
              go_wp2_with fail
              refine (isPart_any _ _).mono ?_
              rintro e w4 ⟨rfl, rfl⟩
              rw [hc1]
              go_wp2_with fail
              refine (isPart_any _ _).mono ?_
              rintro e w4 ⟨rfl, rfl⟩
              rw [hc2]
              go_wp2_with fail
              have H5 := FIN'.out (x) (y) (0) (0)
              exact res_agg2 (p := 4) (t := 5) (g := w.heap.size) (v := .int .i64 3) aggFr (by rfl) rfl rfl rfl rfl (H5.at 1 rfl) ⟨rfl, H5.sub (.cons _ (.cons _ (.cons _ (.cons _ (.refl _)))))⟩
            · obtain ⟨rfl, rfl, rfl⟩ := hres.1 rfl
              clear hres
              go_wp2_with fail
              refine (isPart_any _ _).mono ?_
              rintro e w4 ⟨rfl, rfl⟩
              rw [hc1]
              go_wp2_with fail
              refine (isPart_any _ _).mono ?_
              rintro e w4 ⟨rfl, rfl⟩
              rw [hc2]
              go_wp2_with fail
              have H5 := FIN'.out (rN) (rD) (rN) (rD)
              exact res_agg2 (p := 4) (t := 5) (g := w.heap.size) (v := .int .i64 0) aggFr (by rfl) rfl rfl rfl rfl (H5.at 1 rfl) ⟨rfl, H5.sub (.cons _ (.cons _ (.cons _ (.cons _ (.refl _)))))⟩
          · skip
            replace hs : sgN x y = (-x, -y) := hs
            rw [hs] at hres
            simp only [hd1, hd2] at hres
            clear hs hc1 hc2
            cases d1
            · obtain ⟨rfl, rfl, rfl⟩ := hres.2 rfl
              clear hres
              go_wp2_with fail
              refine (isPart_any _ _).mono ?_
              rintro e w4 ⟨rfl, rfl⟩
              rw [hd1]
              go_wp2_with fail
              have H5 := FIN'.out (-x) (-y) (0) (0)
              exact res_agg2 (p := 4) (t := 5) (g := w.heap.size) (v := .int .i64 3) aggFr (by rfl) rfl rfl rfl rfl (H5.at 1 rfl) ⟨rfl, H5.sub (.cons _ (.cons _ (.cons _ (.cons _ (.refl _)))))⟩
            cases d2
            · obtain ⟨rfl, rfl, rfl⟩ := hres.2 rfl
              clear hres
              go_wp2_with fail
              refine (isPart_any _ _).mono ?_
              rintro e w4 ⟨rfl, rfl⟩
              rw [hd1]
              go_wp2_with fail
              refine (isPart_any _ _).mono ?_
              rintro e w4 ⟨rfl, rfl⟩
              rw [hd2]
              go_wp2_with fail
              have H5 := FIN'.out (-x) (-y) (0) (0)
              exact res_agg2 (p := 4) (t := 5) (g := w.heap.size) (v := .int .i64 3) aggFr (by rfl) rfl rfl rfl rfl (H5.at 1 rfl) ⟨rfl, H5.sub (.cons _ (.cons _ (.cons _ (.cons _ (.refl _)))))⟩
            · obtain ⟨rfl, rfl, rfl⟩ := hres.1 rfl
              clear hres
              go_wp2_with fail
              refine (isPart_any _ _).mono ?_
              rintro e w4 ⟨rfl, rfl⟩
              rw [hd1]
              go_wp2_with fail
              refine (isPart_any _ _).mono ?_
              rintro e w4 ⟨rfl, rfl⟩
              rw [hd2]
              go_wp2_with fail
              have H5 := FIN'.out (-x) (-y) (-x) (-y)
              exact res_agg2 (p := 4) (t := 5) (g := w.heap.size) (v := .int .i64 0) aggFr (by rfl) rfl rfl rfl rfl (H5.at 1 rfl) ⟨rfl, H5.sub (.cons _ (.cons _ (.cons _ (.cons _ (.refl _)))))⟩
      · clear h2 h3
        replace hs : sgN x y = (-x, -y) := hs
        rw [hs] at hres
        simp only [hd1, hd2] at hres
        clear hs hc1 hc2
        cases d1
        · obtain ⟨rfl, rfl, rfl⟩ := hres.2 rfl
          clear hres
          go_wp2_with fail
          refine (isPart_any _ _).mono ?_
          rintro e w4 ⟨rfl, rfl⟩
          rw [hd1]
          go_wp2_with fail
          have H5 := FIN'.out (-x) (-y) (0) (0)
          exact res_agg2 (p := 4) (t := 5) (g := w.heap.size) (v := .int .i64 3) aggFr (by rfl) rfl rfl rfl rfl (H5.at 1 rfl) ⟨rfl, H5.sub (.cons _ (.cons _ (.cons _ (.cons _ (.refl _)))))⟩
        cases d2
        · obtain ⟨rfl, rfl, rfl⟩ := hres.2 rfl
          clear hres
          go_wp2_with fail
          refine (isPart_any _ _).mono ?_
          rintro e w4 ⟨rfl, rfl⟩
          rw [hd1]
          go_wp2_with fail
          refine (isPart_any _ _).mono ?_
          rintro e w4 ⟨rfl, rfl⟩
          rw [hd2]
          go_wp2_with fail
          have H5 := FIN'.out (-x) (-y) (0) (0)
          exact res_agg2 (p := 4) (t := 5) (g := w.heap.size) (v := .int .i64 3) aggFr (by rfl) rfl rfl rfl rfl (H5.at 1 rfl) ⟨rfl, H5.sub (.cons _ (.cons _ (.cons _ (.cons _ (.refl _)))))⟩
        · obtain ⟨rfl, rfl, rfl⟩ := hres.1 rfl
          clear hres
          go_wp2_with fail
          refine (isPart_any _ _).mono ?_
          rintro e w4 ⟨rfl, rfl⟩
          rw [hd1]
          go_wp2_with fail
          refine (isPart_any _ _).mono ?_
          rintro e w4 ⟨rfl, rfl⟩
          rw [hd2]
          go_wp2_with fail
          have H5 := FIN'.out (-x) (-y) (-x) (-y)
          exact res_agg2 (p := 4) (t := 5) (g := w.heap.size) (v := .int .i64 0) aggFr (by rfl) rfl rfl rfl rfl (H5.at 1 rfl) ⟨rfl, H5.sub (.cons _ (.cons _ (.cons _ (.cons _ (.refl _)))))⟩
end Go.Proofs.Ytpkfjdaedaplfaa
