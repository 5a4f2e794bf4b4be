/- Texts put together: Frc, Frb, Rep, Mkr, Frl, Fre, Frk, FrO, Frv, Mvl, Fdg, Fdm -/
import Derived.Test.YtpkfjdaedaplfaaQbLawPassportOfMove
import Derived.Test.YtpkfjdaedaplfaaChecked
import Derived.WalkKit
import Derived.WalkSpells
import Derived.WalkLawsBesides
import Derived.Deep.LoopGhost
import Derived.Deep.OwnRows
import Derived.Laws.Rows
import Derived.Laws.Tables
import Derived.Laws.CopyOwn
import Derived.ProofKit
import Derived.OpenShut
import Derived.ShutString
import Derived.ChangeOld
import Derived.Below
import Derived.Laws.OwnMore
import Derived.RegionTactic
import Derived.Deep.RegionWith
import Derived.BigQuiet
import Derived.Deep.QuietTactic
import Derived.OwnWalk
import Derived.ChangeSlices
import Derived.Deep.Quiet
import Derived.StillTail
import Derived.Deep.Slices
import Derived.WideShapes
import Derived.Laws.CopyRow
import Derived.Deep.MidRow
import Derived.ChangeKeysEq
import Derived.StillTailTactics
import Derived.Deep.RegionHeld3
import Derived.DataElems
import Derived.Lib.SmallJoins
import Derived.Deep.RegionLaw
import Derived.Deep.Fields
import Derived.ChangeSame
import Derived.Laws.StructEq
namespace Go.Proofs.Ytpkfjdaedaplfaa
open Go.RowKit

theorem pZ9_len {w : World} {A : Option Addr} {n c : Nat} {l : List Int} (h : (pZ9 (.slice A n c) l).ok w) : n = l.length := by
  rcases (show w.ownsRow 0 2 1 (.slice A n c) l.length (zc l) from h).2 with ⟨e, h0⟩ | ⟨_, _, _, e, _⟩
  · injection e with _ e _; omega
  · injection e with _ e _
/-- a store into one cell of a list of numbers of one's own -/
theorem Holds.setZ {w0 w : World} {L : List Part} (h : Holds w0 w L) (i : Nat) {g n c : Nat} {l : List Int} (hi : L[i]? = some (pZ9 (.slice (some ⟨g, 0, none⟩) n c) l)) (k : Nat) (x : Int) :
    Holds w0 (w.setCell ⟨g, k, none⟩ (.int .i64 x)) (L.set i (pZ9 (.slice (some ⟨g, 0, none⟩) n c) (l.set k x))) := by
  obtain rfl := pZ9_len (h.at i hi)
  have hr : w.ownsRow 0 2 1 (.slice (some ⟨g, 0, none⟩) l.length c) l.length (zc l) := h.at i hi
  have hst := World.ownsRow.stored hr k (.int .i64 x)
  have e : (zc l).set k (.int .i64 x) = zc (l.set k x) := by unfold zc; rw [List.map_set]
  rw [e] at hst
  have := h.grow i hi (pRow (.slice (some ⟨g, 0, none⟩) l.length c) 2 1 l.length (zc (l.set k x))) hst.1 hst.2 (fun _ hg => hg) (fun _ hg => .inl hg)
  unfold pZ9
  rw [List.length_set]
  exact this
theorem Holds.cellZ {w0 w : World} {L : List Part} (h : Holds w0 w L) (i : Nat) {g n c : Nat} {l : List Int} (hi : L[i]? = some (pZ9 (.slice (some ⟨g, 0, none⟩) n c) l)) {k : Nat} (hk : k < l.length) :
    w.cell? ⟨g, k, none⟩ = some (.int .i64 l[k]) ∧ w.frozen? ⟨g, k, none⟩ = false := by
  obtain rfl := pZ9_len (h.at i hi)
  have hr : w.ownsRow 0 2 1 (.slice (some ⟨g, 0, none⟩) l.length c) l.length (zc l) := h.at i hi
  obtain ⟨g', c', e, _, _, _, _, h1, h2⟩ := row_at hr (by omega)
  injection e with e1 _ _
  injection e1 with e1
  injection e1 with e1 _ _
  subst e1
  exact ⟨h1 k _ (by rw [zc_get, List.getElem?_eq_getElem hk]; rfl), h2 k⟩

set_option maxRecDepth 100000 in
set_option maxHeartbeats 1000000 in
theorem cappedProduct_any (v : Value) (l : List Int) (w : World) (h : RdZ w v l) (hs : ∀ x ∈ l, x.natAbs ≤ 2000000000) :
    Calls Try.prog 84 #[v] w fun e w' => e = .returned (.int .i64 (clp (prZ l))) ∧ Below w.heap.size w w' := by
  obtain ⟨A, c, rfl, hl⟩ := h.form
  have H := hide h; clear h
  have HS := hide hs; clear hs
  obtain ⟨R, hR⟩ : ∃ R, clp (prZ l) = R := ⟨_, rfl⟩
  rw [hR]
  have HR := hide hR; clear hR
  go_enter Try.func84, Try.ntmps84
  go_wp2
  go_loopw [3, 8] (fun p i wr => ∃ (k : Nat) (x : Int), k ≤ l.length ∧ i = .int .i64 k ∧ p = .int .i64 x ∧ Hid (capL x (l.drop k) = clp (prZ l) ∧ x.natAbs ≤ 1000000001) ∧ Below w.heap.size w wr) (fun _ i _ => l.length - (intOf i).toNat)
  case atStart => exact ⟨0, 1, by omega, rfl, rfl, hide ⟨by rw [List.drop_zero]; exact capL_one l, by decide⟩, Below.refl _ _⟩
  case round =>
    obtain ⟨k, x, hk, rfl, rfl, hx, hb⟩ := hrel
    by_cases hlt : k < l.length
    · obtain ⟨a, rfl, _, c1⟩ := (H.out.below hb (Nat.le_refl _)).at hlt
      have hsm := HS.out l[k] (List.getElem_mem hlt)
      have hd : l.drop k = l[k] :: l.drop (k + 1) := List.drop_eq_getElem_cons hlt
      have hlt' : (k : Int) < l.length := by omega
      obtain ⟨e1, e2⟩ := hx.out
      rw [hd, capL] at e1
      have hin := clp_in (x * l[k])
      generalize l[k] = y at *
      have hab : (x * y).natAbs ≤ 1000000001 * 2000000000 := by rw [Int.natAbs_mul]; exact Nat.mul_le_mul e2 hsm
      have hw : wrap64 (x * y) = x * y := wr64 (by omega) (by omega)
      have E1 := hide e1; clear e1 hd hx
      obtain ⟨m, hm⟩ : ∃ m, x * y = m := ⟨_, rfl⟩
      rw [hm] at hw hab E1 hin
      have HD : Hid (hm = hm) := hide rfl
      clear HD
      have key : ∀ z : Int, clp m = z → (capL z (l.drop (k + 1)) = clp (prZ l) ∧ z.natAbs ≤ 1000000001) := fun z hz => ⟨by rw [← hz]; exact E1.out, by omega⟩
      have KEY := hide key; clear key E1 hin e2 hsm
      go_wp2
      all_goals (
        go_roundw
        case rel => exact ⟨k + 1, _, by omega, by go_num, rfl, hide (KEY.out _ (by unfold clp; omega)), hb⟩
        case measure => simp [intOf]; omega)
    · obtain rfl : k = l.length := by omega
      have hx1 := hx.out.1
      rw [List.drop_length] at hx1
      have hx2 : x = R := by rw [← HR.out, ← hx1]; rfl
      clear hx hx1 hlt hk
      subst hx2
      go_wp2
      go_ret
      exact ⟨rfl, hb⟩
theorem wr_quo {a b : Int} (ha : a.natAbs ≤ 4000000000) : wrap64 (a.tdiv b) = a.tdiv b := by
  have : (a.tdiv b).natAbs ≤ a.natAbs := by rw [Int.natAbs_tdiv]; exact Nat.div_le_self _ _
  exact wr64 (by omega) (by omega)
theorem prt_iff (x : Int) : prt x = true ↔ isP x := by unfold prt isP; simp
theorem res_of {P Q a b c : Int} (h : nrm P Q = sgN a b) :
    ((prt (sgN (clp a) (clp b)).1 && prt (sgN (clp a) (clp b)).2) = true → resN P Q = (sgN (clp a) (clp b)).1 ∧ resD P Q = (sgN (clp a) (clp b)).2 ∧ resC P Q c = 0) ∧
    ((prt (sgN (clp a) (clp b)).1 && prt (sgN (clp a) (clp b)).2) = false → resN P Q = 0 ∧ resD P Q = 0 ∧ resC P Q c = c) := by
  have e : (prt (sgN (clp a) (clp b)).1 && prt (sgN (clp a) (clp b)).2) = true ↔ (isP (sgN a b).1 ∧ isP (sgN a b).2) := by
    rw [Bool.and_eq_true, prt_iff, prt_iff, isP_sgN_clp]
  unfold resN resD resC
  rw [h]
  constructor
  · intro k
    have k' := e.1 k
    rw [if_pos k', if_pos k', if_pos k', sgN_clp_eq k']
    exact ⟨rfl, rfl, rfl⟩
  · intro k
    have k' : ¬ (isP (sgN a b).1 ∧ isP (sgN a b).2) := fun j => by rw [e.2 j] at k; cases k
    rw [if_neg k', if_neg k', if_neg k']
    exact ⟨rfl, rfl, rfl⟩
set_option maxRecDepth 100000 in
set_option maxHeartbeats 4000000 in
theorem quotientOf_any {w0 w : World} {L : List Part} (A0 B0 : List Int) (va vb : Value) (H : Holds w0 w (pZ9 va A0 :: pZ9 vb B0 :: L)) (hA0 : 0 < A0.length) (hB0 : 0 < B0.length)
    (hAl : A0.length ≤ 1000) (hBl : B0.length ≤ 1000) (hz : ¬ (0 ∈ A0 ∧ 0 ∈ B0)) (hsa : ∀ x ∈ A0, x.natAbs ≤ 2000000000) (hsb : ∀ x ∈ B0, x.natAbs ≤ 2000000000) :
    Calls Try.prog 60 #[va, vb] w fun e w' => e = .returned (.tuple #[.agg #[.int .i64 (resN (prZ A0) (prZ B0)), .int .i64 (resD (prZ A0) (prZ B0))], .int .i64 (resC (prZ A0) (prZ B0) 3)]) ∧ Holds w0 w' L := by
  have HQ0 := hide (QInv.start hz hsa hsb)
  clear hz hsa hsb
  obtain ⟨ga, ca, rfl, -⟩ := row_at (H.row 0 rfl) hA0
  obtain ⟨gb, cb, rfl, -⟩ := row_at (H.row 1 rfl) hB0
  have H0 := H.blk #[.int .i64 0, .int .i64 0] 25 w.heap.size rfl
  clear H
  have gr : w.heap.size ≤ w.heap.size := Nat.le_refl _
  obtain ⟨nA, hnA⟩ : ∃ n, n = A0.length := ⟨_, rfl⟩
  obtain ⟨nB, hnB⟩ : ∃ n, n = B0.length := ⟨_, rfl⟩
  rw [← hnA, ← hnB] at H0 ⊢
  have lnA : nA ≤ 1000 := by rw [hnA]; exact hAl
  have lnB : nB ≤ 1000 := by rw [hnB]; exact hBl
  have HnA := hide hnA; have HnB := hide hnB; clear hnA hnB hA0 hB0
  obtain ⟨rN, hrN⟩ : ∃ r, r = resN (prZ A0) (prZ B0) := ⟨_, rfl⟩
  obtain ⟨rD, hrD⟩ : ∃ r, r = resD (prZ A0) (prZ B0) := ⟨_, rfl⟩
  obtain ⟨rC, hrC⟩ : ∃ r, r = resC (prZ A0) (prZ B0) 3 := ⟨_, rfl⟩
  rw [← hrN, ← hrD, ← hrC]
  have HR := hide (And.intro hrN (And.intro hrD hrC)); clear hrN hrD hrC
  go_enter Try.func60, Try.ntmps60
  go_wp2
  go_loopw [12] (fun i wr => ∃ (k : Nat) (A B : List Int), k ≤ nA ∧ i = .int .i64 k ∧ Hid (QInv A0 B0 A B k 0) ∧ Holds w0 wr (pBlk w.heap.size #[.int .i64 0, .int .i64 0] 25 :: pZ9 (.slice (some ⟨ga, 0, none⟩) nA ca) A :: pZ9 (.slice (some ⟨gb, 0, none⟩) nB cb) B :: L)) (fun i _ => nA - (intOf i).toNat)
  case atStart => exact ⟨0, A0, B0, by omega, rfl, HQ0, H0⟩
  case round =>
    obtain ⟨k, A, B, hk, rfl, hq, H1⟩ := hrel
    by_cases hlt : k < nA
    · have hlt' : (k : Int) < nA := by omega
      go_wp2
      go_loopw [17] (fun j wr => ∃ (l : Nat) (A B : List Int), l ≤ nB ∧ j = .int .i64 l ∧ Hid (QInv A0 B0 A B k l) ∧ Holds w0 wr (pBlk w.heap.size #[.int .i64 0, .int .i64 0] 25 :: pZ9 (.slice (some ⟨ga, 0, none⟩) nA ca) A :: pZ9 (.slice (some ⟨gb, 0, none⟩) nB cb) B :: L)) (fun j _ => nB - (intOf j).toNat)
      case atStart => exact ⟨0, A, B, by omega, rfl, hq, H1⟩
      case round =>
        clear hq H1
        obtain ⟨l, A, B, hl, rfl, hq, H1⟩ := hrel
        by_cases hlt2 : l < nB
        · have hlt2' : (l : Int) < nB := by omega
          have hka : k < A.length := by rw [hq.out.la, ← HnA.out]; exact hlt
          have hlb : l < B.length := by rw [hq.out.lb, ← HnB.out]; exact hlt2
          obtain ⟨hg, hnext⟩ := hq.out.next hka hlb
          have sA := hq.out.small.1 _ (List.getElem_mem hka)
          have sB := hq.out.small.2 _ (List.getElem_mem hlb)
          have CG := hide fun w => commonDivisor_any A[k] B[l] (by omega) (by omega) w
          have wq1 := wr_quo (a := A[k]) (b := Int.gcd A[k] B[l]) (by omega)
          have wq2 := wr_quo (a := B[l]) (b := Int.gcd A[k] B[l]) (by omega)
          have CA := hide fun (wx : World) (hx : Holds w0 wx (pBlk w.heap.size #[.int .i64 0, .int .i64 0] 25 :: pZ9 (.slice (some ⟨ga, 0, none⟩) nA ca) A :: pZ9 (.slice (some ⟨gb, 0, none⟩) nB cb) B :: L)) => And.intro (hx.cellZ 1 rfl hka) (hx.cellZ 2 rfl hlb)
          have CB := hide fun (wx : World) (A' : List Int) (hx : Holds w0 wx (pBlk w.heap.size #[.int .i64 0, .int .i64 0] 25 :: pZ9 (.slice (some ⟨ga, 0, none⟩) nA ca) A' :: pZ9 (.slice (some ⟨gb, 0, none⟩) nB cb) B :: L)) => hx.cellZ 2 rfl hlb
          have hgne : ¬ ((Int.gcd A[k] B[l] : Int) = 0) := by omega
          have HN := hide hnext; clear hnext hq sA sB hg
          have hkb := hide hka; have hlb' := hide hlb
          generalize (Int.gcd A[k] B[l] : Int) = d at *
          generalize A[k] = x at *
          generalize B[l] = y at *
          clear hka hlb
          obtain ⟨x', hx'⟩ : ∃ x', x.tdiv d = x' := ⟨_, rfl⟩
          obtain ⟨y', hy'⟩ : ∃ y', y.tdiv d = y' := ⟨_, rfl⟩
          rw [hx'] at wq1 HN
          rw [hy'] at wq2 HN
          go_wp2
          refine region_tail (fun wx => Holds w0 wx (pBlk w.heap.size #[.int .i64 0, .int .i64 0] 25 :: pZ9 (.slice (some ⟨ga, 0, none⟩) nA ca) A :: pZ9 (.slice (some ⟨gb, 0, none⟩) nB cb) B :: L)) 9 (by kernel_rfl) (by kernel_rfl) H1.drew ?_
          simp only [List.take_succ_cons, List.take_zero, List.drop_succ_cons, List.drop_zero]
          iterate 8 (
            apply q_step
            · go_simp
            · intro wx hx
              have c0 := (CA.out wx hx).1.1
              have c1 := (CA.out wx hx).2.1
              go_simp
              exact rfl)
          apply q_step
          · go_simp
          · intro wx hx
            go_simp
            go_at_call 83
            exact Calls.mono (CG.out wx) fun e w' h => ⟨h.1, hx.call h.2⟩
          refine wpQuiet_nil ?_
          intro w2 H2
          clear H1 CG
          have c0 := (CA.out w2 H2).1.1
          have f0 := (CA.out w2 H2).1.2
          have H3 := H2.setZ 1 rfl k x'
          simp only [List.set_cons_succ, List.set_cons_zero] at H3
          have c1 := (CB.out _ _ H3).1
          have f1 := (CB.out _ _ H3).2
          have H4 := H3.setZ 2 rfl l y'
          simp only [List.set_cons_succ, List.set_cons_zero] at H4
          have HH4 := hide H4
          clear H2 H3 H4 CA CB
          go_wp2
          go_roundw
          case rel => exact ⟨l + 1, A.set k x', B.set l y', by omega, by go_num, HN, HH4.out⟩
          case measure => simp [intOf]; omega
        · obtain rfl : l = nB := by omega
          have hq' : Hid (QInv A0 B0 A B (k + 1) 0) := hide (by
            have e := hq.out
            rw [show l = B.length from pZ9_len (H1.at 2 rfl)] at e
            exact e.row)
          clear hlt2 hl hq
          go_wp2
          go_roundw
          case rel => exact ⟨k + 1, A, B, by omega, by go_num, hq', H1⟩
          case measure => simp [intOf]; omega
    · obtain rfl : k = nA := by omega
      clear H0
      have HNRM := hide (show nrm (prZ A0) (prZ B0) = sgN (prZ A) (prZ B) by
        have e := hq.out
        rw [show k = A.length from pZ9_len (H1.at 1 rfl)] at e
        exact e.done)
      have CA := hide fun w h => cappedProduct_any (.slice (some ⟨ga, 0, none⟩) k ca) A w h hq.out.small.1
      have CB := hide fun w h => cappedProduct_any (.slice (some ⟨gb, 0, none⟩) nB cb) B w h hq.out.small.2
      have la : A.length ≤ 1000 := by rw [hq.out.la]; exact hAl
      have lb : B.length ≤ 1000 := by rw [hq.out.lb]; exact hBl
      clear hlt hk hq HQ0
      have ra := OwnZ.rd (H1.ownZ9 1 rfl) (by omega)
      go_wp2_with fail
      refine (CA.out _ ra).mono ?_
      rintro e w2 ⟨rfl, hb⟩
      have H2 := H1.call hb
      clear ra hb H1
      have rb := OwnZ.rd (H2.ownZ9 2 rfl) (by omega)
      go_wp2_with fail
      refine (CB.out _ rb).mono ?_
      rintro e w3 ⟨rfl, hb⟩
      have H3 := H2.call hb
      clear rb hb H2 CA CB
      have hres := res_of (c := 3) HNRM.out
      obtain ⟨e1, e2, e3⟩ := HR.out
      rw [← e1, ← e2, ← e3] at hres
      have ix := clp_in (prZ A)
      have iy := clp_in (prZ B)
      clear e1 e2 e3 HNRM HR la lb lnA lnB hAl hBl
      generalize clp (prZ A) = x at *
      generalize clp (prZ B) = y at *
      have wx : wrap64 (-x) = -x := wr64 (by omega) (by omega)
      have wy : wrap64 (-y) = -y := wr64 (by omega) (by omega)
      have wx2 : IntKind.i64.wrap (-x) = -x := wr64k (by omega) (by omega)
      have wy2 : IntKind.i64.wrap (-y) = -y := wr64k (by omega) (by omega)
      obtain ⟨b1, h1⟩ : ∃ b, decide (y < 0) = b := ⟨_, rfl⟩
      obtain ⟨b2, h2⟩ : ∃ b, (y == 0) = b := ⟨_, rfl⟩
      obtain ⟨b3, h3⟩ : ∃ b, decide (x < 0) = b := ⟨_, rfl⟩
      have hs : sgN x y = if (b1 || (b2 && b3)) = true then (-x, -y) else (x, y) := by
        unfold sgN
        rw [← h1, ← h2, ← h3]
        simp
      clear ix iy
      have hl := H3.lt 0 rfl
      have C4 := H3.cell 0 rfl (j := 0) (v := .int .i64 0) rfl
      have C5 := H3.cell 0 rfl (j := 1) (v := .int .i64 0) rfl
      have F4 := H3.frozen 0 rfl 0
      have F5 := H3.frozen 0 rfl 1
      have FIN : ∀ (u v r s : Int), Holds w0 (((w3.setCell ⟨w.heap.size, 0, none⟩ (.int .i64 r)).setCell ⟨w.heap.size, 1, none⟩ (.int .i64 s)).alloc (.cells #[.int .i64 u, .int .i64 v] 25)) (pBlk w3.heap.size #[.int .i64 u, .int .i64 v] 25 :: pBlk w.heap.size #[.int .i64 r, .int .i64 s] 25 :: pZ9 (.slice (some ⟨ga, 0, none⟩) k ca) A :: pZ9 (.slice (some ⟨gb, 0, none⟩) nB cb) B :: L) :=
        fun u v r s => (H3.set2 0 rfl _ _).blk #[.int .i64 u, .int .i64 v] 25 w3.heap.size (by simp)
      have FIN' := hide FIN; clear FIN
      obtain ⟨c1, hc1⟩ : ∃ b, prt x = b := ⟨_, rfl⟩
      obtain ⟨c2, hc2⟩ : ∃ b, prt y = b := ⟨_, rfl⟩
      obtain ⟨d1, hd1⟩ : ∃ b, prt (-x) = b := ⟨_, rfl⟩
      obtain ⟨d2, hd2⟩ : ∃ b, prt (-y) = b := ⟨_, rfl⟩
      cases b1
      · cases b2
        · clear h3
          replace hs : sgN x y = (x, y) := hs
          rw [hs] at hres
          simp only [hc1, hc2] at hres
          clear hs hd1 hd2
          cases c1
          · obtain ⟨rfl, rfl, rfl⟩ := hres.2 rfl
            clear hres
            go_wp2_with fail
            refine (isPart_any _ _).mono ?_
            rintro e w4 ⟨rfl, rfl⟩
            rw [hc1]
            go_wp2_with fail
            have H5 := FIN'.out (x) (y) (0) (0)
            exact res_agg2 (p := 4) (t := 5) (g := w.heap.size) (v := .int .i64 3) aggFr (by rfl) rfl rfl rfl rfl (H5.at 1 rfl) ⟨rfl, H5.sub (.cons _ (.cons _ (.cons _ (.cons _ (.refl _)))))⟩
          cases c2
          · obtain ⟨rfl, rfl, rfl⟩ := hres.2 rfl
            clear hres
            go_wp2_with fail
            refine (isPart_any _ _).mono ?_
            rintro e w4 ⟨rfl, rfl⟩
            rw [hc1]
            go_wp2_with fail
            refine (isPart_any _ _).mono ?_
            rintro e w4 ⟨rfl, rfl⟩
            rw [hc2]
            go_wp2_with fail
            have H5 := FIN'.out (x) (y) (0) (0)
            exact res_agg2 (p := 4) (t := 5) (g := w.heap.size) (v := .int .i64 3) aggFr (by rfl) rfl rfl rfl rfl (H5.at 1 rfl) ⟨rfl, H5.sub (.cons _ (.cons _ (.cons _ (.cons _ (.refl _)))))⟩
          · obtain ⟨rfl, rfl, rfl⟩ := hres.1 rfl
            clear hres
            go_wp2_with fail
            refine (isPart_any _ _).mono ?_
            rintro e w4 ⟨rfl, rfl⟩
            rw [hc1]
            go_wp2_with fail
            refine (isPart_any _ _).mono ?_
            rintro e w4 ⟨rfl, rfl⟩
            rw [hc2]
            go_wp2_with fail
            have H5 := FIN'.out (rN) (rD) (rN) (rD)
            exact res_agg2 (p := 4) (t := 5) (g := w.heap.size) (v := .int .i64 0) aggFr (by rfl) rfl rfl rfl rfl (H5.at 1 rfl) ⟨rfl, H5.sub (.cons _ (.cons _ (.cons _ (.cons _ (.refl _)))))⟩
        · cases b3
          · skip
            replace hs : sgN x y = (x, y) := hs
            rw [hs] at hres
            simp only [hc1, hc2] at hres
            clear hs hd1 hd2
            cases c1
            · obtain ⟨rfl, rfl, rfl⟩ := hres.2 rfl
              clear hres
              go_wp2_with fail
              refine (isPart_any _ _).mono ?_
              rintro e w4 ⟨rfl, rfl⟩
              rw [hc1]
              go_wp2_with fail
              have H5 := FIN'.out (x) (y) (0) (0)
              exact res_agg2 (p := 4) (t := 5) (g := w.heap.size) (v := .int .i64 3) aggFr (by rfl) rfl rfl rfl rfl (H5.at 1 rfl) ⟨rfl, H5.sub (.cons _ (.cons _ (.cons _ (.cons _ (.refl _)))))⟩
            cases c2
            · obtain ⟨rfl, rfl, rfl⟩ := hres.2 rfl
              clear hres
              go_wp2_with fail
              refine (isPart_any _ _).mono ?_
              rintro e w4 ⟨rfl, rfl⟩
              rw [hc1]
              go_wp2_with fail
              refine (isPart_any _ _).mono ?_
              rintro e w4 ⟨rfl, rfl⟩
              rw [hc2]
              go_wp2_with fail
              have H5 := FIN'.out (x) (y) (0) (0)
              exact res_agg2 (p := 4) (t := 5) (g := w.heap.size) (v := .int .i64 3) aggFr (by rfl) rfl rfl rfl rfl (H5.at 1 rfl) ⟨rfl, H5.sub (.cons _ (.cons _ (.cons _ (.cons _ (.refl _)))))⟩
            · obtain ⟨rfl, rfl, rfl⟩ := hres.1 rfl
              clear hres
              go_wp2_with fail
              refine (isPart_any _ _).mono ?_
              rintro e w4 ⟨rfl, rfl⟩
              rw [hc1]
              go_wp2_with fail
              refine (isPart_any _ _).mono ?_
              rintro e w4 ⟨rfl, rfl⟩
              rw [hc2]
              go_wp2_with fail
              have H5 := FIN'.out (rN) (rD) (rN) (rD)
              exact res_agg2 (p := 4) (t := 5) (g := w.heap.size) (v := .int .i64 0) aggFr (by rfl) rfl rfl rfl rfl (H5.at 1 rfl) ⟨rfl, H5.sub (.cons _ (.cons _ (.cons _ (.cons _ (.refl _)))))⟩
          · skip
            replace hs : sgN x y = (-x, -y) := hs
            rw [hs] at hres
            simp only [hd1, hd2] at hres
            clear hs hc1 hc2
            cases d1
            · obtain ⟨rfl, rfl, rfl⟩ := hres.2 rfl
              clear hres
              go_wp2_with fail
              refine (isPart_any _ _).mono ?_
              rintro e w4 ⟨rfl, rfl⟩
              rw [hd1]
              go_wp2_with fail
              have H5 := FIN'.out (-x) (-y) (0) (0)
              exact res_agg2 (p := 4) (t := 5) (g := w.heap.size) (v := .int .i64 3) aggFr (by rfl) rfl rfl rfl rfl (H5.at 1 rfl) ⟨rfl, H5.sub (.cons _ (.cons _ (.cons _ (.cons _ (.refl _)))))⟩
            cases d2
            · obtain ⟨rfl, rfl, rfl⟩ := hres.2 rfl
              clear hres
              go_wp2_with fail
              refine (isPart_any _ _).mono ?_
              rintro e w4 ⟨rfl, rfl⟩
              rw [hd1]
              go_wp2_with fail
              refine (isPart_any _ _).mono ?_
              rintro e w4 ⟨rfl, rfl⟩
              rw [hd2]
              go_wp2_with fail
              have H5 := FIN'.out (-x) (-y) (0) (0)
              exact res_agg2 (p := 4) (t := 5) (g := w.heap.size) (v := .int .i64 3) aggFr (by rfl) rfl rfl rfl rfl (H5.at 1 rfl) ⟨rfl, H5.sub (.cons _ (.cons _ (.cons _ (.cons _ (.refl _)))))⟩
            · obtain ⟨rfl, rfl, rfl⟩ := hres.1 rfl
              clear hres
              go_wp2_with fail
              refine (isPart_any _ _).mono ?_
              rintro e w4 ⟨rfl, rfl⟩
              rw [hd1]
              go_wp2_with fail
              refine (isPart_any _ _).mono ?_
              rintro e w4 ⟨rfl, rfl⟩
              rw [hd2]
              go_wp2_with fail
              have H5 := FIN'.out (-x) (-y) (-x) (-y)
              exact res_agg2 (p := 4) (t := 5) (g := w.heap.size) (v := .int .i64 0) aggFr (by rfl) rfl rfl rfl rfl (H5.at 1 rfl) ⟨rfl, H5.sub (.cons _ (.cons _ (.cons _ (.cons _ (.refl _)))))⟩
      · clear h2 h3
        replace hs : sgN x y = (-x, -y) := hs
        rw [hs] at hres
        simp only [hd1, hd2] at hres
        clear hs hc1 hc2
        cases d1
        · obtain ⟨rfl, rfl, rfl⟩ := hres.2 rfl
          clear hres
          go_wp2_with fail
          refine (isPart_any _ _).mono ?_
          rintro e w4 ⟨rfl, rfl⟩
          rw [hd1]
          go_wp2_with fail
          have H5 := FIN'.out (-x) (-y) (0) (0)
          exact res_agg2 (p := 4) (t := 5) (g := w.heap.size) (v := .int .i64 3) aggFr (by rfl) rfl rfl rfl rfl (H5.at 1 rfl) ⟨rfl, H5.sub (.cons _ (.cons _ (.cons _ (.cons _ (.refl _)))))⟩
        cases d2
        · obtain ⟨rfl, rfl, rfl⟩ := hres.2 rfl
          clear hres
          go_wp2_with fail
          refine (isPart_any _ _).mono ?_
          rintro e w4 ⟨rfl, rfl⟩
          rw [hd1]
          go_wp2_with fail
          refine (isPart_any _ _).mono ?_
          rintro e w4 ⟨rfl, rfl⟩
          rw [hd2]
          go_wp2_with fail
          have H5 := FIN'.out (-x) (-y) (0) (0)
          exact res_agg2 (p := 4) (t := 5) (g := w.heap.size) (v := .int .i64 3) aggFr (by rfl) rfl rfl rfl rfl (H5.at 1 rfl) ⟨rfl, H5.sub (.cons _ (.cons _ (.cons _ (.cons _ (.refl _)))))⟩
        · obtain ⟨rfl, rfl, rfl⟩ := hres.1 rfl
          clear hres
          go_wp2_with fail
          refine (isPart_any _ _).mono ?_
          rintro e w4 ⟨rfl, rfl⟩
          rw [hd1]
          go_wp2_with fail
          refine (isPart_any _ _).mono ?_
          rintro e w4 ⟨rfl, rfl⟩
          rw [hd2]
          go_wp2_with fail
          have H5 := FIN'.out (-x) (-y) (-x) (-y)
          exact res_agg2 (p := 4) (t := 5) (g := w.heap.size) (v := .int .i64 0) aggFr (by rfl) rfl rfl rfl rfl (H5.at 1 rfl) ⟨rfl, H5.sub (.cons _ (.cons _ (.cons _ (.cons _ (.refl _)))))⟩
end Go.Proofs.Ytpkfjdaedaplfaa

namespace Go.Proofs.Ytpkfjdaedaplfaa
open Go.RowKit

/-- a region whose operations yield one value each, whatever else has been made -/
theorem region_H {P : Program} {id : Nat} {Q : Exit → Act → World → Prop} {a : Act} {w w0 : World} {L : List Part} {l : List Oper} (hm : P.follows .mixedOrders = true) (hB : Region.lexB .any l.toArray = true) (H : Holds w0 w L)
    (h : wpQuiet P l.toArray (fun wx => Holds w0 wx L) (fun a' => ∀ wx, Holds w0 wx L → Q .normal a' wx) l a) : (Code.region id l.toArray true).wp P Q a w :=
  wp_region_quiet (C := fun wx => Holds w0 wx L) hm hB H.drew (by simpa using h)
theorem q_skip {P : Program} {ops : Array Oper} {C : World → Prop} {K : Act → Prop} {o : Oper} {rest : List Oper} {a : Act} (hw : Region.wanted o (yielded ops a.tmps) = false) (h2 : wpQuiet P ops C K rest (a.put o.dst undef)) : wpQuiet P ops C K (o :: rest) a := by
  unfold wpQuiet; rw [if_neg (by rw [hw]; decide)]; exact h2
/-- the same behind a word that no unifier opens -/
@[irreducible] def wqT (P : Program) (ops : Array Oper) (C : World → Prop) (K : Act → Prop) (l : List Oper) (a : Act) : Prop := wpQuiet P ops C K l a
section
variable {P : Program} {ops : Array Oper} {C : World → Prop} {K : Act → Prop} {o : Oper} {rest : List Oper} {a : Act}
theorem wq_step (hw : Region.wanted o (yielded ops a.tmps) = true) (v : Value) (h1 : ∀ w, C w → o.quietAt P a C w v) (h2 : wqT P ops C K rest (a.put o.dst v)) : wqT P ops C K (o :: rest) a := by
  unfold wqT at *; exact q_step hw v h1 h2
theorem wq_skip (hw : Region.wanted o (yielded ops a.tmps) = false) (h2 : wqT P ops C K rest (a.put o.dst undef)) : wqT P ops C K (o :: rest) a := by
  unfold wqT at *; exact q_skip hw h2
theorem wq_nil (h : K a) : wqT P ops C K [] a := by
  unfold wqT; exact wpQuiet_nil h
end
theorem region_HW {P : Program} {id : Nat} {Q : Exit → Act → World → Prop} {a : Act} {w w0 : World} {L : List Part} {l : List Oper} (hm : P.follows .mixedOrders = true) (hB : Region.lexB .any l.toArray = true) (H : Holds w0 w L)
    (h : wqT P l.toArray (fun wx => Holds w0 wx L) (fun a' => ∀ wx, Holds w0 wx L → Q .normal a' wx) l a) : (Code.region id l.toArray true).wp P Q a w := by
  unfold wqT at h; exact region_H hm hB H h
/-- the numbers of a quotient are small -/
theorem nrm_small {P Q : Int} (h : P ≠ 0 ∨ Q ≠ 0) : (nrm P Q).1.natAbs ≤ P.natAbs ∧ (nrm P Q).2.natAbs ≤ Q.natAbs := by
  obtain ⟨a, b, d, hd, rfl, rfl, hg, e⟩ := nrm_parts h
  rw [e]
  have h1 : (sgN a b).1.natAbs = a.natAbs ∧ (sgN a b).2.natAbs = b.natAbs := by unfold sgN; split <;> simp
  rw [h1.1, h1.2, Int.natAbs_mul, Int.natAbs_mul]
  exact ⟨Nat.le_mul_of_pos_right _ (by omega), Nat.le_mul_of_pos_right _ (by omega)⟩
theorem nrm_sign {P Q : Int} (h : P ≠ 0 ∨ Q ≠ 0) : ∃ g c : Int, 0 < g ∧ g = Int.gcd P Q ∧ g ≤ max P.natAbs Q.natAbs ∧ (c = -g ∧ (Q < 0 ∨ Q = 0 ∧ P < 0) ∨ c = g ∧ ¬ (Q < 0 ∨ Q = 0 ∧ P < 0)) ∧ P.tdiv c = (nrm P Q).1 ∧ Q.tdiv c = (nrm P Q).2 ∧ c ≠ 0 := by
  obtain ⟨a, b, d, hd, rfl, rfl, hg, e⟩ := nrm_parts h
  have hgd := gcd_scale hg hd
  have hs : (b * d < 0 ∨ b * d = 0 ∧ a * d < 0) ↔ (b < 0 ∨ b = 0 ∧ a < 0) := by
    have k1 : b * d < 0 ↔ b < 0 := by
      constructor
      · intro h; exact Int.lt_of_not_ge fun c => by have := Int.mul_nonneg c (Int.le_of_lt hd); omega
      · intro h; exact Int.mul_neg_of_neg_of_pos h hd
    have k2 : b * d = 0 ↔ b = 0 := by rw [Int.mul_eq_zero]; omega
    have k3 : a * d < 0 ↔ a < 0 := by
      constructor
      · intro h; exact Int.lt_of_not_ge fun c => by have := Int.mul_nonneg c (Int.le_of_lt hd); omega
      · intro h; exact Int.mul_neg_of_neg_of_pos h hd
    rw [k1, k2, k3]
  have hle : d ≤ max ((a * d).natAbs : Int) ((b * d).natAbs : Int) := by
    have : a ≠ 0 ∨ b ≠ 0 := by
      rcases h with h | h
      · left; rintro rfl; simp at h
      · right; rintro rfl; simp at h
    rw [Int.natAbs_mul, Int.natAbs_mul]
    rcases this with h | h
    · have := Nat.le_mul_of_pos_left d.natAbs (show 0 < a.natAbs by omega); omega
    · have := Nat.le_mul_of_pos_left d.natAbs (show 0 < b.natAbs by omega); omega
  rw [e]
  by_cases c : b < 0 ∨ b = 0 ∧ a < 0
  · refine ⟨d, -d, hd, hgd.symm, by omega, .inl ⟨rfl, hs.2 c⟩, ?_, ?_, by omega⟩
    · unfold sgN; rw [if_pos c, Int.tdiv_neg, Int.mul_tdiv_cancel _ (by omega)]
    · unfold sgN; rw [if_pos c, Int.tdiv_neg, Int.mul_tdiv_cancel _ (by omega)]
  · refine ⟨d, d, hd, hgd.symm, by omega, .inr ⟨rfl, fun k => c (hs.1 k)⟩, ?_, ?_, by omega⟩
    · unfold sgN; rw [if_neg c, Int.mul_tdiv_cancel _ (by omega)]
    · unfold sgN; rw [if_neg c, Int.mul_tdiv_cancel _ (by omega)]

set_option maxRecDepth 100000 in
set_option maxHeartbeats 1000000 in
theorem l10Make_any (P Q : Int) (h : P ≠ 0 ∨ Q ≠ 0) (hP : P.natAbs ≤ 4000000000) (hQ : Q.natAbs ≤ 4000000000) (w : World) :
    Calls Try.prog 58 #[.int .i64 P, .int .i64 Q] w fun e w' => e = .returned (.tuple #[.agg #[.int .i64 (nrm P Q).1, .int .i64 (nrm P Q).2], .bool (frB (nrm P Q).1 (nrm P Q).2)]) ∧ Below w.heap.size w w' := by
  have CG := hide fun w => l10Common_any P Q hP hQ w
  obtain ⟨s1, s2⟩ := nrm_small h
  obtain ⟨g, c, g0, hg, gle, hc, e1, e2, cne⟩ := nrm_sign h
  rw [← hg] at CG
  clear hg
  have C0 := hide h; clear h
  have w1 : wrap64 (nrm P Q).1 = (nrm P Q).1 := wr64 (by omega) (by omega)
  have w2 : wrap64 (nrm P Q).2 = (nrm P Q).2 := wr64 (by omega) (by omega)
  have w3 : wrap64 (-g) = -g := wr64 (by omega) (by omega)
  have CI := hide fun w => l10Is_any (nrm P Q).1 (nrm P Q).2 w
  generalize frB (nrm P Q).1 (nrm P Q).2 = fb at *
  generalize (nrm P Q).1 = p1 at *
  generalize (nrm P Q).2 = p2 at *
  clear hP hQ s1 s2 gle C0
  obtain ⟨bc, hbc⟩ : ∃ b, b = decide (Q < 0 ∨ Q = 0 ∧ P < 0) := ⟨_, rfl⟩
  obtain ⟨b1, h1⟩ : ∃ b, decide (Q < 0) = b := ⟨_, rfl⟩
  obtain ⟨b2, h2⟩ : ∃ b, (Q == 0) = b := ⟨_, rfl⟩
  obtain ⟨b3, h3⟩ : ∃ b, decide (P < 0) = b := ⟨_, rfl⟩
  have hcc : (bc = true → c = -g) ∧ (bc = false → c = g) := by
    subst hbc
    rcases hc with ⟨k1, k2⟩ | ⟨k1, k2⟩
    · exact ⟨fun _ => k1, fun k => absurd k2 (of_decide_eq_false k)⟩
    · exact ⟨fun k => absurd (of_decide_eq_true k) k2, fun _ => k1⟩
  have hb : bc = (b1 || (b2 && b3)) := by
    rw [hbc, ← h1, ← h2, ← h3]
    simp
    rfl
  clear hc hbc
  go_enter Try.func58, Try.ntmps58
  go_wp2_with fail
  refine (CG.out _).mono ?_
  rintro e w1 ⟨rfl, hb1⟩
  have HH := ((Holds.start w).blk #[.int .i64 0, .int .i64 0] 25 w.heap.size rfl).call hb1
  clear hb1 CG
  have q0 := HH.lt 0 rfl
  have hcc' : (b1 || (b2 && b3)) = bc := hb.symm
  clear hb
  have TAIL : ∀ (wa : World) (a : Act), True := fun _ _ => trivial
  clear TAIL
  cases bc
  · obtain rfl : c = g := hcc.2 rfl
    clear hcc w3
    cases b1 <;> cases b2 <;> cases b3 <;> first | (exfalso; revert hcc'; decide) | skip
    all_goals clear hcc'
    all_goals go_wp2
    all_goals go_region
    all_goals (
      have H2 := (HH.blk #[.int .i64 p1, .int .i64 p2] 25 w1.heap.size rfl).drew
      clear HH
      go_wp2
      generalize ((w1.alloc (Obj.cells #[Value.int IntKind.i64 p1, Value.int IntKind.i64 p2] 25)).drew) = W at *
      refine region_tail (fun wx => Holds w wx [pBlk w1.heap.size #[.int .i64 p1, .int .i64 p2] 25, pBlk w.heap.size #[.int .i64 0, .int .i64 0] 25]) 3 (by kernel_rfl) (by kernel_rfl) H2.drew ?_
      simp only [List.take_succ_cons, List.take_zero, List.drop_succ_cons, List.drop_zero]
      apply q_step
      · go_simp
      · intro wx hx
        have c0 := hx.cell 0 rfl (j := 0) (v := .int .i64 p1) rfl
        have c1 := hx.cell 0 rfl (j := 1) (v := .int .i64 p2) rfl
        go_simp
        exact rfl
      apply q_step
      · go_simp
      · intro wx hx
        have c0 := hx.cell 0 rfl (j := 0) (v := .int .i64 p1) rfl
        have c1 := hx.cell 0 rfl (j := 1) (v := .int .i64 p2) rfl
        go_simp
        exact rfl
      apply q_step
      · go_simp
      · intro wx hx
        go_simp
        go_at_call 56
        exact Calls.mono (CI.out wx) fun e w' h => ⟨h.1, hx.call h.2⟩
      refine wpQuiet_nil ?_
      intro w2 hx
      have c0 := hx.cell 1 rfl (j := 0) (v := .int .i64 0) rfl
      have c1 := hx.cell 1 rfl (j := 1) (v := .int .i64 0) rfl
      have r0 := hx.frozen 1 rfl 0
      have r1 := hx.frozen 1 rfl 1
      have r2 := hx.lt 1 rfl
      go_wp2
      have H5 := hx.set2 1 rfl (.int .i64 p1) (.int .i64 p2)
      exact res_agg2 (p := 4) (t := 5) (g := w.heap.size) (v := .bool fb) aggFr (by rfl) rfl rfl rfl rfl (H5.at 1 rfl) ⟨rfl, H5.low⟩)
  · have hc : c = -g := hcc.1 rfl
    have w4 : wrap64 (-g) = c := w3.trans hc.symm
    clear hcc w3
    cases b1 <;> cases b2 <;> cases b3 <;> first | (exfalso; revert hcc'; decide) | skip
    all_goals clear hcc'
    all_goals clear hc
    all_goals go_wp2
    all_goals go_region
    all_goals (
      have H2 := (HH.blk #[.int .i64 p1, .int .i64 p2] 25 w1.heap.size rfl).drew
      clear HH
      go_wp2
      generalize ((w1.alloc (Obj.cells #[Value.int IntKind.i64 p1, Value.int IntKind.i64 p2] 25)).drew) = W at *
      refine region_tail (fun wx => Holds w wx [pBlk w1.heap.size #[.int .i64 p1, .int .i64 p2] 25, pBlk w.heap.size #[.int .i64 0, .int .i64 0] 25]) 3 (by kernel_rfl) (by kernel_rfl) H2.drew ?_
      simp only [List.take_succ_cons, List.take_zero, List.drop_succ_cons, List.drop_zero]
      apply q_step
      · go_simp
      · intro wx hx
        have c0 := hx.cell 0 rfl (j := 0) (v := .int .i64 p1) rfl
        have c1 := hx.cell 0 rfl (j := 1) (v := .int .i64 p2) rfl
        go_simp
        exact rfl
      apply q_step
      · go_simp
      · intro wx hx
        have c0 := hx.cell 0 rfl (j := 0) (v := .int .i64 p1) rfl
        have c1 := hx.cell 0 rfl (j := 1) (v := .int .i64 p2) rfl
        go_simp
        exact rfl
      apply q_step
      · go_simp
      · intro wx hx
        go_simp
        go_at_call 56
        exact Calls.mono (CI.out wx) fun e w' h => ⟨h.1, hx.call h.2⟩
      refine wpQuiet_nil ?_
      intro w2 hx
      have c0 := hx.cell 1 rfl (j := 0) (v := .int .i64 0) rfl
      have c1 := hx.cell 1 rfl (j := 1) (v := .int .i64 0) rfl
      have r0 := hx.frozen 1 rfl 0
      have r1 := hx.frozen 1 rfl 1
      have r2 := hx.lt 1 rfl
      go_wp2
      have H5 := hx.set2 1 rfl (.int .i64 p1) (.int .i64 p2)
      exact res_agg2 (p := 4) (t := 5) (g := w.heap.size) (v := .bool fb) aggFr (by rfl) rfl rfl rfl rfl (H5.at 1 rfl) ⟨rfl, H5.low⟩)
end Go.Proofs.Ytpkfjdaedaplfaa

namespace Go.Proofs.Ytpkfjdaedaplfaa
open Go.RowKit

theorem bits_one : bits .and .u64 1 4294967295 = 1 := by decide
theorem bits_n (n : Nat) (hn : n ≤ 100000) : bits .and .u64 (n : Int) 4294967295 = n := by
  have e : n &&& 4294967295 = n := by
    have := Nat.and_two_pow_sub_one_eq_mod n 32
    rw [show (2 : Nat) ^ 32 - 1 = 4294967295 by decide, show (2 : Nat) ^ 32 = 4294967296 by decide] at this
    rw [this]; omega
  have e1 : n % 2 ^ IntKind.u64.bits = n := Nat.mod_eq_of_lt (by rw [show (2 : Nat) ^ IntKind.u64.bits = 18446744073709551616 by decide]; omega)
  have e2 : (4294967295 : Nat) % 2 ^ IntKind.u64.bits = 4294967295 := by decide
  simp [bits, IntKind.wrap_u64]
  rw [e1, e2, e]
  omega
theorem wr_u64 {x : Int} (h1 : 0 ≤ x) (h2 : x ≤ 1000000000000) : IntKind.u64.wrap x = x := by
  rw [IntKind.wrap_u64]; omega
set_option maxRecDepth 100000 in
set_option maxHeartbeats 1000000 in
theorem mul64_any (n : Nat) (hn : n ≤ 100000) (w : World) :
    Calls Try.prog 143 #[.int .u64 1, .int .u64 n] w fun e w' => e = .returned (.tuple #[.int .u64 0, .int .u64 n]) ∧ w' = w := by
  have h1 := bits_one
  have h2 := bits_n n hn
  have h3 : (n : Int) / 4294967296 = 0 := by omega
  have h4 : IntKind.u64.wrap (n : Int) = n := wr_u64 (by omega) (by omega)
  have h5 : IntKind.u64.wrap 0 = 0 := by decide
  have h6 : bits .and .u64 0 4294967295 = 0 := by decide
  go_enter Try.func143, Try.ntmps143
  go_wp2
  go_ret2
  exact ⟨rfl, rfl⟩
set_option maxRecDepth 100000 in
set_option maxHeartbeats 1000000 in
theorem mul_any (n : Nat) (hn : n ≤ 100000) (w : World) :
    Calls Try.prog 141 #[.int .u64 1, .int .u64 n] w fun e w' => e = .returned (.tuple #[.int .u64 0, .int .u64 n]) ∧ w' = w := by
  have C := hide fun w => mul64_any n hn w
  go_enter Try.func141, Try.ntmps141
  go_wp2_with fail
  refine (C.out _).mono ?_
  rintro e w1 ⟨rfl, rfl⟩
  go_wp2_with fail
  go_ret2
  exact ⟨rfl, rfl⟩
theorem exec_copy {P : Program} {w : World} {o : Oper} {a : Act} {s x : Operand} {t t' : TypeId} (ho : o.op = .call { callee := .builtin .copy, args := #[s, x], argTypes := #[t, t'] }) {v v' u : Value} {w' : World} (hs : a.eval s = v) (hx : a.eval x = u)
    (hr : (Builtin.copy_ #[t, t'] o.type #[v, u]).run P w = .ok v' w') : (execOp a.eval o).run P w = .ok (.value v') w' := by
  unfold execOp
  simp only [ho, resolve, invoke, builtin, Sem.run_bind, Sem.run_pure, Result.andThen_ok, List.map_toArray, List.map_cons, List.map_nil, hs, hx, hr]
/-- a block whose cells are numbers is a list of one's own -/
theorem Holds.blkZ {w0 w : World} {L : List Part} (h : Holds w0 w L) (i : Nat) {g : Nat} {c : Array Value} {l : List Int} (hi : L[i]? = some (pBlk g c 2)) (hc : c.toList = zc l) (hl : l.length ≤ 1000000) :
    Holds w0 w (L.set i (pZ9 (.slice (some ⟨g, 0, none⟩) l.length l.length) l)) := by
  refine h.turn i hi _ ?_ rfl rfl rfl (Nat.le_refl _) (fun _ _ _ => rfl) fun k hk => .inl ?_
  · have hs : c.size = l.length := by rw [← Array.length_toList, hc, zc_length]
    exact ⟨by rw [zc_length]; omega, .inr ⟨g, l.length, c, rfl, Nat.zero_le _, h.at i hi, Nat.le_refl _, by unfold maxLen; omega, by omega, by rw [← hc, Nat.mul_one, ← hs, ← Array.length_toList, List.take_length]⟩⟩
  · have : g = k := by simpa [pZ9, pRow, Value.ownBlock] using hk
    exact this.symm
/-- m times a number, zeros behind it -/
def rpL (m n : Nat) (x : Int) : List Value := zc (List.replicate m x ++ List.replicate (n - m) 0)
theorem rpL_len {m n : Nat} (x : Int) (h : m ≤ n) : (rpL m n x).length = n := by unfold rpL; rw [zc_length]; simp; omega
theorem rpL_get {m n j : Nat} (x : Int) (hj : j < m) : (rpL m n x)[j]? = some (.int .i64 x) := by
  unfold rpL; rw [zc_get, List.getElem?_append_left (by simpa using hj)]; simp [hj]
theorem rpL_splice {m n t : Nat} (x : Int) (h : m + t ≤ n) : splice (rpL m n x) m (List.replicate t (.int .i64 x)) = rpL (m + t) n x := by
  have e : List.replicate t (Value.int .i64 x) = zc (List.replicate t x) := by unfold zc; simp
  unfold splice rpL
  rw [e, zc_length, List.length_replicate]
  unfold zc
  rw [← List.map_take, ← List.map_drop, ← List.map_append, ← List.map_append]
  congr 1
  rw [List.take_append_of_le_length (by simp), List.take_of_length_le (by simp), List.drop_append, List.drop_of_length_le (by simp), List.nil_append, List.length_replicate, List.drop_replicate, ← List.append_assoc, List.replicate_append_replicate]
  congr 2
  omega
set_option maxRecDepth 100000 in
set_option maxHeartbeats 2000000 in
theorem repeat_any (x : Int) (v : Value) (n : Nat) (hn : n ≤ 100000) (w : World) (h : RdZ w v [x]) :
    Calls Try.prog 139 #[v, .int .i64 n] w fun e w' => ∃ u, e = .returned u ∧ Holds w w' [pZ9 u (List.replicate n x)] := by
  obtain ⟨A, c, rfl, _⟩ := h.form
  obtain ⟨a, rfl, ha, c1⟩ := h.at (k := 0) (by simp)
  have H := hide h; clear h
  have c1' : w.cell? a = some (.int .i64 x) := by rw [show a.add 0 = a from rfl] at c1; exact c1
  obtain ⟨i0, hi, hz0, hz1, hz2⟩ := info_parts info64
  have I0 := hide (And.intro hi (And.intro hz0 (And.intro hz1 hz2))); clear hi hz0 hz1 hz2
  have CM := hide fun w => mul_any n hn w
  have hu1 : IntKind.u64.wrap (n : Int) = n := wr_u64 (by omega) (by omega)
  have hu2 : IntKind.i64.wrap (n : Int) = n := wr64k (by omega) (by omega)
  have hneg : ¬ ((n : Int) < 0) := by omega
  have hbig : decide ((9223372036854775807 : Int) < (n : Int)) = false := decide_eq_false (by omega)
  have hb8 := I0.out.2.2.2
  have hbb : i0.bytes * n ≤ 281474976710656 := by rw [hb8]; omega
  clear hb8 c1
  go_enter Try.func139, Try.ntmps139
  go_wp2_with fail
  refine (CM.out _).mono ?_
  rintro e w1 ⟨rfl, rfl⟩
  clear CM
  go_wp2_with (refine wpList_make_full _ rfl _ _ 79 rfl w1.heap.size 2 i0 (.int .i64 0) 1 Try.underlying79 I0.out.1 I0.out.2.1 I0.out.2.2.1 .i64 .i64 _ _ n rfl rfl rfl rfl hbb (by unfold maxLen; omega) (Nat.le_refl _) ?_)
  intro w2 ho hg
  have b1 : Below w1.heap.size w1 w2 := (Below.refl _ _).grown hg (Nat.le_refl _) (fun k hk => by cases hk)
  have hz : (madeCells #[Value.int .i64 0] n).toList = rpL 0 n x := by rw [toList_madeCells_one]; unfold rpL zc; simp
  rw [hz] at ho
  have hblk : Hid (w2.heap[w1.heap.size]? = some (.cells (rpL 0 n x).toArray 2 (0, 0))) := hide (by
    rcases ho.2 with ⟨e, _⟩ | ⟨g', cap, cur, e, _, hh, _, _, h3, h4⟩
    · cases e
    · injection e with e1 e2 e3
      injection e1 with e1
      injection e1 with e1 _ _
      subst e1 e3
      rw [hh]
      rw [List.take_of_length_le (by rw [Array.length_toList]; omega)] at h4
      congr 2
      rw [← h4])
  clear ho hz hg
  have hsz : (Try.prog.info? 2).map (·.size) = some 1 := by rw [I0.out.1]; exact congrArg some I0.out.2.2.1
  have HSZ := hide hsz
  clear hsz hbb I0
  obtain ⟨m1, hm1⟩ : ∃ m, m = min 1 n := ⟨_, rfl⟩
  have HM1 := hide hm1
  clear hm1
  have hc1 : ∀ (j : Nat) (u : Value), (List.replicate m1 (Value.int .i64 x))[j]? = some u → w2.cell? (a.add j) = some u := by
    intro j u hj
    have hj1 : j < m1 := by simpa using (List.getElem?_eq_some_iff.1 hj).1
    have hm := HM1.out
    obtain rfl : j = 0 := by omega
    rw [List.getElem?_replicate, if_pos hj1] at hj
    injection hj with hj
    rw [← hj, show a.add 0 = a from rfl, ← c1']
    exact b1.cell (p := a) ha
  have HC1 := hide hc1
  clear hc1
  have hn1 : (List.replicate m1 (Value.int .i64 x)).length = Nat.min 1 n := by rw [List.length_replicate]; exact HM1.out
  have hf1 : 0 + (List.replicate m1 (Value.int .i64 x)).length ≤ (rpL 0 n x).length := by rw [rpL_len x (Nat.zero_le _), List.length_replicate]; have := HM1.out; omega
  have ho1 : ∀ u ∈ List.replicate m1 (Value.int .i64 x), u.oneCell' = true := by intro u hu; rw [(List.mem_replicate.1 hu).2]; rfl
  have HN1 := hide hn1; have HF1 := hide hf1; have HO1 := hide ho1; clear hn1 hf1 ho1
  go_wp2_with (refine wpList_copy_splice rfl (.tmp 31) (.tmp 32) 79 79 rfl 2 Try.underlying79 HSZ.out (some ⟨w1.heap.size, 0, none⟩) (some a) n n 1 c rfl rfl w1.heap.size 0 (rpL 0 n x) 2 hblk.out (List.replicate m1 (.int .i64 x)) HN1.out (fun _ => ⟨rfl, a, rfl, HC1.out⟩) HF1.out HO1.out w1.heap.size w1 b1 (Nat.le_refl _) ?_)
  intro w3 hg3 hb3
  have hq : splice (rpL 0 n x) 0 (List.replicate m1 (.int .i64 x)) = rpL m1 n x := by
    have := rpL_splice (m := 0) (n := n) (t := m1) x (by have := HM1.out; omega)
    rw [Nat.zero_add] at this; exact this
  rw [hq] at hg3
  clear hq hblk b1 HC1 c1'
  have hlr : ((List.replicate m1 (Value.int .i64 x)).length : Int) = (m1 : Int) := by simp
  clear hbig hu1 hu2 hneg
  go_wp2
  go_loopw [8] (fun i wr => ∃ m : Nat, m ≤ n ∧ i = .int .i64 m ∧ Hid (n = 0 ∨ 1 ≤ m) ∧ Hid (wr.heap[w1.heap.size]? = some (.cells (rpL m n x).toArray 2 (0, 0))) ∧ Below w1.heap.size w1 wr) (fun i _ => n - (intOf i).toNat)
  case atStart => exact ⟨m1, by have := HM1.out; omega, by first | rfl | rw [hlr], hide (by have := HM1.out; omega), hg3, hb3⟩
  case round =>
    clear hg3 hb3 hlr
    obtain ⟨m, hm, rfl, h1m, hg, hb⟩ := hrel
    by_cases hlt : m < n
    · have h1 : 1 ≤ m := by have := h1m.out; omega
      have hlt' : (m : Int) < n := by omega
      clear h1m
      obtain ⟨t, ht⟩ : ∃ t, t = min m (n - m) := ⟨_, rfl⟩
      have HT := hide ht; clear ht
      have hn1 : (List.replicate t (Value.int .i64 x)).length = Nat.min m (n - m) := by rw [List.length_replicate]; exact HT.out
      have hf1 : m + (List.replicate t (Value.int .i64 x)).length ≤ (rpL m n x).length := by rw [rpL_len x hm, List.length_replicate]; have := HT.out; omega
      have ho1 : ∀ u ∈ List.replicate t (Value.int .i64 x), u.oneCell' = true := by intro u hu; rw [(List.mem_replicate.1 hu).2]; rfl
      have HN1' := hide hn1; have HF1' := hide hf1; have HO1' := hide ho1; clear hn1 hf1 ho1
      have hmn : (m : Int) ≤ n := by omega
      have hnm : ¬ (n = m) := by omega
      have hc2 : Hid (∀ (w' : World), (w'.heap[w1.heap.size]? = some (.cells (rpL m n x).toArray 2 (0, 0))) → ∀ (j : Nat) (u : Value), (List.replicate t (Value.int .i64 x))[j]? = some u → w'.cell? ((⟨w1.heap.size, 0, none⟩ : Addr).add j) = some u) := hide (by
        intro w' hw' j u hj
        have hj1 : j < t := by simpa using (List.getElem?_eq_some_iff.1 hj).1
        rw [List.getElem?_replicate, if_pos hj1] at hj
        injection hj with hj
        have hadd : (⟨w1.heap.size, 0, none⟩ : Addr).add j = ⟨w1.heap.size, j, none⟩ := by unfold Addr.add; split <;> simp_all
        rw [hadd, cell_of_cells, cellsOf_heap hw', ← hj]
        simp only [List.getElem?_toArray]
        exact rpL_get x (by have := HT.out; omega))
      have hsp := rpL_splice (m := m) (n := n) (t := t) x (by have := HT.out; omega)
      have HSP := hide hsp; clear hsp
      have hwm : wrap64 ((m : Int) + (t : Int)) = ((m + t : Nat) : Int) := by rw [wr64 (by have := HT.out; omega) (by have := HT.out; omega)]; omega
      have HW := hide hwm; clear hwm
      have hH : Holds w1 wr [pBlk w1.heap.size (rpL m n x).toArray 2] := (Holds.start w1).new hb _ hg.out (fun g hg' => by cases hg'; exact Nat.le_refl _)
      have hRUN : Hid (∀ (wx : World) (ty : TypeId), Holds w1 wx [pBlk w1.heap.size (rpL m n x).toArray 2] → ∃ w', (Builtin.copy_ #[79, 79] ty #[.slice (some ⟨w1.heap.size, m, none⟩) (n - m) (n - m), .slice (some ⟨w1.heap.size, 0, none⟩) m n]).run Try.prog wx = .ok (.int .i64 t) w' ∧ Holds w1 w' [pBlk w1.heap.size (rpL (m + t) n x).toArray 2]) := hide (by
        intro wx ty hx
        have hw := hx.at 0 rfl
        have hr := run_copy_row (P := Try.prog) wx 79 79 ty 2 w1.heap.size m (n - m) (n - m) ⟨w1.heap.size, 0, none⟩ m n (rpL m n x).toArray 2 (List.replicate t (.int .i64 x)) Try.underlying79 HSZ.out hw HN1'.out (hc2.out wx hw) (by rw [List.size_toArray]; exact HF1'.out) HO1'.out
        refine ⟨_, by rw [hr]; congr 1; simp [goInt], ?_⟩
        have := hx.setRow 0 rfl (rpL (m + t) n x).toArray
        rw [← HSP.out]
        rw [← HSP.out] at this
        simpa [splice] using this)
      clear hc2 HN1' HF1' HO1' HSP hg hb
      go_wp2
      refine Rd.region_P (w0 := w1) [] [pBlk w1.heap.size (rpL m n x).toArray 2] [7] (.q 0 <| .q 1 <| .q 2 <| .q 3 <| .q 4 <| .q 5 <| .q 6 <| .s1 7 <| .q 8 <| .q 9 .fin) hH (List.nil_sublist _) (by kernel_rfl) (by kernel_rfl) (by kernel_rfl) ?_
      iterate 7
        apply Rd.v_q
        · simp only [List.getElem?_toArray, List.getElem?_cons_zero, List.getElem?_cons_succ]; exact rfl
        · rfl
        · go_simp
        · intro wx hx
          unfold atG
          go_simp
          simp only [uponG]
          exact ⟨by trivial, rfl⟩
      refine Rd.v_s (fun u wx => u = .int .i64 t ∧ Holds w1 wx [pBlk w1.heap.size (rpL (m + t) n x).toArray 2]) (fun u _ _ h hb => ⟨h.1, h.2.call hb⟩) (by simp only [List.getElem?_toArray, List.getElem?_cons_zero, List.getElem?_cons_succ]; exact rfl) rfl (by go_simp) (fun wx hx hD => ?_) (fun u hu => ?_)
      · have hr := (hRUN.out wx 3 hD).choose_spec
        rw [exec_copy (s := .tmp 41) (x := .tmp 44) rfl (by go_simp) (by go_simp) hr.1]
        exact ⟨hr.2.sub (List.nil_sublist _), rfl, hr.2⟩
      · obtain ⟨_, _, rfl, _⟩ := hu
        have hwm := HW.out
        iterate 2
          apply Rd.v_q
          · simp only [List.getElem?_toArray, List.getElem?_cons_zero, List.getElem?_cons_succ]; exact rfl
          · rfl
          · go_simp
          · intro wx hx
            unfold atG
            go_simp
            simp only [uponG]
            exact ⟨by trivial, rfl⟩
        rintro w4 - ⟨_, h4⟩
        have hb4 := h4.low
        have hg4 := hide (h4.at 0 rfl)
        have hwm := HW.out
        clear hH hRUN h4
        go_simp
        go_wp2
        go_roundw
        case rel => exact ⟨m + t, by have := HT.out; omega, by rw [wr64k (by have := HT.out; omega) (by have := HT.out; omega)]; rfl, hide (by omega), hg4, hb4⟩
        case measure =>
          have := HT.out
          have hk : IntKind.i64.wrap ((m : Int) + t) = (m : Int) + t := wr64k (by omega) (by omega)
          simp only [intOf, hk]; omega
    · obtain rfl : m = n := by omega
      have hH : Holds w1 wr [pBlk w1.heap.size (rpL m m x).toArray 2] := (Holds.start w1).new hb _ hg.out (fun g hg' => by cases hg'; exact Nat.le_refl _)
      have hZ := hide (hH.blkZ 0 rfl (l := List.replicate m x) (by unfold rpL; simp) (by simp; omega))
      clear hlt hm h1m hg hb hH HM1 HN1 HF1 HO1 HSZ H
      go_wp2
      go_ret
      have hz := hZ.out
      simp only [List.set_cons_zero, List.length_replicate] at hz
      exact ⟨_, rfl, hz⟩
end Go.Proofs.Ytpkfjdaedaplfaa

namespace Go.Proofs.Ytpkfjdaedaplfaa
open Go.RowKit

def buildIs (n : Nat) (ps : Array (Nat × Value)) : Sem Next := do pure (.value (← Instr.buildSlice 79 n ps))
theorem exec_buildIs (ρ : Operand → Value) (dst : Option Tmp) (n : Nat) (parts : Array (Nat × Operand)) (ty : TypeId) (pos : String) (after : Array Edge) (guard : Option (Nat × Bool)) :
    execOp ρ { dst, op := .buildSlice 79 n parts, type := ty, pos, after, guard } = buildIs n (parts.map fun (i, x) => (i, ρ x)) := rfl
theorem run_buildIs1 (x : Int) (w : World) : (buildIs 1 #[(0, .int .i64 x)]).run Try.prog w = .ok (.value (.slice (some ⟨w.heap.size, 0, none⟩) 1 1)) (w.alloc (.cells #[.int .i64 x] 2)) := by
  have h := run_buildSl (P := Try.prog) (T := 79) (E := 2) (s := 1) (n := 1) Try.underlying79 (by kernel_rfl) (by kernel_rfl) #[(0, .int .i64 x)] (by simp [Fits, Value.cells]) (by simp [flatC, Value.cells]) (by decide) (by decide) w
  simp only [buildIs, Sem.run_bind, h, Result.andThen_ok, Sem.run_pure]
  simp [flatC, Value.cells]
theorem run_buildIs2 (x y : Int) (w : World) : (buildIs 2 #[(0, .int .i64 x), (1, .int .i64 y)]).run Try.prog w = .ok (.value (.slice (some ⟨w.heap.size, 0, none⟩) 2 2)) (w.alloc (.cells #[.int .i64 x, .int .i64 y] 2)) := by
  have h := run_buildSl (P := Try.prog) (T := 79) (E := 2) (s := 1) (n := 2) Try.underlying79 (by kernel_rfl) (by kernel_rfl) #[(0, .int .i64 x), (1, .int .i64 y)] (by simp [Fits, Value.cells]) (by simp [flatC, Value.cells]) (by decide) (by decide) w
  simp only [buildIs, Sem.run_bind, h, Result.andThen_ok, Sem.run_pure]
  simp [flatC, Value.cells]
def buildRs (n : Nat) (ps : Array (Nat × Value)) : Sem Next := do pure (.value (← Instr.buildSlice 69 n ps))
theorem exec_buildRs (ρ : Operand → Value) (dst : Option Tmp) (n : Nat) (parts : Array (Nat × Operand)) (ty : TypeId) (pos : String) (after : Array Edge) (guard : Option (Nat × Bool)) :
    execOp ρ { dst, op := .buildSlice 69 n parts, type := ty, pos, after, guard } = buildRs n (parts.map fun (i, x) => (i, ρ x)) := rfl
theorem run_buildRs2 (u v : Value) (hu : u.cells = #[u]) (hv : v.cells = #[v]) (w : World) : (buildRs 2 #[(0, u), (1, v)]).run Try.prog w = .ok (.value (.slice (some ⟨w.heap.size, 0, none⟩) 2 2)) (w.alloc (.cells #[u, v] 79)) := by
  have h := run_buildSl (P := Try.prog) (T := 69) (E := 79) (s := 1) (n := 2) Try.underlying69 (by kernel_rfl) (by kernel_rfl) #[(0, u), (1, v)] (by simp [Fits, hu, hv]) (by simp [flatC, hu, hv]) (by decide) (by decide) w
  simp only [buildRs, Sem.run_bind, h, Result.andThen_ok, Sem.run_pure]
  simp [flatC, hu, hv]
theorem run_buildRs3 (u v t : Value) (hu : u.cells = #[u]) (hv : v.cells = #[v]) (ht : t.cells = #[t]) (w : World) : (buildRs 3 #[(0, u), (1, v), (2, t)]).run Try.prog w = .ok (.value (.slice (some ⟨w.heap.size, 0, none⟩) 3 3)) (w.alloc (.cells #[u, v, t] 79)) := by
  have h := run_buildSl (P := Try.prog) (T := 69) (E := 79) (s := 1) (n := 3) Try.underlying69 (by kernel_rfl) (by kernel_rfl) #[(0, u), (1, v), (2, t)] (by simp [Fits, hu, hv, ht]) (by simp [flatC, hu, hv, ht]) (by decide) (by decide) w
  simp only [buildRs, Sem.run_bind, h, Result.andThen_ok, Sem.run_pure]
  simp [flatC, hu, hv, ht]
/-- a row's value is one cell -/
theorem Holds.oneZ {w0 w : World} {L : List Part} (h : Holds w0 w L) (i : Nat) {v : Value} {l : List Int} (hi : L[i]? = some (pZ9 v l)) : v.cells = #[v] := by
  obtain ⟨A, c, rfl⟩ := own_slice (h.ownZ9 i hi); rfl
theorem rd_lit10 {w : World} {g : Nat} {x : Int} {T : TypeId} (h : w.heap[g]? = some (.cells #[.int .i64 x] T (0, 0))) : RdZ w (.slice (some ⟨g, 0, none⟩) 1 1) [x] := by
  refine ⟨_, _, rfl, by simp, fun i y hy => ⟨_, rfl, lt_of_some h, ?_⟩⟩
  have hi : i = 0 := by have := (List.getElem?_eq_some_iff.1 hy).1; simp at this; omega
  subst hi
  simp only [List.getElem?_cons_zero, Option.some.injEq] at hy
  subst hy
  rw [show (⟨g, 0, none⟩ : Addr).add 0 = ⟨g, 0, none⟩ from rfl, cell_of_cells, cellsOf_heap h]; rfl
/-- rows that are listed in a block -/
theorem rd2_list {w : World} {g : Nat} {us : List Value} {ls : List (List Int)} {T : TypeId} (h : w.heap[g]? = some (.cells us.toArray T (0, 0))) (hl : us.length = ls.length) (hs : ls.length ≤ 1000) (hr : ∀ (i : Nat) (u : Value) (l : List Int), us[i]? = some u → ls[i]? = some l → RdZ w u l) :
    RdZ2 w (.slice (some ⟨g, 0, none⟩) ls.length ls.length) ls := by
  refine ⟨_, _, us, rfl, by omega, hl, fun i u hu => ⟨_, rfl, lt_of_some h, ?_⟩, hr⟩
  have hadd : (⟨g, 0, none⟩ : Addr).add i = ⟨g, i, none⟩ := by unfold Addr.add; split <;> simp_all
  rw [hadd, cell_of_cells, cellsOf_heap h, List.getElem?_toArray]; exact hu
/-- three rows of one's own, listed in a block of one's own -/
theorem own2z_3 {w0 w : World} {g : Nat} {a b c : Value} {la lb lc : List Int} {L : List Part} (H : Holds w0 w (pBlk g #[a, b, c] 79 :: pZ9 a la :: pZ9 b lb :: pZ9 c lc :: L)) :
    Own2Z w0.heap.size w (.slice (some ⟨g, 0, none⟩) 3 3) [la, lb, lc] := by
  refine ⟨[a, b, c], rfl, ?_, ?_, ?_⟩
  · exact ⟨rfl, .inr ⟨g, 3, #[a, b, c], rfl, H.above 0 rfl rfl, H.at 0 rfl, Nat.le_refl _, by unfold maxLen; decide, rfl, rfl⟩⟩
  · intro i u l hu hl
    match i with
    | 0 => simp at hu hl; subst hu hl; exact H.ownZ9 1 rfl
    | 1 => simp at hu hl; subst hu hl; exact H.ownZ9 2 rfl
    | 2 => simp at hu hl; subst hu hl; exact H.ownZ9 3 rfl
    | n + 3 => simp at hu
  · have key : ∀ {i j : Nat} {u v : Value} {lu lv : List Int}, i ≠ j → (pBlk g #[a, b, c] 79 :: pZ9 a la :: pZ9 b lb :: pZ9 c lc :: L)[i]? = some (pZ9 u lu) → (pBlk g #[a, b, c] 79 :: pZ9 a la :: pZ9 b lb :: pZ9 c lc :: L)[j]? = some (pZ9 v lv) → u.ownBlock = none ∨ u.ownBlock ≠ v.ownBlock := by
      intro i j u v lu lv hij hi hj
      rcases hb : u.ownBlock with _ | k
      · exact .inl rfl
      · exact .inr fun e => H.apart hij hi hj (show (pZ9 u lu).own k from hb) (show (pZ9 v lv).own k from e.symm)
    intro i j u v hij hu hv
    match i, j with
    | 0, 1 => simp at hu hv; subst hu hv; exact key (i := 1) (j := 2) (by decide) rfl rfl
    | 0, 2 => simp at hu hv; subst hu hv; exact key (i := 1) (j := 3) (by decide) rfl rfl
    | 1, 2 => simp at hu hv; subst hu hv; exact key (i := 2) (j := 3) (by decide) rfl rfl
    | 0, 0 | 1, 0 | 1, 1 | 2, 0 | 2, 1 | 2, 2 => omega
    | i, j + 3 => simp at hv
    | i + 3, j => simp at hu
namespace Rd
theorem region_R6 {P : Program} {id : Nat} {Q : Exit → Act → World → Prop} {a : Act} {w w0 : World} {l : List Oper} (L : List Part) (L1 : List Part) (sp : List Nat) (p : Plan) (H : Holds w0 w L1) (hL : L.Sublist L1)
    (hm : P.follows .mixedOrders = true) (hsel : Region.noSelect l.toArray = true) (hB : planB .any l.toArray sp l.toArray.size p (Array.replicate l.toArray.size false) = true)
    {α1 α2 α3 α4 α5 α6 : Type} (F : α1 → α2 → α3 → α4 → α5 → α6 → List Part) (act : α1 → α2 → α3 → α4 → α5 → α6 → Act)
    (h : ∀ K : Act → World → Prop, (∀ g1 g2 g3 g4 g5 g6 wx, Holds w0 wx (F g1 g2 g3 g4 g5 g6) → K (act g1 g2 g3 g4 g5 g6) wx) → walkV P l.toArray (fun wx => Holds w0 wx L) (fun k => sp.contains k) K p a (fun wx => Holds w0 wx L1))
    (key : ∀ g1 g2 g3 g4 g5 g6 wx, Holds w0 wx (F g1 g2 g3 g4 g5 g6) → Q .normal (act g1 g2 g3 g4 g5 g6) wx) : (Code.region id l.toArray true).wp P Q a w :=
  region_P L L1 sp p H hL hm hsel hB (h (fun a' w' => Q .normal a' w') key)
theorem region_R8 {P : Program} {id : Nat} {Q : Exit → Act → World → Prop} {a : Act} {w w0 : World} {l : List Oper} (L : List Part) (L1 : List Part) (sp : List Nat) (p : Plan) (H : Holds w0 w L1) (hL : L.Sublist L1)
    (hm : P.follows .mixedOrders = true) (hsel : Region.noSelect l.toArray = true) (hB : planB .any l.toArray sp l.toArray.size p (Array.replicate l.toArray.size false) = true)
    {α1 α2 α3 α4 α5 α6 α7 α8 : Type} (F : α1 → α2 → α3 → α4 → α5 → α6 → α7 → α8 → List Part) (act : α1 → α2 → α3 → α4 → α5 → α6 → α7 → α8 → Act)
    (h : ∀ K : Act → World → Prop, (∀ g1 g2 g3 g4 g5 g6 g7 g8 wx, Holds w0 wx (F g1 g2 g3 g4 g5 g6 g7 g8) → K (act g1 g2 g3 g4 g5 g6 g7 g8) wx) → walkV P l.toArray (fun wx => Holds w0 wx L) (fun k => sp.contains k) K p a (fun wx => Holds w0 wx L1))
    (key : ∀ g1 g2 g3 g4 g5 g6 g7 g8 wx, Holds w0 wx (F g1 g2 g3 g4 g5 g6 g7 g8) → Q .normal (act g1 g2 g3 g4 g5 g6 g7 g8) wx) : (Code.region id l.toArray true).wp P Q a w :=
  region_P L L1 sp p H hL hm hsel hB (h (fun a' w' => Q .normal a' w') key)
end Rd
end Go.Proofs.Ytpkfjdaedaplfaa

namespace Go.Proofs.Ytpkfjdaedaplfaa
open Go.RowKit

/-- the cells of a list of fractions -/
def fc (l : List (Int × Int)) : List Value := l.flatMap fun x => [Value.int .i64 x.1, Value.int .i64 x.2]
theorem fc_length (l : List (Int × Int)) : (fc l).length = l.length * 2 := by unfold fc; induction l with
  | nil => rfl
  | cons x l ih => rw [List.flatMap_cons, List.length_append, ih, List.length_cons]; simp; omega
theorem fc_cons (x : Int × Int) (l : List (Int × Int)) : fc (x :: l) = .int .i64 x.1 :: .int .i64 x.2 :: fc l := rfl
theorem fc_append (l m : List (Int × Int)) : fc (l ++ m) = fc l ++ fc m := by unfold fc; rw [List.flatMap_append]
theorem fc_get (l : List (Int × Int)) (i : Nat) (x : Int × Int) (h : l[i]? = some x) : (fc l)[i * 2]? = some (.int .i64 x.1) ∧ (fc l)[i * 2 + 1]? = some (.int .i64 x.2) := by
  induction l generalizing i with
  | nil => simp at h
  | cons y l ih =>
    cases i with
    | zero => simp only [List.getElem?_cons_zero, Option.some.injEq] at h; subst h; rw [fc_cons]; exact ⟨rfl, rfl⟩
    | succ i =>
      rw [List.getElem?_cons_succ] at h
      rw [fc_cons, show (i + 1) * 2 = (i * 2) + 1 + 1 by omega]
      exact ih i h
theorem fc_set (l : List (Int × Int)) (i : Nat) (x : Int × Int) : ((fc l).set (i * 2) (.int .i64 x.1)).set (i * 2 + 1) (.int .i64 x.2) = fc (l.set i x) := by
  induction l generalizing i with
  | nil => simp [fc]
  | cons y l ih =>
    cases i with
    | zero => rfl
    | succ i =>
      rw [List.set_cons_succ, fc_cons, fc_cons, ← ih, show (i + 1) * 2 = (i * 2) + 1 + 1 by omega]
      rfl
def OwnF (B : Nat) (w : World) (v : Value) (l : List (Int × Int)) : Prop := w.ownsRow B 25 2 v l.length (fc l)
/-- a slice whose cells read as the list -/
def RdF (w : World) (v : Value) (l : List (Int × Int)) : Prop :=
  ∃ (A : Option Addr) (c : Nat), v = .slice A l.length c ∧ l.length ≤ 9223372036854775807 ∧ ∀ (i : Nat) (x : Int × Int), l[i]? = some x → ∃ a, A = some a ∧ a.block < w.heap.size ∧ w.cell? (a.add (i * 2)) = some (.int .i64 x.1) ∧ w.cell? ⟨(a.add (i * 2)).block, (a.add (i * 2)).off + 1, none⟩ = some (.int .i64 x.2)
theorem RdF.form {w : World} {v : Value} {l : List (Int × Int)} (h : RdF w v l) : ∃ A c, v = .slice A l.length c ∧ l.length ≤ 9223372036854775807 := by
  obtain ⟨A, c, h1, h2, _⟩ := h; exact ⟨A, c, h1, h2⟩
theorem RdF.at {w : World} {A : Option Addr} {n c k : Nat} {l : List (Int × Int)} (h : RdF w (.slice A n c) l) (hk : k < l.length) :
    ∃ a, A = some a ∧ a.block < w.heap.size ∧ w.cell? (a.add (k * 2)) = some (.int .i64 l[k].1) ∧ w.cell? ⟨(a.add (k * 2)).block, (a.add (k * 2)).off + 1, none⟩ = some (.int .i64 l[k].2) := by
  obtain ⟨A', c', e, _, h3⟩ := h
  injection e with e1 _ _
  subst e1
  exact h3 k _ (List.getElem?_eq_getElem hk)
theorem RdF.atC {w w' : World} {a : Addr} {C n c k : Nat} {l : List (Int × Int)} (h : RdF w (.slice (some a) n c) l) (hb : Below C w w') (hC : w.heap.size ≤ C) (hk : k < l.length) :
    w'.cell? (a.add (k * 2)) = some (.int .i64 l[k].1) ∧ w'.cell? ⟨(a.add (k * 2)).block, (a.add (k * 2)).off + 1, none⟩ = some (.int .i64 l[k].2) := by
  obtain ⟨a', e, h4, h5, h6⟩ := h.at hk
  obtain rfl := Option.some.inj e
  have hq : ∀ i, (a.add i).block = a.block := fun i => by unfold Addr.add; split <;> rfl
  exact ⟨by rw [← h5]; exact hb.cell (p := a.add (k * 2)) (by rw [hq]; omega), by rw [← h6]; exact hb.cell (p := ⟨(a.add (k * 2)).block, (a.add (k * 2)).off + 1, none⟩) (by show (a.add (k * 2)).block < _; rw [hq]; omega)⟩
theorem RdF.below {C : Nat} {w w' : World} {v : Value} {l : List (Int × Int)} (h : RdF w v l) (hb : Below C w w') (hC : w.heap.size ≤ C) : RdF w' v l := by
  obtain ⟨A, c, h1, h2, h3⟩ := h
  refine ⟨A, c, h1, h2, fun i x hx => ?_⟩
  obtain ⟨a, e, h4, h5, h6⟩ := h3 i x hx
  have hq : ∀ i, (a.add i).block = a.block := fun i => by unfold Addr.add; split <;> rfl
  refine ⟨a, e, Nat.lt_of_lt_of_le h4 hb.size, ?_, ?_⟩
  · rw [← h5]; exact hb.cell (p := a.add (i * 2)) (by rw [hq]; omega)
  · rw [← h6]; exact hb.cell (p := ⟨(a.add (i * 2)).block, (a.add (i * 2)).off + 1, none⟩) (by show (a.add (i * 2)).block < _; rw [hq]; omega)
theorem OwnF.rd {B : Nat} {w : World} {v : Value} {l : List (Int × Int)} (h : OwnF B w v l) (hl : l.length ≤ 9223372036854775807) : RdF w v l := by
  rcases h.2 with ⟨e, h0⟩ | ⟨g, cap, cur, e, hB, hh, h1, h2, h3, h4⟩
  · exact ⟨none, 0, by rw [e, h0], hl, fun i x hx => by have := (List.getElem?_eq_some_iff.1 hx).1; omega⟩
  · refine ⟨_, _, e, hl, fun i x hx => ⟨_, rfl, (Array.getElem?_eq_some_iff.1 hh).1, ?_⟩⟩
    have hadd : ∀ j, (⟨g, 0, none⟩ : Addr).add j = ⟨g, j, none⟩ := fun j => by unfold Addr.add; split <;> simp_all
    rw [hadd, cell_of_cells, cell_of_cells, cellsOf_heap hh]
    have hi := (List.getElem?_eq_some_iff.1 hx).1
    have e2 : ∀ j : Nat, (cur.toList.take (l.length * 2))[j]? = (fc l)[j]? := fun j => by rw [h4]
    have e3 := e2 (i * 2)
    have e4 := e2 (i * 2 + 1)
    rw [List.getElem?_take_of_lt (by omega), Array.getElem?_toList, (fc_get l i x hx).1] at e3
    rw [List.getElem?_take_of_lt (by omega), Array.getElem?_toList, (fc_get l i x hx).2] at e4
    exact ⟨e3, e4⟩
set_option maxRecDepth 100000 in
set_option maxHeartbeats 400000 in
theorem szFractionS_any (A : Option Addr) (n c : Nat) (hn : n ≤ 9223372036854775807) (w : World) :
    Calls Try.prog 28 #[.slice A n c, .int .i64 1048576] w fun e w' => e = .returned (.int .i64 (if 1048576 < n then -1 else 1048576 - n)) ∧ w' = w := by
  by_cases hlt : 1048576 < n
  · rw [if_pos hlt]
    have hd : decide ((1048576 : Int) - (n : Int) < 0) = true := by simp; omega
    go_enter Try.func28, Try.ntmps28
    go_wp2
    go_ret
    exact ⟨rfl, rfl⟩
  · rw [if_neg hlt]
    have hd : decide ((1048576 : Int) - (n : Int) < 0) = false := decide_eq_false (by omega)
    go_enter Try.func28, Try.ntmps28
    go_wp2
    go_ret
    exact ⟨rfl, rfl⟩
set_option maxRecDepth 100000 in
set_option maxHeartbeats 2000000 in
theorem eqFractionS_rd (l : List (Int × Int)) (v v' : Value) (w : World) (h : RdF w v l) (h' : RdF w v' l) :
    Calls Try.prog 32 #[v, v'] w fun e w' => e = .returned (.bool true) ∧ Below w.heap.size w w' := by
  obtain ⟨A, c, rfl, hl⟩ := h.form
  obtain ⟨A', c', rfl, _⟩ := h'.form
  have H := hide h; clear h
  have H' := hide h'; clear h'
  have hne : ((l.length : Int) != (l.length : Int)) = false := by simp
  go_enter Try.func32, Try.ntmps32
  go_wp2
  go_loopw [5] (fun i wr => ∃ k : Nat, k ≤ l.length ∧ i = .int .i64 k ∧ Below w.heap.size w wr) (fun i _ => l.length - (intOf i).toNat)
  case atStart => exact ⟨0, by omega, rfl, Below.refl _ _⟩
  case round =>
    obtain ⟨k, hk, rfl, hb⟩ := hrel
    by_cases hlt : k < l.length
    · obtain ⟨a, rfl, _, _, _⟩ := (H.out.below hb (Nat.le_refl _)).at hlt
      obtain ⟨a', rfl, _, _, _⟩ := (H'.out.below hb (Nat.le_refl _)).at hlt
      have CA := hide fun (wx : World) (hx : Holds w wx []) => And.intro (H.out.atC hx.low (Nat.le_refl _) hlt) (H'.out.atC hx.low (Nat.le_refl _) hlt)
      have C := hide fun w => eqFraction_same l[k].1 l[k].2 w
      generalize l[k].1 = x at *
      generalize l[k].2 = y at *
      go_wp2_with fail
      refine region_H (w0 := w) (L := []) (by kernel_rfl) (by kernel_rfl) ⟨hb, by simp, List.Pairwise.nil⟩ ?_
      iterate 8 (
        apply q_step
        · go_simp
        · intro wx hx
          have c1 := (CA.out wx hx).1.1
          have c2 := (CA.out wx hx).1.2
          have d1 := (CA.out wx hx).2.1
          have d2 := (CA.out wx hx).2.2
          go_simp
          exact rfl)
      apply q_step
      · go_simp
      · intro wx hx
        go_simp
        go_at_call 20
        exact Calls.mono (C.out wx) fun e w' h => ⟨h.1, hx.call h.2⟩
      apply q_step
      · go_simp
      · intro wx hx
        go_simp
        exact rfl
      refine wpQuiet_nil ?_
      intro w2 hx
      have hb2 := hx.low
      clear hx CA C
      go_simp
      go_wp2
      go_roundw
      case rel => exact ⟨k + 1, by omega, by go_num, hb2⟩
      case measure => simp [intOf]; omega
    · obtain rfl : k = l.length := by omega
      clear hlt hk
      go_wp2
      go_ret
      exact ⟨rfl, hb⟩
def pFr (v : Value) (l : List (Int × Int)) : Part := pRow v 25 2 l.length (fc l)
theorem Holds.ownF {w0 w : World} {L : List Part} (h : Holds w0 w L) (i : Nat) {v : Value} {l : List (Int × Int)} (hi : L[i]? = some (pFr v l)) : OwnF w0.heap.size w v l := h.row i hi
theorem Holds.rdF {w0 w : World} {L : List Part} (h : Holds w0 w L) (i : Nat) {v : Value} {l : List (Int × Int)} (hi : L[i]? = some (pFr v l)) (hl : l.length ≤ 9223372036854775807) : RdF w v l := OwnF.rd (h.ownF i hi) hl
theorem Holds.newF {w0 w w' : World} {L : List Part} (h : Holds w0 w L) (hb : Below w.heap.size w w') {v : Value} {l : List (Int × Int)} (hr : OwnF w.heap.size w' v l) : Holds w0 w' (pFr v l :: L) := h.newRow hb hr
theorem pFr_len {w : World} {A : Option Addr} {n c : Nat} {l : List (Int × Int)} (h : (pFr (.slice A n c) l).ok w) : n = l.length := by
  rcases (show w.ownsRow 0 25 2 (.slice A n c) l.length (fc l) from h).2 with ⟨e, h0⟩ | ⟨_, _, _, e, _⟩
  · injection e with _ e _; omega
  · injection e with _ e _
theorem Holds.setF {w0 w : World} {L : List Part} (h : Holds w0 w L) (i : Nat) {g n c : Nat} {l : List (Int × Int)} (hi : L[i]? = some (pFr (.slice (some ⟨g, 0, none⟩) n c) l)) (k : Nat) (x : Int × Int) :
    Holds w0 ((w.setCell ⟨g, k * 2, none⟩ (.int .i64 x.1)).setCell ⟨g, k * 2 + 1, none⟩ (.int .i64 x.2)) (L.set i (pFr (.slice (some ⟨g, 0, none⟩) n c) (l.set k x))) := by
  obtain rfl := pFr_len (h.at i hi)
  have h1 := h.put i hi (k * 2) (.int .i64 x.1)
  have h2 := h1.put i (g := g) (n := l.length) (c := c) (e := 25) (s := 2) (xs := (fc l).set (k * 2) (.int .i64 x.1)) (by rw [List.getElem?_set, if_pos rfl, if_pos (List.getElem?_eq_some_iff.1 hi).1]) (k * 2 + 1) (.int .i64 x.2)
  rw [fc_set, List.set_set] at h2
  unfold pFr
  rw [List.length_set]
  exact h2
theorem Holds.cellF {w0 w : World} {L : List Part} (h : Holds w0 w L) (i : Nat) {g n c : Nat} {l : List (Int × Int)} (hi : L[i]? = some (pFr (.slice (some ⟨g, 0, none⟩) n c) l)) {k : Nat} (hk : k < l.length) :
    w.cell? ⟨g, k * 2, none⟩ = some (.int .i64 l[k].1) ∧ w.cell? ⟨g, k * 2 + 1, none⟩ = some (.int .i64 l[k].2) ∧ w.frozen? ⟨g, k * 2, none⟩ = false ∧ w.frozen? ⟨g, k * 2 + 1, none⟩ = false := by
  obtain rfl := pFr_len (h.at i hi)
  have hr : w.ownsRow 0 25 2 (.slice (some ⟨g, 0, none⟩) l.length c) l.length (fc l) := h.at i hi
  obtain ⟨g', c', e, _, _, _, _, h1, h2⟩ := row_at hr (by omega)
  injection e with e1 _ _
  injection e1 with e1
  injection e1 with e1 _ _
  subst e1
  have e2 := fc_get l k l[k] (List.getElem?_eq_getElem hk)
  exact ⟨h1 _ _ e2.1, h1 _ _ e2.2, h2 _, h2 _⟩
theorem infoFr : (Try.prog.info? 25).map (fun i => (i.zero, i.size, i.bytes)) = some (some (.agg #[.int .i64 0, .int .i64 0]), 2, 16) := by kernel_rfl
theorem madeF (n : Nat) : (madeCells #[Value.int .i64 0, Value.int .i64 0] (n * 2)).toList = fc (List.replicate n (0, 0)) := by
  apply List.ext_getElem?
  intro j
  by_cases hj : j < n * 2
  · have hq : j / 2 < n := by omega
    have e := fc_get (List.replicate n ((0 : Int), (0 : Int))) (j / 2) (0, 0) (by rw [List.getElem?_replicate, if_pos hq])
    have hm : (madeCells #[Value.int .i64 0, Value.int .i64 0] (n * 2)).toList[j]? = some (.int .i64 0) := by
      rw [Array.getElem?_toList]
      unfold madeCells
      rw [Array.getElem?_map, Array.getElem?_range, if_pos hj]
      rcases Nat.mod_two_eq_zero_or_one j with h | h <;> simp [h]
    rw [hm]
    rcases Nat.mod_two_eq_zero_or_one j with h | h
    · rw [show j = j / 2 * 2 by omega, e.1]
    · rw [show j = j / 2 * 2 + 1 by omega, e.2]
  · rw [List.getElem?_eq_none (by rw [Array.length_toList, size_madeCells]; omega), List.getElem?_eq_none (by rw [fc_length, List.length_replicate]; omega)]
/-- the first k, zeros behind them -/
def upF (l : List (Int × Int)) (k : Nat) : List (Int × Int) := l.take k ++ List.replicate (l.length - k) (0, 0)
theorem upF_length (l : List (Int × Int)) {k : Nat} (h : k ≤ l.length) : (upF l k).length = l.length := by unfold upF; simp; omega
theorem upF_set (l : List (Int × Int)) {k : Nat} (h : k < l.length) : (upF l k).set k l[k] = upF l (k + 1) := by
  unfold upF
  rw [List.set_append_right _ _ (by simp; omega), List.take_succ_eq_append_getElem h]
  have e : k - (l.take k).length = 0 := by simp; omega
  rw [e, show l.length - k = (l.length - (k + 1)) + 1 from by omega, List.replicate_succ, List.set_cons_zero, List.append_assoc]
  rfl
set_option maxRecDepth 100000 in
set_option maxHeartbeats 1000000 in
theorem toFractionS_any (l : List (Int × Int)) (v : Value) (w : World) (h : RdF w v l) (hl : l.length ≤ 1048576) :
    Calls Try.prog 30 #[v] w fun e w' => ∃ u, e = .returned u ∧ Below w.heap.size w w' ∧ OwnF w.heap.size w' u l := by
  obtain ⟨A, c, rfl, _⟩ := h.form
  obtain ⟨i0, hi, hz0, hz1, hz2⟩ := info_parts infoFr
  have I0 := hide (And.intro hi (And.intro hz0 (And.intro hz1 hz2))); clear hi hz0 hz1 hz2
  have H := hide h; clear h
  have hb8 := I0.out.2.2.2
  have hbb : i0.bytes * l.length ≤ 281474976710656 := by rw [hb8]; omega
  clear hb8
  go_enter Try.func30, Try.ntmps30
  go_wp2_with (refine wpList_make_full _ rfl _ _ 46 rfl w.heap.size 25 i0 (.agg #[.int .i64 0, .int .i64 0]) 2 Try.underlying46 I0.out.1 I0.out.2.1 I0.out.2.2.1 .i64 .i64 _ _ l.length rfl rfl rfl rfl hbb (by unfold maxLen; omega) (Nat.le_refl _) ?_)
  intro w1 ho hg
  have b1 : Below w.heap.size w w1 := (Below.refl _ _).grown hg (Nat.le_refl _) (fun k hk => by cases hk)
  have hz : (madeCells #[Value.int .i64 0, Value.int .i64 0] (l.length * 2)).toList = fc (upF l 0) := by rw [madeF]; unfold upF; simp
  rw [hz] at ho
  clear hz hbb
  have ho' : OwnF w.heap.size w1 (.slice (some ⟨w.heap.size, 0, none⟩) l.length l.length) (upF l 0) := by
    unfold OwnF; rw [upF_length l (Nat.zero_le _)]; exact ho
  have HO := hide ((Holds.start w).newF b1 ho'); clear ho ho' hg b1
  go_wp2
  go_loopw [4] (fun i wr => ∃ k : Nat, k ≤ l.length ∧ i = .int .i64 k ∧ Holds w wr [pFr (.slice (some ⟨w.heap.size, 0, none⟩) l.length l.length) (upF l k)]) (fun i _ => l.length - (intOf i).toNat)
  case atStart => exact ⟨0, by omega, rfl, HO.out⟩
  case round =>
    clear HO
    obtain ⟨k, hk, rfl, ho⟩ := hrel
    by_cases hlt : k < l.length
    · obtain ⟨a, rfl, _, _⟩ := (H.out.below ho.low (Nat.le_refl _)).at hlt
      have c1 := (H.out.atC ho.low (Nat.le_refl _) hlt).1
      have c2 := (H.out.atC ho.low (Nat.le_refl _) hlt).2
      have C := hide fun w => toFraction_any l[k].1 l[k].2 w
      have hup := upF_set l hlt
      have HS := hide fun (wx : World) (hx : Holds w wx [pFr (.slice (some ⟨w.heap.size, 0, none⟩) l.length l.length) (upF l k)]) => (show Holds w ((wx.setCell ⟨w.heap.size, k * 2, none⟩ (.int .i64 l[k].1)).setCell ⟨w.heap.size, k * 2 + 1, none⟩ (.int .i64 l[k].2)) [pFr (.slice (some ⟨w.heap.size, 0, none⟩) l.length l.length) (upF l (k + 1))] from by
        have := hx.setF 0 rfl k l[k]
        rw [hup] at this
        exact this)
      have hkl : k < (upF l k).length := by rw [upF_length l hk]; exact hlt
      have HC := hide fun (wx : World) (hx : Holds w wx [pFr (.slice (some ⟨w.heap.size, 0, none⟩) l.length l.length) (upF l k)]) => hx.cellF 0 rfl hkl
      clear hup
      generalize l[k].1 = x at *
      generalize l[k].2 = y at *
      generalize (upF l k)[k].1 = p at *
      generalize (upF l k)[k].2 = q at *
      clear hkl
      go_wp2_with fail
      refine (C.out _).mono ?_
      rintro e w2 ⟨rfl, hb⟩
      have H2 := ho.call hb
      clear ho hb c1 c2
      have d1 := (HC.out _ H2).1
      have d2 := (HC.out _ H2).2.1
      have d3 := (HC.out _ H2).2.2.1
      have d4 := (HC.out _ H2).2.2.2
      have H3 := hide (HS.out _ H2)
      clear H2
      go_wp2
      go_roundw
      case rel => exact ⟨k + 1, by omega, by go_num, H3.out⟩
      case measure => simp [intOf]; omega
    · obtain rfl : k = l.length := by omega
      have hul : upF l l.length = l := by unfold upF; simp
      rw [hul] at ho
      have HO := hide ho; clear ho hul hlt hk
      go_wp2
      go_ret
      exact ⟨_, rfl, HO.out.low, HO.out.ownF 0 rfl⟩
section
open Go.ChangeShapes Go.WideShapes Go.Deep
variable {H : Type} {enc : TypeId × Value → H} {w : World} {base : Nat} {spare : Nat → Bool} {held : Bool}
theorem next_cell (a : Addr) (hs : a.spot = none) : (⟨a.block, a.off + 1, none⟩ : Addr) = a.add 1 := by unfold Addr.add; simp
theorem spot_none {w : World} {a : Addr} {v : Value} (h : w.cell? a = some v) : a.spot = none := by
  unfold World.cell? at h
  split at h
  · split at h
    · cases h
    · rename_i k; simpa using k
  · cases h
theorem add_block (a : Addr) (i : Nat) : (a.add i).block = a.block := by unfold Addr.add; split <;> rfl
set_option maxRecDepth 100000 in
theorem open_frs {r : Reach} {b0 : Nat} {v : Value} {d : DataW H} {ps : List MemPlace}
    (hval : Value.okWide Try.prog w r b0 43 v) (hd : DataW.Trod enc Try.prog w base spare held 43 v d ps) : ∃ l : List (Int × Int), RdF w v l ∧ True := by
  obtain ⟨a0, len0, cap0, rfl⟩ := okWide_slice Try.underlying43 hval
  obtain ⟨fuel, hf⟩ := hd
  rcases Go.Deep.open_slice Try.underlying43 hf with ⟨e1, _⟩ | ⟨a, len, cap, m, n, D, Pl, e1, _, hl, hm, hmm, _, hV⟩
  · injection e1 with e1
    rw [e1]
    exact ⟨[], ⟨none, 0, rfl, by simp, fun i x hx => by simp at hx⟩, trivial⟩
  · injection e1 with e1
    rw [e1]
    have hlm : len ≤ m := by rw [hmm]; split <;> omega
    have hC : Try.prog.cellsOf 23 = 2 := by kernel_rfl
    have h1 : Try.prog.cellsOf 2 = 1 := by kernel_rfl
    rw [hC] at hV
    have key : ∀ i, i < len → ∃ x : Int × Int, w.cell? (a.add (i * 2)) = some (.int .i64 x.1) ∧ w.cell? ⟨(a.add (i * 2)).block, (a.add (i * 2)).off + 1, none⟩ = some (.int .i64 x.2) := by
      intro i hi
      obtain ⟨cs', hc, ht⟩ := hV i (by omega)
      obtain ⟨_, hcl, hat⟩ := World.cells?_some hc
      obtain ⟨xs, k, _, hx, _, hlen, hfl⟩ := DataW.trod_struct Try.underlying23 ht
      have hx2 : xs.length = 2 := hlen
      have g0 : DataW.trod enc Try.prog w base spare held k 2 (List.take (Try.prog.cellsOf 2) (List.drop 0 cs')) = xs[0]? := hfl 0 _ rfl
      have g1 : DataW.trod enc Try.prog w base spare held k 2 (List.take (Try.prog.cellsOf 2) (List.drop 1 cs')) = xs[1]? := hfl 1 _ rfl
      rw [List.getElem?_eq_getElem (by omega), h1] at g0 g1
      obtain ⟨x, ex, _, _⟩ := DataW.trod_int Try.underlying2 g0
      obtain ⟨y, ey, _, _⟩ := DataW.trod_int Try.underlying2 g1
      have c0 := hat 0 (by omega)
      have c1 := hat 1 (by omega)
      have e0 : cs'[0]? = some (.int .i64 x) := by have := congrArg (·[0]?) ex; simpa [List.getElem?_take] using this
      have e1 : cs'[1]? = some (.int .i64 y) := by have := congrArg (·[0]?) ey; simpa [List.getElem?_take] using this
      rw [e0] at c0
      rw [e1] at c1
      have c0' : w.cell? (a.add (i * 2)) = some (.int .i64 x) := by rw [← c0]; unfold Addr.add; simp
      exact ⟨(x, y), c0', by rw [next_cell _ (spot_none c0')]; exact c1⟩
    obtain ⟨L, hL⟩ : ∃ L : Nat → Int × Int, ∀ i, i < len → w.cell? (a.add (i * 2)) = some (.int .i64 (L i).1) ∧ w.cell? ⟨(a.add (i * 2)).block, (a.add (i * 2)).off + 1, none⟩ = some (.int .i64 (L i).2) := by
      refine ⟨fun i => if h : i < len then (key i h).choose else (0, 0), fun i hi => ?_⟩
      simp only [hi, dif_pos]
      exact (key i hi).choose_spec
    refine ⟨(List.range len).map L, ⟨some a, cap, by simp, ?_, fun i x hx => ?_⟩, trivial⟩
    · have : maxLen = 9223372036854775807 := rfl
      simp; omega
    · have hi : i < len := by have := (List.getElem?_eq_some_iff.1 hx).1; simpa using this
      simp [hi] at hx
      subst hx
      refine ⟨a, rfl, ?_, hL i hi⟩
      rw [← add_block a (i * 2)]
      have hc' := (hL i hi).1
      rcases Nat.lt_or_ge (a.add (i * 2)).block w.heap.size with c | c
      · exact c
      · unfold World.cell? at hc'
        rw [Array.getElem?_eq_none c] at hc'
        simp at hc'
end
end Go.Proofs.Ytpkfjdaedaplfaa

namespace Go.Proofs.Ytpkfjdaedaplfaa
open Go.RowKit

@[go_sem] theorem guardFr : Try.prog.eqGuardType Try.prog.depth 25 = false := by kernel_rfl
@[go_sem] theorem guardMv : Try.prog.eqGuardType Try.prog.depth 38 = false := by kernel_rfl
@[irreducible] def eqF (a b c d : Int) : Bool := (a == c) && (b == d)
@[irreducible] def eqM (a b c x y z : Int) : Bool := (a == x) && ((b == y) && (c == z))
theorem eqF_iff (a b c d : Int) : eqF a b c d = true ↔ a = c ∧ b = d := by unfold eqF; simp
theorem eqM_iff (a b c x y z : Int) : eqM a b c x y z = true ↔ a = x ∧ b = y ∧ c = z := by unfold eqM; simp
theorem fieldsFr : ((Try.prog.fieldsOf 25).toList.map fun f => (f.name != "_", f.type, f.offset)) = [(true, 2, 0), (true, 2, 1)] := by kernel_rfl
theorem fieldsMv : ((Try.prog.fieldsOf 38).toList.map fun f => (f.name != "_", f.type, f.offset)) = [(true, 2, 0), (true, 2, 1), (true, 2, 2)] := by kernel_rfl
theorem undFr : Try.prog.underlying 25 = some (.struct (Try.prog.fieldsOf 25)) := by kernel_rfl
theorem undMv : Try.prog.underlying 38 = some (.struct (Try.prog.fieldsOf 38)) := by kernel_rfl
theorem stoodFr : Try.prog.stoodInHeld 25 = false := by kernel_rfl
theorem stoodMv : Try.prog.stoodInHeld 38 = false := by kernel_rfl
theorem plain64 : Try.prog.plainKey 2 = true := by kernel_rfl
set_option maxHeartbeats 400000 in
@[go_sem high] theorem run_sameFr (a b c d : Int) (w : World) : (Op.equalIn 10000 25 (.agg #[.int .i64 a, .int .i64 b]) (.agg #[.int .i64 c, .int .i64 d])).run Try.prog w = .ok (eqF a b c d) w := by
  rw [run_equalIn_struct w 9999 _ _ _ undFr stoodFr]
  have h := fieldsFr
  rcases hl : (Try.prog.fieldsOf 25).toList with _ | ⟨f0, _ | ⟨f1, _ | ⟨f2, l⟩⟩⟩ <;> rw [hl] at h
  · cases h
  · simp at h
  · simp only [List.map_cons, List.map_nil, List.cons.injEq, Prod.mk.injEq, bne_iff_ne] at h
    obtain ⟨⟨n0, t0, o0⟩, ⟨n1, t1, o1⟩, -⟩ := h
    have p : ∀ (xs : Array Value) (i : Nat) (x : Int) (w : World), xs[i]? = some (.int .i64 x) → (part 2 xs i).run Try.prog w = .ok (.int .i64 x) w := fun xs i x w hx => run_part_plain w plain64 hx
    have q : ∀ (x y : Int) (w : World), (Op.equalIn 9999 2 (.int .i64 x) (.int .i64 y)).run Try.prog w = .ok (x == y) w := fun x y w => run_equalIn_int w 9998 2 .i64 .i64 x y Try.underlying2
    simp only [Op.eqFields, if_pos n0, if_pos n1, t0, t1, o0, o1, Sem.run_bind, p #[.int .i64 a, .int .i64 b] 0 a w rfl, p #[.int .i64 c, .int .i64 d] 0 c w rfl, q, Result.andThen_ok]
    unfold eqF
    rcases (a == c) with _ | _
    · simp
    · simp only [Bool.not_true, Bool.false_eq_true, if_false, Sem.run_bind, p #[.int .i64 a, .int .i64 b] 1 b w rfl, p #[.int .i64 c, .int .i64 d] 1 d w rfl, q, Result.andThen_ok]
      rcases (b == d) with _ | _ <;> simp
  · simp at h
set_option maxHeartbeats 400000 in
@[go_sem high] theorem run_sameMv (a b c x y z : Int) (w : World) : (Op.equalIn 10000 38 (.agg #[.int .i64 a, .int .i64 b, .int .i64 c]) (.agg #[.int .i64 x, .int .i64 y, .int .i64 z])).run Try.prog w = .ok (eqM a b c x y z) w := by
  rw [run_equalIn_struct w 9999 _ _ _ undMv stoodMv]
  have h := fieldsMv
  rcases hl : (Try.prog.fieldsOf 38).toList with _ | ⟨f0, _ | ⟨f1, _ | ⟨f2, _ | ⟨f3, l⟩⟩⟩⟩ <;> rw [hl] at h
  · cases h
  · simp at h
  · simp at h
  · simp only [List.map_cons, List.map_nil, List.cons.injEq, Prod.mk.injEq, bne_iff_ne] at h
    obtain ⟨⟨n0, t0, o0⟩, ⟨n1, t1, o1⟩, ⟨n2, t2, o2⟩, -⟩ := h
    have p : ∀ (xs : Array Value) (i : Nat) (x : Int) (w : World), xs[i]? = some (.int .i64 x) → (part 2 xs i).run Try.prog w = .ok (.int .i64 x) w := fun xs i x w hx => run_part_plain w plain64 hx
    have q : ∀ (x y : Int) (w : World), (Op.equalIn 9999 2 (.int .i64 x) (.int .i64 y)).run Try.prog w = .ok (x == y) w := fun x y w => run_equalIn_int w 9998 2 .i64 .i64 x y Try.underlying2
    simp only [Op.eqFields, if_pos n0, if_pos n1, if_pos n2, t0, t1, t2, o0, o1, o2, Sem.run_bind, p #[.int .i64 a, .int .i64 b, .int .i64 c] 0 a w rfl, p #[.int .i64 x, .int .i64 y, .int .i64 z] 0 x w rfl, q, Result.andThen_ok]
    unfold eqM
    rcases (a == x) with _ | _
    · simp
    · simp only [Bool.not_true, Bool.false_eq_true, if_false, Sem.run_bind, p #[.int .i64 a, .int .i64 b, .int .i64 c] 1 b w rfl, p #[.int .i64 x, .int .i64 y, .int .i64 z] 1 y w rfl, q, Result.andThen_ok]
      rcases (b == y) with _ | _
      · simp
      · simp only [Bool.not_true, Bool.false_eq_true, if_false, Sem.run_bind, p #[.int .i64 a, .int .i64 b, .int .i64 c] 2 c w rfl, p #[.int .i64 x, .int .i64 y, .int .i64 z] 2 z w rfl, q, Result.andThen_ok]
        rcases (c == z) with _ | _ <;> simp
  · simp at h
/-- what FractionOf tells -/
def foB (P Q : Int) : Bool := prt P && (prt Q && !((P == 0) && (Q == 0)))
def foN (P Q : Int) : Int := if foB P Q = true then (nrm P Q).1 else 0
def foD (P Q : Int) : Int := if foB P Q = true then (nrm P Q).2 else 0
def foC (P Q : Int) : Int := if foB P Q = true then 0 else 2
theorem foB_true {P Q : Int} (h : foB P Q = true) : isP P ∧ isP Q ∧ (P ≠ 0 ∨ Q ≠ 0) ∧ prt P = true ∧ prt Q = true := by
  unfold foB at h
  rw [Bool.and_eq_true, Bool.and_eq_true] at h
  obtain ⟨h1, h2, h3⟩ := h
  refine ⟨(prt_iff P).1 h1, (prt_iff Q).1 h2, ?_, h1, h2⟩
  simp at h3
  omega
theorem fo_res {P Q : Int} (h : foB P Q = true) : resN P Q = (nrm P Q).1 ∧ resD P Q = (nrm P Q).2 ∧ resC P Q 3 = 0 := by
  obtain ⟨h1, h2, h3, _⟩ := foB_true h
  obtain ⟨s1, s2⟩ := nrm_small h3
  have k : isP (nrm P Q).1 ∧ isP (nrm P Q).2 := by unfold isP at *; omega
  unfold resN resD resC
  rw [if_pos k, if_pos k, if_pos k]
  exact ⟨rfl, rfl, rfl⟩
set_option maxRecDepth 100000 in
set_option maxHeartbeats 1000000 in
theorem fractionOf_any (P Q : Int) (w : World) :
    Calls Try.prog 19 #[.int .i64 P, .int .i64 Q] w fun e w' => e = .returned (.tuple #[.agg #[.int .i64 (foN P Q), .int .i64 (foD P Q)], .int .i64 (foC P Q)]) ∧ Below w.heap.size w w' := by
  have HH := (Holds.start w).blk #[.int .i64 0, .int .i64 0] 25 w.heap.size rfl
  obtain ⟨b1, h1⟩ : ∃ b, prt P = b := ⟨_, rfl⟩
  obtain ⟨b2, h2⟩ : ∃ b, prt Q = b := ⟨_, rfl⟩
  obtain ⟨b3, h3⟩ : ∃ b, (P == 0) = b := ⟨_, rfl⟩
  obtain ⟨b4, h4⟩ : ∃ b, (Q == 0) = b := ⟨_, rfl⟩
  have hfo : foB P Q = (b1 && (b2 && !(b3 && b4))) := by unfold foB; rw [h1, h2, h3, h4]
  by_cases hb : (b1 && (b2 && !(b3 && b4))) = true
  · rw [hb] at hfo
    obtain ⟨i1, i2, hne, _, _⟩ := foB_true hfo
    have RES := fo_res hfo
    have CQ := hide fun (w1 : World) (va vb : Value) (L : List Part) H => quotientOf_any (w0 := w) (w := w1) (L := L) [P] [Q] va vb H (by simp) (by simp) (by simp) (by simp) (by simp; omega) (by simp; unfold isP at i1; omega) (by simp; unfold isP at i2; omega)
    simp only [prZ, Int.mul_one, RES.1, RES.2.1, RES.2.2] at CQ
    unfold foN foD foC
    rw [if_pos hfo, if_pos hfo, if_pos hfo]
    generalize (nrm P Q).1 = p at *
    generalize (nrm P Q).2 = q at *
    clear hfo RES i1 i2 hne
    have TAIL : True := trivial
    cases b1
    · cases hb
    cases b2
    · cases hb
    cases b3 <;> cases b4
    case true.true => cases hb
    all_goals (
      go_enter Try.func19, Try.ntmps19
      go_wp2_with fail
      refine (isPart_any _ _).mono ?_
      rintro e w4 ⟨rfl, rfl⟩
      rw [h1]
      go_wp2_with fail
      refine (isPart_any _ _).mono ?_
      rintro e w4 ⟨rfl, rfl⟩
      rw [h2]
      go_wp2_with fail
      have HX := ((HH.rowNew #[.int .i64 P] 2 1 1 (w.heap.size + 1) (by simp) rfl (by decide)).rowNew #[.int .i64 Q] 2 1 1 (w.heap.size + 1 + 1) (by simp) rfl (by decide)).perm (List.Perm.swap _ _ _)
      clear HH
      refine (CQ.out _ _ _ _ HX).mono ?_
      rintro e w5 ⟨rfl, H5⟩
      clear HX CQ
      have C4 := H5.cell 0 rfl (j := 0) (v := .int .i64 0) rfl
      have C5 := H5.cell 0 rfl (j := 1) (v := .int .i64 0) rfl
      have F4 := H5.frozen 0 rfl 0
      have F5 := H5.frozen 0 rfl 1
      have H6 := H5.set2 0 rfl (.int .i64 p) (.int .i64 q)
      have hl := H5.lt 0 rfl
      clear H5
      go_wp2_with fail
      exact res_agg2 (p := 4) (t := 5) (g := w.heap.size) (v := .int .i64 0) aggFr (by rfl) rfl rfl rfl rfl (H6.at 0 rfl) ⟨rfl, H6.low⟩)
  · have hb' : (b1 && (b2 && !(b3 && b4))) = false := by simpa using hb
    rw [hb'] at hfo
    clear hb
    unfold foN foD foC
    rw [hfo]
    simp only [Bool.false_eq_true, if_false]
    clear hfo
    cases b1
    · clear h2 h3 h4 hb'
      go_enter Try.func19, Try.ntmps19
      go_wp2_with fail
      refine (isPart_any _ _).mono ?_
      rintro e w4 ⟨rfl, rfl⟩
      rw [h1]
      go_wp2_with fail
      exact res_agg2 (p := 4) (t := 5) (g := w.heap.size) (v := .int .i64 2) aggFr (by rfl) rfl rfl rfl rfl (heap_at _ _ _ rfl) ⟨rfl, below1 _ _⟩
    cases b2
    · clear h3 h4 hb'
      go_enter Try.func19, Try.ntmps19
      go_wp2_with fail
      refine (isPart_any _ _).mono ?_
      rintro e w4 ⟨rfl, rfl⟩
      rw [h1]
      go_wp2_with fail
      refine (isPart_any _ _).mono ?_
      rintro e w4 ⟨rfl, rfl⟩
      rw [h2]
      go_wp2_with fail
      exact res_agg2 (p := 4) (t := 5) (g := w.heap.size) (v := .int .i64 2) aggFr (by rfl) rfl rfl rfl rfl (heap_at _ _ _ rfl) ⟨rfl, below1 _ _⟩
    cases b3
    · cases hb'
    cases b4
    · cases hb'
    go_enter Try.func19, Try.ntmps19
    go_wp2_with fail
    refine (isPart_any _ _).mono ?_
    rintro e w4 ⟨rfl, rfl⟩
    rw [h1]
    go_wp2_with fail
    refine (isPart_any _ _).mono ?_
    rintro e w4 ⟨rfl, rfl⟩
    rw [h2]
    go_wp2_with fail
    exact res_agg2 (p := 4) (t := 5) (g := w.heap.size) (v := .int .i64 2) aggFr (by rfl) rfl rfl rfl rfl (heap_at _ _ _ rfl) ⟨rfl, below1 _ _⟩
theorem in_prt (x : Int) : decide (-1000000000 ≤ x ∧ x ≤ 1000000000) = prt x := rfl
set_option maxRecDepth 100000 in
set_option maxHeartbeats 1000000 in
theorem sFractionOf_any (P Q : Int) (w : World) :
    Calls Try.prog 18 #[.int .i64 P, .int .i64 Q] w fun e w' => e = .returned (.tuple #[.agg #[.int .i64 (foN P Q), .int .i64 (foD P Q)], .int .i64 (foC P Q)]) ∧ Below w.heap.size w w' := by
  have HH := (Holds.start w).blk #[.int .i64 0, .int .i64 0] 25 w.heap.size rfl
  obtain ⟨b1, h1⟩ : ∃ b, prt P = b := ⟨_, rfl⟩
  obtain ⟨b2, h2⟩ : ∃ b, prt Q = b := ⟨_, rfl⟩
  obtain ⟨b3, h3⟩ : ∃ b, (P == 0) = b := ⟨_, rfl⟩
  obtain ⟨b4, h4⟩ : ∃ b, (Q == 0) = b := ⟨_, rfl⟩
  have hfo : foB P Q = (b1 && (b2 && !(b3 && b4))) := by unfold foB; rw [h1, h2, h3, h4]
  by_cases hb : (b1 && (b2 && !(b3 && b4))) = true
  · rw [hb] at hfo
    obtain ⟨i1, i2, hne, _, _⟩ := foB_true hfo
    have CQ := hide fun (w1 : World) => l10Make_any P Q hne (by unfold isP at i1; omega) (by unfold isP at i2; omega) w1
    unfold foN foD foC
    rw [if_pos hfo, if_pos hfo, if_pos hfo]
    generalize frB (nrm P Q).1 (nrm P Q).2 = fb at *
    generalize (nrm P Q).1 = p at *
    generalize (nrm P Q).2 = q at *
    clear hfo i1 i2 hne
    cases b1
    · cases hb
    cases b2
    · cases hb
    cases b3 <;> cases b4
    case true.true => cases hb
    all_goals (
      go_enter Try.func18, Try.ntmps18
      go_wp2_with fail
      refine (in10_any _ _ _ _).mono ?_
      rintro e w4 ⟨rfl, rfl⟩
      rw [in_prt, h1]
      go_wp2_with fail
      refine (in10_any _ _ _ _).mono ?_
      rintro e w4 ⟨rfl, rfl⟩
      rw [in_prt, h2]
      go_wp2_with fail
      refine (CQ.out _).mono ?_
      rintro e w5 ⟨rfl, hb5⟩
      have H5 := HH.call hb5
      clear HH hb5 CQ
      have C4 := H5.cell 0 rfl (j := 0) (v := .int .i64 0) rfl
      have C5 := H5.cell 0 rfl (j := 1) (v := .int .i64 0) rfl
      have F4 := H5.frozen 0 rfl 0
      have F5 := H5.frozen 0 rfl 1
      have H6 := (H5.set2 0 rfl (.int .i64 p) (.int .i64 q)).blk #[.int .i64 p, .int .i64 q] 25 w5.heap.size (by simp)
      have hl := H5.lt 0 rfl
      clear H5
      go_wp2_with fail
      exact res_agg2 (p := 4) (t := 5) (g := w.heap.size) (v := .int .i64 0) aggFr (by rfl) rfl rfl rfl rfl (H6.at 1 rfl) ⟨rfl, H6.low⟩)
  · have hb' : (b1 && (b2 && !(b3 && b4))) = false := by simpa using hb
    rw [hb'] at hfo
    clear hb
    unfold foN foD foC
    rw [hfo]
    simp only [Bool.false_eq_true, if_false]
    clear hfo
    cases b1
    · clear h2 h3 h4 hb'
      go_enter Try.func18, Try.ntmps18
      go_wp2_with fail
      refine (in10_any _ _ _ _).mono ?_
      rintro e w4 ⟨rfl, rfl⟩
      rw [in_prt, h1]
      go_wp2_with fail
      exact res_agg2 (p := 4) (t := 5) (g := w.heap.size) (v := .int .i64 2) aggFr (by rfl) rfl rfl rfl rfl (heap_at _ _ _ rfl) ⟨rfl, below1 _ _⟩
    cases b2
    · clear h3 h4 hb'
      go_enter Try.func18, Try.ntmps18
      go_wp2_with fail
      refine (in10_any _ _ _ _).mono ?_
      rintro e w4 ⟨rfl, rfl⟩
      rw [in_prt, h1]
      go_wp2_with fail
      refine (in10_any _ _ _ _).mono ?_
      rintro e w4 ⟨rfl, rfl⟩
      rw [in_prt, h2]
      go_wp2_with fail
      exact res_agg2 (p := 4) (t := 5) (g := w.heap.size) (v := .int .i64 2) aggFr (by rfl) rfl rfl rfl rfl (heap_at _ _ _ rfl) ⟨rfl, below1 _ _⟩
    cases b3
    · cases hb'
    cases b4
    · cases hb'
    go_enter Try.func18, Try.ntmps18
    go_wp2_with fail
    refine (in10_any _ _ _ _).mono ?_
    rintro e w4 ⟨rfl, rfl⟩
    rw [in_prt, h1]
    go_wp2_with fail
    refine (in10_any _ _ _ _).mono ?_
    rintro e w4 ⟨rfl, rfl⟩
    rw [in_prt, h2]
    go_wp2_with fail
    exact res_agg2 (p := 4) (t := 5) (g := w.heap.size) (v := .int .i64 2) aggFr (by rfl) rfl rfl rfl rfl (heap_at _ _ _ rfl) ⟨rfl, below1 _ _⟩
/-- the fractions are those that FractionOf leaves as they are -/
theorem fr_fo (n d : Int) : frB n d = ((foC n d == 0) && eqF n d (foN n d) (foD n d)) := by
  rw [Bool.eq_iff_iff, Bool.and_eq_true, eqF_iff]
  unfold frB foC foN foD
  rw [Bool.and_eq_true, Bool.and_eq_true, Bool.and_eq_true, Bool.or_eq_true, decide_eq_true_iff, decide_eq_true_iff, decide_eq_true_iff, decide_eq_true_iff, decide_eq_true_iff]
  have hs : ∀ {a b : Int}, Int.gcd a b = 1 → (0 ≤ b ∧ (0 < b ∨ a = 1)) → sgN a b = (a, b) := by
    intro a b _ h
    unfold sgN
    rw [if_neg (by omega)]
  constructor
  · rintro ⟨⟨⟨h1, h2⟩, h3⟩, h4⟩
    have hb : foB n d = true := by unfold foB prt; simp; omega
    rw [if_pos hb, if_pos hb, if_pos hb, nrm_cop (by omega), hs (by omega) (by omega)]
    exact ⟨rfl, rfl, rfl⟩
  · rintro ⟨h0, h1, h2⟩
    by_cases hb : foB n d = true
    · rw [if_pos hb] at h1 h2
      obtain ⟨i1, i2, hne, _, _⟩ := foB_true hb
      obtain ⟨a, b, e, he, ha, hb', hg, hn⟩ := nrm_parts hne
      rw [hn] at h1 h2
      have hg2 : Int.gcd n d = 1 := by rw [h1, h2, sgN_gcd]; exact hg
      have hsg : 0 ≤ d ∧ (0 < d ∨ n = 1) := by
        have k : (sgN a b).2 > 0 ∨ (sgN a b).2 = 0 ∧ (sgN a b).1 ≥ 0 := by
          unfold sgN; split <;> simp <;> omega
        rw [← h1, ← h2] at k
        rcases k with k | ⟨k, k'⟩
        · omega
        · rw [k, Int.gcd_zero_right] at hg2
          omega
      unfold isP at *
      exact ⟨⟨⟨i1, by omega⟩, by omega⟩, hsg.2⟩
    · rw [if_neg hb] at h0
      simp at h0
set_option maxRecDepth 100000 in
set_option maxHeartbeats 1000000 in
theorem isFraction_any (n d : Int) (w : World) : Calls Try.prog 17 #[.agg #[.int .i64 n, .int .i64 d]] w fun e w' => e = .returned (.bool (frB n d)) ∧ Below w.heap.size w w' := by
  have CF := hide fun w => fractionOf_any n d w
  have HH := (Holds.start w).blk #[.int .i64 n, .int .i64 d] 25 w.heap.size rfl
  rw [fr_fo]
  generalize foN n d = p at *
  generalize foD n d = q at *
  generalize foC n d = c at *
  obtain ⟨b1, h1⟩ : ∃ b, (c == 0) = b := ⟨_, rfl⟩
  obtain ⟨b2, h2⟩ : ∃ b, eqF n d p q = b := ⟨_, rfl⟩
  rw [h1, h2]
  go_enter Try.func17, Try.ntmps17
  go_wp2_with fail
  refine (CF.out _).mono ?_
  rintro e w5 ⟨rfl, hb5⟩
  have H5 := HH.call hb5
  clear HH hb5 CF
  have C4 := H5.cell 0 rfl (j := 0) (v := .int .i64 n) rfl
  have C5 := H5.cell 0 rfl (j := 1) (v := .int .i64 d) rfl
  have hl := H5.lt 0 rfl
  have H6 := (H5.blk #[.int .i64 p, .int .i64 q] 25 w5.heap.size (by simp)).low
  clear H5
  cases b1
  · clear h2
    go_wp2_with fail
    go_ret
    exact ⟨rfl, H6⟩
  · go_wp2_with fail
    go_ret
    exact ⟨rfl, H6⟩
set_option maxHeartbeats 1000000 in
theorem sIsFraction_any (n d : Int) (w : World) : Calls Try.prog 15 #[.agg #[.int .i64 n, .int .i64 d]] w fun e w' => e = .returned (.bool (frB n d)) ∧ Below w.heap.size w w' := by
  have CF := hide fun w => l10Is_any n d w
  have HH := (Holds.start w).blk #[.int .i64 n, .int .i64 d] 25 w.heap.size rfl
  generalize frB n d = b at *
  go_enter Try.func15, Try.ntmps15
  go_wp2_with fail
  refine (CF.out _).mono ?_
  rintro e w5 ⟨rfl, hb5⟩
  have H5 := (HH.call hb5).low
  go_wp2_with fail
  go_ret
  exact ⟨rfl, H5⟩
end Go.Proofs.Ytpkfjdaedaplfaa

namespace Go.Proofs.Ytpkfjdaedaplfaa
open Go.RowKit

/-- -1, 0 or 1 -/
def c3 (x y : Int) : Int := if x < y then -1 else if y < x then 1 else 0
set_option maxRecDepth 100000 in
set_option maxHeartbeats 400000 in
theorem cmp3_any (x y : Int) (w : World) : Calls Try.prog 85 #[.int .i64 x, .int .i64 y] w fun e w' => e = .returned (.int .i64 (c3 x y)) ∧ w' = w := by
  have hx : (x != x) = false := by simp
  have hy : (y != y) = false := by simp
  have N1 : ∀ (z : Int) (w : World), (z != z) = false → Calls Try.prog 92 #[.int .i64 z] w fun e w' => e = .returned (.bool false) ∧ w' = w := by
    intro z w hz
    go_enter Try.func92, Try.ntmps92
    go_wp2
    go_ret
    exact ⟨rfl, rfl⟩
  have C1 := hide fun w => N1 x w hx
  have C2 := hide fun w => N1 y w hy
  clear N1 hx hy
  by_cases h1 : x < y
  · rw [show c3 x y = -1 from if_pos h1]
    have d1 := decide_eq_true h1
    clear h1
    go_enter Try.func85, Try.ntmps85
    go_wp2_with fail
    refine (C1.out _).mono ?_
    rintro e w1 ⟨rfl, rfl⟩
    go_wp2_with fail
    refine (C2.out _).mono ?_
    rintro e w1 ⟨rfl, rfl⟩
    go_wp2_with fail
    go_ret
    exact ⟨rfl, rfl⟩
  · have d1 := decide_eq_false h1
    by_cases h2 : y < x
    · rw [show c3 x y = 1 from (if_neg h1).trans (if_pos h2)]
      have d2 := decide_eq_true h2
      clear h1 h2
      go_enter Try.func85, Try.ntmps85
      go_wp2_with fail
      refine (C1.out _).mono ?_
      rintro e w1 ⟨rfl, rfl⟩
      go_wp2_with fail
      refine (C2.out _).mono ?_
      rintro e w1 ⟨rfl, rfl⟩
      go_wp2_with fail
      go_ret
      exact ⟨rfl, rfl⟩
    · rw [show c3 x y = 0 from (if_neg h1).trans (if_neg h2)]
      have d2 := decide_eq_false h2
      clear h1 h2
      go_enter Try.func85, Try.ntmps85
      go_wp2_with fail
      refine (C1.out _).mono ?_
      rintro e w1 ⟨rfl, rfl⟩
      go_wp2_with fail
      refine (C2.out _).mono ?_
      rintro e w1 ⟨rfl, rfl⟩
      go_wp2_with fail
      go_ret
      exact ⟨rfl, rfl⟩
theorem frB_true {n d : Int} (h : frB n d = true) : (-1000000000 ≤ n ∧ n ≤ 1000000000) ∧ (0 ≤ d ∧ d ≤ 1000000000) ∧ Int.gcd n d = 1 ∧ (0 < d ∨ n = 1) := by
  unfold frB at h
  rw [Bool.and_eq_true, Bool.and_eq_true, Bool.and_eq_true, Bool.or_eq_true, decide_eq_true_iff, decide_eq_true_iff, decide_eq_true_iff, decide_eq_true_iff, decide_eq_true_iff] at h
  exact ⟨h.1.1.1, h.1.1.2, by omega, h.2⟩
theorem mul_small {a b : Int} (ha : a.natAbs ≤ 1000000000) (hb : b.natAbs ≤ 1000000000) : (a * b).natAbs ≤ 1000000000000000000 := by
  rw [Int.natAbs_mul]; exact Nat.mul_le_mul ha hb
set_option maxRecDepth 100000 in
set_option maxHeartbeats 400000 in
theorem compareFractions_any (a b c d : Int) (ha : a.natAbs ≤ 1000000000) (hb : b.natAbs ≤ 1000000000) (hc : c.natAbs ≤ 1000000000) (hd : d.natAbs ≤ 1000000000) (w : World) :
    Calls Try.prog 62 #[.agg #[.int .i64 a, .int .i64 b], .agg #[.int .i64 c, .int .i64 d]] w fun e w' => e = .returned (.int .i64 (c3 (a * d) (c * b))) ∧ Below w.heap.size w w' := by
  have h1 := mul_small ha hd
  have h2 := mul_small hc hb
  have w1 : wrap64 (a * d) = a * d := wr64 (by omega) (by omega)
  have w2 : wrap64 (c * b) = c * b := wr64 (by omega) (by omega)
  have C := hide fun w => cmp3_any (a * d) (c * b) w
  clear h1 h2 ha hb hc hd
  generalize c3 (a * d) (c * b) = r at *
  go_enter Try.func62, Try.ntmps62
  go_wp2_with fail
  refine (C.out _).mono ?_
  rintro e w1 ⟨rfl, rfl⟩
  go_wp2_with fail
  go_ret
  exact ⟨rfl, below2 _ _ _⟩
theorem fr_cross {a b c d : Int} (h1 : Int.gcd a b = 1) (h2 : Int.gcd c d = 1) (hb : 0 < b) (hd : 0 < d) (h : a * d = c * b) : a = c ∧ b = d := by
  have k : a.natAbs * d.natAbs = c.natAbs * b.natAbs := by rw [← Int.natAbs_mul, ← Int.natAbs_mul, h]
  have e1 : b.natAbs ∣ d.natAbs := (Nat.Coprime.symm (show Nat.Coprime a.natAbs b.natAbs from h1)).dvd_of_dvd_mul_left (m := a.natAbs) ⟨c.natAbs, by rw [k, Nat.mul_comm]⟩
  have e2 : d.natAbs ∣ b.natAbs := (Nat.Coprime.symm (show Nat.Coprime c.natAbs d.natAbs from h2)).dvd_of_dvd_mul_left (m := c.natAbs) ⟨a.natAbs, by rw [← k, Nat.mul_comm]⟩
  have e3 := Nat.dvd_antisymm e1 e2
  have e4 : b = d := by omega
  subst e4
  exact ⟨Int.eq_of_mul_eq_mul_right (by omega) h, rfl⟩
set_option maxRecDepth 100000 in
set_option maxHeartbeats 1000000 in
theorem l10Compare_any (a b c d : Int) (h1 : frB a b = true) (h2 : frB c d = true) (w : World) :
    Calls Try.prog 61 #[.agg #[.int .i64 a, .int .i64 b], .agg #[.int .i64 c, .int .i64 d]] w fun e w' => e = .returned (.int .i64 (c3 (a * d) (c * b))) ∧ Below w.heap.size w w' := by
  obtain ⟨x1, x2, x3, x4⟩ := frB_true h1
  obtain ⟨y1, y2, y3, y4⟩ := frB_true h2
  clear h1 h2
  have k1 := mul_small (a := a) (b := d) (by omega) (by omega)
  have k2 := mul_small (a := c) (b := b) (by omega) (by omega)
  have w1 : wrap64 (a * d) = a * d := wr64 (by omega) (by omega)
  have w2 : wrap64 (c * b) = c * b := wr64 (by omega) (by omega)
  rcases he : eqF a b c d with _ | _
  · rcases hb : (b == 0) with _ | _
    · rcases hd : (d == 0) with _ | _
      · have hb' : 0 < b := by simp at hb; omega
        have hd' : 0 < d := by simp at hd; omega
        have hne : a * d ≠ c * b := fun k => by
          have := fr_cross x3 y3 hb' hd' k
          have := (eqF_iff a b c d).2 this
          rw [he] at this; cases this
        rcases hl : decide (a * d < c * b) with _ | _
        · have hr : c3 (a * d) (c * b) = 1 := by
            have := of_decide_eq_false hl
            unfold c3; rw [if_neg this, if_pos (by omega)]
          rw [hr]
          clear hr hne hb' hd' k1 k2 x1 x2 x3 x4 y1 y2 y3 y4
          go_enter Try.func61, Try.ntmps61
          go_wp2
          go_ret
          exact ⟨rfl, below2 _ _ _⟩
        · have hr : c3 (a * d) (c * b) = -1 := by
            have := of_decide_eq_true hl
            unfold c3; rw [if_pos this]
          rw [hr]
          clear hr hne hb' hd' k1 k2 x1 x2 x3 x4 y1 y2 y3 y4
          go_enter Try.func61, Try.ntmps61
          go_wp2
          go_ret
          exact ⟨rfl, below2 _ _ _⟩
      · have hb' : 0 < b := by simp at hb; omega
        have hd' : d = 0 := by simpa using hd
        have hr : c3 (a * d) (c * b) = -1 := by
          have hc : c = 1 := by omega
          rw [hd', hc, Int.mul_zero, Int.one_mul]
          unfold c3; rw [if_pos hb']
        rw [hr]
        clear hr hb' hd' k1 k2 x1 x2 x3 x4 y1 y2 y3 y4 w1 w2
        go_enter Try.func61, Try.ntmps61
        go_wp2
        go_ret
        exact ⟨rfl, below2 _ _ _⟩
    · have hb' : b = 0 := by simpa using hb
      have hr : c3 (a * d) (c * b) = 1 := by
        have ha : a = 1 := by omega
        have hd' : 0 < d := by
          rcases Int.lt_or_le 0 d with k | k
          · exact k
          · have hd0 : d = 0 := by omega
            have hc : c = 1 := by omega
            have := (eqF_iff a b c d).2 ⟨by omega, by omega⟩
            rw [he] at this; cases this
        rw [hb', ha, Int.mul_zero, Int.one_mul]
        unfold c3; rw [if_neg (by omega), if_pos hd']
      rw [hr]
      clear hr hb' k1 k2 x1 x2 x3 x4 y1 y2 y3 y4 w1 w2
      go_enter Try.func61, Try.ntmps61
      go_wp2
      go_ret
      exact ⟨rfl, below2 _ _ _⟩
  · obtain ⟨e1, e2⟩ := (eqF_iff a b c d).1 he
    have hr : c3 (a * d) (c * b) = 0 := by
      rw [e1, e2]
      unfold c3; rw [if_neg (by omega), if_neg (by omega)]
    rw [hr]
    clear hr e1 e2 k1 k2 x1 x2 x3 x4 y1 y2 y3 y4 w1 w2
    go_enter Try.func61, Try.ntmps61
    go_wp2
    go_ret
    exact ⟨rfl, below2 _ _ _⟩
/-- what CompareFractions tells -/
def cfR (a b c d : Int) : Int := if (frB a b && frB c d) = true then c3 (a * d) (c * b) else 0
def cfC (a b c d : Int) : Int := if (frB a b && frB c d) = true then 0 else 1
def cfText : Prop := True
set_option maxRecDepth 100000 in
set_option maxHeartbeats 1000000 in
theorem compareF_any (a b c d : Int) (w : World) :
    Calls Try.prog 22 #[.agg #[.int .i64 a, .int .i64 b], .agg #[.int .i64 c, .int .i64 d]] w fun e w' => e = .returned (.tuple #[.int .i64 (cfR a b c d), .int .i64 (cfC a b c d)]) ∧ Below w.heap.size w w' := by
  have C1 := hide fun w => isFraction_any a b w
  have C2 := hide fun w => isFraction_any c d w
  have H0 := ((Holds.start w).blk #[.int .i64 a, .int .i64 b] 25 w.heap.size rfl).blk #[.int .i64 c, .int .i64 d] 25 (w.heap.size + 1) (by simp)
  unfold cfR cfC
  rcases h1 : frB a b with _ | _
  · rw [h1] at C1
    rw [Bool.false_and, if_neg (by decide), if_neg (by decide)]
    go_enter Try.func22, Try.ntmps22
    go_wp2_with fail
    refine (C1.out _).mono ?_
    rintro e w1 ⟨rfl, hb⟩
    have H1 := (H0.call hb).low
    clear hb h1
    go_wp2_with fail
    go_ret2
    exact ⟨rfl, H1⟩
  rw [h1] at C1
  rcases h2 : frB c d with _ | _
  · rw [h2] at C2
    rw [Bool.and_false, if_neg (by decide), if_neg (by decide)]
    go_enter Try.func22, Try.ntmps22
    go_wp2_with fail
    refine (C1.out _).mono ?_
    rintro e w1 ⟨rfl, hb⟩
    have H1 := H0.call hb
    have c0 := H1.cell 0 rfl (j := 0) (v := .int .i64 c) rfl
    have c1 := H1.cell 0 rfl (j := 1) (v := .int .i64 d) rfl
    clear hb h1 h2
    go_wp2_with fail
    refine (C2.out _).mono ?_
    rintro e w2 ⟨rfl, hb⟩
    have H2 := (H1.call hb).low
    go_wp2_with fail
    go_ret2
    exact ⟨rfl, H2⟩
  rw [h2] at C2
  rw [Bool.and_self, if_pos rfl, if_pos rfl]
  obtain ⟨x1, x2, _⟩ := frB_true h1
  obtain ⟨y1, y2, _⟩ := frB_true h2
  have C3 := hide fun w => compareFractions_any a b c d (by omega) (by omega) (by omega) (by omega) w
  generalize c3 (a * d) (c * b) = r at *
  clear h1 h2 x1 x2 y1 y2
  go_enter Try.func22, Try.ntmps22
  go_wp2_with fail
  refine (C1.out _).mono ?_
  rintro e w1 ⟨rfl, hb⟩
  have H1 := H0.call hb
  have c0 := H1.cell 0 rfl (j := 0) (v := .int .i64 c) rfl
  have c1 := H1.cell 0 rfl (j := 1) (v := .int .i64 d) rfl
  clear hb
  go_wp2_with fail
  refine (C2.out _).mono ?_
  rintro e w2 ⟨rfl, hb⟩
  have H2 := H1.call hb
  clear hb c0 c1
  have c0 := H2.cell 0 rfl (j := 0) (v := .int .i64 c) rfl
  have c1 := H2.cell 0 rfl (j := 1) (v := .int .i64 d) rfl
  have c2 := H2.cell 1 rfl (j := 0) (v := .int .i64 a) rfl
  have c3 := H2.cell 1 rfl (j := 1) (v := .int .i64 b) rfl
  go_wp2_with fail
  refine (C3.out _).mono ?_
  rintro e w3 ⟨rfl, hb⟩
  have H3 := (H2.call hb).low
  go_wp2_with fail
  go_ret2
  exact ⟨rfl, H3⟩
set_option maxRecDepth 100000 in
set_option maxHeartbeats 1000000 in
theorem sCompareF_any (a b c d : Int) (w : World) :
    Calls Try.prog 21 #[.agg #[.int .i64 a, .int .i64 b], .agg #[.int .i64 c, .int .i64 d]] w fun e w' => e = .returned (.tuple #[.int .i64 (cfR a b c d), .int .i64 (cfC a b c d)]) ∧ Below w.heap.size w w' := by
  have C1 := hide fun w => l10Is_any a b w
  have C2 := hide fun w => l10Is_any c d w
  have H0 := ((Holds.start w).blk #[.int .i64 a, .int .i64 b] 25 w.heap.size rfl).blk #[.int .i64 c, .int .i64 d] 25 (w.heap.size + 1) (by simp)
  unfold cfR cfC
  rcases h1 : frB a b with _ | _
  · rw [h1] at C1
    rw [Bool.false_and, if_neg (by decide), if_neg (by decide)]
    go_enter Try.func21, Try.ntmps21
    go_wp2_with fail
    refine (C1.out _).mono ?_
    rintro e w1 ⟨rfl, hb⟩
    have H1 := (H0.call hb).low
    clear hb h1
    go_wp2_with fail
    go_ret2
    exact ⟨rfl, H1⟩
  rw [h1] at C1
  rcases h2 : frB c d with _ | _
  · rw [h2] at C2
    rw [Bool.and_false, if_neg (by decide), if_neg (by decide)]
    go_enter Try.func21, Try.ntmps21
    go_wp2_with fail
    refine (C1.out _).mono ?_
    rintro e w1 ⟨rfl, hb⟩
    have H1 := H0.call hb
    have c0 := H1.cell 0 rfl (j := 0) (v := .int .i64 c) rfl
    have c1 := H1.cell 0 rfl (j := 1) (v := .int .i64 d) rfl
    clear hb h1 h2
    go_wp2_with fail
    refine (C2.out _).mono ?_
    rintro e w2 ⟨rfl, hb⟩
    have H2 := (H1.call hb).low
    go_wp2_with fail
    go_ret2
    exact ⟨rfl, H2⟩
  rw [h2] at C2
  rw [Bool.and_self, if_pos rfl, if_pos rfl]
  have C3 := hide fun w => l10Compare_any a b c d h1 h2 w
  generalize c3 (a * d) (c * b) = r at *
  clear h1 h2
  go_enter Try.func21, Try.ntmps21
  go_wp2_with fail
  refine (C1.out _).mono ?_
  rintro e w1 ⟨rfl, hb⟩
  have H1 := H0.call hb
  have c0 := H1.cell 0 rfl (j := 0) (v := .int .i64 c) rfl
  have c1 := H1.cell 0 rfl (j := 1) (v := .int .i64 d) rfl
  clear hb
  go_wp2_with fail
  refine (C2.out _).mono ?_
  rintro e w2 ⟨rfl, hb⟩
  have H2 := H1.call hb
  clear hb c0 c1
  have c0 := H2.cell 0 rfl (j := 0) (v := .int .i64 c) rfl
  have c1 := H2.cell 0 rfl (j := 1) (v := .int .i64 d) rfl
  have c2 := H2.cell 1 rfl (j := 0) (v := .int .i64 a) rfl
  have c3 := H2.cell 1 rfl (j := 1) (v := .int .i64 b) rfl
  go_wp2_with fail
  refine (C3.out _).mono ?_
  rintro e w3 ⟨rfl, hb⟩
  have H3 := (H2.call hb).low
  go_wp2_with fail
  go_ret2
  exact ⟨rfl, H3⟩
end Go.Proofs.Ytpkfjdaedaplfaa

namespace Go.Proofs.Ytpkfjdaedaplfaa
open Go.RowKit Go.ChangeShapes Go.WideShapes Go.Joins Go.Deep

section
variable {H : Type} {enc : TypeId × Value → H} {w : World} {base : Nat} {spare : Nat → Bool} {held : Bool}
set_option maxRecDepth 100000 in
theorem open_fraction {r : Reach} {b0 : Nat} {v : Value} {d : DataW H} {ps : List MemPlace}
    (hval : Value.okWide Try.prog w r b0 23 v) (hd : DataW.Trod enc Try.prog w base spare held 23 v d ps) :
    ∃ a b : Int, (-9223372036854775808 ≤ a ∧ a ≤ 9223372036854775807) ∧ (-9223372036854775808 ≤ b ∧ b ≤ 9223372036854775807) ∧ v = .agg #[.int .i64 a, .int .i64 b] := by
  obtain ⟨v0, v1, y0, y1, n, rfl, _, _, h0, h1⟩ := open_agg2 Try.underlying23 (by kernel_rfl) (by kernel_rfl) hval hd
  obtain ⟨a, ha, _, wa⟩ := DataW.trod_int Try.underlying2 h0
  obtain ⟨b, hb, _, wb⟩ := DataW.trod_int Try.underlying2 h1
  injection ha with ha _
  injection hb with hb _
  subst ha hb
  exact ⟨a, b, bounds_i64 wa, bounds_i64 wb, rfl⟩
set_option maxRecDepth 100000 in
theorem open_move {r : Reach} {b0 : Nat} {v : Value} {d : DataW H} {ps : List MemPlace}
    (hval : Value.okWide Try.prog w r b0 36 v) (hd : DataW.Trod enc Try.prog w base spare held 36 v d ps) :
    ∃ a b c : Int, (-9223372036854775808 ≤ a ∧ a ≤ 9223372036854775807) ∧ (-9223372036854775808 ≤ b ∧ b ≤ 9223372036854775807) ∧ (-9223372036854775808 ≤ c ∧ c ≤ 9223372036854775807) ∧ v = .agg #[.int .i64 a, .int .i64 b, .int .i64 c] := by
  obtain ⟨v0, v1, v2, y0, y1, y2, n, rfl, _, _, h0, h1, h2⟩ := open_agg3 Try.underlying36 (by kernel_rfl) (by kernel_rfl) hval hd
  obtain ⟨a, ha, _, wa⟩ := DataW.trod_int Try.underlying2 h0
  obtain ⟨b, hb, _, wb⟩ := DataW.trod_int Try.underlying2 h1
  obtain ⟨c, hc, _, wc⟩ := DataW.trod_int Try.underlying2 h2
  injection ha with ha _
  injection hb with hb _
  injection hc with hc _
  subst ha hb hc
  exact ⟨a, b, c, bounds_i64 wa, bounds_i64 wb, bounds_i64 wc, rfl⟩
end
end Go.Proofs.Ytpkfjdaedaplfaa

namespace Go.Proofs.Ytpkfjdaedaplfaa
open Go.RowKit

/-- a number of at most 20 -/
def pw (x : Int) : Bool := decide (1 ≤ x ∧ x ≤ 20)
/-- what a move is -/
def mvB (k a b : Int) : Bool := if k = 2 then pw a && pw b else (decide (k = 0 ∨ k = 1) && (decide (a = 0) && decide (b = 0)))
theorem mvB_true {k a b : Int} (h : mvB k a b = true) : (k = 2 ∧ (1 ≤ a ∧ a ≤ 20) ∧ 1 ≤ b ∧ b ≤ 20) ∨ ((k = 0 ∨ k = 1) ∧ a = 0 ∧ b = 0) := by
  unfold mvB pw at h
  split at h
  · simp at h; omega
  · simp at h; omega
set_option maxHeartbeats 400000 in
theorem isMovePower_any (x : Int) (w : World) : Calls Try.prog 64 #[.int .i64 x] w fun e w' => e = .returned (.bool (pw x)) ∧ w' = w := by
  by_cases h1 : 1 ≤ x
  · have d1 := decide_eq_true h1
    by_cases h2 : x ≤ 20
    · have d2 := decide_eq_true h2
      rw [show pw x = true from decide_eq_true ⟨h1, h2⟩]
      clear h1 h2
      go_enter Try.func64, Try.ntmps64
      go_wp2
      go_ret
      exact ⟨rfl, rfl⟩
    · have d2 := decide_eq_false h2
      rw [show pw x = false from decide_eq_false (fun h => h2 h.2)]
      clear h1 h2
      go_enter Try.func64, Try.ntmps64
      go_wp2
      go_ret
      exact ⟨rfl, rfl⟩
  · have d1 := decide_eq_false h1
    rw [show pw x = false from decide_eq_false (fun h => h1 h.1)]
    clear h1
    go_enter Try.func64, Try.ntmps64
    go_wp2
    go_ret
    exact ⟨rfl, rfl⟩
set_option maxRecDepth 100000 in
set_option maxHeartbeats 1000000 in
theorem isMove_any (k a b : Int) (w : World) : Calls Try.prog 25 #[.agg #[.int .i64 k, .int .i64 a, .int .i64 b]] w fun e w' => e = .returned (.bool (mvB k a b)) ∧ Below w.heap.size w w' := by
  rcases hk : (k == 2) with _ | _
  · have hk' : k ≠ 2 := by simpa using hk
    have e : mvB k a b = (eqM k a b 0 0 0 || eqM k a b 1 0 0) := by
      unfold mvB
      rw [if_neg hk', Bool.eq_iff_iff, Bool.or_eq_true, eqM_iff, eqM_iff]
      simp; omega
    rw [e]
    clear e hk'
    rcases h1 : eqM k a b 0 0 0 with _ | _
    · rcases h2 : eqM k a b 1 0 0 with _ | _
      · go_enter Try.func25, Try.ntmps25
        go_wp2
        go_ret
        exact ⟨rfl, below1 _ _⟩
      · go_enter Try.func25, Try.ntmps25
        go_wp2
        go_ret
        exact ⟨rfl, below1 _ _⟩
    · go_enter Try.func25, Try.ntmps25
      go_wp2
      go_ret
      exact ⟨rfl, below1 _ _⟩
  · have hk' : k = 2 := by simpa using hk
    have e : mvB k a b = (pw a && pw b) := by
      unfold mvB
      rw [if_pos hk']
    rw [e]
    clear e hk'
    rcases h1 : pw a with _ | _
    · go_enter Try.func25, Try.ntmps25
      go_wp2_with fail
      refine (isMovePower_any _ _).mono ?_
      rintro e w1 ⟨rfl, rfl⟩
      rw [h1]
      go_wp2_with fail
      go_ret
      exact ⟨rfl, below1 _ _⟩
    · rcases h2 : pw b with _ | _
      all_goals (
        go_enter Try.func25, Try.ntmps25
        go_wp2_with fail
        refine (isMovePower_any _ _).mono ?_
        rintro e w1 ⟨rfl, rfl⟩
        rw [h1]
        go_wp2_with fail
        refine (isMovePower_any _ _).mono ?_
        rintro e w1 ⟨rfl, rfl⟩
        rw [h2]
        go_wp2_with fail
        go_ret
        exact ⟨rfl, below1 _ _⟩)
set_option maxRecDepth 100000 in
set_option maxHeartbeats 1000000 in
theorem l10Move_any (k a b : Int) (w : World) : Calls Try.prog 63 #[.agg #[.int .i64 k, .int .i64 a, .int .i64 b]] w fun e w' => e = .returned (.bool (mvB k a b)) ∧ Below w.heap.size w w' := by
  have KEY : ∀ r, mvB k a b = r → (k = 0 ∨ k = 1) → Calls Try.prog 63 #[.agg #[.int .i64 k, .int .i64 a, .int .i64 b]] w fun e w' => e = .returned (.bool r) ∧ Below w.heap.size w w' := by
    intro r hr hk
    have e : mvB k a b = ((a == 0) && (b == 0)) := by
      unfold mvB
      rw [if_neg (by omega), decide_eq_true hk, Bool.true_and]; rfl
    rw [e] at hr
    clear e
    rcases h1 : (a == 0) with _ | _
    · rw [h1] at hr; subst hr
      rcases hk with rfl | rfl
      all_goals (
        go_enter Try.func63, Try.ntmps63
        go_wp2
        go_ret
        exact ⟨rfl, below1 _ _⟩)
    · rw [h1] at hr
      rcases h2 : (b == 0) with _ | _
      all_goals (
        rw [h2] at hr; subst hr
        rcases hk with rfl | rfl)
      all_goals (
        go_enter Try.func63, Try.ntmps63
        go_wp2
        go_ret
        exact ⟨rfl, below1 _ _⟩)
  by_cases hk : k = 0 ∨ k = 1
  · exact KEY _ rfl hk
  clear KEY
  have k0 : (k == 0) = false := by simp; omega
  have k1 : (k == 1) = false := by simp; omega
  rcases k2 : (k == 2) with _ | _
  · have e : mvB k a b = false := by
      unfold mvB
      rw [if_neg (by simpa using k2), decide_eq_false hk]; rfl
    rw [e]
    clear e hk
    go_enter Try.func63, Try.ntmps63
    go_wp2
    go_ret
    exact ⟨rfl, below1 _ _⟩
  · have e : mvB k a b = (pw a && pw b) := by
      unfold mvB
      rw [if_pos (by simpa using k2)]
    rw [e]
    clear e hk
    have IP : ∀ x, decide (1 ≤ x ∧ x ≤ 20) = pw x := fun _ => rfl
    have IP' := hide IP; clear IP
    rcases h1 : pw a with _ | _
    · go_enter Try.func63, Try.ntmps63
      go_wp2_with fail
      refine (in10_any _ _ _ _).mono ?_
      rintro e w1 ⟨rfl, rfl⟩
      rw [IP'.out, h1]
      go_wp2_with fail
      go_ret
      exact ⟨rfl, below1 _ _⟩
    · rcases h2 : pw b with _ | _
      all_goals (
        go_enter Try.func63, Try.ntmps63
        go_wp2_with fail
        refine (in10_any _ _ _ _).mono ?_
        rintro e w1 ⟨rfl, rfl⟩
        rw [IP'.out, h1]
        go_wp2_with fail
        refine (in10_any _ _ _ _).mono ?_
        rintro e w1 ⟨rfl, rfl⟩
        rw [IP'.out, h2]
        go_wp2_with fail
        go_ret
        exact ⟨rfl, below1 _ _⟩)
set_option maxHeartbeats 1000000 in
theorem sIsMove_any (k a b : Int) (w : World) : Calls Try.prog 23 #[.agg #[.int .i64 k, .int .i64 a, .int .i64 b]] w fun e w' => e = .returned (.bool (mvB k a b)) ∧ Below w.heap.size w w' := by
  have CF := hide fun w => l10Move_any k a b w
  have HH := (Holds.start w).blk #[.int .i64 k, .int .i64 a, .int .i64 b] 38 w.heap.size rfl
  generalize mvB k a b = r at *
  go_enter Try.func23, Try.ntmps23
  go_wp2_with fail
  refine (CF.out _).mono ?_
  rintro e w5 ⟨rfl, hb5⟩
  have H5 := (HH.call hb5).low
  go_wp2_with fail
  go_ret
  exact ⟨rfl, H5⟩
set_option maxHeartbeats 400000 in
theorem toMove_any (k a b : Int) (w : World) : Calls Try.prog 24 #[.agg #[.int .i64 k, .int .i64 a, .int .i64 b]] w fun e w' => e = .returned (.agg #[.int .i64 k, .int .i64 a, .int .i64 b]) ∧ Below w.heap.size w w' := by
  go_enter Try.func24, Try.ntmps24
  go_wp2
  exact res_agg (p := 2) (g := w.heap.size + 1) aggMv (by rfl) rfl rfl rfl (heap1 (by simp)) ⟨rfl, below3 _ _ _ _⟩
set_option maxHeartbeats 400000 in
theorem eqMove_same (k a b : Int) (w : World) : Calls Try.prog 39 #[.agg #[.int .i64 k, .int .i64 a, .int .i64 b], .agg #[.int .i64 k, .int .i64 a, .int .i64 b]] w fun e w' => e = .returned (.bool true) ∧ Below w.heap.size w w' := by
  have h0 : (k != k) = false := by simp
  have h1 : (a != a) = false := by simp
  have h2 : (b != b) = false := by simp
  go_enter Try.func39, Try.ntmps39
  go_wp2
  go_ret
  exact ⟨rfl, below2 _ _ _⟩
set_option maxRecDepth 100000 in
set_option maxHeartbeats 2000000 in
theorem fnExactIsMove_walk (k a b : Int) (_hn : -9223372036854775808 ≤ k ∧ k ≤ 9223372036854775807) (_hd : -9223372036854775808 ≤ a ∧ a ≤ 9223372036854775807) (_hc : -9223372036854775808 ≤ b ∧ b ≤ 9223372036854775807) (w : World) :
    Calls Try.prog 6 #[.agg #[.int .i64 k, .int .i64 a, .int .i64 b]] w fun e w' => e = .returned (.bool true) ∧ Below w.heap.size w w' := by
  clear _hn _hd _hc
  have C1 := hide fun w => isMove_any k a b w
  have C2 := hide fun w => sIsMove_any k a b w
  generalize mvB k a b = r at *
  have hne : (r != r) = false := by simp
  have H0 := (Holds.start w).blk #[.int .i64 k, .int .i64 a, .int .i64 b] 36 w.heap.size rfl
  go_enter Try.func6, Try.ntmps6
  go_wp2_with fail
  refine (toMove_any k a b _).mono ?_
  rintro e w1 ⟨rfl, hb⟩
  have H1 := H0.call hb
  clear hb H0
  go_wp2_with fail
  refine (C2.out _).mono ?_
  rintro e w2 ⟨rfl, hb⟩
  have H2 := H1.call hb
  clear hb H1
  have c0 := H2.cell 0 rfl (j := 0) (v := .int .i64 k) rfl
  have c1 := H2.cell 0 rfl (j := 1) (v := .int .i64 a) rfl
  have c2 := H2.cell 0 rfl (j := 2) (v := .int .i64 b) rfl
  go_wp2_with fail
  refine (toMove_any k a b _).mono ?_
  rintro e w3 ⟨rfl, hb⟩
  have H3 := H2.call hb
  clear hb H2 c0 c1 c2
  go_wp2_with fail
  refine (C1.out _).mono ?_
  rintro e w4 ⟨rfl, hb⟩
  have H4 := H3.call hb
  clear hb H3
  go_wp2
  go_ret
  exact ⟨rfl, H4.low⟩
set_option maxRecDepth 100000 in
set_option maxHeartbeats 2000000 in
theorem fnExactCompareFractions_walk (a b : Int) (_ha : -9223372036854775808 ≤ a ∧ a ≤ 9223372036854775807) (_hb : -9223372036854775808 ≤ b ∧ b ≤ 9223372036854775807) (c d : Int) (_hc : -9223372036854775808 ≤ c ∧ c ≤ 9223372036854775807) (_hd : -9223372036854775808 ≤ d ∧ d ≤ 9223372036854775807) (w : World) :
    Calls Try.prog 5 #[.agg #[.int .i64 a, .int .i64 b], .agg #[.int .i64 c, .int .i64 d]] w fun e w' => e = .returned (.bool true) ∧ Below w.heap.size w w' := by
  clear _ha _hb _hc _hd
  have C1 := hide fun w => compareF_any a b c d w
  have C2 := hide fun w => sCompareF_any a b c d w
  generalize cfR a b c d = r at *
  generalize cfC a b c d = q at *
  have hne : (r != r) = false := by simp
  have hne2 : (q != q) = false := by simp
  have H0 := ((Holds.start w).blk #[.int .i64 a, .int .i64 b] 23 w.heap.size rfl).blk #[.int .i64 c, .int .i64 d] 23 (w.heap.size + 1) (by simp)
  go_enter Try.func5, Try.ntmps5
  go_wp2
  refine region_H (w0 := w) (L := [pBlk (w.heap.size + 1) #[.int .i64 c, .int .i64 d] 23, pBlk w.heap.size #[.int .i64 a, .int .i64 b] 23]) (by kernel_rfl) (by kernel_rfl) H0 ?_
  iterate 1 (
    apply q_step
    · go_simp
    · intro wx hx
      have c0 := hx.cell 0 rfl (j := 0) (v := .int .i64 c) rfl
      have c1 := hx.cell 0 rfl (j := 1) (v := .int .i64 d) rfl
      have c2 := hx.cell 1 rfl (j := 0) (v := .int .i64 a) rfl
      have c3 := hx.cell 1 rfl (j := 1) (v := .int .i64 b) rfl
      go_simp
      exact rfl)
  apply q_step
  · go_simp
  · intro wx hx
    go_simp
    go_at_call 16
    exact Calls.mono (toFraction_any a b wx) fun e w' h => ⟨h.1, hx.call h.2⟩
  iterate 1 (
    apply q_step
    · go_simp
    · intro wx hx
      have c0 := hx.cell 0 rfl (j := 0) (v := .int .i64 c) rfl
      have c1 := hx.cell 0 rfl (j := 1) (v := .int .i64 d) rfl
      have c2 := hx.cell 1 rfl (j := 0) (v := .int .i64 a) rfl
      have c3 := hx.cell 1 rfl (j := 1) (v := .int .i64 b) rfl
      go_simp
      exact rfl)
  apply q_step
  · go_simp
  · intro wx hx
    go_simp
    go_at_call 16
    exact Calls.mono (toFraction_any c d wx) fun e w' h => ⟨h.1, hx.call h.2⟩
  apply q_step
  · go_simp
  · intro wx hx
    go_simp
    go_at_call 21
    exact Calls.mono (C2.out wx) fun e w' h => ⟨h.1, hx.call h.2⟩
  iterate 5 (
    apply q_step
    · go_simp
    · intro wx hx
      have c0 := hx.cell 0 rfl (j := 0) (v := .int .i64 c) rfl
      have c1 := hx.cell 0 rfl (j := 1) (v := .int .i64 d) rfl
      have c2 := hx.cell 1 rfl (j := 0) (v := .int .i64 a) rfl
      have c3 := hx.cell 1 rfl (j := 1) (v := .int .i64 b) rfl
      go_simp
      exact rfl)
  refine wpQuiet_nil ?_
  intro w1 H1
  clear H0
  go_wp2
  refine region_H (w0 := w) (L := [pBlk (w.heap.size + 1) #[.int .i64 c, .int .i64 d] 23, pBlk w.heap.size #[.int .i64 a, .int .i64 b] 23]) (by kernel_rfl) (by kernel_rfl) H1 ?_
  iterate 1 (
    apply q_step
    · go_simp
    · intro wx hx
      have c0 := hx.cell 0 rfl (j := 0) (v := .int .i64 c) rfl
      have c1 := hx.cell 0 rfl (j := 1) (v := .int .i64 d) rfl
      have c2 := hx.cell 1 rfl (j := 0) (v := .int .i64 a) rfl
      have c3 := hx.cell 1 rfl (j := 1) (v := .int .i64 b) rfl
      go_simp
      exact rfl)
  apply q_step
  · go_simp
  · intro wx hx
    go_simp
    go_at_call 16
    exact Calls.mono (toFraction_any a b wx) fun e w' h => ⟨h.1, hx.call h.2⟩
  iterate 1 (
    apply q_step
    · go_simp
    · intro wx hx
      have c0 := hx.cell 0 rfl (j := 0) (v := .int .i64 c) rfl
      have c1 := hx.cell 0 rfl (j := 1) (v := .int .i64 d) rfl
      have c2 := hx.cell 1 rfl (j := 0) (v := .int .i64 a) rfl
      have c3 := hx.cell 1 rfl (j := 1) (v := .int .i64 b) rfl
      go_simp
      exact rfl)
  apply q_step
  · go_simp
  · intro wx hx
    go_simp
    go_at_call 16
    exact Calls.mono (toFraction_any c d wx) fun e w' h => ⟨h.1, hx.call h.2⟩
  apply q_step
  · go_simp
  · intro wx hx
    go_simp
    go_at_call 22
    exact Calls.mono (C1.out wx) fun e w' h => ⟨h.1, hx.call h.2⟩
  iterate 5 (
    apply q_step
    · go_simp
    · intro wx hx
      have c0 := hx.cell 0 rfl (j := 0) (v := .int .i64 c) rfl
      have c1 := hx.cell 0 rfl (j := 1) (v := .int .i64 d) rfl
      have c2 := hx.cell 1 rfl (j := 0) (v := .int .i64 a) rfl
      have c3 := hx.cell 1 rfl (j := 1) (v := .int .i64 b) rfl
      go_simp
      exact rfl)
  refine wpQuiet_nil ?_
  intro w2 H2
  clear H1
  go_wp2
  go_ret
  exact ⟨rfl, H2.low⟩
end Go.Proofs.Ytpkfjdaedaplfaa

namespace Go.Proofs.Ytpkfjdaedaplfaa
open Go.RowKit

/-- the cells of a list of moves -/
def mc (l : List (Int × Int × Int)) : List Value := l.flatMap fun x => [Value.int .i64 x.1, Value.int .i64 x.2.1, Value.int .i64 x.2.2]
theorem mc_length (l : List (Int × Int × Int)) : (mc l).length = l.length * 3 := by unfold mc; induction l with
  | nil => rfl
  | cons x l ih => rw [List.flatMap_cons, List.length_append, ih, List.length_cons]; simp; omega
theorem mc_cons (x : Int × Int × Int) (l : List (Int × Int × Int)) : mc (x :: l) = .int .i64 x.1 :: .int .i64 x.2.1 :: .int .i64 x.2.2 :: mc l := rfl
theorem mc_append (l m : List (Int × Int × Int)) : mc (l ++ m) = mc l ++ mc m := by unfold mc; rw [List.flatMap_append]
theorem mc_get (l : List (Int × Int × Int)) (i : Nat) (x : Int × Int × Int) (h : l[i]? = some x) : (mc l)[i * 3]? = some (.int .i64 x.1) ∧ (mc l)[i * 3 + 1]? = some (.int .i64 x.2.1) ∧ (mc l)[i * 3 + 2]? = some (.int .i64 x.2.2) := by
  induction l generalizing i with
  | nil => simp at h
  | cons y l ih =>
    cases i with
    | zero => simp only [List.getElem?_cons_zero, Option.some.injEq] at h; subst h; rw [mc_cons]; exact ⟨rfl, rfl, rfl⟩
    | succ i =>
      rw [List.getElem?_cons_succ] at h
      rw [mc_cons, show (i + 1) * 3 = (i * 3) + 1 + 1 + 1 by omega]
      exact ih i h
theorem mc_set (l : List (Int × Int × Int)) (i : Nat) (x : Int × Int × Int) : (((mc l).set (i * 3) (.int .i64 x.1)).set (i * 3 + 1) (.int .i64 x.2.1)).set (i * 3 + 2) (.int .i64 x.2.2) = mc (l.set i x) := by
  induction l generalizing i with
  | nil => simp [mc]
  | cons y l ih =>
    cases i with
    | zero => rfl
    | succ i =>
      rw [List.set_cons_succ, mc_cons, mc_cons, ← ih, show (i + 1) * 3 = (i * 3) + 1 + 1 + 1 by omega]
      rfl
def OwnM (B : Nat) (w : World) (v : Value) (l : List (Int × Int × Int)) : Prop := w.ownsRow B 38 3 v l.length (mc l)
/-- a slice whose cells read as the list -/
def RdM (w : World) (v : Value) (l : List (Int × Int × Int)) : Prop :=
  ∃ (A : Option Addr) (c : Nat), v = .slice A l.length c ∧ l.length ≤ 9223372036854775807 ∧ ∀ (i : Nat) (x : Int × Int × Int), l[i]? = some x → ∃ a, A = some a ∧ a.block < w.heap.size ∧ w.cell? (a.add (i * 3)) = some (.int .i64 x.1) ∧ w.cell? ⟨(a.add (i * 3)).block, (a.add (i * 3)).off + 1, none⟩ = some (.int .i64 x.2.1) ∧ w.cell? ⟨(a.add (i * 3)).block, (a.add (i * 3)).off + 2, none⟩ = some (.int .i64 x.2.2)
theorem RdM.form {w : World} {v : Value} {l : List (Int × Int × Int)} (h : RdM w v l) : ∃ A c, v = .slice A l.length c ∧ l.length ≤ 9223372036854775807 := by
  obtain ⟨A, c, h1, h2, _⟩ := h; exact ⟨A, c, h1, h2⟩
theorem RdM.at {w : World} {A : Option Addr} {n c k : Nat} {l : List (Int × Int × Int)} (h : RdM w (.slice A n c) l) (hk : k < l.length) :
    ∃ a, A = some a ∧ a.block < w.heap.size ∧ w.cell? (a.add (k * 3)) = some (.int .i64 l[k].1) ∧ w.cell? ⟨(a.add (k * 3)).block, (a.add (k * 3)).off + 1, none⟩ = some (.int .i64 l[k].2.1) ∧ w.cell? ⟨(a.add (k * 3)).block, (a.add (k * 3)).off + 2, none⟩ = some (.int .i64 l[k].2.2) := by
  obtain ⟨A', c', e, _, h3⟩ := h
  injection e with e1 _ _
  subst e1
  exact h3 k _ (List.getElem?_eq_getElem hk)
theorem RdM.atC {w w' : World} {a : Addr} {C n c k : Nat} {l : List (Int × Int × Int)} (h : RdM w (.slice (some a) n c) l) (hb : Below C w w') (hC : w.heap.size ≤ C) (hk : k < l.length) :
    w'.cell? (a.add (k * 3)) = some (.int .i64 l[k].1) ∧ w'.cell? ⟨(a.add (k * 3)).block, (a.add (k * 3)).off + 1, none⟩ = some (.int .i64 l[k].2.1) ∧ w'.cell? ⟨(a.add (k * 3)).block, (a.add (k * 3)).off + 2, none⟩ = some (.int .i64 l[k].2.2) := by
  obtain ⟨a', e, h4, h5, h6, h7⟩ := h.at hk
  obtain rfl := Option.some.inj e
  have hq := add_block a (k * 3)
  exact ⟨by rw [← h5]; exact hb.cell (p := a.add (k * 3)) (by rw [hq]; omega), by rw [← h6]; exact hb.cell (p := ⟨(a.add (k * 3)).block, (a.add (k * 3)).off + 1, none⟩) (by show (a.add (k * 3)).block < _; rw [hq]; omega), by rw [← h7]; exact hb.cell (p := ⟨(a.add (k * 3)).block, (a.add (k * 3)).off + 2, none⟩) (by show (a.add (k * 3)).block < _; rw [hq]; omega)⟩
theorem RdM.below {C : Nat} {w w' : World} {v : Value} {l : List (Int × Int × Int)} (h : RdM w v l) (hb : Below C w w') (hC : w.heap.size ≤ C) : RdM w' v l := by
  obtain ⟨A, c, rfl, h2, h3⟩ := h
  refine ⟨A, c, rfl, h2, fun i x hx => ?_⟩
  obtain ⟨a, e, h4, _⟩ := h3 i x hx
  subst e
  have hi := (List.getElem?_eq_some_iff.1 hx).1
  have hx' : l[i] = x := (List.getElem?_eq_some_iff.1 hx).2
  refine ⟨a, rfl, Nat.lt_of_lt_of_le h4 hb.size, ?_⟩
  have := RdM.atC (w := w) (w' := w') (a := a) (C := C) (n := l.length) (c := c) (k := i) (l := l) ⟨some a, c, rfl, h2, h3⟩ hb hC hi
  rw [hx'] at this
  exact this
theorem OwnM.rd {B : Nat} {w : World} {v : Value} {l : List (Int × Int × Int)} (h : OwnM B w v l) (hl : l.length ≤ 9223372036854775807) : RdM w v l := by
  rcases h.2 with ⟨e, h0⟩ | ⟨g, cap, cur, e, hB, hh, h1, h2, h3, h4⟩
  · exact ⟨none, 0, by rw [e, h0], hl, fun i x hx => by have := (List.getElem?_eq_some_iff.1 hx).1; omega⟩
  · refine ⟨_, _, e, hl, fun i x hx => ⟨_, rfl, (Array.getElem?_eq_some_iff.1 hh).1, ?_⟩⟩
    have hadd : ∀ j, (⟨g, 0, none⟩ : Addr).add j = ⟨g, j, none⟩ := fun j => by unfold Addr.add; split <;> simp_all
    rw [hadd, cell_of_cells, cell_of_cells, cell_of_cells, cellsOf_heap hh]
    have hi := (List.getElem?_eq_some_iff.1 hx).1
    have e2 : ∀ j : Nat, (cur.toList.take (l.length * 3))[j]? = (mc l)[j]? := fun j => by rw [h4]
    have e3 := e2 (i * 3)
    have e4 := e2 (i * 3 + 1)
    have e5 := e2 (i * 3 + 2)
    rw [List.getElem?_take_of_lt (by omega), Array.getElem?_toList, (mc_get l i x hx).1] at e3
    rw [List.getElem?_take_of_lt (by omega), Array.getElem?_toList, (mc_get l i x hx).2.1] at e4
    rw [List.getElem?_take_of_lt (by omega), Array.getElem?_toList, (mc_get l i x hx).2.2] at e5
    exact ⟨e3, e4, e5⟩
set_option maxRecDepth 100000 in
set_option maxHeartbeats 400000 in
theorem szMoveS_any (A : Option Addr) (n c : Nat) (hn : n ≤ 9223372036854775807) (w : World) :
    Calls Try.prog 45 #[.slice A n c, .int .i64 1048576] w fun e w' => e = .returned (.int .i64 (if 1048576 < n then -1 else 1048576 - n)) ∧ w' = w := by
  by_cases hlt : 1048576 < n
  · rw [if_pos hlt]
    have hd : decide ((1048576 : Int) - (n : Int) < 0) = true := by simp; omega
    go_enter Try.func45, Try.ntmps45
    go_wp2
    go_ret
    exact ⟨rfl, rfl⟩
  · rw [if_neg hlt]
    have hd : decide ((1048576 : Int) - (n : Int) < 0) = false := decide_eq_false (by omega)
    go_enter Try.func45, Try.ntmps45
    go_wp2
    go_ret
    exact ⟨rfl, rfl⟩
set_option maxRecDepth 100000 in
set_option maxHeartbeats 2000000 in
theorem eqMoveS_rd (l : List (Int × Int × Int)) (v v' : Value) (w : World) (h : RdM w v l) (h' : RdM w v' l) :
    Calls Try.prog 42 #[v, v'] w fun e w' => e = .returned (.bool true) ∧ Below w.heap.size w w' := by
  obtain ⟨A, c, rfl, hl⟩ := h.form
  obtain ⟨A', c', rfl, _⟩ := h'.form
  have H := hide h; clear h
  have H' := hide h'; clear h'
  have hne : ((l.length : Int) != (l.length : Int)) = false := by simp
  go_enter Try.func42, Try.ntmps42
  go_wp2
  go_loopw [5] (fun i wr => ∃ k : Nat, k ≤ l.length ∧ i = .int .i64 k ∧ Below w.heap.size w wr) (fun i _ => l.length - (intOf i).toNat)
  case atStart => exact ⟨0, by omega, rfl, Below.refl _ _⟩
  case round =>
    obtain ⟨k, hk, rfl, hb⟩ := hrel
    by_cases hlt : k < l.length
    · obtain ⟨a, rfl, _, _, _⟩ := (H.out.below hb (Nat.le_refl _)).at hlt
      obtain ⟨a', rfl, _, _, _⟩ := (H'.out.below hb (Nat.le_refl _)).at hlt
      have CA := hide fun (wx : World) (hx : Holds w wx []) => And.intro (H.out.atC hx.low (Nat.le_refl _) hlt) (H'.out.atC hx.low (Nat.le_refl _) hlt)
      have C := hide fun w => eqMove_same l[k].1 l[k].2.1 l[k].2.2 w
      generalize l[k].1 = x at *
      generalize l[k].2.1 = y at *
      generalize l[k].2.2 = z at *
      go_wp2_with fail
      refine region_HW (w0 := w) (L := []) (by kernel_rfl) (by kernel_rfl) ⟨hb, by simp, List.Pairwise.nil⟩ ?_
      iterate 8 (
        apply wq_step
        · go_simp
        · intro wx hx
          have c1 := (CA.out wx hx).1.1
          have c2 := (CA.out wx hx).1.2.1
          have c3 := (CA.out wx hx).1.2.2
          have d1 := (CA.out wx hx).2.1
          have d2 := (CA.out wx hx).2.2.1
          have d3 := (CA.out wx hx).2.2.2
          go_simp
          exact rfl)
      apply wq_step
      · go_simp
      · intro wx hx
        go_simp
        go_at_call 39
        exact Calls.mono (C.out wx) fun e w' h => ⟨h.1, hx.call h.2⟩
      apply wq_step
      · go_simp
      · intro wx hx
        go_simp
        exact rfl
      refine wq_nil ?_
      intro w2 hx
      have hb2 := hx.low
      clear hx CA C
      go_simp
      go_wp2
      go_roundw
      case rel => exact ⟨k + 1, by omega, by go_num, hb2⟩
      case measure => simp [intOf]; omega
    · obtain rfl : k = l.length := by omega
      clear hlt hk
      go_wp2
      go_ret
      exact ⟨rfl, hb⟩
def pMv (v : Value) (l : List (Int × Int × Int)) : Part := pRow v 38 3 l.length (mc l)
theorem Holds.ownM {w0 w : World} {L : List Part} (h : Holds w0 w L) (i : Nat) {v : Value} {l : List (Int × Int × Int)} (hi : L[i]? = some (pMv v l)) : OwnM w0.heap.size w v l := h.row i hi
theorem Holds.rdM {w0 w : World} {L : List Part} (h : Holds w0 w L) (i : Nat) {v : Value} {l : List (Int × Int × Int)} (hi : L[i]? = some (pMv v l)) (hl : l.length ≤ 9223372036854775807) : RdM w v l := OwnM.rd (h.ownM i hi) hl
theorem Holds.newM {w0 w w' : World} {L : List Part} (h : Holds w0 w L) (hb : Below w.heap.size w w') {v : Value} {l : List (Int × Int × Int)} (hr : OwnM w.heap.size w' v l) : Holds w0 w' (pMv v l :: L) := h.newRow hb hr
theorem pMv_len {w : World} {A : Option Addr} {n c : Nat} {l : List (Int × Int × Int)} (h : (pMv (.slice A n c) l).ok w) : n = l.length := by
  rcases (show w.ownsRow 0 38 3 (.slice A n c) l.length (mc l) from h).2 with ⟨e, h0⟩ | ⟨_, _, _, e, _⟩
  · injection e with _ e _; omega
  · injection e with _ e _
theorem Holds.setM {w0 w : World} {L : List Part} (h : Holds w0 w L) (i : Nat) {g n c : Nat} {l : List (Int × Int × Int)} (hi : L[i]? = some (pMv (.slice (some ⟨g, 0, none⟩) n c) l)) (k : Nat) (x : Int × Int × Int) :
    Holds w0 (((w.setCell ⟨g, k * 3, none⟩ (.int .i64 x.1)).setCell ⟨g, k * 3 + 1, none⟩ (.int .i64 x.2.1)).setCell ⟨g, k * 3 + 2, none⟩ (.int .i64 x.2.2)) (L.set i (pMv (.slice (some ⟨g, 0, none⟩) n c) (l.set k x))) := by
  obtain rfl := pMv_len (h.at i hi)
  have hil := (List.getElem?_eq_some_iff.1 hi).1
  have h1 := h.put i hi (k * 3) (.int .i64 x.1)
  have h2 := h1.put i (g := g) (n := l.length) (c := c) (e := 38) (s := 3) (xs := (mc l).set (k * 3) (.int .i64 x.1)) (by rw [List.getElem?_set, if_pos rfl, if_pos hil]) (k * 3 + 1) (.int .i64 x.2.1)
  have h3 := h2.put i (g := g) (n := l.length) (c := c) (e := 38) (s := 3) (xs := ((mc l).set (k * 3) (.int .i64 x.1)).set (k * 3 + 1) (.int .i64 x.2.1)) (by rw [List.getElem?_set, List.length_set, if_pos rfl, if_pos hil]) (k * 3 + 2) (.int .i64 x.2.2)
  rw [mc_set, List.set_set, List.set_set] at h3
  unfold pMv
  rw [List.length_set]
  exact h3
theorem Holds.cellM {w0 w : World} {L : List Part} (h : Holds w0 w L) (i : Nat) {g n c : Nat} {l : List (Int × Int × Int)} (hi : L[i]? = some (pMv (.slice (some ⟨g, 0, none⟩) n c) l)) {k : Nat} (hk : k < l.length) :
    (w.cell? ⟨g, k * 3, none⟩ = some (.int .i64 l[k].1) ∧ w.cell? ⟨g, k * 3 + 1, none⟩ = some (.int .i64 l[k].2.1) ∧ w.cell? ⟨g, k * 3 + 2, none⟩ = some (.int .i64 l[k].2.2)) ∧ w.frozen? ⟨g, k * 3, none⟩ = false ∧ w.frozen? ⟨g, k * 3 + 1, none⟩ = false ∧ w.frozen? ⟨g, k * 3 + 2, none⟩ = false := by
  obtain rfl := pMv_len (h.at i hi)
  have hr : w.ownsRow 0 38 3 (.slice (some ⟨g, 0, none⟩) l.length c) l.length (mc l) := h.at i hi
  obtain ⟨g', c', e, _, _, _, _, h1, h2⟩ := row_at hr (by omega)
  injection e with e1 _ _
  injection e1 with e1
  injection e1 with e1 _ _
  subst e1
  have e2 := mc_get l k l[k] (List.getElem?_eq_getElem hk)
  exact ⟨⟨h1 _ _ e2.1, h1 _ _ e2.2.1, h1 _ _ e2.2.2⟩, h2 _, h2 _, h2 _⟩
theorem infoMv : (Try.prog.info? 38).map (fun i => (i.zero, i.size, i.bytes)) = some (some (.agg #[.int .i64 0, .int .i64 0, .int .i64 0]), 3, 24) := by kernel_rfl
theorem madeM (n : Nat) : (madeCells #[Value.int .i64 0, Value.int .i64 0, Value.int .i64 0] (n * 3)).toList = mc (List.replicate n (0, 0, 0)) := by
  apply List.ext_getElem?
  intro j
  by_cases hj : j < n * 3
  · have hq : j / 3 < n := by omega
    have e := mc_get (List.replicate n ((0 : Int), (0 : Int), (0 : Int))) (j / 3) (0, 0, 0) (by rw [List.getElem?_replicate, if_pos hq])
    have hm : (madeCells #[Value.int .i64 0, Value.int .i64 0, Value.int .i64 0] (n * 3)).toList[j]? = some (.int .i64 0) := by
      rw [Array.getElem?_toList]
      unfold madeCells
      rw [Array.getElem?_map, Array.getElem?_range, if_pos hj]
      have h3 : j % 3 = 0 ∨ j % 3 = 1 ∨ j % 3 = 2 := by omega
      rcases h3 with h | h | h <;> simp [h]
    rw [hm]
    have h3 : j % 3 = 0 ∨ j % 3 = 1 ∨ j % 3 = 2 := by omega
    rcases h3 with h | h | h
    · rw [show j = j / 3 * 3 by omega, e.1]
    · rw [show j = j / 3 * 3 + 1 by omega, e.2.1]
    · rw [show j = j / 3 * 3 + 2 by omega, e.2.2]
  · rw [List.getElem?_eq_none (by rw [Array.length_toList, size_madeCells]; omega), List.getElem?_eq_none (by rw [mc_length, List.length_replicate]; omega)]
/-- the first k, zeros behind them -/
def upM (l : List (Int × Int × Int)) (k : Nat) : List (Int × Int × Int) := l.take k ++ List.replicate (l.length - k) (0, 0, 0)
theorem upM_length (l : List (Int × Int × Int)) {k : Nat} (h : k ≤ l.length) : (upM l k).length = l.length := by unfold upM; simp; omega
theorem upM_set (l : List (Int × Int × Int)) {k : Nat} (h : k < l.length) : (upM l k).set k l[k] = upM l (k + 1) := by
  unfold upM
  rw [List.set_append_right _ _ (by simp; omega), List.take_succ_eq_append_getElem h]
  have e : k - (l.take k).length = 0 := by simp; omega
  rw [e, show l.length - k = (l.length - (k + 1)) + 1 from by omega, List.replicate_succ, List.set_cons_zero, List.append_assoc]
  rfl
set_option maxRecDepth 100000 in
set_option maxHeartbeats 1000000 in
theorem toMoveS_any (l : List (Int × Int × Int)) (v : Value) (w : World) (h : RdM w v l) (hl : l.length ≤ 1048576) :
    Calls Try.prog 47 #[v] w fun e w' => ∃ u, e = .returned u ∧ Below w.heap.size w w' ∧ OwnM w.heap.size w' u l := by
  obtain ⟨A, c, rfl, _⟩ := h.form
  obtain ⟨i0, hi, hz0, hz1, hz2⟩ := info_parts infoMv
  have I0 := hide (And.intro hi (And.intro hz0 (And.intro hz1 hz2))); clear hi hz0 hz1 hz2
  have H := hide h; clear h
  have hb8 := I0.out.2.2.2
  have hbb : i0.bytes * l.length ≤ 281474976710656 := by rw [hb8]; omega
  clear hb8
  go_enter Try.func47, Try.ntmps47
  go_wp2_with (refine wpList_make_full _ rfl _ _ 57 rfl w.heap.size 38 i0 (.agg #[.int .i64 0, .int .i64 0, .int .i64 0]) 3 Try.underlying57 I0.out.1 I0.out.2.1 I0.out.2.2.1 .i64 .i64 _ _ l.length rfl rfl rfl rfl hbb (by unfold maxLen; omega) (Nat.le_refl _) ?_)
  intro w1 ho hg
  have b1 : Below w.heap.size w w1 := (Below.refl _ _).grown hg (Nat.le_refl _) (fun k hk => by cases hk)
  have hz : (madeCells #[Value.int .i64 0, Value.int .i64 0, Value.int .i64 0] (l.length * 3)).toList = mc (upM l 0) := by rw [madeM]; unfold upM; simp
  rw [hz] at ho
  clear hz hbb
  have ho' : OwnM w.heap.size w1 (.slice (some ⟨w.heap.size, 0, none⟩) l.length l.length) (upM l 0) := by
    unfold OwnM; rw [upM_length l (Nat.zero_le _)]; exact ho
  have HO := hide ((Holds.start w).newM b1 ho'); clear ho ho' hg b1
  go_wp2
  go_loopw [4] (fun i wr => ∃ k : Nat, k ≤ l.length ∧ i = .int .i64 k ∧ Holds w wr [pMv (.slice (some ⟨w.heap.size, 0, none⟩) l.length l.length) (upM l k)]) (fun i _ => l.length - (intOf i).toNat)
  case atStart => exact ⟨0, by omega, rfl, HO.out⟩
  case round =>
    clear HO
    obtain ⟨k, hk, rfl, ho⟩ := hrel
    by_cases hlt : k < l.length
    · obtain ⟨a, rfl, _, _⟩ := (H.out.below ho.low (Nat.le_refl _)).at hlt
      have c1 := (H.out.atC ho.low (Nat.le_refl _) hlt).1
      have c2 := (H.out.atC ho.low (Nat.le_refl _) hlt).2.1
      have c3 := (H.out.atC ho.low (Nat.le_refl _) hlt).2.2
      have C := hide fun w => toMove_any l[k].1 l[k].2.1 l[k].2.2 w
      have hup := upM_set l hlt
      have HS := hide fun (wx : World) (hx : Holds w wx [pMv (.slice (some ⟨w.heap.size, 0, none⟩) l.length l.length) (upM l k)]) => (show Holds w (((wx.setCell ⟨w.heap.size, k * 3, none⟩ (.int .i64 l[k].1)).setCell ⟨w.heap.size, k * 3 + 1, none⟩ (.int .i64 l[k].2.1)).setCell ⟨w.heap.size, k * 3 + 2, none⟩ (.int .i64 l[k].2.2)) [pMv (.slice (some ⟨w.heap.size, 0, none⟩) l.length l.length) (upM l (k + 1))] from by
        have := hx.setM 0 rfl k l[k]
        rw [hup] at this
        exact this)
      have hkl : k < (upM l k).length := by rw [upM_length l hk]; exact hlt
      have HC := hide fun (wx : World) (hx : Holds w wx [pMv (.slice (some ⟨w.heap.size, 0, none⟩) l.length l.length) (upM l k)]) => hx.cellM 0 rfl hkl
      clear hup
      generalize l[k].1 = x at *
      generalize l[k].2.1 = y at *
      generalize l[k].2.2 = z at *
      generalize (upM l k)[k].1 = p at *
      generalize (upM l k)[k].2.1 = q at *
      generalize (upM l k)[k].2.2 = r at *
      clear hkl
      go_wp2_with fail
      refine (C.out _).mono ?_
      rintro e w2 ⟨rfl, hb⟩
      have H2 := ho.call hb
      clear ho hb c1 c2 c3
      have d1 := (HC.out _ H2).1.1
      have d2 := (HC.out _ H2).1.2.1
      have d3 := (HC.out _ H2).1.2.2
      have d4 := (HC.out _ H2).2.1
      have d5 := (HC.out _ H2).2.2.1
      have d6 := (HC.out _ H2).2.2.2
      have H3 := hide (HS.out _ H2)
      clear H2
      go_wp2
      go_roundw
      case rel => exact ⟨k + 1, by omega, by go_num, H3.out⟩
      case measure => simp [intOf]; omega
    · obtain rfl : k = l.length := by omega
      have hul : upM l l.length = l := by unfold upM; simp
      rw [hul] at ho
      have HO := hide ho; clear ho hul hlt hk
      go_wp2
      go_ret
      exact ⟨_, rfl, HO.out.low, HO.out.ownM 0 rfl⟩
section
open Go.ChangeShapes Go.WideShapes Go.Deep
variable {H : Type} {enc : TypeId × Value → H} {w : World} {base : Nat} {spare : Nat → Bool} {held : Bool}
theorem next_cell2 (a : Addr) (hs : a.spot = none) : (⟨a.block, a.off + 2, none⟩ : Addr) = a.add 2 := by unfold Addr.add; simp
set_option maxRecDepth 100000 in
theorem open_mvs {r : Reach} {b0 : Nat} {v : Value} {d : DataW H} {ps : List MemPlace}
    (hval : Value.okWide Try.prog w r b0 62 v) (hd : DataW.Trod enc Try.prog w base spare held 62 v d ps) : ∃ l : List (Int × Int × Int), RdM w v l ∧ True := by
  obtain ⟨a0, len0, cap0, rfl⟩ := okWide_slice Try.underlying62 hval
  obtain ⟨fuel, hf⟩ := hd
  rcases Go.Deep.open_slice Try.underlying62 hf with ⟨e1, _⟩ | ⟨a, len, cap, m, n, D, Pl, e1, _, hl, hm, hmm, _, hV⟩
  · injection e1 with e1
    rw [e1]
    exact ⟨[], ⟨none, 0, rfl, by simp, fun i x hx => by simp at hx⟩, trivial⟩
  · injection e1 with e1
    rw [e1]
    have hlm : len ≤ m := by rw [hmm]; split <;> omega
    have hC : Try.prog.cellsOf 36 = 3 := by kernel_rfl
    have h1 : Try.prog.cellsOf 2 = 1 := by kernel_rfl
    rw [hC] at hV
    have key : ∀ i, i < len → ∃ x : Int × Int × Int, w.cell? (a.add (i * 3)) = some (.int .i64 x.1) ∧ w.cell? ⟨(a.add (i * 3)).block, (a.add (i * 3)).off + 1, none⟩ = some (.int .i64 x.2.1) ∧ w.cell? ⟨(a.add (i * 3)).block, (a.add (i * 3)).off + 2, none⟩ = some (.int .i64 x.2.2) := by
      intro i hi
      obtain ⟨cs', hc, ht⟩ := hV i (by omega)
      obtain ⟨_, hcl, hat⟩ := World.cells?_some hc
      obtain ⟨xs, k, _, hx, _, hlen, hfl⟩ := DataW.trod_struct Try.underlying36 ht
      have hx2 : xs.length = 3 := hlen
      have g0 : DataW.trod enc Try.prog w base spare held k 2 (List.take (Try.prog.cellsOf 2) (List.drop 0 cs')) = xs[0]? := hfl 0 _ rfl
      have g1 : DataW.trod enc Try.prog w base spare held k 2 (List.take (Try.prog.cellsOf 2) (List.drop 1 cs')) = xs[1]? := hfl 1 _ rfl
      have g2 : DataW.trod enc Try.prog w base spare held k 2 (List.take (Try.prog.cellsOf 2) (List.drop 2 cs')) = xs[2]? := hfl 2 _ rfl
      rw [List.getElem?_eq_getElem (by omega), h1] at g0 g1 g2
      obtain ⟨x, ex, _, _⟩ := DataW.trod_int Try.underlying2 g0
      obtain ⟨y, ey, _, _⟩ := DataW.trod_int Try.underlying2 g1
      obtain ⟨z, ez, _, _⟩ := DataW.trod_int Try.underlying2 g2
      have c0 := hat 0 (by omega)
      have c1 := hat 1 (by omega)
      have c2 := hat 2 (by omega)
      have e0 : cs'[0]? = some (.int .i64 x) := by have := congrArg (·[0]?) ex; simpa [List.getElem?_take] using this
      have e1 : cs'[1]? = some (.int .i64 y) := by have := congrArg (·[0]?) ey; simpa [List.getElem?_take] using this
      have e2 : cs'[2]? = some (.int .i64 z) := by have := congrArg (·[0]?) ez; simpa [List.getElem?_take] using this
      rw [e0] at c0
      rw [e1] at c1
      rw [e2] at c2
      have c0' : w.cell? (a.add (i * 3)) = some (.int .i64 x) := by rw [← c0]; unfold Addr.add; simp
      exact ⟨(x, y, z), c0', by rw [next_cell _ (spot_none c0')]; exact c1, by rw [next_cell2 _ (spot_none c0')]; exact c2⟩
    obtain ⟨L, hL⟩ : ∃ L : Nat → Int × Int × Int, ∀ i, i < len → w.cell? (a.add (i * 3)) = some (.int .i64 (L i).1) ∧ w.cell? ⟨(a.add (i * 3)).block, (a.add (i * 3)).off + 1, none⟩ = some (.int .i64 (L i).2.1) ∧ w.cell? ⟨(a.add (i * 3)).block, (a.add (i * 3)).off + 2, none⟩ = some (.int .i64 (L i).2.2) := by
      refine ⟨fun i => if h : i < len then (key i h).choose else (0, 0, 0), fun i hi => ?_⟩
      simp only [hi, dif_pos]
      exact (key i hi).choose_spec
    refine ⟨(List.range len).map L, ⟨some a, cap, by simp, ?_, fun i x hx => ?_⟩, trivial⟩
    · have : maxLen = 9223372036854775807 := rfl
      simp; omega
    · have hi : i < len := by have := (List.getElem?_eq_some_iff.1 hx).1; simpa using this
      simp [hi] at hx
      subst hx
      refine ⟨a, rfl, ?_, hL i hi⟩
      rw [← add_block a (i * 3)]
      have hc' := (hL i hi).1
      rcases Nat.lt_or_ge (a.add (i * 3)).block w.heap.size with c | c
      · exact c
      · unfold World.cell? at hc'
        rw [Array.getElem?_eq_none c] at hc'
        simp at hc'
end
end Go.Proofs.Ytpkfjdaedaplfaa

namespace Go.Proofs.Ytpkfjdaedaplfaa
open Go.RowKit

def rlT (k : Int) : TypeId := if k = 0 then 115 else if k = 1 then 116 else 118
/-- the rule of a move -/
def rlV (k a b : Int) : Value := if k = 0 then .iface 115 (.agg #[]) else if k = 1 then .iface 116 (.agg #[]) else .iface 118 (.agg #[.int .i64 a, .int .i64 b])
set_option maxHeartbeats 1000000 in
theorem ruleOf_any (k a b : Int) (w : World) : Calls Try.prog 66 #[.agg #[.int .i64 k, .int .i64 a, .int .i64 b]] w fun e w' => e = .returned (rlV k a b) ∧ Below w.heap.size w w' := by
  rcases h0 : (k == 0) with _ | _
  · rcases h1 : (k == 1) with _ | _
    · rw [show rlV k a b = .iface 118 (.agg #[.int .i64 a, .int .i64 b]) from (if_neg (by simpa using h0)).trans (if_neg (by simpa using h1))]
      go_enter Try.func66, Try.ntmps66
      go_wp2
      go_ret
      exact ⟨rfl, below1 _ _⟩
    · rw [show rlV k a b = .iface 116 (.agg #[]) from (if_neg (by simpa using h0)).trans (if_pos (by simpa using h1))]
      go_enter Try.func66, Try.ntmps66
      go_wp2
      go_ret
      exact ⟨rfl, below1 _ _⟩
  · rw [show rlV k a b = .iface 115 (.agg #[]) from if_pos (by simpa using h0)]
    go_enter Try.func66, Try.ntmps66
    go_wp2
    go_ret
    exact ⟨rfl, below1 _ _⟩
/-- a rule of the degree -/
def DegV (v : Value) (d : Int) : Prop :=
  ∃ (T : TypeId) (x : Value) (K : Nat) (r : Value), v = .iface T x ∧ (∀ (N : Nat) w, (method (N + 1) T x "loop.example/g01200/impl.degree").run Try.prog w = .ok (K, r) w) ∧ (∀ (N : Nat) w, (nilAhead (N + 1) T x "loop.example/g01200/impl.degree").run Try.prog w = .ok (some false) w) ∧ (∀ (a : Value) w, (callFunc K #[a]).run Try.prog w = .ok (.enter K #[a]) w) ∧
    ∀ w, Calls Try.prog K #[r] w fun e w' => e = .returned (.int .i64 d) ∧ Below w.heap.size w w'
set_option maxHeartbeats 1000000 in
theorem oneDegree_any (w : World) : Calls Try.prog 131 #[.agg #[]] w fun e w' => e = .returned (.int .i64 1) ∧ Below w.heap.size w w' := by
  go_enter Try.func131, Try.ntmps131
  go_wp2
  go_ret
  exact ⟨rfl, below1 _ _⟩
set_option maxHeartbeats 1000000 in
theorem powDegree_any (a b : Int) (h : (a + b).natAbs ≤ 4000000000) (w : World) : Calls Try.prog 135 #[.agg #[.int .i64 a, .int .i64 b]] w fun e w' => e = .returned (.int .i64 (a + b)) ∧ Below w.heap.size w w' := by
  have hw : wrap64 (a + b) = a + b := wr64 (by omega) (by omega)
  clear h
  go_enter Try.func135, Try.ntmps135
  go_wp2
  go_ret
  exact ⟨congrArg Ending.returned (congrArg (Value.int .i64) hw), below1 _ _⟩
/-- the degree of a move -/
def dg (k a b : Int) : Int := if k = 2 then a + b else 1
set_option maxRecDepth 100000 in
theorem deg_rule {k a b : Int} (h : mvB k a b = true) : DegV (rlV k a b) (dg k a b) := by
  have hm := mvB_true h
  by_cases h0 : k = 0
  · rw [show rlV k a b = .iface 115 (.agg #[]) from if_pos h0, show dg k a b = 1 from if_neg (by omega)]
    exact ⟨115, .agg #[], 131, .agg #[], rfl, fun _ _ => by kernel_rfl, fun _ _ => by kernel_rfl, fun _ _ => by kernel_rfl, fun w => oneDegree_any w⟩
  · by_cases h1 : k = 1
    · rw [show rlV k a b = .iface 116 (.agg #[]) from (if_neg h0).trans (if_pos h1), show dg k a b = 1 from if_neg (by omega)]
      exact ⟨116, .agg #[], 131, .agg #[], rfl, fun _ _ => by kernel_rfl, fun _ _ => by kernel_rfl, fun _ _ => by kernel_rfl, fun w => oneDegree_any w⟩
    · rw [show rlV k a b = .iface 118 (.agg #[.int .i64 a, .int .i64 b]) from (if_neg h0).trans (if_neg h1), show dg k a b = a + b from if_pos (by omega)]
      exact ⟨118, .agg #[.int .i64 a, .int .i64 b], 135, .agg #[.int .i64 a, .int .i64 b], rfl, fun _ _ => by kernel_rfl, fun _ _ => by kernel_rfl, fun _ _ => by kernel_rfl, fun w => powDegree_any a b (by omega) w⟩
/-- all are moves -/
def amB (l : List (Int × Int × Int)) : Bool := l.all fun x => mvB x.1 x.2.1 x.2.2
theorem amB_bad {l : List (Int × Int × Int)} {i : Nat} (hi : i < l.length) (h : mvB l[i].1 l[i].2.1 l[i].2.2 = false) : amB l = false := by
  unfold amB
  rw [List.all_eq_false]
  exact ⟨l[i], List.getElem_mem hi, by rw [h]; decide⟩
theorem amB_good {l : List (Int × Int × Int)} (h : ∀ i (hi : i < l.length), mvB l[i].1 l[i].2.1 l[i].2.2 = true) : amB l = true := by
  unfold amB
  rw [List.all_eq_true]
  intro x hx
  obtain ⟨i, hi, rfl⟩ := List.getElem_of_mem hx
  exact h i hi
theorem amB_true {l : List (Int × Int × Int)} (h : amB l = true) {i : Nat} (hi : i < l.length) : mvB l[i].1 l[i].2.1 l[i].2.2 = true := by
  unfold amB at h
  rw [List.all_eq_true] at h
  exact h _ (List.getElem_mem hi)
set_option maxHeartbeats 1000000 in
theorem areMoves1_any (k a b : Int) (w : World) : Calls Try.prog 91 #[.agg #[.int .i64 k, .int .i64 a, .int .i64 b]] w fun e w' => e = .returned (.bool (!mvB k a b)) ∧ Below w.heap.size w w' := by
  have C := hide fun w => isMove_any k a b w
  have HH := (Holds.start w).blk #[.int .i64 k, .int .i64 a, .int .i64 b] 38 w.heap.size rfl
  generalize mvB k a b = r at *
  go_enter Try.func91, Try.ntmps91
  go_wp2_with fail
  refine (C.out _).mono ?_
  rintro e w5 ⟨rfl, hb5⟩
  have H5 := (HH.call hb5).low
  go_wp2_with fail
  go_ret
  exact ⟨rfl, H5⟩
/-- where the first that is none stands, or -1 -/
def jx (l : List (Int × Int × Int)) : Int := if l.findIdx (fun x => !mvB x.1 x.2.1 x.2.2) < l.length then ((l.findIdx (fun x => !mvB x.1 x.2.1 x.2.2) : Nat) : Int) else -1
theorem jx_at {l : List (Int × Int × Int)} {k : Nat} (hk : k < l.length) (h : ∀ i (hi : i < l.length), i < k → mvB l[i].1 l[i].2.1 l[i].2.2 = true) (ht : mvB l[k].1 l[k].2.1 l[k].2.2 = false) : jx l = k := by
  have e : l.findIdx (fun x => !mvB x.1 x.2.1 x.2.2) = k := by
    rw [List.findIdx_eq hk]
    exact ⟨by simp [ht], fun j hj => by simp [h j (by omega) hj]⟩
  unfold jx
  rw [e, if_pos hk]
theorem jx_end {l : List (Int × Int × Int)} (h : ∀ i (hi : i < l.length), mvB l[i].1 l[i].2.1 l[i].2.2 = true) : jx l = -1 := by
  have e : l.findIdx (fun x => !mvB x.1 x.2.1 x.2.2) = l.length := by
    rw [List.findIdx_eq_length]
    intro x hx
    obtain ⟨i, hi, rfl⟩ := List.getElem_of_mem hx
    simp [h i hi]
  unfold jx
  rw [e, if_neg (by omega)]
theorem jx_am (l : List (Int × Int × Int)) : decide (0 ≤ jx l) = !amB l := by
  rcases h : amB l with _ | _
  · unfold amB at h
    rw [List.all_eq_false] at h
    obtain ⟨x, hx, hn⟩ := h
    have : l.findIdx (fun x => !mvB x.1 x.2.1 x.2.2) < l.length := List.findIdx_lt_length_of_exists ⟨x, hx, by simpa using hn⟩
    unfold jx
    rw [if_pos this]
    simp
  · rw [jx_end (fun i hi => amB_true h hi)]
    rfl
set_option maxRecDepth 100000 in
set_option maxHeartbeats 2000000 in
theorem indexMoves_any (l : List (Int × Int × Int)) (v : Value) (w : World) (h : RdM w v l) :
    Calls Try.prog 98 #[v, .func (.func 91) #[] #[]] w fun e w' => e = .returned (.int .i64 (jx l)) ∧ Below w.heap.size w w' := by
  obtain ⟨A, c, rfl, hl⟩ := h.form
  have H := hide h; clear h
  obtain ⟨R, hR⟩ : ∃ R : Int, jx l = R := ⟨_, rfl⟩
  rw [hR]
  have HR := hide hR; clear hR
  go_enter Try.func98, Try.ntmps98
  go_wp2
  go_loopw [8] (fun i wr => ∃ k : Nat, k ≤ l.length ∧ i = .int .i64 k ∧ Hid (∀ i (hi : i < l.length), i < k → mvB l[i].1 l[i].2.1 l[i].2.2 = true) ∧ Below w.heap.size w wr) (fun i _ => l.length - (intOf i).toNat)
  case atStart => exact ⟨0, by omega, rfl, hide (fun i hi h => by omega), Below.refl _ _⟩
  case round =>
    obtain ⟨k, hk, rfl, hK, hb⟩ := hrel
    by_cases hlt : k < l.length
    · obtain ⟨a, rfl, k1, c1, c2, c3⟩ := (H.out.below hb (Nat.le_refl _)).at hlt
      clear k1
      have C := hide fun w => areMoves1_any l[k].1 l[k].2.1 l[k].2.2 w
      obtain ⟨b, hbt⟩ : ∃ b, mvB l[k].1 l[k].2.1 l[k].2.2 = b := ⟨_, rfl⟩
      rw [hbt] at C
      have HN := hide (show b = true → ∀ i (hi : i < l.length), i < k + 1 → mvB l[i].1 l[i].2.1 l[i].2.2 = true from fun e i hi h => by
        by_cases ce : i = k
        · subst ce; rw [hbt, e]
        · exact hK.out i hi (by omega))
      have HF := hide (show b = false → (k : Int) = R from fun e => by
        rw [← HR.out, jx_at hlt (fun i hi h => hK.out i hi h) (hbt.trans e)])
      clear hK hbt
      generalize l[k].1 = x at *
      generalize l[k].2.1 = y at *
      generalize l[k].2.2 = z at *
      go_wp2_with fail
      refine (C.out _).mono ?_
      rintro e w2 ⟨rfl, hb2⟩
      have hb3 : Below w.heap.size w w2 := hb.trans (hb2.mono hb.size)
      clear hb hb2 C c1 c2 c3
      rcases b with _ | _
      · have hR := hide (HF.out rfl)
        clear HN HF
        go_wp2_with fail
        go_ret
        exact ⟨by rw [← hR.out]; rfl, hb3⟩
      · clear HF
        have HN' := hide (HN.out rfl)
        clear HN
        go_wp2_with fail
        go_roundw
        case rel => exact ⟨k + 1, by omega, by go_num, HN', hb3⟩
        case measure => simp [intOf]; omega
    · obtain rfl : k = l.length := by omega
      have hF := hide (show (-1 : Int) = R by
        rw [← HR.out, jx_end (fun i hi => hK.out i hi hi)])
      clear hlt hk hK
      go_wp2
      go_ret
      exact ⟨by rw [← hF.out]; rfl, hb⟩
set_option maxRecDepth 100000 in
set_option maxHeartbeats 1000000 in
theorem areMoves_any (l : List (Int × Int × Int)) (v : Value) (w : World) (h : RdM w v l) :
    Calls Try.prog 78 #[v] w fun e w' => e = .returned (.bool (amB l)) ∧ Below w.heap.size w w' := by
  have C := hide (indexMoves_any l v w h)
  have hd := jx_am l
  clear h
  have KEY : Calls Try.prog 90 #[v, .func (.func 91) #[] #[]] w fun e w' => e = .returned (.bool (!amB l)) ∧ Below w.heap.size w w' := by
    generalize amB l = r at *
    generalize jx l = j at *
    go_enter Try.func90, Try.ntmps90
    go_wp2_with fail
    refine C.out.mono ?_
    rintro e w1 ⟨rfl, hb⟩
    go_wp2_with fail
    go_ret
    exact ⟨by rw [← hd]; rfl, hb⟩
  have K := hide KEY
  clear KEY C hd
  generalize amB l = r at *
  go_enter Try.func78, Try.ntmps78
  go_wp2_with fail
  refine K.out.mono ?_
  rintro e w1 ⟨rfl, hb⟩
  cases r
  all_goals (
    go_wp2_with fail
    go_ret
    exact ⟨rfl, hb⟩)
end Go.Proofs.Ytpkfjdaedaplfaa

namespace Go.Proofs.Ytpkfjdaedaplfaa
open Go.RowKit

/-- the product of the degrees, as long as it is not too great -/
def dmF (p : Int) : List (Int × Int × Int) → Int × Int
  | [] => (p, 0)
  | x :: l => if 1000000000 < p * dg x.1 x.2.1 x.2.2 then (0, 3) else dmF (p * dg x.1 x.2.1 x.2.2) l
def dmR (l : List (Int × Int × Int)) : Int := if amB l = true then (if 20 < l.length then 0 else (dmF 1 l).1) else 0
def dmC (l : List (Int × Int × Int)) : Int := if amB l = true then (if 20 < l.length then 2 else (dmF 1 l).2) else 1
/-- the error of a list of moves -/
def lmC (l : List (Int × Int × Int)) : Int := if amB l = true then (if 20 < l.length then 2 else 0) else 1
theorem dg_in {k a b : Int} (h : mvB k a b = true) : 1 ≤ dg k a b ∧ dg k a b ≤ 40 := by
  have := mvB_true h
  unfold dg
  split <;> omega
set_option maxHeartbeats 1000000 in
theorem l10Degree_any (k a b : Int) (h : mvB k a b = true) (w : World) : Calls Try.prog 77 #[.agg #[.int .i64 k, .int .i64 a, .int .i64 b]] w fun e w' => e = .returned (.int .i64 (dg k a b)) ∧ Below w.heap.size w w' := by
  have hm := mvB_true h
  have hw : wrap64 (a + b) = a + b := wr64 (by omega) (by omega)
  have hd : dg k a b = max 1 (a + b) := by unfold dg; split <;> omega
  rw [hd]
  clear h hd
  by_cases h1 : 1 < a + b
  · have e : max 1 (a + b) = a + b := by omega
    rw [e]
    clear hm
    generalize hs : a + b = s at *
    go_enter Try.func77, Try.ntmps77
    go_wp2
    all_goals (try (exfalso; omega))
    all_goals (go_ret; first | exact ⟨rfl, below1 _ _⟩ | exact ⟨by rw [← hs]; rfl, below1 _ _⟩ | exact ⟨congrArg Ending.returned (congrArg (Value.int .i64) hw), below1 _ _⟩)
  · have e : max 1 (a + b) = 1 := by omega
    rw [e]
    clear hm
    generalize hs : a + b = s at *
    go_enter Try.func77, Try.ntmps77
    go_wp2
    all_goals (try (exfalso; omega))
    all_goals (go_ret; first | exact ⟨rfl, below1 _ _⟩ | exact ⟨by simp <;> omega, below1 _ _⟩)
set_option maxRecDepth 100000 in
set_option maxHeartbeats 1000000 in
theorem l10Moves_any (l : List (Int × Int × Int)) (v : Value) (w : World) (h : RdM w v l) :
    Calls Try.prog 76 #[v] w fun e w' => e = .returned (.int .i64 (lmC l)) ∧ Below w.heap.size w w' := by
  obtain ⟨A, c, rfl, hl⟩ := h.form
  have H := hide h; clear h
  obtain ⟨R, hR⟩ : ∃ R : Int, lmC l = R := ⟨_, rfl⟩
  rw [hR]
  have HR := hide hR; clear hR
  go_enter Try.func76, Try.ntmps76
  go_wp2
  go_loopw [3] (fun i wr => ∃ k : Nat, k ≤ l.length ∧ i = .int .i64 k ∧ Hid (∀ i (hi : i < l.length), i < k → mvB l[i].1 l[i].2.1 l[i].2.2 = true) ∧ Below w.heap.size w wr) (fun i _ => l.length - (intOf i).toNat)
  case atStart => exact ⟨0, by omega, rfl, hide (fun i hi h => by omega), Below.refl _ _⟩
  case round =>
    obtain ⟨k, hk, rfl, hK, hb⟩ := hrel
    by_cases hlt : k < l.length
    · obtain ⟨a, rfl, k1, c1, c2, c3⟩ := (H.out.below hb (Nat.le_refl _)).at hlt
      clear k1
      have C := hide fun w => l10Move_any l[k].1 l[k].2.1 l[k].2.2 w
      obtain ⟨b, hbt⟩ : ∃ b, mvB l[k].1 l[k].2.1 l[k].2.2 = b := ⟨_, rfl⟩
      rw [hbt] at C
      have HN := hide (show b = true → ∀ i (hi : i < l.length), i < k + 1 → mvB l[i].1 l[i].2.1 l[i].2.2 = true from fun e i hi h => by
        by_cases ce : i = k
        · subst ce; rw [hbt, e]
        · exact hK.out i hi (by omega))
      have HF := hide (show b = false → 1 = R from fun e => by
        rw [← HR.out]; unfold lmC; rw [amB_bad hlt (hbt.trans e)]; rfl)
      clear hK hbt
      generalize l[k].1 = x at *
      generalize l[k].2.1 = y at *
      generalize l[k].2.2 = z at *
      go_wp2_with fail
      refine (C.out _).mono ?_
      rintro e w2 ⟨rfl, hb2⟩
      have hb3 : Below w.heap.size w w2 := hb.trans (hb2.mono hb.size)
      clear hb hb2 C c1 c2 c3
      rcases b with _ | _
      · have hR := hide (HF.out rfl)
        clear HN HF
        go_wp2_with fail
        go_ret
        exact ⟨by rw [← hR.out]; rfl, hb3⟩
      · clear HF
        have HN' := hide (HN.out rfl)
        clear HN
        go_wp2_with fail
        go_roundw
        case rel => exact ⟨k + 1, by omega, by go_num, HN', hb3⟩
        case measure => simp [intOf]; omega
    · obtain rfl : k = l.length := by omega
      have hF : lmC l = if 20 < l.length then 2 else 0 := by unfold lmC; rw [if_pos (amB_good fun i hi => hK.out i hi hi)]
      have hR' := HR.out
      rw [hF] at hR'
      clear hF hlt hk hK
      by_cases h20 : 20 < l.length
      · rw [if_pos h20] at hR'
        subst hR'
        have hd20 := decide_eq_true (show (20 : Int) < l.length by omega)
        clear h20
        go_wp2
        go_ret
        exact ⟨rfl, hb⟩
      · rw [if_neg h20] at hR'
        subst hR'
        have hd20 := decide_eq_false (show ¬ ((20 : Int) < l.length) by omega)
        clear h20
        go_wp2
        go_ret
        exact ⟨rfl, hb⟩
set_option maxRecDepth 100000 in
set_option maxHeartbeats 4000000 in
theorem degreeOfMoves_any (l : List (Int × Int × Int)) (v : Value) (w : World) (h : RdM w v l) :
    Calls Try.prog 48 #[v] w fun e w' => e = .returned (.tuple #[.int .i64 (dmR l), .int .i64 (dmC l)]) ∧ Below w.heap.size w w' := by
  obtain ⟨A, c, rfl, hl⟩ := h.form
  have CM := hide fun w h => areMoves_any l (.slice A l.length c) w h
  have H := hide h; clear h
  obtain ⟨rR, hrR⟩ : ∃ r, r = dmR l := ⟨_, rfl⟩
  obtain ⟨rC, hrC⟩ : ∃ r, r = dmC l := ⟨_, rfl⟩
  rw [← hrR, ← hrC]
  rcases ha : amB l with _ | _
  · obtain rfl : rR = 0 := by rw [hrR]; unfold dmR; rw [if_neg (by rw [ha]; decide)]
    obtain rfl : rC = 1 := by rw [hrC]; unfold dmC; rw [if_neg (by rw [ha]; decide)]
    rw [ha] at CM
    clear hrR hrC ha
    go_enter Try.func48, Try.ntmps48
    go_wp2_with fail
    refine (CM.out _ H.out).mono ?_
    rintro e w1 ⟨rfl, hb⟩
    go_wp2_with fail
    go_ret2
    exact ⟨rfl, hb⟩
  by_cases h20 : 20 < l.length
  · obtain rfl : rR = 0 := by rw [hrR]; unfold dmR; rw [if_pos ha, if_pos h20]
    obtain rfl : rC = 2 := by rw [hrC]; unfold dmC; rw [if_pos ha, if_pos h20]
    rw [ha] at CM
    have hd20 := decide_eq_true (show (20 : Int) < l.length by omega)
    clear hrR hrC ha h20
    go_enter Try.func48, Try.ntmps48
    go_wp2_with fail
    refine (CM.out _ H.out).mono ?_
    rintro e w1 ⟨rfl, hb⟩
    go_wp2_with fail
    go_ret2
    exact ⟨rfl, hb⟩
  have hR := hide (show rR = (dmF 1 l).1 by rw [hrR]; unfold dmR; rw [if_pos ha, if_neg h20])
  have hC := hide (show rC = (dmF 1 l).2 by rw [hrC]; unfold dmC; rw [if_pos ha, if_neg h20])
  rw [ha] at CM
  have hd20 := decide_eq_false (show ¬ ((20 : Int) < l.length) by omega)
  have HA := hide ha
  clear hrR hrC ha h20
  go_enter Try.func48, Try.ntmps48
  go_wp2_with fail
  refine (CM.out _ H.out).mono ?_
  rintro e w1 ⟨rfl, hb0⟩
  clear CM
  go_wp2_with fail
  go_loopw [4, 15] (fun p i wr => ∃ (k : Nat) (x : Int), k ≤ l.length ∧ i = .int .i64 k ∧ p = .int .i64 x ∧ Hid (dmF x (l.drop k) = dmF 1 l ∧ 1 ≤ x ∧ x ≤ 1000000000) ∧ Below w.heap.size w wr) (fun _ i _ => l.length - (intOf i).toNat)
  case atStart => exact ⟨0, 1, by omega, rfl, rfl, hide ⟨by rw [List.drop_zero], by decide, by decide⟩, hb0⟩
  case round =>
    clear hb0
    obtain ⟨k, x, hk, rfl, rfl, hx, hb⟩ := hrel
    by_cases hlt : k < l.length
    · have hlt' : (k : Int) < l.length := by omega
      obtain ⟨a, rfl, k1, c1, c2, c3⟩ := (H.out.below hb (Nat.le_refl _)).at hlt
      clear k1
      have hm := amB_true HA.out hlt
      have hdr : l.drop k = l[k] :: l.drop (k + 1) := List.drop_eq_getElem_cons hlt
      obtain ⟨e1, e2, e3⟩ := hx.out
      rw [hdr, dmF] at e1
      have CL := hide fun w => ruleOf_any l[k].1 l[k].2.1 l[k].2.2 w
      have hdv := deg_rule hm
      have hdb := dg_in hm
      clear hm hdr hx
      generalize l[k].1 = m1 at *
      generalize l[k].2.1 = m2 at *
      generalize l[k].2.2 = m3 at *
      generalize dg m1 m2 m3 = d at *
      have hp : 1 ≤ x * d ∧ x * d ≤ 40000000000 := by
        constructor
        · have := Int.mul_le_mul e2 hdb.1 (by omega) (by omega); omega
        · have := Int.mul_le_mul e3 hdb.2 (by omega) (by omega); omega
      have hw : wrap64 (x * d) = x * d := wr64 (by omega) (by omega)
      obtain ⟨q, hq⟩ : ∃ q, x * d = q := ⟨_, rfl⟩
      rw [hq] at hw hp e1
      generalize rlV m1 m2 m3 = vr at *
      obtain ⟨T, xr, K, r, rfl, mt, nl, cl, CD⟩ := hdv
      have CDh := hide CD; clear CD
      by_cases hbig : 1000000000 < q
      · rw [if_pos hbig] at e1
        have hd := decide_eq_true hbig
        obtain rfl : rR = 0 := by rw [hR.out, ← e1]
        obtain rfl : rC = 3 := by rw [hC.out, ← e1]
        clear hbig hR hC e1 e2 e3 hp hdb
        go_wp2_with fail
        refine (CL.out _).mono ?_
        rintro e w2 ⟨rfl, hb2⟩
        have hb3 := hb.trans (((below1 wr (.cells #[.int .i64 m1, .int .i64 m2, .int .i64 m3] 38)).trans (hb2.mono (by simp))).mono hb.size)
        clear hb hb2 CL c1 c2 c3
        go_wp2_with fail
        refine (CDh.out _).mono ?_
        rintro e w3 ⟨rfl, hb4⟩
        have hb5 : Below w.heap.size w w3 := hb3.trans (hb4.mono hb3.size)
        clear hb3 hb4 CDh mt nl cl
        go_wp2_with fail
        go_ret2
        exact ⟨rfl, hb5⟩
      · rw [if_neg hbig] at e1
        have hd := decide_eq_false hbig
        have E1 := hide (And.intro e1 (And.intro hp.1 (by omega : q ≤ 1000000000)))
        clear hbig e1 e2 e3 hp hdb
        go_wp2_with fail
        refine (CL.out _).mono ?_
        rintro e w2 ⟨rfl, hb2⟩
        have hb3 := hb.trans (((below1 wr (.cells #[.int .i64 m1, .int .i64 m2, .int .i64 m3] 38)).trans (hb2.mono (by simp))).mono hb.size)
        clear hb hb2 CL c1 c2 c3
        go_wp2_with fail
        refine (CDh.out _).mono ?_
        rintro e w3 ⟨rfl, hb4⟩
        have hb5 : Below w.heap.size w w3 := hb3.trans (hb4.mono hb3.size)
        clear hb3 hb4 CDh mt nl cl
        go_wp2_with fail
        go_roundw
        case rel => exact ⟨k + 1, q, by omega, by go_num, by rw [hw], E1, hb5⟩
        case measure => simp [intOf]; omega
    · obtain rfl : k = l.length := by omega
      have e1 := hx.out.1
      rw [List.drop_length, dmF] at e1
      obtain rfl : rR = x := by rw [hR.out, ← e1]
      obtain rfl : rC = 0 := by rw [hC.out, ← e1]
      clear hlt hk hx e1 hR hC
      go_wp2
      go_ret2
      exact ⟨rfl, hb⟩
set_option maxRecDepth 100000 in
set_option maxHeartbeats 4000000 in
theorem sDegreeOfMoves_any (l : List (Int × Int × Int)) (v : Value) (w : World) (h : RdM w v l) :
    Calls Try.prog 46 #[v] w fun e w' => e = .returned (.tuple #[.int .i64 (dmR l), .int .i64 (dmC l)]) ∧ Below w.heap.size w w' := by
  obtain ⟨A, c, rfl, hl⟩ := h.form
  have CM := hide fun w h => l10Moves_any l (.slice A l.length c) w h
  have H := hide h; clear h
  obtain ⟨rR, hrR⟩ : ∃ r, r = dmR l := ⟨_, rfl⟩
  obtain ⟨rC, hrC⟩ : ∃ r, r = dmC l := ⟨_, rfl⟩
  rw [← hrR, ← hrC]
  rcases ha : amB l with _ | _
  · obtain rfl : rR = 0 := by rw [hrR]; unfold dmR; rw [if_neg (by rw [ha]; decide)]
    obtain rfl : rC = 1 := by rw [hrC]; unfold dmC; rw [if_neg (by rw [ha]; decide)]
    rw [show lmC l = 1 from if_neg (by rw [ha]; decide)] at CM
    clear hrR hrC ha
    go_enter Try.func46, Try.ntmps46
    go_wp2_with fail
    refine (CM.out _ H.out).mono ?_
    rintro e w1 ⟨rfl, hb⟩
    go_wp2_with fail
    go_ret2
    exact ⟨rfl, hb⟩
  by_cases h20 : 20 < l.length
  · obtain rfl : rR = 0 := by rw [hrR]; unfold dmR; rw [if_pos ha, if_pos h20]
    obtain rfl : rC = 2 := by rw [hrC]; unfold dmC; rw [if_pos ha, if_pos h20]
    rw [show lmC l = 2 from (if_pos ha).trans (if_pos h20)] at CM
    have hd20 := decide_eq_true (show (20 : Int) < l.length by omega)
    clear hrR hrC ha h20
    go_enter Try.func46, Try.ntmps46
    go_wp2_with fail
    refine (CM.out _ H.out).mono ?_
    rintro e w1 ⟨rfl, hb⟩
    go_wp2_with fail
    go_ret2
    exact ⟨rfl, hb⟩
  have hR := hide (show rR = (dmF 1 l).1 by rw [hrR]; unfold dmR; rw [if_pos ha, if_neg h20])
  have hC := hide (show rC = (dmF 1 l).2 by rw [hrC]; unfold dmC; rw [if_pos ha, if_neg h20])
  rw [show lmC l = 0 from (if_pos ha).trans (if_neg h20)] at CM
  have hd20 := decide_eq_false (show ¬ ((20 : Int) < l.length) by omega)
  have HA := hide ha
  clear hrR hrC ha h20
  go_enter Try.func46, Try.ntmps46
  go_wp2_with fail
  refine (CM.out _ H.out).mono ?_
  rintro e w1 ⟨rfl, hb0⟩
  clear CM
  go_wp2_with fail
  go_loopw [5, 6] (fun p i wr => ∃ (k : Nat) (x : Int), k ≤ l.length ∧ i = .int .i64 k ∧ p = .int .i64 x ∧ Hid (dmF x (l.drop k) = dmF 1 l ∧ 1 ≤ x ∧ x ≤ 1000000000) ∧ Below w.heap.size w wr) (fun _ i _ => l.length - (intOf i).toNat)
  case atStart => exact ⟨0, 1, by omega, rfl, rfl, hide ⟨by rw [List.drop_zero], by decide, by decide⟩, hb0⟩
  case round =>
    clear hb0
    obtain ⟨k, x, hk, rfl, rfl, hx, hb⟩ := hrel
    by_cases hlt : k < l.length
    · have hlt' : (k : Int) < l.length := by omega
      obtain ⟨a, rfl, k1, c1, c2, c3⟩ := (H.out.below hb (Nat.le_refl _)).at hlt
      clear k1
      have hm := amB_true HA.out hlt
      have hdr : l.drop k = l[k] :: l.drop (k + 1) := List.drop_eq_getElem_cons hlt
      obtain ⟨e1, e2, e3⟩ := hx.out
      rw [hdr, dmF] at e1
      have CD := hide fun w => l10Degree_any l[k].1 l[k].2.1 l[k].2.2 hm w
      have hdb := dg_in hm
      clear hm hdr hx
      generalize l[k].1 = m1 at *
      generalize l[k].2.1 = m2 at *
      generalize l[k].2.2 = m3 at *
      generalize dg m1 m2 m3 = d at *
      have hp : 1 ≤ x * d ∧ x * d ≤ 40000000000 := by
        constructor
        · have := Int.mul_le_mul e2 hdb.1 (by omega) (by omega); omega
        · have := Int.mul_le_mul e3 hdb.2 (by omega) (by omega); omega
      have hw : wrap64 (x * d) = x * d := wr64 (by omega) (by omega)
      obtain ⟨q, hq⟩ : ∃ q, x * d = q := ⟨_, rfl⟩
      rw [hq] at hw hp e1
      by_cases hbig : 1000000000 < q
      · rw [if_pos hbig] at e1
        have hd := decide_eq_true hbig
        obtain rfl : rR = 0 := by rw [hR.out, ← e1]
        obtain rfl : rC = 3 := by rw [hC.out, ← e1]
        clear hbig hR hC e1 e2 e3 hp hdb
        go_wp2_with fail
        refine (CD.out _).mono ?_
        rintro e w2 ⟨rfl, hb2⟩
        have hb3 : Below w.heap.size w w2 := hb.trans (hb2.mono hb.size)
        clear hb hb2 CD c1 c2 c3
        go_wp2_with fail
        go_ret2
        exact ⟨rfl, hb3⟩
      · rw [if_neg hbig] at e1
        have hd := decide_eq_false hbig
        have E1 := hide (And.intro e1 (And.intro hp.1 (by omega : q ≤ 1000000000)))
        clear hbig e1 e2 e3 hp hdb
        go_wp2_with fail
        refine (CD.out _).mono ?_
        rintro e w2 ⟨rfl, hb2⟩
        have hb3 : Below w.heap.size w w2 := hb.trans (hb2.mono hb.size)
        clear hb hb2 CD c1 c2 c3
        go_wp2_with fail
        go_roundw
        case rel => exact ⟨k + 1, q, by omega, by go_num, by rw [hw], E1, hb3⟩
        case measure => simp [intOf]; omega
    · obtain rfl : k = l.length := by omega
      have e1 := hx.out.1
      rw [List.drop_length, dmF] at e1
      obtain rfl : rR = x := by rw [hR.out, ← e1]
      obtain rfl : rC = 0 := by rw [hC.out, ← e1]
      clear hlt hk hx e1 hR hC
      go_wp2
      go_ret2
      exact ⟨rfl, hb⟩
end Go.Proofs.Ytpkfjdaedaplfaa
