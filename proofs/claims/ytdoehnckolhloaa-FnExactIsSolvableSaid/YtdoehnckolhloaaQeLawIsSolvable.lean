/- Texts put together: Ser, LSol -/
import Derived.Test.YtdoehnckolhloaaQdLawIsSolvable
import Derived.Test.YtdoehnckolhloaaChecked
import Derived.WalkKit
import Derived.WalkSpells
import Derived.WalkLawsBesides
import Derived.Deep.LoopGhost
import Derived.Deep.OwnRows
import Derived.Laws.Rows
import Derived.Laws.Tables
import Derived.Laws.CopyOwn
import Derived.ProofKit
import Derived.OpenShut
import Derived.ShutString
import Derived.ChangeOld
import Derived.Below
import Derived.Laws.CopyRow
import Derived.Deep.MidRow
import Derived.Laws.OwnMore
import Derived.Deep.Quiet
import Derived.Deep.QuietTactic
import Derived.BigQuiet
import Derived.StillTail
import Derived.RegionTactic
import Derived.ChangeKeysEq
import Derived.StillTailTactics
import Derived.Deep.RegionWith
import Derived.Deep.RegionHeld3
import Derived.Maps.Keyed
import Derived.DeepKeys4
import Derived.Maps.Own
import Derived.Carry
import Derived.Laws.Cover3
import Derived.Lib.Bytealg
import Derived.Lib.BytesEntry
import Derived.Laws.Externs
import Derived.Laws.StructEq
import Derived.WalkMore
namespace Go.Proofs.Ytdoehnckolhloaa
open Go.RowKit

theorem two_part {w0 w : World} {g : Nat} {p q : Nat → Nat} {L : List Part} (h : Holds w0 w (pBlk g (av2 p q) 27 :: L)) : Holds w0 w (pPl (.slice (some ⟨g, 0, none⟩) 2 2) [p, q] :: L) :=
  h.conv 0 rfl _ (two_row (h.at 0 rfl)) fun k hk => by
    have : g = k := by simpa [pPl, pRow, Value.ownBlock] using hk
    exact this.symm
section
variable (m : Nat) (f g : Nat → Nat) (hd : DesN f g m) (i : Nat) (v : Value) (w : World) (hv : (pPl v (XL m f g i)).ok w)
include hd hv
theorem derivedX_any : Calls Try.prog 83 #[v, .int .i64 m] w fun e w' => ∃ u, e = .returned (.tuple #[u, .int .i64 (oX m f g (i + 1))]) ∧ Holds w w' [pPl u (XL m f g (i + 1))] := by
  obtain ⟨h1, h2⟩ := XL_ok hd i
  refine (derivedGroup_any m hd.pos hd.le v (XL m f g i) h1 h2 w hv).mono ?_
  rintro e w' ⟨u, t, rfl, hH, ht⟩
  have e1 : KF m (XL m f g i) t = XL m f g (i + 1) := DF_of hd.le h1 h2 ht
  rw [e1] at hH
  exact ⟨u, by rw [e1]; rfl, hH⟩
theorem l03DerivedX_any : Calls Try.prog 110 #[v, .int .i64 m] w fun e w' => ∃ u, e = .returned u ∧ Holds w w' [pPl u (XL m f g (i + 1))] := by
  obtain ⟨h1, h2⟩ := XL_ok hd i
  refine (l03Derived_any m hd.pos hd.le v (XL m f g i) h1 h2 w hv).mono ?_
  rintro e w' ⟨u, t, rfl, hH, ht⟩
  have e1 : KF m (XL m f g i) t = XL m f g (i + 1) := DF_of hd.le h1 h2 ht
  rw [e1] at hH
  exact ⟨u, rfl, hH⟩
theorem l03MadeX_any : Calls Try.prog 109 #[v, .int .i64 m] w fun e w' => ∃ q, e = .returned (.pointer (some ⟨q, 0, none⟩)) ∧ Below w.heap.size w w' ∧ Calls Try.prog 108 #[.pointer (some ⟨q, 0, none⟩)] w' fun e w'' => e = .returned (.int .i64 (oX m f g i)) ∧ w'' = w' := by
  obtain ⟨h1, h2⟩ := XL_ok hd i
  refine (l03Made_any m hd.pos hd.le v (XL m f g i) h1 (by omega) w hv).mono ?_
  rintro e w' ⟨q, G, H, B, M, rfl, hH, hM⟩
  refine ⟨q, rfl, hH.low, ?_⟩
  have co := l03Order_any m hd.le q G H B (fun k hk => hM.big hd.le hk) w' (hH.at 0 rfl)
  rw [hM.order fun s hs => (h1 s hs).2.2.1] at co
  exact co
end
theorem oX_zero (m : Nat) (f g : Nat → Nat) : oX m f g 0 = ordT m (Gen m (Two f g)) m := by unfold oX; rw [show XL m f g 0 = [f, g] from rfl, two_mem]

set_option maxRecDepth 100000 in
set_option maxHeartbeats 1000000 in
theorem derivedSeries_any (n : Int) (f g : Nat → Nat) (hf : ∀ i, f i < 256) (hg : ∀ i, g i < 256) (w : World) :
    Calls Try.prog 42 #[.agg (dv n f g)] w fun e w' => ∃ v, e = .returned (.tuple #[v, .int .i64 (serC n f g)]) ∧ Below w.heap.size w w' ∧ Own1 w.heap.size w' v (serR n f g) := by
  have C1 := hide fun w => isDessin_any n f g hf hg w
  have HH0 := (Holds.start w).blk (dv n f g) 29 w.heap.size rfl
  clear hf hg
  rcases h1 : desB n f g with _ | _
  · rw [h1] at C1
    have hr : serR n f g = [] := by unfold serR; rw [if_neg (by simp [h1])]
    have hc : serC n f g = 1 := by unfold serC; rw [if_neg (by simp [h1])]
    rw [hr, hc]
    clear h1 hr hc
    go_enter Try.func42, Try.ntmps42
    go_wp2_with fail
    refine (C1.out _).mono ?_
    rintro e w1 ⟨rfl, hb1⟩
    have HH1 := HH0.call hb1
    clear hb1
    go_wp2
    go_ret2
    exact ⟨.slice none 0 0, rfl, HH1.low, Own1.nil _ _⟩
  · rw [h1] at C1
    obtain ⟨m, rfl, hd⟩ := desB_true h1
    have hr : serR (m : Int) f g = serX m f g := by unfold serR; rw [if_pos h1, Int.toNat_natCast]
    have hc : serC (m : Int) f g = 0 := by unfold serC; rw [if_pos h1]
    rw [hr, hc]
    have hn := dv_n m f g
    have hm := hd.le
    have HD := hide hd
    have C2 := hide fun w => groupOf_any f g m hd w
    clear h1 hr hc hd
    go_enter Try.func42, Try.ntmps42
    go_wp2_with fail
    refine (C1.out _).mono ?_
    rintro e w1 ⟨rfl, hb1⟩
    have HH1 := HH0.call hb1
    have cd1 := HH1.cells 0 rfl
    have cn1 := HH1.cell 0 rfl hn
    clear hb1
    have H2 := two_part (HH1.blk (av2 f g) 27 w1.heap.size rfl)
    have cd2 := H2.cells 1 rfl
    go_wp2_with fail
    refine (C2.out _).mono ?_
    rintro e w2 ⟨gs, vs, R, rfl, hN, hI, hB⟩
    have hSv : SvAt w2 gs m vs R := ⟨hN.at 0 rfl, fun k hk => hN.at (k + 1) (svRows_at vs R hk)⟩
    have H3 := H2.call hN.low
    have hord := hI.order (fun s hs => by
      rcases hs with rfl | rfl
      · exact HD.out.black.2.2.1
      · exact HD.out.white.2.2.1)
    have c3 := order_any m hm gs vs R (fun k hk => by have := hI.way_big hm hk; exact Nat.le_trans this (by decide)) w2 hSv
    have hord' : wayN (fun k => R (k * 2)) m = oX m f g 0 := hord.trans (oX_zero m f g).symm
    rw [hord'] at c3
    clear hSv hI hB hord hord' hN H2 cd1 cd2 cn1 HH1 HH0
    have C3 := hide c3; clear c3
    go_wp2_with fail
    refine C3.out.mono ?_
    rintro e w3 ⟨rfl, hb⟩
    have H4 := (H3.call hb).rowNew #[.int .i64 ((oX m f g 0 : Nat) : Int)] 2 1 1 w3.heap.size rfl rfl (by decide)
    have H5 : Holds w _ (pInts (.slice (some ⟨w3.heap.size, 0, none⟩) 1 1) (serL m f g 1) :: pPl (.slice (some ⟨w1.heap.size, 0, none⟩) 2 2) (XL m f g 0) :: [pBlk w.heap.size (dv m f g) 29]) := H4
    clear H3 H4 hb
    go_wp2
    generalize hG : w.heap.size = G at *
    have HG := hide hG; clear hG
    go_loopw [4, 5] (fun mk os wr => ∃ i : Nat, (∀ k, k < i → oX m f g (k + 1) ≠ oX m f g k) ∧ Holds w wr (pInts os (serL m f g (i + 1)) :: pPl mk (XL m f g i) :: [pBlk G (dv m f g) 29])) (fun _ os _ => 137 - lenV os)
    case atStart => exact ⟨0, fun k hk => absurd hk (Nat.not_lt_zero k), H5⟩
    case round =>
      clear H5
      obtain ⟨i, hne, hH⟩ := hrel
      have hroom := XL_room HD.out i hne
      have cn := hH.cell 2 rfl hn
      have cm := derivedX_any m f g HD.out i _ wr (hH.at 1 rfl)
      obtain ⟨y, hy⟩ : ∃ y, y = oX m f g (i + 1) := ⟨_, rfl⟩
      obtain ⟨x, hx⟩ : ∃ x, x = oX m f g i := ⟨_, rfl⟩
      rw [← hy] at cm
      have CM := hide cm; clear cm
      obtain ⟨A, c, e5⟩ := hH.intsForm 0 rfl
      rw [serL_len] at e5
      subst e5
      go_wp2_with fail
      refine CM.out.mono ?_
      rintro e w4 ⟨u, rfl, hN⟩
      have H6 := hH.joinL hN
      have hil : i < (serL m f g (i + 1)).length := by rw [serL_len]; omega
      obtain ⟨q, c', e5, _, lk, _⟩ := H6.ints 0 rfl hil
      rw [serL_len] at e5
      cases e5
      rw [serL_last i hil, ← hx] at lk
      have hqi : (((i + 1 : Nat)) : Int) - 1 = (i : Int) := by omega
      have hi1 : (i : Int) < ((i + 1 : Nat) : Int) := by omega
      clear hH hN cn CM
      clear hil
      obtain ⟨n1, hn1⟩ : ∃ n1, n1 = i + 1 := ⟨_, rfl⟩
      have HXY := hide (And.intro hx hy); clear hx hy
      rw [← hn1] at hqi hi1 H6
      rw [← hn1]
      have HN1 := hide hn1; clear hn1
      by_cases he : y = x
      · have hs : stopX m f g i := ⟨by rw [← HXY.out.2, ← HXY.out.1, he], hne⟩
        have hser := serX_of hs
        have d1 : (((y : Nat) : Int) == ((x : Nat) : Int)) = true := by simp [he]
        have HS := hide (And.intro hser hs); clear hser hs
        clear he hne
        go_wp2
        go_ret2
        refine ⟨_, rfl, H6.low, ?_⟩
        rw [HS.out.1, ← HN1.out]
        exact H6.own1 0 rfl
      · have d1 : (((y : Nat) : Int) == ((x : Nat) : Int)) = false := by simp; omega
        have hall : ∀ k, k < i + 1 → oX m f g (k + 1) ≠ oX m f g k := fun k hk => by
          rcases Nat.lt_or_ge k i with c | c
          · exact hne k c
          · obtain rfl : k = i := by omega
            rw [← HXY.out.2, ← HXY.out.1]
            exact he
        have hroom2 := XL_room HD.out (i + 1) hall
        have hser : serL m f g (n1 + 1) = serL m f g n1 ++ [y] := by rw [HXY.out.2, HN1.out]; exact serL_succ (i + 1)
        have HS := hide (And.intro hser hall); clear hser hall he hne
        have hn137 : n1 ≤ 136 := by rw [HN1.out]; omega
        have hsl := serL_len (m := m) (f := f) (g := g) n1
        clear hroom hroom2
        go_wp2_with (at_builtin; refine appI (H6.alloc _) 0 rfl w4.heap.size [y] 2 ?_ ?_ rfl _ _ rfl rfl rfl ?_)
        · first | exact heap_at _ _ _ rfl | exact (Array.getElem?_eq_some_iff.1 (heap_at w4 _ _ rfl)).2
        · simp only [List.length_cons, List.length_nil]; omega
        intro v' w' h1
        obtain ⟨A2, c2, e2⟩ := h1.intsForm 0 rfl
        rw [List.length_append, hsl] at e2
        subst e2
        clear H6 lk hsl
        go_wp2
        go_roundw
        case rel =>
          refine ⟨i + 1, HS.out.2, ?_⟩
          rw [← HN1.out, HS.out.1]
          exact (h1.perm (List.Perm.cons _ ((List.perm_append_comm (l₁ := [_, _]) (l₂ := [_]))))).sub (.cons_cons _ (.cons_cons _ (.cons _ (.refl _))))
        case measure => simp only [lenV, List.length_cons, List.length_nil]; omega

set_option maxRecDepth 100000 in
set_option maxHeartbeats 1000000 in
theorem sSeries_any (f g : Nat → Nat) (m : Nat) (hd : DesN f g m) (w : World) :
    Calls Try.prog 80 #[.agg (dv m f g)] w fun e w' => ∃ v, e = .returned v ∧ Below w.heap.size w w' ∧ Own1 w.heap.size w' v (serX m f g) := by
  have HH0 := (Holds.start w).blk (dv m f g) 29 w.heap.size rfl
  have hn := dv_n m f g
  have hm := hd.le
  have HD := hide hd; clear hd
  have H2 := two_part (HH0.blk (av2 f g) 27 (w.heap.size + 1) (by simp))
  have cd2 := H2.cells 1 rfl
  have cn2 := H2.cell 1 rfl hn
  have cd1 := HH0.cells 0 rfl
  have c3 := l03MadeX_any m f g HD.out 0 _ _ (H2.at 0 rfl)
  have C3 := hide c3; clear c3
  have HHH := hide H2; clear H2
  go_enter Try.func80, Try.ntmps80
  go_wp2_with fail
  refine C3.out.mono ?_
  rintro e w2 ⟨q0, rfl, hb, co⟩
  have H3 := HHH.out.call hb
  have CO := hide co; clear co
  clear hb cd2 cn2 cd1
  go_wp2_with fail
  refine CO.out.mono ?_
  rintro e w3 ⟨rfl, hb⟩
  subst hb
  have H4 := H3.rowNew #[.int .i64 ((oX m f g 0 : Nat) : Int)] 2 1 1 w3.heap.size rfl rfl (by decide)
  have H5 : Holds w _ (pInts (.slice (some ⟨w3.heap.size, 0, none⟩) 1 1) (serL m f g 1) :: pPl (.slice (some ⟨w.heap.size + 1, 0, none⟩) 2 2) (XL m f g 0) :: [pBlk w.heap.size (dv m f g) 29]) := H4
  clear H3 H4 HH0
  go_wp2
  generalize hG : w.heap.size = G at *
  have HG := hide hG; clear hG
  go_loopw [3, 4] (fun mk os wr => ∃ i : Nat, (∀ k, k < i → oX m f g (k + 1) ≠ oX m f g k) ∧ Holds w wr (pInts os (serL m f g (i + 1)) :: pPl mk (XL m f g i) :: [pBlk G (dv m f g) 29])) (fun _ os _ => 137 - lenV os)
  case atStart => exact ⟨0, fun k hk => absurd hk (Nat.not_lt_zero k), H5⟩
  case round =>
    clear H5
    obtain ⟨i, hne, hH⟩ := hrel
    have hroom := XL_room HD.out i hne
    have cn := hH.cell 2 rfl hn
    have cm := l03DerivedX_any m f g HD.out i _ wr (hH.at 1 rfl)
    obtain ⟨y, hy⟩ : ∃ y, y = oX m f g (i + 1) := ⟨_, rfl⟩
    obtain ⟨x, hx⟩ : ∃ x, x = oX m f g i := ⟨_, rfl⟩
    have CM := hide cm; clear cm
    obtain ⟨A, c, e5⟩ := hH.intsForm 0 rfl
    rw [serL_len] at e5
    subst e5
    go_wp2_with fail
    refine CM.out.mono ?_
    rintro e w5 ⟨u, rfl, hN⟩
    have H6 := hH.joinL hN
    have ck := l03MadeX_any m f g HD.out (i + 1) _ _ (H6.at 3 rfl)
    rw [← hy] at ck
    have CK := hide ck; clear ck
    clear cn
    have cn := H6.cell 2 rfl hn
    clear hH hN
    go_wp2_with fail
    refine CK.out.mono ?_
    rintro e w6 ⟨q6, rfl, hb, co⟩
    have H7 := H6.call hb
    have CO2 := hide co; clear co
    clear hb H6 cn CK CM
    go_wp2_with fail
    refine CO2.out.mono ?_
    rintro e w4 ⟨rfl, hb⟩
    subst hb
    have H6 := H7
    clear H7 CO2
    have hil : i < (serL m f g (i + 1)).length := by rw [serL_len]; omega
    obtain ⟨q, c', e5, _, lk, _⟩ := H6.ints 0 rfl hil
    rw [serL_len] at e5
    cases e5
    rw [serL_last i hil, ← hx] at lk
    have hqi : (((i + 1 : Nat)) : Int) - 1 = (i : Int) := by omega
    have hi1 : (i : Int) < ((i + 1 : Nat) : Int) := by omega
    skip
    clear hil
    obtain ⟨n1, hn1⟩ : ∃ n1, n1 = i + 1 := ⟨_, rfl⟩
    have HXY := hide (And.intro hx hy); clear hx hy
    rw [← hn1] at hqi hi1 H6
    rw [← hn1]
    have HN1 := hide hn1; clear hn1
    by_cases he : y = x
    · have hs : stopX m f g i := ⟨by rw [← HXY.out.2, ← HXY.out.1, he], hne⟩
      have hser := serX_of hs
      have d1 : (((y : Nat) : Int) == ((x : Nat) : Int)) = true := by simp [he]
      have HS := hide (And.intro hser hs); clear hser hs
      clear he hne
      go_wp2
      go_ret
      first | refine ⟨_, rfl, H6.low, ?_⟩ | refine ⟨rfl, H6.low, ?_⟩
      rw [HS.out.1, ← HN1.out]
      exact H6.own1 0 rfl
    · have d1 : (((y : Nat) : Int) == ((x : Nat) : Int)) = false := by simp; omega
      have hall : ∀ k, k < i + 1 → oX m f g (k + 1) ≠ oX m f g k := fun k hk => by
        rcases Nat.lt_or_ge k i with c | c
        · exact hne k c
        · obtain rfl : k = i := by omega
          rw [← HXY.out.2, ← HXY.out.1]
          exact he
      have hroom2 := XL_room HD.out (i + 1) hall
      have hser : serL m f g (n1 + 1) = serL m f g n1 ++ [y] := by rw [HXY.out.2, HN1.out]; exact serL_succ (i + 1)
      have HS := hide (And.intro hser hall); clear hser hall he hne
      have hn137 : n1 ≤ 136 := by rw [HN1.out]; omega
      have hsl := serL_len (m := m) (f := f) (g := g) n1
      clear hroom hroom2
      go_wp2_with (at_builtin; refine appI (H6.alloc _) 0 rfl w4.heap.size [y] 2 ?_ ?_ rfl _ _ rfl rfl rfl ?_)
      · first | exact heap_at _ _ _ rfl | exact (Array.getElem?_eq_some_iff.1 (heap_at w4 _ _ rfl)).2
      · simp only [List.length_cons, List.length_nil]; omega
      intro v' w' h1
      obtain ⟨A2, c2, e2⟩ := h1.intsForm 0 rfl
      rw [List.length_append, hsl] at e2
      subst e2
      clear H6 lk hsl
      go_wp2
      go_roundw
      case rel =>
        refine ⟨i + 1, HS.out.2, ?_⟩
        rw [← HN1.out, HS.out.1]
        exact (h1.perm (List.Perm.cons _ ((List.perm_append_comm (l₁ := [_, _]) (l₂ := [_]))))).sub (.cons_cons _ (.cons_cons _ (.cons _ (.refl _))))
      case measure => simp only [lenV, List.length_cons, List.length_nil]; omega
set_option maxRecDepth 100000 in
set_option maxHeartbeats 1000000 in
theorem sDerivedSeries_any (n : Int) (f g : Nat → Nat) (hf : ∀ i, f i < 256) (hg : ∀ i, g i < 256) (w : World) :
    Calls Try.prog 41 #[.agg (dv n f g)] w fun e w' => ∃ v, e = .returned (.tuple #[v, .int .i64 (serC n f g)]) ∧ Below w.heap.size w w' ∧ Own1 w.heap.size w' v (serR n f g) := by
  have C1 := hide fun w => sIs_any n f g hf hg w
  have HH0 := (Holds.start w).blk (dv n f g) 29 w.heap.size rfl
  clear hf hg
  rcases h1 : desB n f g with _ | _
  · rw [h1] at C1
    have hr : serR n f g = [] := by unfold serR; rw [if_neg (by simp [h1])]
    have hc : serC n f g = 1 := by unfold serC; rw [if_neg (by simp [h1])]
    rw [hr, hc]
    clear h1 hr hc
    go_enter Try.func41, Try.ntmps41
    go_wp2_with fail
    refine (C1.out _).mono ?_
    rintro e w1 ⟨rfl, hb1⟩
    have HH1 := HH0.call hb1
    clear hb1
    go_wp2
    go_ret2
    exact ⟨.slice none 0 0, rfl, HH1.low, Own1.nil _ _⟩
  · rw [h1] at C1
    obtain ⟨m, rfl, hd⟩ := desB_true h1
    have hr : serR (m : Int) f g = serX m f g := by unfold serR; rw [if_pos h1, Int.toNat_natCast]
    have hc : serC (m : Int) f g = 0 := by unfold serC; rw [if_pos h1]
    rw [hr, hc]
    have C2 := hide fun w => sSeries_any f g m hd w
    clear h1 hr hc hd
    go_enter Try.func41, Try.ntmps41
    go_wp2_with fail
    refine (C1.out _).mono ?_
    rintro e w1 ⟨rfl, hb1⟩
    have HH1 := HH0.call hb1
    have cd1 := HH1.cells 0 rfl
    clear hb1
    go_wp2_with fail
    refine (C2.out _).mono ?_
    rintro e w2 ⟨v, rfl, hb, ho⟩
    have HH2 := HH1.newRow hb ho
    clear hb ho cd1 HH1
    go_wp2
    go_ret2
    exact ⟨v, rfl, HH2.low, HH2.own1 0 rfl⟩

noncomputable def solR (n : Int) (f g : Nat → Nat) : Value := if desB n f g = true then .tuple #[.bool (((oX n.toNat f g (endX n.toNat f g) : Nat) : Int) == 1), .int .i64 0] else .tuple #[.bool false, .int .i64 1]
theorem solR_eq (n : Int) (f g : Nat → Nat) : ∃ (a : Bool) (c : Int), solR n f g = .tuple #[.bool a, .int .i64 c] := by
  unfold solR; split
  · exact ⟨_, _, rfl⟩
  · exact ⟨_, _, rfl⟩

set_option maxRecDepth 100000 in
set_option maxHeartbeats 1000000 in
theorem isSolvable_any (n : Int) (f g : Nat → Nat) (hf : ∀ i, f i < 256) (hg : ∀ i, g i < 256) (w : World) :
    Calls Try.prog 44 #[.agg (dv n f g)] w fun e w' => e = .returned (solR n f g) ∧ Below w.heap.size w w' := by
  have C1 := hide fun w => derivedSeries_any n f g hf hg w
  have HH0 := (Holds.start w).blk (dv n f g) 29 w.heap.size rfl
  clear hf hg
  rcases h1 : desB n f g with _ | _
  · have hr : serR n f g = [] := by unfold serR; rw [if_neg (by simp [h1])]
    have hc : serC n f g = 1 := by unfold serC; rw [if_neg (by simp [h1])]
    have hs : solR n f g = .tuple #[.bool false, .int .i64 1] := by unfold solR; rw [if_neg (by simp [h1])]
    rw [hs]
    rw [hr, hc] at C1
    clear h1 hr hc hs
    go_enter Try.func44, Try.ntmps44
    go_wp2_with fail
    refine (C1.out _).mono ?_
    rintro e w1 ⟨v, rfl, hb, ho⟩
    have HH1 := HH0.newRow hb ho
    clear hb ho
    go_wp2
    go_ret2
    exact ⟨rfl, HH1.low⟩
  · obtain ⟨m, rfl, hd⟩ := desB_true h1
    have hr : serR (m : Int) f g = serL m f g (endX m f g + 1) := by unfold serR; rw [if_pos h1, Int.toNat_natCast]; rfl
    have hc : serC (m : Int) f g = 0 := by unfold serC; rw [if_pos h1]
    have hs : solR (m : Int) f g = .tuple #[.bool (((oX m f g (endX m f g) : Nat) : Int) == 1), .int .i64 0] := by unfold solR; rw [if_pos h1, Int.toNat_natCast]
    rw [hs]
    rw [hr, hc] at C1
    have HD := hide hd
    clear h1 hr hc hs hd
    obtain ⟨R, hR⟩ : ∃ R, R = (((oX m f g (endX m f g) : Nat) : Int) == 1) := ⟨_, rfl⟩
    rw [← hR]
    have HR := hide hR; clear hR
    go_enter Try.func44, Try.ntmps44
    go_wp2_with fail
    refine (C1.out _).mono ?_
    rintro e w1 ⟨v, rfl, hb, ho⟩
    have HH2 := HH0.newRow hb ho
    change Holds w w1 (pInts v (serL m f g (endX m f g + 1)) :: [pBlk w.heap.size (dv m f g) 29]) at HH2
    clear hb ho
    have hil : endX m f g < (serL m f g (endX m f g + 1)).length := by rw [serL_len]; omega
    obtain ⟨q, c', rfl, _, lk, _⟩ := HH2.ints 0 rfl hil
    rw [serL_last _ hil] at lk
    have hqi : (((serL m f g (endX m f g + 1)).length : Nat) : Int) - 1 = ((endX m f g : Nat) : Int) := by rw [serL_len]; omega
    have hi1 : ((endX m f g : Nat) : Int) < ((serL m f g (endX m f g + 1)).length : Int) := by rw [serL_len]; omega
    have hbd : (serL m f g (endX m f g + 1)).length ≤ 137 := by rw [serL_len]; have := endX_le HD.out; omega
    generalize (serL m f g (endX m f g + 1)).length = n1 at *
    generalize endX m f g = i at *
    generalize oX m f g i = x at *
    clear hil
    rcases hx : (((x : Nat) : Int) == 1) with _ | _
    all_goals
      go_wp2
      go_ret2
      refine ⟨?_, HH2.low⟩
      rw [HR.out, hx]
      first | done | rfl

set_option maxRecDepth 100000 in
set_option maxHeartbeats 1000000 in
theorem sIsSolvable_any (n : Int) (f g : Nat → Nat) (hf : ∀ i, f i < 256) (hg : ∀ i, g i < 256) (w : World) :
    Calls Try.prog 43 #[.agg (dv n f g)] w fun e w' => e = .returned (solR n f g) ∧ Below w.heap.size w w' := by
  have C0 := hide fun w => sIs_any n f g hf hg w
  have HH0 := (Holds.start w).blk (dv n f g) 29 w.heap.size rfl
  clear hf hg
  rcases h1 : desB n f g with _ | _
  · rw [h1] at C0
    have hs : solR n f g = .tuple #[.bool false, .int .i64 1] := by unfold solR; rw [if_neg (by simp [h1])]
    rw [hs]
    clear h1 hs
    go_enter Try.func43, Try.ntmps43
    go_wp2_with fail
    refine (C0.out _).mono ?_
    rintro e w1 ⟨rfl, hb1⟩
    have HH1 := HH0.call hb1
    clear hb1
    go_wp2
    go_ret2
    exact ⟨rfl, HH1.low⟩
  · rw [h1] at C0
    obtain ⟨m, rfl, hd⟩ := desB_true h1
    have hs : solR (m : Int) f g = .tuple #[.bool (((oX m f g (endX m f g) : Nat) : Int) == 1), .int .i64 0] := by unfold solR; rw [if_pos h1, Int.toNat_natCast]
    rw [hs]
    have C1 := hide fun w => sSeries_any f g m hd w
    have HD := hide hd
    clear h1 hs hd
    obtain ⟨R, hR⟩ : ∃ R, R = (((oX m f g (endX m f g) : Nat) : Int) == 1) := ⟨_, rfl⟩
    rw [← hR]
    have HR := hide hR; clear hR
    go_enter Try.func43, Try.ntmps43
    go_wp2_with fail
    refine (C0.out _).mono ?_
    rintro e w1 ⟨rfl, hb1⟩
    have HH1 := HH0.call hb1
    have cd1 := HH1.cells 0 rfl
    clear hb1
    go_wp2_with fail
    refine (C1.out _).mono ?_
    rintro e w1 ⟨v, rfl, hb, ho⟩
    have HH2 := HH1.newRow hb ho
    change Holds w w1 (pInts v (serL m f g (endX m f g + 1)) :: [pBlk w.heap.size (dv m f g) 29]) at HH2
    clear hb ho cd1 HH1
    have hil : endX m f g < (serL m f g (endX m f g + 1)).length := by rw [serL_len]; omega
    obtain ⟨q, c', rfl, _, lk, _⟩ := HH2.ints 0 rfl hil
    rw [serL_last _ hil] at lk
    have hqi : (((serL m f g (endX m f g + 1)).length : Nat) : Int) - 1 = ((endX m f g : Nat) : Int) := by rw [serL_len]; omega
    have hi1 : ((endX m f g : Nat) : Int) < ((serL m f g (endX m f g + 1)).length : Int) := by rw [serL_len]; omega
    have hbd : (serL m f g (endX m f g + 1)).length ≤ 137 := by rw [serL_len]; have := endX_le HD.out; omega
    generalize (serL m f g (endX m f g + 1)).length = n1 at *
    generalize endX m f g = i at *
    generalize oX m f g i = x at *
    clear hil
    rcases hx : (((x : Nat) : Int) == 1) with _ | _
    all_goals
      go_wp2
      go_ret2
      refine ⟨?_, HH2.low⟩
      rw [HR.out, hx]
      first | done | rfl


set_option maxRecDepth 100000 in
set_option maxHeartbeats 1000000 in
theorem fnExactDerivedSeries_walk (n : Int) (f g : Nat → Nat) (_hn : -9223372036854775808 ≤ n ∧ n ≤ 9223372036854775807) (hf : ∀ i, f i < 256) (hg : ∀ i, g i < 256) (w : World) :
    Calls Try.prog 13 #[.agg (dv n f g)] w fun e w' => e = .returned (.bool true) ∧ Below w.heap.size w w' := by
  clear _hn 
  have C1 := hide fun w => derivedSeries_any n f g hf hg  w
  have C2 := hide fun w => sDerivedSeries_any n f g hf hg  w
  have hL := serR_bound n f g
  generalize serR n f g = L at *
  generalize serC n f g = c at *
  clear hf hg
  have hne : (c != c) = false := by simp
  have hnt : (((1 + L.length : Nat) : Int) != ((1 + L.length : Nat) : Int)) = false := by simp
  have hneg : decide (((1 + L.length : Nat) : Int) < 0) = false := decide_eq_false (by omega)
  go_enter Try.func13, Try.ntmps13
  go_wp2_with fail
  refine (toDessin_any n f g _).mono ?_
  rintro e w1 ⟨rfl, h1⟩
  go_wp2_with fail
  refine (C2.out _).mono ?_
  rintro e w2 ⟨v0, rfl, h2, o0⟩
  obtain ⟨A0, c0, rfl, p0⟩ := own1_form o0
  clear o0
  have b2 := h1.trans (h2.mono h1.size)
  have g2 : cellsOf w2 w.heap.size = dv n f g := (below_cells b2 (by simp)).trans (cellsOf_heap (heap_at _ _ _ rfl))
  have O0 := hide p0; clear p0
  clear h1 h2
  go_wp2_with fail
  refine (toDessin_any n f g _).mono ?_
  rintro e w3 ⟨rfl, h3⟩
  go_wp2_with fail
  refine (C1.out _).mono ?_
  rintro e w4 ⟨v1, rfl, h4, o1⟩
  obtain ⟨A1, c1, rfl, p1⟩ := own1_form o1
  clear o1
  have s23 := h3.size
  have s34 := h4.size
  have h24 := h3.trans (h4.mono h3.size)
  have O04 := hide (O0.out.below h24 (Nat.le_refl _))
  have O1 := hide p1; clear p1
  have b4 := b2.trans (h24.mono b2.size)
  clear h3 h4 h24 g2
  go_wp2_with fail
  refine (eqInt64S_same L A1 A0 c1 c0 _ _ (by omega) _ O1.out O04.out).mono ?_
  rintro e w5 ⟨rfl, h5⟩
  have s45 := h5.size
  have O05 := hide (O04.out.below h5 (Nat.le_refl _))
  have O15 := hide (O1.out.below h5 (Nat.le_refl _))
  have b5 := b4.trans (h5.mono b4.size)
  clear h5
  go_wp2_with fail
  refine (mk1 L A1 c1 _ (by omega) _ (by omega) O15.out).mono ?_
  rintro e w6 ⟨rfl, h6, s56, o16⟩
  have O16 := hide o16; clear o16
  have O06 := hide (O05.out.lower h6 (fun k hk => by have := O0.out.low k hk; omega))
  have b6 := b5.trans (h6.mono (by have := b2.size; omega))
  clear h6
  go_wp2_with fail
  refine (hd1 L A1 c1 _ (by omega) _ O16.out).mono ?_
  rintro e w7 ⟨rfl, h7⟩
  have s67 := h7.size
  have O17 := hide (O16.out.below h7 (Nat.le_refl _))
  have O07 := hide (O06.out.below h7 (Nat.le_refl _))
  have b7 := b6.trans (h7.mono b6.size)
  have g7 : cellsOf w7 w.heap.size = dv n f g := (below_cells b7 (by simp)).trans (cellsOf_heap (heap_at _ _ _ rfl))
  clear h7
  go_wp2_with fail
  refine (toDessin_any n f g _).mono ?_
  rintro e w8 ⟨rfl, h8⟩
  go_wp2_with fail
  refine (C1.out _).mono ?_
  rintro e w9 ⟨v2, rfl, h9, o2⟩
  obtain ⟨A2, c2, rfl, p2⟩ := own1_form o2
  clear o2
  have h79 := h8.trans (h9.mono h8.size)
  have O09 := hide (O07.out.below h79 (Nat.le_refl _))
  have O19 := hide (O17.out.below h79 (Nat.le_refl _))
  have O2 := hide p2; clear p2
  have b9 := b7.trans (h79.mono b7.size)
  clear h8 h9 h79 g7
  go_wp2_with fail
  refine (eqInt64S_same L A2 A0 c2 c0 _ _ (by omega) _ O2.out O09.out).mono ?_
  rintro e w10 ⟨rfl, h10⟩
  have O110 := hide (O19.out.below h10 (Nat.le_refl _))
  have b10 := b9.trans (h10.mono b9.size)
  clear h10
  go_wp2_with fail
  refine (hd1 L A1 c1 _ (by omega) _ O110.out).mono ?_
  rintro e w11 ⟨rfl, h11⟩
  have b11 := b10.trans (h11.mono b10.size)
  clear h11
  go_wp2
  go_ret
  exact ⟨rfl, (below1 w _).trans (b11.mono (by simp))⟩
end Go.Proofs.Ytdoehnckolhloaa

namespace Go.Proofs.Ytdoehnckolhloaa
open Go.RowKit

set_option maxRecDepth 100000 in
set_option maxHeartbeats 1000000 in
theorem fnExactIsSolvable_walk (n : Int) (f g : Nat → Nat) (_hn : -9223372036854775808 ≤ n ∧ n ≤ 9223372036854775807) (hf : ∀ i, f i < 256) (hg : ∀ i, g i < 256) (w : World) :
    Calls Try.prog 14 #[.agg (dv n f g)] w fun e w' => e = .returned (.bool true) ∧ Below w.heap.size w w' := by
  clear _hn
  obtain ⟨a, c, hR⟩ := solR_eq n f g
  have c1 := fun w => isSolvable_any n f g hf hg w
  have c2 := fun w => sIsSolvable_any n f g hf hg w
  rw [hR] at c1 c2
  have C1 := hide c1; clear c1
  have C2 := hide c2; clear c2
  clear hR hf hg
  have hne : (c != c) = false := by simp
  have hna : (a != a) = false := by simp
  have HH0 := (Holds.start w).blk (dv n f g) 24 w.heap.size rfl
  go_enter Try.func14, Try.ntmps14
  go_wp2_with fail
  refine (toDessin_any n f g _).mono ?_
  rintro e w1 ⟨rfl, hb1⟩
  have HH1 := HH0.call hb1
  have cd1 := HH1.cells 0 rfl
  clear hb1
  go_wp2_with fail
  refine (C2.out _).mono ?_
  rintro e w2 ⟨rfl, hb2⟩
  have HH2 := HH1.call hb2
  have cd2 := HH2.cells 0 rfl
  clear hb2 cd1
  go_wp2_with fail
  refine (toDessin_any n f g _).mono ?_
  rintro e w3 ⟨rfl, hb3⟩
  have HH3 := HH2.call hb3
  have cd3 := HH3.cells 0 rfl
  clear hb3 cd2
  go_wp2_with fail
  refine (C1.out _).mono ?_
  rintro e w4 ⟨rfl, hb4⟩
  have HH4 := HH3.call hb4
  have cd4 := HH4.cells 0 rfl
  clear hb4 cd3
  go_wp2
  go_ret
  exact ⟨rfl, HH4.low⟩
end Go.Proofs.Ytdoehnckolhloaa
