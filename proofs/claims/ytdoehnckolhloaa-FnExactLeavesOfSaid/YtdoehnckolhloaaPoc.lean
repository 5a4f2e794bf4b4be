/- PlacesOfCycles of the program and of the model -/
import Derived.Test.YtdoehnckolhloaaArg2
import Derived.Test.YtdoehnckolhloaaPl1
import Derived.Test.YtdoehnckolhloaaSPerm
import Derived.Test.YtdoehnckolhloaaCell
namespace Go.Proofs.Ytdoehnckolhloaa
open Go.RowKit

def yb (x : Int) : Nat := (x % 256).toNat
theorem yb_cast (x : Int) : ((yb x : Nat) : Int) = x % 256 := by unfold yb; omega
def prs (l : List Int) : List (Nat × Nat) := (List.range l.length).map fun i => ((l.getD i 0).toNat, yb (l.getD ((i + 1) % l.length) 0))
def outP (m : Nat) (P : List (Nat × Nat)) : Nat → Nat := P.foldl (fun f p => fset f p.1 p.2) (sameF m)
theorem outP_snoc (m : Nat) (P : List (Nat × Nat)) (q : Nat × Nat) : outP m (P ++ [q]) = fset (outP m P) q.1 q.2 := by simp [outP]
theorem prs_succ (l : List Int) {i : Nat} (hi : i < l.length) : (prs l).take (i + 1) = (prs l).take i ++ [((l[i]).toNat, yb (l[(i + 1) % l.length]'(Nat.mod_lt _ (by omega))))] := by
  have hl : (prs l).length = l.length := by simp [prs]
  rw [List.take_succ_eq_append_getElem (by omega)]
  congr 2
  have h2 : (i + 1) % l.length < l.length := Nat.mod_lt _ (by omega)
  simp [prs, List.getD_eq_getElem?_getD, hi, h2]
theorem prs_all (l : List Int) : (prs l).take l.length = prs l := List.take_of_length_le (by simp [prs])
def inR (m : Nat) (D : List Int) : Prop := (∀ x ∈ D, 0 ≤ x ∧ x < (m : Int)) ∧ D.Nodup
theorem inR.sub {m : Nat} {D E : List Int} (h : inR m E) (hs : D.Sublist E) : inR m D := ⟨fun x hx => h.1 x (hs.subset hx), hs.nodup h.2⟩
theorem inR.snoc {m : Nat} {D : List Int} {x : Int} (h : inR m D) (h0 : 0 ≤ x) (h1 : x < m) (h2 : x ∉ D) : inR m (D ++ [x]) := by
  refine ⟨fun y hy => ?_, ?_⟩
  · rcases List.mem_append.1 hy with c | c
    · exact h.1 y c
    · rw [List.mem_singleton.1 c]; exact ⟨h0, h1⟩
  · rw [List.nodup_append]
    refine ⟨h.2, by simp, fun a ha b hb e => ?_⟩
    rw [List.mem_singleton.1 hb] at e
    exact h2 (e ▸ ha)
def goodC (m : Nat) (ls : List (List Int)) : Prop := (∀ l ∈ ls, l ≠ []) ∧ inR m ls.flatten
theorem flat_succ (ls : List (List Int)) {j : Nat} (hj : j < ls.length) : (ls.take (j + 1)).flatten = (ls.take j).flatten ++ ls[j] := by
  rw [List.take_succ_eq_append_getElem hj, List.flatten_append, List.flatten_cons, List.flatten_nil, List.append_nil]
theorem prs_flat (ls : List (List Int)) {j : Nat} (hj : j < ls.length) : (ls.take (j + 1)).flatMap prs = (ls.take j).flatMap prs ++ prs ls[j] := by
  rw [List.take_succ_eq_append_getElem hj, List.flatMap_append, List.flatMap_cons, List.flatMap_nil, List.append_nil]
theorem flat_sub (ls : List (List Int)) {j i : Nat} (hj : j < ls.length) (hi : i < ls[j].length) : ((ls.take j).flatten ++ ls[j].take i ++ [ls[j][i]]).Sublist ls.flatten := by
  have e : ls[j].take i ++ [ls[j][i]] = ls[j].take (i + 1) := (List.take_succ_eq_append_getElem hi).symm
  rw [List.append_assoc, e]
  have h1 : ((ls.take j).flatten ++ ls[j].take (i + 1)).Sublist ((ls.take (j + 1)).flatten) := by
    rw [flat_succ ls hj]
    exact List.Sublist.append (List.Sublist.refl _) (List.take_sublist _ _)
  refine h1.trans ?_
  conv => rhs; rw [← List.take_append_drop (j + 1) ls, List.flatten_append]
  exact List.sublist_append_left _ _
def metB (D : List Int) : Nat → Bool := fun y => decide ((y : Int) ∈ D)
theorem metB_snoc (D : List Int) (y : Nat) : mset (metB D) y = metB (D ++ [(y : Int)]) := by
  funext z
  unfold mset metB
  by_cases c : z = y
  · subst c; simp
  · have : ¬ (z : Int) = (y : Int) := by omega
    simp [c, this]
theorem metB_nil : metB [] = fun _ => false := by funext z; simp [metB]

/-- what the program and the model have made: the result's cell, the places, what has been used -/
structure PW (w wr : World) (G : Nat) (f : Nat → Nat) (b : Nat → Bool) : Prop where
  low : Below w.heap.size w wr
  res : rowOk wr w.heap.size 16
  out : wr.heap[G]? = some (.cells (av f) 27 (0, 0))
  met : wr.heap[G + 1]? = some (.cells (bv b) 114 (0, 0))
  pos : w.heap.size < G
theorem PW.setB {w wr : World} {G : Nat} {f : Nat → Nat} {b : Nat → Bool} (h : PW w wr G f b) (y : Nat) : PW w (wr.setCell ⟨G + 1, y, none⟩ (.bool true)) G f (mset b y) := by
  have hp := h.pos
  refine ⟨below_setCell h.low (by omega) _ _, rowOk_setCell h.res, ?_, ?_, hp⟩
  · rw [Below.heap_setCell wr ⟨G + 1, y, none⟩ _ _ (show G ≠ G + 1 by omega)]; exact h.out
  · rw [heap_setCell_same _ _ _ _ _ _ h.met, bv_set]
theorem PW.setO {w wr : World} {G : Nat} {f : Nat → Nat} {b : Nat → Bool} (h : PW w wr G f b) (y v : Nat) : PW w (wr.setCell ⟨G, y, none⟩ (.int .u8 v)) G (fset f y v) b := by
  have hp := h.pos
  refine ⟨below_setCell h.low (by omega) _ _, rowOk_setCell h.res, ?_, ?_, hp⟩
  · rw [heap_setCell_same _ _ _ _ _ _ h.out, av_set]
  · rw [Below.heap_setCell wr ⟨G, y, none⟩ _ _ (show G + 1 ≠ G by omega)]; exact h.met
open Classical in
noncomputable def pocR (ls : List (List Int)) (n : Int) : Value := if 1 ≤ n ∧ n ≤ 16 ∧ goodC n.toNat ls then .tuple #[.agg (av (outP n.toNat (ls.flatMap prs))), .int .i64 0] else .tuple #[.agg (av fun _ => 0), .int .i64 2]
theorem pocR_eq (ls : List (List Int)) (n : Int) : ∃ (r : Nat → Nat) (c : Int), pocR ls n = .tuple #[.agg (av r), .int .i64 c] := by
  unfold pocR; split
  · exact ⟨_, _, rfl⟩
  · exact ⟨_, _, rfl⟩

set_option maxRecDepth 100000 in
set_option maxHeartbeats 2000000 in
theorem placesOfCycles_any (v : Value) (ls : List (List Int)) (n : Int) (hs : smallZ ls) (w : World) (hv : RdZ2 w v ls) :
    Calls Try.prog 94 #[v, .int .i64 n] w fun e w' => e = .returned (pocR ls n) ∧ Below w.heap.size w w' := by
  obtain ⟨A, c, rfl, _⟩ := hv.form
  obtain ⟨hs1, hs2⟩ := hs
  have HS := hide hs2; clear hs2
  have HV := hide hv; clear hv
  obtain ⟨r, hr⟩ : ∃ r, r = pocR ls n := ⟨_, rfl⟩
  rw [← hr]
  by_cases hn : 1 ≤ n ∧ n ≤ 16
  · obtain ⟨m, rfl⟩ := Int.eq_ofNat_of_zero_le (show 0 ≤ n by omega)
    have hm1 : 1 ≤ m := by omega
    have hm2 : m ≤ 16 := by omega
    have bad : ¬ goodC m ls → r = .tuple #[.agg (av fun _ => 0), .int .i64 2] := fun h => by rw [hr]; unfold pocR; rw [if_neg (fun k => h (by rw [Int.toNat_natCast] at k; exact k.2.2))]
    have ok : goodC m ls → r = .tuple #[.agg (av (outP m (ls.flatMap prs))), .int .i64 0] := fun h => by rw [hr]; unfold pocR; rw [if_pos (by rw [Int.toNat_natCast]; exact ⟨hn.1, hn.2, h⟩), Int.toNat_natCast]
    have BAD := hide bad; clear bad
    have OK := hide ok; clear ok
    clear hn hr
    have C := hide fun w => stay_any m hm2 w
    go_enter Try.func94, Try.ntmps94
    go_wp2_with (go_at_call 119; refine (dart_yes _ _ (by omega) (by omega)).mono ?_; rintro e w' ⟨rfl, rfl⟩)
    rw [← av_zero]
    refine (C.out _).mono ?_
    rintro e w1 ⟨rfl, hb⟩
    have r1 : rowOk w1 w.heap.size 16 := (below_row hb (by simp)).2 ⟨_, _, heap_at _ _ _ rfl, av_size _⟩
    have b1 := (below1 w (.cells (av fun _ => 0) 27)).trans (hb.mono (by simp))
    have l1 : w.heap.size < w1.heap.size := r1.lt
    clear hb
    go_wp2
    rw [← bv_false]
    go_loopw [20] (fun t wr => ∃ j : Nat, j ≤ ls.length ∧ t = .int .i64 j ∧ PW w wr w1.heap.size (outP m ((ls.take j).flatMap prs)) (metB (ls.take j).flatten) ∧ inR m (ls.take j).flatten ∧ ∀ l ∈ ls.take j, l ≠ []) (fun t _ => ls.length - (intOf t).toNat)
    case atStart =>
      have e0 : outP m ((ls.take 0).flatMap prs) = sameF m := by simp [outP]
      have e1 : metB (ls.take 0).flatten = fun _ => false := by simp [metB_nil]
      refine ⟨0, by omega, rfl, ?_, ⟨by simp, by simp⟩, by simp⟩
      rw [e0, e1]
      exact ⟨(b1.alloc (by omega) _).alloc (by simp; omega) _, (rowOk_past (by simp; omega)).2 ((rowOk_past l1).2 r1), heap1 rfl, heap_at _ _ _ (by simp), l1⟩
    case round =>
      clear b1 r1 l1
      obtain ⟨j, hj, rfl, hP, hin, hne⟩ := hrel
      have HIN := hide hin; clear hin
      have HNE := hide hne; clear hne
      by_cases hlt : j < ls.length
      · obtain ⟨a, A', c', rfl, c1, hr⟩ := HV.out.at hlt
        have hab := rd2_lt HV.out hlt
        have c2 := rd_cell hP.low c1 hab
        have hsm := HS.out _ (List.getElem_mem hlt)
        have hmem := List.getElem_mem hlt
        have hfs := flat_succ ls hlt
        have hps := prs_flat ls hlt
        have hsub := fun i hi => flat_sub ls hlt (i := i) hi
        have htk : ls.take (j + 1) = ls.take j ++ [ls[j]] := List.take_succ_eq_append_getElem hlt
        generalize ls[j] = l at *
        have HF := hide (And.intro hfs (And.intro hps (And.intro hsub (And.intro hmem htk)))); clear hfs hps hsub hmem htk
        have HR := hide hr; clear hr c1
        by_cases hl0 : l.length = 0
        · have hz : ((l.length : Int) == 0) = true := by simp [hl0]
          have hbad := BAD.out fun h => h.1 l HF.out.2.2.2.1 (List.length_eq_zero_iff.1 hl0)
          subst hbad
          have RR := hP.res
          have BB := hP.low
          have HP := hide hP; clear hP hl0
          go_wp2
          rw [← av_zero]
          obtain ⟨t, ht, _⟩ := RR.heap
          exact res_agg2 (p := 4) (t := 5) (g := w.heap.size) (v := .int .i64 2) aggP (av_size _) rfl rfl rfl rfl (setRow_heap _ _ _ _ t (0, 0) ht) ⟨rfl, below_setRow BB (Nat.le_refl _) _⟩
        · have hz : ((l.length : Int) == 0) = false := beq_eq_false_iff_ne.2 (by omega)
          have HP0 := hide hP; clear hP
          go_wp2
          clear c2 hz
          go_loopw [30] (fun t wr => ∃ i : Nat, i ≤ l.length ∧ t = .int .i64 i ∧ PW w wr w1.heap.size (outP m ((ls.take j).flatMap prs ++ (prs l).take i)) (metB ((ls.take j).flatten ++ l.take i)) ∧ inR m ((ls.take j).flatten ++ l.take i)) (fun t _ => l.length - (intOf t).toNat)
          case atStart => exact ⟨0, by omega, rfl, by simpa using HP0.out, by simpa using HIN.out⟩
          case round =>
            clear HP0 HIN
            obtain ⟨i, hi, rfl, hP, hin⟩ := hrel
            have HIN := hide hin; clear hin
            by_cases hil : i < l.length
            · obtain ⟨q, rfl, _, x1⟩ := (HR.out.below hP.low (Nat.le_refl _)).at hil
              have hk : (i + 1) % l.length < l.length := Nat.mod_lt _ (by omega)
              obtain ⟨q', e', hq2, x20⟩ := HR.out.at hk
              injection e' with e'
              subst e'
              have x2 := rd_cell hP.low x20 hq2
              have x5 := fun y => rd_cell (hP.setB y).low x20 hq2
              clear x20
              have X5 := hide (And.intro hq2 x5); clear x5 hq2
              have hpr := prs_succ l hil
              have hfl := HF.out.2.2.1 i hil
              have htl : l.take (i + 1) = l.take i ++ [l[i]] := List.take_succ_eq_append_getElem hil
              generalize l[(i + 1) % l.length] = y at *
              generalize l[i] = x at *
              have hmod : ((i : Int) + 1) % (l.length : Int) = (((i + 1) % l.length : Nat) : Int) := by simp
              obtain ⟨kk, hkk⟩ : ∃ kk, kk = (i + 1) % l.length := ⟨_, rfl⟩
              rw [← hkk] at hmod hk x2 X5
              have HPR := hide hpr; clear hpr
              have HFL := hide hfl; clear hfl
              have HTL := hide htl; clear htl
              have HKK := hide hkk; clear hkk
              have RR := hP.res
              have BB := hP.low
              have hout := hP.out
              have hmet : cellsOf wr (w1.heap.size + 1) = bv (metB ((ls.take j).flatten ++ l.take i)) := cellsOf_heap hP.met
              by_cases hx0 : x < 0
              · have d0 : decide (x < 0) = true := by simp [hx0]
                have hbad := BAD.out fun h => by
                  have := (h.2.sub HFL.out).1 x (by simp)
                  omega
                subst hbad
                have HP := hide hP; clear hP hout hmet hx0
                go_wp2
                rw [← av_zero]
                obtain ⟨t, ht, _⟩ := RR.heap
                exact res_agg2 (p := 4) (t := 5) (g := w.heap.size) (v := .int .i64 2) aggP (av_size _) rfl rfl rfl rfl (setRow_heap _ _ _ _ t (0, 0) ht) ⟨rfl, below_setRow BB (Nat.le_refl _) _⟩
              · have d0 : decide (x < 0) = false := by simp; omega
                by_cases hx1 : (m : Int) ≤ x
                · have d1 : decide ((m : Int) ≤ x) = true := by simp [hx1]
                  have hbad := BAD.out fun h => by
                    have := (h.2.sub HFL.out).1 x (by simp)
                    omega
                  subst hbad
                  have HP := hide hP; clear hP hout hmet hx0 hx1
                  go_wp2
                  rw [← av_zero]
                  obtain ⟨t, ht, _⟩ := RR.heap
                  exact res_agg2 (p := 4) (t := 5) (g := w.heap.size) (v := .int .i64 2) aggP (av_size _) rfl rfl rfl rfl (setRow_heap _ _ _ _ t (0, 0) ht) ⟨rfl, below_setRow BB (Nat.le_refl _) _⟩
                · have d1 : decide ((m : Int) ≤ x) = false := by simp; omega
                  obtain ⟨z, rfl⟩ := Int.eq_ofNat_of_zero_le (show 0 ≤ x by omega)
                  have hz16 : z < 16 := by omega
                  have hzm : z < m := by omega
                  rcases hu : metB ((ls.take j).flatten ++ l.take i) z with _ | _
                  · have x3 : wr.cell? ⟨w1.heap.size + 1, z, none⟩ = some (.bool false) := by rw [cell_of_cells, hmet, bv_get _ hz16, hu]
                    have f3 : wr.frozen? ⟨w1.heap.size + 1, z, none⟩ = false := by simp [World.frozen?, hP.met]
                    have x4 : wr.cell? ⟨w1.heap.size, z, none⟩ = some (.int .u8 (outP m ((ls.take j).flatMap prs ++ (prs l).take i) z)) := by rw [cell_of_cells, cellsOf_heap hout, av_get _ hz16]
                    have f4 : wr.frozen? ⟨w1.heap.size, z, none⟩ = false := by simp [World.frozen?, hout]
                    have hnm : ((z : Nat) : Int) ∉ (ls.take j).flatten ++ l.take i := by unfold metB at hu; simpa using hu
                    have hP2 := (hP.setB z).setO z (yb y)
                    have hin2 := HIN.out.snoc (x := (z : Int)) (by omega) (by omega) hnm
                    rw [List.append_assoc, ← HTL.out] at hin2
                    rw [metB_snoc, List.append_assoc, ← HTL.out] at hP2
                    have ho : fset (outP m ((ls.take j).flatMap prs ++ (prs l).take i)) z (yb y) = outP m ((ls.take j).flatMap prs ++ (prs l).take (i + 1)) := by
                      rw [HPR.out, ← List.append_assoc, outP_snoc]; rfl
                    rw [ho, yb_cast] at hP2
                    have HP2 := hide hP2; clear hP2 ho
                    have HI2 := hide hin2; clear hin2
                    have HNM := hide hnm; clear hnm
                    have HU := hide hu; clear hu
                    have HP := hide hP; clear hP
                    have HM := hide hmet; clear hmet
                    clear hout RR BB
                    generalize outP m ((ls.take j).flatMap prs ++ (prs l).take i) z = y4 at x4
                    have x5 := X5.out.2 z
                    clear X5 x2
                    go_wp2
                    go_roundw
                    case rel => exact ⟨i + 1, by omega, by go_num, HP2.out, HI2.out⟩
                    case measure => simp [intOf]; omega
                  · have x3 : wr.cell? ⟨w1.heap.size + 1, z, none⟩ = some (.bool true) := by rw [cell_of_cells, hmet, bv_get _ hz16, hu]
                    have hbad := BAD.out fun h => by
                      have h2 := (h.2.sub HFL.out).2
                      rw [List.nodup_append] at h2
                      unfold metB at hu
                      exact h2.2.2 _ (by simpa using hu) _ (by simp) rfl
                    subst hbad
                    have HP := hide hP; clear hP hout
                    have HM := hide hmet; clear hmet
                    have HU := hide hu; clear hu
                    go_wp2
                    rw [← av_zero]
                    obtain ⟨t, ht, _⟩ := RR.heap
                    exact res_agg2 (p := 4) (t := 5) (g := w.heap.size) (v := .int .i64 2) aggP (av_size _) rfl rfl rfl rfl (setRow_heap _ _ _ _ t (0, 0) ht) ⟨rfl, below_setRow BB (Nat.le_refl _) _⟩
            · obtain rfl : i = l.length := by omega
              have hin2 := HIN.out
              rw [List.take_length, ← HF.out.1] at hin2
              rw [prs_all, List.take_length, ← HF.out.2.1, ← HF.out.1] at hP
              have HP := hide hP; clear hP
              have HIN2 := hide hin2; clear hin2 HIN
              clear hil hi
              go_wp2
              go_roundw
              case rel =>
                refine ⟨j + 1, by omega, by go_num, HP.out, HIN2.out, fun k hk => ?_⟩
                rw [HF.out.2.2.2.2] at hk
                rcases List.mem_append.1 hk with c | c
                · exact HNE.out k c
                · rw [List.mem_singleton.1 c]
                  intro e
                  subst e
                  exact hl0 rfl
              case measure => simp [intOf]; omega
      · obtain rfl : j = ls.length := by omega
        rw [List.take_length] at hP
        have hin2 := HIN.out
        have hne2 := HNE.out
        rw [List.take_length] at hin2 hne2
        have hok := OK.out ⟨hne2, hin2⟩
        subst hok
        clear hin2 hne2 HIN HNE
        have RR := hP.res
        have BB := hP.low
        have hout := hP.out
        have hce := cellsOf_heap hout
        have hlt2 : decide ((ls.length : Int) < (ls.length : Int)) = false := by simp
        clear hlt hj
        go_wp2
        obtain ⟨t, ht, _⟩ := RR.heap
        exact res_agg2 (p := 4) (t := 5) (g := w.heap.size) (v := .int .i64 0) aggP (av_size _) rfl rfl rfl rfl (setRow_heap _ _ _ _ t (0, 0) ht) ⟨rfl, below_setRow BB (Nat.le_refl _) _⟩
  · have hr2 : pocR ls n = .tuple #[.agg (av fun _ => 0), .int .i64 2] := by unfold pocR; rw [if_neg (fun k => hn ⟨k.1, k.2.1⟩)]
    rw [hr2] at hr
    subst hr
    clear hr2 HS HV
    go_enter Try.func94, Try.ntmps94
    go_wp2_with (go_at_call 119; refine (dart_no _ _ hn).mono ?_; rintro e w' ⟨rfl, rfl⟩)
    rw [← av_zero]
    exact res_agg2 (p := 4) (t := 5) (g := w.heap.size) (v := .int .i64 2) aggP (av_size _) rfl rfl rfl rfl (heap_at _ _ _ rfl) ⟨rfl, below1 _ _⟩
end Go.Proofs.Ytdoehnckolhloaa
