/- Lists of lists of whole numbers, wherever they lie: read, measured, compared, copied; how slices among the arguments are opened. -/
import Derived.Test.YtpkfjdaedaplfaaArg
import Derived.Test.YtpkfjdaedaplfaaReg
import Derived.Deep.Slices
import Derived.WideShapes
import Derived.OpenShut
namespace Go.Proofs.Ytpkfjdaedaplfaa
open Go.RowKit

def RdZ2 (w : World) (v : Value) (ls : List (List Int)) : Prop :=
  ∃ (A : Option Addr) (c : Nat) (us : List Value), v = .slice A ls.length c ∧ ls.length ≤ 9223372036854775807 ∧ us.length = ls.length ∧
    (∀ (i : Nat) (u : Value), us[i]? = some u → ∃ a, A = some a ∧ a.block < w.heap.size ∧ w.cell? (a.add i) = some u) ∧ ∀ (i : Nat) (u : Value) (l : List Int), us[i]? = some u → ls[i]? = some l → RdZ w u l
theorem RdZ2.form {w : World} {v : Value} {ls : List (List Int)} (h : RdZ2 w v ls) : ∃ A c, v = .slice A ls.length c ∧ ls.length ≤ 9223372036854775807 := by
  obtain ⟨A, c, _, h1, h2, _⟩ := h; exact ⟨A, c, h1, h2⟩
theorem RdZ2.below {C : Nat} {w w' : World} {v : Value} {ls : List (List Int)} (h : RdZ2 w v ls) (hb : Below C w w') (hC : w.heap.size ≤ C) : RdZ2 w' v ls := by
  obtain ⟨A, c, us, h1, h2, h3, h4, h5⟩ := h
  refine ⟨A, c, us, h1, h2, h3, fun i u hu => ?_, fun i u l hu hl => (h5 i u l hu hl).below hb hC⟩
  obtain ⟨a, e, k4, k5⟩ := h4 i u hu
  refine ⟨a, e, Nat.lt_of_lt_of_le k4 hb.size, ?_⟩
  rw [← k5]
  have hq : (a.add i).block = a.block := by unfold Addr.add; split <;> rfl
  exact hb.cell (p := a.add i) (by omega)
theorem RdZ2.at {w : World} {A : Option Addr} {n c k : Nat} {ls : List (List Int)} (h : RdZ2 w (.slice A n c) ls) (hk : k < ls.length) :
    ∃ a A' c', A = some a ∧ w.cell? (a.add k) = some (.slice A' ls[k].length c') ∧ RdZ w (.slice A' ls[k].length c') ls[k] := by
  obtain ⟨A0, c0, us, e, _, h3, h4, h5⟩ := h
  injection e with e1 _ _
  subst e1
  have hu : us[k]? = some us[k] := List.getElem?_eq_getElem (by omega)
  obtain ⟨a, ea, _, hc⟩ := h4 k _ hu
  have hr := h5 k _ _ hu (List.getElem?_eq_getElem hk)
  obtain ⟨A', c', e', _⟩ := hr.form
  rw [e'] at hc hr
  exact ⟨a, A', c', ea, hc, hr⟩

theorem block_of_cell {w : World} {p : Addr} {u : Value} (h : w.cell? p = some u) : p.block < w.heap.size := by
  rcases Nat.lt_or_ge p.block w.heap.size with c | c
  · exact c
  · unfold World.cell? at h
    rw [Array.getElem?_eq_none c] at h
    simp at h
theorem rd2_lt {w : World} {a : Addr} {n c k : Nat} {ls : List (List Int)} (h : RdZ2 w (.slice (some a) n c) ls) (hk : k < ls.length) : a.block < w.heap.size := by
  obtain ⟨A0, c0, us, e, _, h3, h4, h5⟩ := h
  injection e with e1 _ _
  obtain ⟨a', ea, hl, _⟩ := h4 k _ (List.getElem?_eq_getElem (by omega))
  rw [← e1] at ea
  injection ea with ea
  rw [ea]; exact hl
theorem rd_cell {w wx : World} {a : Addr} {k : Nat} {u : Value} (hx : Grown w wx) (h : w.cell? (a.add k) = some u) (hl : a.block < w.heap.size) : wx.cell? (a.add k) = some u := by
  have hq : (a.add k).block = a.block := by unfold Addr.add; split <;> rfl
  rw [← h]
  exact Below.cell hx (p := a.add k) (by omega)
/-- what has been measured is small -/
def smallZ (ls : List (List Int)) : Prop := ls.length ≤ 1048576 ∧ ∀ l ∈ ls, l.length ≤ 1048576
-- left out here: loop.example/g01200/laws.szInt64S loop.example/g01200/laws.szInt64SS
set_option maxRecDepth 100000 in
set_option maxHeartbeats 1000000 in
theorem eqInt64SS_rd (ls : List (List Int)) (v v' : Value) (w : World) (h : RdZ2 w v ls) (h' : RdZ2 w v' ls) :
    Calls Try.prog 53 #[v, v'] w fun e w' => e = .returned (.bool true) ∧ Below w.heap.size w w' := by
  obtain ⟨A, c, rfl, hl⟩ := h.form
  obtain ⟨A', c', rfl, _⟩ := h'.form
  have H := hide h; clear h
  have H' := hide h'; clear h'
  have hne : ((ls.length : Int) != (ls.length : Int)) = false := by simp
  go_enter Try.func53, Try.ntmps53
  go_wp2
  go_loopw [5] (fun i wr => ∃ k : Nat, k ≤ ls.length ∧ i = .int .i64 k ∧ Below w.heap.size w wr) (fun i _ => ls.length - (intOf i).toNat)
  case atStart => exact ⟨0, by omega, rfl, Below.refl _ _⟩
  case round =>
    obtain ⟨k, hk, rfl, hb⟩ := hrel
    by_cases hlt : k < ls.length
    · obtain ⟨a, A1, d1, rfl, c1, r1⟩ := (H.out.below hb (Nat.le_refl _)).at hlt
      obtain ⟨a', A2, d2, rfl, c2, r2⟩ := (H'.out.below hb (Nat.le_refl _)).at hlt
      have hab : a.block < wr.heap.size := rd2_lt (H.out.below hb (Nat.le_refl _)) hlt
      have hab' : a'.block < wr.heap.size := rd2_lt (H'.out.below hb (Nat.le_refl _)) hlt
      have R1 := hide r1; clear r1
      have R2 := hide r2; clear r2
      generalize ls[k] = l at *
      go_wp2
      refine region_V (w := wr) (fun _ => none) (fun _ => false) [] (.q 0 <| .q 1 <| .q 2 <| .q 3 <| .q 4 <| .q 5 <| .q 6 <| .q 7 <| .q 8 <| .q 9 .fin) (by kernel_rfl) (by kernel_rfl) (by kernel_rfl) (fun k hk => ?_) ?_
      · exact ⟨rfl, rfl⟩
      apply v_other
      · simp only [List.getElem?_toArray, List.getElem?_cons_zero, List.getElem?_cons_succ]; exact rfl
      · rfl
      · rfl
      · go_simp
      · intro wx hx
        have e1 := rd_cell hx c1 hab
        have e2 := rd_cell hx c2 hab'
        have D1 := hide fun (_ : World) => eqInt64S_rd l _ _ wx (R1.out.below hx (Nat.le_refl _)) (R2.out.below hx (Nat.le_refl _))
        unfold atG
        go_simp
        simp only [uponG]
        exact ⟨by trivial, rfl⟩
      apply v_other
      · simp only [List.getElem?_toArray, List.getElem?_cons_zero, List.getElem?_cons_succ]; exact rfl
      · rfl
      · rfl
      · go_simp
      · intro wx hx
        have e1 := rd_cell hx c1 hab
        have e2 := rd_cell hx c2 hab'
        have D1 := hide fun (_ : World) => eqInt64S_rd l _ _ wx (R1.out.below hx (Nat.le_refl _)) (R2.out.below hx (Nat.le_refl _))
        unfold atG
        go_simp
        simp only [uponG]
        exact ⟨by trivial, rfl⟩
      apply v_other
      · simp only [List.getElem?_toArray, List.getElem?_cons_zero, List.getElem?_cons_succ]; exact rfl
      · rfl
      · rfl
      · go_simp
      · intro wx hx
        have e1 := rd_cell hx c1 hab
        have e2 := rd_cell hx c2 hab'
        have D1 := hide fun (_ : World) => eqInt64S_rd l _ _ wx (R1.out.below hx (Nat.le_refl _)) (R2.out.below hx (Nat.le_refl _))
        unfold atG
        go_simp
        simp only [uponG]
        exact ⟨by trivial, rfl⟩
      apply v_other
      · simp only [List.getElem?_toArray, List.getElem?_cons_zero, List.getElem?_cons_succ]; exact rfl
      · rfl
      · rfl
      · go_simp
      · intro wx hx
        have e1 := rd_cell hx c1 hab
        have e2 := rd_cell hx c2 hab'
        have D1 := hide fun (_ : World) => eqInt64S_rd l _ _ wx (R1.out.below hx (Nat.le_refl _)) (R2.out.below hx (Nat.le_refl _))
        unfold atG
        go_simp
        simp only [uponG]
        exact ⟨by trivial, rfl⟩
      apply v_other
      · simp only [List.getElem?_toArray, List.getElem?_cons_zero, List.getElem?_cons_succ]; exact rfl
      · rfl
      · rfl
      · go_simp
      · intro wx hx
        have e1 := rd_cell hx c1 hab
        have e2 := rd_cell hx c2 hab'
        have D1 := hide fun (_ : World) => eqInt64S_rd l _ _ wx (R1.out.below hx (Nat.le_refl _)) (R2.out.below hx (Nat.le_refl _))
        unfold atG
        go_simp
        simp only [uponG]
        exact ⟨by trivial, rfl⟩
      apply v_other
      · simp only [List.getElem?_toArray, List.getElem?_cons_zero, List.getElem?_cons_succ]; exact rfl
      · rfl
      · rfl
      · go_simp
      · intro wx hx
        have e1 := rd_cell hx c1 hab
        have e2 := rd_cell hx c2 hab'
        have D1 := hide fun (_ : World) => eqInt64S_rd l _ _ wx (R1.out.below hx (Nat.le_refl _)) (R2.out.below hx (Nat.le_refl _))
        unfold atG
        go_simp
        simp only [uponG]
        exact ⟨by trivial, rfl⟩
      apply v_other
      · simp only [List.getElem?_toArray, List.getElem?_cons_zero, List.getElem?_cons_succ]; exact rfl
      · rfl
      · rfl
      · go_simp
      · intro wx hx
        have e1 := rd_cell hx c1 hab
        have e2 := rd_cell hx c2 hab'
        have D1 := hide fun (_ : World) => eqInt64S_rd l _ _ wx (R1.out.below hx (Nat.le_refl _)) (R2.out.below hx (Nat.le_refl _))
        unfold atG
        go_simp
        simp only [uponG]
        exact ⟨by trivial, rfl⟩
      apply v_other
      · simp only [List.getElem?_toArray, List.getElem?_cons_zero, List.getElem?_cons_succ]; exact rfl
      · rfl
      · rfl
      · go_simp
      · intro wx hx
        have e1 := rd_cell hx c1 hab
        have e2 := rd_cell hx c2 hab'
        have D1 := hide fun (_ : World) => eqInt64S_rd l _ _ wx (R1.out.below hx (Nat.le_refl _)) (R2.out.below hx (Nat.le_refl _))
        unfold atG
        go_simp
        simp only [uponG]
        exact ⟨by trivial, rfl⟩
      apply v_other
      · simp only [List.getElem?_toArray, List.getElem?_cons_zero, List.getElem?_cons_succ]; exact rfl
      · rfl
      · rfl
      · go_simp
      · intro wx hx
        have e1 := rd_cell hx c1 hab
        have e2 := rd_cell hx c2 hab'
        have D1 := hide fun (_ : World) => eqInt64S_rd l _ _ wx (R1.out.below hx (Nat.le_refl _)) (R2.out.below hx (Nat.le_refl _))
        unfold atG
        go_simp
        simp only [uponG]
        exact ⟨by trivial, D1.out wx⟩
      apply v_other
      · simp only [List.getElem?_toArray, List.getElem?_cons_zero, List.getElem?_cons_succ]; exact rfl
      · rfl
      · rfl
      · go_simp
      · intro wx hx
        have e1 := rd_cell hx c1 hab
        have e2 := rd_cell hx c2 hab'
        have D1 := hide fun (_ : World) => eqInt64S_rd l _ _ wx (R1.out.below hx (Nat.le_refl _)) (R2.out.below hx (Nat.le_refl _))
        unfold atG
        go_simp
        simp only [uponG]
        exact ⟨by trivial, rfl⟩
      rintro w1 hx _
      have b1 : Below w.heap.size w w1 := hb.trans (Below.mono hx hb.size)
      clear hx c1 c2
      go_simp
      go_wp2
      go_roundw
      case rel => exact ⟨k + 1, by omega, by go_num, b1⟩
      case measure => simp [intOf]; omega
    · obtain rfl : k = ls.length := by omega
      clear hlt hk
      go_wp2
      go_ret
      exact ⟨rfl, hb⟩

-- left out here: loop.example/g01200/laws.toInt64SS
section
open Go.ChangeShapes Go.WideShapes
variable {H : Type} {enc : TypeId × Value → H} {P : Program} {w : World} {base : Nat} {spare : Nat → Bool} {held : Bool}
/-- whole numbers that int64 holds -/
def fits64 (l : List Int) : Prop := ∀ x ∈ l, -9223372036854775808 ≤ x ∧ x ≤ 9223372036854775807
theorem rd_of_trod {t e : TypeId} {fuel : Nat} {v : Value} {x : DataW H × List MemPlace} (ht : P.underlying t = some (.slice e)) (he : P.underlying e = some (.int .i64)) (hc : P.cellsOf e = 1) (h : DataW.trod enc P w base spare held fuel t [v] = some x) :
    ∃ l, RdZ w v l ∧ fits64 l := by
  rcases open_ints ht he hc h with ⟨e1, _⟩ | ⟨a, len, cap, zs, e1, _, hl, hm, hz, _, hcell, hw⟩
  · injection e1 with e1
    subst e1
    exact ⟨[], ⟨none, 0, rfl, by simp, fun i x hx => by simp at hx⟩, fun x hx => by simp at hx⟩
  · injection e1 with e1
    subst e1
    have hlz : len ≤ zs.length := by rw [hz]; split <;> omega
    refine ⟨zs.take len, ⟨some a, cap, by simp [Nat.min_eq_left hlz], ?_, fun i x hx => ?_⟩, fun x hx => bounds_i64 (hw x (List.mem_of_mem_take hx))⟩
    · have : maxLen = 9223372036854775807 := rfl
      simp; omega
    · have hi : i < len := by have := (List.getElem?_eq_some_iff.1 hx).1; simp at this; omega
      rw [List.getElem?_take_of_lt hi] at hx
      have hc' := hcell i (by omega)
      have hg : zs.getD i 0 = x := by rw [List.getD_eq_getElem?_getD, hx]; rfl
      rw [hg] at hc'
      refine ⟨a, rfl, ?_, hc'⟩
      have hq : (a.add i).block = a.block := by unfold Addr.add; split <;> rfl
      rw [← hq]
      exact block_of_cell hc'
theorem open_is {r : Reach} {b0 : Nat} {t e : TypeId} {v : Value} {d : DataW H} {ps : List MemPlace} (ht : P.underlying t = some (.slice e)) (he : P.underlying e = some (.int .i64)) (hc : P.cellsOf e = 1)
    (hval : Value.okWide P w r b0 t v) (hd : DataW.Trod enc P w base spare held t v d ps) : ∃ l, RdZ w v l ∧ fits64 l := by
  obtain ⟨a, len, cap, rfl⟩ := okWide_slice ht hval
  obtain ⟨fuel, hf⟩ := hd
  exact rd_of_trod ht he hc hf
theorem open_iss {r : Reach} {b0 : Nat} {t s e : TypeId} {v : Value} {d : DataW H} {ps : List MemPlace} (ht : P.underlying t = some (.slice s)) (hs : P.underlying s = some (.slice e)) (he : P.underlying e = some (.int .i64)) (hc : P.cellsOf s = 1) (hc2 : P.cellsOf e = 1)
    (hval : Value.okWide P w r b0 t v) (hd : DataW.Trod enc P w base spare held t v d ps) : ∃ ls, RdZ2 w v ls ∧ ∀ l ∈ ls, fits64 l := by
  obtain ⟨a0, len0, cap0, rfl⟩ := okWide_slice ht hval
  obtain ⟨fuel, hf⟩ := hd
  rcases Go.Deep.open_slice1 ht hc hf with ⟨e1, _⟩ | ⟨a, len, cap, m, n, V, D, Pl, e1, _, hl, hm, hmm, _, hV⟩
  · injection e1 with e1
    rw [e1]
    exact ⟨[], ⟨none, 0, [], rfl, by simp, rfl, fun i u hu => by simp at hu, fun i u l hu => by simp at hu⟩, fun l hl => by simp at hl⟩
  · injection e1 with e1
    rw [e1]
    have hlm : len ≤ m := by rw [hmm]; split <;> omega
    have key : ∀ i, i < len → ∃ l, RdZ w (V i) l ∧ fits64 l := fun i hi => rd_of_trod hs he hc2 (hV i (by omega)).2
    obtain ⟨L, hL⟩ : ∃ L : Nat → List Int, ∀ i, i < len → RdZ w (V i) (L i) ∧ fits64 (L i) := by
      refine ⟨fun i => if h : i < len then (key i h).choose else [], fun i hi => ?_⟩
      simp only [hi, dif_pos]
      exact (key i hi).choose_spec
    refine ⟨(List.range len).map L, ⟨some a, cap, (List.range len).map V, by simp, ?_, by simp, fun i u hu => ?_, fun i u l hu hl => ?_⟩, fun l hl => ?_⟩
    · have : maxLen = 9223372036854775807 := rfl
      simp; omega
    · have hi : i < len := by have := (List.getElem?_eq_some_iff.1 hu).1; simpa using this
      simp [hi] at hu
      subst hu
      have hc' := (hV i (by omega)).1
      refine ⟨a, rfl, ?_, hc'⟩
      have hq : (a.add i).block = a.block := by unfold Addr.add; split <;> rfl
      rw [← hq]
      exact block_of_cell hc'
    · have hi : i < len := by have := (List.getElem?_eq_some_iff.1 hu).1; simpa using this
      simp [hi] at hu hl
      subst hu hl
      exact (hL i hi).1
    · obtain ⟨i, hi, rfl⟩ := List.mem_map.1 hl
      exact (hL i (List.mem_range.1 hi)).2
end
end Go.Proofs.Ytpkfjdaedaplfaa
