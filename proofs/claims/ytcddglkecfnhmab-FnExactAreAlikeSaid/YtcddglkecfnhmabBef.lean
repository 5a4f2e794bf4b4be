/- cmp.Or, impl.compareDessins; spec.l02Less, l02Before -/
import Derived.Test.YtcddglkecfnhmabCmp
import Derived.Test.YtcddglkecfnhmabReg
import Derived.RegionTactic
namespace Go.Proofs.Ytcddglkecfnhmab
open Go.RowKit

@[go_sem] theorem slice_all (b o : Nat) (w : World) :
    (Instr.sliceAt 27 (.pointer (some ⟨b, o, none⟩)) none none none).run Try.prog w = .ok (.slice (some ⟨b, o, none⟩) 16 16) w := by
  have e : Try.prog.arrayLen 27 = 16 := by kernel_rfl
  have := run_sliceAt_array_all (P := Try.prog) w 27 ⟨b, o, none⟩ (by kernel_rfl)
  rw [this, e]
  simp only [go_sem]
  simp [slicedAt]

set_option maxRecDepth 100000 in
set_option maxHeartbeats 400000 in
theorem or_any (c0 c1 : Int) (g c : Nat) (w : World) (h0 : w.cell? ⟨g, 0, none⟩ = some (.int .i64 c0)) (h1 : w.cell? ⟨g, 1, none⟩ = some (.int .i64 c1)) :
    Calls Try.prog 52 #[.slice (some ⟨g, 0, none⟩) 2 c] w fun e w' => e = .returned (.int .i64 (if c0 = 0 then c1 else c0)) ∧ Below w.heap.size w w' := by
  obtain ⟨r, hr⟩ : ∃ r, r = (if c0 = 0 then c1 else c0) := ⟨_, rfl⟩
  rw [← hr]
  have HR := hide hr; clear hr
  go_enter Try.func52, Try.ntmps52
  go_wp2
  go_loopw [8] (fun i wr => ∃ k : Nat, k ≤ 2 ∧ i = .int .i64 k ∧ wr = w ∧ (1 ≤ k → c0 = 0) ∧ (2 ≤ k → c1 = 0)) (fun i _ => 2 - (intOf i).toNat)
  case atStart => exact ⟨0, by omega, rfl, rfl, by omega, by omega⟩
  case round =>
    obtain ⟨k, hk, rfl, rfl, hz0, hz1⟩ := hrel
    have hk3 : k = 0 ∨ k = 1 ∨ k = 2 := by omega
    rcases hk3 with rfl | rfl | rfl
    · clear hz0 hz1
      by_cases hc : c0 = 0
      · have hb : (c0 != 0) = false := by simp [hc]
        have HC := hide hc; clear hc
        go_wp2
        go_roundw
        case rel => exact ⟨1, by omega, by go_num, by first | rfl | trivial, fun _ => HC.out, by omega⟩
        case measure => simp [intOf]
      · have hb : (c0 != 0) = true := by simp [hc]
        have e : r = c0 := by rw [HR.out, if_neg hc]
        clear hc
        rw [← e] at h0 hb
        clear e HR
        go_wp2
        go_ret
        exact ⟨by first | trivial | rfl, Below.refl _ _⟩
    · have hz := hz0 (by omega)
      clear hz0 hz1
      by_cases hc : c1 = 0
      · have hb : (c1 != 0) = false := by simp [hc]
        have HC := hide hc; clear hc
        have HZ := hide hz; clear hz
        go_wp2
        go_roundw
        case rel => exact ⟨2, by omega, by go_num, by first | rfl | trivial, fun _ => HZ.out, fun _ => HC.out⟩
        case measure => simp [intOf]
      · have hb : (c1 != 0) = true := by simp [hc]
        have e : r = c1 := by rw [HR.out, if_pos hz]
        clear hc hz
        rw [← e] at h1 hb
        clear e HR
        go_wp2
        go_ret
        exact ⟨by first | trivial | rfl, Below.refl _ _⟩
    · have e : r = 0 := by rw [HR.out, if_pos (hz0 (by omega)), hz1 (by omega)]
      subst e
      clear HR hz0 hz1
      go_wp2
      go_ret
      exact ⟨rfl, Below.refl _ _⟩

def cmpD (f g f' g' : Nat → Nat) : Int := if Lib.compareBytes (b16 f) (b16 f') = 0 then Lib.compareBytes (b16 g) (b16 g') else Lib.compareBytes (b16 f) (b16 f')
set_option maxRecDepth 100000 in
set_option maxHeartbeats 1000000 in
theorem compareDessins_any (n n' : Int) (f g f' g' : Nat → Nat) (hf : ∀ i, i < 16 → f i < 256) (hg : ∀ i, i < 16 → g i < 256) (hf' : ∀ i, i < 16 → f' i < 256) (hg' : ∀ i, i < 16 → g' i < 256) (w : World) :
    Calls Try.prog 44 #[.agg (dv n f g), .agg (dv n' f' g')] w fun e w' => e = .returned (.int .i64 (cmpD f g f' g')) ∧ Below w.heap.size w w' := by
  have add1 : ∀ b o j : Nat, ((⟨b, o, none⟩ : Addr).add j) = ⟨b, o + j, none⟩ := fun b o j => by unfold Addr.add; split <;> simp_all
  have C1 := hide fun (wx : World) (e0 : cellsOf wx w.heap.size = dv n f g) (e1 : cellsOf wx (w.heap.size + 1) = dv n' f' g') =>
    (compare_any f f' hf hf' ⟨w.heap.size, 1, none⟩ ⟨w.heap.size + 1, 1, none⟩ 16 16 wx (fun j hj => by rw [add1, cell_of_cells, e0]; exact dv_b _ _ _ hj) (fun j hj => by rw [add1, cell_of_cells, e1]; exact dv_b _ _ _ hj)).mono
      (R' := fun e w' => e = .returned (.int .i64 (Lib.compareBytes (b16 f) (b16 f'))) ∧ Below wx.heap.size wx w') fun e w' ⟨h1, h2⟩ => ⟨h1, by subst h2; exact Below.refl _ _⟩
  have C2 := hide fun (wx : World) (e0 : cellsOf wx w.heap.size = dv n f g) (e1 : cellsOf wx (w.heap.size + 1) = dv n' f' g') =>
    (compare_any g g' hg hg' ⟨w.heap.size, 17, none⟩ ⟨w.heap.size + 1, 17, none⟩ 16 16 wx (fun j hj => by rw [add1, cell_of_cells, e0]; exact dv_w _ _ _ hj) (fun j hj => by rw [add1, cell_of_cells, e1]; exact dv_w _ _ _ hj)).mono
      (R' := fun e w' => e = .returned (.int .i64 (Lib.compareBytes (b16 g) (b16 g'))) ∧ Below wx.heap.size wx w') fun e w' ⟨h1, h2⟩ => ⟨h1, by subst h2; exact Below.refl _ _⟩
  have he : cmpD f g f' g' = if Lib.compareBytes (b16 f) (b16 f') = 0 then Lib.compareBytes (b16 g) (b16 g') else Lib.compareBytes (b16 f) (b16 f') := rfl
  rw [he]
  generalize Lib.compareBytes (b16 f) (b16 f') = x at *
  generalize Lib.compareBytes (b16 g) (b16 g') = y at *
  obtain ⟨r, hr⟩ : ∃ r, r = (if x = 0 then y else x) := ⟨_, rfl⟩
  rw [← hr]
  clear hf hg hf' hg' he add1
  have HR := hide hr; clear hr
  go_enter Try.func44, Try.ntmps44
  go_wp2
  generalize hW : (w.alloc (.cells (dv n f g) 29)).alloc (.cells (dv n' f' g') 29) = W
  have c0 : cellsOf W w.heap.size = dv n f g := by rw [← hW]; exact cellsOf_heap (heap1 rfl)
  have d0 : cellsOf W (w.heap.size + 1) = dv n' f' g' := by rw [← hW]; exact cellsOf_heap (heap_at _ _ _ (by simp))
  have b0 : Below w.heap.size w W := by rw [← hW]; exact below2 _ _ _
  have l0 : w.heap.size + 1 < W.heap.size := by rw [← hW]; simp
  clear hW
  refine region_V (w := W) (fun k => if k = 10 then some (fun w v w' => v = .slice (some ⟨w.heap.size, 0, none⟩) 2 2 ∧ w'.cell? ⟨w.heap.size, 0, none⟩ = some (.int .i64 x) ∧ w'.cell? ⟨w.heap.size, 1, none⟩ = some (.int .i64 y) ∧ w.heap.size < w'.heap.size) else if k = 11 then some (fun w v w' => v = .int .i64 r) else none) (fun _ => false) [10, 11] (.q 0 <| .q 1 <| .q 2 <| .q 3 <| .q 4 <| .q 5 <| .q 6 <| .q 7 <| .q 8 <| .q 9 <| .s1 10 <| .s1 11 <| .q 12 .fin) (by kernel_rfl) (by kernel_rfl) (by kernel_rfl) (fun k hk => ?_) ?_
  · simp at hk; simp [hk]
  apply v_other
  · simp only [List.getElem?_toArray, List.getElem?_cons_zero, List.getElem?_cons_succ]; exact rfl
  · rfl
  · rfl
  · go_simp
  · intro wx hx
    have e0 := hx.cells c0 (by omega)
    have e1 := hx.cells d0 l0
    have D1 := hide fun (_ : World) => C1.out wx e0 e1
    have D2 := hide fun (_ : World) => C2.out wx e0 e1
    unfold atG
    go_simp
    simp only [uponG]
    exact ⟨by trivial, rfl⟩
  apply v_other
  · simp only [List.getElem?_toArray, List.getElem?_cons_zero, List.getElem?_cons_succ]; exact rfl
  · rfl
  · rfl
  · go_simp
  · intro wx hx
    have e0 := hx.cells c0 (by omega)
    have e1 := hx.cells d0 l0
    have D1 := hide fun (_ : World) => C1.out wx e0 e1
    have D2 := hide fun (_ : World) => C2.out wx e0 e1
    unfold atG
    go_simp
    simp only [uponG]
    exact ⟨by trivial, rfl⟩
  apply v_other
  · simp only [List.getElem?_toArray, List.getElem?_cons_zero, List.getElem?_cons_succ]; exact rfl
  · rfl
  · rfl
  · go_simp
  · intro wx hx
    have e0 := hx.cells c0 (by omega)
    have e1 := hx.cells d0 l0
    have D1 := hide fun (_ : World) => C1.out wx e0 e1
    have D2 := hide fun (_ : World) => C2.out wx e0 e1
    unfold atG
    go_simp
    simp only [uponG]
    exact ⟨by trivial, rfl⟩
  apply v_other
  · simp only [List.getElem?_toArray, List.getElem?_cons_zero, List.getElem?_cons_succ]; exact rfl
  · rfl
  · rfl
  · go_simp
  · intro wx hx
    have e0 := hx.cells c0 (by omega)
    have e1 := hx.cells d0 l0
    have D1 := hide fun (_ : World) => C1.out wx e0 e1
    have D2 := hide fun (_ : World) => C2.out wx e0 e1
    unfold atG
    go_simp
    simp only [uponG]
    exact ⟨by trivial, rfl⟩
  apply v_other
  · simp only [List.getElem?_toArray, List.getElem?_cons_zero, List.getElem?_cons_succ]; exact rfl
  · rfl
  · rfl
  · go_simp
  · intro wx hx
    have e0 := hx.cells c0 (by omega)
    have e1 := hx.cells d0 l0
    have D1 := hide fun (_ : World) => C1.out wx e0 e1
    have D2 := hide fun (_ : World) => C2.out wx e0 e1
    unfold atG
    go_simp
    simp only [uponG]
    exact ⟨by trivial, D1.out wx⟩
  apply v_other
  · simp only [List.getElem?_toArray, List.getElem?_cons_zero, List.getElem?_cons_succ]; exact rfl
  · rfl
  · rfl
  · go_simp
  · intro wx hx
    have e0 := hx.cells c0 (by omega)
    have e1 := hx.cells d0 l0
    have D1 := hide fun (_ : World) => C1.out wx e0 e1
    have D2 := hide fun (_ : World) => C2.out wx e0 e1
    unfold atG
    go_simp
    simp only [uponG]
    exact ⟨by trivial, rfl⟩
  apply v_other
  · simp only [List.getElem?_toArray, List.getElem?_cons_zero, List.getElem?_cons_succ]; exact rfl
  · rfl
  · rfl
  · go_simp
  · intro wx hx
    have e0 := hx.cells c0 (by omega)
    have e1 := hx.cells d0 l0
    have D1 := hide fun (_ : World) => C1.out wx e0 e1
    have D2 := hide fun (_ : World) => C2.out wx e0 e1
    unfold atG
    go_simp
    simp only [uponG]
    exact ⟨by trivial, rfl⟩
  apply v_other
  · simp only [List.getElem?_toArray, List.getElem?_cons_zero, List.getElem?_cons_succ]; exact rfl
  · rfl
  · rfl
  · go_simp
  · intro wx hx
    have e0 := hx.cells c0 (by omega)
    have e1 := hx.cells d0 l0
    have D1 := hide fun (_ : World) => C1.out wx e0 e1
    have D2 := hide fun (_ : World) => C2.out wx e0 e1
    unfold atG
    go_simp
    simp only [uponG]
    exact ⟨by trivial, rfl⟩
  apply v_other
  · simp only [List.getElem?_toArray, List.getElem?_cons_zero, List.getElem?_cons_succ]; exact rfl
  · rfl
  · rfl
  · go_simp
  · intro wx hx
    have e0 := hx.cells c0 (by omega)
    have e1 := hx.cells d0 l0
    have D1 := hide fun (_ : World) => C1.out wx e0 e1
    have D2 := hide fun (_ : World) => C2.out wx e0 e1
    unfold atG
    go_simp
    simp only [uponG]
    exact ⟨by trivial, rfl⟩
  apply v_other
  · simp only [List.getElem?_toArray, List.getElem?_cons_zero, List.getElem?_cons_succ]; exact rfl
  · rfl
  · rfl
  · go_simp
  · intro wx hx
    have e0 := hx.cells c0 (by omega)
    have e1 := hx.cells d0 l0
    have D1 := hide fun (_ : World) => C1.out wx e0 e1
    have D2 := hide fun (_ : World) => C2.out wx e0 e1
    unfold atG
    go_simp
    simp only [uponG]
    exact ⟨by trivial, D2.out wx⟩
  refine v_E (by simp only [List.getElem?_toArray, List.getElem?_cons_zero, List.getElem?_cons_succ]; exact rfl) rfl (by go_simp) (fun wx hx _ => ?_) ?_
  · go_simp
    simp only [uponE]
    refine ⟨(Below.refl _ _).alloc (Nat.le_refl _) _, by trivial, ?_, ?_, by simp⟩
    · rw [cell_of_cells, cellsOf_at rfl]; rfl
    · rw [cell_of_cells, cellsOf_at rfl]; rfl
  rintro v1 ⟨w8, w9, hg8, rfl, hv⟩
  refine v_E (by simp only [List.getElem?_toArray, List.getElem?_cons_zero, List.getElem?_cons_succ]; exact rfl) rfl (by go_simp) (fun wx hx hd => ?_) ?_
  · obtain ⟨w2, w3, _, g1, g2, ⟨e1, e2, e3, e4⟩, g3⟩ := hd
    injection e1 with e1
    injection e1 with e1
    injection e1 with e1
    rw [← e1] at e2 e3 e4
    clear e1
    have q2 : wx.cell? ⟨w8.heap.size, 0, none⟩ = some (.int .i64 x) := (Below.cell g3 (p := ⟨w8.heap.size, 0, none⟩) e4).trans e2
    have q3 : wx.cell? ⟨w8.heap.size, 1, none⟩ = some (.int .i64 y) := (Below.cell g3 (p := ⟨w8.heap.size, 1, none⟩) e4).trans e3
    go_simp
    simp only [uponE]
    refine ⟨by trivial, ?_⟩
    have q4 := or_any x y w8.heap.size 2 wx q2 q3
    rw [← HR.out] at q4
    exact Calls.mono q4 (fun e w' h => ⟨.int .i64 r, h.1, h.2, rfl⟩)
  rintro v2 ⟨_, _, _, rfl⟩
  apply v_other
  · simp only [List.getElem?_toArray, List.getElem?_cons_zero, List.getElem?_cons_succ]; exact rfl
  · rfl
  · rfl
  · go_simp
  · intro wx hx
    unfold atG
    go_simp
    simp only [uponG]
    exact ⟨by trivial, rfl⟩
  rintro w1 hx _
  have b1 : Below w.heap.size w w1 := b0.trans (Below.mono hx b0.size)
  clear c0 d0 b0 l0 hx
  go_wp2
  go_simp
  go_ret
  exact ⟨rfl, b1⟩

noncomputable def ltB (f g : Nat → Nat) : Bool := @decide (ltF f g) (Classical.propDecidable _)
theorem ltB_iff (f g : Nat → Nat) : ltB f g = true ↔ ltF f g := by unfold ltB; simp
theorem ltB_at {f g : Nat → Nat} {k : Nat} (hk : k < 16) (hpre : ∀ j, j < k → f j = g j) (hne : f k ≠ g k) : ltB f g = decide (f k < g k) := by
  rw [Bool.eq_iff_iff, ltB_iff, decide_eq_true_iff]
  refine ⟨fun ⟨j, h1, h2, h3⟩ => ?_, fun h => ⟨k, hk, h, hpre⟩⟩
  rcases Nat.lt_trichotomy j k with c | c | c
  · have := hpre j c; omega
  · subst c; exact h2
  · exact absurd (h3 k c) hne
theorem ltB_eq {f g : Nat → Nat} (h : ∀ j, j < 16 → f j = g j) : ltB f g = false := by
  rw [Bool.eq_false_iff]
  intro e
  obtain ⟨j, h1, h2, h3⟩ := (ltB_iff f g).1 e
  have := h j h1; omega
noncomputable def befB (f g f' g' : Nat → Nat) : Bool := if sameB f f' = true then ltB g g' else ltB f f'
theorem cmpD_lt (f g f' g' : Nat → Nat) (hf : ∀ i, i < 16 → f i < 256) (hg : ∀ i, i < 16 → g i < 256) (hf' : ∀ i, i < 16 → f' i < 256) (hg' : ∀ i, i < 16 → g' i < 256) : decide (cmpD f g f' g' < 0) = befB f g f' g' := by
  unfold cmpD befB
  have two : ∀ {a b : Nat → Nat}, (∀ i, i < 16 → a i < 256) → (∀ i, i < 16 → b i < 256) → decide (Lib.compareBytes (b16 a) (b16 b) < 0) = ltB a b := by
    intro a b ha hb
    rw [Bool.eq_iff_iff, ltB_iff, decide_eq_true_iff]
    rcases cmp_cases a b ha hb with ⟨e, h⟩ | ⟨e, h, _⟩ | ⟨e, h, _⟩
    · rw [e]
      refine ⟨fun h => by omega, fun ⟨j, h1, h2, _⟩ => ?_⟩
      have := h j h1; omega
    · rw [e]; exact ⟨fun _ => h, fun _ => by omega⟩
    · rw [e]; exact ⟨fun h => by omega, fun k => absurd k h⟩
  rcases cmp_cases f f' hf hf' with ⟨e, h⟩ | ⟨e, _, h⟩ | ⟨e, _, h⟩
  · rw [if_pos e, if_pos ((sameB_iff f f').2 h)]; exact two hg hg'
  · rw [if_neg (by rw [e]; omega), if_neg (fun k => h ((sameB_iff f f').1 k))]; exact two hf hf'
  · rw [if_neg (by rw [e]; omega), if_neg (fun k => h ((sameB_iff f f').1 k))]; exact two hf hf'

-- left out here: loop.example/g01200/spec.l02Less
-- left out here: loop.example/g01200/spec.l02Before
end Go.Proofs.Ytcddglkecfnhmab
