/- the walk of FnExactThenPlaces -/
import Derived.Test.YtghdbnbejkneiaaPl2
import Derived.Test.YtghdbnbejkneiaaEqPl
import Derived.Test.YtghdbnbejkneiaaReg
namespace Go.Proofs.Ytghdbnbejkneiaa
open Go.RowKit

theorem thenR_eq (p q : Nat → Nat) (n : Int) : ∃ (r : Nat → Nat) (c : Int), thenR p q n = .tuple #[.agg (av r), .int .i64 c] := by
  unfold thenR
  split
  · exact ⟨_, 0, rfl⟩
  · exact ⟨_, 1, rfl⟩

set_option maxRecDepth 100000 in
set_option maxHeartbeats 1000000 in
theorem fnExactThenPlaces_walk (p : Nat → Nat) (hp : ∀ i, p i < 256) (q : Nat → Nat) (hq : ∀ i, q i < 256) (n : Int) (_hn : -9223372036854775808 ≤ n ∧ n ≤ 9223372036854775807) (w : World) :
    Calls Try.prog 3 #[.agg (av p), .agg (av q), .int .i64 n] w fun e w' => e = .returned (.bool true) ∧ Below w.heap.size w w' := by
  clear _hn
  obtain ⟨r, c, hR⟩ := thenR_eq p q n
  have c1 := fun w => thenPlaces_any p q hp hq n w
  have c2 := fun w => sThenPlaces_any p q hp hq n w
  rw [hR] at c1 c2
  have C1 := hide c1; clear c1
  have C2 := hide c2; clear c2
  have T1 := hide fun w => toPlaces_any p w
  have T2 := hide fun w => toPlaces_any q w
  clear hR hp hq
  have hne : (c != c) = false := by simp
  go_enter Try.func3, Try.ntmps3
  go_wp2
  generalize hW : (w.alloc (.cells (av p) 22)).alloc (.cells (av q) 22) = W
  have c0 : cellsOf W w.heap.size = av p := by rw [← hW]; exact cellsOf_heap (heap1 rfl)
  have d0 : cellsOf W (w.heap.size + 1) = av q := by rw [← hW]; exact cellsOf_heap (heap_at _ _ _ (by simp))
  have b0 : Below w.heap.size w W := by rw [← hW]; exact below2 _ _ _
  have l0 : w.heap.size < W.heap.size := by rw [← hW]; simp <;> omega
  have l1 : w.heap.size + 1 < W.heap.size := by rw [← hW]; simp
  clear hW
  refine region_V (w := W) (fun k => if k = 9 then some (fun _ => newR W.heap.size 16) else none) (fun k => k == 10) [9, 10] (.q 0 <| .q 1 <| .q 2 <| .q 3 <| .q 4 <| .q 5 <| .q 6 <| .q 7 <| .q 8 <| .s1 9 <| .s1 10 <| .q 11 .fin) (by kernel_rfl) (by kernel_rfl) (by kernel_rfl) (fun k hk => ?_) ?_
  · simp at hk; simp [hk]
  apply v_other
  · simp only [List.getElem?_toArray, List.getElem?_cons_zero, List.getElem?_cons_succ]; exact rfl
  · rfl
  · rfl
  · go_simp
  · intro wx hx
    have e0 := hx.cells c0 l0
    have e1 := hx.cells d0 l1
    unfold atG
    go_simp
    simp only [uponG]
    exact ⟨by trivial, rfl⟩
  apply v_other
  · simp only [List.getElem?_toArray, List.getElem?_cons_zero, List.getElem?_cons_succ]; exact rfl
  · rfl
  · rfl
  · go_simp
  · intro wx hx
    have e0 := hx.cells c0 l0
    have e1 := hx.cells d0 l1
    unfold atG
    go_simp
    simp only [uponG]
    exact ⟨by trivial, T1.out wx⟩
  apply v_other
  · simp only [List.getElem?_toArray, List.getElem?_cons_zero, List.getElem?_cons_succ]; exact rfl
  · rfl
  · rfl
  · go_simp
  · intro wx hx
    have e0 := hx.cells c0 l0
    have e1 := hx.cells d0 l1
    unfold atG
    go_simp
    simp only [uponG]
    exact ⟨by trivial, rfl⟩
  apply v_other
  · simp only [List.getElem?_toArray, List.getElem?_cons_zero, List.getElem?_cons_succ]; exact rfl
  · rfl
  · rfl
  · go_simp
  · intro wx hx
    have e0 := hx.cells c0 l0
    have e1 := hx.cells d0 l1
    unfold atG
    go_simp
    simp only [uponG]
    exact ⟨by trivial, T2.out wx⟩
  apply v_other
  · simp only [List.getElem?_toArray, List.getElem?_cons_zero, List.getElem?_cons_succ]; exact rfl
  · rfl
  · rfl
  · go_simp
  · intro wx hx
    have e0 := hx.cells c0 l0
    have e1 := hx.cells d0 l1
    unfold atG
    go_simp
    simp only [uponG]
    exact ⟨by trivial, rfl⟩
  apply v_other
  · simp only [List.getElem?_toArray, List.getElem?_cons_zero, List.getElem?_cons_succ]; exact rfl
  · rfl
  · rfl
  · go_simp
  · intro wx hx
    have e0 := hx.cells c0 l0
    have e1 := hx.cells d0 l1
    unfold atG
    go_simp
    simp only [uponG]
    exact ⟨by trivial, C2.out wx⟩
  apply v_other
  · simp only [List.getElem?_toArray, List.getElem?_cons_zero, List.getElem?_cons_succ]; exact rfl
  · rfl
  · rfl
  · go_simp
  · intro wx hx
    have e0 := hx.cells c0 l0
    have e1 := hx.cells d0 l1
    unfold atG
    go_simp
    simp only [uponG]
    exact ⟨by trivial, rfl⟩
  apply v_other
  · simp only [List.getElem?_toArray, List.getElem?_cons_zero, List.getElem?_cons_succ]; exact rfl
  · rfl
  · rfl
  · go_simp
  · intro wx hx
    have e0 := hx.cells c0 l0
    have e1 := hx.cells d0 l1
    unfold atG
    go_simp
    simp only [uponG]
    exact ⟨by trivial, rfl⟩
  apply v_other
  · simp only [List.getElem?_toArray, List.getElem?_cons_zero, List.getElem?_cons_succ]; exact rfl
  · rfl
  · rfl
  · go_simp
  · intro wx hx
    have e0 := hx.cells c0 l0
    have e1 := hx.cells d0 l1
    unfold atG
    go_simp
    simp only [uponG]
    exact ⟨by trivial, rfl⟩
  refine v_E (by simp only [List.getElem?_toArray, List.getElem?_cons_zero, List.getElem?_cons_succ]; exact rfl) rfl (by go_simp) (fun wx hx _ => ?_) ?_
  · go_simp
    simp only [uponE]
    refine ⟨(Below.refl _ _).alloc (Nat.le_refl _) _, wx.heap.size, rfl, hx.size, ?_⟩
    exact ⟨_, _, heap_at _ _ _ rfl, by first | rfl | simp⟩
  rintro vg ⟨_, _, _, g, rfl, hg, _⟩
  refine v_S g 16 (av r) (by simp only [List.getElem?_toArray, List.getElem?_cons_zero, List.getElem?_cons_succ]; exact rfl) rfl rfl (by go_simp) (fun wx hx => (newR.at hx).2) hg (fun wx hx hr => by go_simp) ?_
  apply v_other
  · simp only [List.getElem?_toArray, List.getElem?_cons_zero, List.getElem?_cons_succ]; exact rfl
  · rfl
  · rfl
  · go_simp
  · intro wx hx
    unfold atG
    go_simp
    simp only [uponG]
    exact ⟨by trivial, rfl⟩
  rintro w1 hx ⟨wy, hn, k1, k2⟩
  obtain ⟨a0, _, a1⟩ := stored (newR.at hn).2 (av_size _) k2
  have e0 := hx.cells c0 l0
  have e1 := hx.cells d0 l1
  have s1 := hx.size
  have b1 : Below w.heap.size w w1 := b0.trans (Below.mono hx b0.size)
  have m0 : w.heap.size < w1.heap.size := by omega
  have m1 : w.heap.size + 1 < w1.heap.size := by omega
  clear k1 k2 hn c0 d0 l0 l1 b0 hx hg s1
  have c0 := e0; have d0 := e1; have l0 := m0; have l1 := m1
  clear e0 e1 m0 m1
  go_wp2_with fail
  refine region_V (w := w1) (fun k => if k = 9 then some (fun _ => newR w1.heap.size 16) else none) (fun k => k == 10) [9, 10] (.q 0 <| .q 1 <| .q 2 <| .q 3 <| .q 4 <| .q 5 <| .q 6 <| .q 7 <| .q 8 <| .s1 9 <| .s1 10 <| .q 11 .fin) (by kernel_rfl) (by kernel_rfl) (by kernel_rfl) (fun k hk => ?_) ?_
  · simp at hk; simp [hk]
  apply v_other
  · simp only [List.getElem?_toArray, List.getElem?_cons_zero, List.getElem?_cons_succ]; exact rfl
  · rfl
  · rfl
  · go_simp
  · intro wx hx
    have e0 := hx.cells c0 l0
    have e1 := hx.cells d0 l1
    unfold atG
    go_simp
    simp only [uponG]
    exact ⟨by trivial, rfl⟩
  apply v_other
  · simp only [List.getElem?_toArray, List.getElem?_cons_zero, List.getElem?_cons_succ]; exact rfl
  · rfl
  · rfl
  · go_simp
  · intro wx hx
    have e0 := hx.cells c0 l0
    have e1 := hx.cells d0 l1
    unfold atG
    go_simp
    simp only [uponG]
    exact ⟨by trivial, T1.out wx⟩
  apply v_other
  · simp only [List.getElem?_toArray, List.getElem?_cons_zero, List.getElem?_cons_succ]; exact rfl
  · rfl
  · rfl
  · go_simp
  · intro wx hx
    have e0 := hx.cells c0 l0
    have e1 := hx.cells d0 l1
    unfold atG
    go_simp
    simp only [uponG]
    exact ⟨by trivial, rfl⟩
  apply v_other
  · simp only [List.getElem?_toArray, List.getElem?_cons_zero, List.getElem?_cons_succ]; exact rfl
  · rfl
  · rfl
  · go_simp
  · intro wx hx
    have e0 := hx.cells c0 l0
    have e1 := hx.cells d0 l1
    unfold atG
    go_simp
    simp only [uponG]
    exact ⟨by trivial, T2.out wx⟩
  apply v_other
  · simp only [List.getElem?_toArray, List.getElem?_cons_zero, List.getElem?_cons_succ]; exact rfl
  · rfl
  · rfl
  · go_simp
  · intro wx hx
    have e0 := hx.cells c0 l0
    have e1 := hx.cells d0 l1
    unfold atG
    go_simp
    simp only [uponG]
    exact ⟨by trivial, rfl⟩
  apply v_other
  · simp only [List.getElem?_toArray, List.getElem?_cons_zero, List.getElem?_cons_succ]; exact rfl
  · rfl
  · rfl
  · go_simp
  · intro wx hx
    have e0 := hx.cells c0 l0
    have e1 := hx.cells d0 l1
    unfold atG
    go_simp
    simp only [uponG]
    exact ⟨by trivial, C1.out wx⟩
  apply v_other
  · simp only [List.getElem?_toArray, List.getElem?_cons_zero, List.getElem?_cons_succ]; exact rfl
  · rfl
  · rfl
  · go_simp
  · intro wx hx
    have e0 := hx.cells c0 l0
    have e1 := hx.cells d0 l1
    unfold atG
    go_simp
    simp only [uponG]
    exact ⟨by trivial, rfl⟩
  apply v_other
  · simp only [List.getElem?_toArray, List.getElem?_cons_zero, List.getElem?_cons_succ]; exact rfl
  · rfl
  · rfl
  · go_simp
  · intro wx hx
    have e0 := hx.cells c0 l0
    have e1 := hx.cells d0 l1
    unfold atG
    go_simp
    simp only [uponG]
    exact ⟨by trivial, rfl⟩
  apply v_other
  · simp only [List.getElem?_toArray, List.getElem?_cons_zero, List.getElem?_cons_succ]; exact rfl
  · rfl
  · rfl
  · go_simp
  · intro wx hx
    have e0 := hx.cells c0 l0
    have e1 := hx.cells d0 l1
    unfold atG
    go_simp
    simp only [uponG]
    exact ⟨by trivial, rfl⟩
  refine v_E (by simp only [List.getElem?_toArray, List.getElem?_cons_zero, List.getElem?_cons_succ]; exact rfl) rfl (by go_simp) (fun wx hx _ => ?_) ?_
  · go_simp
    simp only [uponE]
    refine ⟨(Below.refl _ _).alloc (Nat.le_refl _) _, wx.heap.size, rfl, hx.size, ?_⟩
    exact ⟨_, _, heap_at _ _ _ rfl, by first | rfl | simp⟩
  rintro vg ⟨_, _, _, g2, rfl, hg, _⟩
  refine v_S g2 16 (av r) (by simp only [List.getElem?_toArray, List.getElem?_cons_zero, List.getElem?_cons_succ]; exact rfl) rfl rfl (by go_simp) (fun wx hx => (newR.at hx).2) hg (fun wx hx hr => by go_simp) ?_
  apply v_other
  · simp only [List.getElem?_toArray, List.getElem?_cons_zero, List.getElem?_cons_succ]; exact rfl
  · rfl
  · rfl
  · go_simp
  · intro wx hx
    unfold atG
    go_simp
    simp only [uponG]
    exact ⟨by trivial, rfl⟩
  rintro w2 hx ⟨wy, hn, k1, k2⟩
  obtain ⟨x0, _, x1⟩ := stored (newR.at hn).2 (av_size _) k2
  have y0 := hx.cells a0 a1
  have y1 : g < w2.heap.size := Nat.lt_of_lt_of_le a1 hx.size
  have b2 : Below w.heap.size w w2 := b1.trans (Below.mono hx b1.size)
  clear k1 k2 hn c0 d0 l0 l1 b1 hx hg a0 a1
  go_wp2_with fail
  refine (eqPlaces_same r _).mono ?_
  rintro e w5 ⟨rfl, h5⟩
  have b5 := b2.trans (h5.mono b2.size)
  clear h5
  go_wp2
  go_ret
  exact ⟨rfl, b5⟩
end Go.Proofs.Ytghdbnbejkneiaa
