/- the walk of FnExactRenameDessin -/
import Derived.Test.YtghdbnbejkneiaaRen
import Derived.Test.YtghdbnbejkneiaaEqDs
namespace Go.Proofs.Ytghdbnbejkneiaa
open Go.RowKit

set_option maxRecDepth 100000 in
set_option maxHeartbeats 1000000 in
theorem fnExactRenameDessin_walk (n : Int) (f g : Nat → Nat) (_hn : -9223372036854775808 ≤ n ∧ n ≤ 9223372036854775807) (hf : ∀ i, f i < 256) (hg : ∀ i, g i < 256) (p : Nat → Nat) (hp : ∀ i, p i < 256) (w : World) :
    Calls Try.prog 11 #[.agg (dv n f g), .agg (av p)] w fun e w' => e = .returned (.bool true) ∧ Below w.heap.size w w' := by
  obtain ⟨a, r, s, c, hR⟩ := renR_eq n f g p
  have c1 := fun w => renameDessin_any n f g hf hg p hp w
  have c2 := fun w => sRenameDessin_any n f g hf hg p hp w
  rw [hR] at c1 c2
  have C1 := hide c1; clear c1
  have C2 := hide c2; clear c2
  have T0 := hide fun w => toDessin_any n f g w
  have T1 := hide fun w => toPlaces_any p w
  clear hR hf hg _hn hp
  have hne : (c != c) = false := by simp
  go_enter Try.func11, Try.ntmps11
  go_wp2
  generalize hW : ((w.alloc (.cells (dv n f g) 36)).alloc (.cells (av p) 22)) = W
  have y0 : cellsOf W w.heap.size = dv n f g := by rw [← hW]; exact cellsOf_heap (heap1 (by simp))
  have k0 : w.heap.size < W.heap.size := by rw [← hW]; simp <;> omega
  have y1 : cellsOf W (w.heap.size + 1) = av p := by rw [← hW]; exact cellsOf_heap (heap_at _ _ _ (by simp))
  have k1 : (w.heap.size + 1) < W.heap.size := by rw [← hW]; simp <;> omega
  have b0 : Below w.heap.size w W := by rw [← hW]; exact below2 _ _ _
  clear hW
  refine region_V (w := W) (fun k => if k = 8 then some (fun _ => newR W.heap.size 33) else none) (fun k => k == 9) [8, 9] (.q 0 <| .q 1 <| .q 2 <| .q 3 <| .q 4 <| .q 5 <| .q 6 <| .q 7 <| .s1 8 <| .s1 9 <| .q 10 .fin) (by kernel_rfl) (by kernel_rfl) (by kernel_rfl) (fun k hk => ?_) ?_
  · simp at hk; simp [hk]
  apply v_other
  · simp only [List.getElem?_toArray, List.getElem?_cons_zero, List.getElem?_cons_succ]; exact rfl
  · rfl
  · rfl
  · go_simp
  · intro wx hx
    have e0 := hx.cells y0 k0
    have e1 := hx.cells y1 k1
    unfold atG
    go_simp
    simp only [uponG]
    exact ⟨by trivial, rfl⟩
  apply v_other
  · simp only [List.getElem?_toArray, List.getElem?_cons_zero, List.getElem?_cons_succ]; exact rfl
  · rfl
  · rfl
  · go_simp
  · intro wx hx
    have e0 := hx.cells y0 k0
    have e1 := hx.cells y1 k1
    unfold atG
    go_simp
    simp only [uponG]
    exact ⟨by trivial, T0.out wx⟩
  apply v_other
  · simp only [List.getElem?_toArray, List.getElem?_cons_zero, List.getElem?_cons_succ]; exact rfl
  · rfl
  · rfl
  · go_simp
  · intro wx hx
    have e0 := hx.cells y0 k0
    have e1 := hx.cells y1 k1
    unfold atG
    go_simp
    simp only [uponG]
    exact ⟨by trivial, rfl⟩
  apply v_other
  · simp only [List.getElem?_toArray, List.getElem?_cons_zero, List.getElem?_cons_succ]; exact rfl
  · rfl
  · rfl
  · go_simp
  · intro wx hx
    have e0 := hx.cells y0 k0
    have e1 := hx.cells y1 k1
    unfold atG
    go_simp
    simp only [uponG]
    exact ⟨by trivial, T1.out wx⟩
  apply v_other
  · simp only [List.getElem?_toArray, List.getElem?_cons_zero, List.getElem?_cons_succ]; exact rfl
  · rfl
  · rfl
  · go_simp
  · intro wx hx
    have e0 := hx.cells y0 k0
    have e1 := hx.cells y1 k1
    unfold atG
    go_simp
    simp only [uponG]
    exact ⟨by trivial, C2.out wx⟩
  apply v_other
  · simp only [List.getElem?_toArray, List.getElem?_cons_zero, List.getElem?_cons_succ]; exact rfl
  · rfl
  · rfl
  · go_simp
  · intro wx hx
    have e0 := hx.cells y0 k0
    have e1 := hx.cells y1 k1
    unfold atG
    go_simp
    simp only [uponG]
    exact ⟨by trivial, rfl⟩
  apply v_other
  · simp only [List.getElem?_toArray, List.getElem?_cons_zero, List.getElem?_cons_succ]; exact rfl
  · rfl
  · rfl
  · go_simp
  · intro wx hx
    have e0 := hx.cells y0 k0
    have e1 := hx.cells y1 k1
    unfold atG
    go_simp
    simp only [uponG]
    exact ⟨by trivial, rfl⟩
  apply v_other
  · simp only [List.getElem?_toArray, List.getElem?_cons_zero, List.getElem?_cons_succ]; exact rfl
  · rfl
  · rfl
  · go_simp
  · intro wx hx
    have e0 := hx.cells y0 k0
    have e1 := hx.cells y1 k1
    unfold atG
    go_simp
    simp only [uponG]
    exact ⟨by trivial, rfl⟩
  refine v_E (by simp only [List.getElem?_toArray, List.getElem?_cons_zero, List.getElem?_cons_succ]; exact rfl) rfl (by go_simp) (fun wx hx _ => ?_) ?_
  · go_simp
    simp only [uponE]
    refine ⟨(Below.refl _ _).alloc (Nat.le_refl _) _, wx.heap.size, rfl, hx.size, ?_⟩
    exact ⟨_, _, heap_at _ _ _ rfl, by first | rfl | simp⟩
  rintro vg ⟨_, _, _, g1, rfl, hg, _⟩
  refine v_S g1 33 (dv a r s) (by simp only [List.getElem?_toArray, List.getElem?_cons_zero, List.getElem?_cons_succ]; exact rfl) rfl rfl (by go_simp) (fun wx hx => (newR.at hx).2) hg (fun wx hx hr => by go_simp) ?_
  apply v_other
  · simp only [List.getElem?_toArray, List.getElem?_cons_zero, List.getElem?_cons_succ]; exact rfl
  · rfl
  · rfl
  · go_simp
  · intro wx hx
    unfold atG
    go_simp
    simp only [uponG]
    exact ⟨by trivial, rfl⟩
  rintro w1 hx ⟨wy, hn, k1', k2'⟩
  obtain ⟨a0, _, a1⟩ := stored (newR.at hn).2 (dv_size _ _ _) k2'
  have s1 := hx.size
  have b1 : Below w.heap.size w w1 := b0.trans (Below.mono hx b0.size)
  have z0 := hx.cells y0 k0
  have m0 := Nat.lt_of_lt_of_le k0 s1
  have z1 := hx.cells y1 k1
  have m1 := Nat.lt_of_lt_of_le k1 s1
  clear k1' k2' hn b0 hx hg s1 y0 k0 y1 k1
  have y0 := z0; have k0 := m0
  clear z0 m0
  have y1 := z1; have k1 := m1
  clear z1 m1
  go_wp2_with fail
  refine region_V (w := w1) (fun k => if k = 8 then some (fun _ => newR w1.heap.size 33) else none) (fun k => k == 9) [8, 9] (.q 0 <| .q 1 <| .q 2 <| .q 3 <| .q 4 <| .q 5 <| .q 6 <| .q 7 <| .s1 8 <| .s1 9 <| .q 10 .fin) (by kernel_rfl) (by kernel_rfl) (by kernel_rfl) (fun k hk => ?_) ?_
  · simp at hk; simp [hk]
  apply v_other
  · simp only [List.getElem?_toArray, List.getElem?_cons_zero, List.getElem?_cons_succ]; exact rfl
  · rfl
  · rfl
  · go_simp
  · intro wx hx
    have e0 := hx.cells y0 k0
    have e1 := hx.cells y1 k1
    unfold atG
    go_simp
    simp only [uponG]
    exact ⟨by trivial, rfl⟩
  apply v_other
  · simp only [List.getElem?_toArray, List.getElem?_cons_zero, List.getElem?_cons_succ]; exact rfl
  · rfl
  · rfl
  · go_simp
  · intro wx hx
    have e0 := hx.cells y0 k0
    have e1 := hx.cells y1 k1
    unfold atG
    go_simp
    simp only [uponG]
    exact ⟨by trivial, T0.out wx⟩
  apply v_other
  · simp only [List.getElem?_toArray, List.getElem?_cons_zero, List.getElem?_cons_succ]; exact rfl
  · rfl
  · rfl
  · go_simp
  · intro wx hx
    have e0 := hx.cells y0 k0
    have e1 := hx.cells y1 k1
    unfold atG
    go_simp
    simp only [uponG]
    exact ⟨by trivial, rfl⟩
  apply v_other
  · simp only [List.getElem?_toArray, List.getElem?_cons_zero, List.getElem?_cons_succ]; exact rfl
  · rfl
  · rfl
  · go_simp
  · intro wx hx
    have e0 := hx.cells y0 k0
    have e1 := hx.cells y1 k1
    unfold atG
    go_simp
    simp only [uponG]
    exact ⟨by trivial, T1.out wx⟩
  apply v_other
  · simp only [List.getElem?_toArray, List.getElem?_cons_zero, List.getElem?_cons_succ]; exact rfl
  · rfl
  · rfl
  · go_simp
  · intro wx hx
    have e0 := hx.cells y0 k0
    have e1 := hx.cells y1 k1
    unfold atG
    go_simp
    simp only [uponG]
    exact ⟨by trivial, C1.out wx⟩
  apply v_other
  · simp only [List.getElem?_toArray, List.getElem?_cons_zero, List.getElem?_cons_succ]; exact rfl
  · rfl
  · rfl
  · go_simp
  · intro wx hx
    have e0 := hx.cells y0 k0
    have e1 := hx.cells y1 k1
    unfold atG
    go_simp
    simp only [uponG]
    exact ⟨by trivial, rfl⟩
  apply v_other
  · simp only [List.getElem?_toArray, List.getElem?_cons_zero, List.getElem?_cons_succ]; exact rfl
  · rfl
  · rfl
  · go_simp
  · intro wx hx
    have e0 := hx.cells y0 k0
    have e1 := hx.cells y1 k1
    unfold atG
    go_simp
    simp only [uponG]
    exact ⟨by trivial, rfl⟩
  apply v_other
  · simp only [List.getElem?_toArray, List.getElem?_cons_zero, List.getElem?_cons_succ]; exact rfl
  · rfl
  · rfl
  · go_simp
  · intro wx hx
    have e0 := hx.cells y0 k0
    have e1 := hx.cells y1 k1
    unfold atG
    go_simp
    simp only [uponG]
    exact ⟨by trivial, rfl⟩
  refine v_E (by simp only [List.getElem?_toArray, List.getElem?_cons_zero, List.getElem?_cons_succ]; exact rfl) rfl (by go_simp) (fun wx hx _ => ?_) ?_
  · go_simp
    simp only [uponE]
    refine ⟨(Below.refl _ _).alloc (Nat.le_refl _) _, wx.heap.size, rfl, hx.size, ?_⟩
    exact ⟨_, _, heap_at _ _ _ rfl, by first | rfl | simp⟩
  rintro vg ⟨_, _, _, g2, rfl, hg, _⟩
  refine v_S g2 33 (dv a r s) (by simp only [List.getElem?_toArray, List.getElem?_cons_zero, List.getElem?_cons_succ]; exact rfl) rfl rfl (by go_simp) (fun wx hx => (newR.at hx).2) hg (fun wx hx hr => by go_simp) ?_
  apply v_other
  · simp only [List.getElem?_toArray, List.getElem?_cons_zero, List.getElem?_cons_succ]; exact rfl
  · rfl
  · rfl
  · go_simp
  · intro wx hx
    unfold atG
    go_simp
    simp only [uponG]
    exact ⟨by trivial, rfl⟩
  rintro w2 hx ⟨wy, hn, k1', k2'⟩
  obtain ⟨x0, _, x1⟩ := stored (newR.at hn).2 (dv_size _ _ _) k2'
  have y9 := hx.cells a0 a1
  have b2 : Below w.heap.size w w2 := b1.trans (Below.mono hx b1.size)
  have k9 : g1 < w2.heap.size := Nat.lt_of_lt_of_le a1 hx.size
  clear k1' k2' hn b1 hx hg a0 a1 y0 k0 y1 k1
  go_wp2_with fail
  refine (eqDessin_same a r s _).mono ?_
  rintro e w5 ⟨rfl, h5⟩
  have b5 := b2.trans (h5.mono b2.size)
  clear h5
  go_wp2
  go_ret
  exact ⟨rfl, b5⟩
end Go.Proofs.Ytghdbnbejkneiaa
