/- spec.l01Passport, spec.l01Euler -/
import Derived.Test.YtdoehnckolhloaaEul
import Derived.Test.YtdoehnckolhloaaTyp
import Derived.Test.YtdoehnckolhloaaReg
namespace Go.Proofs.Ytdoehnckolhloaa
open Go.RowKit

def passN (f g : Nat → Nat) (m : Nat) : List (List Nat) := [sortD (lens f m), sortD (lens g m), sortD (lens (faceF f g m) m)]

theorem Own1.old {B : Nat} {w0 w1 w : World} {v : Value} {l : List Nat} (h : Own1 B w0 v l) (h1 : Grown w0 w1) (h2 : Grown w1 w) : Own1 B w v l :=
  h.kept (grown_of_below (Grown.trans h1 h2) none) (by rcases v.ownBlock with _ | g; exact .inl rfl; exact .inr (by simp))
theorem Own1.apart {B : Nat} {w0 w1 : World} {v u : Value} {l k : List Nat} (h : Own1 B w0 v l) (hu : Own1 w0.heap.size w1 u k) : v.ownBlock = none ∨ v.ownBlock ≠ u.ownBlock := by
  rcases hv : v.ownBlock with _ | g
  · exact .inl rfl
  · refine .inr fun e => ?_
    have a := (World.ownsRow.lt h g hv).2
    have b := (World.ownsRow.lt hu g e.symm).1
    omega
theorem apart_symm {v u : Value} (h : v.ownBlock = none ∨ v.ownBlock ≠ u.ownBlock) : u.ownBlock = none ∨ u.ownBlock ≠ v.ownBlock := by
  rcases hu : u.ownBlock with _ | g
  · exact .inl rfl
  · refine .inr fun e => ?_
    rw [hu] at h
    rcases h with c | c
    · rw [c] at e; cases e
    · exact c e.symm

theorem own_lit (w : World) (e : TypeId) (B : Nat) (hB : B ≤ w.heap.size) (xs : List Value) (h : xs.length ≤ 1000) : (w.alloc (.cells xs.toArray e)).ownsRow B e 1 (.slice (some ⟨w.heap.size, 0, none⟩) xs.length xs.length) xs.length xs :=
  ⟨by simp, .inr ⟨w.heap.size, xs.length, xs.toArray, rfl, hB, heap_at _ _ _ rfl, Nat.le_refl _, by unfold maxLen; omega, by simp, by simp⟩⟩
theorem own2_lit3 {B : Nat} {w : World} {v1 v2 v3 : Value} {k1 k2 k3 : List Nat} (hB : B ≤ w.heap.size) (h1 : Own1 B w v1 k1) (h2 : Own1 B w v2 k2) (h3 : Own1 B w v3 k3) (a12 : v1.ownBlock = none ∨ v1.ownBlock ≠ v2.ownBlock) (a13 : v1.ownBlock = none ∨ v1.ownBlock ≠ v3.ownBlock)
    (a23 : v2.ownBlock = none ∨ v2.ownBlock ≠ v3.ownBlock) : Own2 B (w.alloc (.cells #[v1, v2, v3] 32)) (.slice (some ⟨w.heap.size, 0, none⟩) 3 3) [k1, k2, k3] := by
  refine ⟨[v1, v2, v3], rfl, own_lit w 32 B hB [v1, v2, v3] (by simp), ?_, ?_⟩
  · intro i u l e1 e2
    have k : ∀ {v : Value} {l : List Nat}, Own1 B w v l → Own1 B (w.alloc (.cells #[v1, v2, v3] 32)) v l := fun h => World.ownsRow.alloc h _
    match i with
    | 0 => simp at e1 e2; subst e1 e2; exact k h1
    | 1 => simp at e1 e2; subst e1 e2; exact k h2
    | 2 => simp at e1 e2; subst e1 e2; exact k h3
    | n + 3 => simp at e1
  · intro i j u u' hij e1 e2
    match i, j with
    | 0, 0 => omega
    | 0, 1 => simp at e1 e2; subst e1 e2; exact a12
    | 0, 2 => simp at e1 e2; subst e1 e2; exact a13
    | 1, 2 => simp at e1 e2; subst e1 e2; exact a23
    | 1, 0 => omega
    | 1, 1 => omega
    | 2, 0 => omega
    | 2, 1 => omega
    | 2, 2 => omega
    | _, n + 3 => simp at e2
    | n + 3, _ => simp at e1

set_option maxRecDepth 100000 in
set_option maxHeartbeats 1000000 in
theorem sPassport_any (f g : Nat → Nat) (m : Nat) (hd : DesN f g m) (w : World) :
    Calls Try.prog 86 #[.agg (dv m f g)] w fun e w' => ∃ v, e = .returned v ∧ Below w.heap.size w w' ∧ Own2 w.heap.size w' v (passN f g m) := by
  have C1 := hide fun w => sType_any f m hd.black w
  have C2 := hide fun w => sType_any g m hd.white w
  have C3 := hide fun w => sType_any (faceF f g m) m hd.face w
  have CF := hide fun w => sFace_any f g m hd.le hd.bf.1 hd.bg.1 w
  unfold passN
  generalize sortD (lens f m) = k1 at *
  generalize sortD (lens g m) = k2 at *
  generalize sortD (lens (faceF f g m) m) = k3 at *
  generalize faceF f g m = F at *
  clear hd
  have hn := dv_n m f g
  go_enter Try.func86, Try.ntmps86
  go_wp2
  generalize hW : w.alloc (.cells (dv m f g) _) = W
  have c0 : cellsOf W w.heap.size = dv m f g := by rw [← hW]; exact cellsOf_heap (heap_at _ _ _ rfl)
  have b0 : Below w.heap.size w W := by rw [← hW]; exact below1 _ _
  have l0 : w.heap.size < W.heap.size := by rw [← hW]; simp
  clear hW
  refine region_V (w := W) (fun k => if k = 4 then some (fun w v w' => Own1 w.heap.size w' v k1) else if k = 9 then some (fun w v w' => Own1 w.heap.size w' v k2) else if k = 14 then some (fun w v w' => Own1 w.heap.size w' v k3) else if k = 15 then some (fun w v w' => v = .slice (some ⟨w.heap.size, 0, none⟩) 3 3 ∧ Own2 W.heap.size w' v [k1, k2, k3]) else none) (fun _ => false) [4, 9, 14, 15] (.q 0 <| .q 1 <| .q 2 <| .q 3 <| .q 5 <| .q 6 <| .q 7 <| .q 8 <| .q 10 <| .q 12 <| .q 13 <| .s1 4 <| .s1 9 <| .q 11 <| .s1 14 <| .s1 15 <| .q 16 .fin) (by kernel_rfl) (by kernel_rfl) (by kernel_rfl) (fun k hk => ?_) ?_
  · simp at hk; simp [hk]
  apply v_other
  · simp only [List.getElem?_toArray, List.getElem?_cons_zero, List.getElem?_cons_succ]; exact rfl
  · rfl
  · rfl
  · go_simp
  · intro wx hx
    have e0 := hx.cells c0 l0
    have n0 : wx.cell? ⟨w.heap.size, 0, none⟩ = some (.int .i64 m) := by rw [cell_of_cells, e0]; exact hn
    unfold atG
    go_simp
    simp only [uponG]
    exact ⟨by trivial, rfl⟩
  apply v_other
  · simp only [List.getElem?_toArray, List.getElem?_cons_zero, List.getElem?_cons_succ]; exact rfl
  · rfl
  · rfl
  · go_simp
  · intro wx hx
    have e0 := hx.cells c0 l0
    have n0 : wx.cell? ⟨w.heap.size, 0, none⟩ = some (.int .i64 m) := by rw [cell_of_cells, e0]; exact hn
    unfold atG
    go_simp
    simp only [uponG]
    exact ⟨by trivial, rfl⟩
  apply v_other
  · simp only [List.getElem?_toArray, List.getElem?_cons_zero, List.getElem?_cons_succ]; exact rfl
  · rfl
  · rfl
  · go_simp
  · intro wx hx
    have e0 := hx.cells c0 l0
    have n0 : wx.cell? ⟨w.heap.size, 0, none⟩ = some (.int .i64 m) := by rw [cell_of_cells, e0]; exact hn
    unfold atG
    go_simp
    simp only [uponG]
    exact ⟨by trivial, rfl⟩
  apply v_other
  · simp only [List.getElem?_toArray, List.getElem?_cons_zero, List.getElem?_cons_succ]; exact rfl
  · rfl
  · rfl
  · go_simp
  · intro wx hx
    have e0 := hx.cells c0 l0
    have n0 : wx.cell? ⟨w.heap.size, 0, none⟩ = some (.int .i64 m) := by rw [cell_of_cells, e0]; exact hn
    unfold atG
    go_simp
    simp only [uponG]
    exact ⟨by trivial, rfl⟩
  apply v_other
  · simp only [List.getElem?_toArray, List.getElem?_cons_zero, List.getElem?_cons_succ]; exact rfl
  · rfl
  · rfl
  · go_simp
  · intro wx hx
    have e0 := hx.cells c0 l0
    have n0 : wx.cell? ⟨w.heap.size, 0, none⟩ = some (.int .i64 m) := by rw [cell_of_cells, e0]; exact hn
    unfold atG
    go_simp
    simp only [uponG]
    exact ⟨by trivial, rfl⟩
  apply v_other
  · simp only [List.getElem?_toArray, List.getElem?_cons_zero, List.getElem?_cons_succ]; exact rfl
  · rfl
  · rfl
  · go_simp
  · intro wx hx
    have e0 := hx.cells c0 l0
    have n0 : wx.cell? ⟨w.heap.size, 0, none⟩ = some (.int .i64 m) := by rw [cell_of_cells, e0]; exact hn
    unfold atG
    go_simp
    simp only [uponG]
    exact ⟨by trivial, rfl⟩
  apply v_other
  · simp only [List.getElem?_toArray, List.getElem?_cons_zero, List.getElem?_cons_succ]; exact rfl
  · rfl
  · rfl
  · go_simp
  · intro wx hx
    have e0 := hx.cells c0 l0
    have n0 : wx.cell? ⟨w.heap.size, 0, none⟩ = some (.int .i64 m) := by rw [cell_of_cells, e0]; exact hn
    unfold atG
    go_simp
    simp only [uponG]
    exact ⟨by trivial, rfl⟩
  apply v_other
  · simp only [List.getElem?_toArray, List.getElem?_cons_zero, List.getElem?_cons_succ]; exact rfl
  · rfl
  · rfl
  · go_simp
  · intro wx hx
    have e0 := hx.cells c0 l0
    have n0 : wx.cell? ⟨w.heap.size, 0, none⟩ = some (.int .i64 m) := by rw [cell_of_cells, e0]; exact hn
    unfold atG
    go_simp
    simp only [uponG]
    exact ⟨by trivial, rfl⟩
  apply v_other
  · simp only [List.getElem?_toArray, List.getElem?_cons_zero, List.getElem?_cons_succ]; exact rfl
  · rfl
  · rfl
  · go_simp
  · intro wx hx
    have e0 := hx.cells c0 l0
    have n0 : wx.cell? ⟨w.heap.size, 0, none⟩ = some (.int .i64 m) := by rw [cell_of_cells, e0]; exact hn
    unfold atG
    go_simp
    simp only [uponG]
    exact ⟨by trivial, rfl⟩
  apply v_other
  · simp only [List.getElem?_toArray, List.getElem?_cons_zero, List.getElem?_cons_succ]; exact rfl
  · rfl
  · rfl
  · go_simp
  · intro wx hx
    have e0 := hx.cells c0 l0
    have n0 : wx.cell? ⟨w.heap.size, 0, none⟩ = some (.int .i64 m) := by rw [cell_of_cells, e0]; exact hn
    unfold atG
    go_simp
    simp only [uponG]
    exact ⟨by trivial, rfl⟩
  apply v_other
  · simp only [List.getElem?_toArray, List.getElem?_cons_zero, List.getElem?_cons_succ]; exact rfl
  · rfl
  · rfl
  · go_simp
  · intro wx hx
    have e0 := hx.cells c0 l0
    have n0 : wx.cell? ⟨w.heap.size, 0, none⟩ = some (.int .i64 m) := by rw [cell_of_cells, e0]; exact hn
    unfold atG
    go_simp
    simp only [uponG]
    exact ⟨by trivial, rfl⟩
  refine v_E (by simp only [List.getElem?_toArray, List.getElem?_cons_zero, List.getElem?_cons_succ]; exact rfl) rfl (by go_simp) (fun wx hx _ => ?_) ?_
  · go_simp
    simp only [uponE]
    exact ⟨by trivial, (C1.out wx).mono fun e w' ⟨v, h1, h2, h3⟩ => ⟨v, h1, h2, h3⟩⟩
  rintro v1 ⟨_, _, _, ho⟩
  obtain ⟨A1, d1, rfl⟩ := own_slice ho
  clear ho
  refine v_E (by simp only [List.getElem?_toArray, List.getElem?_cons_zero, List.getElem?_cons_succ]; exact rfl) rfl (by go_simp) (fun wx hx _ => ?_) ?_
  · go_simp
    simp only [uponE]
    exact ⟨by trivial, (C2.out wx).mono fun e w' ⟨v, h1, h2, h3⟩ => ⟨v, h1, h2, h3⟩⟩
  rintro v2 ⟨_, _, _, ho⟩
  obtain ⟨A2, d2, rfl⟩ := own_slice ho
  clear ho
  apply v_other
  · simp only [List.getElem?_toArray, List.getElem?_cons_zero, List.getElem?_cons_succ]; exact rfl
  · rfl
  · rfl
  · go_simp
  · intro wx hx
    have e0 := hx.cells c0 l0
    have n0 : wx.cell? ⟨w.heap.size, 0, none⟩ = some (.int .i64 m) := by rw [cell_of_cells, e0]; exact hn
    unfold atG
    go_simp
    simp only [uponG]
    exact ⟨by trivial, CF.out wx⟩
  refine v_E (by simp only [List.getElem?_toArray, List.getElem?_cons_zero, List.getElem?_cons_succ]; exact rfl) rfl (by go_simp) (fun wx hx _ => ?_) ?_
  · go_simp
    simp only [uponE]
    exact ⟨by trivial, (C3.out wx).mono fun e w' ⟨v, h1, h2, h3⟩ => ⟨v, h1, h2, h3⟩⟩
  rintro v3 ⟨_, _, _, ho⟩
  obtain ⟨A3, d3, rfl⟩ := own_slice ho
  clear ho
  refine v_E (by simp only [List.getElem?_toArray, List.getElem?_cons_zero, List.getElem?_cons_succ]; exact rfl) rfl (by go_simp) (fun wx hx hd => ?_) ?_
  · go_simp
    simp only [uponE]
    refine ⟨(Below.refl _ _).alloc (Nat.le_refl _) _, by trivial, ?_⟩
    obtain ⟨w2, w3, ⟨w4, w5, ⟨w6, w7, _, j1, j2, o1, j3⟩, i1, i2, o2, i3⟩, h1, h2, o3, h3⟩ := hd
    have s6 := j1.size
    have s4 := i1.size
    have s2 := h1.size
    have p1 : Own1 W.heap.size w4 _ k1 := (o1.mono s6).old (Below.refl _ _) j3
    have p1' : Own1 W.heap.size w2 _ k1 := p1.old i2 i3
    have p2 : Own1 W.heap.size w2 _ k2 := (o2.mono s4).old (Below.refl _ _) i3
    have q1 := (p1'.old h2 h3)
    have q2 := (p2.old h2 h3)
    have q3 : Own1 W.heap.size wx _ k3 := (o3.mono s2).old (Below.refl _ _) h3
    have a12 := p1.apart o2
    have a13 := p1'.apart o3
    have a23 := p2.apart o3
    exact own2_lit3 hx.size q1 q2 q3 a12 a13 a23
  rintro v4 ⟨_, _, _, rfl, _⟩
  apply v_other
  · simp only [List.getElem?_toArray, List.getElem?_cons_zero, List.getElem?_cons_succ]; exact rfl
  · rfl
  · rfl
  · go_simp
  · intro wx hx
    unfold atG
    go_simp
    simp only [uponG]
    exact ⟨by trivial, rfl⟩
  rintro w1 hx ⟨wa, wb, _, g1, g2, ⟨e1, hO⟩, g3⟩
  have hO1 : Own2 w.heap.size w1 _ [k1, k2, k3] := Own2.mono (hO.kept (grown_of_below g3 none) (fun g hg => by cases hg)) b0.size
  have b1 : Below w.heap.size w w1 := b0.trans (Below.mono hx b0.size)
  clear hO e1 g1 g2 g3 hx c0 l0 b0
  have HO := hide hO1; clear hO1
  go_wp2
  go_simp
  go_ret
  exact ⟨_, rfl, b1, HO.out⟩
end Go.Proofs.Ytdoehnckolhloaa
