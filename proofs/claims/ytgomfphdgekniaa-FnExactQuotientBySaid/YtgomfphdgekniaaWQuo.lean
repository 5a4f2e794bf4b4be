/- the walk of FnExactQuotientBy -/
import Derived.Test.YtgomfphdgekniaaQuoS
import Derived.Test.YtgomfphdgekniaaEqDs
import Derived.Test.YtgomfphdgekniaaMk1
import Derived.Test.YtgomfphdgekniaaToDs
import Derived.Test.YtgomfphdgekniaaToPl
namespace Go.Proofs.Ytgomfphdgekniaa
open Go.RowKit

namespace Rd
/-- a whole value, a list, a code: what a call has handed back -/
def rTup (w0 : World) (cs : Array Value) (L : List Nat) (code : Value) (F : Option Addr → Nat → List Part) : Value → World → Prop := fun v w => ∃ A c, v = .tuple #[.agg cs, .slice A L.length c, code] ∧ Holds w0 w (F A c)
theorem rTup_stable {w0 : World} {cs : Array Value} {L : List Nat} {code : Value} {F : Option Addr → Nat → List Part} (v : Value) : Stable (rTup w0 cs L code F v) := fun _ _ ⟨A, c, e, h⟩ hb => ⟨A, c, e, h.call hb⟩
theorem rTup_form {w0 : World} {cs : Array Value} {L : List Nat} {code : Value} {F : Option Addr → Nat → List Part} {v : Value} {w : World} (h : rTup w0 cs L code F v w) : ∃ A c, v = .tuple #[.agg cs, .slice A L.length c, code] := by
  obtain ⟨A, c, e, _⟩ := h
  exact ⟨A, c, e⟩
theorem rTup_out {w0 : World} {cs : Array Value} {L : List Nat} {code : Value} {F : Option Addr → Nat → List Part} {A : Option Addr} {c : Nat} {w : World} (h : rTup w0 cs L code F (.tuple #[.agg cs, .slice A L.length c, code]) w) : Holds w0 w (F A c) := by
  obtain ⟨A', c', e, h⟩ := h
  injection e with e
  have e2 := congrArg (fun a : Array Value => a[1]?) e
  simp at e2
  obtain ⟨rfl, rfl⟩ := e2
  exact h
theorem v_boxD {P : Program} {ops : Array Oper} {w0 : World} {L L1 : List Part} {E : Nat → Bool} {k : Nat} {a : Act} {D : World → Prop} {N : Act → (World → Prop) → Prop} {o : Oper} (cells : Array Value) (t : TypeId) (hD : ∀ wx, D wx → Holds w0 wx L1) (ho : ops[k]? = some o) (hE : E k = true) (hw : Region.wanted o (yielded ops a.tmps) = true)
    (h1 : ∀ w, Holds w0 w L → Holds w0 w L1 → (execOp a.eval o).run P w = .ok (.value (.pointer (some ⟨w.heap.size, 0, none⟩))) (w.alloc (.cells cells t)))
    (h2 : ∀ g, N (a.put o.dst (.pointer (some ⟨g, 0, none⟩))) (fun wx => Holds w0 wx (pBlk g cells t :: L1))) : opV P ops (fun wx => Holds w0 wx L) E k N a D := by
  refine v_s (rPtr w0 cells t L1) rPtr_stable ho hE hw (fun w hx hd => ?_) fun v hv => ?_
  · rw [h1 w hx (hD w hd)]
    exact ⟨hx.alloc _, (hD w hd).blk _ _ _ rfl⟩
  · obtain ⟨w, _, hr⟩ := hv
    unfold rPtr at hr
    split at hr
    · exact h2 _
    · exact hr.elim
theorem v_sD {P : Program} {ops : Array Oper} {C : World → Prop} {w0 : World} {L1 : List Part} {E : Nat → Bool} {k : Nat} {a : Act} {D : World → Prop} {N : Act → (World → Prop) → Prop} {o : Oper} (hD : ∀ wx, D wx → Holds w0 wx L1) (R : Value → World → Prop) (hR : ∀ v, Stable (R v)) (ho : ops[k]? = some o) (hE : E k = true) (hw : Region.wanted o (yielded ops a.tmps) = true) (h1 : ∀ w, C w → Holds w0 w L1 → uponE P C R w ((execOp a.eval o).run P w))
    (h2 : ∀ v, (∃ w, C w ∧ R v w) → N (a.put o.dst v) (R v)) : opV P ops C E k N a D := v_s R hR ho hE hw (fun w hc hd => h1 w hc (hD w hd)) h2
/-- a region with two orders that end alike -/
theorem region_P2 {P : Program} {id : Nat} {Q : Exit → Act → World → Prop} {a : Act} {w w0 : World} {l : List Oper} (L : List Part) (L1 : List Part) (sp : List Nat) (p : Plan) (H : Holds w0 w L1) (hL : L.Sublist L1)
    (hm : P.follows .mixedOrders = true)
    (hsel : Region.noSelect l.toArray = true) (hB : planB .any l.toArray sp l.toArray.size p (Array.replicate l.toArray.size false) = true)
    (F : Nat → Option Addr → Nat → List Part) (act : Nat → Option Addr → Nat → Act)
    (h : ∀ K : Act → World → Prop, (∀ g A c wx, Holds w0 wx (F g A c) → K (act g A c) wx) → walkV P l.toArray (fun wx => Holds w0 wx L) (fun k => sp.contains k) K p a (fun wx => Holds w0 wx L1))
    (key : ∀ g A c wx, Holds w0 wx (F g A c) → Q .normal (act g A c) wx) : (Code.region id l.toArray true).wp P Q a w :=
  region_P L L1 sp p H hL hm hsel hB (h (fun a' w' => Q .normal a' w') key)
end Rd
/-- the marks that a law sets into a list that the call holds -/
theorem Holds.marked {w0 w w' : World} {L : List Part} (h : Holds w0 w L) (i : Nat) {v : Value} {l l' : List Nat} (hi : L[i]? = some (pInts v l)) (hg : w.grownBy w' v.ownBlock) (ho : Own1 w0.heap.size w' v l') : Holds w0 w' (L.set i (pInts v l')) :=
  h.grow i hi _ (row_low ho (Nat.zero_le _)) hg (fun g e => e) fun g e => .inl e

theorem quoA_eq (n : Int) (f g p : Nat → Nat) : ∃ a r s, quoA n f g p = dv a r s := by
  unfold quoA; split
  · exact ⟨_, _, _, rfl⟩
  · exact ⟨_, _, _, rfl⟩
theorem quoL_le (n : Int) (f g p : Nat → Nat) : (quoL n f g p).length ≤ 16 := by
  unfold quoL; split
  · rename_i h
    rw [whL_length]
    unfold quoOk at h
    split at h
    · rename_i h2
      obtain ⟨m, rfl, hd⟩ := desB_true h2.1
      rw [Int.toNat_natCast]; exact hd.le
    · cases h
  · simp

set_option maxRecDepth 100000 in
set_option maxHeartbeats 4000000 in
theorem fnExactQuotientBy_walk (n : Int) (f g : Nat → Nat) (_hn : -9223372036854775808 ≤ n ∧ n ≤ 9223372036854775807) (hf : ∀ i, f i < 256) (hg : ∀ i, g i < 256) (p : Nat → Nat) (hp : ∀ i, p i < 256) (w : World) :
    Calls Try.prog 4 #[.agg (dv n f g), .agg (av p)] w fun e w' => e = .returned (.bool true) ∧ Below w.heap.size w w' := by
  clear _hn
  obtain ⟨a, r, s, hA⟩ := quoA_eq n f g p
  have c1 := fun w => quotientBy_any n f g hf hg p hp w
  have c2 := fun w => sQuotientBy_any n f g hf hg p hp w
  have hL := quoL_le n f g p
  rw [hA] at c1 c2
  generalize quoL n f g p = L at *
  generalize quoOk n f g p = c at *
  have C1 := hide c1; clear c1
  have C2 := hide c2; clear c2
  have T0 := hide fun w => toDessin_any n f g w
  have T1 := hide fun w => toPlaces_any p w
  clear hf hg hp hA
  have hne : (((c : Nat) : Int) != ((c : Nat) : Int)) = false := by simp
  have hnt : (((1 + L.length : Nat) : Int) != ((1 + L.length : Nat) : Int)) = false := by simp
  have hneg : decide (((1 + L.length : Nat) : Int) < 0) = false := decide_eq_false (by omega)
  have HH0 := (((Holds.start w).blk (dv n f g) 24 w.heap.size rfl).blk (av p) 22 (w.heap.size + 1) (by simp))
  go_enter Try.func4, Try.ntmps4
  go_wp2
  apply Rd.region_P2 (w0 := w) (pBlk (w.heap.size + 1) (av p) 22 :: [pBlk w.heap.size (dv n f g) 24]) (pBlk (w.heap.size + 1) (av p) 22 :: [pBlk w.heap.size (dv n f g) 24]) [4, 9, 10] (.q 0 <| .q 1 <| .q 2 <| .q 3 <| .s2 4 (.q 5 <| .q 6 <| .q 7 <| .q 8 <| .s1 9 <| .s1 10 <| .q 11 <| .q 12 .fin) 9 (.s1 4 <| .q 5 <| .q 6 <| .q 7 <| .q 8 <| .s1 10 <| .q 11 <| .q 12 .fin)) HH0 (.refl _) (by kernel_rfl) (by kernel_rfl) (by kernel_rfl) (F := fun gq A c => pBlk gq (dv a r s) 30 :: pInts (.slice A L.length c) L :: pBlk (w.heap.size + 1) (av p) 22 :: [pBlk w.heap.size (dv n f g) 24])
  case h =>
    intro K key
    iterate 1
      apply Rd.v_q
      · simp only [List.getElem?_toArray, List.getElem?_cons_zero, List.getElem?_cons_succ]; exact rfl
      · rfl
      · go_simp
      · intro wx hx
        have q1 := hx.cells 1 rfl
        have q2 := hx.cells 0 rfl
        unfold atG
        go_simp
        simp only [uponG]
        exact ⟨by trivial, rfl⟩
    iterate 1
      apply Rd.v_q
      · simp only [List.getElem?_toArray, List.getElem?_cons_zero, List.getElem?_cons_succ]; exact rfl
      · rfl
      · go_simp
      · intro wx hx
        have q1 := hx.cells 1 rfl
        have q2 := hx.cells 0 rfl
        unfold atG
        go_simp
        simp only [uponG]
        exact ⟨by trivial, T0.out wx⟩
    iterate 1
      apply Rd.v_q
      · simp only [List.getElem?_toArray, List.getElem?_cons_zero, List.getElem?_cons_succ]; exact rfl
      · rfl
      · go_simp
      · intro wx hx
        have q1 := hx.cells 1 rfl
        have q2 := hx.cells 0 rfl
        unfold atG
        go_simp
        simp only [uponG]
        exact ⟨by trivial, rfl⟩
    iterate 1
      apply Rd.v_q
      · simp only [List.getElem?_toArray, List.getElem?_cons_zero, List.getElem?_cons_succ]; exact rfl
      · rfl
      · go_simp
      · intro wx hx
        have q1 := hx.cells 1 rfl
        have q2 := hx.cells 0 rfl
        unfold atG
        go_simp
        simp only [uponG]
        exact ⟨by trivial, T1.out wx⟩
    refine ⟨?_, ?_⟩
    · refine Rd.v_sI (Rd.rTup w (dv a r s) L (.int .i64 (c : Nat)) fun A c => pInts (.slice A L.length c) L :: pBlk (w.heap.size + 1) (av p) 22 :: [pBlk w.heap.size (dv n f g) 24]) Rd.rTup_stable (by simp only [List.getElem?_toArray, List.getElem?_cons_zero, List.getElem?_cons_succ]; exact rfl) rfl (by go_simp) (fun wx hx hD => ?_) ?_
      · go_simp
        simp only [Rd.uponI_eq, Rd.uponE]
        refine ⟨by trivial, (C2.out wx).mono ?_⟩
        rintro e wy ⟨v, rfl, hb, ho⟩
        obtain ⟨A, cc, rfl, ho2⟩ := own1_form ho
        have hj : Holds w wy (pInts (.slice A L.length cc) L :: pBlk (w.heap.size + 1) (av p) 22 :: [pBlk w.heap.size (dv n f g) 24]) := hx.newRow hb ho2
        exact ⟨_, rfl, hx.call hb, A, cc, rfl, hj⟩
      rintro v ⟨_, _, hv⟩
      obtain ⟨A, cc, rfl⟩ := Rd.rTup_form hv
      clear hv
      iterate 4
        apply Rd.v_q
        · simp only [List.getElem?_toArray, List.getElem?_cons_zero, List.getElem?_cons_succ]; exact rfl
        · rfl
        · go_simp
        · intro wx hx
          unfold atG
          go_simp
          simp only [uponG]
          exact ⟨by trivial, rfl⟩
      refine Rd.v_boxD (dv 0 (fun _ => 0) (fun _ => 0)) 30 (fun wx h => Rd.rTup_out h) (by simp only [List.getElem?_toArray, List.getElem?_cons_zero, List.getElem?_cons_succ]; exact rfl) rfl (by go_simp) (fun wx hx hD => by rw [dv_zero]; go_simp) fun gq => ?_
      refine Rd.v_s (Rd.rHolds w fun _ => pBlk gq (dv a r s) 30 :: pInts (.slice A L.length cc) L :: pBlk (w.heap.size + 1) (av p) 22 :: [pBlk w.heap.size (dv n f g) 24]) Rd.rHolds_stable (by simp only [List.getElem?_toArray, List.getElem?_cons_zero, List.getElem?_cons_succ]; exact rfl) rfl (by go_simp) (fun wx hx hD => ?_) ?_
      · have rr := hD.rowOk 0 rfl (dv_size _ _ _)
        go_simp
        simp only [Rd.uponE]
        have h2 := hD.setRow 0 rfl (dv a r s)
        exact ⟨h2.tail.tail, h2⟩
      rintro vn -
      iterate 2
        apply Rd.v_q
        · simp only [List.getElem?_toArray, List.getElem?_cons_zero, List.getElem?_cons_succ]; exact rfl
        · rfl
        · go_simp
        · intro wx hx
          unfold atG
          go_simp
          simp only [uponG]
          exact ⟨by trivial, rfl⟩
      rintro w' - hx
      go_simp
      exact key _ _ _ _ hx
    · refine Rd.v_box (dv 0 (fun _ => 0) (fun _ => 0)) 30 (by simp only [List.getElem?_toArray, List.getElem?_cons_zero, List.getElem?_cons_succ]; exact rfl) rfl (by go_simp) (fun wx hx hD => by rw [dv_zero]; go_simp) fun gq => ?_
      refine Rd.v_sI (Rd.rTup w (dv a r s) L (.int .i64 (c : Nat)) fun A c => pInts (.slice A L.length c) L :: pBlk gq (dv 0 (fun _ => 0) (fun _ => 0)) 30 :: pBlk (w.heap.size + 1) (av p) 22 :: [pBlk w.heap.size (dv n f g) 24]) Rd.rTup_stable (by simp only [List.getElem?_toArray, List.getElem?_cons_zero, List.getElem?_cons_succ]; exact rfl) rfl (by go_simp) (fun wx hx hD => ?_) ?_
      · go_simp
        simp only [Rd.uponI_eq, Rd.uponE]
        refine ⟨by trivial, (C2.out wx).mono ?_⟩
        rintro e wy ⟨v, rfl, hb, ho⟩
        obtain ⟨A, cc, rfl, ho2⟩ := own1_form ho
        have hj : Holds w wy (pInts (.slice A L.length cc) L :: pBlk gq (dv 0 (fun _ => 0) (fun _ => 0)) 30 :: pBlk (w.heap.size + 1) (av p) 22 :: [pBlk w.heap.size (dv n f g) 24]) := hD.newRow hb ho2
        exact ⟨_, rfl, hx.call hb, A, cc, rfl, hj⟩
      rintro v ⟨_, _, hv⟩
      obtain ⟨A, cc, rfl⟩ := Rd.rTup_form hv
      clear hv
      iterate 4
        apply Rd.v_q
        · simp only [List.getElem?_toArray, List.getElem?_cons_zero, List.getElem?_cons_succ]; exact rfl
        · rfl
        · go_simp
        · intro wx hx
          unfold atG
          go_simp
          simp only [uponG]
          exact ⟨by trivial, rfl⟩
      refine Rd.v_sD (fun wx h => Rd.rTup_out h) (Rd.rHolds w fun _ => pBlk gq (dv a r s) 30 :: pInts (.slice A L.length cc) L :: pBlk (w.heap.size + 1) (av p) 22 :: [pBlk w.heap.size (dv n f g) 24]) Rd.rHolds_stable (by simp only [List.getElem?_toArray, List.getElem?_cons_zero, List.getElem?_cons_succ]; exact rfl) rfl (by go_simp) (fun wx hx hD => ?_) ?_
      · have rr := hD.rowOk 1 rfl (dv_size _ _ _)
        go_simp
        simp only [Rd.uponE]
        have h2 : Holds w _ (pInts (.slice A L.length cc) L :: pBlk gq (dv a r s) 30 :: pBlk (w.heap.size + 1) (av p) 22 :: [pBlk w.heap.size (dv n f g) 24]) := hD.setRow 1 rfl (dv a r s)
        exact ⟨h2.tail.tail, h2.perm (List.Perm.swap _ _ _)⟩
      rintro vn -
      iterate 2
        apply Rd.v_q
        · simp only [List.getElem?_toArray, List.getElem?_cons_zero, List.getElem?_cons_succ]; exact rfl
        · rfl
        · go_simp
        · intro wx hx
          unfold atG
          go_simp
          simp only [uponG]
          exact ⟨by trivial, rfl⟩
      rintro w' - hx
      go_simp
      exact key _ _ _ _ hx
  intro g0 A0 k0 w1 H1
  clear HH0
  go_simp
  go_wp2
  apply Rd.region_P2 (w0 := w) (pBlk g0 (dv a r s) 30 :: pInts (.slice A0 L.length k0) L :: pBlk (w.heap.size + 1) (av p) 22 :: [pBlk w.heap.size (dv n f g) 24]) (pBlk g0 (dv a r s) 30 :: pInts (.slice A0 L.length k0) L :: pBlk (w.heap.size + 1) (av p) 22 :: [pBlk w.heap.size (dv n f g) 24]) [4, 9, 10] (.q 0 <| .q 1 <| .q 2 <| .q 3 <| .s2 4 (.q 5 <| .q 6 <| .q 7 <| .q 8 <| .s1 9 <| .s1 10 <| .q 11 <| .q 12 .fin) 9 (.s1 4 <| .q 5 <| .q 6 <| .q 7 <| .q 8 <| .s1 10 <| .q 11 <| .q 12 .fin)) H1 (.refl _) (by kernel_rfl) (by kernel_rfl) (by kernel_rfl) (F := fun gq A c => pBlk gq (dv a r s) 30 :: pInts (.slice A L.length c) L :: pBlk g0 (dv a r s) 30 :: pInts (.slice A0 L.length k0) L :: pBlk (w.heap.size + 1) (av p) 22 :: [pBlk w.heap.size (dv n f g) 24])
  case h =>
    intro K key
    iterate 1
      apply Rd.v_q
      · simp only [List.getElem?_toArray, List.getElem?_cons_zero, List.getElem?_cons_succ]; exact rfl
      · rfl
      · go_simp
      · intro wx hx
        have q1 := hx.cells 3 rfl
        have q2 := hx.cells 2 rfl
        unfold atG
        go_simp
        simp only [uponG]
        exact ⟨by trivial, rfl⟩
    iterate 1
      apply Rd.v_q
      · simp only [List.getElem?_toArray, List.getElem?_cons_zero, List.getElem?_cons_succ]; exact rfl
      · rfl
      · go_simp
      · intro wx hx
        have q1 := hx.cells 3 rfl
        have q2 := hx.cells 2 rfl
        unfold atG
        go_simp
        simp only [uponG]
        exact ⟨by trivial, T0.out wx⟩
    iterate 1
      apply Rd.v_q
      · simp only [List.getElem?_toArray, List.getElem?_cons_zero, List.getElem?_cons_succ]; exact rfl
      · rfl
      · go_simp
      · intro wx hx
        have q1 := hx.cells 3 rfl
        have q2 := hx.cells 2 rfl
        unfold atG
        go_simp
        simp only [uponG]
        exact ⟨by trivial, rfl⟩
    iterate 1
      apply Rd.v_q
      · simp only [List.getElem?_toArray, List.getElem?_cons_zero, List.getElem?_cons_succ]; exact rfl
      · rfl
      · go_simp
      · intro wx hx
        have q1 := hx.cells 3 rfl
        have q2 := hx.cells 2 rfl
        unfold atG
        go_simp
        simp only [uponG]
        exact ⟨by trivial, T1.out wx⟩
    refine ⟨?_, ?_⟩
    · refine Rd.v_sI (Rd.rTup w (dv a r s) L (.int .i64 (c : Nat)) fun A c => pInts (.slice A L.length c) L :: pBlk g0 (dv a r s) 30 :: pInts (.slice A0 L.length k0) L :: pBlk (w.heap.size + 1) (av p) 22 :: [pBlk w.heap.size (dv n f g) 24]) Rd.rTup_stable (by simp only [List.getElem?_toArray, List.getElem?_cons_zero, List.getElem?_cons_succ]; exact rfl) rfl (by go_simp) (fun wx hx hD => ?_) ?_
      · go_simp
        simp only [Rd.uponI_eq, Rd.uponE]
        refine ⟨by trivial, (C1.out wx).mono ?_⟩
        rintro e wy ⟨v, rfl, hb, ho⟩
        obtain ⟨A, cc, rfl, ho2⟩ := own1_form ho
        have hj : Holds w wy (pInts (.slice A L.length cc) L :: pBlk g0 (dv a r s) 30 :: pInts (.slice A0 L.length k0) L :: pBlk (w.heap.size + 1) (av p) 22 :: [pBlk w.heap.size (dv n f g) 24]) := hx.newRow hb ho2
        exact ⟨_, rfl, hx.call hb, A, cc, rfl, hj⟩
      rintro v ⟨_, _, hv⟩
      obtain ⟨A, cc, rfl⟩ := Rd.rTup_form hv
      clear hv
      iterate 4
        apply Rd.v_q
        · simp only [List.getElem?_toArray, List.getElem?_cons_zero, List.getElem?_cons_succ]; exact rfl
        · rfl
        · go_simp
        · intro wx hx
          unfold atG
          go_simp
          simp only [uponG]
          exact ⟨by trivial, rfl⟩
      refine Rd.v_boxD (dv 0 (fun _ => 0) (fun _ => 0)) 30 (fun wx h => Rd.rTup_out h) (by simp only [List.getElem?_toArray, List.getElem?_cons_zero, List.getElem?_cons_succ]; exact rfl) rfl (by go_simp) (fun wx hx hD => by rw [dv_zero]; go_simp) fun gq => ?_
      refine Rd.v_s (Rd.rHolds w fun _ => pBlk gq (dv a r s) 30 :: pInts (.slice A L.length cc) L :: pBlk g0 (dv a r s) 30 :: pInts (.slice A0 L.length k0) L :: pBlk (w.heap.size + 1) (av p) 22 :: [pBlk w.heap.size (dv n f g) 24]) Rd.rHolds_stable (by simp only [List.getElem?_toArray, List.getElem?_cons_zero, List.getElem?_cons_succ]; exact rfl) rfl (by go_simp) (fun wx hx hD => ?_) ?_
      · have rr := hD.rowOk 0 rfl (dv_size _ _ _)
        go_simp
        simp only [Rd.uponE]
        have h2 := hD.setRow 0 rfl (dv a r s)
        exact ⟨h2.tail.tail, h2⟩
      rintro vn -
      iterate 2
        apply Rd.v_q
        · simp only [List.getElem?_toArray, List.getElem?_cons_zero, List.getElem?_cons_succ]; exact rfl
        · rfl
        · go_simp
        · intro wx hx
          unfold atG
          go_simp
          simp only [uponG]
          exact ⟨by trivial, rfl⟩
      rintro w' - hx
      go_simp
      exact key _ _ _ _ hx
    · refine Rd.v_box (dv 0 (fun _ => 0) (fun _ => 0)) 30 (by simp only [List.getElem?_toArray, List.getElem?_cons_zero, List.getElem?_cons_succ]; exact rfl) rfl (by go_simp) (fun wx hx hD => by rw [dv_zero]; go_simp) fun gq => ?_
      refine Rd.v_sI (Rd.rTup w (dv a r s) L (.int .i64 (c : Nat)) fun A c => pInts (.slice A L.length c) L :: pBlk gq (dv 0 (fun _ => 0) (fun _ => 0)) 30 :: pBlk g0 (dv a r s) 30 :: pInts (.slice A0 L.length k0) L :: pBlk (w.heap.size + 1) (av p) 22 :: [pBlk w.heap.size (dv n f g) 24]) Rd.rTup_stable (by simp only [List.getElem?_toArray, List.getElem?_cons_zero, List.getElem?_cons_succ]; exact rfl) rfl (by go_simp) (fun wx hx hD => ?_) ?_
      · go_simp
        simp only [Rd.uponI_eq, Rd.uponE]
        refine ⟨by trivial, (C1.out wx).mono ?_⟩
        rintro e wy ⟨v, rfl, hb, ho⟩
        obtain ⟨A, cc, rfl, ho2⟩ := own1_form ho
        have hj : Holds w wy (pInts (.slice A L.length cc) L :: pBlk gq (dv 0 (fun _ => 0) (fun _ => 0)) 30 :: pBlk g0 (dv a r s) 30 :: pInts (.slice A0 L.length k0) L :: pBlk (w.heap.size + 1) (av p) 22 :: [pBlk w.heap.size (dv n f g) 24]) := hD.newRow hb ho2
        exact ⟨_, rfl, hx.call hb, A, cc, rfl, hj⟩
      rintro v ⟨_, _, hv⟩
      obtain ⟨A, cc, rfl⟩ := Rd.rTup_form hv
      clear hv
      iterate 4
        apply Rd.v_q
        · simp only [List.getElem?_toArray, List.getElem?_cons_zero, List.getElem?_cons_succ]; exact rfl
        · rfl
        · go_simp
        · intro wx hx
          unfold atG
          go_simp
          simp only [uponG]
          exact ⟨by trivial, rfl⟩
      refine Rd.v_sD (fun wx h => Rd.rTup_out h) (Rd.rHolds w fun _ => pBlk gq (dv a r s) 30 :: pInts (.slice A L.length cc) L :: pBlk g0 (dv a r s) 30 :: pInts (.slice A0 L.length k0) L :: pBlk (w.heap.size + 1) (av p) 22 :: [pBlk w.heap.size (dv n f g) 24]) Rd.rHolds_stable (by simp only [List.getElem?_toArray, List.getElem?_cons_zero, List.getElem?_cons_succ]; exact rfl) rfl (by go_simp) (fun wx hx hD => ?_) ?_
      · have rr := hD.rowOk 1 rfl (dv_size _ _ _)
        go_simp
        simp only [Rd.uponE]
        have h2 : Holds w _ (pInts (.slice A L.length cc) L :: pBlk gq (dv a r s) 30 :: pBlk g0 (dv a r s) 30 :: pInts (.slice A0 L.length k0) L :: pBlk (w.heap.size + 1) (av p) 22 :: [pBlk w.heap.size (dv n f g) 24]) := hD.setRow 1 rfl (dv a r s)
        exact ⟨h2.tail.tail, h2.perm (List.Perm.swap _ _ _)⟩
      rintro vn -
      iterate 2
        apply Rd.v_q
        · simp only [List.getElem?_toArray, List.getElem?_cons_zero, List.getElem?_cons_succ]; exact rfl
        · rfl
        · go_simp
        · intro wx hx
          unfold atG
          go_simp
          simp only [uponG]
          exact ⟨by trivial, rfl⟩
      rintro w' - hx
      go_simp
      exact key _ _ _ _ hx
  intro g1 A1 k1 w2 H2
  clear H1
  have x1 := H2.cells 0 rfl
  have x0 := H2.cells 2 rfl
  go_simp
  go_wp2_with fail
  refine (eqDessin_same a r s _).mono ?_
  rintro e w3 ⟨rfl, hb⟩
  have H3 := H2.call hb
  clear hb H2 x1 x0
  go_wp2_with fail
  refine (eqInt64S_same L A1 A0 k1 k0 _ _ (by omega) _ (H3.own1 1 rfl) (H3.own1 3 rfl)).mono ?_
  rintro e w4 ⟨rfl, hb⟩
  have H4 := H3.call hb
  clear hb H3
  go_wp2_with fail
  refine (markInt64S_any L A1 k1 w.heap.size 1 (by omega) (by omega) _ (H4.own1 1 rfl)).mono ?_
  rintro e w5 ⟨rfl, hg5, ho5⟩
  have H5 : Holds w w5 (pBlk g1 (dv a r s) 30 :: pInts (.slice A1 L.length k1) (marks 1 L.length) :: pBlk g0 (dv a r s) 30 :: pInts (.slice A0 L.length k0) L :: pBlk (w.heap.size + 1) (av p) 22 :: [pBlk w.heap.size (dv n f g) 24]) := H4.marked 1 rfl hg5 ho5
  clear hg5 ho5 H4
  go_wp2_with fail
  refine (hd1 L A1 k1 w.heap.size (by omega) _ (H5.own1 1 rfl)).mono ?_
  rintro e w6 ⟨rfl, hb⟩
  have H6 := H5.call hb
  clear hb H5
  go_wp2
  apply Rd.region_P2 (w0 := w) (pBlk g1 (dv a r s) 30 :: pInts (.slice A1 L.length k1) (marks 1 L.length) :: pBlk g0 (dv a r s) 30 :: pInts (.slice A0 L.length k0) L :: pBlk (w.heap.size + 1) (av p) 22 :: [pBlk w.heap.size (dv n f g) 24]) (pBlk g1 (dv a r s) 30 :: pInts (.slice A1 L.length k1) (marks 1 L.length) :: pBlk g0 (dv a r s) 30 :: pInts (.slice A0 L.length k0) L :: pBlk (w.heap.size + 1) (av p) 22 :: [pBlk w.heap.size (dv n f g) 24]) [4, 9, 10] (.q 0 <| .q 1 <| .q 2 <| .q 3 <| .s2 4 (.q 5 <| .q 6 <| .q 7 <| .q 8 <| .s1 9 <| .s1 10 <| .q 11 <| .q 12 .fin) 9 (.s1 4 <| .q 5 <| .q 6 <| .q 7 <| .q 8 <| .s1 10 <| .q 11 <| .q 12 .fin)) H6 (.refl _) (by kernel_rfl) (by kernel_rfl) (by kernel_rfl) (F := fun gq A c => pBlk gq (dv a r s) 30 :: pInts (.slice A L.length c) L :: pBlk g1 (dv a r s) 30 :: pInts (.slice A1 L.length k1) (marks 1 L.length) :: pBlk g0 (dv a r s) 30 :: pInts (.slice A0 L.length k0) L :: pBlk (w.heap.size + 1) (av p) 22 :: [pBlk w.heap.size (dv n f g) 24])
  case h =>
    intro K key
    iterate 1
      apply Rd.v_q
      · simp only [List.getElem?_toArray, List.getElem?_cons_zero, List.getElem?_cons_succ]; exact rfl
      · rfl
      · go_simp
      · intro wx hx
        have q1 := hx.cells 5 rfl
        have q2 := hx.cells 4 rfl
        unfold atG
        go_simp
        simp only [uponG]
        exact ⟨by trivial, rfl⟩
    iterate 1
      apply Rd.v_q
      · simp only [List.getElem?_toArray, List.getElem?_cons_zero, List.getElem?_cons_succ]; exact rfl
      · rfl
      · go_simp
      · intro wx hx
        have q1 := hx.cells 5 rfl
        have q2 := hx.cells 4 rfl
        unfold atG
        go_simp
        simp only [uponG]
        exact ⟨by trivial, T0.out wx⟩
    iterate 1
      apply Rd.v_q
      · simp only [List.getElem?_toArray, List.getElem?_cons_zero, List.getElem?_cons_succ]; exact rfl
      · rfl
      · go_simp
      · intro wx hx
        have q1 := hx.cells 5 rfl
        have q2 := hx.cells 4 rfl
        unfold atG
        go_simp
        simp only [uponG]
        exact ⟨by trivial, rfl⟩
    iterate 1
      apply Rd.v_q
      · simp only [List.getElem?_toArray, List.getElem?_cons_zero, List.getElem?_cons_succ]; exact rfl
      · rfl
      · go_simp
      · intro wx hx
        have q1 := hx.cells 5 rfl
        have q2 := hx.cells 4 rfl
        unfold atG
        go_simp
        simp only [uponG]
        exact ⟨by trivial, T1.out wx⟩
    refine ⟨?_, ?_⟩
    · refine Rd.v_sI (Rd.rTup w (dv a r s) L (.int .i64 (c : Nat)) fun A c => pInts (.slice A L.length c) L :: pBlk g1 (dv a r s) 30 :: pInts (.slice A1 L.length k1) (marks 1 L.length) :: pBlk g0 (dv a r s) 30 :: pInts (.slice A0 L.length k0) L :: pBlk (w.heap.size + 1) (av p) 22 :: [pBlk w.heap.size (dv n f g) 24]) Rd.rTup_stable (by simp only [List.getElem?_toArray, List.getElem?_cons_zero, List.getElem?_cons_succ]; exact rfl) rfl (by go_simp) (fun wx hx hD => ?_) ?_
      · go_simp
        simp only [Rd.uponI_eq, Rd.uponE]
        refine ⟨by trivial, (C1.out wx).mono ?_⟩
        rintro e wy ⟨v, rfl, hb, ho⟩
        obtain ⟨A, cc, rfl, ho2⟩ := own1_form ho
        have hj : Holds w wy (pInts (.slice A L.length cc) L :: pBlk g1 (dv a r s) 30 :: pInts (.slice A1 L.length k1) (marks 1 L.length) :: pBlk g0 (dv a r s) 30 :: pInts (.slice A0 L.length k0) L :: pBlk (w.heap.size + 1) (av p) 22 :: [pBlk w.heap.size (dv n f g) 24]) := hx.newRow hb ho2
        exact ⟨_, rfl, hx.call hb, A, cc, rfl, hj⟩
      rintro v ⟨_, _, hv⟩
      obtain ⟨A, cc, rfl⟩ := Rd.rTup_form hv
      clear hv
      iterate 4
        apply Rd.v_q
        · simp only [List.getElem?_toArray, List.getElem?_cons_zero, List.getElem?_cons_succ]; exact rfl
        · rfl
        · go_simp
        · intro wx hx
          unfold atG
          go_simp
          simp only [uponG]
          exact ⟨by trivial, rfl⟩
      refine Rd.v_boxD (dv 0 (fun _ => 0) (fun _ => 0)) 30 (fun wx h => Rd.rTup_out h) (by simp only [List.getElem?_toArray, List.getElem?_cons_zero, List.getElem?_cons_succ]; exact rfl) rfl (by go_simp) (fun wx hx hD => by rw [dv_zero]; go_simp) fun gq => ?_
      refine Rd.v_s (Rd.rHolds w fun _ => pBlk gq (dv a r s) 30 :: pInts (.slice A L.length cc) L :: pBlk g1 (dv a r s) 30 :: pInts (.slice A1 L.length k1) (marks 1 L.length) :: pBlk g0 (dv a r s) 30 :: pInts (.slice A0 L.length k0) L :: pBlk (w.heap.size + 1) (av p) 22 :: [pBlk w.heap.size (dv n f g) 24]) Rd.rHolds_stable (by simp only [List.getElem?_toArray, List.getElem?_cons_zero, List.getElem?_cons_succ]; exact rfl) rfl (by go_simp) (fun wx hx hD => ?_) ?_
      · have rr := hD.rowOk 0 rfl (dv_size _ _ _)
        go_simp
        simp only [Rd.uponE]
        have h2 := hD.setRow 0 rfl (dv a r s)
        exact ⟨h2.tail.tail, h2⟩
      rintro vn -
      iterate 2
        apply Rd.v_q
        · simp only [List.getElem?_toArray, List.getElem?_cons_zero, List.getElem?_cons_succ]; exact rfl
        · rfl
        · go_simp
        · intro wx hx
          unfold atG
          go_simp
          simp only [uponG]
          exact ⟨by trivial, rfl⟩
      rintro w' - hx
      go_simp
      exact key _ _ _ _ hx
    · refine Rd.v_box (dv 0 (fun _ => 0) (fun _ => 0)) 30 (by simp only [List.getElem?_toArray, List.getElem?_cons_zero, List.getElem?_cons_succ]; exact rfl) rfl (by go_simp) (fun wx hx hD => by rw [dv_zero]; go_simp) fun gq => ?_
      refine Rd.v_sI (Rd.rTup w (dv a r s) L (.int .i64 (c : Nat)) fun A c => pInts (.slice A L.length c) L :: pBlk gq (dv 0 (fun _ => 0) (fun _ => 0)) 30 :: pBlk g1 (dv a r s) 30 :: pInts (.slice A1 L.length k1) (marks 1 L.length) :: pBlk g0 (dv a r s) 30 :: pInts (.slice A0 L.length k0) L :: pBlk (w.heap.size + 1) (av p) 22 :: [pBlk w.heap.size (dv n f g) 24]) Rd.rTup_stable (by simp only [List.getElem?_toArray, List.getElem?_cons_zero, List.getElem?_cons_succ]; exact rfl) rfl (by go_simp) (fun wx hx hD => ?_) ?_
      · go_simp
        simp only [Rd.uponI_eq, Rd.uponE]
        refine ⟨by trivial, (C1.out wx).mono ?_⟩
        rintro e wy ⟨v, rfl, hb, ho⟩
        obtain ⟨A, cc, rfl, ho2⟩ := own1_form ho
        have hj : Holds w wy (pInts (.slice A L.length cc) L :: pBlk gq (dv 0 (fun _ => 0) (fun _ => 0)) 30 :: pBlk g1 (dv a r s) 30 :: pInts (.slice A1 L.length k1) (marks 1 L.length) :: pBlk g0 (dv a r s) 30 :: pInts (.slice A0 L.length k0) L :: pBlk (w.heap.size + 1) (av p) 22 :: [pBlk w.heap.size (dv n f g) 24]) := hD.newRow hb ho2
        exact ⟨_, rfl, hx.call hb, A, cc, rfl, hj⟩
      rintro v ⟨_, _, hv⟩
      obtain ⟨A, cc, rfl⟩ := Rd.rTup_form hv
      clear hv
      iterate 4
        apply Rd.v_q
        · simp only [List.getElem?_toArray, List.getElem?_cons_zero, List.getElem?_cons_succ]; exact rfl
        · rfl
        · go_simp
        · intro wx hx
          unfold atG
          go_simp
          simp only [uponG]
          exact ⟨by trivial, rfl⟩
      refine Rd.v_sD (fun wx h => Rd.rTup_out h) (Rd.rHolds w fun _ => pBlk gq (dv a r s) 30 :: pInts (.slice A L.length cc) L :: pBlk g1 (dv a r s) 30 :: pInts (.slice A1 L.length k1) (marks 1 L.length) :: pBlk g0 (dv a r s) 30 :: pInts (.slice A0 L.length k0) L :: pBlk (w.heap.size + 1) (av p) 22 :: [pBlk w.heap.size (dv n f g) 24]) Rd.rHolds_stable (by simp only [List.getElem?_toArray, List.getElem?_cons_zero, List.getElem?_cons_succ]; exact rfl) rfl (by go_simp) (fun wx hx hD => ?_) ?_
      · have rr := hD.rowOk 1 rfl (dv_size _ _ _)
        go_simp
        simp only [Rd.uponE]
        have h2 : Holds w _ (pInts (.slice A L.length cc) L :: pBlk gq (dv a r s) 30 :: pBlk g1 (dv a r s) 30 :: pInts (.slice A1 L.length k1) (marks 1 L.length) :: pBlk g0 (dv a r s) 30 :: pInts (.slice A0 L.length k0) L :: pBlk (w.heap.size + 1) (av p) 22 :: [pBlk w.heap.size (dv n f g) 24]) := hD.setRow 1 rfl (dv a r s)
        exact ⟨h2.tail.tail, h2.perm (List.Perm.swap _ _ _)⟩
      rintro vn -
      iterate 2
        apply Rd.v_q
        · simp only [List.getElem?_toArray, List.getElem?_cons_zero, List.getElem?_cons_succ]; exact rfl
        · rfl
        · go_simp
        · intro wx hx
          unfold atG
          go_simp
          simp only [uponG]
          exact ⟨by trivial, rfl⟩
      rintro w' - hx
      go_simp
      exact key _ _ _ _ hx
  intro g2 A2 k2 w7 H7
  clear H6
  have x1 := H7.cells 0 rfl
  have x0 := H7.cells 4 rfl
  go_simp
  go_wp2_with fail
  refine (eqDessin_same a r s _).mono ?_
  rintro e w8 ⟨rfl, hb⟩
  have H8 := H7.call hb
  clear hb H7 x1 x0
  go_wp2_with fail
  refine (eqInt64S_same L A2 A0 k2 k0 _ _ (by omega) _ (H8.own1 1 rfl) (H8.own1 5 rfl)).mono ?_
  rintro e w9 ⟨rfl, hb⟩
  have H9 := H8.call hb
  clear hb H8
  go_wp2_with fail
  refine (hd1 L A1 k1 w.heap.size (by omega) _ (H9.own1 3 rfl)).mono ?_
  rintro e w10 ⟨rfl, hb⟩
  have H10 := H9.call hb
  clear hb H9
  go_wp2
  go_ret
  exact ⟨rfl, H10.low⟩
end Go.Proofs.Ytgomfphdgekniaa
