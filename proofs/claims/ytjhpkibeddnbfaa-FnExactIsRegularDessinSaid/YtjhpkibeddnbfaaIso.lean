/- impl.isomorphisms, spec.l02All -/
import Derived.Test.YtjhpkibeddnbfaaNbf
import Derived.Test.YtjhpkibeddnbfaaSameD
import Derived.Test.YtjhpkibeddnbfaaSNam
import Derived.Test.YtjhpkibeddnbfaaRegD
namespace Go.Proofs.Ytjhpkibeddnbfaa
open Go.RowKit

/-- from the form of one dessin back by a naming of the other one -/
def isoP (first : Nat → Nat) (k : Nat) (s : Nat → Nat) : Nat → Nat := thenF first (backF s k) k
/-- all isomorphisms -/
noncomputable def isoL (f g : Nat → Nat) (m : Nat) (f' g' : Nat → Nat) (k : Nat) : List (Nat → Nat) := (lstT (formK f' g' k) (namF f' g' k) k (formK f g m 0)).map (isoP (namF f g m 0) k)
theorem isoL_len (f g : Nat → Nat) (m : Nat) (f' g' : Nat → Nat) (k : Nat) : (isoL f g m f' g' k).length ≤ k := by unfold isoL; rw [List.length_map]; exact lstT_len _ _ _ _
theorem upon_appPl {o : Oper} {a : Act} {w0 w : World} {L : List Part} (H : Holds w0 w L) (k : Nat) {v : Value} {l : List (Nat → Nat)} (hk : L[k]? = some (pPl v l))
    (g : Nat) (p : Nat → Nat) (t : TypeId) (hc : w.heap[g]? = some (.cells (av p) t (0, 0))) (hb : l.length ≤ 100000) {C : World → Prop} {R : Value → World → Prop}
    (h : ∀ v' w', Holds w0 w' (L.set k (pPl v' (l ++ [p]))) → C w' ∧ R v' w') (s x : Operand)
    (ho : o.op = .call { callee := .builtin .append, args := #[s, x], argTypes := #[25, 25] })
    (hs : a.eval s = v) (hx : a.eval x = .slice (some ⟨g, 0, none⟩) 1 1) : Rd.uponE Try.prog C R w ((execOp a.eval o).run Try.prog w) := by
  obtain ⟨v', w', h1, h2⟩ := run_appPl H k hk g p t hc hb s x ho hs hx
  rw [h1]
  exact h v' w' h2

set_option maxRecDepth 100000 in
set_option maxHeartbeats 1000000 in
theorem isomorphisms_any (f g : Nat → Nat) (m : Nat) (hd : DesN f g m) (f' g' : Nat → Nat) (k : Nat) (he : DesN f' g' k) (w : World) :
    Calls Try.prog 48 #[.agg (dv m f g), .agg (dv k f' g')] w fun e w' => ∃ v, e = .returned v ∧ Below w.heap.size w w' ∧ w'.ownsRow w.heap.size 28 16 v (isoL f g m f' g' k).length (plB (isoL f g m f' g' k)) := by
  have hm := hd.le
  have hk := he.le
  have hp0 := namF_perm hd hd.pos
  have c1 := fun w => naming_any f g m hd 0 hd.pos w
  simp only [show ((0 : Nat) : Int) = 0 from rfl] at c1
  have C1 := hide c1; clear c1
  have C2 := hide fun w => rename_any f g (namF f g m 0) m hd.black hd.white hp0 w
  have C3 := hide fun w => namingsByForm_any f' g' k he w
  have hK := isK_form hd hd.pos
  have hLS : ∀ s ∈ lstT (formK f' g' k) (namF f' g' k) k (formK f g m 0), PermN s k := by
    have : ∀ y, y ≤ k → ∀ K, ∀ s ∈ lstT (formK f' g' k) (namF f' g' k) y K, PermN s k := by
      intro y
      induction y with
      | zero => intro _ K s hs; simp [lstT] at hs
      | succ y ih =>
        intro hy K s hs
        rw [lstT] at hs
        split at hs
        · rcases List.mem_append.1 hs with h | h
          · exact ih (by omega) K s h
          · simp at h; subst h; exact namF_perm he (by omega)
        · exact ih (by omega) K s hs
    exact this k (Nat.le_refl _) _
  have hiso : isoL f g m f' g' k = (lstT (formK f' g' k) (namF f' g' k) k (formK f g m 0)).map (isoP (namF f g m 0) k) := rfl
  have hll := lstT_len (formK f' g' k) (namF f' g' k) k (formK f g m 0)
  have hno : ∀ K, K ∉ ksT (formK f' g' k) k → lstT (formK f' g' k) (namF f' g' k) k K = [] := fun K => lstT_none
  have hkey : formK f g m 0 = .agg (dv m (renF (namF f g m 0) f m) (renF (namF f g m 0) g m)) := rfl
  have hn' := dv_n k f' g'
  clear hd he
  rw [hiso]
  generalize isoL f g m f' g' k = IL at *
  generalize renF (namF f g m 0) f m = F1 at *
  generalize renF (namF f g m 0) g m = G1 at *
  generalize namF f g m 0 = p at *
  generalize formK f g m 0 = K at *
  subst hkey
  generalize lstT (formK f' g' k) (namF f' g' k) k = LS at *
  generalize ksT (formK f' g' k) k = KS at *
  clear hiso
  have HIK := hide hK; clear hK
  have HNO := hide hno; clear hno
  have HLS := hide hLS; clear hLS
  have HP0 := hide hp0; clear hp0
  have HH0 := ((Holds.start w).blk (dv m f g) 30 w.heap.size rfl).blk (dv k f' g') 30 (w.heap.size + 1) (by simp)
  go_enter Try.func48, Try.ntmps48
  go_wp2_with fail
  refine (C1.out _).mono ?_
  rintro e w1 ⟨rfl, hb⟩
  have HH1 := (HH0.call hb).blk (av p) 28 w1.heap.size rfl
  clear hb HH0
  go_wp2
  generalize w1.alloc (.cells (av p) 28) = wf at *
  generalize w1.heap.size = G3 at *
  refine Rd.region_P (w0 := w) [pBlk G3 (av p) 28, pBlk (w.heap.size + 1) (dv k f' g') 30, pBlk w.heap.size (dv m f g) 30] [pBlk G3 (av p) 28, pBlk (w.heap.size + 1) (dv k f' g') 30, pBlk w.heap.size (dv m f g) 30] [1, 5] (.q 0 <| .q 2 <| .q 3 <| .q 7 <| .s1 1 <| .q 4 <| .s1 5 <| .q 6 .fin) HH1 (.refl _) (by kernel_rfl) (by kernel_rfl) (by kernel_rfl) ?_
  iterate 4
    apply Rd.v_q
    · simp only [List.getElem?_toArray, List.getElem?_cons_zero, List.getElem?_cons_succ]; exact rfl
    · rfl
    · go_simp
    · intro wx hx
      have q1 := hx.cells 0 rfl
      have q2 := hx.cells 1 rfl
      have q3 := hx.cells 2 rfl
      unfold atG
      go_simp
      simp only [uponG]
      exact ⟨by trivial, rfl⟩

  refine Rd.v_s (fun v wx => ∃ G val, v = .map (some G) ∧ Holds w wx (pMap Try.prog 30 G (MkF KS val) :: (famP KS val LS ++ [pBlk G3 (av p) 28, pBlk (w.heap.size + 1) (dv k f' g') 30, pBlk w.heap.size (dv m f g) 30]))) (fun v _ _ ⟨G, val, e, h⟩ hb => ⟨G, val, e, h.call hb⟩) (by simp only [List.getElem?_toArray, List.getElem?_cons_zero, List.getElem?_cons_succ]; exact rfl) rfl (by go_simp) (fun wx hx hD => ?_) ?_
  · go_simp
    simp only [Rd.uponE]
    refine ⟨by trivial, (C3.out wx).mono ?_⟩
    rintro e w' ⟨G, val, rfl, hN⟩
    exact ⟨_, rfl, hx.call hN.low, G, rfl, val, hx.join hN⟩
  rintro v ⟨_, _, G, val0, rfl, _⟩
  iterate 1
    apply Rd.v_q
    · simp only [List.getElem?_toArray, List.getElem?_cons_zero, List.getElem?_cons_succ]; exact rfl
    · rfl
    · go_simp
    · intro wx hx
      have q1 := hx.cells 0 rfl
      have q2 := hx.cells 1 rfl
      have q3 := hx.cells 2 rfl
      unfold atG
      go_simp
      simp only [uponG]
      exact ⟨by trivial, C2.out wx⟩

  refine Rd.v_s (fun u wx => Holds w wx (pPl u (LS (.agg (dv m F1 G1))) :: [pBlk G3 (av p) 28, pBlk (w.heap.size + 1) (dv k f' g') 30, pBlk w.heap.size (dv m f g) 30])) (fun u _ _ h hb => h.call hb) (by simp only [List.getElem?_toArray, List.getElem?_cons_zero, List.getElem?_cons_succ]; exact rfl) rfl (by go_simp) (fun wx hx hD => ?_) ?_
  · obtain ⟨G', val, e, hD⟩ := hD
    simp only [Value.map.injEq, Option.some.injEq] at e
    subst e
    have lk := run_mlook (c := false) keyedD Try.underlying110 zeroSlP (hD.at 0 rfl) HIK.out
    go_simp
    simp only [Rd.uponE]
    refine ⟨hx, ?_⟩
    by_cases hin : (.agg (dv m F1 G1)) ∈ KS
    · have hM : (MkF KS val (.agg (dv m F1 G1))).getD (.slice none 0 0) = val (.agg (dv m F1 G1)) := by unfold MkF; rw [if_pos hin]; rfl
      have hsub : [pPl (val (.agg (dv m F1 G1))) (LS (.agg (dv m F1 G1)))].Sublist (famP KS val LS) := List.singleton_sublist.2 (List.mem_map.2 ⟨_, hin, rfl⟩)
      have := hD.sub (.cons _ (hsub.append (.refl _)))
      rw [hM]
      exact this
    · have hM : (MkF KS val (.agg (dv m F1 G1))).getD (.slice none 0 0) = .slice none 0 0 := by unfold MkF; rw [if_neg hin]; rfl
      have h0 := HNO.out _ hin
      rw [hM, h0]
      exact hx.nilRow 28 16
  rintro u ⟨wy, hy, hu⟩
  obtain ⟨A, c, rfl⟩ := hu.plForm 0 rfl
  clear hu hy wy
  iterate 1
    apply Rd.v_q
    · simp only [List.getElem?_toArray, List.getElem?_cons_zero, List.getElem?_cons_succ]; exact rfl
    · rfl
    · go_simp
    · intro wx hx
      have q1 := hx.cells 0 rfl
      have q2 := hx.cells 1 rfl
      have q3 := hx.cells 2 rfl
      unfold atG
      go_simp
      simp only [uponG]
      exact ⟨by trivial, rfl⟩

  rintro w2 - hx2
  clear HH1
  generalize hLl : LS (.agg (dv m F1 G1)) = L at *
  have HLl := hide hLl; clear hLl
  have HH2 := hx2.nilRow 28 16
  clear hx2
  go_simp
  go_wp2
  go_loopw [6, 18] (fun u t wr => ∃ j : Nat, j ≤ L.length ∧ t = .int .i64 j ∧ Holds w wr (pPl u ((L.take j).map (isoP p k)) :: pPl (.slice A L.length c) L :: [pBlk G3 (av p) 28, pBlk (w.heap.size + 1) (dv k f' g') 30, pBlk w.heap.size (dv m f g) 30])) (fun _ t _ => L.length - (intOf t).toNat)
  case atStart => exact ⟨0, by omega, rfl, HH2⟩
  case round =>
    clear HH2
    obtain ⟨j, hj, rfl, hH⟩ := hrel
    by_cases hjl : j < L.length
    · obtain ⟨g0, c0, e0, hg0, lk⟩ := hH.plAt 1 rfl hjl
      injection e0 with e0 e1 e2
      subst e0
      clear e1 e2 hg0
      have htk : L.take (j + 1) = L.take j ++ [L[j]] := by rw [List.take_add_one, List.getElem?_eq_getElem hjl]; rfl
      have hs := HLS.out _ (List.getElem_mem hjl)
      have htl : ((L.take j).map (isoP p k)).length ≤ 16 := by rw [List.length_map, List.length_take]; omega
      generalize L[j] = s at *
      have HTK := hide htk; clear htk
      have hjl' : (j : Int) < L.length := by omega
      have C5 := hide fun w => undo_any s k hk (fun i hi => hs.lt16 (by omega)) w
      have hp16 := HP0.out
      have C6 := hide fun w => follow_any p (backF s k) k hk (fun i hi => hp16.lt16 (by omega)) w
      have hiso : isoP p k s = thenF p (backF s k) k := rfl
      clear hp16 hs
      generalize isoP p k s = r at *
      rw [← hiso] at C6
      have HISO := hide hiso; clear hiso
      have H1 := hH.blk (av s) 28 wr.heap.size rfl
      generalize hM : (L.take j).map (isoP p k) = M at *
      have HM := hide hM; clear hM
      obtain ⟨A', c', rfl⟩ := hH.plForm 0 rfl
      clear hH
      go_wp2
      clear lk
      generalize wr.alloc (.cells (av s) 28) = wg at *
      generalize wr.heap.size = G4 at *
      refine Rd.region_P (w0 := w) (pBlk G4 (av s) 28 :: pPl (.slice (some ⟨g0, 0, none⟩) L.length c) L :: [pBlk G3 (av p) 28, pBlk (w.heap.size + 1) (dv k f' g') 30, pBlk w.heap.size (dv m f g) 30]) (pBlk G4 (av s) 28 :: pPl (.slice A' M.length c') M :: (pBlk G4 (av s) 28 :: pPl (.slice (some ⟨g0, 0, none⟩) L.length c) L :: [pBlk G3 (av p) 28, pBlk (w.heap.size + 1) (dv k f' g') 30, pBlk w.heap.size (dv m f g) 30]).tail) [9, 10] (.q 0 <| .q 1 <| .q 2 <| .q 3 <| .q 4 <| .q 5 <| .q 6 <| .q 7 <| .q 8 <| .s1 9 <| .s1 10 <| .q 11 .fin) H1 (.cons_cons _ (.cons _ (.refl _))) (by kernel_rfl) (by kernel_rfl) (by kernel_rfl) ?_
      iterate 5
        apply Rd.v_q
        · simp only [List.getElem?_toArray, List.getElem?_cons_zero, List.getElem?_cons_succ]; exact rfl
        · rfl
        · go_simp
        · intro wx hx
          have q0 := hx.cells 0 rfl
          have q1 := hx.cells 2 rfl
          have q2 := hx.cells 3 rfl
          have q3 := hx.cell 3 rfl hn'
          unfold atG
          go_simp
          simp only [uponG]
          exact ⟨by trivial, rfl⟩

      iterate 1
        apply Rd.v_q
        · simp only [List.getElem?_toArray, List.getElem?_cons_zero, List.getElem?_cons_succ]; exact rfl
        · rfl
        · go_simp
        · intro wx hx
          have q0 := hx.cells 0 rfl
          have q1 := hx.cells 2 rfl
          have q2 := hx.cells 3 rfl
          have q3 := hx.cell 3 rfl hn'
          unfold atG
          go_simp
          simp only [uponG]
          exact ⟨by trivial, C5.out wx⟩

      iterate 2
        apply Rd.v_q
        · simp only [List.getElem?_toArray, List.getElem?_cons_zero, List.getElem?_cons_succ]; exact rfl
        · rfl
        · go_simp
        · intro wx hx
          have q0 := hx.cells 0 rfl
          have q1 := hx.cells 2 rfl
          have q2 := hx.cells 3 rfl
          have q3 := hx.cell 3 rfl hn'
          unfold atG
          go_simp
          simp only [uponG]
          exact ⟨by trivial, rfl⟩

      iterate 1
        apply Rd.v_q
        · simp only [List.getElem?_toArray, List.getElem?_cons_zero, List.getElem?_cons_succ]; exact rfl
        · rfl
        · go_simp
        · intro wx hx
          have q0 := hx.cells 0 rfl
          have q1 := hx.cells 2 rfl
          have q2 := hx.cells 3 rfl
          have q3 := hx.cell 3 rfl hn'
          unfold atG
          go_simp
          simp only [uponG]
          exact ⟨by trivial, C6.out wx⟩

      refine Rd.v_build (av r) 28 1 (by simp only [List.getElem?_toArray, List.getElem?_cons_zero, List.getElem?_cons_succ]; exact rfl) rfl (by go_simp) (fun wx hx hD => by go_simp) fun gq => ?_
      refine Rd.v_s (fun u wx => Holds w wx (pPl u (M ++ [r]) :: (pBlk G4 (av s) 28 :: pPl (.slice (some ⟨g0, 0, none⟩) L.length c) L :: [pBlk G3 (av p) 28, pBlk (w.heap.size + 1) (dv k f' g') 30, pBlk w.heap.size (dv m f g) 30]).tail)) (fun u _ _ h hb => h.call hb) (by simp only [List.getElem?_toArray, List.getElem?_cons_zero, List.getElem?_cons_succ]; exact rfl) rfl (by go_simp) (fun wx hx hD => ?_) ?_
      · exact upon_appPl hD 2 rfl gq r 28 (hD.at 0 rfl) (by omega) (fun v' w' h2 => ⟨h2.sub (.cons _ (.cons_cons _ (.cons _ (.refl _)))), h2.sub (.cons _ (.cons _ (.refl _)))⟩) _ _ rfl (by go_simp) (by go_simp)
      rintro v' -
      iterate 1
        apply Rd.v_q
        · simp only [List.getElem?_toArray, List.getElem?_cons_zero, List.getElem?_cons_succ]; exact rfl
        · rfl
        · go_simp
        · intro wx hx
          have q0 := hx.cells 0 rfl
          have q1 := hx.cells 2 rfl
          have q2 := hx.cells 3 rfl
          have q3 := hx.cell 3 rfl hn'
          unfold atG
          go_simp
          simp only [uponG]
          exact ⟨by trivial, rfl⟩

      rintro w6 - hx6
      clear H1
      go_simp
      go_wp2
      go_roundw
      case rel =>
        refine ⟨j + 1, by omega, by go_num, ?_⟩
        rw [HTK.out, List.map_append, HM.out]
        have er : isoP p k s = r := HISO.out.symm
        show Holds w w6 (pPl v' (M ++ [isoP p k s]) :: _)
        rw [er]
        exact hx6
      case measure => simp [intOf]; omega
    · obtain rfl : j = L.length := by omega
      rw [List.take_length] at hH
      clear hj hjl
      go_wp2
      go_ret
      refine ⟨u6, rfl, hH.low, ?_⟩
      rw [HLl.out]
      exact hH.row 0 rfl
end Go.Proofs.Ytjhpkibeddnbfaa
