/- Compositions. -/
import Derived.Test.YtijgcjpngpifnaaAft6
import Derived.Test.YtijgcjpngpifnaaBoth6
import Derived.Test.YtijgcjpngpifnaaMd
namespace Go.Proofs.Ytijgcjpngpifnaa
open Go.RowKit

def rBld (w0 : World) (y : Nat) (L : List Part) : Value → World → Prop := fun v wx => (∃ g, v = .slice (some ⟨g, 0, none⟩) 1 1) ∧ Holds w0 wx (pInts v [y] :: L)
theorem rBld_stable {w0 : World} {y : Nat} {L : List Part} (v : Value) : Stable (rBld w0 y L v) := fun _ _ h hb => ⟨h.1, h.2.call hb⟩
theorem Rd.region_PK {P : Program} {id : Nat} {Q : Exit → Act → World → Prop} {a : Act} {w w0 : World} {l : List Oper} (L : List Part) (L1 : List Part) (sp : List Nat) (p : Plan) (H : Holds w0 w L1) (hL : L.Sublist L1)
    (hm : P.follows .mixedOrders = true)
    (hsel : Region.noSelect l.toArray = true) (hB : planB .any l.toArray sp l.toArray.size p (Array.replicate l.toArray.size false) = true)
    (F : Option Addr → Nat → List Part) (act : Option Addr → Nat → Nat → Option Addr → Nat → Option Addr → Nat → Act)
    (h : ∀ K : Act → World → Prop, (∀ A1 c1 g A2 c2 A3 c3 wx, Holds w0 wx (F A3 c3) → K (act A1 c1 g A2 c2 A3 c3) wx) → Rd.walkV P l.toArray (fun wx => Holds w0 wx L) (fun k => sp.contains k) K p a (fun wx => Holds w0 wx L1))
    (key : ∀ A1 c1 g A2 c2 A3 c3 wx, Holds w0 wx (F A3 c3) → Q .normal (act A1 c1 g A2 c2 A3 c3) wx) : (Code.region id l.toArray true).wp P Q a w :=
  Rd.region_P L L1 sp p H hL hm hsel hB (h (fun a' w' => Q .normal a' w') key)
theorem cmp_fold (g : List Nat) (hg : g.length ≤ 17) : ∀ (pre : List (Nat × Fin 10007)) (acc : List Nat), (pre.foldl (fun r p => addL (timesL r g) (trimN [p.2.val]) 1) acc).length ≤ acc.length + 17 * pre.length
  | [], acc => by simp
  | p :: pre, acc => by
    have h1 := cmp_fold g hg pre (addL (timesL acc g) (trimN [p.2.val]) 1)
    have h2 := addL_len (timesL acc g) (trimN [p.2.val]) 1
    have h3 := timesL_len acc g
    have h4 := trimN_le [p.2.val]
    simp only [List.length_singleton] at h4
    simp only [List.foldl_cons, List.length_cons]
    omega
theorem cmpT_ok {f g : List Nat} (hg : g.length ≤ 17) : ∀ k, Po (cmpT f g k) ∧ Lz (cmpT f g k) ∧ (cmpT f g k).length ≤ 17 * k
  | 0 => ⟨Po.nil, .inl rfl, Nat.le_refl _⟩
  | k + 1 => by
    obtain ⟨_, _, h3⟩ := cmpT_ok (f := f) hg k
    refine ⟨addL_po _ _ _, addL_lz _ _ _, ?_⟩
    have h2 := addL_len (timesL (cmpT f g k) g) (trimN [nth f (f.length - 1 - k)]) 1
    have h4 := timesL_len (cmpT f g k) g
    have h5 := trimN_le [nth f (f.length - 1 - k)]
    simp only [List.length_singleton] at h5
    show (addL (timesL (cmpT f g k) g) (trimN [nth f (f.length - 1 - k)]) 1).length ≤ _
    omega
set_option maxRecDepth 100000 in
set_option maxHeartbeats 2000000 in
theorem sCompose6_any (u gv : Value) (f g : List Nat) (pf : Po f) (lf : f.length ≤ 17) (pg : Po g) (zg : Lz g) (lg : g.length ≤ 17) (w : World) (hu : RdN w u f) (hv : RdN w gv g) :
    Calls Try.prog 56 #[u, gv] w fun e w' => ∃ r, e = .returned r ∧ Holds w w' [pInts r (cmpT f g f.length)] := by
  obtain ⟨A, c, rfl, _⟩ := hu.form
  obtain ⟨B, d, rfl, _⟩ := hv.form
  have HU := hide hu; clear hu
  have HV := hide hv; clear hv
  have PF := hide pf; clear pf
  have PG := hide (And.intro pg zg); clear pg zg
  have OK := hide (cmpT_ok (f := f) lg)
  have CT := hide sTimes6_any
  have CS := hide strim6_any
  have CA := hide sAdd6_any
  have H0 : Holds w (w.alloc (.cells #[] 2)) [pInts (.slice (some ⟨w.heap.size, 0, none⟩) 0 0) (cmpT f g 0)] := (Holds.start w).rowNew #[] 2 1 0 w.heap.size rfl rfl (by decide)
  go_enter Try.func56, Try.ntmps56
  go_wp2
  go_loopw [5, 6] (fun s t wr => ∃ k : Nat, k ≤ f.length ∧ t = .int .i64 ((f.length : Int) - 1 - (k : Int)) ∧ Holds w wr [pInts s (cmpT f g k)]) (fun _ t _ => (intOf t + 1).toNat)
  case atStart => exact ⟨0, Nat.zero_le _, by simp, H0⟩
  case round =>
    clear H0
    obtain ⟨k, hk, rfl, hH⟩ := hrel
    by_cases hlt : k < f.length
    · obtain ⟨q, hq⟩ : ∃ q : Nat, q = f.length - 1 - k := ⟨_, rfl⟩
      have hqi : (f.length : Int) - 1 - (k : Int) = (q : Int) := by omega
      have hql : q < f.length := by omega
      obtain ⟨a, rfl, _, _⟩ := HU.out.at hql
      obtain ⟨t1, t2, t3⟩ := OK.out k
      have hstep : cmpT f g (k + 1) = addL (timesL (cmpT f g k) g) (trimN [nth f q]) 1 := by rw [hq]; rfl
      have hnw : ∀ wx, Below w.heap.size w wx → wx.cell? (a.add q) = some (.int .i64 (nth f q : Nat)) := fun wx hb => by
        obtain ⟨a', e', _, h5⟩ := (HU.out.below hb (Nat.le_refl _)).at hql
        cases e'
        exact h5
      have hy := PF.out.nth q
      obtain ⟨O, oc, rfl⟩ := hH.intsForm 0 rfl
      obtain ⟨T, hT⟩ : ∃ T, T = cmpT f g k := ⟨_, rfl⟩
      rw [← hT] at hstep t1 t2 t3 hH ⊢
      obtain ⟨y, hyy⟩ : ∃ y, y = nth f q := ⟨_, rfl⟩
      rw [← hyy] at hstep hnw hy
      obtain ⟨N, hN⟩ : ∃ N, N = cmpT f g (k + 1) := ⟨_, rfl⟩
      rw [← hN] at hstep
      have HN := hide hN; clear hN hyy hT
      have hp1 := timesL_len T g
      have hp2 := trimN_le [y]
      simp only [List.length_singleton] at hp2
      have c1 := hide fun (wx : World) (h : Holds w wx [pInts (.slice O T.length oc) T]) => CT.out _ _ T g t1 t2 PG.out.1 PG.out.2 (by omega) (by omega) wx (h.intsRd 0 rfl (by omega)) (HV.out.below h.low (Nat.le_refl _))
      have c2 := hide fun (gg : Nat) (wx : World) (h : RdN wx (.slice (some ⟨gg, 0, none⟩) 1 1) [y]) => CS.out (some ⟨gg, 0, none⟩) 1 [y] (by simp) (by simp) wx h
      have c3 := fun (r s : Value) (wx : World) (h : RdN wx r (timesL T g)) (h' : RdN wx s (trimN [y])) => CA.out r s (timesL T g) (trimN [y]) 1 (by decide) (timesL_po _ _) (trimN_po (one_po hy)) (by omega) (by omega) wx h h'
      rw [← hstep] at c3
      replace c3 := hide c3
      have hPl : (timesL T g).length ≤ 1000000 := by omega
      have NWF := hide hnw
      have HQ := hide (And.intro hq hstep)
      have HPL := hide (And.intro hPl (show (trimN [y]).length ≤ 1000000 by omega))
      clear hnw hq hstep t1 t2 t3 hp1 hp2 hPl hy
      generalize timesL T g = TP at *
      generalize trimN [y] = TY at *
      rw [hqi]
      go_wp2
      apply Rd.region_PK (w0 := w) [pInts (.slice O T.length oc) T] [pInts (.slice O T.length oc) T] [2, 7, 8, 9] (.q 0 <| .q 1 <| .q 3 <| .q 4 <| .q 5 <| .q 6 <| .s2 2 (.s1 7 <| .s1 8 <| .s1 9 <| .q 10 .fin) 7 (.s1 2 <| .s1 8 <| .s1 9 <| .q 10 .fin)) hH (.refl _) (by kernel_rfl) (by kernel_rfl) (by kernel_rfl) (F := fun A3 c3 => [pInts (.slice A3 N.length c3) N])
      case h =>
        intro K key
        iterate 6
          apply Rd.v_q
          · simp only [List.getElem?_toArray, List.getElem?_cons_zero, List.getElem?_cons_succ]; exact rfl
          · rfl
          · go_simp
          · intro wx hx
            have q1 := NWF.out wx hx.low
            unfold atG
            go_simp
            simp only [uponG]
            exact ⟨by trivial, rfl⟩
        refine ⟨?_, ?_⟩
        · skip
          refine Rd.v_sJ (rOwnI w TP [pInts (.slice O T.length oc) T]) rOwnI_stable (by simp only [List.getElem?_toArray, List.getElem?_cons_zero, List.getElem?_cons_succ]; exact rfl) rfl (by go_simp) (fun wx hx hD => ?_) ?_
          · go_simp
            simp only [Rd.uponJ_eq, Rd.uponE]
            refine ⟨by trivial, (c1.out wx hx).mono ?_⟩
            rintro e wy ⟨v, rfl, hj⟩
            obtain ⟨A', c', hf'⟩ := hj.intsForm 0 rfl
            exact ⟨_, rfl, hx.call hj.low, ⟨A', c', hf'⟩, hx.joinA hj⟩
          rintro v ⟨_, _, ⟨A1, c1x, rfl⟩, _⟩
          refine Rd.v_s (rBld w y (pInts (.slice A1 TP.length c1x) TP :: [pInts (.slice O T.length oc) T])) rBld_stable (by simp only [List.getElem?_toArray, List.getElem?_cons_zero, List.getElem?_cons_succ]; exact rfl) rfl (by go_simp) (fun wx hx hD => ?_) ?_
          · go_simp
            simp only [Rd.uponE]
            exact ⟨hx.alloc _, ⟨_, rfl⟩, hD.2.rowNew #[.int .i64 (y : Nat)] 2 1 1 _ rfl rfl (by decide)⟩
          rintro v ⟨_, _, ⟨gg, rfl⟩, _⟩
          refine Rd.v_sJ (rOwnI w TY (pInts (.slice (some ⟨gg, 0, none⟩) 1 1) [y] :: pInts (.slice A1 TP.length c1x) TP :: [pInts (.slice O T.length oc) T])) rOwnI_stable (by simp only [List.getElem?_toArray, List.getElem?_cons_zero, List.getElem?_cons_succ]; exact rfl) rfl (by go_simp) (fun wx hx hD => ?_) ?_
          · go_simp
            simp only [Rd.uponJ_eq, Rd.uponE]
            refine ⟨by trivial, (c2.out gg wx (hD.2.intsRd 0 rfl (by simp))).mono ?_⟩
            rintro e wy ⟨v, rfl, hj⟩
            obtain ⟨A', c', hf'⟩ := hj.intsForm 0 rfl
            exact ⟨_, rfl, hx.call hj.low, ⟨A', c', hf'⟩, hD.2.joinA hj⟩
          rintro v ⟨_, _, ⟨A2, c2x, rfl⟩, _⟩
          refine Rd.v_sJ (rOwnI w N []) rOwnI_stable (by simp only [List.getElem?_toArray, List.getElem?_cons_zero, List.getElem?_cons_succ]; exact rfl) rfl (by go_simp) (fun wx hx hD => ?_) ?_
          · go_simp
            simp only [Rd.uponJ_eq, Rd.uponE]
            refine ⟨by trivial, (c3.out _ _ wx (hD.2.intsRd 2 rfl HPL.out.1) (hD.2.intsRd 0 rfl HPL.out.2)).mono ?_⟩
            rintro e wy ⟨v, rfl, hj⟩
            obtain ⟨A', c', hf'⟩ := hj.intsForm 0 rfl
            exact ⟨_, rfl, hx.call hj.low, ⟨A', c', hf'⟩, (hD.2.joinA hj).sub (List.cons_sublist_cons.2 (List.nil_sublist _))⟩
          rintro v ⟨_, _, ⟨A3, c3x, rfl⟩, _⟩
          iterate 1
            apply Rd.v_q
            · simp only [List.getElem?_toArray, List.getElem?_cons_zero, List.getElem?_cons_succ]; exact rfl
            · rfl
            · go_simp
            · intro wx hx
              skip
              unfold atG
              go_simp
              simp only [uponG]
              exact ⟨by trivial, rfl⟩
          rintro w' - ⟨_, hx⟩
          go_simp
          exact key A1 c1x gg A2 c2x A3 c3x w' hx
        · skip
          refine Rd.v_s (rBld w y ([pInts (.slice O T.length oc) T])) rBld_stable (by simp only [List.getElem?_toArray, List.getElem?_cons_zero, List.getElem?_cons_succ]; exact rfl) rfl (by go_simp) (fun wx hx hD => ?_) ?_
          · go_simp
            simp only [Rd.uponE]
            exact ⟨hx.alloc _, ⟨_, rfl⟩, hx.rowNew #[.int .i64 (y : Nat)] 2 1 1 _ rfl rfl (by decide)⟩
          rintro v ⟨_, _, ⟨gg, rfl⟩, _⟩
          refine Rd.v_sJ (rOwnI w TP (pInts (.slice (some ⟨gg, 0, none⟩) 1 1) [y] :: [pInts (.slice O T.length oc) T])) rOwnI_stable (by simp only [List.getElem?_toArray, List.getElem?_cons_zero, List.getElem?_cons_succ]; exact rfl) rfl (by go_simp) (fun wx hx hD => ?_) ?_
          · go_simp
            simp only [Rd.uponJ_eq, Rd.uponE]
            refine ⟨by trivial, (c1.out wx hx).mono ?_⟩
            rintro e wy ⟨v, rfl, hj⟩
            obtain ⟨A', c', hf'⟩ := hj.intsForm 0 rfl
            exact ⟨_, rfl, hx.call hj.low, ⟨A', c', hf'⟩, hD.2.joinA hj⟩
          rintro v ⟨_, _, ⟨A1, c1x, rfl⟩, _⟩
          refine Rd.v_sJ (rOwnI w TY (pInts (.slice A1 TP.length c1x) TP :: pInts (.slice (some ⟨gg, 0, none⟩) 1 1) [y] :: [pInts (.slice O T.length oc) T])) rOwnI_stable (by simp only [List.getElem?_toArray, List.getElem?_cons_zero, List.getElem?_cons_succ]; exact rfl) rfl (by go_simp) (fun wx hx hD => ?_) ?_
          · go_simp
            simp only [Rd.uponJ_eq, Rd.uponE]
            refine ⟨by trivial, (c2.out gg wx (hD.2.intsRd 1 rfl (by simp))).mono ?_⟩
            rintro e wy ⟨v, rfl, hj⟩
            obtain ⟨A', c', hf'⟩ := hj.intsForm 0 rfl
            exact ⟨_, rfl, hx.call hj.low, ⟨A', c', hf'⟩, hD.2.joinA hj⟩
          rintro v ⟨_, _, ⟨A2, c2x, rfl⟩, _⟩
          refine Rd.v_sJ (rOwnI w N []) rOwnI_stable (by simp only [List.getElem?_toArray, List.getElem?_cons_zero, List.getElem?_cons_succ]; exact rfl) rfl (by go_simp) (fun wx hx hD => ?_) ?_
          · go_simp
            simp only [Rd.uponJ_eq, Rd.uponE]
            refine ⟨by trivial, (c3.out _ _ wx (hD.2.intsRd 1 rfl HPL.out.1) (hD.2.intsRd 0 rfl HPL.out.2)).mono ?_⟩
            rintro e wy ⟨v, rfl, hj⟩
            obtain ⟨A', c', hf'⟩ := hj.intsForm 0 rfl
            exact ⟨_, rfl, hx.call hj.low, ⟨A', c', hf'⟩, (hD.2.joinA hj).sub (List.cons_sublist_cons.2 (List.nil_sublist _))⟩
          rintro v ⟨_, _, ⟨A3, c3x, rfl⟩, _⟩
          iterate 1
            apply Rd.v_q
            · simp only [List.getElem?_toArray, List.getElem?_cons_zero, List.getElem?_cons_succ]; exact rfl
            · rfl
            · go_simp
            · intro wx hx
              skip
              unfold atG
              go_simp
              simp only [uponG]
              exact ⟨by trivial, rfl⟩
          rintro w' - ⟨_, hx⟩
          go_simp
          exact key A1 c1x gg A2 c2x A3 c3x w' hx
      intro A1 c1x gg A2 c2x A3 c3x w4 H4
      go_simp
      have h5 : Holds w w4 [pInts (.slice A3 N.length c3x) (cmpT f g (k + 1))] := by rw [← HN.out]; exact H4
      have H5 := hide h5; clear h5 H4 hH
      go_wp2
      go_roundw
      case rel => exact ⟨k + 1, by omega, by go_num, H5.out⟩
      case measure => simp [intOf]
    · obtain rfl : k = f.length := by omega
      have e1 : (f.length : Int) - 1 - (f.length : Int) = -1 := by omega
      rw [e1]
      clear e1 hlt hk
      go_wp2
      go_ret
      exact ⟨_, rfl, hH⟩
end Go.Proofs.Ytijgcjpngpifnaa
