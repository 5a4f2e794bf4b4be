/- impl.namingsByForm: for each form the namings that make it -/
import Derived.Test.YtjhpkibeddnbfaaKeyD
import Derived.Test.YtjhpkibeddnbfaaPlR
import Derived.Test.YtjhpkibeddnbfaaRen
import Derived.Test.YtjhpkibeddnbfaaNam
import Derived.Test.YtjhpkibeddnbfaaCan
import Derived.Test.YtjhpkibeddnbfaaPfr
namespace Go.Proofs.Ytjhpkibeddnbfaa
open Go.RowKit

section
open Classical
/-- the keys so far; what stands under each -/
noncomputable def ksT (key : Nat → Value) : Nat → List Value
  | 0 => []
  | y + 1 => if key y ∈ ksT key y then ksT key y else key y :: ksT key y
noncomputable def lstT (key : Nat → Value) (nm : Nat → Nat → Nat) : Nat → Value → List (Nat → Nat)
  | 0, _ => []
  | y + 1, K => if key y = K then lstT key nm y K ++ [nm y] else lstT key nm y K
noncomputable def MkF (ks : List Value) (val : Value → Value) : Value → Option Value := fun K => if K ∈ ks then some (val K) else none
noncomputable def updV (val : Value → Value) (K v : Value) : Value → Value := fun K' => if K' = K then v else val K'
theorem updV_same (val : Value → Value) (K v : Value) : updV val K v K = v := by unfold updV; rw [if_pos rfl]
theorem updV_ne (val : Value → Value) {K K' : Value} (v : Value) (h : K' ≠ K) : updV val K v K' = val K' := by unfold updV; rw [if_neg h]
theorem ksT_nodup (key : Nat → Value) (y : Nat) : (ksT key y).Nodup := by
  induction y with
  | zero => exact List.nodup_nil
  | succ y ih =>
    rw [ksT]
    split
    · exact ih
    · rename_i h; exact List.nodup_cons.2 ⟨h, ih⟩
theorem ksT_mem (key : Nat → Value) (y : Nat) (K : Value) : K ∈ ksT key y ↔ ∃ x, x < y ∧ key x = K := by
  induction y with
  | zero => simp [ksT]
  | succ y ih =>
    rw [ksT]
    constructor
    · intro h
      by_cases c : key y ∈ ksT key y
      · rw [if_pos c] at h
        obtain ⟨x, hx, e⟩ := ih.1 h
        exact ⟨x, by omega, e⟩
      · rw [if_neg c] at h
        rcases List.mem_cons.1 h with rfl | h
        · exact ⟨y, by omega, rfl⟩
        · obtain ⟨x, hx, e⟩ := ih.1 h
          exact ⟨x, by omega, e⟩
    · rintro ⟨x, hx, e⟩
      by_cases c : key y ∈ ksT key y
      · rw [if_pos c]
        by_cases d : x = y
        · subst d; rw [← e]; exact c
        · exact ih.2 ⟨x, by omega, e⟩
      · rw [if_neg c]
        by_cases d : x = y
        · subst d; subst e; simp
        · exact List.mem_cons_of_mem _ (ih.2 ⟨x, by omega, e⟩)
theorem lstT_none {key : Nat → Value} {nm : Nat → Nat → Nat} {y : Nat} {K : Value} (h : K ∉ ksT key y) : lstT key nm y K = [] := by
  induction y with
  | zero => rfl
  | succ y ih =>
    rw [ksT_mem] at h
    rw [lstT, if_neg (fun e => h ⟨y, by omega, e⟩)]
    exact ih fun c => by
      rw [ksT_mem] at c
      obtain ⟨x, hx, e⟩ := c
      exact h ⟨x, by omega, e⟩
theorem lstT_len (key : Nat → Value) (nm : Nat → Nat → Nat) (y : Nat) (K : Value) : (lstT key nm y K).length ≤ y := by
  induction y with
  | zero => simp [lstT]
  | succ y ih =>
    rw [lstT]
    split
    · rw [List.length_append]; simp only [List.length_cons, List.length_nil]; omega
    · omega
theorem MkF_put_old {ks : List Value} {val : Value → Value} {K v0 v : Value} (h : K ∈ ks) : mput (mput (MkF ks val) K v0) K v = MkF ks (updV val K v) := by
  rw [mput_twice]
  funext x
  unfold mput MkF updV
  by_cases c : x = K
  · subst c; rw [if_pos rfl, if_pos h, if_pos rfl]
  · rw [if_neg c, if_neg c]
theorem MkF_put_new {ks : List Value} {val : Value → Value} {K v0 v : Value} : mput (mput (MkF ks val) K v0) K v = MkF (K :: ks) (updV val K v) := by
  rw [mput_twice]
  funext x
  unfold mput MkF updV
  by_cases c : x = K
  · subst c; simp
  · rw [if_neg c, if_neg c]
    by_cases d : x ∈ ks
    · rw [if_pos d, if_pos (by simp [d])]
    · rw [if_neg d, if_neg (by simp [c, d])]
end
/-- the rows that stand under some keys, a part each -/
def famP (ks : List Value) (val : Value → Value) (lst : Value → List (Nat → Nat)) : List Part := ks.map fun K => pPl (val K) (lst K)
theorem famP_at {ks : List Value} {val : Value → Value} {lst : Value → List (Nat → Nat)} {j : Nat} {K : Value} (h : ks[j]? = some K) : (famP ks val lst)[j]? = some (pPl (val K) (lst K)) := by unfold famP; simp [h]
theorem famP_congr {ks : List Value} {val val' : Value → Value} {lst lst' : Value → List (Nat → Nat)} (h : ∀ K ∈ ks, val K = val' K ∧ lst K = lst' K) : famP ks val lst = famP ks val' lst' := by
  unfold famP
  exact List.map_congr_left fun K hK => by rw [(h K hK).1, (h K hK).2]
theorem famP_set {ks : List Value} (hn : ks.Nodup) {val val' : Value → Value} {lst lst' : Value → List (Nat → Nat)} {j : Nat} {K : Value} (h : ks[j]? = some K) (h1 : ∀ K' ∈ ks, K' ≠ K → val K' = val' K' ∧ lst K' = lst' K') :
    (famP ks val lst).set j (pPl (val' K) (lst' K)) = famP ks val' lst' := by
  apply List.ext_getElem?
  intro i
  rw [List.getElem?_set]
  unfold famP
  obtain ⟨hj, e⟩ := List.getElem?_eq_some_iff.1 h
  by_cases c : j = i
  · subst c
    rw [if_pos rfl, if_pos (by simpa using hj)]
    simp [h]
  · rw [if_neg c, List.getElem?_map, List.getElem?_map]
    rcases e2 : ks[i]? with _ | K'
    · rfl
    · have hne : K' ≠ K := fun e3 => by
        subst e3
        obtain ⟨hi, e4⟩ := List.getElem?_eq_some_iff.1 e2
        rcases Nat.lt_or_gt_of_ne c with d | d
        · exact List.pairwise_iff_getElem.1 hn j i hj hi d (by rw [e, e4])
        · exact List.pairwise_iff_getElem.1 hn i j hi hj d (by rw [e, e4])
      have := h1 K' (List.mem_of_getElem? e2) hne
      simp only [Option.map_some]
      rw [this.1, this.2]
theorem Holds.join {w0 w w' : World} {L A : List Part} (h : Holds w0 w L) (k : Holds w w' A) : Holds w0 w' (A ++ L) := by
  induction A with
  | nil => exact h.call k.low
  | cons a A ih =>
    have h' := ih k.tail
    refine ⟨h'.1, fun b hb => ?_, List.pairwise_cons.2 ⟨fun b hb g hg hg' => ?_, h'.2.2⟩⟩
    · rcases List.mem_cons.1 hb with rfl | hb
      · exact ⟨k.at 0 rfl, fun g hg => Nat.le_trans h.size (k.above 0 rfl hg)⟩
      · exact h'.2.1 b hb
    · rcases List.mem_append.1 hb with hb | hb
      · exact (List.pairwise_cons.1 k.2.2).1 b hb g hg hg'
      · have h1 := b.lt _ _ (h.2.1 b hb).1 hg'
        have h2 := k.above 0 rfl hg
        omega
theorem zeroSlP (w : World) : (zeroValue 25).run Try.prog w = .ok (.slice none 0 0) w := by
  have h : (Try.prog.info? 25).map (·.zero) = some (some (.slice none 0 0)) := by kernel_rfl
  rcases hi : Try.prog.info? 25 with _ | i
  · rw [hi] at h; cases h
  · rw [hi] at h
    have hz : i.zero = some (.slice none 0 0) := by simpa using h
    simp [zeroValue, typeInfo, hi, hz]
/-- the key of the form from a dart -/
def formK (f g : Nat → Nat) (m x : Nat) : Value := .agg (dv m (renF (namF f g m x) f m) (renF (namF f g m x) g m))
theorem isK_form {f g : Nat → Nat} {m x : Nat} (hd : DesN f g m) (hx : x < m) : IsK Try.prog 30 (formK f g m x) := by
  have hp := namF_perm hd hx
  exact isK_des m _ _ hd.le (fun i hi => by have := (renF_perm hp hd.black).lt16 hi; omega) (fun i hi => by have := (renF_perm hp hd.white).lt16 hi; omega)

set_option maxRecDepth 100000 in
set_option maxHeartbeats 2000000 in
theorem namingsByForm_any (f g : Nat → Nat) (m : Nat) (hd : DesN f g m) (w : World) :
    Calls Try.prog 86 #[.agg (dv m f g)] w fun e w' => ∃ G val, e = .returned (.map (some G)) ∧ Holds w w' (pMap Try.prog 30 G (MkF (ksT (formK f g m) m) val) :: famP (ksT (formK f g m) m) val (lstT (formK f g m) (namF f g m) m)) := by
  have hm := hd.le
  have hm256 : (m : Int) < 256 := by omega
  have hn := dv_n m f g
  have C1 := hide fun (x : Nat) (hx : x < m) (w : World) => naming_any f g m hd x hx w
  have C2 := hide fun (x : Nat) (hx : x < m) (w : World) => rename_any f g (namF f g m x) m hd.black hd.white (namF_perm hd hx) w
  have HK := hide fun (x : Nat) (hx : x < m) => isK_form hd hx
  clear hd
  have mk := fun w => run_mk (P := Try.prog) 110 w
  have HH0 := ((Holds.start w).blk (dv m f g) 30 w.heap.size rfl).newMap Try.prog 30 (w.heap.size + 1) (by simp)
  have c0 := HH0.cell 1 rfl hn
  go_enter Try.func86, Try.ntmps86
  go_wp2
  clear mk c0
  go_loopw [11] (fun t wr => ∃ (y : Nat) (val : Value → Value), y ≤ m ∧ t = .int .u8 y ∧ Holds w wr (pMap Try.prog 30 (w.heap.size + 1) (MkF (ksT (formK f g m) y) val) :: pBlk w.heap.size (dv m f g) 30 :: famP (ksT (formK f g m) y) val (lstT (formK f g m) (namF f g m) y))) (fun t _ => m - (intOf t).toNat)
  case atStart => exact ⟨0, fun K => K, by omega, rfl, by
    have e : MkF (ksT (formK f g m) 0) (fun K => K) = fun _ => none := by funext K; unfold MkF; rw [ksT]; simp
    rw [e]; exact HH0⟩
  case round =>
    clear HH0
    obtain ⟨y, val, hy, rfl, hH⟩ := hrel
    by_cases hym : y < m
    · have hym' : (y : Int) < m := by omega
      have c1 := C1.out y hym
      have c2 := C2.out y hym
      have hK := HK.out y hym
      have hkey : formK f g m y = .agg (dv m (renF (namF f g m y) f m) (renF (namF f g m y) g m)) := rfl
      have hks : ksT (formK f g m) (y + 1) = open Classical in (if formK f g m y ∈ ksT (formK f g m) y then ksT (formK f g m) y else formK f g m y :: ksT (formK f g m) y) := rfl
      have hls : ∀ K, lstT (formK f g m) (namF f g m) (y + 1) K = open Classical in (if formK f g m y = K then lstT (formK f g m) (namF f g m) y K ++ [namF f g m y] else lstT (formK f g m) (namF f g m) y K) := fun K => rfl
      have hnd := ksT_nodup (formK f g m) y
      have hno : ∀ K, K ∉ ksT (formK f g m) y → lstT (formK f g m) (namF f g m) y K = [] := fun K => lstT_none
      have hll := fun K => lstT_len (formK f g m) (namF f g m) y K
      generalize hk1 : ksT (formK f g m) (y + 1) = ks1 at *
      generalize hl1 : lstT (formK f g m) (namF f g m) (y + 1) = ls1 at *
      have HK1 := hide hk1; clear hk1
      have HL1 := hide hl1; clear hl1
      generalize ksT (formK f g m) y = ks at *
      generalize lstT (formK f g m) (namF f g m) y = ls at *
      generalize renF (namF f g m y) f m = F1 at *
      generalize renF (namF f g m y) g m = G1 at *
      generalize namF f g m y = p at *
      generalize formK f g m y = K at *
      subst hkey
      have HKS := hide hks; clear hks
      have HLS := hide hls; clear hls
      have HND := hide hnd; clear hnd
      have HNO := hide hno; clear hno
      have HLL := hide hll; clear hll
      have HIK := hide hK; clear hK
      have C3 := hide c1; clear c1
      have C4 := hide c2; clear c2
      have cd := hH.cells 1 rfl
      go_wp2_with fail
      refine (C3.out _).mono ?_
      rintro e w1 ⟨rfl, hb⟩
      have H1 := (hH.call hb).blk (av p) 28 w1.heap.size rfl
      have cd1 := H1.cells 2 rfl
      clear hb cd hH
      go_wp2_with fail
      refine (C4.out _).mono ?_
      rintro e w2 ⟨rfl, hb⟩
      have H2 := ((H1.call hb).blk (dv m F1 G1) 30 w2.heap.size rfl).blk (av p) 28 (w2.heap.size + 1) (by simp)
      have cf := ((H1.call hb).blk (dv m F1 G1) 30 w2.heap.size rfl).cells 0 rfl
      have cp := ((H1.call hb).blk (dv m F1 G1) 30 w2.heap.size rfl).cells 1 rfl
      clear hb cd1 H1
      by_cases hin : (.agg (dv m F1 G1)) ∈ ks
      · obtain ⟨j, hj⟩ := List.getElem?_of_mem hin
        have hM : (MkF ks val (.agg (dv m F1 G1))).getD (.slice none 0 0) = val (.agg (dv m F1 G1)) := by unfold MkF; rw [if_pos hin]; rfl
        have HKS1 : Hid (ks1 = ks) := hide (by rw [HKS.out, if_pos hin])
        have HIN := hide hin; clear hin
        have HM := hide hM; clear hM
        have HJ := hide hj; clear hj
        go_wp2_with (refine mentH (k := .agg (dv m F1 G1)) keyedD rfl _ _ rfl Try.underlying110 zeroSlP H2 3 rfl rfl rfl HIK.out ?_)
        intro w3 s H3 hs3
        rw [HM.out] at H3 ⊢
        clear hs3 cf cp H2
        have hjj : (List.set (pBlk (w2.heap.size + 1) (av p) 28 :: pBlk w2.heap.size (dv m F1 G1) 30 :: pBlk w1.heap.size (av p) 28 :: pMap Try.prog 30 (w.heap.size + 1) (MkF ks val) :: pBlk w.heap.size (dv m f g) 30 :: famP ks val ls) 3 (pMapAt Try.prog 30 (w.heap.size + 1) (mput (MkF ks val) (.agg (dv m F1 G1)) (val (.agg (dv m F1 G1)))) (.agg (dv m F1 G1)) s))[j + 5]? = some (pPl (val (.agg (dv m F1 G1))) (ls (.agg (dv m F1 G1)))) := famP_at HJ.out
        have hlK := HLL.out (.agg (dv m F1 G1))
        go_wp2_with (at_builtin; refine appPl H3 (j + 5) hjj (w2.heap.size + 1) p 28 (H3.at 0 rfl) (by omega) rfl _ _ rfl rfl rfl ?_)
        intro v' w4 H4
        replace H4 : Holds w w4 (pBlk (w2.heap.size + 1) (av p) 28 :: pBlk w2.heap.size (dv m F1 G1) 30 :: pBlk w1.heap.size (av p) 28 :: pMapAt Try.prog 30 (w.heap.size + 1) (mput (MkF ks val) (.agg (dv m F1 G1)) (val (.agg (dv m F1 G1)))) (.agg (dv m F1 G1)) s :: pBlk w.heap.size (dv m f g) 30 :: (famP ks val ls).set j (pPl v' (ls (.agg (dv m F1 G1)) ++ [p]))) := H4
        clear hjj H3
        go_wp2_with (refine estH rfl _ _ _ rfl H4 3 rfl rfl rfl rfl ?_)
        intro w5 H5 hs5
        clear hs5 H4
        have e1 := MkF_put_old (val := val) (v0 := val (.agg (dv m F1 G1))) (v := v') HIN.out
        have e2 : (famP ks val ls).set j (pPl v' (ls (.agg (dv m F1 G1)) ++ [p])) = famP ks (updV val (.agg (dv m F1 G1)) v') ls1 := by
          have := famP_set HND.out HJ.out (val := val) (lst := ls) (val' := updV val (.agg (dv m F1 G1)) v') (lst' := ls1) (fun K' _ hne => ⟨(updV_ne _ _ hne).symm, by rw [HLS.out, if_neg (Ne.symm hne)]⟩)
          rw [updV_same, HLS.out (.agg (dv m F1 G1)), if_pos rfl] at this
          exact this
        replace H5 : Holds w w5 (pBlk (w2.heap.size + 1) (av p) 28 :: pBlk w2.heap.size (dv m F1 G1) 30 :: pBlk w1.heap.size (av p) 28 :: pMap Try.prog 30 (w.heap.size + 1) (mput (mput (MkF ks val) (.agg (dv m F1 G1)) (val (.agg (dv m F1 G1)))) (.agg (dv m F1 G1)) v') :: pBlk w.heap.size (dv m f g) 30 :: (famP ks val ls).set j (pPl v' (ls (.agg (dv m F1 G1)) ++ [p]))) := H5
        rw [e1, e2] at H5
        have H6 := H5.tail.tail.tail
        clear e1 e2 H5
        go_wp2
        go_roundw
        case rel => exact ⟨y + 1, updV val (.agg (dv m F1 G1)) v', by omega, by go_num, by rw [HK1.out, HL1.out, HKS1.out]; exact H6⟩
        case measure => simp [intOf]; omega
      · have hM : (MkF ks val (.agg (dv m F1 G1))).getD (.slice none 0 0) = .slice none 0 0 := by unfold MkF; rw [if_neg hin]; rfl
        have HKS1 : Hid (ks1 = .agg (dv m F1 G1) :: ks) := hide (by rw [HKS.out, if_neg hin])
        have hK0 := HNO.out _ hin
        have HK0 := hide hK0; clear hK0
        have HIN := hide hin; clear hin
        have HM := hide hM; clear hM
        go_wp2_with (refine mentH (k := .agg (dv m F1 G1)) keyedD rfl _ _ rfl Try.underlying110 zeroSlP H2 3 rfl rfl rfl HIK.out ?_)
        intro w3 s H3 hs3
        rw [HM.out] at H3 ⊢
        clear hs3 cf cp H2
        have H3n := H3.nilRow 28 16
        go_wp2_with (at_builtin; refine appPl H3n 0 (l := []) rfl (w2.heap.size + 1) p 28 (H3n.at 1 rfl) (by simp) rfl _ _ rfl rfl rfl ?_)
        intro v' w4 H4
        clear H3 H3n
        replace H4 : Holds w w4 (pPl v' [p] :: pBlk (w2.heap.size + 1) (av p) 28 :: pBlk w2.heap.size (dv m F1 G1) 30 :: pBlk w1.heap.size (av p) 28 :: pMapAt Try.prog 30 (w.heap.size + 1) (mput (MkF ks val) (.agg (dv m F1 G1)) (.slice none 0 0)) (.agg (dv m F1 G1)) s :: pBlk w.heap.size (dv m f g) 30 :: famP ks val ls) := H4
        go_wp2_with (refine estH rfl _ _ _ rfl H4 4 rfl rfl rfl rfl ?_)
        intro w5 H5 hs5
        clear hs5 H4
        have e1 := MkF_put_new (ks := ks) (val := val) (K := .agg (dv m F1 G1)) (v0 := .slice none 0 0) (v := v')
        have e2 : pPl v' [p] :: famP ks val ls = famP (.agg (dv m F1 G1) :: ks) (updV val (.agg (dv m F1 G1)) v') ls1 := by
          have h1 : famP (.agg (dv m F1 G1) :: ks) (updV val (.agg (dv m F1 G1)) v') ls1 = pPl (updV val (.agg (dv m F1 G1)) v' (.agg (dv m F1 G1))) (ls1 (.agg (dv m F1 G1))) :: famP ks (updV val (.agg (dv m F1 G1)) v') ls1 := rfl
          rw [h1, updV_same, HLS.out (.agg (dv m F1 G1)), if_pos rfl, HK0.out]
          congr 1
          refine famP_congr fun K' hK' => ?_
          have hne : K' ≠ .agg (dv m F1 G1) := fun e => HIN.out (e ▸ hK')
          exact ⟨(updV_ne _ _ hne).symm, by rw [HLS.out, if_neg (Ne.symm hne)]⟩
        have H6 : Holds w w5 (pPl v' [p] :: pMap Try.prog 30 (w.heap.size + 1) (mput (mput (MkF ks val) (.agg (dv m F1 G1)) (.slice none 0 0)) (.agg (dv m F1 G1)) v') :: pBlk w.heap.size (dv m f g) 30 :: famP ks val ls) := H5.sub (.cons_cons _ (.cons _ (.cons _ (.cons _ (.refl _)))))
        have H7 := H6.third
        rw [e1, e2] at H7
        clear e1 e2 H5 H6
        go_wp2
        go_roundw
        case rel => exact ⟨y + 1, updV val (.agg (dv m F1 G1)) v', by omega, by go_num, by rw [HK1.out, HL1.out, HKS1.out]; exact H7⟩
        case measure => simp [intOf]; omega
    · obtain rfl : y = m := by omega
      clear hy hym
      go_wp2
      go_ret
      exact ⟨_, val, rfl, hH.sub (.cons_cons _ (.cons _ (.refl _)))⟩
end Go.Proofs.Ytjhpkibeddnbfaa
