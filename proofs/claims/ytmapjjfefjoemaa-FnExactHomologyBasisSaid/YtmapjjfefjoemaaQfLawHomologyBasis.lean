/- Texts put together: Flk, Cyo, Cat, Boc, Slc, Trio, Two, Cyq, Spt, Trp, Trs -/
import Derived.Test.YtmapjjfefjoemaaQeLawHomologyBasis
import Derived.Test.YtmapjjfefjoemaaChecked
import Derived.WalkKit
import Derived.WalkSpells
import Derived.WalkLawsBesides
import Derived.Deep.LoopGhost
import Derived.Deep.OwnRows
import Derived.Laws.Rows
import Derived.Laws.Tables
import Derived.Laws.CopyOwn
import Derived.ProofKit
import Derived.OpenShut
import Derived.ShutString
import Derived.ChangeOld
import Derived.Below
import Derived.Laws.OwnMore
import Derived.BigQuiet
import Derived.Deep.QuietTactic
import Derived.OwnWalk
import Derived.ChangeSlices
import Derived.RegionTactic
import Derived.Deep.Quiet
import Derived.StillTail
import Derived.Deep.Slices
import Derived.WideShapes
import Derived.Laws.CopyRow
import Derived.Deep.MidRow
import Derived.Deep.RegionWith
import Derived.ChangeKeysEq
import Derived.StillTailTactics
import Derived.Deep.RegionHeld3
import Derived.Laws.Cover3
import Derived.IntWalk
import Derived.Laws.StructEq
import Derived.DataElems
namespace Go.Proofs.Ytmapjjfefjoemaa
open Go.RowKit

/-- what is told of the darts that the first k darts are led to -/
def fup9 (b : Nat → Nat) (m : Nat) (e : Nat → Nat) (k : Nat) : Nat → Nat := fun y => if y < m ∧ b y < k then e y else 0
theorem lk9_two (e0 e1 : Nat → Nat) (y a b : Nat) : fset (fset (lk9 e0 e1) (y * 2) a) (y * 2 + 1) b = lk9 (fset e0 y a) (fset e1 y b) := by
  funext i
  simp only [fset, lk9]
  by_cases h1 : i = y * 2 + 1
  · subst h1
    rw [if_pos rfl, if_neg (by omega), if_pos (by omega)]
  · rw [if_neg h1]
    by_cases h0 : i = y * 2
    · subst h0
      rw [if_pos rfl, if_pos (by omega), if_pos (by omega)]
    · rw [if_neg h0]
      by_cases h2 : i % 2 = 0
      · rw [if_pos h2, if_pos h2, if_neg (by omega)]
      · rw [if_neg h2, if_neg h2, if_neg (by omega)]
theorem fup9_step {f b : Nat → Nat} {m k : Nat} (hb : ∀ x, x < m → b (f x) = x) (hs : ∀ y, y < m → f (b y) = y) (hf : ∀ x, x < m → f x < m) (e : Nat → Nat) (hk : k < m) : fset (fup9 b m e k) (f k) (e (f k)) = fup9 b m e (k + 1) := by
  funext y
  simp only [fset, fup9]
  by_cases h : y = f k
  · subst h; rw [if_pos rfl, if_pos ⟨hf k hk, by rw [hb k hk]; omega⟩]
  · rw [if_neg h]
    by_cases c : y < m ∧ b y < k
    · rw [if_pos c, if_pos ⟨c.1, by omega⟩]
    · rw [if_neg c, if_neg]
      rintro ⟨c1, c2⟩
      have : b y = k := by
        have : ¬ b y < k := fun c3 => c ⟨c1, c3⟩
        omega
      exact h (by rw [← this, hs y c1])
/-- the faces of the edges -/
def fb9 (f g : Nat → Nat) (m : Nat) : Nat → Nat := upto (whichF (faceF f g m) m) m
def fw9 (f g : Nat → Nat) (m : Nat) : Nat → Nat := upto (fun y => whichF (faceF f g m) m (backF f m y)) m
theorem fup9_end {b : Nat → Nat} {m : Nat} (hb : ∀ y, y < m → b y < m) (e : Nat → Nat) : fup9 b m e m = upto e m := by
  funext y
  unfold fup9 upto
  by_cases h : y < m
  · rw [if_pos ⟨h, hb y h⟩, if_pos h]
  · rw [if_neg (fun c => h c.1), if_neg h]
theorem backF_facts {f : Nat → Nat} {m : Nat} (h : PermN f m) : (∀ x, x < m → backF f m (f x) = x) ∧ (∀ y, y < m → f (backF f m y) = y) ∧ ∀ y, y < m → backF f m y < m := by
  have hp := backF_perm h
  have h1 : ∀ x, x < m → backF f m (f x) = x := fun x hx => backF_at h.2.2.1 hx
  refine ⟨h1, fun y hy => ?_, fun y hy => hp.2.2.1.1 y hy⟩
  have hb := hp.2.2.1.1 y hy
  exact hp.2.2.1.2 _ _ (h.2.2.1.1 _ hb) hy (h1 _ hb)
theorem fl9_lt {f g : Nat → Nat} {m : Nat} (hd : DesN f g m) (x : Nat) (_ : x < 16) : fb9 f g m x < 32 ∧ fw9 f g m x < 32 := by
  have hF := hd.face
  unfold fb9 fw9 upto
  constructor
  · split
    · rename_i h; have := which_lt9 hF h; omega
    · omega
  · split
    · rename_i h; have := which_lt9 hF ((backF_facts hd.black).2.2 x h); show whichF (faceF f g m) m (backF f m x) < 32; omega
    · omega
set_option maxRecDepth 100000 in
set_option maxHeartbeats 2000000 in
theorem faceLinks_any (f g : Nat → Nat) (m : Nat) (hd : DesN f g m) (w : World) :
    Calls Try.prog 111 #[.agg (dv m f g)] w fun e w' => e = .returned (.agg (nv9 (lk9 (fb9 f g m) (fw9 f g m)))) ∧ Below w.heap.size w w' := by
  have hF := hd.face
  have CF := hide fun w => face_any f g m hd.le hd.bf.1 hd.bg.1 w
  have CB := hide fun w => cycleNumbers_any (faceF f g m) m hF w
  have LB := hide fun x (hx : x < m) => which_lt9 hF hx
  obtain ⟨k1, k2, k3⟩ := backF_facts hd.black
  have hm := hd.le
  have hn := dv_n m f g
  have HFL := hide hd.bf.1
  have HST := hide fun (e : Nat → Nat) (k : Nat) (hk : k < m) => fup9_step k1 k2 hd.bf.1 e hk
  have HB1 := hide k1
  unfold fb9 fw9
  have HEND := hide fun e => fup9_end k3 e
  rw [← HEND.out, ← HEND.out]
  clear hd hF k1 k2 k3 HEND
  generalize whichF (faceF f g m) m = hb at *
  generalize faceF f g m = Fc at *
  generalize backF f m = b at *
  have HH0 := (((Holds.start w).blk (dv m f g) 31 w.heap.size rfl).blk (nv9 fun _ => 0) 118 (w.heap.size + 1) (by simp)).blk (nv9 fun _ => 0) 118 (w.heap.size + 1 + 1) (by simp)
  go_enter Try.func111, Try.ntmps111
  go_wp2
  rw [nv9_zero] at HH0
  rw [← nv9_zero] at HH0 ⊢
  apply Rd.region_R1 (w0 := w) [pBlk (w.heap.size + 1 + 1) (nv9 fun _ => 0) 118, pBlk (w.heap.size + 1) (nv9 fun _ => 0) 118, pBlk w.heap.size (dv m f g) 31] [pBlk (w.heap.size + 1 + 1) (nv9 fun _ => 0) 118, pBlk (w.heap.size + 1) (nv9 fun _ => 0) 118, pBlk w.heap.size (dv m f g) 31] [5, 6] (.q 0 <| .q 1 <| .q 2 <| .q 3 <| .q 4 <| .s1 5 <| .s1 6 .fin) HH0 (.refl _) (by kernel_rfl) (by kernel_rfl) (by kernel_rfl) (F := fun (g4 : Nat) => pBlk g4 (zv hb) 112 :: [pBlk (w.heap.size + 1 + 1) (nv9 fun _ => 0) 118, pBlk (w.heap.size + 1) (nv9 fun _ => 0) 118, pBlk w.heap.size (dv m f g) 31])
  case h =>
    intro K key
    iterate 1
      apply Rd.v_q
      · simp only [List.getElem?_toArray, List.getElem?_cons_zero, List.getElem?_cons_succ]; exact rfl
      · rfl
      · go_simp
      · intro wx hx
        have q1 := hx.cells 2 rfl
        have q2 := hx.cell 2 rfl hn
        unfold atG
        go_simp
        simp only [uponG]
        exact ⟨by trivial, rfl⟩
    iterate 1
      apply Rd.v_q
      · simp only [List.getElem?_toArray, List.getElem?_cons_zero, List.getElem?_cons_succ]; exact rfl
      · rfl
      · go_simp
      · intro wx hx
        have q1 := hx.cells 2 rfl
        have q2 := hx.cell 2 rfl hn
        unfold atG
        go_simp
        simp only [uponG]
        exact ⟨by trivial, CF.out wx⟩
    iterate 2
      apply Rd.v_q
      · simp only [List.getElem?_toArray, List.getElem?_cons_zero, List.getElem?_cons_succ]; exact rfl
      · rfl
      · go_simp
      · intro wx hx
        have q1 := hx.cells 2 rfl
        have q2 := hx.cell 2 rfl hn
        unfold atG
        go_simp
        simp only [uponG]
        exact ⟨by trivial, rfl⟩
    iterate 1
      apply Rd.v_q
      · simp only [List.getElem?_toArray, List.getElem?_cons_zero, List.getElem?_cons_succ]; exact rfl
      · rfl
      · go_simp
      · intro wx hx
        have q1 := hx.cells 2 rfl
        have q2 := hx.cell 2 rfl hn
        unfold atG
        go_simp
        simp only [uponG]
        exact ⟨by trivial, CB.out wx⟩
    refine Rd.v_box (zv fun _ => 0) 112 (by simp only [List.getElem?_toArray, List.getElem?_cons_zero, List.getElem?_cons_succ]; exact rfl) rfl (by go_simp) (fun wx hx hD => by rw [zv_zero]; go_simp) fun g4 => ?_
    refine Rd.v_put 0 g4 (zv fun _ => 0) (zv hb) 112 rfl (.cons _ (.refl _)) (by simp only [List.getElem?_toArray, List.getElem?_cons_zero, List.getElem?_cons_succ]; exact rfl) rfl (by go_simp) (fun wx hx hD => ?_) ?_
    · have rr := hD.rowOk (n := 16) 0 rfl (zv_size _)
      go_simp
    rintro wz - hz
    go_simp
    exact key _ _ hz
  intro g4 w2 H2
  clear HH0
  have c2 := H2.cell 3 rfl hn
  have HZ : Hid (nv9 (fun _ => 0) = nv9 (lk9 (fup9 b m hb 0) (fup9 b m (fun y => hb (b y)) 0))) := hide (by
    congr 1; funext i; unfold lk9 fup9; simp)
  go_wp2
  clear c2
  go_loopw [14] (fun t wr => ∃ k : Nat, k ≤ m ∧ t = .int .i64 k ∧ Holds w wr [pBlk g4 (zv hb) 112, pBlk (w.heap.size + 1 + 1) (nv9 (lk9 (fup9 b m hb k) (fup9 b m (fun y => hb (b y)) k))) 118, pBlk (w.heap.size + 1) (nv9 fun _ => 0) 118, pBlk w.heap.size (dv m f g) 31]) (fun t _ => m - (intOf t).toNat)
  case atStart => exact ⟨0, Nat.zero_le _, rfl, by rw [← HZ.out]; exact H2⟩
  case round =>
    clear H2 HZ
    obtain ⟨k, hk, rfl, hH⟩ := hrel
    by_cases hlt : k < m
    · have hki : (k : Int) < m := by omega
      have hk16 : k < 16 := by omega
      have hk16i : (k : Int) < 16 := by omega
      have hfk := HFL.out k hlt
      have hf16 : f k < 16 := by omega
      have hf16i : ((f k : Nat) : Int) < 16 := by omega
      have s0 := HST.out hb k hlt
      have s1 := HST.out (fun y => hb (b y)) k hlt
      simp only [HB1.out k hlt] at s1
      have b0 := hH.cell 3 rfl (dv_b (m : Int) f g hk16)
      have HSS := hide (And.intro s0 s1); clear s0 s1
      generalize f k = y at *
      go_wp2
      clear b0
      refine region_tail (fun wx => Holds w wx _) 8 (by kernel_rfl) (by kernel_rfl) hH.drew ?_
      simp only [List.take_succ_cons, List.take_zero, List.drop_succ_cons, List.drop_zero]
      iterate 8
        apply q_step
        · go_simp
        · intro wx hx
          have q1 := hx.cell 0 rfl (zv_get hb hk16)
          have q2 := hx.cell 0 rfl (zv_get hb hf16)
          go_simp
          try exact rfl
      refine wpQuiet_nil ?_
      intro w4 H4
      have c0 := H4.cell 1 rfl (nv9_get _ (show y * 2 < 32 by omega))
      have c1 := H4.cell 1 rfl (nv9_get _ (show y * 2 + 1 < 32 by omega))
      have f0 := H4.frozen 1 rfl (y * 2)
      have f1 := H4.frozen 1 rfl (y * 2 + 1)
      have H5 := H4.set 1 rfl (y * 2) (.int .i64 (hb y : Nat))
      have H6 := H5.set 1 rfl (y * 2 + 1) (.int .i64 (hb k : Nat))
      simp only [List.set_cons_succ, List.set_cons_zero] at H6
      rw [nv9_set, nv9_set, lk9_two, HSS.out.1, HSS.out.2] at H6
      have HQ := hide H6; clear H4 H5 H6
      go_wp2
      go_roundw
      case rel => exact ⟨k + 1, by omega, by go_num, HQ.out⟩
      case measure => simp [intOf]; omega
    · obtain rfl : m = k := by omega
      have cc := hH.cells 1 rfl
      have rr := hH.rowOk 2 rfl (nv9_size _)
      have HQ := hide hH
      clear hk hlt hH
      go_wp2
      have H2 := HQ.out.setRow 2 rfl (nv9 (lk9 (fup9 b m hb m) (fup9 b m (fun y => hb (b y)) m)))
      exact res_agg (p := 2) (g := (w.heap.size + 1)) aggL9 (nv9_size _) rfl rfl rfl (H2.at 2 rfl) ⟨rfl, H2.low⟩
end Go.Proofs.Ytmapjjfefjoemaa

namespace Go.Proofs.Ytmapjjfefjoemaa
open Go.RowKit

section
variable {e0 e1 : Nat → Nat}
/-- connected by some edges -/
def K9 (e0 e1 : Nat → Nat) (L : List Nat) (p q : Nat) : Prop := pcs9 e0 e1 L p = pcs9 e0 e1 L q
theorem K9.refl (L : List Nat) (p : Nat) : K9 e0 e1 L p p := rfl
theorem K9.symm {L : List Nat} {p q : Nat} (h : K9 e0 e1 L p q) : K9 e0 e1 L q p := Eq.symm h
theorem K9.trans {L : List Nat} {p q r : Nat} (h : K9 e0 e1 L p q) (k : K9 e0 e1 L q r) : K9 e0 e1 L p r := Eq.trans h k
theorem K9_snoc {L : List Nat} {b p q : Nat} : K9 e0 e1 (L ++ [b]) p q ↔ K9 e0 e1 L p q ∨ (K9 e0 e1 L p (e0 b) ∧ K9 e0 e1 L q (e1 b)) ∨ (K9 e0 e1 L p (e1 b) ∧ K9 e0 e1 L q (e0 b)) := by
  unfold K9
  rw [pcs9_snoc]
  unfold pst9
  generalize pcs9 e0 e1 L = h
  by_cases hp : h p = h (e1 b) <;> by_cases hq : h q = h (e1 b) <;> simp only [hp, hq, if_true, if_false] <;> grind
theorem K9_edge {L : List Nat} {x : Nat} (h : x ∈ L) : K9 e0 e1 L (e0 x) (e1 x) := by
  induction L using snocInd9 with
  | h0 => cases h
  | hs l b ih =>
    rw [K9_snoc]
    rcases List.mem_append.1 h with h | h
    · exact .inl (ih h)
    · obtain rfl : x = b := by simpa using h
      exact .inr (.inl ⟨K9.refl _ _, K9.refl _ _⟩)
theorem K9_least {L : List Nat} {R : Nat → Nat → Prop} (r : ∀ p, R p p) (s : ∀ {p q}, R p q → R q p) (t : ∀ {p q u}, R p q → R q u → R p u) (h : ∀ x ∈ L, R (e0 x) (e1 x)) {p q : Nat} (k : K9 e0 e1 L p q) : R p q := by
  induction L using snocInd9 generalizing p q with
  | h0 => have e : p = q := k; rw [e]; exact r _
  | hs l b ih =>
    have ih' := fun {p q} => ih (fun x hx => h x (List.mem_append_left _ hx)) (p := p) (q := q)
    have hb := h b (by simp)
    rcases K9_snoc.1 k with k | ⟨k1, k2⟩ | ⟨k1, k2⟩
    · exact ih' k
    · exact t (ih' k1) (t hb (s (ih' k2)))
    · exact t (ih' k1) (t (s hb) (s (ih' k2)))
theorem K9_mono {L L' : List Nat} (h : ∀ x ∈ L, x ∈ L') {p q : Nat} (k : K9 e0 e1 L p q) : K9 e0 e1 L' p q :=
  K9_least (fun _ => K9.refl _ _) K9.symm K9.trans (fun x hx => K9_edge (h x hx)) k
/-- each edge connects two pieces of those before -/
def Frst9 (e0 e1 : Nat → Nat) (L : List Nat) : Prop := ∀ A b, (∃ B, L = A ++ b :: B) → ¬ K9 e0 e1 A (e0 b) (e1 b)
theorem Frst9.init {L : List Nat} {b : Nat} (h : Frst9 e0 e1 (L ++ [b])) : Frst9 e0 e1 L := fun A x ⟨B, e⟩ => h A x ⟨B ++ [b], by rw [e]; simp⟩
theorem Frst9.last {L : List Nat} {b : Nat} (h : Frst9 e0 e1 (L ++ [b])) : ¬ K9 e0 e1 L (e0 b) (e1 b) := h L b ⟨[], rfl⟩
theorem Frst9.snoc {L : List Nat} {b : Nat} (h : Frst9 e0 e1 L) (hb : ¬ K9 e0 e1 L (e0 b) (e1 b)) : Frst9 e0 e1 (L ++ [b]) := by
  rintro A x ⟨B, e⟩
  rcases List.eq_nil_or_concat B with rfl | ⟨B', c, rfl⟩
  · have := List.append_inj' e (by simp)
    obtain ⟨rfl, h2⟩ := this
    injection h2 with h2
    subst h2
    exact hb
  · rw [List.concat_eq_append, ← List.cons_append, ← List.append_assoc] at e
    have := List.append_inj' e (by simp)
    exact h A x ⟨B', this.1⟩
theorem spl9_frst (l : List Nat) : Frst9 e0 e1 (spl9 e0 e1 l).1 := by
  induction l using snocInd9 with
  | h0 => rintro A b ⟨B, e⟩; simp [spl9] at e
  | hs l x ih =>
    rw [spl9_snoc]; unfold spst9
    split
    · exact ih
    · rename_i h; exact ih.snoc h
/-- the edges but one -/
def rst9 (L : List Nat) (y : Nat) : List Nat := L.filter fun z => decide (z ≠ y)
theorem mem_rst9 {L : List Nat} {y z : Nat} : z ∈ rst9 L y ↔ z ∈ L ∧ z ≠ y := by unfold rst9; simp
theorem acyclic9 {L : List Nat} (h : Frst9 e0 e1 L) (hn : L.Nodup) : ∀ y ∈ L, ¬ K9 e0 e1 (rst9 L y) (e0 y) (e1 y) := by
  induction L using snocInd9 with
  | h0 => intro y hy; cases hy
  | hs l b ih =>
    have hn' : l.Nodup := (List.nodup_append.1 hn).1
    have hb : b ∉ l := fun hb => by
      have := (List.nodup_append.1 hn).2.2 b hb b (by simp)
      exact this rfl
    intro y hy k
    by_cases e : y = b
    · subst e
      exact h.last (K9_mono (fun x hx => by have := mem_rst9.1 hx; simp at this; rcases this with ⟨h1 | h1, h2⟩; exact h1; exact absurd h1 h2) k)
    · have hyl : y ∈ l := by simpa [e] using hy
      have er : rst9 (l ++ [b]) y = rst9 l y ++ [b] := by unfold rst9; rw [List.filter_append]; simp [Ne.symm e]
      rw [er, K9_snoc] at k
      have up : ∀ {p q}, K9 e0 e1 (rst9 l y) p q → K9 e0 e1 l p q := fun k => K9_mono (fun x hx => (mem_rst9.1 hx).1) k
      rcases k with k | ⟨k1, k2⟩ | ⟨k1, k2⟩
      · exact ih h.init hn' y hyl k
      · exact h.last ((up k1).symm.trans ((K9_edge hyl).trans (up k2)))
      · exact h.last ((up k2).symm.trans ((K9_edge hyl).symm.trans (up k1)))
/-- a place with one edge of a set alone -/
def at9 (e0 e1 : Nat → Nat) (z q : Nat) : Prop := e0 z = q ∨ e1 z = q
def leaf9 (e0 e1 : Nat → Nat) (U : Nat → Prop) (q : Nat) : Prop := ∃ z, U z ∧ at9 e0 e1 z q ∧ ∀ z', U z' → at9 e0 e1 z' q → z' = z
theorem at9_K {L : List Nat} {z q : Nat} (hz : z ∈ L) (h : at9 e0 e1 z q) : K9 e0 e1 L (e0 z) q := by
  rcases h with h | h
  · rw [h]; exact K9.refl _ _
  · rw [← h]; exact K9_edge hz
theorem leaves9 {L : List Nat} (h : Frst9 e0 e1 L) : ∀ U : Nat → Prop, (∀ z, U z → z ∈ L) → (∃ z, U z) → ∃ q1 q2, q1 ≠ q2 ∧ leaf9 e0 e1 U q1 ∧ leaf9 e0 e1 U q2 := by
  induction L using snocInd9 with
  | h0 => rintro U hU ⟨z, hz⟩; cases hU z hz
  | hs l b ih =>
    intro U hU hne
    have ih' := ih h.init
    have hlast := h.last
    by_cases hb : U b
    rotate_left
    · exact ih' U (fun z hz => by
        rcases List.mem_append.1 (hU z hz) with k | k
        · exact k
        · obtain rfl : z = b := by simpa using k
          exact absurd hz hb) hne
    by_cases hbl : b ∈ l
    · exact absurd (K9_edge hbl) hlast
    have hin : ∀ z, U z → z ≠ b → z ∈ l := fun z hz hzb => by
      rcases List.mem_append.1 (hU z hz) with k | k
      · exact k
      · exact absurd (by simpa using k) hzb
    -- on one side of b, at the end c of b (the other end: d)
    have side : ∀ c d, at9 e0 e1 b c → (∀ q, at9 e0 e1 b q → q = c ∨ q = d) → ¬ K9 e0 e1 l c d → ∃ q, K9 e0 e1 l c q ∧ leaf9 e0 e1 U q := by
      intro c d hc hcd hk
      by_cases hs : ∃ z, (U z ∧ z ≠ b ∧ K9 e0 e1 l (e0 z) c)
      · obtain ⟨q1, q2, hne', l1, l2⟩ := ih' (fun z => U z ∧ z ≠ b ∧ K9 e0 e1 l (e0 z) c) (fun z hz => hin z hz.1 hz.2.1) hs
        have key : ∀ q, q ≠ c → leaf9 e0 e1 (fun z => U z ∧ z ≠ b ∧ K9 e0 e1 l (e0 z) c) q → ∃ q, K9 e0 e1 l c q ∧ leaf9 e0 e1 U q := by
          rintro q hq ⟨z, ⟨hz, hzb, hzk⟩, hza, huq⟩
          have hcq : K9 e0 e1 l c q := hzk.symm.trans (at9_K (hin z hz hzb) hza)
          refine ⟨q, hcq, z, hz, hza, fun z' hz' ha' => ?_⟩
          by_cases e : z' = b
          · subst e
            rcases hcd q ha' with k | k
            · exact absurd k hq
            · rw [k] at hcq; exact absurd hcq hk
          · exact huq z' ⟨hz', e, (at9_K (hin z' hz' e) ha').trans hcq.symm⟩ ha'
        by_cases e : q1 = c
        · exact key q2 (fun e2 => hne' (e.trans e2.symm)) l2
        · exact key q1 e l1
      · refine ⟨c, K9.refl _ _, b, hb, hc, fun z' hz' ha' => ?_⟩
        by_cases e : z' = b
        · exact e
        · exact absurd ⟨z', hz', e, at9_K (hin z' hz' e) ha'⟩ hs
    obtain ⟨q1, k1, l1⟩ := side (e0 b) (e1 b) (.inl rfl) (fun q hq => hq.imp Eq.symm Eq.symm) hlast
    obtain ⟨q2, k2, l2⟩ := side (e1 b) (e0 b) (.inr rfl) (fun q hq => (hq.imp Eq.symm Eq.symm).symm) (fun k => hlast k.symm)
    exact ⟨q1, q2, fun e => hlast (k1.trans (by rw [e]; exact k2.symm)), l1, l2⟩
/-- sums over the first n numbers -/
def sR9 (n : Nat) (F : Nat → Int) : Int := ((List.range n).map F).sum
theorem sR9_succ (n : Nat) (F : Nat → Int) : sR9 (n + 1) F = sR9 n F + F n := by unfold sR9; rw [List.range_succ, List.map_append, List.sum_append]; simp
theorem sR9_congr {n : Nat} {F G : Nat → Int} (h : ∀ i, i < n → F i = G i) : sR9 n F = sR9 n G := by
  unfold sR9; rw [List.map_congr_left fun i hi => h i (List.mem_range.1 hi)]
theorem sR9_zero (n : Nat) : sR9 n (fun _ => 0) = 0 := by
  induction n with
  | zero => rfl
  | succ n ih => rw [sR9_succ, ih]; rfl
theorem sR9_add (n : Nat) (F G : Nat → Int) : sR9 n (fun i => F i + G i) = sR9 n F + sR9 n G := by
  induction n with
  | zero => rfl
  | succ n ih => rw [sR9_succ, sR9_succ, sR9_succ, ih]; omega
theorem sR9_neg (n : Nat) (F : Nat → Int) : sR9 n (fun i => - F i) = - sR9 n F := by
  induction n with
  | zero => rfl
  | succ n ih => rw [sR9_succ, sR9_succ, ih]; omega
theorem sR9_mul (n : Nat) (c : Int) (F : Nat → Int) : sR9 n (fun i => c * F i) = c * sR9 n F := by
  induction n with
  | zero => simp [sR9]
  | succ n ih => rw [sR9_succ, sR9_succ, ih, Int.mul_add]
theorem sR9_swap (n m : Nat) (F : Nat → Nat → Int) : sR9 n (fun i => sR9 m (F i)) = sR9 m (fun j => sR9 n (fun i => F i j)) := by
  induction n with
  | zero => exact (sR9_zero m).symm
  | succ n ih =>
    rw [sR9_succ, ih, ← sR9_add]
    exact sR9_congr fun j _ => (sR9_succ n fun i => F i j).symm
theorem sR9_delta (n a : Nat) (F : Nat → Int) (h : a < n) : sR9 n (fun i => if a = i then F i else 0) = F a := by
  induction n with
  | zero => omega
  | succ n ih =>
    rw [sR9_succ]
    by_cases e : a = n
    · subst e
      rw [if_pos rfl, sR9_congr (G := fun _ => 0) fun i hi => if_neg (by omega), sR9_zero, Int.zero_add]
    · rw [if_neg e, ih (by omega), Int.add_zero]
theorem sR9_one (n a : Nat) (F : Nat → Int) (h : a < n) (hz : ∀ i, i < n → i ≠ a → F i = 0) : sR9 n F = F a := by
  rw [← sR9_delta n a F h]
  exact sR9_congr fun i hi => by
    by_cases e : a = i
    · rw [if_pos e]
    · rw [if_neg e, hz i hi (Ne.symm e)]
/-- what a chain leaves at a place -/
def ind9 (p q : Nat) : Int := if p = q then 1 else 0
def bd9 (e0 e1 : Nat → Nat) (m : Nat) (P : Nat → Int) (q : Nat) : Int := sR9 m fun z => P z * (ind9 (e0 z) q - ind9 (e1 z) q)
theorem bd9_add (m : Nat) (P Q : Nat → Int) (q : Nat) : bd9 e0 e1 m (fun z => P z + Q z) q = bd9 e0 e1 m P q + bd9 e0 e1 m Q q := by
  unfold bd9; rw [← sR9_add]; exact sR9_congr fun z _ => by rw [Int.add_mul]
theorem bd9_neg (m : Nat) (P : Nat → Int) (q : Nat) : bd9 e0 e1 m (fun z => - P z) q = - bd9 e0 e1 m P q := by
  unfold bd9; rw [← sR9_neg]; exact sR9_congr fun z _ => by rw [Int.neg_mul]
theorem bd9_one (m x q : Nat) (hx : x < m) : bd9 e0 e1 m (fun z => ind9 x z) q = ind9 (e0 x) q - ind9 (e1 x) q := by
  unfold bd9
  rw [sR9_one m x _ hx fun i _ hi => by simp [ind9, Ne.symm hi]]
  simp [ind9]
/-- a way between two places, as a chain -/
theorem way9 {m : Nat} {L : List Nat} (hL : ∀ x ∈ L, x < m) {u v : Nat} (k : K9 e0 e1 L u v) : ∃ P : Nat → Int, (∀ z, z ∉ L → P z = 0) ∧ ∀ q, bd9 e0 e1 m P q = ind9 u q - ind9 v q := by
  refine K9_least (R := fun u v => ∃ P : Nat → Int, (∀ z, z ∉ L → P z = 0) ∧ ∀ q, bd9 e0 e1 m P q = ind9 u q - ind9 v q) (fun p => ⟨fun _ => 0, fun _ _ => rfl, fun q => ?_⟩) ?_ ?_ (fun x hx => ⟨fun z => ind9 x z, fun z hz => ?_, fun q => bd9_one m x q (hL x hx)⟩) k
  · unfold bd9; rw [sR9_congr (G := fun _ => 0) fun i _ => by simp, sR9_zero]; omega
  · rintro p q ⟨P, h1, h2⟩
    exact ⟨fun z => - P z, fun z hz => by simp [h1 z hz], fun r => by rw [bd9_neg, h2]; omega⟩
  · rintro p q r ⟨P, h1, h2⟩ ⟨Q, h3, h4⟩
    exact ⟨fun z => P z + Q z, fun z hz => by simp [h1 z hz, h3 z hz], fun s => by rw [bd9_add, h2, h4]; omega⟩
  · have : x ≠ z := fun e => hz (e ▸ hx)
    simp [ind9, this]
/-- the cycle of an edge, as it is told by sides -/
def cyo9 (e0 e1 : Nat → Nat) (T : List Nat) (x : Nat) : Nat → Int := fun y =>
  if y = x then 1 else if y ∈ T then ind9 (pcs9 e0 e1 (rst9 T y) (e1 x)) (pcs9 e0 e1 (rst9 T y) (e0 y)) - ind9 (pcs9 e0 e1 (rst9 T y) (e0 x)) (pcs9 e0 e1 (rst9 T y) (e0 y)) else 0
/-- whatever set of places is taken, what a cycle leaves in it is nothing -/
theorem cut9 {m N : Nat} (he : ∀ z, z < m → e0 z < N ∧ e1 z < N) {C : Nat → Int} (hC : ∀ q, q < N → bd9 e0 e1 m C q = 0) (σ : Nat → Int) : sR9 m (fun z => C z * (σ (e0 z) - σ (e1 z))) = 0 := by
  have h1 : sR9 N (fun q => σ q * bd9 e0 e1 m C q) = 0 := by
    rw [sR9_congr (G := fun _ => 0) fun q hq => by rw [hC q hq, Int.mul_zero], sR9_zero]
  rw [← h1]
  unfold bd9
  rw [sR9_congr (n := N) (G := fun q => sR9 m fun z => σ q * (C z * (ind9 (e0 z) q - ind9 (e1 z) q))) fun q _ => (sR9_mul m (σ q) _).symm, sR9_swap]
  refine sR9_congr fun z hz => ?_
  obtain ⟨h2, h3⟩ := he z hz
  have d : ∀ a, a < N → sR9 N (fun q => σ q * ind9 a q) = σ a := fun a ha => by
    rw [← sR9_delta N a σ ha]
    exact sR9_congr fun q _ => by unfold ind9; split <;> simp
  have e : sR9 N (fun q => σ q * (C z * (ind9 (e0 z) q - ind9 (e1 z) q))) = C z * (sR9 N (fun q => σ q * ind9 (e0 z) q) + - sR9 N (fun q => σ q * ind9 (e1 z) q)) := by
    rw [← sR9_neg, ← sR9_add, ← sR9_mul]
    exact sR9_congr fun q _ => by grind
  rw [e, d _ h2, d _ h3]; grind
/-- a cycle with 1 at x that has, but for x, numbers at tree edges alone is the one that the sides tell -/
theorem cyo9_unique {m N : Nat} (he : ∀ z, z < m → e0 z < N ∧ e1 z < N) {T : List Nat} (hT : ∀ z ∈ T, z < m) (hF : Frst9 e0 e1 T) (hn : T.Nodup) {x : Nat} (hx : x < m) (hxT : x ∉ T) {C : Nat → Int} (hC : ∀ q, q < N → bd9 e0 e1 m C q = 0) (h1 : C x = 1) (h0 : ∀ z, z < m → z ≠ x → z ∉ T → C z = 0) :
    ∀ y, y < m → C y = cyo9 e0 e1 T x y := by
  intro y hy
  unfold cyo9
  by_cases e : y = x
  · rw [if_pos e, e, h1]
  rw [if_neg e]
  by_cases hyT : y ∈ T
  rotate_left
  · rw [if_neg hyT]; exact h0 y hy e hyT
  rw [if_pos hyT]
  have hac := acyclic9 hF hn y hyT
  have hK : ∀ z ∈ T, z ≠ y → pcs9 e0 e1 (rst9 T y) (e0 z) = pcs9 e0 e1 (rst9 T y) (e1 z) := fun z hz hzy => K9_edge (mem_rst9.2 ⟨hz, hzy⟩)
  have hac' : pcs9 e0 e1 (rst9 T y) (e0 y) ≠ pcs9 e0 e1 (rst9 T y) (e1 y) := hac
  generalize pcs9 e0 e1 (rst9 T y) = s at *
  have hc := cut9 he hC (fun p => ind9 (s p) (s (e0 y)))
  have hs : sR9 m (fun z => C z * (ind9 (s (e0 z)) (s (e0 y)) - ind9 (s (e1 z)) (s (e0 y)))) = sR9 m (fun z => (if y = z then C y else 0) + (if x = z then ind9 (s (e0 x)) (s (e0 y)) - ind9 (s (e1 x)) (s (e0 y)) else 0)) := by
    refine sR9_congr fun z hz => ?_
    by_cases e1' : y = z
    · subst e1'
      rw [if_pos rfl, if_neg (Ne.symm e)]
      unfold ind9
      rw [if_pos rfl, if_neg (Ne.symm hac')]; omega
    · rw [if_neg e1']
      by_cases e2 : x = z
      · subst e2
        rw [if_pos rfl, h1]; omega
      · rw [if_neg e2]
        by_cases hzT : z ∈ T
        · rw [hK z hzT (Ne.symm e1')]; simp
        · rw [h0 z hz (Ne.symm e2) hzT]; simp
  rw [hs, sR9_add, sR9_delta m y (fun _ => C y) hy, sR9_delta m x (fun _ => ind9 (s (e0 x)) (s (e0 y)) - ind9 (s (e1 x)) (s (e0 y))) hx] at hc
  omega
/-- the cycle of an edge is one -/
theorem cyo9_spec {m N : Nat} (he : ∀ z, z < m → e0 z < N ∧ e1 z < N) {T : List Nat} (hT : ∀ z ∈ T, z < m) (hF : Frst9 e0 e1 T) (hn : T.Nodup) {x : Nat} (hx : x < m) (hxT : x ∉ T) (hk : K9 e0 e1 T (e0 x) (e1 x)) : ∀ q, bd9 e0 e1 m (cyo9 e0 e1 T x) q = 0 := by
  obtain ⟨P, hP0, hP⟩ := way9 hT hk
  have hb : ∀ q, bd9 e0 e1 m (fun z => ind9 x z + - P z) q = 0 := fun q => by
    rw [bd9_add (P := fun z => ind9 x z) (Q := fun z => - P z), bd9_one m x q hx, bd9_neg, hP]; omega
  have hu := cyo9_unique he hT hF hn hx hxT (C := fun z => ind9 x z + - P z) (fun q _ => hb q) (by simp [ind9, hP0 x hxT]) (fun z _ hzx hzT => by simp [ind9, Ne.symm hzx, hP0 z hzT])
  intro q
  rw [← hb q]
  unfold bd9
  exact sR9_congr fun z hz => by rw [← hu z hz]
theorem cyo9_bound (T : List Nat) (x y : Nat) : -1 ≤ cyo9 e0 e1 T x y ∧ cyo9 e0 e1 T x y ≤ 1 := by
  unfold cyo9 ind9
  split
  · omega
  · split
    · split <;> split <;> omega
    · omega
end
end Go.Proofs.Ytmapjjfefjoemaa

namespace Go.Proofs.Ytmapjjfefjoemaa
open Go.RowKit

def pZ9 (v : Value) (l : List Int) : Part := pRow v 2 1 l.length (zc l)
theorem Holds.ownZ9 {w0 w : World} {L : List Part} (h : Holds w0 w L) (i : Nat) {v : Value} {l : List Int} (hi : L[i]? = some (pZ9 v l)) : OwnZ w0.heap.size w v l := h.row i hi
theorem Holds.rdZ9 {w0 w : World} {L : List Part} (h : Holds w0 w L) (i : Nat) {v : Value} {l : List Int} (hi : L[i]? = some (pZ9 v l)) (hl : l.length ≤ 1000000) : RdZ w v l := OwnZ.rd (h.ownZ9 i hi) (by omega)
theorem zc_one {l : List Int} : ∀ u ∈ zc l, u.oneCell' = true := by
  intro u hu
  obtain ⟨x, _, rfl⟩ := List.mem_map.1 hu
  rfl
theorem pInts_pZ9 (v : Value) (l : List Nat) : pInts v l = pZ9 v (zs9 l) := by unfold pInts pZ9; rw [zs9_length, zc_zs9]
theorem set_same9 {α : Type _} {l : List α} {i : Nat} {a : α} (h : l[i]? = some a) : l.set i a = l := by
  apply List.ext_getElem?
  intro j
  rw [List.getElem?_set]
  split
  · rename_i e; subst e
    obtain ⟨h1, h2⟩ := List.getElem?_eq_some_iff.1 h
    rw [if_pos h1, h]
  · rfl
theorem run_append_none9 {w : World} (t ty e : TypeId) (i : TypeInfo) (ht : Try.prog.underlying t = some (.slice e)) (hi : Try.prog.info? e = some i) (A : Option Addr) (n c m : Nat) (h : n ≤ c) :
    (Builtin.append_ #[t, t] ty #[.slice A n c, .slice none 0 m]).run Try.prog w = .ok (.slice A n c) w := by
  cases A <;> simp [Builtin.append_, run_underlying ht, sizeOf, typeInfo, hi, Builtin.lenOf, Builtin.firstCells, h, storeCells]
/-- the numbers of a list that reads, behind a list of one's own -/
theorem run_appZ9 {w0 w : World} {L : List Part} (ty : TypeId) (H : Holds w0 w L) (k : Nat) {v : Value} {l : List Int} (hk : L[k]? = some (pZ9 v l)) {u : Value} {m : List Int} (hu : RdZ w u m) (hb : l.length + m.length ≤ 100000) :
    ∃ v' w', (Builtin.append_ #[25, 25] ty #[v, u]).run Try.prog w = .ok v' w' ∧ Holds w0 w' (L.set k (pZ9 v' (l ++ m))) := by
  obtain ⟨i0, hi, hz0, hz1, hz2⟩ := info_parts info64
  obtain ⟨A, c, rfl, _, hc⟩ := hu
  rcases A with _ | a
  · have hm : m = [] := by
      rcases m with _ | ⟨x, m⟩
      · rfl
      · obtain ⟨a, e, _⟩ := hc 0 x rfl; cases e
    subst hm
    have hv : ∃ A c, v = .slice A l.length c ∧ l.length ≤ c := by
      rcases (H.row k hk).2 with ⟨rfl, e⟩ | ⟨g, cap, cur, rfl, _, _, h1, _⟩
      · exact ⟨none, 0, by rw [e], by omega⟩
      · exact ⟨_, cap, rfl, h1⟩
    obtain ⟨A, c', rfl, hc'⟩ := hv
    refine ⟨_, w, run_append_none9 _ _ _ i0 Try.underlying25 hi A l.length c' c hc', ?_⟩
    rw [List.append_nil, set_same9 hk]
    exact H
  · obtain ⟨v', w', hr, h2, _⟩ := run_appH (P := Try.prog) 25 ty 2 i0 (.int .i64 0) 1 8 Try.underlying25 hi hz0 hz1 hz2 rfl (by decide) v l.length (zc l) H k hk a m.length c (zc m) (by rw [zc_length]; omega) (fun j y hj => by
      rw [zc_get] at hj
      rcases hm : m[j]? with _ | x
      · rw [hm] at hj; cases hj
      · rw [hm] at hj
        obtain ⟨a', e, _, h3⟩ := hc j x hm
        obtain rfl : a = a' := Option.some.inj e
        simp only [Option.map_some, Option.some.injEq] at hj
        rw [← hj]; exact h3) zc_one (by unfold maxLen; omega) (by omega)
    refine ⟨v', w', hr, ?_⟩
    unfold pZ9 at *
    have e : zc (l ++ m) = zc l ++ zc m := by unfold zc; simp
    rw [List.length_append, e]
    exact h2
theorem appZ9 {ops : Array Oper} {rest : List Oper} {o : Oper} {a : Act} {Q : Exit → Act → World → Prop} {w0 w : World} {L : List Part} (H : Holds w0 w L) (k : Nat) {v : Value} {l : List Int} (hk : L[k]? = some (pZ9 v l)) {u : Value} {m : List Int} (hu : RdZ w u m) (hb : l.length + m.length ≤ 100000)
    (hgd : o.guard = none) (s x : Operand) (ho : o.op = .call { callee := .builtin .append, args := #[s, x], argTypes := #[25, 25] }) (hs : a.eval s = v) (hx : a.eval x = u)
    (h : ∀ v' w', Holds w0 w' (L.set k (pZ9 v' (l ++ m))) → wpList Try.prog ops Q rest (a.put o.dst v') w') : wpList Try.prog ops Q (o :: rest) a w := by
  obtain ⟨v', w', hr, h2⟩ := run_appZ9 o.type H k hk hu hb
  refine wpList_plain hgd fun _ hK => ?_
  unfold Oper.wp
  rw [exec_append ho hs hx hr]
  exact hK _ _ (h _ _ h2)
/-- zeros behind nothing -/
theorem run_app0_9 {w : World} (ty : TypeId) (n : Nat) (h0 : 0 < n) (hn : n ≤ 100000) :
    ∃ g c cur, (Builtin.append_ #[25, 3] ty #[.slice none 0 0, .int .i64 n]).run Try.prog w = .ok (.slice (some ⟨g, 0, none⟩) n c) (w.drew.alloc (.cells cur 2)) ∧ g = w.heap.size ∧ n ≤ c ∧ c ≤ maxLen ∧ cur.size = c := by
  obtain ⟨i0, hi, hz0, hz1, hz2⟩ := info_parts info64
  have h63 : ¬ (9223372036854775807 < (n : Int)) := by omega
  have hw : IntKind.i64.wrap (n : Int) = n := wr64k (by omega) (by omega)
  have h48 : ¬ (281474976710656 < Builtin.nextslicecap n 0 * 8) := by rw [nextslicecap_zero h0]; omega
  have hge := grownCap_ge w n 0 2
  have hcm := grownCap_le_maxLen w n 0 2 (by unfold maxLen; omega)
  have hz : (Value.int .i64 0).cells = #[Value.int .i64 0] := rfl
  refine ⟨w.heap.size, grownCap w n 0 2, Builtin.zeroCells #[Value.int .i64 0] n ++ Builtin.zeroCells #[Value.int .i64 0] (grownCap w n 0 2 - n), ?_, rfl, hge, hcm, ?_⟩
  · have hn0 : ¬ (n = 0) := by omega
    have hneg : ¬ ((n : Int) < 0) := by omega
    have h48' : ¬ (281474976710656 < (n : Int) * 8) := by omega
    simp [Builtin.append_, run_underlying Try.underlying25, run_underlying Try.underlying3, sizeOf, typeInfo, zeroValue, hi, hz0, hz1, hz2, h63, h48, h48', hn0, hneg, hw, asInt, asIntOf, hz, Question.forced, newRow, grownCap, Builtin.firstCells]
  · simp [size_zeroCells]; omega
theorem exec_append2 {P : Program} {w : World} {o : Oper} {a : Act} {s x : Operand} {t t' : TypeId} (ho : o.op = .call { callee := .builtin .append, args := #[s, x], argTypes := #[t, t'] }) {v v' u : Value} {w' : World} (hs : a.eval s = v) (hx : a.eval x = u)
    (hr : (Builtin.append_ #[t, t'] o.type #[v, u]).run P w = .ok v' w') : (execOp a.eval o).run P w = .ok (.value v') w' := by
  unfold execOp
  simp only [ho, resolve, invoke, builtin, Sem.run_bind, Sem.run_pure, Result.andThen_ok, List.map_toArray, List.map_cons, List.map_nil, hs, hx, hr]
theorem app0_9 {ops : Array Oper} {rest : List Oper} {o : Oper} {a : Act} {Q : Exit → Act → World → Prop} {w : World} (n : Nat) (h0 : 0 < n) (hn : n ≤ 100000)
    (hgd : o.guard = none) (s x : Operand) (ho : o.op = .call { callee := .builtin .append, args := #[s, x], argTypes := #[25, 3] }) (hs : a.eval s = .slice none 0 0) (hx : a.eval x = .int .i64 n)
    (h : ∀ c w', n ≤ c → Holds w w' [pZ9 (.slice (some ⟨w.heap.size, 0, none⟩) 0 c) []] → wpList Try.prog ops Q rest (a.put o.dst (.slice (some ⟨w.heap.size, 0, none⟩) n c)) w') : wpList Try.prog ops Q (o :: rest) a w := by
  obtain ⟨g, c, cur, hr, rfl, h1, h2, h3⟩ := run_app0_9 (w := w) o.type n h0 hn
  refine wpList_plain hgd fun _ hK => ?_
  unfold Oper.wp
  rw [exec_append2 ho hs hx hr]
  have HB : Below w.heap.size w (w.drew.alloc (.cells cur 2)) := ⟨rfl, rfl, rfl, by simp, fun k hk => heap_past w.drew _ k hk⟩
  refine hK _ _ (h c (w.drew.alloc (.cells cur 2)) h1 ?_)
  refine (Holds.start w).new HB _ ?_ fun k hk => ?_
  · exact ⟨rfl, .inr ⟨w.heap.size, c, cur, rfl, Nat.zero_le _, heap_alloc_new w.drew _, Nat.zero_le _, h2, by omega, by simp [zc]⟩⟩
  · have : w.heap.size = k := by simpa [pZ9, pRow, Value.ownBlock] using hk
    omega
set_option maxRecDepth 100000 in
set_option maxHeartbeats 1000000 in
theorem grow_any9 (n : Nat) (hn : n ≤ 100000) (w : World) :
    Calls Try.prog 91 #[.slice none 0 0, .int .i64 n] w fun e w' => ∃ v, e = .returned v ∧ Holds w w' [pZ9 v []] := by
  have hneg : ¬ ((n : Int) < 0) := by omega
  rcases Nat.eq_zero_or_pos n with rfl | h0
  · go_enter Try.func91, Try.ntmps91
    go_wp2
    go_ret
    exact ⟨_, rfl, (Holds.start w).nilRow 2 1⟩
  · have hpos : (0 : Int) < (n : Int) := by omega
    have w1 : wrap64 (n : Int) = n := wr64 (by omega) (by omega)
    go_enter Try.func91, Try.ntmps91
    go_wp2_with (at_builtin; refine app0_9 n h0 hn rfl _ _ rfl rfl rfl ?_)
    intro c w' hc h1
    have hc0 : (0 : Int) ≤ c := by omega
    have hc1 : ¬ ((c : Int) < 0) := by omega
    go_wp2
    go_ret
    exact ⟨_, rfl, h1⟩
def flat9 (ls : List (List Int)) : List Int := ls.flatten
theorem flat9_take (ls : List (List Int)) {i : Nat} (h : i < ls.length) : flat9 (ls.take (i + 1)) = flat9 (ls.take i) ++ ls[i] := by
  unfold flat9
  rw [List.take_succ_eq_append_getElem h, List.flatten_append]
  simp
theorem flat9_len (ls : List (List Int)) : (flat9 ls).length = totZ ls := by unfold flat9 totZ; rw [List.length_flatten]
set_option maxRecDepth 100000 in
set_option maxHeartbeats 2000000 in
theorem concat_any9 (v : Value) (ls : List (List Int)) (hn : totZ ls ≤ 10000) (hl : ls.length ≤ 10000) (w : World) (hv : RdZ2 w v ls) :
    Calls Try.prog 56 #[v] w fun e w' => ∃ u, e = .returned u ∧ Holds w w' [pZ9 u (flat9 ls)] := by
  obtain ⟨A, c, rfl, _⟩ := hv.form
  have HV := hide hv; clear hv
  have hbig : totZ ls < 9223372036854775807 := by omega
  go_enter Try.func56, Try.ntmps56
  go_wp2
  go_loopw [3, 11] (fun s t wr => ∃ i : Nat, i ≤ ls.length ∧ t = .int .i64 i ∧ s = .int .i64 (totZ (ls.take i) : Nat) ∧ w = wr) (fun _ t _ => ls.length - (intOf t).toNat)
  case atStart => exact ⟨0, Nat.zero_le _, rfl, rfl, rfl⟩
  case round =>
    obtain ⟨i, hi, rfl, rfl, rfl⟩ := hrel
    have ht := totZ_take_le ls i
    by_cases hlt : i < ls.length
    · obtain ⟨g, A', c', rfl, h1, h2⟩ := HV.out.at hlt
      have hts := totZ_take_succ ls i hlt
      have htl := totZ_take_le ls (i + 1)
      rw [hts] at htl
      have HT := hide hts; clear hts h2
      generalize totZ (ls.take i) = t0 at *
      generalize ls[i].length = n1 at *
      have hng : ¬ (((t0 : Int) + (n1 : Int)) < 0) := by omega
      go_wp2
      go_roundw
      case rel => exact ⟨i + 1, by omega, by go_num, by rw [HT.out]; go_num, by trivial⟩
      case measure => simp [intOf]; omega
    · obtain rfl : i = ls.length := by omega
      rw [List.take_length] at ht ⊢
      have CG := hide fun w => grow_any9 (totZ ls) (by omega) w
      have hfl := fun k => flat9_len (ls.take k)
      have HFL := hide hfl; clear hfl hlt hi ht
      go_wp2_with fail
      refine (CG.out _).mono ?_
      rintro e w1 ⟨u1, rfl, H1⟩
      clear CG
      go_wp2
      go_loopw [6, 27] (fun q t wr => ∃ i : Nat, i ≤ ls.length ∧ t = .int .i64 i ∧ Holds w wr [pZ9 q (flat9 (ls.take i))]) (fun _ t _ => ls.length - (intOf t).toNat)
      case atStart => exact ⟨0, Nat.zero_le _, rfl, H1⟩
      case round =>
        clear H1
        obtain ⟨i, hi, rfl, hH⟩ := hrel
        by_cases hlt : i < ls.length
        · obtain ⟨g, A', c', rfl, h1, h2⟩ := (HV.out.below hH.low (Nat.le_refl _)).at hlt
          have hfl := flat9_take ls hlt
          have hle := HFL.out i
          have hle2 := HFL.out (i + 1)
          have hle3 := totZ_take_le ls (i + 1)
          rw [hfl, List.length_append] at hle2
          have HF := hide hfl; clear hfl
          have HB := hide (show (flat9 (ls.take i)).length + ls[i].length ≤ 100000 by omega)
          clear hle hle2 hle3
          obtain ⟨A2, c2, rfl⟩ := own_slice (hH.row 0 rfl)
          generalize flat9 (ls.take i) = fl at *
          have RD := hide h2; clear h2
          generalize ls[i] = li at *
          go_wp2_with (at_builtin; refine appZ9 hH 0 rfl RD.out HB.out rfl _ _ rfl rfl rfl ?_)
          intro v' w' h5
          have HQ := hide h5
          clear h5 hH h1
          go_wp2
          go_roundw
          case rel => exact ⟨i + 1, by omega, by go_num, by rw [HF.out]; exact HQ.out⟩
          case measure => simp [intOf]; omega
        · obtain rfl : i = ls.length := by omega
          rw [List.take_length] at hH
          clear hlt hi
          go_wp2
          go_ret
          exact ⟨_, rfl, hH⟩
end Go.Proofs.Ytmapjjfefjoemaa

namespace Go.Proofs.Ytmapjjfefjoemaa
open Go.RowKit

theorem infoSl9 : (Try.prog.info? 25).map (fun i => (i.zero, i.size, i.bytes)) = some (some (.slice none 0 0), 1, 24) := by kernel_rfl
theorem rowsP_append9 : ∀ {vs us : List Value} {ls ms : List (List Nat)}, vs.length = ls.length → rowsP (vs ++ us) (ls ++ ms) = rowsP vs ls ++ rowsP us ms
  | [], us, [], ms, _ => rfl
  | [], _, _ :: _, _, h => by simp at h
  | _ :: _, _, [], _, h => by simp at h
  | v :: vs, us, l :: ls, ms, h => by
    have ih := rowsP_append9 (vs := vs) (us := us) (ls := ls) (ms := ms) (by simpa using h)
    simp only [List.cons_append, rowsP, ih]
theorem Holds.noVals9 {w0 w : World} {L : List Part} (h : Holds w0 w L) (i : Nat) {g : Nat} (hi : L[i]? = some (pBlk g #[] 25)) : Holds w0 w (L.set i (pVals (.slice (some ⟨g, 0, none⟩) 0 0) [])) := by
  refine h.turn i hi _ ?_ rfl rfl rfl (Nat.le_refl _) (fun _ _ _ => rfl) fun k hk => .inl ?_
  · exact ⟨rfl, .inr ⟨g, 0, #[], rfl, Nat.zero_le _, h.at i hi, Nat.le_refl 0, by decide, rfl, rfl⟩⟩
  · have : g = k := by simpa [pVals, pRow, Value.ownBlock] using hk
    exact this.symm
namespace Rd
/-- uponE behind a name that nothing unfolds -/
@[irreducible] def upon9 (P : Program) (C : World → Prop) (R : Value → World → Prop) (w : World) (r : Result Next) : Prop := uponE P C R w r
theorem upon9_eq {P : Program} {C : World → Prop} {R : Value → World → Prop} {w : World} {r : Result Next} : upon9 P C R w r = uponE P C R w r := by unfold upon9; rfl
theorem v_s9 {P : Program} {ops : Array Oper} {C : World → Prop} {E : Nat → Bool} {k : Nat} {a : Act} {D : World → Prop} {N : Act → (World → Prop) → Prop} {o : Oper} (R : Value → World → Prop) (hR : ∀ v, Stable (R v)) (ho : ops[k]? = some o) (hE : E k = true) (hw : Region.wanted o (yielded ops a.tmps) = true) (h1 : ∀ w, C w → D w → upon9 P C R w ((execOp a.eval o).run P w))
    (h2 : ∀ v, (∃ w, C w ∧ R v w) → N (a.put o.dst v) (R v)) : opV P ops C E k N a D :=
  v_s R hR ho hE hw (fun w hc hd => by have := h1 w hc hd; rwa [upon9_eq] at this) h2
/-- a value of some form, with lists of slices of given lengths, and what is held then -/
def rV9 (w0 : World) (n : Nat) (F : Value → List Value → List Part) : Value → World → Prop := fun v w => ∃ A c vs, v = .slice A n c ∧ vs.length = n ∧ Holds w0 w (F v vs)
theorem rV9_stable {w0 : World} {n : Nat} {F : Value → List Value → List Part} (v : Value) : Stable (rV9 w0 n F v) := fun _ _ ⟨A, c, vs, e, hl, h⟩ hb => ⟨A, c, vs, e, hl, h.call hb⟩
theorem rV9_form {w0 : World} {n : Nat} {F : Value → List Value → List Part} {v : Value} {w : World} (h : rV9 w0 n F v w) : ∃ A c, v = .slice A n c := by
  obtain ⟨A, c, vs, e, _⟩ := h
  exact ⟨A, c, e⟩
theorem rV9_elim {w0 : World} {n : Nat} {F : Value → List Value → List Part} {v : Value} {w : World} (h : rV9 w0 n F v w) {Q : Prop} (k : ∀ vs, vs.length = n → Holds w0 w (F v vs) → Q) : Q := by
  obtain ⟨A, c, vs, _, hl, h⟩ := h
  exact k vs hl h
def rN9 (w0 : World) (n : Nat) (F : Nat → List Value → List Part) : Value → World → Prop := fun v w => ∃ g vs, v = .slice (some ⟨g, 0, none⟩) 0 0 ∧ vs.length = n ∧ Holds w0 w (F g vs)
theorem rN9_stable {w0 : World} {n : Nat} {F : Nat → List Value → List Part} (v : Value) : Stable (rN9 w0 n F v) := fun _ _ ⟨g, vs, e, hl, h⟩ hb => ⟨g, vs, e, hl, h.call hb⟩
theorem rN9_form {w0 : World} {n : Nat} {F : Nat → List Value → List Part} {v : Value} {w : World} (h : rN9 w0 n F v w) : ∃ g, v = .slice (some ⟨g, 0, none⟩) 0 0 := by
  obtain ⟨g, vs, e, _⟩ := h
  exact ⟨g, e⟩
theorem rN9_elim {w0 : World} {n g : Nat} {F : Nat → List Value → List Part} {w : World} (h : rN9 w0 n F (.slice (some ⟨g, 0, none⟩) 0 0) w) {Q : Prop} (k : ∀ vs, vs.length = n → Holds w0 w (F g vs) → Q) : Q := by
  obtain ⟨g', vs, e, hl, h⟩ := h
  injection e with e
  injection e with e
  injection e with e
  subst e
  exact k vs hl h
def rW9 (w0 : World) (n k : Nat) (F : Value → List Value → List Value → List Part) : Value → World → Prop := fun v w => ∃ A c vs us, v = .slice A n c ∧ vs.length = n ∧ us.length = k ∧ Holds w0 w (F v vs us)
theorem rW9_stable {w0 : World} {n k : Nat} {F : Value → List Value → List Value → List Part} (v : Value) : Stable (rW9 w0 n k F v) := fun _ _ ⟨A, c, vs, us, e, hl, hk, h⟩ hb => ⟨A, c, vs, us, e, hl, hk, h.call hb⟩
theorem rW9_form {w0 : World} {n k : Nat} {F : Value → List Value → List Value → List Part} {v : Value} {w : World} (h : rW9 w0 n k F v w) : ∃ A c, v = .slice A n c := by
  obtain ⟨A, c, vs, us, e, _⟩ := h
  exact ⟨A, c, e⟩
theorem rW9_elim {w0 : World} {n j : Nat} {F : Value → List Value → List Value → List Part} {v : Value} {w : World} (h : rW9 w0 n j F v w) {Q : Prop} (k : ∀ vs us, vs.length = n → us.length = j → Holds w0 w (F v vs us) → Q) : Q := by
  obtain ⟨A, c, vs, us, _, hl, hk, h⟩ := h
  exact k vs us hl hk h
theorem region_RV9 {P : Program} {id : Nat} {Q : Exit → Act → World → Prop} {a : Act} {w w0 : World} {l : List Oper} (L : List Part) (L1 : List Part) (sp : List Nat) (p : Plan) (H : Holds w0 w L1) (hL : L.Sublist L1)
    (hm : P.follows .mixedOrders = true) (hsel : Region.noSelect l.toArray = true) (hB : planB .any l.toArray sp l.toArray.size p (Array.replicate l.toArray.size false) = true)
    (R : Value → World → Prop) (act : Value → Nat → Option Addr → Nat → Option Addr → Nat → Option Addr → Nat → Act)
    (h : ∀ K : Act → World → Prop, (∀ q g A1 c1 A2 c2 A3 c3 wx, R q wx → K (act q g A1 c1 A2 c2 A3 c3) wx) → walkV P l.toArray (fun wx => Holds w0 wx L) (fun k => sp.contains k) K p a (fun wx => Holds w0 wx L1))
    (key : ∀ q g A1 c1 A2 c2 A3 c3 wx, R q wx → Q .normal (act q g A1 c1 A2 c2 A3 c3) wx) : (Code.region id l.toArray true).wp P Q a w :=
  region_P L L1 sp p H hL hm hsel hB (h (fun a' w' => Q .normal a' w') key)
/-- a list's slices behind those of another one -/
theorem upon_rows9 {o : Oper} {a : Act} {w0 w : World} {L : List Part} (H : Holds w0 w L) (k j : Nat) {v u : Value} {vs us : List Value} (hk : L[k]? = some (pVals v vs)) (hj : L[j]? = some (pVals u us)) (hu : 0 < us.length) (h1 : ∀ x ∈ us, x.oneCell' = true) (hb : vs.length + us.length ≤ 100000) {C : World → Prop} {R : Value → World → Prop}
    (h : ∀ v' w', Holds w0 w' (L.set k (pVals v' (vs ++ us))) → C w' ∧ R v' w') (s x : Operand)
    (ho : o.op = .call { callee := .builtin .append, args := #[s, x], argTypes := #[26, 26] })
    (hs : a.eval s = v) (hx : a.eval x = u) : upon9 Try.prog C R w ((execOp a.eval o).run Try.prog w) := by
  obtain ⟨g, c, rfl, _, _, h3, h4, h5, _⟩ := row_at (H.row j hj) hu
  obtain ⟨i0, hi, hz0, hz1, hz2⟩ := info_parts infoSl9
  obtain ⟨v', w', hr, h2, _⟩ := run_appH (P := Try.prog) 26 o.type 25 i0 (.slice none 0 0) 1 24 Try.underlying26 hi hz0 hz1 hz2 rfl (by decide) v vs.length vs H k hk ⟨g, 0, none⟩ us.length c us (by omega) (fun j y hj => by
    have : ((⟨g, 0, none⟩ : Addr).add j) = ⟨g, j, none⟩ := by simp [Addr.add]; exact Eq.symm
    rw [this]; exact h5 j y hj) h1 (by unfold maxLen; omega) (by omega)
  rw [upon9_eq, exec_append ho hs hx hr]
  refine h v' w' ?_
  unfold pVals at *
  rw [List.length_append]
  exact h2
theorem rV9_of {w0 w : World} {n : Nat} {F : Value → List Value → List Part} {v : Value} {vs : List Value} {L' : List Part} (hF : F v vs = pVals v vs :: L') (hl : vs.length = n) (h : Holds w0 w (F v vs)) : rV9 w0 n F v w := by
  have h' := h
  rw [hF] at h'
  obtain ⟨A, c, e⟩ := own_slice (h'.row 0 rfl)
  exact ⟨A, c, vs, by rw [e, hl], hl, h⟩
/-- a call that hands back a list of its own -/
theorem upon9_call {P : Program} {f : Nat} {args : Array Value} {w0 wx : World} {L L1 : List Part} {l : List Nat} (hx : Holds w0 wx L) (hD : Holds w0 wx L1) (h : Calls P f args wx fun e wy => ∃ u, e = .returned u ∧ Holds wx wy [pInts u l]) :
    upon9 P (fun w => Holds w0 w L) (fun v w => Holds w0 w (pInts v l :: L1)) wx (.ok (.enter f args) wx) := by
  rw [upon9_eq]
  refine ⟨rfl, h.mono ?_⟩
  rintro e wy ⟨u, rfl, hu⟩
  exact ⟨u, rfl, hx.call hu.low, (hD.joinL hu).perm List.perm_append_comm⟩
theorem v_own9 {P : Program} {ops : Array Oper} {E : Nat → Bool} {k : Nat} {a : Act} {N : Act → (World → Prop) → Prop} {w0 : World} {L L1 : List Part} {o : Oper} (l : List Nat) (ho : ops[k]? = some o) (hE : E k = true) (hw : Region.wanted o (yielded ops a.tmps) = true)
    (h1 : ∀ w, Holds w0 w L → Holds w0 w L1 → upon9 P (fun w => Holds w0 w L) (fun v w => Holds w0 w (pInts v l :: L1)) w ((execOp a.eval o).run P w))
    (h2 : ∀ v, N (a.put o.dst v) (fun wx => Holds w0 wx (pInts v l :: L1))) : opV P ops (fun wx => Holds w0 wx L) E k N a (fun wx => Holds w0 wx L1) :=
  v_s9 (fun v w => Holds w0 w (pInts v l :: L1)) (fun _ _ _ h hb => h.call hb) ho hE hw h1 fun v _ => h2 v
end Rd
theorem vals_one9 {w0 w : World} {vs : List Value} {cs : List (List Nat)} {L : List Part} (hl : vs.length = cs.length) (h : Holds w0 w L) (hs : ∀ a ∈ rowsP vs cs, a ∈ L) : ∀ x ∈ vs, x.oneCell' = true := by
  intro x hx
  obtain ⟨i, hi, rfl⟩ := List.getElem_of_mem hx
  have h1 := rowsP_at (List.getElem?_eq_getElem hi) (List.getElem?_eq_getElem (show i < cs.length by omega))
  have h2 := (h.2.1 _ (hs _ (List.mem_of_getElem? h1))).1
  obtain ⟨A, c, e⟩ := own_slice (show w.ownsRow 0 _ _ _ _ _ from h2)
  rw [e]; rfl
end Go.Proofs.Ytmapjjfefjoemaa

namespace Go.Proofs.Ytmapjjfefjoemaa
open Go.RowKit

/-- s[k:] -/
@[irreducible] def lo9 (A : Option Addr) (n c k : Nat) : Value := .slice (if c = k then A else A.map (·.add (k * 1))) (n - k) (c - k)
theorem lo9_eq (A : Option Addr) (n c k : Nat) : lo9 A n c k = .slice (if c = k then A else A.map (·.add (k * 1))) (n - k) (c - k) := by unfold lo9; rfl
def slLo9 (x y : Value) : Sem Next := do pure (.value (← Instr.sliceAt 25 x (some y) none none))
@[go_sem ↓] theorem exec_slLo9 (ρ : Operand → Value) (dst : Option Tmp) (x y : Operand) (ty : TypeId) (pos : String) (after : Array Edge) (guard : Option (Nat × Bool)) :
    execOp ρ { dst, op := .slice 25 x (some y) none none, type := ty, pos, after, guard } = slLo9 (ρ x) (ρ y) := rfl
theorem run_slLo9 (A : Option Addr) (n c k : Nat) (h1 : k ≤ n) (w : World) : (slLo9 (.slice A n c) (.int .i64 k)).run Try.prog w = .ok (.value (lo9 A n c k)) w := by
  rw [lo9_eq]
  have hn := infoI9
  have hz : Try.prog.cellsOf 2 = 1 := by kernel_rfl
  rcases hi : Try.prog.info? 2 with _ | it
  · rw [hi] at hn; cases hn
  have hz' : (sizeOf 2).run Try.prog w = .ok 1 w := by rw [run_sizeOf w hi, hz]
  have hb : (0 : Int) ≤ (k : Int) ∧ (k : Int) ≤ (n : Int) := by omega
  simp only [slLo9, Instr.sliceAt, Instr.slice, Instr.sliceBounds, Instr.sliceBound, asIntOf, run_underlying Try.underlying25, Sem.run_bind, Sem.run_pure, Result.andThen_ok]
  rw [if_pos hb]
  simp only [Sem.run_pure, Result.andThen_ok, hz', Int.toNat_natCast]
theorem RdZ.drop9 {w : World} {A : Option Addr} {n c k : Nat} {l : List Int} (h : RdZ w (.slice A n c) l) (hk : k ≤ n) (hc : n ≤ c) : RdZ w (lo9 A n c k) (l.drop k) := by
  obtain ⟨A', c', e, h1, h2⟩ := h
  injection e with e1 e2 e3
  subst e1 e2 e3
  rw [lo9_eq]
  refine ⟨_, _, by rw [List.length_drop], by rw [List.length_drop]; omega, fun i x hx => ?_⟩
  rw [List.getElem?_drop] at hx
  obtain ⟨a, rfl, h3, h4⟩ := h2 _ _ hx
  have := (List.getElem?_eq_some_iff.1 hx).1
  rw [if_neg (by omega)]
  refine ⟨a.add (k * 1), rfl, ?_, ?_⟩
  · unfold Addr.add; split <;> exact h3
  · rw [Addr.add_add, Nat.mul_one]; exact h4
theorem RdZ.take9 {w : World} {A : Option Addr} {n c k : Nat} {l : List Int} (h : RdZ w (.slice A n c) l) (hk : k ≤ n) : RdZ w (.slice A k c) (l.take k) := by
  obtain ⟨A', c', e, h1, h2⟩ := h
  injection e with e1 e2 e3
  subst e1 e2 e3
  have hl : (l.take k).length = k := by rw [List.length_take]; omega
  refine ⟨_, _, by rw [hl], by rw [hl]; omega, fun i x hx => ?_⟩
  have := (List.getElem?_eq_some_iff.1 hx).1
  rw [List.getElem?_take_of_lt (by omega)] at hx
  exact h2 _ _ hx
theorem lo9_form (A : Option Addr) (n c k : Nat) : ∃ B d, lo9 A n c k = .slice B (n - k) d := by rw [lo9_eq]; exact ⟨_, _, rfl⟩
/-- two slices in a block, as a list of lists that reads -/
theorem rd_two9 {w : World} {g : Nat} {s1 s2 : Value} {l1 l2 : List Int} (hb : w.heap[g]? = some (.cells #[s1, s2] 25 (0, 0))) (h1 : RdZ w s1 l1) (h2 : RdZ w s2 l2) : RdZ2 w (.slice (some ⟨g, 0, none⟩) 2 2) [l1, l2] := by
  refine ⟨_, _, [s1, s2], rfl, by simp, rfl, fun i u hu => ?_, fun i u l hu hl => ?_⟩
  · refine ⟨⟨g, 0, none⟩, rfl, lt_of_some hb, ?_⟩
    rw [show ((⟨g, 0, none⟩ : Addr).add i) = ⟨g, i, none⟩ by simp [Addr.add]; exact Eq.symm, cell_of_cells, cellsOf_heap hb]
    simpa using hu
  · rcases i with _ | _ | i
    · simp at hu hl; subst hu hl; exact h1
    · simp at hu hl; subst hu hl; exact h2
    · simp at hu
namespace Rd
/-- a call that hands back a list of whole numbers of its own -/
theorem upon9_callZ {P : Program} {f : Nat} {args : Array Value} {w0 wx : World} {L L1 : List Part} {l : List Int} (hx : Holds w0 wx L) (hD : Holds w0 wx L1) (h : Calls P f args wx fun e wy => ∃ u, e = .returned u ∧ Holds wx wy [pZ9 u l]) :
    upon9 P (fun w => Holds w0 w L) (fun v w => Holds w0 w (pZ9 v l :: L1)) wx (.ok (.enter f args) wx) := by
  rw [upon9_eq]
  refine ⟨rfl, h.mono ?_⟩
  rintro e wy ⟨u, rfl, hu⟩
  exact ⟨u, rfl, hx.call hu.low, (hD.joinL hu).perm List.perm_append_comm⟩
theorem v_ownZ9 {P : Program} {ops : Array Oper} {E : Nat → Bool} {k : Nat} {a : Act} {N : Act → (World → Prop) → Prop} {w0 : World} {L L1 : List Part} {o : Oper} (l : List Int) (ho : ops[k]? = some o) (hE : E k = true) (hw : Region.wanted o (yielded ops a.tmps) = true)
    (h1 : ∀ w, Holds w0 w L → Holds w0 w L1 → upon9 P (fun w => Holds w0 w L) (fun v w => Holds w0 w (pZ9 v l :: L1)) w ((execOp a.eval o).run P w))
    (h2 : ∀ v, N (a.put o.dst v) (fun wx => Holds w0 wx (pZ9 v l :: L1))) : opV P ops (fun wx => Holds w0 wx L) E k N a (fun wx => Holds w0 wx L1) :=
  v_s9 (fun v w => Holds w0 w (pZ9 v l :: L1)) (fun _ _ _ h hb => h.call hb) ho hE hw h1 fun v _ => h2 v
/-- a value that is known by what is held -/
theorem v_known9 {P : Program} {ops : Array Oper} {E : Nat → Bool} {k : Nat} {a : Act} {N : Act → (World → Prop) → Prop} {w0 : World} {L L1 : List Part} {o : Oper} (c : Value) (ho : ops[k]? = some o) (hE : E k = true) (hw : Region.wanted o (yielded ops a.tmps) = true)
    (h1 : ∀ w, Holds w0 w L → Holds w0 w L1 → upon9 P (fun w => Holds w0 w L) (fun u w => u = c ∧ Holds w0 w L1) w ((execOp a.eval o).run P w))
    (h2 : N (a.put o.dst c) (fun wx => Holds w0 wx L1)) : opV P ops (fun wx => Holds w0 wx L) E k N a (fun wx => Holds w0 wx L1) := by
  refine v_s9 (fun u w => u = c ∧ Holds w0 w L1) (fun _ _ _ h hb => ⟨h.1, h.2.call hb⟩) ho hE hw h1 ?_
  rintro v ⟨w, _, rfl, _⟩
  refine cast (congrArg (N _) ?_) h2
  funext wx
  exact propext ⟨fun h => ⟨rfl, h⟩, fun h => h.2⟩
theorem upon9_callK {P : Program} {f : Nat} {args : Array Value} {w0 wx : World} {L L1 : List Part} {c : Value} (hx : Holds w0 wx L) (hD : Holds w0 wx L1) (h : Calls P f args wx fun e wy => e = .returned c ∧ Below wx.heap.size wx wy) :
    upon9 P (fun w => Holds w0 w L) (fun u w => u = c ∧ Holds w0 w L1) wx (.ok (.enter f args) wx) := by
  rw [upon9_eq]
  refine ⟨rfl, h.mono ?_⟩
  rintro e wy ⟨rfl, hb⟩
  exact ⟨c, rfl, hx.call hb, rfl, hD.call hb⟩
theorem region_Q3 {P : Program} {id : Nat} {Q : Exit → Act → World → Prop} {a : Act} {w w0 : World} {l : List Oper} (L : List Part) (L1 : List Part) (sp : List Nat) (p : Plan) (H : Holds w0 w L1) (hL : L.Sublist L1)
    (hm : P.follows .mixedOrders = true) (hsel : Region.noSelect l.toArray = true) (hB : planB .any l.toArray sp l.toArray.size p (Array.replicate l.toArray.size false) = true)
    {α β γ : Type} (F : α → β → γ → List Part) (act : α → β → γ → Act)
    (h : ∀ K : Act → World → Prop, (∀ g g' g'' wx, Holds w0 wx (F g g' g'') → K (act g g' g'') wx) → walkV P l.toArray (fun wx => Holds w0 wx L) (fun k => sp.contains k) K p a (fun wx => Holds w0 wx L1))
    (key : ∀ g g' g'' wx, Holds w0 wx (F g g' g'') → Q .normal (act g g' g'') wx) : (Code.region id l.toArray true).wp P Q a w :=
  region_P L L1 sp p H hL hm hsel hB (h (fun a' w' => Q .normal a' w') key)
end Rd
end Go.Proofs.Ytmapjjfefjoemaa

namespace Go.Proofs.Ytmapjjfefjoemaa
open Go.RowKit

def pick3 (f g h : Nat → Nat) (k : Nat) : Nat → Nat := if k = 0 then f else if k = 1 then g else h
@[irreducible] def tv (f g h : Nat → Nat) : Array Value := row 48 fun i => if i < 16 then .int .u8 (f i) else if i < 32 then .int .u8 (g (i - 16)) else .int .u8 (h (i - 32))
theorem tv_size (f g h : Nat → Nat) : (tv f g h).size = 48 := by unfold tv; exact row_size _ _
theorem tv_cases (f g h : Nat → Nat) (i : Nat) : (tv f g h)[i]? = if i < 48 then some (if i < 16 then .int .u8 (f i) else if i < 32 then .int .u8 (g (i - 16)) else .int .u8 (h (i - 32))) else none := by
  unfold tv
  by_cases c : i < 48
  · rw [row_get _ _ c, if_pos c]
  · rw [row_none _ _ c, if_neg c]
theorem tv_cells (f g h : Nat → Nat) : (tv f g h).all (·.oneCell') = true := by
  unfold tv row
  simp only [List.all_toArray, List.all_map, List.all_eq_true, Function.comp]
  intro i _
  split
  · rfl
  · split <;> rfl
theorem tv_part (f g h : Nat → Nat) {k : Nat} (hk : k < 3) : (tv f g h).extract (k * 16) (k * 16 + 16) = av (pick3 f g h k) := by
  apply Array.ext_getElem?
  intro i
  rw [Array.getElem?_extract, tv_cases, av_cases, tv_size]
  by_cases c : i < 16
  · rw [if_pos (by omega), if_pos (by omega), if_pos c]
    unfold pick3
    have : k = 0 ∨ k = 1 ∨ k = 2 := by omega
    rcases this with rfl | rfl | rfl
    · simp [c]
    · have h1 : ¬ 16 + i < 16 := by omega
      have h2 : 16 + i < 32 := by omega
      have h3 : 16 + i - 16 = i := by omega
      simp [h1, h2, h3]
    · have h1 : ¬ 32 + i < 16 := by omega
      have h2 : ¬ 32 + i < 32 := by omega
      have h3 : 32 + i - 32 = i := by omega
      simp [h1, h2, h3]
  · rw [if_neg (by omega), if_neg c]
theorem aggT : AggT 64 48 := ⟨⟨_, Try.underlying64, rfl⟩, by kernel_rfl⟩
def Is48 (c : Array Value) : Prop := c.size = 48
@[go_sem] theorem is48_tv (f g h : Nat → Nat) : Is48 (tv f g h) ↔ True := ⟨fun _ => trivial, fun _ => tv_size f g h⟩
@[go_sem] theorem ones_tv (f g h : Nat → Nat) : Ones (tv f g h) ↔ True := ⟨fun _ => trivial, fun _ => tv_cells f g h⟩

/-- an entry of it by value -/
def idxT (v i : Value) : Sem Next := do pure (.value (← Instr.index 64 v i))
theorem run_idx3 (f g h : Nat → Nat) {k : Nat} (hk : k < 3) (w : World) : (Instr.index 64 (.agg (tv f g h)) (.int .i64 k)).run Try.prog w = .ok (.agg (av (pick3 f g h k))) w := by
  obtain ⟨d, hd, hd'⟩ := aggP.und
  have hz : Try.prog.cellsOf 29 = 16 := by kernel_rfl
  have hn : (Try.prog.info? 29).map (·.size) = some 16 := infoP
  rcases hi : Try.prog.info? 29 with _ | it
  · rw [hi] at hn; cases hn
  · have hb : (0 : Int) ≤ (k : Int) ∧ (k : Int) < ((3 : Nat) : Int) := by omega
    have ha : (isAgg 29).run Try.prog w = .ok true w := by
      cases d <;> first | (simp at hd'; done) | simp [isAgg, run_underlying hd]
    have hz' : (sizeOf 29).run Try.prog w = .ok 16 w := by rw [run_sizeOf w hi, hz]
    simp only [Instr.index, asIntOf, run_underlying Try.underlying64, Sem.run_bind, Sem.run_pure, Result.andThen_ok]
    rw [if_pos hb]
    simp only [part, Sem.run_bind, hz', ha, Result.andThen_ok, if_true, Sem.run_pure, Int.toNat_natCast, tv_part f g h hk]
section
variable (ρ : Operand → Value) (dst : Option Tmp) (x y : Operand) (ty : TypeId) (pos : String) (after : Array Edge) (guard : Option (Nat × Bool))
@[go_sem ↓] theorem exec_idxT : execOp ρ { dst, op := .index 64 x y, type := ty, pos, after, guard } = idxT (ρ x) (ρ y) := rfl
@[go_sem ↓] theorem exec_storeT : execOp ρ { dst, op := .store 64 x y, type := ty, pos, after, guard } = storeT 64 (ρ x) (ρ y) := rfl
end
@[go_sem] theorem run_idxT (f g h : Nat → Nat) {k : Nat} (hk : k < 3) (w : World) : (idxT (.agg (tv f g h)) (.int .i64 k)).run Try.prog w = .ok (.value (.agg (av (pick3 f g h k)))) w := by
  simp only [idxT, Sem.run_bind, run_idx3 f g h hk w, Result.andThen_ok, Sem.run_pure]
@[go_sem] theorem run_storeT3 {w : World} {g : Nat} {cs : Array Value} (h : rowOk w g 48) (hs : Is48 cs) (hc : Ones cs) :
    (storeT 64 (.pointer (some ⟨g, 0, none⟩)) (.agg cs)).run Try.prog w = .ok .skip (w.setRow g cs) := run_storeT aggT h hs hc

set_option maxRecDepth 100000 in
theorem builtT (f g h : Nat → Nat) : Try.prog.built 64 [(0, .agg (av f)), (1, .agg (av g)), (2, .agg (av h))] = some (tv f g h) := by
  have hu := Try.underlying64
  have hz : (Try.prog.info? 64).map (·.zero) = some (some (.agg (tv (fun _ => 0) (fun _ => 0) (fun _ => 0)))) := by unfold tv row; kernel_rfl
  have hn : (Try.prog.info? 29).map (·.size) = some 16 := infoP
  unfold Program.built
  rcases hi : Try.prog.info? 64 with _ | it
  · rw [hi] at hz; cases hz
  · rcases hj : Try.prog.info? 29 with _ | ip
    · rw [hj] at hn; cases hn
    · rw [hi] at hz
      rw [hj] at hn
      have hz' : it.zero = some (.agg (tv (fun _ => 0) (fun _ => 0) (fun _ => 0))) := by simpa using hz
      have hn' : ip.size = 16 := by simpa using hn
      rw [hu]
      simp only [hz', hj, hn', Instr.fill, Value.cells, Nat.zero_mul, Nat.one_mul, av_size, splice_eq, splice_size, tv_size]
      rw [if_neg (by simp), if_neg (by simp), if_neg (by simp)]
      congr 1
      apply Array.ext_getElem?
      intro i
      have l1 : (av f).toList.length = 16 := by simpa using av_size f
      have l2 : (av g).toList.length = 16 := by simpa using av_size g
      have l3 : (av h).toList.length = 16 := by simpa using av_size h
      rw [foldset, foldset, foldset, tv_cases, tv_cases, splice_size, splice_size, tv_size, l1, l2, l3, Array.getElem?_toList, Array.getElem?_toList, Array.getElem?_toList, av_cases, av_cases, av_cases]
      by_cases h1 : i < 16
      · rw [if_neg (by omega), if_neg (by omega), if_pos (by omega), if_pos (by omega), if_pos (by omega), if_pos h1]; simp
      · by_cases h2 : i < 32
        · rw [if_neg (by omega), if_pos (by omega), if_pos (by omega), if_pos (by omega), if_neg h1, if_pos h2]
        · by_cases h3 : i < 48
          · rw [if_pos (by omega), if_pos (by omega), if_pos h3, if_neg h1, if_neg h2]
          · rw [if_neg (by omega), if_neg (by omega), if_neg (by omega), if_neg h3, if_neg h3]
def buildT (ps : Array (Nat × Value)) : Sem Next := do pure (.value (← Instr.build 64 ps))
@[go_sem ↓] theorem exec_buildT (ρ : Operand → Value) (dst : Option Tmp) (parts : Array (Nat × Operand)) (ty : TypeId) (pos : String) (after : Array Edge) (guard : Option (Nat × Bool)) :
    execOp ρ { dst, op := .build 64 parts, type := ty, pos, after, guard } = buildT (parts.map fun (i, x) => (i, ρ x)) := rfl
@[go_sem] theorem run_buildT (f g h : Nat → Nat) (w : World) : (buildT #[(0, .agg (av f)), (1, .agg (av g)), (2, .agg (av h))]).run Try.prog w = .ok (.value (.agg (tv f g h))) w := by
  simp only [buildT, Sem.run_bind, run_build (P := Try.prog) w 64 #[(0, .agg (av f)), (1, .agg (av g)), (2, .agg (av h))] _ (builtT f g h), Result.andThen_ok, Sem.run_pure]

set_option maxRecDepth 100000 in
set_option maxHeartbeats 1000000 in
theorem turnsOf_any (f g : Nat → Nat) (m : Nat) (hd : DesN f g m) (w : World) :
    Calls Try.prog 54 #[.agg (dv m f g)] w fun e w' => e = .returned (.agg (tv f g (faceF f g m))) ∧ Below w.heap.size w w' := by
  have C1 := hide fun w => face_any f g m hd.le hd.bf.1 hd.bg.1 w
  generalize faceF f g m = F at *
  clear hd
  have hn := dv_n m f g
  go_enter Try.func54, Try.ntmps54
  go_wp2
  generalize hW : (w.alloc (.cells (dv m f g) 31)).alloc _ = W
  have c0 : cellsOf W w.heap.size = dv m f g := by rw [← hW]; exact cellsOf_heap (heap1 rfl)
  have r1 : rowOk W (w.heap.size + 1) 48 := by rw [← hW]; exact ⟨_, _, heap_at _ _ _ (by simp), by simp⟩
  have b0 : Below w.heap.size w W := by rw [← hW]; exact below2 _ _ _
  have l0 : w.heap.size < W.heap.size := by rw [← hW]; simp <;> omega
  clear hW
  refine region_tail (Grown W) 7 (by kernel_rfl) (by kernel_rfl) (Grown.drew W) ?_
  simp only [List.take_succ_cons, List.take_zero, List.drop_succ_cons, List.drop_zero]
  iterate 7
    apply q_step
    · go_simp
    · intro wx hx
      have e0 := hx.cells c0 l0
      have n0 : wx.cell? ⟨w.heap.size, 0, none⟩ = some (.int .i64 m) := by rw [cell_of_cells, e0]; exact hn
      first
        | (go_simp; exact rfl)
        | (go_simp; go_at_call 70; exact Calls.mono (C1.out wx) fun e w' h => ⟨h.1, hx.call h.2⟩)
  refine wpQuiet_nil ?_
  intro w1 hx
  have r2 := hx.row r1
  have b2 : Below w.heap.size w w1 := b0.trans (Below.mono hx b0.size)
  clear c0 r1 b0 l0 hx
  go_wp2
  obtain ⟨t, ht, _⟩ := r2.heap
  exact res_agg (p := 2) (g := w.heap.size + 1) aggT (tv_size f g F) rfl rfl rfl (setRow_heap _ _ _ _ t (0, 0) ht) ⟨rfl, below_setRow b2 (by omega) _⟩
end Go.Proofs.Ytmapjjfefjoemaa

namespace Go.Proofs.Ytmapjjfefjoemaa
open Go.RowKit

def pick2 (f g : Nat → Nat) (k : Nat) : Nat → Nat := if k = 0 then f else g
@[irreducible] def tw9 (f g : Nat → Nat) : Array Value := row 32 fun i => if i < 16 then .int .u8 (f i) else .int .u8 (g (i - 16))
theorem tw9_size (f g : Nat → Nat) : (tw9 f g).size = 32 := by unfold tw9; exact row_size _ _
theorem tw9_cases (f g : Nat → Nat) (i : Nat) : (tw9 f g)[i]? = if i < 32 then some (if i < 16 then .int .u8 (f i) else .int .u8 (g (i - 16))) else none := by
  unfold tw9
  by_cases c : i < 32
  · rw [row_get _ _ c, if_pos c]
  · rw [row_none _ _ c, if_neg c]
theorem tw9_part (f g : Nat → Nat) {k : Nat} (hk : k < 2) : (tw9 f g).extract (k * 16) (k * 16 + 16) = av (pick2 f g k) := by
  apply Array.ext_getElem?
  intro i
  rw [Array.getElem?_extract, tw9_cases, av_cases, tw9_size]
  by_cases c : i < 16
  · rw [if_pos (by omega), if_pos (by omega), if_pos c]
    unfold pick2
    have : k = 0 ∨ k = 1 := by omega
    rcases this with rfl | rfl
    · simp [c]
    · have h1 : ¬ 16 + i < 16 := by omega
      have h3 : 16 + i - 16 = i := by omega
      simp [h1, h3]
  · rw [if_neg (by omega), if_neg c]
def idxW (v i : Value) : Sem Next := do pure (.value (← Instr.index 111 v i))
theorem run_idx2 (f g : Nat → Nat) {k : Nat} (hk : k < 2) (w : World) : (Instr.index 111 (.agg (tw9 f g)) (.int .i64 k)).run Try.prog w = .ok (.agg (av (pick2 f g k))) w := by
  obtain ⟨d, hd, hd'⟩ := aggP.und
  have hz : Try.prog.cellsOf 29 = 16 := by kernel_rfl
  have hn : (Try.prog.info? 29).map (·.size) = some 16 := infoP
  rcases hi : Try.prog.info? 29 with _ | it
  · rw [hi] at hn; cases hn
  · have hb : (0 : Int) ≤ (k : Int) ∧ (k : Int) < ((2 : Nat) : Int) := by omega
    have ha : (isAgg 29).run Try.prog w = .ok true w := by
      cases d <;> first | (simp at hd'; done) | simp [isAgg, run_underlying hd]
    have hz' : (sizeOf 29).run Try.prog w = .ok 16 w := by rw [run_sizeOf w hi, hz]
    simp only [Instr.index, asIntOf, run_underlying Try.underlying111, Sem.run_bind, Sem.run_pure, Result.andThen_ok]
    rw [if_pos hb]
    simp only [part, Sem.run_bind, hz', ha, Result.andThen_ok, if_true, Sem.run_pure, Int.toNat_natCast, tw9_part f g hk]
@[go_sem ↓] theorem exec_idxW (ρ : Operand → Value) (dst : Option Tmp) (x y : Operand) (ty : TypeId) (pos : String) (after : Array Edge) (guard : Option (Nat × Bool)) :
    execOp ρ { dst, op := .index 111 x y, type := ty, pos, after, guard } = idxW (ρ x) (ρ y) := rfl
@[go_sem] theorem run_idxW (f g : Nat → Nat) {k : Nat} (hk : k < 2) (w : World) : (idxW (.agg (tw9 f g)) (.int .i64 k)).run Try.prog w = .ok (.value (.agg (av (pick2 f g k)))) w := by
  simp only [idxW, Sem.run_bind, run_idx2 f g hk w, Result.andThen_ok, Sem.run_pure]
set_option maxRecDepth 100000 in
theorem builtW (f g : Nat → Nat) : Try.prog.built 111 [(0, .agg (av f)), (1, .agg (av g))] = some (tw9 f g) := by
  have h := built_arr (P := Try.prog) (T := 111) (E := 29) (n := 2) (s := 16) (N := 32) Try.underlying111 (by kernel_rfl) infoP [(0, .agg (av f)), (1, .agg (av g))]
    (by simp [Fits, Value.cells, av_size]) (by simp [flatC, Value.cells, av_size])
  rw [h]
  congr 1
  apply Array.ext_getElem?
  intro i
  rw [tw9_cases]
  have l1 : (av f).toList.length = 16 := by simpa using av_size f
  have l2 : (av g).toList.length = 16 := by simpa using av_size g
  simp only [flatC, List.flatMap_cons, List.flatMap_nil, List.append_nil, Value.cells, List.getElem?_toArray]
  by_cases h1 : i < 16
  · rw [List.getElem?_append_left (by omega), Array.getElem?_toList, av_cases, if_pos h1, if_pos (by omega), if_pos h1]
  · rw [List.getElem?_append_right (by omega), l1, Array.getElem?_toList, av_cases]
    by_cases h2 : i < 32
    · rw [if_pos (by omega), if_pos h2, if_neg h1]
    · rw [if_neg (by omega), if_neg h2]
def buildW (ps : Array (Nat × Value)) : Sem Next := do pure (.value (← Instr.build 111 ps))
@[go_sem ↓] theorem exec_buildW (ρ : Operand → Value) (dst : Option Tmp) (parts : Array (Nat × Operand)) (ty : TypeId) (pos : String) (after : Array Edge) (guard : Option (Nat × Bool)) :
    execOp ρ { dst, op := .build 111 parts, type := ty, pos, after, guard } = buildW (parts.map fun (i, x) => (i, ρ x)) := rfl
@[go_sem] theorem run_buildW (f g : Nat → Nat) (w : World) : (buildW #[(0, .agg (av f)), (1, .agg (av g))]).run Try.prog w = .ok (.value (.agg (tw9 f g))) w := by
  simp only [buildW, Sem.run_bind, run_build (P := Try.prog) w 111 #[(0, .agg (av f)), (1, .agg (av g))] _ (builtW f g), Result.andThen_ok, Sem.run_pure]
end Go.Proofs.Ytmapjjfefjoemaa

namespace Go.Proofs.Ytmapjjfefjoemaa
open Go.RowKit

def zer9 (l : List Int) (cs : List (List Nat)) : Bool := cs.all fun c => sm9 l c == 0
theorem zer9_bad {l : List Int} {cs : List (List Nat)} {i : Nat} (h : i < cs.length) (hb : (sm9 l cs[i] != 0) = true) : zer9 l cs = false := by
  unfold zer9
  rw [List.all_eq_false]
  exact ⟨cs[i], List.getElem_mem h, by simpa using hb⟩
theorem zer9_good {l : List Int} {cs : List (List Nat)} (h : ∀ i (hi : i < cs.length), (sm9 l cs[i] != 0) = false) : zer9 l cs = true := by
  unfold zer9
  rw [List.all_eq_true]
  intro c hc
  obtain ⟨i, hi, rfl⟩ := List.getElem_of_mem hc
  simpa using h i hi
theorem zer9_append (l : List Int) (a b : List (List Nat)) : zer9 l (a ++ b) = (zer9 l a && zer9 l b) := by unfold zer9; exact List.all_append
/-- a chain that sums up to nothing at each vertex -/
def cyc9 (l : List Int) (f g : Nat → Nat) (m : Nat) : Bool := zer9 l (cycs f m ++ cycs g m)
theorem pick2_perm {f g : Nat → Nat} {m k : Nat} (hd : DesN f g m) : PermN (pick2 f g k) m := by
  unfold pick2
  split
  · exact hd.black
  · exact hd.white
theorem cyc_lt9 {p : Nat → Nat} {m : Nat} (hp : PermN p m) {x : Nat} {c : List Nat} (h1 : c ∈ cycs p m) (h2 : x ∈ c) : x < m :=
  List.mem_range.1 ((cycs_flat hp.2.2.1 hp.2.1).subset (List.mem_flatten.2 ⟨c, h1, h2⟩))
theorem cyc_len9 {p : Nat → Nat} {m : Nat} (hp : PermN p m) {c : List Nat} (h1 : c ∈ cycs p m) : c.length ≤ 16 := by
  have := (lens_pos hp.2.2.1 hp.2.1 (List.mem_map.2 ⟨c, h1, rfl⟩)).2
  have := hp.2.1
  omega
theorem rd_nums {B : Nat} {w : World} {v : Value} {l : List Nat} (h : Own1 B w v l) (hl : l.length ≤ 1000000) : RdZ w v (zs9 l) := by
  have h1 := h.z
  exact OwnZ.rd h1 (by rw [zs9_length]; omega)
set_option maxRecDepth 100000 in
set_option maxHeartbeats 2000000 in
theorem isCycle_any (v : Value) (l : List Int) (f g : Nat → Nat) (m : Nat) (hd : DesN f g m) (hl : l.length = m) (hs : ∀ x ∈ l, -100000 ≤ x ∧ x ≤ 100000) (w : World) (hv : RdZ w v l) :
    Calls Try.prog 75 #[.agg (dv m f g), v] w fun e w' => e = .returned (.bool (cyc9 l f g m)) ∧ Below w.heap.size w w' := by
  have CL := hide fun (k : Nat) w => cycleList_any (pick2 f g k) m (pick2_perm hd) w
  have CB := hide fun (k : Nat) (x : Nat) (c : List Nat) (h1 : c ∈ cycs (pick2 f g k) m) (h2 : x ∈ c) => cyc_lt9 (pick2_perm hd) h1 h2
  have CN := hide fun (k : Nat) (c : List Nat) (h1 : c ∈ cycs (pick2 f g k) m) => cyc_len9 (pick2_perm hd) h1
  have CK := hide fun (k : Nat) => cycs_le (pick2_perm (k := k) hd)
  obtain ⟨r, hr⟩ : ∃ r, r = cyc9 l f g m := ⟨_, rfl⟩
  rw [← hr]
  have HR := hide (hr.trans (zer9_append l (cycs f m) (cycs g m))); clear hr
  have HS := hide hs; clear hs
  have HL := hide hl; clear hl
  have HV := hide hv
  have hm := hd.le
  clear hd
  obtain ⟨A0, c0, rfl, _⟩ := hv.form
  clear hv
  have HH0 := (Holds.start w).blk (dv m f g) 31 w.heap.size rfl
  have hn := dv_n m f g
  go_enter Try.func75, Try.ntmps75
  go_wp2
  go_loopw [14] (fun t wr => ∃ k : Nat, k ≤ 2 ∧ t = .int .i64 k ∧ Hid (∀ j, j < k → zer9 l (cycs (pick2 f g j) m) = true) ∧ Holds w wr [pBlk w.heap.size (dv m f g) 31]) (fun t _ => 2 - (intOf t).toNat)
  case atStart => exact ⟨0, Nat.zero_le _, rfl, hide (fun j h => by omega), HH0⟩
  case round =>
    clear HH0
    obtain ⟨k, hk, rfl, hZ, hH⟩ := hrel
    by_cases hlt : k < 2
    · have hlti : (k : Int) < 2 := by omega
      have cn := hH.cell 0 rfl hn
      have HB := (hH.blk (av (pick2 f g k)) 29 wr.heap.size rfl)
      have cn2 := hH.lt 0 rfl
      have cd2 := hH.cells 0 rfl
      have CL2 := hide fun w => CL.out k w
      have CB2 := hide fun x c h1 h2 => CB.out k x c h1 h2
      have CN2 := hide fun c h1 => CN.out k c h1
      have hK := CK.out k
      have hF1 := hide (fun (h : zer9 l (cycs (pick2 f g k) m) = false) => (by
        rw [HR.out]
        have : k = 0 ∨ k = 1 := by omega
        rcases this with rfl | rfl
        · have e : pick2 f g 0 = f := rfl
          rw [e] at h; rw [h, Bool.false_and]
        · have e : pick2 f g 1 = g := rfl
          rw [e] at h; rw [h, Bool.and_false] : r = false))
      have hF2 := hide (fun (h : zer9 l (cycs (pick2 f g k) m) = true) => (fun (j : Nat) (hj : j < k + 1) => (by
        by_cases e : j = k
        · subst e; exact h
        · exact hZ.out j (by omega) : zer9 l (cycs (pick2 f g j) m) = true)))
      clear hZ
      generalize cycs (pick2 f g k) m = cs at *
      go_wp2_with fail
      refine (CL2.out _).mono ?_
      rintro e w1 ⟨v1, rfl, hb, ho⟩
      obtain ⟨A, c, vs, rfl, hv⟩ := own2_form ho
      have HLV := hide hv.len
      have H1 := (HB.joinL (Holds.ofOwn2 hb hv)).tail
      clear hb ho hv HB hH cn cn2 cd2
      go_wp2
      go_loopw [22] (fun t wq => ∃ i : Nat, i ≤ cs.length ∧ t = .int .i64 i ∧ Hid (∀ j (hj : j < cs.length), j < i → (sm9 l cs[j] != 0) = false) ∧ Holds w wq (pBlk w.heap.size (dv m f g) 31 :: pVals (.slice A cs.length c) vs :: rowsP vs cs)) (fun t _ => cs.length - (intOf t).toNat)
      case atStart => exact ⟨0, Nat.zero_le _, rfl, hide (fun j hj h => by omega), H1⟩
      case round =>
        clear H1
        obtain ⟨i, hi, rfl, hZ, hH⟩ := hrel
        by_cases hil : i < cs.length
        · have hil' : (i : Int) < cs.length := by omega
          obtain ⟨g0, d0, A', c', e0, hvi, x1, hpart⟩ := hH.rowAt HLV.out 1 rfl (fun _ => rfl) hil
          injection e0 with e0 e0a e0b
          subst e0
          clear e0a e0b hvi
          have hmem := List.getElem_mem hil
          have hci := CN2.out _ hmem
          have RU := hide (rd_nums (hH.own1 (i + (1 + 1)) hpart) (by omega))
          have SC := hide fun (w : World) => sumAt_any (.slice A0 l.length c0) (.slice A' cs[i].length c') l cs[i] HS.out (by omega) (fun x hx => by rw [HL.out]; exact CB2.out x _ hmem hx) w
          have RV := hide (HV.out.below hH.low (Nat.le_refl _))
          rcases hz : (sm9 l cs[i] != 0) with _ | _
          · have hZ' := hide (fun (j : Nat) (hj : j < cs.length) (h : j < i + 1) => (by
              by_cases e : j = i
              · subst e; exact hz
              · exact hZ.out j hj (by omega) : (sm9 l cs[j] != 0) = false))
            clear hpart hmem
            generalize cs[i] = ci at *
            generalize sm9 l ci = s at *
            go_wp2_with fail
            refine (SC.out _ RV.out RU.out).mono ?_
            rintro e w2 ⟨rfl, rfl⟩
            go_wp2
            go_roundw
            case rel => exact ⟨i + 1, by omega, by go_num, hZ', hH⟩
            case measure => simp [intOf]; omega
          · have hF := hide (hF1.out (zer9_bad hil hz))
            clear hpart hmem
            generalize cs[i] = ci at *
            generalize sm9 l ci = s at *
            go_wp2_with fail
            refine (SC.out _ RV.out RU.out).mono ?_
            rintro e w2 ⟨rfl, rfl⟩
            go_wp2
            go_ret
            exact ⟨by rw [hF.out]; rfl, hH.low⟩
        · obtain rfl : i = cs.length := by omega
          have hF := hide (hF2.out (zer9_good fun j hj => hZ.out j hj hj))
          have hH2 := hH.sub (L' := [pBlk w.heap.size (dv m f g) 31]) (.cons_cons _ (List.nil_sublist _))
          clear hZ hH hi hil
          go_wp2
          go_roundw
          case rel => exact ⟨k + 1, by omega, by go_num, hF, hH2⟩
          case measure => simp [intOf]; omega
    · obtain rfl : k = 2 := by omega
      have hF := hide (show r = true by rw [HR.out]; have a := hZ.out 0 (by omega); have b := hZ.out 1 (by omega); exact (Bool.and_eq_true _ _).mpr ⟨a, b⟩)
      clear hZ hk hlt
      go_wp2
      go_ret
      exact ⟨by rw [hF.out]; rfl, hH.low⟩
end Go.Proofs.Ytmapjjfefjoemaa

namespace Go.Proofs.Ytmapjjfefjoemaa
open Go.RowKit

set_option maxRecDepth 100000 in
set_option maxHeartbeats 2000000 in
theorem split_any (e0 e1 : Nat → Nat) (he : ∀ x, x < 16 → e0 x < 32 ∧ e1 x < 32) (v : Value) (l : List Nat) (hl : ∀ x ∈ l, x < 16) (hn : l.length ≤ 16) (w : World) (hv : RdZ w v (zs9 l)) :
    Calls Try.prog 108 #[.agg (nv9 (lk9 e0 e1)), v] w fun e w' => ∃ v1 v2, e = .returned (.tuple #[v1, v2]) ∧ Holds w w' [pInts v1 (spl9 e0 e1 l).1, pInts v2 (spl9 e0 e1 l).2] := by
  obtain ⟨A, c, rfl, _⟩ := hv.form
  have HV := hide hv; clear hv
  rw [zs9_length]
  have HE := hide he; clear he
  have HL := hide hl; clear hl
  have CP := hide fun v c hc hn w hv => pieces_any e0 e1 HE.out v c hc hn w hv
  have HM := hide fun k x => spl9_mem e0 e1 (l.take k) x
  have HN := hide fun k => spl9_len e0 e1 (l.take k)
  have HT := hide fun k (h : k < l.length) => spl9_take e0 e1 l h
  have HH0 := (Holds.start w).blk (nv9 (lk9 e0 e1)) 118 w.heap.size rfl
  have HH1 := (HH0.nilRow 2 1).nilRow 2 1
  go_enter Try.func108, Try.ntmps108
  go_wp2
  go_loopw [4, 5, 11] (fun q1 q2 t wr => ∃ i : Nat, i ≤ l.length ∧ t = .int .i64 i ∧ Holds w wr [pInts q1 (spl9 e0 e1 (l.take i)).1, pInts q2 (spl9 e0 e1 (l.take i)).2, pBlk w.heap.size (nv9 (lk9 e0 e1)) 118]) (fun _ _ t _ => l.length - (intOf t).toNat)
  case atStart => exact ⟨0, Nat.zero_le _, rfl, HH1⟩
  case round =>
    clear HH0 HH1
    obtain ⟨i, hi, rfl, hH⟩ := hrel
    have hnn := HN.out i
    rw [List.length_take] at hnn
    by_cases hil : i < l.length
    · have hil' : i < (zs9 l).length := by rw [zs9_length]; exact hil
      obtain ⟨p0, rfl, _, d1⟩ := (HV.out.below hH.low (Nat.le_refl _)).at hil'
      rw [zs9_get hil] at d1
      have hx := HL.out _ (List.getElem_mem hil)
      have hst := HT.out i hil
      have hmem := fun x h => HL.out x (List.mem_of_mem_take ((HM.out i x).2 (.inl h)))
      obtain ⟨s, hs⟩ : ∃ s, s = spl9 e0 e1 (l.take i) := ⟨_, rfl⟩
      rw [← hs] at hH hst hmem hnn
      generalize l[i] = x at *
      clear hs hil'
      obtain ⟨c1, o1⟩ := s
      simp only at hH hnn hmem
      have RC := hide (rd_nums (hH.own1 0 rfl) (by omega))
      have CP2 := hide fun v w hv => CP.out v c1 hmem (by omega) w hv
      have hst' := hst
      unfold spst9 at hst'
      simp only at hst'
      have hpl := pcs9_lt (e0 := e0) (e1 := e1) c1 (fun y hy => HE.out y (hmem y hy))
      clear hst hmem
      obtain ⟨hx0, hx1⟩ := HE.out x hx
      generalize pcs9 e0 e1 c1 = h at *
      have HST := hide hst'; clear hst'
      have cd := hH.cells 2 rfl
      obtain ⟨A1, n1, rfl⟩ := hH.intsForm 0 rfl
      obtain ⟨A2, n2, rfl⟩ := hH.intsForm 1 rfl
      have y0 := nv9_e0 e0 e1 hx
      have y1 := nv9_e1 e0 e1 hx
      have hxi : (x : Int) < 16 := by omega
      generalize e0 x = a0 at *
      generalize e1 x = a1 at *
      have q0 : (a0 : Int) < 32 := by omega
      have q1 : (a1 : Int) < 32 := by omega
      have y2 := nv9_get h hx0
      have y3 := nv9_get h hx1
      have hk0 := hpl a0 hx0
      have hk1 := hpl a1 hx1
      generalize h a0 = k0 at *
      generalize h a1 = k1 at *
      clear hpl
      go_wp2_with fail
      refine (CP2.out _ _ RC.out).mono ?_
      rintro e w1 ⟨rfl, hb⟩
      have H1 := hH.call hb
      have HB := H1.blk (nv9 h) 122 w1.heap.size rfl
      clear hb hH cd d1
      go_wp2
      have HB2 := hide HB
      have z0 := HB.cell 3 rfl y0
      have z1 := HB.cell 3 rfl y1
      have z2 := HB.cell 0 rfl y2
      have z3 := HB.cell 0 rfl y3
      clear HB H1
      generalize w1.alloc (.cells (nv9 h) 122) = w2 at *
      have hln1 : c1.length < 9223372036854775807 := by omega
      by_cases hq : k0 = k1
      · have hne : ((k0 : Int) != (k1 : Int)) = false := by simp; omega
        rw [if_pos hq] at HST
        clear hq
        go_quiet (fail)
        have hHz := HB2.out.drewN nq
        clear HB2 z0 z1 z2 z3
        generalize w2.drewN nq = wz at *
        go_wp2_with (at_builtin; refine appI ((hHz.tail).alloc _) 1 rfl wz.heap.size [x] 2 ?_ ?_ rfl _ _ rfl rfl rfl ?_)
        · exact heap_at _ _ _ rfl
        · simp only [List.length_cons, List.length_nil]; omega
        intro v' w' h1
        have HQ := hide h1
        clear hHz h1
        go_wp2
        go_roundw
        case rel => exact ⟨i + 1, by omega, by go_num, by rw [HST.out]; exact HQ.out⟩
        case measure => simp [intOf]; omega
      · have hne : ((k0 : Int) != (k1 : Int)) = true := by simp; omega
        rw [if_neg hq] at HST
        clear hq
        go_quiet (fail)
        have hHz := HB2.out.drewN nq
        clear HB2 z0 z1 z2 z3
        generalize w2.drewN nq = wz at *
        go_wp2_with (at_builtin; refine appI ((hHz.tail).alloc _) 0 rfl wz.heap.size [x] 2 ?_ ?_ rfl _ _ rfl rfl rfl ?_)
        · exact heap_at _ _ _ rfl
        · simp only [List.length_cons, List.length_nil]; omega
        intro v' w' h1
        have HQ := hide h1
        clear hHz h1
        go_wp2
        go_roundw
        case rel => exact ⟨i + 1, by omega, by go_num, by rw [HST.out]; exact HQ.out⟩
        case measure => simp [intOf]; omega
    · obtain rfl : i = l.length := by omega
      rw [List.take_length] at hH
      have HQ := hide (hH.sub (L' := [pInts u4 (spl9 e0 e1 l).1, pInts u5 (spl9 e0 e1 l).2]) (.cons_cons _ (.cons_cons _ (.cons _ (.refl _)))))
      clear hi hil hH hnn
      go_wp2
      go_ret2
      exact ⟨_, _, rfl, HQ.out⟩
end Go.Proofs.Ytmapjjfefjoemaa

namespace Go.Proofs.Ytmapjjfefjoemaa
open Go.RowKit

theorem Holds.rowCell9 {w0 w : World} {L : List Part} (h : Holds w0 w L) (i : Nat) {g n c : Nat} {e : TypeId} {xs : List Value} (hi : L[i]? = some (pRow (.slice (some ⟨g, 0, none⟩) n c) e 1 n xs)) {j : Nat} {u : Value} (hj : xs[j]? = some u) :
    w.cell? ⟨g, j, none⟩ = some u ∧ w.frozen? ⟨g, j, none⟩ = false := by
  have hl : xs.length = n := by have := (h.row i hi).1; omega
  have := (List.getElem?_eq_some_iff.1 hj).1
  obtain ⟨g', c', e, _, _, _, _, h6, h7⟩ := row_at (h.row i hi) (by omega : 0 < n)
  simp only [Value.slice.injEq, Option.some.injEq, Addr.mk.injEq] at e
  obtain ⟨⟨rfl, _, _⟩, _, _⟩ := e
  exact ⟨h6 j u hj, h7 j⟩
/-- the first k numbers in their places, zeros behind them -/
def upr9 (n k : Nat) : List Nat := (List.range n).map fun i => if i < k then i else 0
theorem upr9_length (n k : Nat) : (upr9 n k).length = n := by simp [upr9]
theorem upr9_zero (n : Nat) : upr9 n 0 = List.replicate n 0 := by
  unfold upr9
  apply List.ext_getElem
  · simp
  · intro i h1 h2; simp
theorem upr9_end (n : Nat) : upr9 n n = List.range n := by
  unfold upr9
  apply List.ext_getElem
  · simp
  · intro i h1 h2
    simp at h1
    simp [h1]
theorem upr9_set (n k : Nat) (h : k < n) : (upr9 n k).set k k = upr9 n (k + 1) := by
  unfold upr9
  apply List.ext_getElem
  · simp
  · intro i h1 h2
    simp at h2
    rw [List.getElem_set]
    simp
    split
    · rename_i e; subst e; simp
    · by_cases c : i < k
      · rw [if_pos c, if_pos (by omega)]
      · rw [if_neg c, if_neg (by omega)]
theorem nums_set9 (l : List Nat) (i x : Nat) : (nums l).set i (.int .i64 (x : Int)) = nums (l.set i x) := by unfold nums; rw [List.map_set]
/-- the tree edges and the others -/
def tre9 (f g : Nat → Nat) (m : Nat) : List Nat × List Nat := spl9 (vb9 f m) (vw9 g m) (List.range m)
set_option maxRecDepth 100000 in
set_option maxHeartbeats 2000000 in
theorem splitByTree_any (f g : Nat → Nat) (m : Nat) (hd : DesN f g m) (w : World) :
    Calls Try.prog 77 #[.agg (dv m f g)] w fun e w' => ∃ v1 v2, e = .returned (.tuple #[v1, v2]) ∧ Holds w w' [pInts v1 (tre9 f g m).1, pInts v2 (tre9 f g m).2] := by
  have CV := hide fun w => vertexLinks_any f g m hd w
  have CS := hide fun v w hv => split_any (vb9 f m) (vw9 g m) (vl9_lt hd) v (List.range m) (fun x hx => by have := List.mem_range.1 hx; have := hd.le; omega) (by rw [List.length_range]; exact hd.le) w hv
  have hT : tre9 f g m = spl9 (vb9 f m) (vw9 g m) (List.range m) := rfl
  rw [hT]
  generalize spl9 (vb9 f m) (vw9 g m) (List.range m) = T at *
  generalize lk9 (vb9 f m) (vw9 g m) = E at *
  have hm := hd.le
  have hn := dv_n m f g
  clear hd hT
  obtain ⟨i0, hi, hz0, hz1, hz2⟩ := info_parts info64
  have I0 := hide (And.intro hi (And.intro hz0 (And.intro hz1 hz2))); clear hi hz0 hz1 hz2
  have HH0 := (Holds.start w).blk (dv m f g) 31 w.heap.size rfl
  go_enter Try.func77, Try.ntmps77
  go_wp2_with (refine makeH (P := Try.prog) rfl 25 _ _ rfl 2 i0 (.int .i64 0) 8 Try.underlying25 I0.out.1 I0.out.2.1 I0.out.2.2.1 I0.out.2.2.2 rfl m .i64 .i64 rfl rfl (by omega) (by decide) HH0 ?_)
  intro w1 H1
  clear HH0
  have H2 : Holds w w1 [pRow (.slice (some ⟨w.heap.size + 1, 0, none⟩) m m) 2 1 m (nums (upr9 m 0)), pBlk w.heap.size (dv m f g) 31] := by
    rw [upr9_zero]; unfold nums; rw [List.map_replicate]; exact H1
  clear H1
  go_wp2
  go_loopw [11] (fun t wr => ∃ k : Nat, k ≤ m ∧ t = .int .i64 k ∧ Holds w wr [pRow (.slice (some ⟨w.heap.size + 1, 0, none⟩) m m) 2 1 m (nums (upr9 m k)), pBlk w.heap.size (dv m f g) 31]) (fun t _ => m - (intOf t).toNat)
  case atStart => exact ⟨0, Nat.zero_le _, rfl, H2⟩
  case round =>
    clear H2
    obtain ⟨k, hk, rfl, hH⟩ := hrel
    by_cases hlt : k < m
    · have hki : (k : Int) < m := by omega
      obtain ⟨z0, z1⟩ := hH.rowCell9 0 rfl (nums_at (l := upr9 m k) (k := k) (by rw [upr9_length]; exact hlt))
      have hP := hH.put 0 rfl k (.int .i64 (k : Nat))
      simp only [List.set_cons_zero] at hP
      rw [nums_set9, upr9_set m k hlt] at hP
      have HQ := hide hP
      clear hP hH
      generalize (upr9 m k)[k]'(by rw [upr9_length]; exact hlt) = old at z0
      go_wp2
      go_roundw
      case rel => exact ⟨k + 1, by omega, by go_num, HQ.out⟩
      case measure => simp [intOf]; omega
    · obtain rfl : m = k := by omega
      rw [upr9_end] at hH
      have hH2 : Holds w wr [pInts (.slice (some ⟨w.heap.size + 1, 0, none⟩) m m) (List.range m), pBlk w.heap.size (dv m f g) 31] := by
        unfold pInts; rw [List.length_range]; exact hH
      have cd := hH2.cells 1 rfl
      clear hk hlt hH
      go_wp2_with fail
      refine (CV.out _).mono ?_
      rintro e w2 ⟨rfl, hb⟩
      have H3 := hH2.call hb
      clear hb hH2 cd
      have RR := hide (rd_nums (H3.own1 0 rfl) (by rw [List.length_range]; omega))
      go_wp2_with fail
      refine (CS.out _ _ RR.out).mono ?_
      rintro e w3 ⟨v1, v2, rfl, hk⟩
      have H4 := H3.joinL hk
      have HQ := hide (H4.sub (L' := [pInts v1 T.1, pInts v2 T.2]) (.cons _ (.cons _ (.refl _))))
      clear hk H3 H4
      go_wp2
      go_ret2
      exact ⟨_, _, rfl, HQ.out⟩
open Classical in
noncomputable def teL9 (n : Int) (f g : Nat → Nat) : List Int := if desB n f g = true then zs9 (tre9 f g n.toNat).1 else []
open Classical in
noncomputable def teC9 (n : Int) (f g : Nat → Nat) : Int := if desB n f g = true then 0 else 1
theorem tre9_len (f g : Nat → Nat) (m : Nat) : (tre9 f g m).1.length + (tre9 f g m).2.length = m := by unfold tre9; rw [spl9_len, List.length_range]
set_option maxRecDepth 100000 in
set_option maxHeartbeats 2000000 in
theorem treeEdges_any (n : Int) (f g : Nat → Nat) (hf : ∀ i, f i < 256) (hg : ∀ i, g i < 256) (w : World) :
    Calls Try.prog 37 #[.agg (dv n f g)] w fun e w' => ∃ v, e = .returned (.tuple #[v, .int .i64 (teC9 n f g)]) ∧ Below w.heap.size w w' ∧ OwnZ w.heap.size w' v (teL9 n f g) := by
  have C1 := hide fun w => isDessin_any n f g hf hg w
  clear hf hg
  have HH0 := (Holds.start w).blk (dv n f g) 31 w.heap.size rfl
  rcases h1 : desB n f g with _ | _
  · rw [h1] at C1
    rw [show teL9 n f g = [] from if_neg (by simp [h1]), show teC9 n f g = 1 from if_neg (by simp [h1])]
    clear h1
    go_enter Try.func37, Try.ntmps37
    go_wp2_with fail
    refine (C1.out _).mono ?_
    rintro e w1 ⟨rfl, hb⟩
    have HH1 := HH0.call hb
    go_wp2
    go_ret2
    exact ⟨.slice none 0 0, rfl, HH1.low, World.ownsRow_nil _ _ _ _⟩
  rw [h1] at C1
  rw [show teL9 n f g = zs9 (tre9 f g n.toNat).1 from if_pos h1, show teC9 n f g = 0 from if_pos h1]
  obtain ⟨m, rfl, hd⟩ := desB_true h1
  rw [Int.toNat_natCast]
  have C2 := hide fun w => splitByTree_any f g m hd w
  generalize tre9 f g m = T at *
  clear h1 hd
  go_enter Try.func37, Try.ntmps37
  go_wp2_with fail
  refine (C1.out _).mono ?_
  rintro e w1 ⟨rfl, hb⟩
  have HH1 := HH0.call hb
  have cd1 := HH1.cells 0 rfl
  clear hb HH0
  go_wp2_with fail
  refine (C2.out _).mono ?_
  rintro e w2 ⟨v1, v2, rfl, hk⟩
  have H4 := HH1.joinL hk
  have HQ := hide (H4.sub (L' := [pInts v1 T.1, pInts v2 T.2]) (.cons _ (.refl _)))
  clear hk H4 HH1 cd1
  go_wp2
  go_ret2
  exact ⟨_, rfl, HQ.out.low, (HQ.out.own1 0 rfl).z⟩
end Go.Proofs.Ytmapjjfefjoemaa

namespace Go.Proofs.Ytmapjjfefjoemaa
open Go.RowKit

set_option maxRecDepth 100000 in
set_option maxHeartbeats 1000000 in
theorem l09Alone_any (n : Nat) (hn : n ≤ 1000) (w : World) :
    Calls Try.prog 105 #[.int .i64 n] w fun e w' => ∃ u, e = .returned u ∧ Holds w w' [pInts u (List.range n)] := by
  have H1 := (Holds.start w).rowNew #[] 2 1 0 w.heap.size rfl rfl (by decide)
  have H2 : Holds w (w.alloc (.cells #[] 2)) [pInts (.slice (some ⟨w.heap.size, 0, none⟩) 0 0) (List.range 0)] := H1
  clear H1
  go_enter Try.func105, Try.ntmps105
  go_wp2
  go_loopw [3, 4] (fun q t wr => ∃ k : Nat, k ≤ n ∧ t = .int .i64 k ∧ Holds w wr [pInts q (List.range k)]) (fun _ t _ => n - (intOf t).toNat)
  case atStart => exact ⟨0, Nat.zero_le _, rfl, H2⟩
  case round =>
    clear H2
    obtain ⟨k, hk, rfl, hH⟩ := hrel
    by_cases hlt : k < n
    · have hki : (k : Int) < n := by omega
      obtain ⟨A, c, rfl⟩ := hH.intsForm 0 rfl
      rw [List.length_range]
      rw [List.length_range] at hH
      go_wp2_with (at_builtin; refine appI (hH.alloc _) 0 rfl wr.heap.size [k] 2 ?_ ?_ rfl _ _ rfl rfl rfl ?_)
      · exact heap_at _ _ _ rfl
      · simp only [List.length_cons, List.length_nil, List.length_range]; omega
      intro v' w' h1
      rw [← List.range_succ] at h1
      have HQ := hide h1
      clear hH h1
      go_wp2
      go_roundw
      case rel => exact ⟨k + 1, by omega, by go_num, HQ.out⟩
      case measure => simp [intOf]; omega
    · obtain rfl : n = k := by omega
      clear hk hlt
      go_wp2
      go_ret
      exact ⟨_, rfl, hH⟩
/-- numbers of the first n places -/
def cl9 (h : Nat → Nat) (n : Nat) : List Nat := (List.range n).map h
theorem cl9_length (h : Nat → Nat) (n : Nat) : (cl9 h n).length = n := by simp [cl9]
theorem cl9_get (h : Nat → Nat) {n k : Nat} (hk : k < n) (h' : k < (cl9 h n).length) : (cl9 h n)[k] = h k := by simp [cl9]
theorem cl9_at (h : Nat → Nat) {n k : Nat} (hk : k < n) : (nums (cl9 h n))[k]? = some (.int .i64 (h k : Nat)) := by rw [nums_at (by rw [cl9_length]; exact hk), cl9_get h hk]
theorem cl9_set (h : Nat → Nat) (n k x : Nat) : (cl9 h n).set k x = cl9 (fset h k x) n := by
  unfold cl9
  apply List.ext_getElem
  · simp
  · intro i h1 h2
    rw [List.getElem_set]
    simp only [List.getElem_map, List.getElem_range, fset]
    by_cases e : k = i
    · subst e; simp
    · rw [if_neg e, if_neg (Ne.symm e)]
theorem cl9_congr {h h' : Nat → Nat} {n : Nat} (e : ∀ i, i < n → h i = h' i) : cl9 h n = cl9 h' n := by
  unfold cl9
  exact List.map_congr_left fun i hi => e i (List.mem_range.1 hi)
theorem cl9_id (n : Nat) : cl9 id n = List.range n := by simp [cl9]
theorem Holds.intCell9 {w0 w : World} {L : List Part} (h : Holds w0 w L) (i : Nat) {g n c : Nat} {l : List Nat} (hi : L[i]? = some (pInts (.slice (some ⟨g, 0, none⟩) n c) l)) {k x : Nat} (hk : l[k]? = some x) :
    w.cell? ⟨g, k, none⟩ = some (.int .i64 (x : Nat)) ∧ w.frozen? ⟨g, k, none⟩ = false := by
  obtain ⟨hl, rfl⟩ := List.getElem?_eq_some_iff.1 hk
  obtain ⟨g', c', e, _, h1, h2⟩ := h.ints i hi hl
  injection e with e
  injection e with e
  injection e with e
  subst e
  exact ⟨h1, h2⟩
theorem cl9_get? (h : Nat → Nat) {n k : Nat} (hk : k < n) : (cl9 h n)[k]? = some (h k) := by unfold cl9; simp [hk]
def joi9 (h : Nat → Nat) (a b : Nat) : Nat → Nat := fun p => if h p = h b then h a else h p
set_option maxRecDepth 100000 in
set_option maxHeartbeats 1000000 in
theorem l09Join_any (h : Nat → Nat) (n a b : Nat) (hn : n ≤ 1000) (ha : a < n) (hb : b < n) (v : Value) (w0 w : World) (L : List Part) (H : Holds w0 w (pInts v (cl9 h n) :: L)) :
    Calls Try.prog 106 #[v, .int .i64 a, .int .i64 b] w fun e w' => e = .returned (.bool (decide (h a ≠ h b))) ∧ Holds w0 w' (pInts v (cl9 (joi9 h a b) n) :: L) := by
  obtain ⟨A, c, rfl⟩ := H.intsForm 0 rfl
  rw [cl9_length] at H ⊢
  obtain ⟨G, c', eA, _, _, _, _, _, _⟩ := row_at (H.row 0 rfl) (by rw [cl9_length]; omega)
  injection eA with eA e1 e2
  subst eA
  clear e1 e2
  have z0 := (H.intCell9 0 rfl (cl9_get? h ha)).1
  have z1 := (H.intCell9 0 rfl (cl9_get? h hb)).1
  obtain ⟨h2, hh2⟩ : ∃ h2, h2 = joi9 h a b := ⟨_, rfl⟩
  have hh3 : ∀ p, h2 p = if h p = h b then h a else h p := fun p => by rw [hh2]; rfl
  rw [← hh2]
  have HS : Hid (h a = h b → h2 = h) := hide fun e => by
    funext p; rw [hh3]; split
    · rename_i q; rw [q, e]
    · rfl
  clear hh2
  have hai : (a : Int) < n := by omega
  have hbi : (b : Int) < n := by omega
  generalize hka : h a = ka at *
  generalize hkb : h b = kb at *
  have HH3 := hide hh3; clear hh3 hka hkb
  by_cases e : ka = kb
  · have hq : ((kb : Int) == (ka : Int)) = true := by simp; omega
    have HS2 := hide (HS.out e)
    rw [show decide (ka ≠ kb) = false by simp [e]]
    clear e HS HH3
    go_enter Try.func106, Try.ntmps106
    go_wp2
    go_quiet (fail)
    have HZ := H.drewN nq
    clear H z0 z1
    generalize w.drewN nq = wz at *
    go_wp2
    go_ret
    exact ⟨rfl, by rw [HS2.out]; exact HZ⟩
  · have hq : ((kb : Int) == (ka : Int)) = false := by simp; omega
    rw [show decide (ka ≠ kb) = true by simp [e]]
    clear HS
    have HM : Hid (cl9 h n = cl9 (fun p => if p < 0 then h2 p else h p) n) := hide (cl9_congr fun i _ => by rw [if_neg (by omega)])
    clear e
    go_enter Try.func106, Try.ntmps106
    go_wp2
    go_quiet (fail)
    have HZ := H.drewN nq
    clear H z0 z1
    generalize w.drewN nq = wz at *
    go_wp2
    clear hq
    go_loopw [9] (fun t wr => ∃ k : Nat, k ≤ n ∧ t = .int .i64 k ∧ Holds w0 wr (pInts (.slice (some ⟨G, 0, none⟩) n c) (cl9 (fun p => if p < k then h2 p else h p) n) :: L)) (fun t _ => n - (intOf t).toNat)
    case atStart => exact ⟨0, Nat.zero_le _, rfl, by rw [← HM.out]; exact HZ⟩
    case round =>
      clear HZ HM
      obtain ⟨k, hk, rfl, hH⟩ := hrel
      by_cases hlt : k < n
      · have hki : (k : Int) < n := by omega
        obtain ⟨z0, z1⟩ := hH.intCell9 0 rfl (cl9_get? _ hlt)
        have hH0 := hH
        unfold pInts at hH
        rw [cl9_length] at hH
        have h3 := HH3.out k
        simp only [Nat.lt_irrefl, if_false] at z0
        have hP := hH.put 0 rfl k (.int .i64 (ka : Nat))
        simp only [List.set_cons_zero] at hP
        rw [nums_set9, cl9_set] at hP
        by_cases e : h k = kb
        · have hq : (((h k : Nat) : Int) == (kb : Int)) = true := by rw [e]; simp
          rw [if_pos e] at h3
          have HF := hide (cl9_congr (h := fset (fun p => if p < k then h2 p else h p) k ka) (h' := fun p => if p < k + 1 then h2 p else h p) (n := n) fun i _ => by
            simp only [fset]
            by_cases c : i = k
            · subst c; rw [if_pos rfl, if_pos (by omega), h3]
            · rw [if_neg c]; by_cases c2 : i < k
              · rw [if_pos c2, if_pos (by omega)]
              · rw [if_neg c2, if_neg (by omega)])
          rw [HF.out] at hP
          have HQ : Hid (Holds w0 (wr.setCell ⟨G, k, none⟩ (.int .i64 (ka : Nat))) (pInts (.slice (some ⟨G, 0, none⟩) n c) (cl9 (fun p => if p < k + 1 then h2 p else h p) n) :: L)) := hide (by unfold pInts; rw [cl9_length]; exact hP)
          clear hP hH hH0 HF e h3
          generalize h k = hk9 at *
          go_wp2
          go_roundw
          case rel => exact ⟨k + 1, by omega, by go_num, HQ.out⟩
          case measure => simp [intOf]; omega
        · have hq : (((h k : Nat) : Int) == (kb : Int)) = false := by simp; omega
          rw [if_neg e] at h3
          have HF := hide (cl9_congr (h := fun p => if p < k then h2 p else h p) (h' := fun p => if p < k + 1 then h2 p else h p) (n := n) fun i _ => by
            by_cases c : i = k
            · subst c; rw [if_neg (by omega), if_pos (by omega), h3]
            · by_cases c2 : i < k
              · rw [if_pos c2, if_pos (by omega)]
              · rw [if_neg c2, if_neg (by omega)])
          have HQ : Hid (Holds w0 wr (pInts (.slice (some ⟨G, 0, none⟩) n c) (cl9 (fun p => if p < k + 1 then h2 p else h p) n) :: L)) := hide (by rw [← HF.out]; exact hH0)
          clear hP hH hH0 HF e h3
          generalize h k = hk9 at *
          go_wp2
          go_roundw
          case rel => exact ⟨k + 1, by omega, by go_num, HQ.out⟩
          case measure => simp [intOf]; omega
      · obtain rfl : n = k := by omega
        have HQ := hide (show Holds w0 wr (pInts (.slice (some ⟨G, 0, none⟩) n c) (cl9 h2 n) :: L) by rw [cl9_congr (h := h2) (h' := fun p => if p < n then h2 p else h p) fun i hi => by rw [if_pos hi]]; exact hH)
        clear hk hlt hH
        go_wp2
        go_ret
        exact ⟨rfl, HQ.out⟩
end Go.Proofs.Ytmapjjfefjoemaa
