/- Alike dessins: isomorphic ones have the same forms; equal canonical dessins. -/
import Derived.Test.YtcddglkecfnhmabCan
import Derived.Test.YtcddglkecfnhmabRen
import Derived.Test.YtcddglkecfnhmabSameD
namespace Go.Proofs.Ytcddglkecfnhmab
open Go.RowKit

/-- phi leads the one dessin to the other -/
structure IsoN (f g f' g' : Nat → Nat) (m : Nat) (φ : Nat → Nat) : Prop where
  bij : Bij φ m
  bl : ∀ x, x < m → φ (f x) = f' (φ x)
  wh : ∀ x, x < m → φ (g x) = g' (φ x)
section
variable {f g f' g' : Nat → Nat} {m : Nat} {φ : Nat → Nat}
theorem badd_map {S S' : List Nat × (Nat → Bool)} (hi : ∀ x y, x < m → y < m → φ x = φ y → x = y) (hS : BInv m S) (hS' : BInv m S') (e : S'.1 = S.1.map φ) {y : Nat} (hy : y < m) : (badd S' (φ y)).1 = (badd S y).1.map φ := by
  have hmem : S'.2 (φ y) = S.2 y := by
    rw [Bool.eq_iff_iff, hS'.mem, hS.mem, e, List.mem_map]
    constructor
    · rintro ⟨z, hz, h⟩
      have := hi z y (hS.lt z hz) hy h
      subst this; exact hz
    · intro h; exact ⟨y, h, rfl⟩
  unfold badd
  rw [hmem]
  split
  · exact e
  · simp [e]
theorem bfs_map (hd : DesN f g m) (he : DesN f' g' m) (h : IsoN f g f' g' m φ) {z : Nat} (hz : z < m) (i : Nat) : (bfs f' g' (φ z) i).1 = (bfs f g z i).1.map φ := by
  induction i with
  | zero => simp [bfs]
  | succ i ih =>
    have I := bfs_inv hd.bf.1 hd.bg.1 hz i
    have I' := bfs_inv he.bf.1 he.bg.1 (h.bij.1 z hz) i
    rw [bfs, bfs, ih, List.getElem?_map]
    rcases e : (bfs f g z i).1[i]? with _ | x
    · exact ih
    · have hx := I.lt x (List.mem_of_getElem? e)
      simp only [Option.map_some]
      rw [← h.bl x hx, ← h.wh x hx]
      exact badd_map h.bij.2 (I.add (hd.bf.1 x hx)) (I'.add (h.bij.1 _ (hd.bf.1 x hx))) (badd_map h.bij.2 I I' ih (hd.bf.1 x hx)) (hd.bg.1 x hx)
theorem lstF_map (hd : DesN f g m) (he : DesN f' g' m) (h : IsoN f g f' g' m φ) {z : Nat} (hz : z < m) {i : Nat} (hi : i < m) : lstF (bfs f' g' (φ z) 16).1 i = φ (lstF (bfs f g z 16).1 i) := by
  have hl : (bfs f g z 16).1.length = m := bfs_full hd.bf hd.bg hd.le hd.conn hz
  rw [bfs_map hd he h hz]
  unfold lstF
  rw [List.getD_eq_getElem?_getD, List.getD_eq_getElem?_getD, List.getElem?_map, List.getElem?_eq_getElem (by omega)]
  rfl
theorem namF_map (hd : DesN f g m) (he : DesN f' g' m) (h : IsoN f g f' g' m φ) {z : Nat} (hz : z < m) {x : Nat} (hx : x < m) : namF f' g' m (φ z) (φ x) = namF f g m z x := by
  have b := (lstF_perm hd hz).2.2.1
  have b' := (lstF_perm he (h.bij.1 z hz)).2.2.1
  obtain ⟨i, hi, rfl⟩ := b.onto hx
  unfold namF
  rw [← lstF_map hd he h hz hi, backF_at b hi, backF_at b' hi]
theorem renF_out {p f : Nat → Nat} {m x : Nat} (hx : m ≤ x) : renF p f m x = 0 := by unfold renF; exact thenF_out hx
theorem form_map (hd : DesN f g m) (he : DesN f' g' m) (h : IsoN f g f' g' m φ) {z : Nat} (hz : z < m) : forB f' g' m (φ z) = forB f g m z ∧ forW f' g' m (φ z) = forW f g m z := by
  have b := (namF_perm hd hz).2.2.1
  have b' := (namF_perm he (h.bij.1 z hz)).2.2.1
  constructor
  all_goals
    funext y
    first | unfold forB | unfold forW
    rcases Nat.lt_or_ge y m with c | c
    · obtain ⟨x, hx, rfl⟩ := b.onto c
      rw [renF_at b hx, ← namF_map hd he h hz hx, renF_at b' (h.bij.1 x hx)]
      first
        | rw [← h.bl x hx, namF_map hd he h hz (hd.bf.1 x hx)]
        | rw [← h.wh x hx, namF_map hd he h hz (hd.bg.1 x hx)]
    · rw [renF_out c, renF_out c]
/-- equal forms make an isomorphism -/
theorem iso_of_form (hd : DesN f g m) (he : DesN f' g' m) {x y : Nat} (hx : x < m) (hy : y < m) (e1 : ∀ i, i < m → forB f g m x i = forB f' g' m y i) (e2 : ∀ i, i < m → forW f g m x i = forW f' g' m y i) : ∃ φ, IsoN f g f' g' m φ := by
  have b := (namF_perm hd hx).2.2.1
  have l' := (lstF_perm he hy).2.2.1
  have b' := (namF_perm he hy).2.2.1
  have k1 : ∀ i, i < m → namF f' g' m y (lstF (bfs f' g' y 16).1 i) = i := fun i hi => backF_at l' hi
  have k2 : ∀ v, v < m → lstF (bfs f' g' y 16).1 (namF f' g' m y v) = v := fun v hv => by
    obtain ⟨i, hi, rfl⟩ := l'.onto hv
    rw [k1 i hi]
  refine ⟨fun u => lstF (bfs f' g' y 16).1 (namF f g m x u), b.comp l', fun u hu => ?_, fun u hu => ?_⟩
  · have hN := b.1 u hu
    have hv := l'.1 _ hN
    show lstF (bfs f' g' y 16).1 (namF f g m x (f u)) = f' (lstF (bfs f' g' y 16).1 (namF f g m x u))
    have t1 : forB f g m x (namF f g m x u) = namF f g m x (f u) := renF_at b hu
    have t2 : forB f' g' m y (namF f' g' m y (lstF (bfs f' g' y 16).1 (namF f g m x u))) = namF f' g' m y (f' (lstF (bfs f' g' y 16).1 (namF f g m x u))) := renF_at b' hv
    rw [k1 _ hN] at t2
    rw [← t1, e1 _ hN, t2, k2 _ (he.bf.1 _ hv)]
  · have hN := b.1 u hu
    have hv := l'.1 _ hN
    show lstF (bfs f' g' y 16).1 (namF f g m x (g u)) = g' (lstF (bfs f' g' y 16).1 (namF f g m x u))
    have t1 : forW f g m x (namF f g m x u) = namF f g m x (g u) := renF_at b hu
    have t2 : forW f' g' m y (namF f' g' m y (lstF (bfs f' g' y 16).1 (namF f g m x u))) = namF f' g' m y (g' (lstF (bfs f' g' y 16).1 (namF f g m x u))) := renF_at b' hv
    rw [k1 _ hN] at t2
    rw [← t1, e2 _ hN, t2, k2 _ (he.bg.1 _ hv)]
theorem IsoN.symm (hd : DesN f g m) (he : DesN f' g' m) (h : IsoN f g f' g' m φ) : ∃ ψ, IsoN f' g' f g m ψ := by
  have f1 := form_map hd he h hd.pos
  exact iso_of_form he hd (h.bij.1 0 hd.pos) hd.pos (fun i _ => by rw [f1.1]) (fun i _ => by rw [f1.2])
end

/-- the order of pairs, by thirty-two numbers -/
def h32 (f g : Nat → Nat) : Nat → Nat := fun i => if i < 16 then f i else g (i - 16)
def ltN (n : Nat) (h h' : Nat → Nat) : Prop := ∃ i, i < n ∧ h i < h' i ∧ ∀ j, j < i → h j = h' j
theorem ltN_trans {n : Nat} {a b c : Nat → Nat} (h : ltN n a b) (k : ltN n b c) : ltN n a c := by
  obtain ⟨i, hi, h1, h2⟩ := h
  obtain ⟨j, hj, k1, k2⟩ := k
  rcases Nat.lt_trichotomy i j with d | d | d
  · exact ⟨i, hi, by rw [← k2 i d]; exact h1, fun x hx => (h2 x hx).trans (k2 x (by omega))⟩
  · subst d; exact ⟨i, hi, by omega, fun x hx => (h2 x hx).trans (k2 x hx)⟩
  · exact ⟨j, hj, by rw [h2 j d]; exact k1, fun x hx => (h2 x (by omega)).trans (k2 x hx)⟩
theorem ltN_tri (a b : Nat → Nat) : ∀ n, ltN n a b ∨ ltN n b a ∨ ∀ j, j < n → a j = b j := by
  intro n
  induction n with
  | zero => exact .inr (.inr fun j hj => by omega)
  | succ n ih =>
    rcases ih with ⟨i, hi, h⟩ | ⟨i, hi, h⟩ | h
    · exact .inl ⟨i, by omega, h⟩
    · exact .inr (.inl ⟨i, by omega, h⟩)
    · rcases Nat.lt_trichotomy (a n) (b n) with d | d | d
      · exact .inl ⟨n, by omega, d, h⟩
      · exact .inr (.inr fun j hj => by by_cases c : j = n; subst c; exact d; exact h j (by omega))
      · exact .inr (.inl ⟨n, by omega, d, fun j hj => (h j hj).symm⟩)
theorem befB_iff (f g f' g' : Nat → Nat) : befB f g f' g' = true ↔ ltN 32 (h32 f g) (h32 f' g') := by
  unfold befB
  constructor
  · intro h
    by_cases c : sameB f f' = true
    · rw [if_pos c, ltB_iff] at h
      rw [sameB_iff] at c
      obtain ⟨i, hi, h1, h2⟩ := h
      refine ⟨i + 16, by omega, ?_, fun j hj => ?_⟩
      · unfold h32; rw [if_neg (by omega), if_neg (by omega), Nat.add_sub_cancel]; exact h1
      · unfold h32
        by_cases d : j < 16
        · rw [if_pos d, if_pos d]; exact c j d
        · rw [if_neg d, if_neg d]; exact h2 _ (by omega)
    · rw [if_neg c, ltB_iff] at h
      obtain ⟨i, hi, h1, h2⟩ := h
      refine ⟨i, by omega, ?_, fun j hj => ?_⟩
      · unfold h32; rw [if_pos hi, if_pos hi]; exact h1
      · unfold h32; rw [if_pos (by omega), if_pos (by omega)]; exact h2 j hj
  · rintro ⟨i, hi, h1, h2⟩
    by_cases c : i < 16
    · unfold h32 at h1
      rw [if_pos c, if_pos c] at h1
      rw [if_neg (fun e => by have := (sameB_iff _ _).1 e i c; omega), ltB_iff]
      exact ⟨i, c, h1, fun j hj => by have := h2 j hj; unfold h32 at this; rw [if_pos (by omega), if_pos (by omega)] at this; exact this⟩
    · have hs : sameB f f' = true := (sameB_iff _ _).2 fun j hj => by have := h2 j (by omega); unfold h32 at this; rw [if_pos hj, if_pos hj] at this; exact this
      rw [if_pos hs, ltB_iff]
      unfold h32 at h1
      rw [if_neg c, if_neg c] at h1
      exact ⟨i - 16, by omega, h1, fun j hj => by have := h2 (j + 16) (by omega); unfold h32 at this; rw [if_neg (by omega), if_neg (by omega), Nat.add_sub_cancel] at this; exact this⟩
/-- the canonical dessin is one of the forms, and none is before it -/
theorem canS_one (f g : Nat → Nat) (m : Nat) : ∀ k, ∃ x, x ≤ k ∧ canS f g m k = (forB f g m x, forW f g m x) := by
  intro k
  induction k with
  | zero => exact ⟨0, Nat.le_refl _, rfl⟩
  | succ k ih =>
    rw [canS]
    split
    · exact ⟨k + 1, Nat.le_refl _, rfl⟩
    · obtain ⟨x, hx, e⟩ := ih; exact ⟨x, by omega, e⟩
theorem canS_least (f g : Nat → Nat) (m : Nat) : ∀ k x, x ≤ k → befB (forB f g m x) (forW f g m x) (canS f g m k).1 (canS f g m k).2 = false := by
  intro k
  induction k with
  | zero => intro x hx; obtain rfl : x = 0 := by omega
            exact befB_self _ _
  | succ k ih =>
    intro x hx
    rw [canS]
    split
    · rename_i h
      by_cases c : x = k + 1
      · subst c; exact befB_self _ _
      · have := ih x (by omega)
        rw [Bool.eq_false_iff, ne_eq] at this ⊢
        intro e
        exact this ((befB_iff _ _ _ _).2 (ltN_trans ((befB_iff _ _ _ _).1 e) ((befB_iff _ _ _ _).1 h)))
    · rename_i h
      by_cases c : x = k + 1
      · subst c; simpa using h
      · exact ih x (by omega)
open Classical in
/-- the two dessins are alike -/
noncomputable def alkB (f g : Nat → Nat) (m : Nat) (f' g' : Nat → Nat) (k : Nat) : Bool := decide (m = k ∧ ∃ x, x < k ∧ eqDB k (forB f' g' k x) (forW f' g' k x) m (forB f g m 0) (forW f g m 0) = true)
theorem eqDB_iff' (n : Int) (F G : Nat → Nat) (n' : Int) (F' G' : Nat → Nat) : eqDB n F G n' F' G' = true ↔ n = n' ∧ (∀ i, i < 16 → F i = F' i) ∧ ∀ i, i < 16 → G i = G' i := by
  unfold eqDB
  rw [Bool.and_eq_true, Bool.and_eq_true, beq_iff_eq, sameB_iff, sameB_iff]
theorem alike_can {f g : Nat → Nat} {m : Nat} {f' g' : Nat → Nat} {k : Nat} (hd : DesN f g m) (he : DesN f' g' k) :
    eqDB m (canS f g m (m - 1)).1 (canS f g m (m - 1)).2 k (canS f' g' k (k - 1)).1 (canS f' g' k (k - 1)).2 = alkB f g m f' g' k := by
  have h16 := hd.le
  rw [Bool.eq_iff_iff, eqDB_iff']
  unfold alkB
  rw [decide_eq_true_iff]
  constructor
  · rintro ⟨e, h1, h2⟩
    obtain rfl : m = k := by omega
    refine ⟨rfl, ?_⟩
    obtain ⟨x, hx, ex⟩ := canS_one f g m (m - 1)
    obtain ⟨y, hy, ey⟩ := canS_one f' g' m (m - 1)
    rw [ex, ey] at h1 h2
    have hp := hd.pos
    obtain ⟨φ, h⟩ := iso_of_form hd he (by omega) (by omega) (fun i hi => h1 i (by omega)) (fun i hi => h2 i (by omega))
    have f1 := form_map hd he h hp
    exact ⟨φ 0, h.bij.1 0 hp, (eqDB_iff' _ _ _ _ _ _).2 ⟨rfl, fun i _ => by rw [f1.1], fun i _ => by rw [f1.2]⟩⟩
  · rintro ⟨rfl, x, hx, e⟩
    obtain ⟨-, h1, h2⟩ := (eqDB_iff' _ _ _ _ _ _).1 e
    have hp := hd.pos
    obtain ⟨φ, h⟩ := iso_of_form hd he hp hx (fun i hi => (h1 i (by omega)).symm) (fun i hi => (h2 i (by omega)).symm)
    obtain ⟨ψ, h'⟩ := h.symm hd he
    refine ⟨rfl, ?_⟩
    obtain ⟨a, ha, ea⟩ := canS_one f g m (m - 1)
    obtain ⟨b, hb, eb⟩ := canS_one f' g' m (m - 1)
    have l1 := canS_least f g m (m - 1) (ψ b) (by have := h'.bij.1 b (by omega); omega)
    have l2 := canS_least f' g' m (m - 1) (φ a) (by have := h.bij.1 a (by omega); omega)
    have f1 := form_map hd he h (z := a) (by omega)
    have f2 := form_map he hd h' (z := b) (by omega)
    rw [f2.1, f2.2, ea] at l1
    rw [f1.1, f1.2, eb] at l2
    rw [ea, eb]
    rw [Bool.eq_false_iff, ne_eq, befB_iff] at l1 l2
    rcases ltN_tri (h32 (forB f g m a) (forW f g m a)) (h32 (forB f' g' m b) (forW f' g' m b)) 32 with c | c | c
    · exact absurd c l2
    · exact absurd c l1
    · refine ⟨fun i hi => ?_, fun i hi => ?_⟩
      · have := c i (by omega); unfold h32 at this; rw [if_pos hi, if_pos hi] at this; exact this
      · have := c (i + 16) (by omega); unfold h32 at this; rw [if_neg (by omega), if_neg (by omega), Nat.add_sub_cancel] at this; exact this
theorem renF_at' {p f : Nat → Nat} {m x : Nat} (h : Bij p m) (hx : x < m) : renF p f m (p x) = p (f x) := renF_at h hx

/-- a mirror image is a dessin -/
theorem conn_back {f g : Nat → Nat} {m : Nat} (hd : DesN f g m) : DesN (backF f m) (backF g m) m := by
  have hb := backF_perm hd.black
  have hw := backF_perm hd.white
  refine ⟨hd.pos, hd.le, hb, hw, ?_⟩
  have I := bfs_inv hb.2.2.1.1 hw.2.2.1.1 hd.pos 16
  have cl := fun y hy => bfs_closed (p := backF f m) (q := backF g m) hb.2.2.1.1 hw.2.2.1.1 hd.le hd.pos (y := y) hy
  unfold conn
  have h0 : 0 ∈ (bfs (backF f m) (backF g m) 0 16).1 := (bfs_pre' _ _ _ (show 0 ≤ 16 by omega)).subset (by simp [bfs])
  generalize hS : (bfs (backF f m) (backF g m) 0 16).1 = S at *
  have step : ∀ (p : Nat → Nat), Bij p m → (∀ y ∈ S, p y ∈ S) → ∀ y k, y ∈ S → it p k y ∈ S := fun p _ hp y k hy => by
    induction k with
    | zero => exact hy
    | succ k ih => exact hp _ ih
  have inv : ∀ (p q : Nat → Nat), Bij p m → Bij q m → (∀ x, x < m → q (p x) = x) → (∀ y ∈ S, q y ∈ S) → ∀ x, x < m → (x ∈ S ↔ p x ∈ S) := fun p q hp hq e hc x hx => by
    constructor
    · intro h
      have r : R q (p x) x := ⟨1, e x hx⟩
      obtain ⟨k, hk⟩ := r.symm hq (hp.1 x hx)
      rw [← hk]; exact step q hq hc x k h
    · intro h
      have := hc _ h
      rwa [e x hx] at this
  have hE := conn_all hd.bf.1 hd.bg.1 hd.pos hd.conn
  have all : ∀ x, x < m → x ∈ S := fun x hx => by
    have := hE x hx (fun a b => (a ∈ S ↔ b ∈ S)) ⟨fun _ _ => Iff.rfl, fun _ _ _ _ h => h.symm, fun _ _ _ _ _ _ h k => h.trans k⟩
      (fun z hz => inv f (backF f m) hd.bf hb.2.2.1 (fun x hx => backF_at hd.bf hx) (fun y hy => (cl y hy).1) z hz)
      (fun z hz => inv g (backF g m) hd.bg hw.2.2.1 (fun x hx => backF_at hd.bg hx) (fun y hy => (cl y hy).2) z hz)
    exact this.1 h0
  have h1 : S.length ≤ m := by have := I.length_le; rw [hS] at this; exact this
  have h2 := nodup_le (List.range m) S List.nodup_range fun x hx => all x (List.mem_range.1 hx)
  rw [List.length_range] at h2
  omega
end Go.Proofs.Ytcddglkecfnhmab
