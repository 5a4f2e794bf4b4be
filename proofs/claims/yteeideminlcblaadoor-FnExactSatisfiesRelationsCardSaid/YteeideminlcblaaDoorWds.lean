/- Words of chapter 8: letters, reduced and inverse words; strings; rows of bytes that are cut. -/
import Derived.Test.YteeideminlcblaaDoorHS2
import Derived.Test.YteeideminlcblaaDoorBfs
import Derived.Laws.IdiomStrings
import Derived.Laws.BytesString
namespace Go.Proofs.YteeideminlcblaaDoor
open Go.RowKit

/-- the bytes of a string as numbers -/
def lts (s : ByteArray) : List Nat := s.data.toList.map (·.toNat)
theorem lts_length (s : ByteArray) : (lts s).length = s.size := by unfold lts; rw [List.length_map, Array.length_toList]; rfl
theorem lts_get (s : ByteArray) {i : Nat} (h : i < s.size) : (lts s)[i]'(by rw [lts_length]; exact h) = (s[i]'h).toNat := by
  unfold lts; rw [List.getElem_map, Array.getElem_toList]; rfl
theorem lts_lt (s : ByteArray) : ∀ x ∈ lts s, x < 256 := by
  intro x hx
  unfold lts at hx
  obtain ⟨b, _, rfl⟩ := List.mem_map.1 hx
  exact b.toNat_lt
/-- the string of some bytes -/
def mkS (l : List Nat) : ByteArray := ⟨(l.map UInt8.ofNat).toArray⟩
theorem mkS_lts (s : ByteArray) : mkS (lts s) = s := by
  unfold mkS lts
  rw [List.map_map]
  have : (UInt8.ofNat ∘ fun x : UInt8 => x.toNat) = id := by funext b; simp
  rw [this, List.map_id]
theorem lts_mkS {l : List Nat} (h : ∀ x ∈ l, x < 256) : lts (mkS l) = l := by
  unfold lts mkS
  rw [List.map_map]
  conv => rhs; rw [← List.map_id l]
  apply List.map_congr_left
  intro x hx
  have := h x hx
  simp only [Function.comp, id]
  exact UInt8.toNat_ofNat_of_lt' (by simpa using this)
theorem mkS_size (l : List Nat) : (mkS l).size = l.length := by unfold mkS; show (List.toArray _).size = _; simp
theorem lts_inj {s t : ByteArray} (h : lts s = lts t) : s = t := by rw [← mkS_lts s, ← mkS_lts t, h]
def isL (c : Nat) : Bool := c == 120 || c == 88 || c == 121 || c == 89
theorem isL_cases {c : Nat} (h : isL c = true) : c = 120 ∨ c = 88 ∨ c = 121 ∨ c = 89 := by unfold isL at h; simp at h; omega
def invL (c : Nat) : Nat := if c = 120 then 88 else if c = 88 then 120 else if c = 121 then 89 else 121
theorem invL_isL (c : Nat) : isL (invL c) = true := by unfold invL; split; rfl; split; rfl; split <;> rfl
theorem invL_lt (c : Nat) : invL c < 256 := by unfold invL; split; omega; split; omega; split <;> omega
/-- what a word is -/
def wdB (s : ByteArray) : Bool := decide (s.size ≤ 60) && (lts s).all isL
theorem wdB_size {s : ByteArray} (h : wdB s = true) : s.size ≤ 60 := by unfold wdB at h; simp at h; exact h.1
theorem wdB_all {s : ByteArray} (h : wdB s = true) : ∀ x ∈ lts s, isL x = true := by unfold wdB at h; simp at h; exact h.2
theorem wdB_at {s : ByteArray} (h : wdB s = true) {i : Nat} (hi : i < s.size) : isL ((s[i]'hi).toNat) = true := by
  rw [← lts_get s hi]; exact wdB_all h _ (List.getElem_mem _)
/-- one letter more, reduced -/
def stepR (acc : List Nat) (c : Nat) : List Nat := if acc.getLast? = some (invL c) then acc.dropLast else acc ++ [c]
def redK (l : List Nat) (k : Nat) : List Nat := (l.take k).foldl stepR []
def redL (l : List Nat) : List Nat := l.foldl stepR []
theorem redK_zero (l : List Nat) : redK l 0 = [] := by unfold redK; simp
theorem redK_succ (l : List Nat) {k : Nat} (h : k < l.length) : redK l (k + 1) = stepR (redK l k) l[k] := by
  unfold redK
  rw [List.take_succ_eq_append_getElem h, List.foldl_append]
  rfl
theorem redK_end (l : List Nat) : redK l l.length = redL l := by unfold redK redL; rw [List.take_length]
theorem stepR_len (acc : List Nat) (c : Nat) : (stepR acc c).length ≤ acc.length + 1 := by
  unfold stepR; split
  · rw [List.length_dropLast]; omega
  · simp
theorem redK_len (l : List Nat) (k : Nat) : (redK l k).length ≤ l.length := by
  have : ∀ k, k ≤ l.length → (redK l k).length ≤ k := by
    intro k
    induction k with
    | zero => intro _; rw [redK_zero]; simp
    | succ k ih => intro h; rw [redK_succ l (by omega)]; have := stepR_len (redK l k) l[k]; have := ih (by omega); omega
  rcases Nat.lt_or_ge l.length k with c | c
  · have h1 := this l.length (Nat.le_refl _)
    have e : redK l k = redK l l.length := by unfold redK; rw [List.take_of_length_le (by omega), List.take_length]
    rw [e]; exact h1
  · exact Nat.le_trans (this k c) c
theorem stepR_all {P : Nat → Prop} {acc : List Nat} (h : ∀ x ∈ acc, P x) {c : Nat} (hc : P c) : ∀ x ∈ stepR acc c, P x := by
  intro x hx
  unfold stepR at hx
  split at hx
  · exact h x ((List.dropLast_sublist acc).subset hx)
  · rcases List.mem_append.1 hx with d | d
    · exact h x d
    · simp at d; subst d; exact hc
theorem redK_all {P : Nat → Prop} {l : List Nat} (h : ∀ x ∈ l, P x) : ∀ k, k ≤ l.length → ∀ x ∈ redK l k, P x := by
  intro k
  induction k with
  | zero => intro _ x hx; rw [redK_zero] at hx; simp at hx
  | succ k ih =>
    intro hk
    rw [redK_succ l (by omega)]
    exact stepR_all (ih (by omega)) (h _ (List.getElem_mem _))
/-- the inverses of the letters from place k on, in the other order -/
def invK (l : List Nat) (k : Nat) : List Nat := ((l.drop k).reverse).map invL
def invW (l : List Nat) : List Nat := (l.reverse).map invL
theorem invK_end (l : List Nat) : invK l l.length = [] := by unfold invK; simp
theorem invK_zero (l : List Nat) : invK l 0 = invW l := by unfold invK invW; simp
theorem invK_step (l : List Nat) {k : Nat} (h : k < l.length) : invK l k = invK l (k + 1) ++ [invL l[k]] := by
  unfold invK
  rw [List.drop_eq_getElem_cons h, List.reverse_cons, List.map_append]
  rfl
theorem invK_len (l : List Nat) (k : Nat) : (invK l k).length = l.length - k := by unfold invK; simp
theorem invW_all (l : List Nat) : ∀ x ∈ invW l, isL x = true := by
  intro x hx
  unfold invW at hx
  obtain ⟨y, _, rfl⟩ := List.mem_map.1 hx
  exact invL_isL y

/-- rows of bytes -/
def pBs (v : Value) (l : List Nat) : Part := pRow v 5 1 l.length (bytesL l)
theorem bysL_length (l : List Nat) : (bytesL l).length = l.length := by unfold bytesL; simp
theorem bysL_at {l : List Nat} {k : Nat} (hk : k < l.length) : (bytesL l)[k]? = some (.int .u8 (l[k] : Nat)) := by unfold bytesL; simp [hk]
theorem bysL_one {l : List Nat} : ∀ u ∈ bytesL l, u.oneCell' = true := by
  intro u hu
  obtain ⟨x, _, rfl⟩ := List.mem_map.1 hu
  rfl
theorem Holds.bsForm {w0 w : World} {L : List Part} (h : Holds w0 w L) (i : Nat) {v : Value} {l : List Nat} (hi : L[i]? = some (pBs v l)) : ∃ A c, v = .slice A l.length c := own_slice (h.row i hi)
theorem Holds.bsAt {w0 w : World} {L : List Part} (h : Holds w0 w L) (i : Nat) {v : Value} {l : List Nat} (hi : L[i]? = some (pBs v l)) {k : Nat} (hk : k < l.length) :
    ∃ g c, v = .slice (some ⟨g, 0, none⟩) l.length c ∧ w.cell? ⟨g, k, none⟩ = some (.int .u8 (l[k] : Nat)) ∧ l.length ≤ c := by
  obtain ⟨g, c, h1, h2, h3, h4, h5, h6, h7⟩ := row_at (h.row i hi) (by omega : 0 < l.length)
  exact ⟨g, c, h1, h6 _ _ (bysL_at hk), h4⟩
/-- one byte more -/
theorem appBs {ops : Array Oper} {rest : List Oper} {o : Oper} {a : Act} {Q : Exit → Act → World → Prop} {w0 w : World} {L : List Part} (H : Holds w0 w L) (k : Nat) {v : Value} {l : List Nat} (hk : L[k]? = some (pBs v l))
    (g : Nat) (news : List Nat) (t : TypeId) (hc : w.heap[g]? = some (.cells (bytesL news).toArray t (0, 0))) (hb : l.length + news.length ≤ 1000000)
    (hgd : o.guard = none) (s x : Operand)
    (ho : o.op = .call { callee := .builtin .append, args := #[s, x], argTypes := #[59, 59] })
    (hs : a.eval s = v) (hx : a.eval x = .slice (some ⟨g, 0, none⟩) news.length news.length)
    (h : ∀ v' w', Holds w0 w' (L.set k (pBs v' (l ++ news))) → wpList Tryd.prog ops Q rest (a.put o.dst v') w') : wpList Tryd.prog ops Q (o :: rest) a w := by
  obtain ⟨i0, hi, hz0, hz1, hz2⟩ := info_parts infoU8
  refine appH (P := Tryd.prog) hgd s x 59 ho 5 i0 (.int .u8 0) 1 1 Tryd.underlying59 hi hz0 hz1 hz2 rfl (by decide) v l.length (bytesL l) hs H k hk ⟨g, 0, none⟩ news.length news.length (bytesL news) hx
    (by rw [bysL_length]; omega) (fun j u hu => ?_) bysL_one (by unfold maxLen; omega) (by omega) fun v' w' h1 => h v' w' ?_
  · have : ((⟨g, 0, none⟩ : Addr).add j) = ⟨g, j, none⟩ := by simp [Addr.add]; exact Eq.symm
    rw [this, cell_of_cells, cellsOf_heap hc]
    simpa using hu
  · unfold pBs at *
    have e : bytesL (l ++ news) = bytesL l ++ bytesL news := by unfold bytesL; simp
    rw [List.length_append, e]
    exact h1
/-- a row is cut -/
theorem Holds.cutBs {w0 w : World} {L : List Part} (h : Holds w0 w L) (i : Nat) {g n c : Nat} {l : List Nat} (hi : L[i]? = some (pBs (.slice (some ⟨g, 0, none⟩) n c) l)) (m : Nat) (hm : m ≤ l.length) :
    Holds w0 w (L.set i (pBs (.slice (some ⟨g, 0, none⟩) m c) (l.take m))) := by
  have hl : (l.take m).length = m := by rw [List.length_take]; omega
  refine h.turn i hi _ ?_ rfl rfl rfl (Nat.le_refl _) (fun _ _ _ => rfl) fun k hk => .inl hk
  have h1 : w.ownsRow 0 5 1 (.slice (some ⟨g, 0, none⟩) n c) l.length (bytesL l) := h.at i hi
  rcases h1.2 with ⟨e, _⟩ | ⟨g', cap, cur, e, hB, hh, h3, h4, h5, h6⟩
  · cases e
  · injection e with e1 e2 e3
    subst e2 e3
    refine ⟨by rw [bysL_length, hl]; omega, .inr ⟨g', c, cur, ?_, hB, hh, ?_, h4, h5, ?_⟩⟩
    · rw [e1, hl]
    · rw [hl]; omega
    · rw [hl]
      have : bytesL (l.take m) = (bytesL l).take m := by unfold bytesL; rw [List.map_take]
      rw [this, ← h6, List.take_take]
      congr 1
      omega
/-- string(kept) -/
theorem Holds.bsStr {w0 w : World} {L : List Part} (h : Holds w0 w L) (i : Nat) {v : Value} {l : List Nat} (hi : L[i]? = some (pBs v l)) (hl : ∀ x ∈ l, x < 256) :
    (convert 59 9 v).run Tryd.prog w = .ok (.string (mkS l)) w := by
  rcases Nat.eq_zero_or_pos l.length with c0 | c0
  · obtain rfl : l = [] := List.eq_nil_of_length_eq_zero c0
    obtain ⟨A, c, rfl⟩ := h.bsForm i hi
    rcases A with _ | a
    · rw [run_convert_bytes_string w 59 9 5 none _ _ Tryd.underlying59 Tryd.underlying5 Tryd.underlying9]
      simp only [Conv.bytesToString, Sem.run_pure]
      rfl
    · exact run_convert_bytes_back w 59 9 5 a c [] Tryd.underlying59 Tryd.underlying5 Tryd.underlying9 (fun j hj => by simp at hj)
  · obtain ⟨g, c, rfl, _, _⟩ := h.bsAt i hi c0
    have hh := run_convert_bytes_back w 59 9 5 ⟨g, 0, none⟩ c (l.map UInt8.ofNat) Tryd.underlying59 Tryd.underlying5 Tryd.underlying9 (fun j hj => by
      have hj' : j < l.length := by simpa using hj
      obtain ⟨g', c', e, h2, _⟩ := h.bsAt i hi hj'
      simp only [Value.slice.injEq, Option.some.injEq, Addr.mk.injEq] at e
      obtain ⟨⟨rfl, _, _⟩, _, _⟩ := e
      have hadd : ((⟨g, 0, none⟩ : Addr).add j) = ⟨g, j, none⟩ := by simp [Addr.add]; exact Eq.symm
      rw [hadd, h2, List.getElem_map]
      have := hl _ (List.getElem_mem hj')
      rw [UInt8.toNat_ofNat_of_lt' (by simpa using this)])
    rw [List.length_map] at hh
    exact hh
end Go.Proofs.YteeideminlcblaaDoor
