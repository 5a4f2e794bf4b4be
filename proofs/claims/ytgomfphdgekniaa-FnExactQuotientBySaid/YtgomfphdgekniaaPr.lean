/- impl.pair: two bytes; rows of them; pairAfter -/
import Derived.Test.YtgomfphdgekniaaAppH
import Derived.Test.YtgomfphdgekniaaDes
import Derived.Test.YtgomfphdgekniaaQTail
import Derived.Test.YtgomfphdgekniaaRegC
namespace Go.Proofs.Ytgomfphdgekniaa
open Go.RowKit

def pairB (l : List (Nat × Nat)) : List Value := l.flatMap fun p => [Value.int .u8 (p.1 : Int), Value.int .u8 (p.2 : Int)]
theorem pairB_length (l : List (Nat × Nat)) : (pairB l).length = l.length * 2 := by unfold pairB; induction l <;> simp_all <;> omega
theorem pairB_append (l l' : List (Nat × Nat)) : pairB (l ++ l') = pairB l ++ pairB l' := by unfold pairB; simp
theorem pairB_at {l : List (Nat × Nat)} {k : Nat} (hk : k < l.length) : (pairB l)[k * 2]? = some (.int .u8 (l[k].1 : Int)) ∧ (pairB l)[k * 2 + 1]? = some (.int .u8 (l[k].2 : Int)) := by
  induction l generalizing k with
  | nil => simp at hk
  | cons p l ih =>
    rcases k with _ | k
    · exact ⟨rfl, rfl⟩
    · have := ih (k := k) (by simpa using hk)
      have e : pairB (p :: l) = [Value.int .u8 (p.1 : Int), Value.int .u8 (p.2 : Int)] ++ pairB l := rfl
      rw [e, List.getElem?_append_right (by simp; omega), List.getElem?_append_right (by simp; omega)]
      simp only [List.length_cons, List.length_nil, List.getElem_cons_succ]
      rw [show (k + 1) * 2 - (0 + 1 + 1) = k * 2 by omega, show (k + 1) * 2 + 1 - (0 + 1 + 1) = k * 2 + 1 by omega]
      exact this
theorem pairB_one {l : List (Nat × Nat)} : ∀ u ∈ pairB l, u.oneCell' = true := by
  intro u hu
  unfold pairB at hu
  obtain ⟨p, _, hp⟩ := List.mem_flatMap.1 hu
  simp at hp
  rcases hp with rfl | rfl <;> rfl
theorem infoPr : (Try.prog.info? 113).map (fun i => (i.zero, i.size, i.bytes)) = some (some (.agg #[.int .u8 0, .int .u8 0]), 2, 2) := by kernel_rfl
theorem aggPr : AggT 113 2 := ⟨⟨_, Try.underlying113, rfl⟩, by kernel_rfl⟩
/-- a row of pairs, its part -/
def pPairs (v : Value) (l : List (Nat × Nat)) : Part := pRow v 113 2 l.length (pairB l)
theorem Holds.pairs {w0 w : World} {L : List Part} (h : Holds w0 w L) (i : Nat) {v : Value} {l : List (Nat × Nat)} (hi : L[i]? = some (pPairs v l)) {k : Nat} (hk : k < l.length) :
    ∃ g c, v = .slice (some ⟨g, 0, none⟩) l.length c ∧ g < w.heap.size ∧ w.cell? ⟨g, k * 2, none⟩ = some (.int .u8 (l[k].1 : Int)) ∧ w.cell? ⟨g, k * 2 + 1, none⟩ = some (.int .u8 (l[k].2 : Int)) := by
  obtain ⟨g, c, h1, h2, h3, h4, h5, h6, h7⟩ := row_at (h.row i hi) (by omega : 0 < l.length)
  exact ⟨g, c, h1, h3, h6 _ _ (pairB_at hk).1, h6 _ _ (pairB_at hk).2⟩
theorem Holds.pairsForm {w0 w : World} {L : List Part} (h : Holds w0 w L) (i : Nat) {v : Value} {l : List (Nat × Nat)} (hi : L[i]? = some (pPairs v l)) : ∃ A c, v = .slice A l.length c := own_slice (h.row i hi)
/-- pairs more at the end of such a row -/
theorem appP {ops : Array Oper} {rest : List Oper} {o : Oper} {a : Act} {Q : Exit → Act → World → Prop} {w0 w : World} {L : List Part} (H : Holds w0 w L) (k : Nat) {v : Value} {l : List (Nat × Nat)} (hk : L[k]? = some (pPairs v l))
    (g : Nat) (news : List (Nat × Nat)) (t : TypeId) (hc : w.heap[g]? = some (.cells (pairB news).toArray t (0, 0))) (hb : l.length + news.length ≤ 1000000)
    (hgd : o.guard = none) (s x : Operand)
    (ho : o.op = .call { callee := .builtin .append, args := #[s, x], argTypes := #[111, 111] })
    (hs : a.eval s = v) (hx : a.eval x = .slice (some ⟨g, 0, none⟩) news.length news.length)
    (h : ∀ v' w', Holds w0 w' (L.set k (pPairs v' (l ++ news))) → wpList Try.prog ops Q rest (a.put o.dst v') w') : wpList Try.prog ops Q (o :: rest) a w := by
  obtain ⟨i0, hi, hz0, hz1, hz2⟩ := info_parts infoPr
  refine appH (P := Try.prog) hgd s x 111 ho 113 i0 (.agg #[.int .u8 0, .int .u8 0]) 2 2 Try.underlying111 hi hz0 hz1 hz2 rfl (by decide) v l.length (pairB l) hs H k hk ⟨g, 0, none⟩ news.length news.length (pairB news) hx
    (pairB_length _) (fun j u hu => ?_) pairB_one (by unfold maxLen; omega) (by omega) fun v' w' h1 => h v' w' ?_
  · have : ((⟨g, 0, none⟩ : Addr).add j) = ⟨g, j, none⟩ := by simp [Addr.add]; exact Eq.symm
    rw [this, cell_of_cells, cellsOf_heap hc]
    simpa using hu
  · unfold pPairs at *
    rw [List.length_append, pairB_append]
    exact h1
theorem run_appP {o : Oper} {a : Act} {w0 w : World} {L : List Part} (H : Holds w0 w L) (k : Nat) {v : Value} {l : List (Nat × Nat)} (hk : L[k]? = some (pPairs v l))
    (g : Nat) (news : List (Nat × Nat)) (t : TypeId) (hc : w.heap[g]? = some (.cells (pairB news).toArray t (0, 0))) (hb : l.length + news.length ≤ 1000000) (s x : Operand)
    (ho : o.op = .call { callee := .builtin .append, args := #[s, x], argTypes := #[111, 111] })
    (hs : a.eval s = v) (hx : a.eval x = .slice (some ⟨g, 0, none⟩) news.length news.length) :
    ∃ v' w', (execOp a.eval o).run Try.prog w = .ok (.value v') w' ∧ Holds w0 w' (L.set k (pPairs v' (l ++ news))) := by
  obtain ⟨i0, hi, hz0, hz1, hz2⟩ := info_parts infoPr
  obtain ⟨v', w', h1, h2, _⟩ := run_appH (P := Try.prog) (w := w) 111 o.type 113 i0 (.agg #[.int .u8 0, .int .u8 0]) 2 2 Try.underlying111 hi hz0 hz1 hz2 rfl (by decide) v l.length (pairB l) H k hk ⟨g, 0, none⟩ news.length news.length (pairB news)
    (pairB_length _) (fun j u hu => by
      have : ((⟨g, 0, none⟩ : Addr).add j) = ⟨g, j, none⟩ := by simp [Addr.add]; exact Eq.symm
      rw [this, cell_of_cells, cellsOf_heap hc]
      simpa using hu) pairB_one (by unfold maxLen; omega) (by omega)
  refine ⟨v', w', exec_append ho hs hx h1, ?_⟩
  unfold pPairs at *
  rw [List.length_append, pairB_append]
  exact h2
theorem upon_appP {o : Oper} {a : Act} {w0 w : World} {L : List Part} (H : Holds w0 w L) (k : Nat) {v : Value} {l : List (Nat × Nat)} (hk : L[k]? = some (pPairs v l))
    (g : Nat) (news : List (Nat × Nat)) (t : TypeId) (hc : w.heap[g]? = some (.cells (pairB news).toArray t (0, 0))) (hb : l.length + news.length ≤ 1000000) {C : World → Prop} {R : Value → World → Prop}
    (h : ∀ v' w', Holds w0 w' (L.set k (pPairs v' (l ++ news))) → C w' ∧ R v' w') (s x : Operand)
    (ho : o.op = .call { callee := .builtin .append, args := #[s, x], argTypes := #[111, 111] })
    (hs : a.eval s = v) (hx : a.eval x = .slice (some ⟨g, 0, none⟩) news.length news.length) : Rc.uponE Try.prog C R w ((execOp a.eval o).run Try.prog w) := by
  obtain ⟨v', w', h1, h2⟩ := run_appP H k hk g news t hc hb s x ho hs hx
  rw [h1]
  exact h v' w' h2

set_option maxRecDepth 100000 in
set_option maxHeartbeats 400000 in
theorem pairAfter_any (p q : Nat → Nat) (a b : Nat) (ha : a < 16) (hb : b < 16) (w : World) :
    Calls Try.prog 99 #[.agg #[.int .u8 a, .int .u8 b], .agg (av p), .agg (av q)] w fun e w' => e = .returned (.agg #[.int .u8 (p a), .int .u8 (q b)]) ∧ Below w.heap.size w w' := by
  go_enter Try.func99, Try.ntmps99
  go_wp2
  have ha' : (a : Int) < 16 := by omega
  have hb' : (b : Int) < 16 := by omega
  have HH := ((((Holds.start w).blk #[.int .u8 a, .int .u8 b] 113 w.heap.size rfl).blk (av p) 28 (w.heap.size + 1) (by simp)).blk (av q) 28 (w.heap.size + 1 + 1) (by simp)).blk #[.int .u8 0, .int .u8 0] 113 (w.heap.size + 1 + 1 + 1) (by simp)
  refine region_tail (fun wx => Holds w wx _) 9 (by kernel_rfl) (by kernel_rfl) HH.drew ?_
  simp only [List.take_succ_cons, List.take_zero, List.drop_succ_cons, List.drop_zero]
  iterate 9
    apply q_step
    · go_simp
    · intro wx hx
      have c1 : wx.cell? ⟨w.heap.size, 0, none⟩ = some (.int .u8 a) := hx.cell 3 rfl rfl
      have c2 : wx.cell? ⟨w.heap.size, 1, none⟩ = some (.int .u8 b) := hx.cell 3 rfl rfl
      have c3 : wx.cell? ⟨w.heap.size + 1, a, none⟩ = some (.int .u8 (p a)) := hx.cell 2 rfl (av_get p ha)
      have c4 : wx.cell? ⟨w.heap.size + 1 + 1, b, none⟩ = some (.int .u8 (q b)) := hx.cell 1 rfl (av_get q hb)
      go_simp
      try exact rfl
  refine wpQuiet_nil ?_
  intro w1 hx
  have c1 := hx.cell 0 (j := 0) rfl rfl
  have c2 := hx.cell 0 (j := 1) rfl rfl
  have f1 := hx.frozen 0 rfl 0
  have f2 := hx.frozen 0 rfl 1
  go_wp2
  have H2 := (hx.set 0 rfl 0 (.int .u8 (p a))).set 0 rfl 1 (.int .u8 (q b))
  exact res_agg (p := 6) (g := w.heap.size + 1 + 1 + 1) (cs := #[.int .u8 (p a), .int .u8 (q b)]) aggPr rfl rfl rfl rfl (H2.at 0 rfl) ⟨rfl, H2.low⟩
end Go.Proofs.Ytgomfphdgekniaa
