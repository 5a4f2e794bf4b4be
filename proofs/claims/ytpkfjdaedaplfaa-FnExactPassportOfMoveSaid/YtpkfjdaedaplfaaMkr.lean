/- Makers in a drawing region: slices' literals, rows of rows; what is told of them. -/
import Derived.Test.YtpkfjdaedaplfaaUpn
import Derived.Test.YtpkfjdaedaplfaaFrc
import Derived.Test.YtpkfjdaedaplfaaRep
import Derived.Test.YtpkfjdaedaplfaaMake
namespace Go.Proofs.Ytpkfjdaedaplfaa
open Go.RowKit

def buildIs (n : Nat) (ps : Array (Nat × Value)) : Sem Next := do pure (.value (← Instr.buildSlice 79 n ps))
theorem exec_buildIs (ρ : Operand → Value) (dst : Option Tmp) (n : Nat) (parts : Array (Nat × Operand)) (ty : TypeId) (pos : String) (after : Array Edge) (guard : Option (Nat × Bool)) :
    execOp ρ { dst, op := .buildSlice 79 n parts, type := ty, pos, after, guard } = buildIs n (parts.map fun (i, x) => (i, ρ x)) := rfl
theorem run_buildIs1 (x : Int) (w : World) : (buildIs 1 #[(0, .int .i64 x)]).run Try.prog w = .ok (.value (.slice (some ⟨w.heap.size, 0, none⟩) 1 1)) (w.alloc (.cells #[.int .i64 x] 2)) := by
  have h := run_buildSl (P := Try.prog) (T := 79) (E := 2) (s := 1) (n := 1) Try.underlying79 (by kernel_rfl) (by kernel_rfl) #[(0, .int .i64 x)] (by simp [Fits, Value.cells]) (by simp [flatC, Value.cells]) (by decide) (by decide) w
  simp only [buildIs, Sem.run_bind, h, Result.andThen_ok, Sem.run_pure]
  simp [flatC, Value.cells]
theorem run_buildIs2 (x y : Int) (w : World) : (buildIs 2 #[(0, .int .i64 x), (1, .int .i64 y)]).run Try.prog w = .ok (.value (.slice (some ⟨w.heap.size, 0, none⟩) 2 2)) (w.alloc (.cells #[.int .i64 x, .int .i64 y] 2)) := by
  have h := run_buildSl (P := Try.prog) (T := 79) (E := 2) (s := 1) (n := 2) Try.underlying79 (by kernel_rfl) (by kernel_rfl) #[(0, .int .i64 x), (1, .int .i64 y)] (by simp [Fits, Value.cells]) (by simp [flatC, Value.cells]) (by decide) (by decide) w
  simp only [buildIs, Sem.run_bind, h, Result.andThen_ok, Sem.run_pure]
  simp [flatC, Value.cells]
def buildRs (n : Nat) (ps : Array (Nat × Value)) : Sem Next := do pure (.value (← Instr.buildSlice 69 n ps))
theorem exec_buildRs (ρ : Operand → Value) (dst : Option Tmp) (n : Nat) (parts : Array (Nat × Operand)) (ty : TypeId) (pos : String) (after : Array Edge) (guard : Option (Nat × Bool)) :
    execOp ρ { dst, op := .buildSlice 69 n parts, type := ty, pos, after, guard } = buildRs n (parts.map fun (i, x) => (i, ρ x)) := rfl
theorem run_buildRs2 (u v : Value) (hu : u.cells = #[u]) (hv : v.cells = #[v]) (w : World) : (buildRs 2 #[(0, u), (1, v)]).run Try.prog w = .ok (.value (.slice (some ⟨w.heap.size, 0, none⟩) 2 2)) (w.alloc (.cells #[u, v] 79)) := by
  have h := run_buildSl (P := Try.prog) (T := 69) (E := 79) (s := 1) (n := 2) Try.underlying69 (by kernel_rfl) (by kernel_rfl) #[(0, u), (1, v)] (by simp [Fits, hu, hv]) (by simp [flatC, hu, hv]) (by decide) (by decide) w
  simp only [buildRs, Sem.run_bind, h, Result.andThen_ok, Sem.run_pure]
  simp [flatC, hu, hv]
theorem run_buildRs3 (u v t : Value) (hu : u.cells = #[u]) (hv : v.cells = #[v]) (ht : t.cells = #[t]) (w : World) : (buildRs 3 #[(0, u), (1, v), (2, t)]).run Try.prog w = .ok (.value (.slice (some ⟨w.heap.size, 0, none⟩) 3 3)) (w.alloc (.cells #[u, v, t] 79)) := by
  have h := run_buildSl (P := Try.prog) (T := 69) (E := 79) (s := 1) (n := 3) Try.underlying69 (by kernel_rfl) (by kernel_rfl) #[(0, u), (1, v), (2, t)] (by simp [Fits, hu, hv, ht]) (by simp [flatC, hu, hv, ht]) (by decide) (by decide) w
  simp only [buildRs, Sem.run_bind, h, Result.andThen_ok, Sem.run_pure]
  simp [flatC, hu, hv, ht]
/-- a row's value is one cell -/
theorem Holds.oneZ {w0 w : World} {L : List Part} (h : Holds w0 w L) (i : Nat) {v : Value} {l : List Int} (hi : L[i]? = some (pZ9 v l)) : v.cells = #[v] := by
  obtain ⟨A, c, rfl⟩ := own_slice (h.ownZ9 i hi); rfl
theorem rd_lit10 {w : World} {g : Nat} {x : Int} {T : TypeId} (h : w.heap[g]? = some (.cells #[.int .i64 x] T (0, 0))) : RdZ w (.slice (some ⟨g, 0, none⟩) 1 1) [x] := by
  refine ⟨_, _, rfl, by simp, fun i y hy => ⟨_, rfl, lt_of_some h, ?_⟩⟩
  have hi : i = 0 := by have := (List.getElem?_eq_some_iff.1 hy).1; simp at this; omega
  subst hi
  simp only [List.getElem?_cons_zero, Option.some.injEq] at hy
  subst hy
  rw [show (⟨g, 0, none⟩ : Addr).add 0 = ⟨g, 0, none⟩ from rfl, cell_of_cells, cellsOf_heap h]; rfl
/-- rows that are listed in a block -/
theorem rd2_list {w : World} {g : Nat} {us : List Value} {ls : List (List Int)} {T : TypeId} (h : w.heap[g]? = some (.cells us.toArray T (0, 0))) (hl : us.length = ls.length) (hs : ls.length ≤ 1000) (hr : ∀ (i : Nat) (u : Value) (l : List Int), us[i]? = some u → ls[i]? = some l → RdZ w u l) :
    RdZ2 w (.slice (some ⟨g, 0, none⟩) ls.length ls.length) ls := by
  refine ⟨_, _, us, rfl, by omega, hl, fun i u hu => ⟨_, rfl, lt_of_some h, ?_⟩, hr⟩
  have hadd : (⟨g, 0, none⟩ : Addr).add i = ⟨g, i, none⟩ := by unfold Addr.add; split <;> simp_all
  rw [hadd, cell_of_cells, cellsOf_heap h, List.getElem?_toArray]; exact hu
/-- three rows of one's own, listed in a block of one's own -/
theorem own2z_3 {w0 w : World} {g : Nat} {a b c : Value} {la lb lc : List Int} {L : List Part} (H : Holds w0 w (pBlk g #[a, b, c] 79 :: pZ9 a la :: pZ9 b lb :: pZ9 c lc :: L)) :
    Own2Z w0.heap.size w (.slice (some ⟨g, 0, none⟩) 3 3) [la, lb, lc] := by
  refine ⟨[a, b, c], rfl, ?_, ?_, ?_⟩
  · exact ⟨rfl, .inr ⟨g, 3, #[a, b, c], rfl, H.above 0 rfl rfl, H.at 0 rfl, Nat.le_refl _, by unfold maxLen; decide, rfl, rfl⟩⟩
  · intro i u l hu hl
    match i with
    | 0 => simp at hu hl; subst hu hl; exact H.ownZ9 1 rfl
    | 1 => simp at hu hl; subst hu hl; exact H.ownZ9 2 rfl
    | 2 => simp at hu hl; subst hu hl; exact H.ownZ9 3 rfl
    | n + 3 => simp at hu
  · have key : ∀ {i j : Nat} {u v : Value} {lu lv : List Int}, i ≠ j → (pBlk g #[a, b, c] 79 :: pZ9 a la :: pZ9 b lb :: pZ9 c lc :: L)[i]? = some (pZ9 u lu) → (pBlk g #[a, b, c] 79 :: pZ9 a la :: pZ9 b lb :: pZ9 c lc :: L)[j]? = some (pZ9 v lv) → u.ownBlock = none ∨ u.ownBlock ≠ v.ownBlock := by
      intro i j u v lu lv hij hi hj
      rcases hb : u.ownBlock with _ | k
      · exact .inl rfl
      · exact .inr fun e => H.apart hij hi hj (show (pZ9 u lu).own k from hb) (show (pZ9 v lv).own k from e.symm)
    intro i j u v hij hu hv
    match i, j with
    | 0, 1 => simp at hu hv; subst hu hv; exact key (i := 1) (j := 2) (by decide) rfl rfl
    | 0, 2 => simp at hu hv; subst hu hv; exact key (i := 1) (j := 3) (by decide) rfl rfl
    | 1, 2 => simp at hu hv; subst hu hv; exact key (i := 2) (j := 3) (by decide) rfl rfl
    | 0, 0 | 1, 0 | 1, 1 | 2, 0 | 2, 1 | 2, 2 => omega
    | i, j + 3 => simp at hv
    | i + 3, j => simp at hu
namespace Rd
theorem region_R6 {P : Program} {id : Nat} {Q : Exit → Act → World → Prop} {a : Act} {w w0 : World} {l : List Oper} (L : List Part) (L1 : List Part) (sp : List Nat) (p : Plan) (H : Holds w0 w L1) (hL : L.Sublist L1)
    (hm : P.follows .mixedOrders = true) (hsel : Region.noSelect l.toArray = true) (hB : planB .any l.toArray sp l.toArray.size p (Array.replicate l.toArray.size false) = true)
    {α1 α2 α3 α4 α5 α6 : Type} (F : α1 → α2 → α3 → α4 → α5 → α6 → List Part) (act : α1 → α2 → α3 → α4 → α5 → α6 → Act)
    (h : ∀ K : Act → World → Prop, (∀ g1 g2 g3 g4 g5 g6 wx, Holds w0 wx (F g1 g2 g3 g4 g5 g6) → K (act g1 g2 g3 g4 g5 g6) wx) → walkV P l.toArray (fun wx => Holds w0 wx L) (fun k => sp.contains k) K p a (fun wx => Holds w0 wx L1))
    (key : ∀ g1 g2 g3 g4 g5 g6 wx, Holds w0 wx (F g1 g2 g3 g4 g5 g6) → Q .normal (act g1 g2 g3 g4 g5 g6) wx) : (Code.region id l.toArray true).wp P Q a w :=
  region_P L L1 sp p H hL hm hsel hB (h (fun a' w' => Q .normal a' w') key)
theorem region_R8 {P : Program} {id : Nat} {Q : Exit → Act → World → Prop} {a : Act} {w w0 : World} {l : List Oper} (L : List Part) (L1 : List Part) (sp : List Nat) (p : Plan) (H : Holds w0 w L1) (hL : L.Sublist L1)
    (hm : P.follows .mixedOrders = true) (hsel : Region.noSelect l.toArray = true) (hB : planB .any l.toArray sp l.toArray.size p (Array.replicate l.toArray.size false) = true)
    {α1 α2 α3 α4 α5 α6 α7 α8 : Type} (F : α1 → α2 → α3 → α4 → α5 → α6 → α7 → α8 → List Part) (act : α1 → α2 → α3 → α4 → α5 → α6 → α7 → α8 → Act)
    (h : ∀ K : Act → World → Prop, (∀ g1 g2 g3 g4 g5 g6 g7 g8 wx, Holds w0 wx (F g1 g2 g3 g4 g5 g6 g7 g8) → K (act g1 g2 g3 g4 g5 g6 g7 g8) wx) → walkV P l.toArray (fun wx => Holds w0 wx L) (fun k => sp.contains k) K p a (fun wx => Holds w0 wx L1))
    (key : ∀ g1 g2 g3 g4 g5 g6 g7 g8 wx, Holds w0 wx (F g1 g2 g3 g4 g5 g6 g7 g8) → Q .normal (act g1 g2 g3 g4 g5 g6 g7 g8) wx) : (Code.region id l.toArray true).wp P Q a w :=
  region_P L L1 sp p H hL hm hsel hB (h (fun a' w' => Q .normal a' w') key)
end Rd
end Go.Proofs.Ytpkfjdaedaplfaa
