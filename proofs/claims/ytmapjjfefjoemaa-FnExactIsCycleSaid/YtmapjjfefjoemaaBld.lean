/- A dessin built out of its three parts. -/
import Derived.Test.YtmapjjfefjoemaaDes
namespace Go.Proofs.Ytmapjjfefjoemaa
open Go.RowKit

theorem foldset (off : Nat) : ∀ (l : List Value) (k : Nat) (cs : Array Value) (i : Nat),
    ((l.zipIdx k).foldl (fun cs (p : Value × Nat) => cs.setIfInBounds (off + p.2) p.1) cs)[i]? = if off + k ≤ i ∧ i < off + k + l.length ∧ i < cs.size then l[i - (off + k)]? else cs[i]? := by
  intro l
  induction l with
  | nil => intro k cs i; simp; omega
  | cons x l ih =>
    intro k cs i
    rw [List.zipIdx_cons, List.foldl_cons, ih]
    simp only [Array.size_setIfInBounds, List.length_cons, Array.getElem?_setIfInBounds]
    by_cases h : off + k = i
    · subst h
      rw [if_neg (by omega), if_pos rfl]
      by_cases h2 : off + k < cs.size
      · rw [if_pos h2, if_pos ⟨by omega, by omega, h2⟩]; simp
      · rw [if_neg h2, if_neg (by omega), Array.getElem?_eq_none (by omega)]
    · rw [if_neg h]
      by_cases h2 : off + k ≤ i ∧ i < off + k + (l.length + 1) ∧ i < cs.size
      · rw [if_pos h2, if_pos (by omega), show i - (off + k) = (i - (off + (k + 1))) + 1 from by omega, List.getElem?_cons_succ]
      · rw [if_neg h2, if_neg (by omega)]

theorem splice_eq (off : Nat) (cs c : Array Value) : Array.foldl (fun cs (x : Value × Nat) => cs.setIfInBounds (off + x.snd) x.fst) cs c.zipIdx = (c.toList.zipIdx 0).foldl (fun cs (p : Value × Nat) => cs.setIfInBounds (off + p.2) p.1) cs := by
  rw [← Array.foldl_toList, Array.toList_zipIdx]
theorem splice_size (off : Nat) : ∀ (l : List Value) (k : Nat) (cs : Array Value), ((l.zipIdx k).foldl (fun cs (p : Value × Nat) => cs.setIfInBounds (off + p.2) p.1) cs).size = cs.size := by
  intro l
  induction l with
  | nil => intro k cs; rfl
  | cons x l ih => intro k cs; rw [List.zipIdx_cons, List.foldl_cons, ih, Array.size_setIfInBounds]

set_option maxRecDepth 100000 in
theorem builtD (n : Int) (f g : Nat → Nat) : Try.prog.built 31 [(0, .int .i64 n), (1, .agg (av f)), (2, .agg (av g))] = some (dv n f g) := by
  have hu : Try.prog.underlying 31 = some (.struct _) := Try.underlying31
  have hz : (Try.prog.info? 31).map (·.zero) = some (some (.agg (dv 0 (fun _ => 0) (fun _ => 0)))) := by rw [dv_zero]; kernel_rfl
  unfold Program.built
  rcases hi : Try.prog.info? 31 with _ | it
  · rw [hi] at hz; cases hz
  · rw [hi] at hz
    have hz' : it.zero = some (.agg (dv 0 (fun _ => 0) (fun _ => 0))) := by simpa using hz
    rw [hu]
    simp only [hz']
    generalize he : List.mapM (fun (f : Field) => Option.map (fun i => (f.offset, i.size)) (Try.prog.info? f.type)) _ = z
    have hz2 : z = some [(0, 1), (1, 16), (17, 16)] := he.symm.trans (by kernel_rfl)
    subst hz2
    simp only [Instr.fill, Value.cells, List.getElem?_toArray, List.getElem?_cons_zero, List.getElem?_cons_succ, av_size, splice_eq, splice_size, dv_size]
    rw [if_neg (by simp), if_neg (by simp), if_neg (by simp)]
    congr 1
    apply Array.ext_getElem?
    intro i
    have l1 : (av f).toList.length = 16 := by simpa using av_size f
    have l2 : (av g).toList.length = 16 := by simpa using av_size g
    rw [foldset, foldset, foldset, get_cases, get_cases, splice_size, splice_size, dv_size, l1, l2, Array.getElem?_toList, Array.getElem?_toList, av_cases, av_cases]
    simp only [List.length_cons, List.length_nil, Nat.zero_add, Nat.add_zero, Nat.sub_zero]
    by_cases h0 : i = 0
    · subst h0; simp
    · by_cases h1 : i < 17
      · rw [if_neg (by omega), if_pos (by omega), if_pos (by omega), if_pos (by omega), if_neg h0, if_pos h1]
      · by_cases h2 : i < 33
        · rw [if_pos (by omega), if_pos (by omega), if_pos h2, if_neg h0, if_neg h1]
        · rw [if_neg (by omega), if_neg (by omega), if_neg (by omega), if_neg h2, if_neg h2]
theorem builtD0 : Try.prog.built 31 [] = some (dv 0 (fun _ => 0) (fun _ => 0)) := by rw [dv_zero]; kernel_rfl

/-- what the operation 'build a dessin' does -/
def buildD (ps : Array (Nat × Value)) : Sem Next := do pure (.value (← Instr.build 31 ps))
@[go_sem ↓] theorem exec_buildD (ρ : Operand → Value) (dst : Option Tmp) (parts : Array (Nat × Operand)) (ty : TypeId) (pos : String) (after : Array Edge) (guard : Option (Nat × Bool)) :
    execOp ρ { dst, op := .build 31 parts, type := ty, pos, after, guard } = buildD (parts.map fun (i, x) => (i, ρ x)) := rfl
@[go_sem] theorem run_buildD (n : Int) (f g : Nat → Nat) (w : World) : (buildD #[(0, .int .i64 n), (1, .agg (av f)), (2, .agg (av g))]).run Try.prog w = .ok (.value (.agg (dv n f g))) w := by
  simp only [buildD, Sem.run_bind, run_build (P := Try.prog) w 31 #[(0, .int .i64 n), (1, .agg (av f)), (2, .agg (av g))] _ (builtD n f g), Result.andThen_ok, Sem.run_pure]
@[go_sem] theorem run_buildD0 (w : World) : (buildD #[]).run Try.prog w = .ok (.value (.agg (dv 0 (fun _ => 0) (fun _ => 0)))) w := by
  simp only [buildD, Sem.run_bind, run_build (P := Try.prog) w 31 #[] _ builtD0, Result.andThen_ok, Sem.run_pure]
set_option maxRecDepth 100000 in
theorem builtD1 (n : Int) : Try.prog.built 31 [(0, .int .i64 n)] = some (dv n (fun _ => 0) (fun _ => 0)) := by
  have hu : Try.prog.underlying 31 = some (.struct _) := Try.underlying31
  have hz : (Try.prog.info? 31).map (·.zero) = some (some (.agg (dv 0 (fun _ => 0) (fun _ => 0)))) := by rw [dv_zero]; kernel_rfl
  unfold Program.built
  rcases hi : Try.prog.info? 31 with _ | it
  · rw [hi] at hz; cases hz
  · rw [hi] at hz
    have hz' : it.zero = some (.agg (dv 0 (fun _ => 0) (fun _ => 0))) := by simpa using hz
    rw [hu]
    simp only [hz']
    generalize he : List.mapM (fun (f : Field) => Option.map (fun i => (f.offset, i.size)) (Try.prog.info? f.type)) _ = z
    have hz2 : z = some [(0, 1), (1, 16), (17, 16)] := he.symm.trans (by kernel_rfl)
    subst hz2
    simp only [Instr.fill, Value.cells, List.getElem?_toArray, List.getElem?_cons_zero, splice_eq, dv_size]
    rw [if_neg (by simp)]
    congr 1
    apply Array.ext_getElem?
    intro i
    rw [foldset, get_cases, get_cases, dv_size]
    by_cases h0 : i = 0
    · subst h0; simp
    · rw [if_neg (by simp; omega)]
      by_cases h2 : i < 33
      · rw [if_pos h2, if_pos h2, if_neg h0, if_neg h0]
      · rw [if_neg h2, if_neg h2]
@[go_sem] theorem run_buildD1 (n : Int) (w : World) : (buildD #[(0, .int .i64 n)]).run Try.prog w = .ok (.value (.agg (dv n (fun _ => 0) (fun _ => 0)))) w := by
  simp only [buildD, Sem.run_bind, run_build (P := Try.prog) w 31 #[(0, .int .i64 n)] _ (builtD1 n), Result.andThen_ok, Sem.run_pure]
end Go.Proofs.Ytmapjjfefjoemaa
