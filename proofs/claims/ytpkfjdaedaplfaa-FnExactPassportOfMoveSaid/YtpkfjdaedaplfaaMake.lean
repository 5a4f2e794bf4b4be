/- Arrays, structs and slices that are built of all their parts: their cells are those of the parts, one after the other. -/
import Derived.Test.YtpkfjdaedaplfaaAgg
import Derived.Test.YtpkfjdaedaplfaaBld
namespace Go.Proofs.Ytpkfjdaedaplfaa
open Go.RowKit

def flatC (ps : List (Nat × Value)) : List Value := ps.flatMap fun x => x.2.cells.toList
def Fits (place : Nat → Option (Nat × Nat)) : Nat → List (Nat × Value) → Prop
  | _, [] => True
  | off, (i, v) :: r => place i = some (off, v.cells.size) ∧ Fits place (off + v.cells.size) r
theorem fill_seq (place : Nat → Option (Nat × Nat)) : ∀ (ps : List (Nat × Value)) (done junk : List Value), Fits place done.length ps → (flatC ps).length ≤ junk.length →
    Instr.fill place (done ++ junk).toArray ps = some (done ++ flatC ps ++ junk.drop (flatC ps).length).toArray := by
  intro ps
  induction ps with
  | nil => intro done junk _ _; simp [Instr.fill, flatC]
  | cons p ps ih =>
    obtain ⟨i, v⟩ := p
    intro done junk hf hl
    have e : flatC ((i, v) :: ps) = v.cells.toList ++ flatC ps := rfl
    have lv : v.cells.toList.length = v.cells.size := Array.length_toList
    rw [e, List.length_append, lv] at hl
    have hst : (v.cells.toList.zipIdx 0).foldl (fun cs (p : Value × Nat) => cs.setIfInBounds (done.length + p.2) p.1) (done ++ junk).toArray = ((done ++ v.cells.toList) ++ junk.drop v.cells.size).toArray := by
      apply Array.ext_getElem?
      intro k
      rw [foldset, List.getElem?_toArray, List.getElem?_toArray]
      simp only [Nat.add_zero, lv, List.size_toArray, List.length_append]
      by_cases h1 : k < done.length
      · rw [if_neg (by omega), List.append_assoc, List.getElem?_append_left h1, List.getElem?_append_left h1]
      · by_cases h2 : k < done.length + v.cells.size
        · rw [if_pos (by omega), List.append_assoc, List.getElem?_append_right (by omega), List.getElem?_append_left (by rw [lv]; omega)]
        · rw [if_neg (by omega), List.getElem?_append_right (by omega), List.append_assoc, List.getElem?_append_right (by omega), List.getElem?_append_right (by rw [lv]; omega), List.getElem?_drop, lv]
          congr 1; omega
    have ih' := ih (done ++ v.cells.toList) (junk.drop v.cells.size) (by rw [List.length_append, lv]; exact hf.2) (by rw [List.length_drop]; omega)
    rw [e, Instr.fill, hf.1]
    simp only [splice_eq]
    rw [if_neg (by simp; omega), hst, ih']
    congr 2
    rw [List.length_append, lv, List.drop_drop]
    simp only [List.append_assoc]
section
variable {P : Program}
theorem built_arr {T E n s N : Nat} (hu : P.underlying T = some (.array n E)) (hz : (P.info? T).map (fun i => i.zero.map (fun z => z.cells.size)) = some (some N)) (hs : (P.info? E).map (·.size) = some s) (ps : List (Nat × Value))
    (hf : Fits (fun i => some (i * s, s)) 0 ps) (hN : (flatC ps).length = N) : P.built T ps = some (flatC ps).toArray := by
  unfold Program.built
  rcases hi : P.info? T with _ | it
  · rw [hi] at hz; cases hz
  rcases hj : P.info? E with _ | ie
  · rw [hj] at hs; cases hs
  rw [hi] at hz
  rw [hj] at hs
  rcases hz0 : it.zero with _ | z
  · simp [hz0] at hz
  have hs' : ie.size = s := by simpa using hs
  have hz' : z.cells.size = N := by simpa [hz0] using hz
  rw [hu]
  simp only [hz0, hj, hs']
  have lz : z.cells.toList.length = z.cells.size := Array.length_toList
  have h := fill_seq (fun i => some (i * s, s)) ps [] z.cells.toList hf (by rw [lz]; omega)
  rw [List.nil_append, Array.toArray_toList] at h
  rw [h, List.drop_eq_nil_of_le (by rw [lz]; omega)]
  simp
theorem built_str {T N : Nat} {fs : Array Field} {pl : List (Nat × Nat)} (hu : P.underlying T = some (.struct fs)) (hz : (P.info? T).map (fun i => i.zero.map (fun z => z.cells.size)) = some (some N))
    (hp : fs.toList.mapM (fun f => (P.info? f.type).map fun i => (f.offset, i.size)) = some pl) (ps : List (Nat × Value)) (hf : Fits (fun i => pl.toArray[i]?) 0 ps) (hN : (flatC ps).length = N) : P.built T ps = some (flatC ps).toArray := by
  unfold Program.built
  rcases hi : P.info? T with _ | it
  · rw [hi] at hz; cases hz
  rw [hi] at hz
  rcases hz0 : it.zero with _ | z
  · simp [hz0] at hz
  have hz' : z.cells.size = N := by simpa [hz0] using hz
  rw [hu]
  simp only [hz0, hp]
  have lz : z.cells.toList.length = z.cells.size := Array.length_toList
  have h := fill_seq (fun i => pl.toArray[i]?) ps [] z.cells.toList hf (by rw [lz]; omega)
  rw [List.nil_append, Array.toArray_toList] at h
  rw [h, List.drop_eq_nil_of_le (by rw [lz]; omega)]
  simp
/-- a slice of n entries -/
theorem run_buildSl {T E s n : Nat} (hu : P.underlying T = some (.slice E)) (hz : (P.info? E).map (fun i => i.zero.isSome) = some true) (hs : (P.info? E).map (·.size) = some s) (ps : Array (Nat × Value))
    (hf : Fits (fun i => some (i * s, s)) 0 ps.toList) (hN : (flatC ps.toList).length = n * s) (h0 : 0 < n * s) (hm : n * s ≤ 2 ^ 24) (w : World) :
    (Instr.buildSlice T n ps).run P w = .ok (.slice (some ⟨w.heap.size, 0, none⟩) n n) (w.alloc (.cells (flatC ps.toList).toArray E)) := by
  rcases hj : P.info? E with _ | ie
  · rw [hj] at hs; cases hs
  rw [hj] at hs hz
  have hs' : ie.size = s := by simpa using hs
  rcases hz0 : ie.zero with _ | z
  · simp [hz0] at hz
  have hfl : ∀ zc : Array Value, Instr.fill (fun i => some (i * s, s)) ((Array.range (n * s)).map (zc[· % zc.size]!)) ps.toList = some (flatC ps.toList).toArray := fun zc => by
    have lz : ((Array.range (n * s)).map (zc[· % zc.size]!)).toList.length = n * s := by simp
    have h := fill_seq (fun i => some (i * s, s)) ps.toList [] ((Array.range (n * s)).map (zc[· % zc.size]!)).toList hf (by rw [lz]; omega)
    rw [List.nil_append, Array.toArray_toList] at h
    rw [h, List.drop_eq_nil_of_le (by rw [lz]; omega)]
    simp
  have hne : ¬ n * s = 0 := by omega
  have hle : ¬ n * s > 2 ^ 24 := by omega
  simp only [Instr.buildSlice, run_underlying hu, sizeOf, typeInfo, hj, hs', zeroValue, hz0, Sem.run_bind, Sem.run_pure, Result.andThen_ok, run_program, hne, hle, if_false, hfl]
  simp [newRow, Sem.run_bind]
end
end Go.Proofs.Ytpkfjdaedaplfaa
