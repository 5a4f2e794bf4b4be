/- Texts put together: Ren, Nam, Same, Cmp, Bef, SNam, EqDs, Can, RegC, Pr, Pk, Pfr, Nbf, SameD, Iso, Grn, Sie, Sv, Sft, Prds, AddM, Grn2, Add, SvO, Has, Chn -/
import Derived.Test.YtdoehnckolhloaaQbLawIsSolvable
import Derived.Test.YtdoehnckolhloaaChecked
import Derived.WalkKit
import Derived.WalkSpells
import Derived.WalkLawsBesides
import Derived.Deep.LoopGhost
import Derived.Deep.OwnRows
import Derived.Laws.Rows
import Derived.Laws.Tables
import Derived.Laws.CopyOwn
import Derived.ProofKit
import Derived.OpenShut
import Derived.ShutString
import Derived.ChangeOld
import Derived.Below
import Derived.Laws.CopyRow
import Derived.Deep.MidRow
import Derived.Laws.OwnMore
import Derived.Deep.Quiet
import Derived.Deep.QuietTactic
import Derived.BigQuiet
import Derived.StillTail
import Derived.RegionTactic
import Derived.ChangeKeysEq
import Derived.StillTailTactics
import Derived.Deep.RegionWith
import Derived.Deep.RegionHeld3
import Derived.Maps.Keyed
import Derived.DeepKeys4
import Derived.Maps.Own
import Derived.Carry
import Derived.Laws.Cover3
import Derived.Lib.Bytealg
import Derived.Lib.BytesEntry
import Derived.Laws.Externs
import Derived.Laws.StructEq
import Derived.WalkMore
namespace Go.Proofs.Ytdoehnckolhloaa
open Go.RowKit

def renF (p f : Nat → Nat) (m : Nat) : Nat → Nat := thenF (thenF (backF p m) f m) p m
def renTo (p f : Nat → Nat) : Nat → Nat → Nat
  | 0 => fun _ => 0
  | k + 1 => fset (renTo p f k) (p k) (p (f k))
theorem renTo_at {p f : Nat → Nat} {n : Nat} (h : Bij p n) : ∀ k, k ≤ n → ∀ x, x < k → renTo p f k (p x) = p (f x) := by
  intro k
  induction k with
  | zero => intro _ x hx; omega
  | succ k ih =>
    intro hk x hx
    show fset (renTo p f k) (p k) (p (f k)) (p x) = p (f x)
    unfold fset
    by_cases c : p x = p k
    · rw [if_pos c, h.2 x k (by omega) (by omega) c]
    · rw [if_neg c]
      by_cases d : x = k
      · subst d; exact absurd rfl c
      · exact ih (by omega) x (by omega)
theorem renTo_none {p f : Nat → Nat} {y : Nat} : ∀ k, (∀ x, x < k → p x ≠ y) → renTo p f k y = 0 := by
  intro k
  induction k with
  | zero => intro _; rfl
  | succ k ih =>
    intro h
    show fset (renTo p f k) (p k) (p (f k)) y = 0
    unfold fset
    rw [if_neg (fun e => h k (by omega) e.symm)]
    exact ih fun x hx => h x (by omega)
theorem renF_at {p f : Nat → Nat} {m x : Nat} (h : Bij p m) (hx : x < m) : renF p f m (p x) = p (f x) := by
  unfold renF
  rw [thenF_at (h.1 x hx), thenF_at (h.1 x hx), backF_at h hx]
theorem renTo_eq {p f : Nat → Nat} {m : Nat} (h : Bij p m) : renTo p f m = renF p f m := by
  funext y
  rcases Nat.lt_or_ge y m with c | c
  · obtain ⟨x, hx, rfl⟩ := h.onto c
    rw [renTo_at h m (Nat.le_refl m) x hx, renF_at h hx]
  · rw [renTo_none m fun x hx e => by have := h.1 x hx; omega]
    unfold renF
    rw [thenF_out c]
theorem renF_perm {p f : Nat → Nat} {m : Nat} (hp : PermN p m) (hf : PermN f m) : PermN (renF p f m) m := thenF_perm (thenF_perm (backF_perm hp) hf) hp

-- left out here: loop.example/g01200/impl.rename
-- left out here: loop.example/g01200/spec.l02Rename
noncomputable def renB (n : Int) (f g p : Nat → Nat) : Bool := desB n f g && permB p n
noncomputable def renR (n : Int) (f g p : Nat → Nat) : Value := if renB n f g p = true then .tuple #[.agg (dv n (renF p f n.toNat) (renF p g n.toNat)), .int .i64 0] else .tuple #[.agg (dv 0 (fun _ => 0) (fun _ => 0)), .int .i64 1]
theorem renR_eq (n : Int) (f g p : Nat → Nat) : ∃ (a : Int) (r s : Nat → Nat) (c : Int), renR n f g p = .tuple #[.agg (dv a r s), .int .i64 c] := by
  unfold renR; split
  · exact ⟨_, _, _, _, rfl⟩
  · exact ⟨_, _, _, _, rfl⟩

-- left out here: loop.example/g01200/impl.RenameDessin
-- left out here: loop.example/g01200/spec.RenameDessin
end Go.Proofs.Ytdoehnckolhloaa

namespace Go.Proofs.Ytdoehnckolhloaa
open Go.RowKit

theorem zeros16 : (Builtin.zeroCells #[Value.int .u8 0] 16).toList = bytesL (List.replicate 16 0) := by kernel_rfl
theorem wrap16 : IntKind.i64.wrap 16 = 16 := by kernel_rfl
theorem run_app16 {w : World} {B : Nat} {v : Value} {l : List Nat} (ty : TypeId) (h : OwnB B w v l) (h0 : 0 < l.length) (hl : l.length ≤ 16) (hBw : B ≤ w.heap.size) :
    ∃ v' w', (Builtin.append_ #[105, 3] ty #[v, .int .i64 16]).run Try.prog w = .ok v' w' ∧ OwnB B w' v' (l ++ List.replicate 16 0) ∧ w.grownBy w' v.ownBlock := by
  obtain ⟨i0, hi, hz0, hz1, hz2⟩ := info_parts infoU8
  rcases h.2 with ⟨_, e⟩ | ⟨g, cap, cur, rfl, hB, hh, h1, h2, h3, h4⟩
  · omega
  · rw [Nat.mul_one] at h3 h4
    have hbl : (bytesL l).length = l.length := by simp [bytesL]
    by_cases hroom : l.length + 16 ≤ cap
    · have hst := run_storeCells_at Try.prog g l.length 5 (bytesL (List.replicate 16 0)) 0 cur w hh (by simp [bytesL]; omega) (by simp [bytesL, Value.oneCell'])
      refine ⟨.slice (some ⟨g, 0, none⟩) (l.length + 16) cap, w.setRow g (cur.toList.take l.length ++ bytesL (List.replicate 16 0) ++ cur.toList.drop (l.length + 16)).toArray, ?_, ?_, ?_⟩
      · have hz := zeros16
        simp only [Nat.add_zero] at hst
        have hZl : (bytesL (List.replicate 16 0)).length = 16 := by simp [bytesL]
        generalize bytesL (List.replicate 16 0) = Z at *
        rw [hZl] at hst
        simp [Builtin.append_, run_underlying Try.underlying105, run_underlying Try.underlying3, sizeOf, typeInfo, zeroValue, hi, hz0, hz1, hz2, hroom, asInt, asIntOf, Addr.add_lit, wrap16, hz, Value.cells, hst, hbl]
      · refine ⟨by simp [bytesL], .inr ⟨g, cap, _, by simp, hB, setRow_heap _ _ _ _ _ _ hh, by simpa using hroom, h2, ?_, ?_⟩⟩
        · simp [bytesL]; omega
        · rw [h4]
          have : (l ++ List.replicate 16 0).length * 1 = (bytesL l ++ bytesL (List.replicate 16 0)).length := by simp [bytesL]
          rw [this]
          simp only [List.take_left]
          simp [bytesL]
      · exact ⟨rfl, rfl, rfl, by simp, fun k _ hk => setRow_other w g k _ (fun e => hk (by simp [Value.ownBlock, e]))⟩
    · have hn : ¬ (l.length + 16 ≤ cap) := hroom
      have h63 : ¬ (9223372036854775807 < ((l.length : Int) + max 16 0)) := by omega
      have h48 : ¬ (281474976710656 < Builtin.nextslicecap (l.length + 16) cap) := by
        have := growslice_fits (need := l.length + 16) (old := cap) (bytes := 1) (by omega) (by omega)
        omega
      have hfo := run_firstCells_some (P := Try.prog) w.drew 1 l.length ⟨g, 0, none⟩ l.length cap (bytesL l) (by simp [bytesL]) (fun j u hu => by
        have := World.ownsRow.cells h (g := g) rfl j u hu
        simpa using this)
      have hz := zeros16
      have hge := grownCap_ge w (l.length + 16) cap 5
      have hcm := grownCap_le_maxLen w (l.length + 16) cap 5 (by unfold maxLen; omega)
      refine ⟨.slice (some ⟨w.heap.size, 0, none⟩) (l.length + 16) (grownCap w (l.length + 16) cap 5), w.drew.alloc (.cells ((bytesL l).toArray ++ (Builtin.zeroCells #[Value.int .u8 0] 16 ++ Builtin.zeroCells #[Value.int .u8 0] (grownCap w (l.length + 16) cap 5 - (l.length + 16)))) 5), ?_, ?_, ?_⟩
      · simp [Builtin.append_, run_underlying Try.underlying105, run_underlying Try.underlying3, sizeOf, typeInfo, zeroValue, hi, hz0, hz1, hz2, hn, h63, h48, asInt, asIntOf, Addr.add_lit, wrap16, hz, Value.cells, Question.forced, hfo, newRow, grownCap]
      · refine ⟨by simp [bytesL], .inr ⟨w.heap.size, _, _, by simp, hBw, heap_alloc_new w.drew _, by simpa using hge, hcm, ?_, ?_⟩⟩
        · simp [size_zeroCells, bytesL]; omega
        · have e : (l ++ List.replicate 16 0).length * 1 = (bytesL l ++ bytesL (List.replicate 16 0)).length := by simp [bytesL]
          rw [e]
          simp only [Array.toList_append, hz]
          rw [← List.append_assoc]
          simp only [List.take_left]
          simp [bytesL]
      · exact ⟨rfl, rfl, rfl, by simp, fun k hk _ => heap_past w.drew _ k hk⟩
/-- the operation -/
theorem appZ {ops : Array Oper} {rest : List Oper} {o : Oper} {a : Act} {Q : Exit → Act → World → Prop} {w : World} (hgd : o.guard = none) (s : Operand)
    (ho : o.op = .call { callee := .builtin .append, args := #[s, .const (.int .i64 16)], argTypes := #[105, 3] }) {B : Nat} {v : Value} {l : List Nat} (hs : a.eval s = v) (hown : OwnB B w v l) (h0 : 0 < l.length) (hl : l.length ≤ 16) (hB : B ≤ w.heap.size)
    (h : ∀ v' w', OwnB B w' v' (l ++ List.replicate 16 0) → w.grownBy w' v.ownBlock → wpList Try.prog ops Q rest (a.put o.dst v') w') : wpList Try.prog ops Q (o :: rest) a w := by
  obtain ⟨v', w', hr, h2, h3⟩ := run_app16 o.type hown h0 hl hB
  refine wpList_plain hgd fun _ hK => ?_
  unfold Oper.wp execOp
  have hc : a.eval (.const (.int .i64 16)) = .int .i64 16 := rfl
  simp only [ho, resolve, invoke, builtin, Sem.run_bind, Sem.run_pure, Result.andThen_ok, List.map_toArray, List.map_cons, List.map_nil, hs, hc, hr]
  exact hK _ _ (h v' w' h2 h3)

/-- the first sixteen of a list of bytes and sixteen zeros behind it -/
def lstF (l : List Nat) : Nat → Nat := fun i => l.getD i 0
theorem lstF_take (l : List Nat) (hl : l.length ≤ 16) : ((bytesL (l ++ List.replicate 16 0)).take 16).toArray = av (lstF l) := by
  apply Array.ext_getElem?
  intro i
  rw [List.getElem?_toArray, av_cases]
  by_cases h : i < 16
  · rw [List.getElem?_take_of_lt h, if_pos h]
    unfold bytesL lstF
    rw [List.getElem?_map]
    rcases Nat.lt_or_ge i l.length with c | c
    · rw [List.getElem?_append_left c, List.getD_eq_getElem?_getD, List.getElem?_eq_getElem c]; rfl
    · rw [List.getElem?_append_right c, List.getD_eq_getElem?_getD, List.getElem?_eq_none c, List.getElem?_replicate, if_pos (by omega)]; rfl
  · rw [List.getElem?_take_eq_none (by omega), if_neg h]
/-- the array that lies at the beginning of such a list -/
theorem own_sixteen {B : Nat} {w : World} {v : Value} {l : List Nat} (h : OwnB B w v (l ++ List.replicate 16 0)) (h0 : 0 < (l ++ List.replicate 16 0).length) (hl : l.length ≤ 16) :
    ∃ g c, v = .slice (some ⟨g, 0, none⟩) (l ++ List.replicate 16 0).length c ∧ B ≤ g ∧ g < w.heap.size ∧
      ∀ wx, cellsOf wx g = cellsOf w g → (loadT 27 (.pointer (some ⟨g, 0, none⟩))).run Try.prog wx = .ok (.value (.agg (av (lstF l)))) wx := by
  rcases h.2 with ⟨_, e⟩ | ⟨g, cap, cur, rfl, hB, hh, h1, h2, h3, h4⟩
  · omega
  · refine ⟨g, cap, rfl, hB, (Array.getElem?_eq_some_iff.1 hh).1, fun wx hx => run_load_mid aggP ?_ (av_size _)⟩
    rw [hx, cellsOf_heap hh, ← lstF_take l hl, ← h4, List.take_take]
    have hm : min 16 ((l ++ List.replicate 16 0).length * 1) = 16 := by simp
    rw [hm]
    apply Array.ext'
    simp
def namF (f g : Nat → Nat) (m x : Nat) : Nat → Nat := backF (lstF (bfs f g x 16).1) m

-- left out here: loop.example/g01200/impl.naming
end Go.Proofs.Ytdoehnckolhloaa

namespace Go.Proofs.Ytdoehnckolhloaa
open Go.RowKit

theorem info8 : (Try.prog.info? 5).map (fun i => (i.zero, i.size, i.bytes)) = some (some (.int .u8 0), 1, 1) := by kernel_rfl
theorem plain8 : Try.prog.plainKey 5 = true := by kernel_rfl
theorem cells8 : Try.prog.cellsOf 5 = 1 := by kernel_rfl
@[go_sem] theorem guardP : Try.prog.eqGuardType Try.prog.depth 27 = false := by kernel_rfl
@[irreducible] def sameB (f g : Nat → Nat) : Bool := (List.range 16).all fun i => ((f i : Nat) : Int) == ((g i : Nat) : Int)
theorem sameB_iff (f g : Nat → Nat) : sameB f g = true ↔ ∀ i, i < 16 → f i = g i := by unfold sameB; simp [Int.ofNat_inj]
theorem run_items (f g : Nat → Nat) (w : World) : ∀ is : List Nat, (∀ i ∈ is, i < 16) →
    (Op.eqItems 9999 5 1 (av f) (av g) is).run Try.prog w = .ok (is.all fun i => ((f i : Nat) : Int) == ((g i : Nat) : Int)) w
  | [], _ => by simp [Op.eqItems]
  | i :: is, h => by
    have hi := h i (by simp)
    have ih := run_items f g w is fun j hj => h j (by simp [hj])
    have h1 := run_part_plain w plain8 (av_get f hi)
    have h2 := run_part_plain w plain8 (av_get g hi)
    have h3 := run_equalIn_int w 9998 5 .u8 .u8 (f i) (g i) Try.underlying5
    simp only [Op.eqItems, Nat.mul_one, Sem.run_bind, h1, h2, h3, Result.andThen_ok, List.all_cons]
    rcases hb : (((f i : Nat) : Int) == ((g i : Nat) : Int)) with _ | _
    · simp
    · simp [ih]
@[go_sem] theorem run_sameP (f g : Nat → Nat) (w : World) : (Op.equalIn 10000 27 (.agg (av f)) (.agg (av g))).run Try.prog w = .ok (sameB f g) w := by
  obtain ⟨i0, hi, _⟩ := info_parts info8
  have h := run_equalIn_array w 9999 (av f) (av g) Try.underlying27 hi
  rw [cells8] at h
  rw [h, run_items f g w _ (by simp)]
  unfold sameB; rfl

end Go.Proofs.Ytdoehnckolhloaa

namespace Go.Proofs.Ytdoehnckolhloaa
open Go.RowKit

/-- sixteen entries as bytes -/
def b16 (f : Nat → Nat) : List UInt8 := (List.range 16).map fun i => UInt8.ofNat (f i)
theorem b16_length (f : Nat → Nat) : (b16 f).length = 16 := by simp [b16]
theorem b16_get (f : Nat → Nat) {i : Nat} (h : i < 16) : (b16 f).getD i 0 = UInt8.ofNat (f i) := by unfold b16; simp [List.getD, h]
theorem cb_spec : ∀ (a b : List UInt8), a.length = b.length → (Lib.compareBytes a b = 0 ∧ a = b) ∨
    (∃ i, i < a.length ∧ (∀ j, j < i → a.getD j 0 = b.getD j 0) ∧ a.getD i 0 ≠ b.getD i 0 ∧ Lib.compareBytes a b = if a.getD i 0 < b.getD i 0 then -1 else 1)
  | [], [], _ => .inl ⟨rfl, rfl⟩
  | [], _ :: _, h => by simp at h
  | _ :: _, [], h => by simp at h
  | x :: a, y :: b, h => by
    by_cases hxy : x = y
    · subst hxy
      have e : Lib.compareBytes (x :: a) (x :: b) = Lib.compareBytes a b := by simp [Lib.compareBytes]
      rw [e]
      rcases cb_spec a b (by simpa using h) with ⟨h1, h2⟩ | ⟨i, h1, h2, h3, h4⟩
      · exact .inl ⟨h1, by rw [h2]⟩
      · refine .inr ⟨i + 1, by simp; omega, fun j hj => ?_, by simpa using h3, by simpa using h4⟩
        rcases j with _ | j
        · rfl
        · simpa using h2 j (by omega)
    · refine .inr ⟨0, by simp, fun j hj => by omega, by simpa using hxy, ?_⟩
      simp only [Lib.compareBytes, List.getD_cons_zero]
      by_cases hlt : x < y
      · rw [if_pos hlt, if_pos hlt]
      · have : y < x := UInt8.lt_of_le_of_ne (UInt8.not_lt.1 hlt) (Ne.symm hxy)
        rw [if_neg hlt, if_pos this, if_neg hlt]
def eqF (f g : Nat → Nat) : Prop := ∀ i, i < 16 → f i = g i
def ltF (f g : Nat → Nat) : Prop := ∃ i, i < 16 ∧ f i < g i ∧ ∀ j, j < i → f j = g j
theorem ofNat_eq {x y : Nat} (hx : x < 256) (hy : y < 256) : UInt8.ofNat x = UInt8.ofNat y ↔ x = y := by
  refine ⟨fun h => ?_, fun h => by rw [h]⟩
  have := congrArg UInt8.toNat h
  simpa [Nat.mod_eq_of_lt hx, Nat.mod_eq_of_lt hy] using this
theorem ofNat_lt {x y : Nat} (hx : x < 256) (hy : y < 256) : UInt8.ofNat x < UInt8.ofNat y ↔ x < y := by
  rw [UInt8.lt_iff_toNat_lt]
  simp [Nat.mod_eq_of_lt hx, Nat.mod_eq_of_lt hy]
theorem cmp_cases (f g : Nat → Nat) (hf : ∀ i, i < 16 → f i < 256) (hg : ∀ i, i < 16 → g i < 256) :
    (Lib.compareBytes (b16 f) (b16 g) = 0 ∧ eqF f g) ∨ (Lib.compareBytes (b16 f) (b16 g) = -1 ∧ ltF f g ∧ ¬ eqF f g) ∨ (Lib.compareBytes (b16 f) (b16 g) = 1 ∧ ¬ ltF f g ∧ ¬ eqF f g) := by
  rcases cb_spec (b16 f) (b16 g) (by rw [b16_length, b16_length]) with ⟨h1, h2⟩ | ⟨i, h1, h2, h3, h4⟩
  · refine .inl ⟨h1, fun i hi => ?_⟩
    have := congrArg (fun l => l.getD i 0) h2
    simp only [b16_get _ hi] at this
    exact (ofNat_eq (hf i hi) (hg i hi)).1 this
  · rw [b16_length] at h1
    rw [b16_get _ h1, b16_get _ h1] at h3 h4
    have hne : f i ≠ g i := fun e => h3 (by rw [e])
    have hnq : ¬ eqF f g := fun h => hne (h i h1)
    have hpre : ∀ j, j < i → f j = g j := fun j hj => by
      have := h2 j hj
      rw [b16_get _ (by omega), b16_get _ (by omega)] at this
      exact (ofNat_eq (hf j (by omega)) (hg j (by omega))).1 this
    by_cases hlt : f i < g i
    · rw [if_pos ((ofNat_lt (hf i h1) (hg i h1)).2 hlt)] at h4
      exact .inr (.inl ⟨h4, ⟨i, h1, hlt, hpre⟩, hnq⟩)
    · rw [if_neg (fun h => hlt ((ofNat_lt (hf i h1) (hg i h1)).1 h))] at h4
      refine .inr (.inr ⟨h4, fun ⟨j, k1, k2, k3⟩ => ?_, hnq⟩)
      rcases Nat.lt_trichotomy i j with c | c | c
      · exact hne (k3 i c)
      · subst c; exact hlt k2
      · have := hpre j c; omega

def x16 (f : Nat → Nat) : List Int := (List.range 16).map fun i => (f i : Int)
theorem x16_bytes (f : Nat → Nat) : Lib.bytesOf (x16 f) = b16 f := by unfold Lib.bytesOf x16 b16; simp
-- left out here: bytes.Compare internal/bytealg.Compare
end Go.Proofs.Ytdoehnckolhloaa

namespace Go.Proofs.Ytdoehnckolhloaa
open Go.RowKit

@[go_sem] theorem slice_all (b o : Nat) (w : World) :
    (Instr.sliceAt 27 (.pointer (some ⟨b, o, none⟩)) none none none).run Try.prog w = .ok (.slice (some ⟨b, o, none⟩) 16 16) w := by
  have e : Try.prog.arrayLen 27 = 16 := by kernel_rfl
  have := run_sliceAt_array_all (P := Try.prog) w 27 ⟨b, o, none⟩ (by kernel_rfl)
  rw [this, e]
  simp only [go_sem]
  simp [slicedAt]

-- left out here: cmp.Or[int]
def cmpD (f g f' g' : Nat → Nat) : Int := if Lib.compareBytes (b16 f) (b16 f') = 0 then Lib.compareBytes (b16 g) (b16 g') else Lib.compareBytes (b16 f) (b16 f')
-- left out here: loop.example/g01200/impl.compareDessins
noncomputable def ltB (f g : Nat → Nat) : Bool := @decide (ltF f g) (Classical.propDecidable _)
theorem ltB_iff (f g : Nat → Nat) : ltB f g = true ↔ ltF f g := by unfold ltB; simp
theorem ltB_at {f g : Nat → Nat} {k : Nat} (hk : k < 16) (hpre : ∀ j, j < k → f j = g j) (hne : f k ≠ g k) : ltB f g = decide (f k < g k) := by
  rw [Bool.eq_iff_iff, ltB_iff, decide_eq_true_iff]
  refine ⟨fun ⟨j, h1, h2, h3⟩ => ?_, fun h => ⟨k, hk, h, hpre⟩⟩
  rcases Nat.lt_trichotomy j k with c | c | c
  · have := hpre j c; omega
  · subst c; exact h2
  · exact absurd (h3 k c) hne
theorem ltB_eq {f g : Nat → Nat} (h : ∀ j, j < 16 → f j = g j) : ltB f g = false := by
  rw [Bool.eq_false_iff]
  intro e
  obtain ⟨j, h1, h2, h3⟩ := (ltB_iff f g).1 e
  have := h j h1; omega
noncomputable def befB (f g f' g' : Nat → Nat) : Bool := if sameB f f' = true then ltB g g' else ltB f f'
theorem cmpD_lt (f g f' g' : Nat → Nat) (hf : ∀ i, i < 16 → f i < 256) (hg : ∀ i, i < 16 → g i < 256) (hf' : ∀ i, i < 16 → f' i < 256) (hg' : ∀ i, i < 16 → g' i < 256) : decide (cmpD f g f' g' < 0) = befB f g f' g' := by
  unfold cmpD befB
  have two : ∀ {a b : Nat → Nat}, (∀ i, i < 16 → a i < 256) → (∀ i, i < 16 → b i < 256) → decide (Lib.compareBytes (b16 a) (b16 b) < 0) = ltB a b := by
    intro a b ha hb
    rw [Bool.eq_iff_iff, ltB_iff, decide_eq_true_iff]
    rcases cmp_cases a b ha hb with ⟨e, h⟩ | ⟨e, h, _⟩ | ⟨e, h, _⟩
    · rw [e]
      refine ⟨fun h => by omega, fun ⟨j, h1, h2, _⟩ => ?_⟩
      have := h j h1; omega
    · rw [e]; exact ⟨fun _ => h, fun _ => by omega⟩
    · rw [e]; exact ⟨fun h => by omega, fun k => absurd k h⟩
  rcases cmp_cases f f' hf hf' with ⟨e, h⟩ | ⟨e, _, h⟩ | ⟨e, _, h⟩
  · rw [if_pos e, if_pos ((sameB_iff f f').2 h)]; exact two hg hg'
  · rw [if_neg (by rw [e]; omega), if_neg (fun k => h ((sameB_iff f f').1 k))]; exact two hf hf'
  · rw [if_neg (by rw [e]; omega), if_neg (fun k => h ((sameB_iff f f').1 k))]; exact two hf hf'

-- left out here: loop.example/g01200/spec.l02Less
-- left out here: loop.example/g01200/spec.l02Before
end Go.Proofs.Ytdoehnckolhloaa

namespace Go.Proofs.Ytdoehnckolhloaa
open Go.RowKit

/-- one byte more at the end of a list of bytes of the call's own -/
theorem appB {ops : Array Oper} {rest : List Oper} {o : Oper} {a : Act} {Q : Exit → Act → World → Prop} {w : World} {t : TypeId} (hgd : o.guard = none) (s x : Operand)
    (ho : o.op = .call { callee := .builtin .append, args := #[s, x], argTypes := #[105, 105] }) {B : Nat} {v : Value} {l : List Nat} (hs : a.eval s = v) (hown : OwnB B w v l) (hB : B ≤ w.heap.size)
    (y : Nat) (g : Nat) (hx : a.eval x = .slice (some ⟨g, 0, none⟩) 1 1) (hg : g = w.heap.size) (hl : l.length ≤ 1000000000)
    (h : ∀ v' w', OwnB B w' v' (l ++ [y]) → w.grownBy w' v.ownBlock → w.heap.size < w'.heap.size → wpList Try.prog ops Q rest (a.put o.dst v') w') :
    wpList Try.prog ops Q (o :: rest) a (w.alloc (.cells #[.int .u8 (y : Int)] t)) := by
  obtain ⟨i0, hi, hz0, hz1, hz2⟩ := info_parts infoU8
  unfold OwnB at hown
  refine wpList_append_own (P := Try.prog) _ hgd s x 105 ho B 5 i0 (.int .u8 0) 1 1 Try.underlying105 hi hz0 hz1 hz2 rfl (by decide) v l.length (bytesL l) hs (hown.alloc _) ⟨g, 0, none⟩ 1 1 [.int .u8 (y : Int)] hx rfl
    (one_new _ _ _ _ hg) (fun u hu => ?_) (by unfold maxLen; omega) (by omega) (by simp; omega) fun v' w' h1 h2 _ => h v' w' ?_ ?_ ?_
  · simp at hu; subst hu; rfl
  · unfold OwnB bytesL at *
    simpa using h1
  · exact grown_step (grown_alloc (grown_refl w v.ownBlock) _) h2 fun g hg => .inr hg
  · have := h2.size; simp at this; omega

theorem heap4 {w : World} {o o1 o2 o3 o4 : Obj} {g : Nat} (h : g = w.heap.size) : (((((w.alloc o).alloc o1).alloc o2).alloc o3).alloc o4).heap[g]? = some o := (heap_past _ _ _ (by simp; omega)).trans (heap3 h)
/-- what l02Naming has made -/
structure NW (w wr : World) (m : Nat) (f g : Nat → Nat) (o : Nat → Nat) (b : Nat → Bool) : Prop where
  low : Below w.heap.size w wr
  des : cellsOf wr w.heap.size = dv m f g
  res : rowOk wr (w.heap.size + 1) 16
  out : wr.heap[w.heap.size + 1 + 1 + 1]? = some (.cells (av o) 27 (0, 0))
  met : wr.heap[w.heap.size + 1 + 1 + 1 + 1]? = some (.cells (bv b) 114 (0, 0))
theorem NW.lt {w wr : World} {m : Nat} {f g o : Nat → Nat} {b : Nat → Bool} (h : NW w wr m f g o b) : w.heap.size + 1 + 1 + 1 + 1 < wr.heap.size := (Array.getElem?_eq_some_iff.1 h.met).1
theorem NW.grown {w wr w' : World} {m : Nat} {f g o : Nat → Nat} {b : Nat → Bool} {r : Option Nat} (h : NW w wr m f g o b) (hg : wr.grownBy w' r) (hr : ∀ k, r = some k → w.heap.size + 2 ≤ k ∧ k ≠ w.heap.size + 1 + 1 + 1 ∧ k ≠ w.heap.size + 1 + 1 + 1 + 1) : NW w w' m f g o b := by
  have hl := h.lt
  exact ⟨h.low.grown hg (by omega) (fun k hk => by have := hr k hk; omega), (grown_cells hg (by omega) (fun e => by have := hr _ e.symm; omega)).trans h.des, (grown_row hg (by omega) (fun e => by have := hr _ e.symm; omega)).2 h.res,
    (hg.block _ (by omega) (fun e => (hr _ e.symm).2.1 rfl)).trans h.out, (hg.block _ (by omega) (fun e => (hr _ e.symm).2.2 rfl)).trans h.met⟩
theorem NW.setB {w wr : World} {m : Nat} {f g o : Nat → Nat} {b : Nat → Bool} (h : NW w wr m f g o b) (y : Nat) : NW w (wr.setCell ⟨w.heap.size + 1 + 1 + 1 + 1, y, none⟩ (.bool true)) m f g o (mset b y) := by
  refine ⟨below_setCell h.low (by omega) _ _, (cellsOf_setCell_ne (by omega)).trans h.des, rowOk_setCell h.res, ?_, ?_⟩
  · rw [Below.heap_setCell wr ⟨w.heap.size + 1 + 1 + 1 + 1, y, none⟩ _ _ (show w.heap.size + 1 + 1 + 1 ≠ w.heap.size + 1 + 1 + 1 + 1 by omega)]; exact h.out
  · rw [heap_setCell_same _ _ _ _ _ _ h.met, bv_set]
theorem NW.setO {w wr : World} {m : Nat} {f g o : Nat → Nat} {b : Nat → Bool} (h : NW w wr m f g o b) (y v : Nat) : NW w (wr.setCell ⟨w.heap.size + 1 + 1 + 1, y, none⟩ (.int .u8 v)) m f g (fset o y v) b := by
  refine ⟨below_setCell h.low (by omega) _ _, (cellsOf_setCell_ne (by omega)).trans h.des, rowOk_setCell h.res, ?_, ?_⟩
  · rw [heap_setCell_same _ _ _ _ _ _ h.out, av_set]
  · rw [Below.heap_setCell wr ⟨w.heap.size + 1 + 1 + 1, y, none⟩ _ _ (show w.heap.size + 1 + 1 + 1 + 1 ≠ w.heap.size + 1 + 1 + 1 by omega)]; exact h.met
theorem NW.far {w wr : World} {m : Nat} {f g o : Nat → Nat} {b : Nat → Bool} (h : NW w wr m f g o b) {v : Value} {l : List Nat} (ho : OwnB (w.heap.size + 2) wr v l) : ∀ k, v.ownBlock = some k → w.heap.size + 2 ≤ k ∧ k ≠ w.heap.size + 1 + 1 + 1 ∧ k ≠ w.heap.size + 1 + 1 + 1 + 1 := by
  intro k hk
  refine ⟨(World.ownsRow.lt ho k hk).1, fun e => ?_, fun e => ?_⟩
  · rcases own_ne_blk ho h.out (by decide) with c | c
    · rw [c] at hk; cases hk
    · exact c (by rw [hk, e])
  · rcases own_ne_blk ho h.met (by decide) with c | c
    · rw [c] at hk; cases hk
    · exact c (by rw [hk, e])
theorem OwnB.setCell {B g i : Nat} {w : World} {v u : Value} {l : List Nat} (h : OwnB B w v l) (hne : ∀ k, v.ownBlock = some k → k ≠ g) : OwnB B (w.setCell ⟨g, i, none⟩ u) v l :=
  World.ownsRow.kept h (grown_setCell (grown_refl w (some g))) (by rcases hv : v.ownBlock with _ | k; exact .inl rfl; exact .inr fun e => hne k hv (by injection e))
theorem lstF_at {f g : Nat → Nat} {m x k : Nat} (hI : BInv m (bfs f g x k)) (hm : m ≤ 16) (hk : k < (bfs f g x k).1.length) : lstF (bfs f g x 16).1 k = (bfs f g x k).1[k] := by
  have h16 := hI.length_le
  obtain ⟨t, ht⟩ := bfs_pre' f g x (show k ≤ 16 by omega)
  unfold lstF
  rw [← ht, List.getD_eq_getElem?_getD, List.getElem?_append_left hk, List.getElem?_eq_getElem hk]; rfl

-- left out here: loop.example/g01200/spec.l02Naming
end Go.Proofs.Ytdoehnckolhloaa

namespace Go.Proofs.Ytdoehnckolhloaa
open Go.RowKit

set_option maxRecDepth 100000 in
set_option maxHeartbeats 400000 in
theorem eqDessin_same (n : Int) (f g : Nat → Nat) (w : World) : Calls Try.prog 28 #[.agg (dv n f g), .agg (dv n f g)] w fun e w' => e = .returned (.bool true) ∧ Below w.heap.size w w' := by
  have hn := dv_n n f g
  have hne : (n != n) = false := by simp
  go_enter Try.func28, Try.ntmps28
  go_wp2_with fail
  refine (eqPlaces_same f _).mono ?_
  rintro e w1 ⟨rfl, h1⟩
  have c0 : cellsOf w1 w.heap.size = dv n f g := (below_cells h1 (by simp <;> omega)).trans (cellsOf_heap (heap1 rfl))
  have c1 : cellsOf w1 (w.heap.size + 1) = dv n f g := (below_cells h1 (by simp <;> omega)).trans (cellsOf_heap (heap_at _ _ _ (by simp)))
  have b1 := (below2 w (.cells (dv n f g) 29) (.cells (dv n f g) 29)).trans (h1.mono (by simp <;> omega))
  have l1 := h1.size
  clear h1
  go_wp2_with fail
  refine (eqPlaces_same g _).mono ?_
  rintro e w2 ⟨rfl, h2⟩
  have b2 := b1.trans (h2.mono (by simp at l1; omega))
  clear b1 h2 c0 c1
  go_wp2
  go_ret
  exact ⟨rfl, b2⟩

end Go.Proofs.Ytdoehnckolhloaa

namespace Go.Proofs.Ytdoehnckolhloaa
open Go.RowKit

theorem lstF_perm {f g : Nat → Nat} {m x : Nat} (hd : DesN f g m) (hx : x < m) : PermN (lstF (bfs f g x 16).1) m := by
  have hI := bfs_inv hd.bf.1 hd.bg.1 hx 16
  have hlen : (bfs f g x 16).1.length = m := bfs_full hd.bf hd.bg hd.le hd.conn hx
  have hl := hI.lt
  have hn := hI.nodup
  generalize (bfs f g x 16).1 = l at *
  have at' : ∀ i (h : i < m), lstF l i = l[i] := fun i h => by unfold lstF; rw [List.getD_eq_getElem?_getD, List.getElem?_eq_getElem (by omega)]; rfl
  refine ⟨hd.pos, hd.le, ⟨fun i hi => ?_, fun i j hi hj e => ?_⟩, fun i hi _ => ?_⟩
  · rw [at' i hi]; exact hl _ (List.getElem_mem _)
  · rw [at' i hi, at' j hj] at e
    exact (List.getElem_inj hn).1 e
  · unfold lstF; rw [List.getD_eq_getElem?_getD, List.getElem?_eq_none (by omega)]; rfl
theorem namF_perm {f g : Nat → Nat} {m x : Nat} (hd : DesN f g m) (hx : x < m) : PermN (namF f g m x) m := backF_perm (lstF_perm hd hx)
/-- the form from x -/
def forB (f g : Nat → Nat) (m x : Nat) : Nat → Nat := renF (namF f g m x) f m
def forW (f g : Nat → Nat) (m x : Nat) : Nat → Nat := renF (namF f g m x) g m
theorem forB_perm {f g : Nat → Nat} {m x : Nat} (hd : DesN f g m) (hx : x < m) : PermN (forB f g m x) m := renF_perm (namF_perm hd hx) hd.black
theorem forW_perm {f g : Nat → Nat} {m x : Nat} (hd : DesN f g m) (hx : x < m) : PermN (forW f g m x) m := renF_perm (namF_perm hd hx) hd.white
/-- the least one of the forms from 0 to k -/
noncomputable def canS (f g : Nat → Nat) (m : Nat) : Nat → (Nat → Nat) × (Nat → Nat)
  | 0 => (forB f g m 0, forW f g m 0)
  | k + 1 => if befB (forB f g m (k + 1)) (forW f g m (k + 1)) (canS f g m k).1 (canS f g m k).2 = true then (forB f g m (k + 1), forW f g m (k + 1)) else canS f g m k
theorem canS_perm {f g : Nat → Nat} {m : Nat} (hd : DesN f g m) : ∀ k, k < m → PermN (canS f g m k).1 m ∧ PermN (canS f g m k).2 m := by
  intro k
  induction k with
  | zero => intro h; exact ⟨forB_perm hd h, forW_perm hd h⟩
  | succ k ih =>
    intro h
    rw [canS]
    split
    · exact ⟨forB_perm hd h, forW_perm hd h⟩
    · exact ih (by omega)
theorem befB_self (f g : Nat → Nat) : befB f g f g = false := by
  unfold befB
  rw [if_pos ((sameB_iff f f).2 fun _ _ => rfl)]
  exact ltB_eq fun _ _ => rfl
theorem canS_step (f g : Nat → Nat) (m k : Nat) : canS f g m k = if befB (forB f g m k) (forW f g m k) (canS f g m (k - 1)).1 (canS f g m (k - 1)).2 = true then (forB f g m k, forW f g m k) else canS f g m (k - 1) := by
  rcases k with _ | k
  · show canS f g m 0 = if befB (forB f g m 0) (forW f g m 0) (forB f g m 0) (forW f g m 0) = true then _ else canS f g m 0
    rw [befB_self, if_neg (by simp)]
  · rfl

-- left out here: loop.example/g01200/impl.canonical loop.example/g01200/impl.compareDessins loop.example/g01200/impl.naming loop.example/g01200/impl.rename
-- left out here: loop.example/g01200/spec.l02Before loop.example/g01200/spec.l02Canonical loop.example/g01200/spec.l02Naming loop.example/g01200/spec.l02Rename
noncomputable def canR (n : Int) (f g : Nat → Nat) : Value := if desB n f g = true then .tuple #[.agg (dv n (canS f g n.toNat (n.toNat - 1)).1 (canS f g n.toNat (n.toNat - 1)).2), .int .i64 0] else .tuple #[.agg (dv 0 (fun _ => 0) (fun _ => 0)), .int .i64 1]
theorem canR_eq (n : Int) (f g : Nat → Nat) : ∃ (a : Int) (r s : Nat → Nat) (c : Int), canR n f g = .tuple #[.agg (dv a r s), .int .i64 c] := by
  unfold canR; split
  · exact ⟨_, _, _, _, rfl⟩
  · exact ⟨_, _, _, _, rfl⟩

-- left out here: loop.example/g01200/impl.CanonicalDessin
-- left out here: loop.example/g01200/spec.CanonicalDessin
-- left out here: loop.example/g01200/laws.FnExactCanonicalDessin
end Go.Proofs.Ytdoehnckolhloaa

namespace Go.Proofs.Ytdoehnckolhloaa.Rc
open Go.RowKit

section
variable (P : Program) (md : Region.Mode) (ops : Array Oper) (C : World → Prop) (E : Nat → Option (Value → World → Prop)) (K : Act → World → Prop)

def uponE (R : Value → World → Prop) (w : World) : Result Next → Prop
  | .ok (.value u) w' => C w' ∧ R u w'
  | .ok .skip w' => C w' ∧ R undef w'
  | .ok (.enter f args) w' => w' = w ∧ Calls P f args w (fun e w'' => ∃ v, e = .returned v ∧ C w'' ∧ R v w'')
  | _ => False

/-- one operation, and what follows -/
def opV (i : Nat) (N : Act → (World → Prop) → Prop) (a : Act) (D : World → Prop) : Prop :=
  match ops[i]? with
  | none => N a D
  | some o =>
    if Region.wanted o (yielded ops a.tmps) then
      match E i with
      | some R => (∀ w, C w → D w → uponE P C R w ((execOp a.eval o).run P w)) ∧ ∀ v, (∃ w, C w ∧ R v w) → N (a.put o.dst v) (R v)
      | none => ∃ v, (∀ w, C w → atG P o a w v) ∧ N (a.put o.dst v) D
    else N (a.put o.dst undef) D

theorem opV_mono {i : Nat} {N N' : Act → (World → Prop) → Prop} {a : Act} {D : World → Prop} (h : ∀ a D, N a D → N' a D) (hh : opV P ops C E i N a D) : opV P ops C E i N' a D := by
  unfold opV at *
  split
  · rename_i ho; simp only [ho] at hh; exact h _ _ hh
  · rename_i o ho
    simp only [ho] at hh
    split
    · rename_i hw
      rw [if_pos hw] at hh
      split
      · rename_i R hR; simp only [hR] at hh; exact ⟨hh.1, fun v hv => h _ _ (hh.2 v hv)⟩
      · rename_i hR
        simp only [hR] at hh
        obtain ⟨v, h1, h2⟩ := hh; exact ⟨v, h1, h _ _ h2⟩
    · rename_i hw; rw [if_neg hw] at hh; exact h _ _ hh

/-- whatever order is picked -/
def anyV : Nat → Array Bool → Act → (World → Prop) → Prop
  | 0, done, a, D => Region.ready md ops done = [] ∧ ∀ w, C w → D w → K a w
  | f + 1, done, a, D => (Region.ready md ops done = [] → ∀ w, C w → D w → K a w) ∧ ∀ i ∈ Region.ready md ops done, opV P ops C E i (anyV f (done.setIfInBounds i true)) a D

theorem op_sound (hC : ∀ w w', C w → Below w.heap.size w w' → C w') (hE : ∀ i R, E i = some R → ∀ v, Stable (R v)) {i : Nat} {N : Act → (World → Prop) → Prop} {K' : Act → World → Prop} {Q : Exit → Act → World → Prop} {a : Act} {D : World → Prop} {w : World} (hD : Stable D) (hw : C w) (hDw : D w)
    (hN : ∀ a D w, Stable D → C w → D w → N a D → K' a w) (h : opV P ops C E i N a D) : wpOp P ops Q i K' a w := by
  unfold opV at h
  unfold wpOp
  split
  · rename_i ho; simp only [ho] at h; exact hN _ _ _ hD hw hDw h
  · rename_i o ho
    simp only [ho] at h
    split
    · rename_i hwa
      rw [if_pos hwa] at h
      refine .inl ?_
      unfold Oper.wp
      rcases hEi : E i with _ | R
      · simp only [hEi] at h
        obtain ⟨v, h1, h2⟩ := h
        have h3 := h1 w hw
        unfold atG at h3
        generalize (execOp a.eval o).run P w = r at *
        cases r with
        | ok n w' =>
          cases n <;> simp only [uponG] at h3 <;> simp only [Oper.upon]
          case value u => obtain ⟨e1, e2⟩ := h3; rw [e1, e2]; exact hN _ _ _ hD hw hDw h2
          case skip => obtain ⟨e1, e2⟩ := h3; rw [e1, ← e2]; exact hN _ _ _ hD hw hDw h2
          case enter f args => obtain ⟨e1, hc⟩ := h3; rw [e1]; exact hc.mono fun e w'' ⟨he, hb⟩ => by subst he; exact hN _ _ _ hD (hC _ _ hw hb) (hD _ _ hDw hb) h2
        | halt x w' => simp only [uponG] at h3
      · simp only [hEi] at h
        have h3 := h.1 w hw hDw
        generalize (execOp a.eval o).run P w = r at *
        cases r with
        | ok n w' =>
          cases n <;> simp only [uponE] at h3 <;> simp only [Oper.upon]
          case value u => exact hN _ _ _ (hE _ _ hEi u) h3.1 h3.2 (h.2 u ⟨_, h3⟩)
          case skip => exact hN _ _ _ (hE _ _ hEi undef) h3.1 h3.2 (h.2 undef ⟨_, h3⟩)
          case enter f args =>
            obtain ⟨e1, hc⟩ := h3
            rw [e1]
            refine hc.mono ?_
            rintro e w'' ⟨v, he, hb, hr⟩
            subst he
            exact hN _ _ _ (hE _ _ hEi v) hb hr (h.2 v ⟨_, hb, hr⟩)
        | halt x w' => simp only [uponE] at h3
    · rename_i hwa; rw [if_neg hwa] at h; exact hN _ _ _ hD hw hDw h

theorem anyV_any (hC : ∀ w w', C w → Below w.heap.size w w' → C w') (hE : ∀ i R, E i = some R → ∀ v, Stable (R v)) {Q : Exit → Act → World → Prop} (hQ : ∀ a w, K a w → Q .normal a w) (f : Nat) : ∀ (done : Array Bool) (a : Act) (D : World → Prop) (w : World), Stable D → C w → D w →
    anyV P md ops C E K f done a D → wpAny P md ops Q f done a w := by
  induction f with
  | zero => intro done a D w _ hw hDw h; exact ⟨h.1, hQ _ _ (h.2 w hw hDw)⟩
  | succ f ih =>
    intro done a D w hD hw hDw h
    exact ⟨fun e => hQ _ _ (h.1 e w hw hDw), fun i hi => op_sound P ops C E hC hE hD hw hDw (fun a' D' w' h1 h2 h3 h4 => ih _ a' D' w' h1 h2 h3 h4) (h.2 i hi)⟩

def YieldsG (o : Oper) (v : Value) (a : Act) : Prop :=
  (Region.wanted o (yielded ops a.tmps) = true ∧ ∀ w, C w → atG P o a w v) ∨ (Region.wanted o (yielded ops a.tmps) = false ∧ v = undef)

theorem YieldsG.op {i : Nat} {o : Oper} {v : Value} {a : Act} {D : World → Prop} (hi : ops[i]? = some o) (hE : E i = none) (hy : YieldsG P ops C o v a) {N : Act → (World → Prop) → Prop} (h : N (a.put o.dst v) D) : opV P ops C E i N a D := by
  unfold opV
  simp only [hi, hE]
  rcases hy with ⟨hw, hv⟩ | ⟨hw, rfl⟩
  · rw [if_pos hw]; exact ⟨v, hv, h⟩
  · rw [if_neg (by simp [hw])]; exact h

theorem yieldsG_of {i : Nat} {o : Oper} {a : Act} {D : World → Prop} {N : Act → (World → Prop) → Prop} (hi : ops[i]? = some o) (hE : E i = none) (h : opV P ops C E i N a D) : ∃ v, YieldsG P ops C o v a ∧ N (a.put o.dst v) D := by
  unfold opV at h
  simp only [hi, hE] at h
  by_cases hw : Region.wanted o (yielded ops a.tmps) = true
  · rw [if_pos hw] at h
    obtain ⟨v, h1, h2⟩ := h
    exact ⟨v, .inl ⟨hw, h1⟩, h2⟩
  · rw [if_neg hw] at h
    exact ⟨undef, .inr ⟨by simpa using hw, rfl⟩, h⟩

theorem opV_put {j : Nat} {oi oj : Oper} {v : Value} (hj : ops[j]? = some oj) (hap : oi.apart ops oj = true) (hsi : ∀ cs b, oi.op ≠ .select cs b) (hsj : ∀ cs b, oj.op ≠ .select cs b)
    {N : Act → (World → Prop) → Prop} {a : Act} {D : World → Prop} (hy : YieldsG P ops C oi v a) (h : opV P ops C E j N (a.put oi.dst v) D) :
    opV P ops C E j (fun a' D' => YieldsG P ops C oi v a' ∧ N (a'.put oi.dst v) D') a D := by
  obtain ⟨h1, h2, h3⟩ := Oper.apart_spec hap
  have keep : ∀ u, YieldsG P ops C oi v (a.put oj.dst u) := fun u => by
    have e1 := execOp_put oi hsi a oj.dst u h3
    have e2 := wanted_put oi a oj.dst u h3
    unfold YieldsG atG at *
    rw [e1, e2]; exact hy
  unfold opV at *
  simp only [hj] at *
  rw [wanted_put oj a oi.dst v h1, execOp_put oj hsj a oi.dst v h1] at h
  have ep : ∀ u, (a.put oj.dst u).put oi.dst v = (a.put oi.dst v).put oj.dst u := fun u => (Act.put_comm a v u h2).symm
  by_cases hw : Region.wanted oj (yielded ops a.tmps) = true
  · rw [if_pos hw] at h ⊢
    rcases hE : E j with _ | R
    · simp only [hE] at h ⊢
      obtain ⟨u, k1, k2⟩ := h
      refine ⟨u, fun w hg => ?_, keep _, by rw [ep]; exact k2⟩
      have := k1 w hg
      unfold atG at *
      rwa [execOp_put oj hsj a oi.dst v h1] at this
    · simp only [hE] at h ⊢
      exact ⟨h.1, fun u hu => ⟨keep _, by rw [ep]; exact h.2 u hu⟩⟩
  · rw [if_neg hw] at h ⊢
    exact ⟨keep _, by rw [ep]; exact h⟩

theorem anyV_first {i : Nat} {o : Oper} {v : Value} (hi : ops[i]? = some o) (hE : E i = none) (hsel : ∀ (j : Nat) (o : Oper) cs b, ops[j]? = some o → o.op ≠ .select cs b) (f : Nat) :
    ∀ (done : Array Bool) (a : Act) (D : World → Prop),
      (∀ j oj, ops[j]? = some oj → j ≠ i → done.getD j true = false → (∀ e ∈ oj.after, Region.binds md e = true → e.on ≠ i) → o.apart ops oj = true) →
      i ∈ Region.ready md ops done → YieldsG P ops C o v a →
      anyV P md ops C E K f (done.setIfInBounds i true) (a.put o.dst v) D → anyV P md ops C E K (f + 1) done a D := by
  induction f with
  | zero =>
    intro done a D _ hr hy H
    refine ⟨fun e => (by rw [e] at hr; cases hr), fun j hj => ?_⟩
    by_cases e : j = i
    · subst e; exact hy.op P ops C E hi hE H
    · have := ready_mono hj e
      rw [H.1] at this; cases this
  | succ f ih =>
    intro done a D hfree hr hy H
    refine ⟨fun e => (by rw [e] at hr; cases hr), fun j hj => ?_⟩
    by_cases e : j = i
    · subst e; exact hy.op P ops C E hi hE H
    · obtain ⟨hjun, oj, hoj, hall⟩ := mem_ready.1 hj
      have hun := (mem_ready.1 hr).1
      have hno : ∀ e ∈ oj.after, Region.binds md e = true → e.on ≠ i := fun e he hb h => by
        have := hall e he hb
        rw [h, getD_both hun] at this
        cases this
      refine opV_mono P ops C E (fun a' D' h3 => ih (done.setIfInBounds j true) a' D' (fun k' ok hk hki hk' hnk => hfree k' ok hk hki ?_ hnk) (ready_mono hr (Ne.symm e)) h3.1 ?_)
        (opV_put P ops C E hoj (hfree j oj hoj e hjun hno) (fun cs b => hsel i o cs b hi) (fun cs b => hsel j oj cs b hoj) hy (H.2 j (ready_mono hj e)))
      · by_cases e' : j = k'
        · subst e'; exact hjun
        · rw [getD_set_ne true e'] at hk'; exact hk'
      · rw [Array.setIfInBounds_comm _ _ e]; exact h3.2

def walkV : Plan → Act → (World → Prop) → Prop
  | .fin, a, D => ∀ w, C w → D w → K a w
  | .q k p, a, D => opV P ops C E k (walkV p) a D
  | .s1 k p, a, D => opV P ops C E k (walkV p) a D
  | .s2 k1 p1 k2 p2, a, D => opV P ops C E k1 (walkV p1) a D ∧ opV P ops C E k2 (walkV p2) a D
  | .s3 k1 p1 k2 p2 k3 p3, a, D => opV P ops C E k1 (walkV p1) a D ∧ opV P ops C E k2 (walkV p2) a D ∧ opV P ops C E k3 (walkV p3) a D

theorem anyV_walk (hsel : Region.noSelect ops = true) (sp : List Nat) (hsp : ∀ k, sp.contains k = false → E k = none) (p : Plan) :
    ∀ (f : Nat) (done : Array Bool) (a : Act) (D : World → Prop), planB md ops sp f p done = true → walkV P ops C E K p a D → anyV P md ops C E K f done a D := by
  induction p with
  | fin =>
    intro f done a D hB h
    cases f with
    | zero => exact ⟨by simpa [planB] using hB, h⟩
    | succ f =>
      have e : Region.ready md ops done = [] := by simpa [planB] using hB
      exact ⟨fun _ => h, fun i hi => by rw [e] at hi; cases hi⟩
  | q k p ih =>
    intro f done a D hB h
    cases f with
    | zero => simp [planB] at hB
    | succ f =>
      simp only [planB, Bool.and_eq_true, decide_eq_true_eq, Bool.not_eq_true'] at hB
      obtain ⟨hc, ⟨hr, hfree⟩, hk, hB'⟩ := hB
      have hE := hsp k hc
      have hi : ops[k]? = some ops[k] := Array.getElem?_eq_getElem hk
      obtain ⟨v, hy, hK⟩ := yieldsG_of P ops C E hi hE h
      exact anyV_first P md ops C E K hi hE (Region.noSelect_spec hsel) f done a D (Region.free_spec hi hfree) (by simpa using hr) hy (ih _ _ _ _ hB' hK)
  | s1 k p ih =>
    intro f done a D hB h
    cases f with
    | zero => simp [planB] at hB
    | succ f =>
      simp only [planB, Bool.and_eq_true, decide_eq_true_eq] at hB
      obtain ⟨hr, hB'⟩ := hB
      refine ⟨fun e => (by rw [hr] at e; cases e), fun i hi => ?_⟩
      rw [hr] at hi
      obtain rfl : i = k := by simpa using hi
      exact opV_mono P ops C E (fun a' D' h' => ih _ _ _ _ hB' h') h
  | s2 k1 p1 k2 p2 ih1 ih2 =>
    intro f done a D hB h
    cases f with
    | zero => simp [planB] at hB
    | succ f =>
      simp only [planB, Bool.and_eq_true, decide_eq_true_eq] at hB
      obtain ⟨hr, hB1, hB2⟩ := hB
      refine ⟨fun e => (by rw [hr] at e; cases e), fun i hi => ?_⟩
      rw [hr] at hi
      simp only [List.mem_cons, List.not_mem_nil, or_false] at hi
      rcases hi with rfl | rfl
      · exact opV_mono P ops C E (fun a' D' h' => ih1 _ _ _ _ hB1 h') h.1
      · exact opV_mono P ops C E (fun a' D' h' => ih2 _ _ _ _ hB2 h') h.2
  | s3 k1 p1 k2 p2 k3 p3 ih1 ih2 ih3 =>
    intro f done a D hB h
    cases f with
    | zero => simp [planB] at hB
    | succ f =>
      simp only [planB, Bool.and_eq_true, decide_eq_true_eq] at hB
      obtain ⟨hr, hB1, hB2, hB3⟩ := hB
      refine ⟨fun e => (by rw [hr] at e; cases e), fun i hi => ?_⟩
      rw [hr] at hi
      simp only [List.mem_cons, List.not_mem_nil, or_false] at hi
      rcases hi with rfl | rfl | rfl
      · exact opV_mono P ops C E (fun a' D' h' => ih1 _ _ _ _ hB1 h') h.1
      · exact opV_mono P ops C E (fun a' D' h' => ih2 _ _ _ _ hB2 h') h.2.1
      · exact opV_mono P ops C E (fun a' D' h' => ih3 _ _ _ _ hB3 h') h.2.2
end

/-- a region by parts of memory: w0, L what the class holds; L1 what stands at the start beside it -/
theorem region_P {P : Program} {id : Nat} {Q : Exit → Act → World → Prop} {a : Act} {w w0 : World} {l : List Oper} (L : List Part) (L1 : List Part) (E : Nat → Option (Value → World → Prop)) (sp : List Nat) (p : Plan) (H : Holds w0 w L1) (hL : L.Sublist L1)
    (hE : ∀ i R, E i = some R → ∀ v, Stable (R v)) (hm : P.follows .mixedOrders = true)
    (hsel : Region.noSelect l.toArray = true) (hB : planB .any l.toArray sp l.toArray.size p (Array.replicate l.toArray.size false) = true) (hsp : ∀ k, sp.contains k = false → E k = none)
    (h : walkV P l.toArray (fun wx => Holds w0 wx L) E (fun a' w' => Q .normal a' w') p a (fun wx => Holds w0 wx L1)) : (Code.region id l.toArray true).wp P Q a w := by
  refine wp_region_any hm ?_
  exact anyV_any (Q := Q) P .any l.toArray (fun wx => Holds w0 wx L) E (fun a' w' => Q .normal a' w') (fun _ _ h hb => h.call hb) hE (fun _ _ h => h) _ _ _ _ w.drew (fun _ _ h hb => h.call hb) (H.drew.sub hL) H.drew
    (anyV_walk P .any l.toArray (fun wx => Holds w0 wx L) E (fun a' w' => Q .normal a' w') hsel sp hsp p _ _ a _ hB h)

section
variable {P : Program} {ops : Array Oper} {C : World → Prop} {E : Nat → Option (Value → World → Prop)} {k : Nat} {a : Act} {D : World → Prop} {N : Act → (World → Prop) → Prop}
theorem v_q {o : Oper} (ho : ops[k]? = some o) (hE : E k = none) (hw : Region.wanted o (yielded ops a.tmps) = true) {v : Value} (h1 : ∀ w, C w → atG P o a w v) (h2 : N (a.put o.dst v) D) : opV P ops C E k N a D := by
  unfold opV
  simp only [ho, hE]
  rw [if_pos hw]
  exact ⟨v, h1, h2⟩
theorem v_s {o : Oper} {R : Value → World → Prop} (ho : ops[k]? = some o) (hE : E k = some R) (hw : Region.wanted o (yielded ops a.tmps) = true) (h1 : ∀ w, C w → D w → uponE P C R w ((execOp a.eval o).run P w))
    (h2 : ∀ v, (∃ w, C w ∧ R v w) → N (a.put o.dst v) (R v)) : opV P ops C E k N a D := by
  unfold opV
  simp only [ho, hE]
  rw [if_pos hw]
  exact ⟨h1, h2⟩
end
/-- a list of cells laid for an append -/
def rBuild (w0 : World) (cells : Array Value) (t : TypeId) (k : Nat) (L : List Part) : Value → World → Prop := fun v w => ∃ g, v = .slice (some ⟨g, 0, none⟩) k k ∧ Holds w0 w (pBlk g cells t :: L)
theorem rBuild_stable {w0 : World} {cells : Array Value} {t : TypeId} {k : Nat} {L : List Part} (v : Value) : Stable (rBuild w0 cells t k L v) := fun _ _ ⟨g, e, h⟩ hb => ⟨g, e, h.call hb⟩
/-- a relation of one value that is told by parts -/
def rHolds (w0 : World) (L : Value → List Part) : Value → World → Prop := fun v w => Holds w0 w (L v)
theorem rHolds_stable {w0 : World} {L : Value → List Part} (v : Value) : Stable (rHolds w0 L v) := fun _ _ h hb => h.call hb
end Go.Proofs.Ytdoehnckolhloaa.Rc

namespace Go.Proofs.Ytdoehnckolhloaa
open Go.RowKit

def pairB (l : List (Nat × Nat)) : List Value := l.flatMap fun p => [Value.int .u8 (p.1 : Int), Value.int .u8 (p.2 : Int)]
theorem pairB_length (l : List (Nat × Nat)) : (pairB l).length = l.length * 2 := by unfold pairB; induction l <;> simp_all <;> omega
theorem pairB_append (l l' : List (Nat × Nat)) : pairB (l ++ l') = pairB l ++ pairB l' := by unfold pairB; simp
theorem pairB_at {l : List (Nat × Nat)} {k : Nat} (hk : k < l.length) : (pairB l)[k * 2]? = some (.int .u8 (l[k].1 : Int)) ∧ (pairB l)[k * 2 + 1]? = some (.int .u8 (l[k].2 : Int)) := by
  induction l generalizing k with
  | nil => simp at hk
  | cons p l ih =>
    rcases k with _ | k
    · exact ⟨rfl, rfl⟩
    · have := ih (k := k) (by simpa using hk)
      have e : pairB (p :: l) = [Value.int .u8 (p.1 : Int), Value.int .u8 (p.2 : Int)] ++ pairB l := rfl
      rw [e, List.getElem?_append_right (by simp; omega), List.getElem?_append_right (by simp; omega)]
      simp only [List.length_cons, List.length_nil, List.getElem_cons_succ]
      rw [show (k + 1) * 2 - (0 + 1 + 1) = k * 2 by omega, show (k + 1) * 2 + 1 - (0 + 1 + 1) = k * 2 + 1 by omega]
      exact this
theorem pairB_one {l : List (Nat × Nat)} : ∀ u ∈ pairB l, u.oneCell' = true := by
  intro u hu
  unfold pairB at hu
  obtain ⟨p, _, hp⟩ := List.mem_flatMap.1 hu
  simp at hp
  rcases hp with rfl | rfl <;> rfl
-- left out here: None
-- left out here: None
-- left out here: None
-- left out here: pPairs
-- left out here: pPairs
-- left out here: None
-- left out here: None
-- left out here: None
-- left out here: loop.example/g01200/impl.pairAfter
end Go.Proofs.Ytdoehnckolhloaa

namespace Go.Proofs.Ytdoehnckolhloaa
open Go.RowKit
open Go.Maps (Keyed)

theorem laidPk : laidOutB Try.prog = true := by kernel_rfl
-- left out here: None
-- left out here: None
end Go.Proofs.Ytdoehnckolhloaa

namespace Go.Proofs.Ytdoehnckolhloaa
open Go.RowKit

/-- pairs by codes -/
def bF (p q : Nat → Nat) (z : Nat) : Nat := 16 * p (z / 16) + q (z % 16)
theorem bF_1 {p q : Nat → Nat} {z : Nat} (h : q (z % 16) < 16) : bF p q z / 16 = p (z / 16) := by unfold bF; omega
theorem bF_2 {p q : Nat → Nat} {z : Nat} (h : q (z % 16) < 16) : bF p q z % 16 = q (z % 16) := by unfold bF; omega
theorem PermN.lt16 {p : Nat → Nat} {m : Nat} (h : PermN p m) {i : Nat} (hi : i < 16) : p i < 16 := by
  obtain ⟨h1, h2, h3, h4⟩ := h
  rcases Nat.lt_or_ge i m with c | c
  · have := h3.1 i c; omega
  · rw [h4 i c hi]; omega
theorem bF_lt {p q : Nat → Nat} {m n : Nat} (hp : PermN p m) (hq : PermN q n) (z : Nat) (hz : z < 256) : bF p q z < 256 := by
  have h1 := hp.lt16 (i := z / 16) (by omega)
  have h2 := hq.lt16 (i := z % 16) (by omega)
  unfold bF; omega
def dec (l : List Nat) : List (Nat × Nat) := l.map fun z => (z / 16, z % 16)
theorem dec_length (l : List Nat) : (dec l).length = l.length := by unfold dec; simp
theorem dec_snoc (l : List Nat) (z : Nat) : dec (l ++ [z]) = dec l ++ [(z / 16, z % 16)] := by unfold dec; simp
theorem dec_at {l : List Nat} {k : Nat} (hk : k < l.length) : (dec l)[k]'(by rw [dec_length]; exact hk) = (l[k] / 16, l[k] % 16) := by unfold dec; simp
theorem badd_mem {n : Nat} {S : List Nat × (Nat → Bool)} (h : BInv n S) (y : Nat) : y ∈ (badd S y).1 := by
  unfold badd
  by_cases c : S.2 y = true
  · rw [if_pos c]; exact (h.mem y).1 c
  · rw [if_neg c]; simp
/-- what has been found is closed -/
theorem bfs_clos {p q : Nat → Nat} {n K z : Nat} (hp : ∀ x, x < n → p x < n) (hq : ∀ x, x < n → q x < n) (hz : z < n) (hK : n ≤ K) {y : Nat} (hy : y ∈ (bfs p q z K).1) : p y ∈ (bfs p q z K).1 ∧ q y ∈ (bfs p q z K).1 := by
  obtain ⟨k, hk⟩ := List.getElem?_of_mem hy
  have hkl := (List.getElem?_eq_some_iff.1 hk).1
  have hle := (bfs_inv hp hq hz K).length_le
  have hlt : k < (bfs p q z k).1.length := by
    rcases Nat.lt_or_ge k (bfs p q z k).1.length with c | c
    · exact c
    · have := bfs_stop c (j := K) (by omega)
      rw [this] at hkl
      omega
  have hpre := bfs_pre' p q z (show k ≤ K by omega)
  have hky : (bfs p q z k).1[k] = y := by
    obtain ⟨t, ht⟩ := hpre
    rw [← ht, List.getElem?_append_left hlt, List.getElem?_eq_getElem hlt] at hk
    exact Option.some.inj hk
  have hI := bfs_inv hp hq hz k
  have hn := bfs_next hlt
  rw [hky] at hn
  have hy' : y < n := (bfs_inv hp hq hz K).lt y hy
  have e : bst p q (bfs p q z k) y 2 = badd (badd (bfs p q z k) (p y)) (q y) := rfl
  rw [e] at hn
  have hpre2 := bfs_pre' p q z (show k + 1 ≤ K by omega)
  refine ⟨hpre2.subset ?_, hpre2.subset ?_⟩
  · rw [hn]; exact (badd_le _ _).subset (badd_mem hI _)
  · rw [hn]; exact badd_mem (hI.add (hp y hy')) _
/-- the value of a code; the map of a set of codes -/
def encP (z : Nat) : Value := .agg #[.int .u8 ((z / 16 : Nat) : Int), .int .u8 ((z % 16 : Nat) : Int)]
theorem encP_inj {y z : Nat} (h : encP y = encP z) : y = z := by
  unfold encP at h
  injection h with h
  have h' := congrArg Array.toList h
  simp at h'
  omega
open Classical in
noncomputable def Mp (s : Nat → Bool) : Value → Option Value := fun v => if ∃ z, v = encP z ∧ s z = true then some (.bool true) else none
theorem Mp_at (s : Nat → Bool) (z : Nat) : Mp s (encP z) = if s z = true then some (.bool true) else none := by
  unfold Mp
  by_cases h : s z = true
  · rw [if_pos ⟨z, rfl, h⟩, if_pos h]
  · rw [if_neg (fun ⟨y, e, hy⟩ => h (by rw [encP_inj e]; exact hy)), if_neg h]
theorem Mp_put (s : Nat → Bool) (z : Nat) : mput (Mp s) (encP z) (.bool true) = Mp (mset s z) := by
  funext v
  unfold mput Mp mset
  by_cases h : v = encP z
  · rw [if_pos h, if_pos ⟨z, h, by simp⟩]
  · rw [if_neg h]
    by_cases c : ∃ y, v = encP y ∧ s y = true
    · rw [if_pos c]
      obtain ⟨y, e, hy⟩ := c
      rw [if_pos ⟨y, e, by simp [hy]⟩]
    · rw [if_neg c, if_neg]
      rintro ⟨y, e, hy⟩
      by_cases d : y = z
      · subst d; exact h e
      · exact c ⟨y, e, by simpa [d] using hy⟩
theorem Mp_nil : (fun _ => none : Value → Option Value) = Mp fun _ => false := by funext v; unfold Mp; simp
-- left out here: None
theorem zeroBool (w : World) : (zeroValue 4).run Try.prog w = .ok (.bool false) w := by
  have h : (Try.prog.info? 4).map (·.zero) = some (some (.bool false)) := by kernel_rfl
  rcases hi : Try.prog.info? 4 with _ | i
  · rw [hi] at h; cases h
  · rw [hi] at h
    have hz : i.zero = some (.bool false) := by simpa using h
    simp [zeroValue, typeInfo, hi, hz]
-- left out here: None
-- left out here: None
-- left out here: None
-- left out here: loop.example/g01200/impl.pairsFrom
end Go.Proofs.Ytdoehnckolhloaa

namespace Go.Proofs.Ytdoehnckolhloaa
open Go.RowKit

section
open Classical
/-- the keys so far; what stands under each -/
noncomputable def ksT (key : Nat → Value) : Nat → List Value
  | 0 => []
  | y + 1 => if key y ∈ ksT key y then ksT key y else key y :: ksT key y
noncomputable def lstT (key : Nat → Value) (nm : Nat → Nat → Nat) : Nat → Value → List (Nat → Nat)
  | 0, _ => []
  | y + 1, K => if key y = K then lstT key nm y K ++ [nm y] else lstT key nm y K
noncomputable def MkF (ks : List Value) (val : Value → Value) : Value → Option Value := fun K => if K ∈ ks then some (val K) else none
noncomputable def updV (val : Value → Value) (K v : Value) : Value → Value := fun K' => if K' = K then v else val K'
theorem updV_same (val : Value → Value) (K v : Value) : updV val K v K = v := by unfold updV; rw [if_pos rfl]
theorem updV_ne (val : Value → Value) {K K' : Value} (v : Value) (h : K' ≠ K) : updV val K v K' = val K' := by unfold updV; rw [if_neg h]
theorem ksT_nodup (key : Nat → Value) (y : Nat) : (ksT key y).Nodup := by
  induction y with
  | zero => exact List.nodup_nil
  | succ y ih =>
    rw [ksT]
    split
    · exact ih
    · rename_i h; exact List.nodup_cons.2 ⟨h, ih⟩
theorem ksT_mem (key : Nat → Value) (y : Nat) (K : Value) : K ∈ ksT key y ↔ ∃ x, x < y ∧ key x = K := by
  induction y with
  | zero => simp [ksT]
  | succ y ih =>
    rw [ksT]
    constructor
    · intro h
      by_cases c : key y ∈ ksT key y
      · rw [if_pos c] at h
        obtain ⟨x, hx, e⟩ := ih.1 h
        exact ⟨x, by omega, e⟩
      · rw [if_neg c] at h
        rcases List.mem_cons.1 h with rfl | h
        · exact ⟨y, by omega, rfl⟩
        · obtain ⟨x, hx, e⟩ := ih.1 h
          exact ⟨x, by omega, e⟩
    · rintro ⟨x, hx, e⟩
      by_cases c : key y ∈ ksT key y
      · rw [if_pos c]
        by_cases d : x = y
        · subst d; rw [← e]; exact c
        · exact ih.2 ⟨x, by omega, e⟩
      · rw [if_neg c]
        by_cases d : x = y
        · subst d; subst e; simp
        · exact List.mem_cons_of_mem _ (ih.2 ⟨x, by omega, e⟩)
theorem lstT_none {key : Nat → Value} {nm : Nat → Nat → Nat} {y : Nat} {K : Value} (h : K ∉ ksT key y) : lstT key nm y K = [] := by
  induction y with
  | zero => rfl
  | succ y ih =>
    rw [ksT_mem] at h
    rw [lstT, if_neg (fun e => h ⟨y, by omega, e⟩)]
    exact ih fun c => by
      rw [ksT_mem] at c
      obtain ⟨x, hx, e⟩ := c
      exact h ⟨x, by omega, e⟩
theorem lstT_len (key : Nat → Value) (nm : Nat → Nat → Nat) (y : Nat) (K : Value) : (lstT key nm y K).length ≤ y := by
  induction y with
  | zero => simp [lstT]
  | succ y ih =>
    rw [lstT]
    split
    · rw [List.length_append]; simp only [List.length_cons, List.length_nil]; omega
    · omega
theorem MkF_put_old {ks : List Value} {val : Value → Value} {K v0 v : Value} (h : K ∈ ks) : mput (mput (MkF ks val) K v0) K v = MkF ks (updV val K v) := by
  rw [mput_twice]
  funext x
  unfold mput MkF updV
  by_cases c : x = K
  · subst c; rw [if_pos rfl, if_pos h, if_pos rfl]
  · rw [if_neg c, if_neg c]
theorem MkF_put_new {ks : List Value} {val : Value → Value} {K v0 v : Value} : mput (mput (MkF ks val) K v0) K v = MkF (K :: ks) (updV val K v) := by
  rw [mput_twice]
  funext x
  unfold mput MkF updV
  by_cases c : x = K
  · subst c; simp
  · rw [if_neg c, if_neg c]
    by_cases d : x ∈ ks
    · rw [if_pos d, if_pos (by simp [d])]
    · rw [if_neg d, if_neg (by simp [c, d])]
end
/-- the rows that stand under some keys, a part each -/
def famP (ks : List Value) (val : Value → Value) (lst : Value → List (Nat → Nat)) : List Part := ks.map fun K => pPl (val K) (lst K)
theorem famP_at {ks : List Value} {val : Value → Value} {lst : Value → List (Nat → Nat)} {j : Nat} {K : Value} (h : ks[j]? = some K) : (famP ks val lst)[j]? = some (pPl (val K) (lst K)) := by unfold famP; simp [h]
theorem famP_congr {ks : List Value} {val val' : Value → Value} {lst lst' : Value → List (Nat → Nat)} (h : ∀ K ∈ ks, val K = val' K ∧ lst K = lst' K) : famP ks val lst = famP ks val' lst' := by
  unfold famP
  exact List.map_congr_left fun K hK => by rw [(h K hK).1, (h K hK).2]
theorem famP_set {ks : List Value} (hn : ks.Nodup) {val val' : Value → Value} {lst lst' : Value → List (Nat → Nat)} {j : Nat} {K : Value} (h : ks[j]? = some K) (h1 : ∀ K' ∈ ks, K' ≠ K → val K' = val' K' ∧ lst K' = lst' K') :
    (famP ks val lst).set j (pPl (val' K) (lst' K)) = famP ks val' lst' := by
  apply List.ext_getElem?
  intro i
  rw [List.getElem?_set]
  unfold famP
  obtain ⟨hj, e⟩ := List.getElem?_eq_some_iff.1 h
  by_cases c : j = i
  · subst c
    rw [if_pos rfl, if_pos (by simpa using hj)]
    simp [h]
  · rw [if_neg c, List.getElem?_map, List.getElem?_map]
    rcases e2 : ks[i]? with _ | K'
    · rfl
    · have hne : K' ≠ K := fun e3 => by
        subst e3
        obtain ⟨hi, e4⟩ := List.getElem?_eq_some_iff.1 e2
        rcases Nat.lt_or_gt_of_ne c with d | d
        · exact List.pairwise_iff_getElem.1 hn j i hj hi d (by rw [e, e4])
        · exact List.pairwise_iff_getElem.1 hn i j hi hj d (by rw [e, e4])
      have := h1 K' (List.mem_of_getElem? e2) hne
      simp only [Option.map_some]
      rw [this.1, this.2]
theorem Holds.join {w0 w w' : World} {L A : List Part} (h : Holds w0 w L) (k : Holds w w' A) : Holds w0 w' (A ++ L) := by
  induction A with
  | nil => exact h.call k.low
  | cons a A ih =>
    have h' := ih k.tail
    refine ⟨h'.1, fun b hb => ?_, List.pairwise_cons.2 ⟨fun b hb g hg hg' => ?_, h'.2.2⟩⟩
    · rcases List.mem_cons.1 hb with rfl | hb
      · exact ⟨k.at 0 rfl, fun g hg => Nat.le_trans h.size (k.above 0 rfl hg)⟩
      · exact h'.2.1 b hb
    · rcases List.mem_append.1 hb with hb | hb
      · exact (List.pairwise_cons.1 k.2.2).1 b hb g hg hg'
      · have h1 := b.lt _ _ (h.2.1 b hb).1 hg'
        have h2 := k.above 0 rfl hg
        omega
theorem zeroSlP (w : World) : (zeroValue 79).run Try.prog w = .ok (.slice none 0 0) w := by
  have h : (Try.prog.info? 79).map (·.zero) = some (some (.slice none 0 0)) := by kernel_rfl
  rcases hi : Try.prog.info? 79 with _ | i
  · rw [hi] at h; cases h
  · rw [hi] at h
    have hz : i.zero = some (.slice none 0 0) := by simpa using h
    simp [zeroValue, typeInfo, hi, hz]
/-- the key of the form from a dart -/
def formK (f g : Nat → Nat) (m x : Nat) : Value := .agg (dv m (renF (namF f g m x) f m) (renF (namF f g m x) g m))
theorem isK_form {f g : Nat → Nat} {m x : Nat} (hd : DesN f g m) (hx : x < m) : IsK Try.prog 29 (formK f g m x) := by
  have hp := namF_perm hd hx
  exact isK_des m _ _ hd.le (fun i hi => by have := (renF_perm hp hd.black).lt16 hi; omega) (fun i hi => by have := (renF_perm hp hd.white).lt16 hi; omega)

-- left out here: loop.example/g01200/impl.namingsByForm
end Go.Proofs.Ytdoehnckolhloaa

namespace Go.Proofs.Ytdoehnckolhloaa
open Go.RowKit

theorem run_items2 (d : Nat) (f g : Nat → Nat) (w : World) : ∀ is : List Nat, (∀ i ∈ is, i < 16) →
    (Op.eqItems (d + 1) 5 1 (av f) (av g) is).run Try.prog w = .ok (is.all fun i => ((f i : Nat) : Int) == ((g i : Nat) : Int)) w
  | [], _ => by simp [Op.eqItems]
  | i :: is, h => by
    have hi := h i (by simp)
    have ih := run_items2 d f g w is fun j hj => h j (by simp [hj])
    have h1 := run_part_plain w plain8 (av_get f hi)
    have h2 := run_part_plain w plain8 (av_get g hi)
    have h3 := run_equalIn_int w d 5 .u8 .u8 (f i) (g i) Try.underlying5
    simp only [Op.eqItems, Nat.mul_one, Sem.run_bind, h1, h2, h3, Result.andThen_ok, List.all_cons]
    rcases hb : (((f i : Nat) : Int) == ((g i : Nat) : Int)) with _ | _
    · simp
    · simp [ih]
theorem run_sameP2 (d : Nat) (f g : Nat → Nat) (w : World) : (Op.equalIn (d + 2) 27 (.agg (av f)) (.agg (av g))).run Try.prog w = .ok (sameB f g) w := by
  obtain ⟨i0, hi, _⟩ := info_parts info8
  have h := run_equalIn_array w (d + 1) (av f) (av g) Try.underlying27 hi
  rw [cells8] at h
  rw [h, run_items2 d f g w _ (by simp)]
  unfold sameB; rfl
theorem info64D : (Try.prog.info? 2).map (·.size) = some 1 := by kernel_rfl
theorem infoPD : (Try.prog.info? 27).map (·.size) = some 16 := by kernel_rfl
theorem part_n (n : Int) (F G : Nat → Nat) (w : World) : (part 2 (dv n F G) 0).run Try.prog w = .ok (.int .i64 n) w :=
  run_part_plain w (by kernel_rfl) (dv_n n F G)
theorem part_b (n : Int) (F G : Nat → Nat) (w : World) : (part 27 (dv n F G) 1).run Try.prog w = .ok (.agg (av F)) w := by
  rcases hi : Try.prog.info? 27 with _ | i
  · have := infoPD; rw [hi] at this; cases this
  · have hsz : i.size = 16 := by have := infoPD; rw [hi] at this; simpa using this
    have hag : (isAgg 27).run Try.prog w = .ok true w := by simp [isAgg, run_underlying Try.underlying27]
    have e := blackOf_dv n F G
    unfold blackOf at e
    simp [part, hag, sizeOf, typeInfo, hi, hsz, e]
theorem part_w (n : Int) (F G : Nat → Nat) (w : World) : (part 27 (dv n F G) 17).run Try.prog w = .ok (.agg (av G)) w := by
  rcases hi : Try.prog.info? 27 with _ | i
  · have := infoPD; rw [hi] at this; cases this
  · have hsz : i.size = 16 := by have := infoPD; rw [hi] at this; simpa using this
    have hag : (isAgg 27).run Try.prog w = .ok true w := by simp [isAgg, run_underlying Try.underlying27]
    have e := whiteOf_dv n F G
    unfold whiteOf at e
    simp [part, hag, sizeOf, typeInfo, hi, hsz, e]
@[irreducible] def eqDB (n : Int) (F G : Nat → Nat) (n' : Int) (F' G' : Nat → Nat) : Bool := (n == n') && (sameB F F' && sameB G G')
theorem eqDB_iff (n : Int) (F G : Nat → Nat) (n' : Int) (F' G' : Nat → Nat) : eqDB n F G n' F' G' = true ↔ dv n F G = dv n' F' G' := by
  unfold eqDB
  rw [Bool.and_eq_true, Bool.and_eq_true, beq_iff_eq, sameB_iff, sameB_iff]
  constructor
  · rintro ⟨rfl, h1, h2⟩
    unfold dv
    apply row_congr
    intro i hi
    by_cases c : i = 0
    · rw [if_pos c, if_pos c]
    · rw [if_neg c, if_neg c]
      by_cases d : i < 17
      · rw [if_pos d, if_pos d, h1 (i - 1) (by omega)]
      · rw [if_neg d, if_neg d, h2 (i - 17) (by omega)]
  · intro h
    have hn : (dv n F G)[0]? = (dv n' F' G')[0]? := by rw [h]
    rw [dv_n, dv_n] at hn
    refine ⟨by simpa using hn, fun i hi => ?_, fun i hi => ?_⟩
    · have hb : (dv n F G)[1 + i]? = (dv n' F' G')[1 + i]? := by rw [h]
      rw [dv_b _ _ _ hi, dv_b _ _ _ hi] at hb
      simp at hb; omega
    · have hb : (dv n F G)[17 + i]? = (dv n' F' G')[17 + i]? := by rw [h]
      rw [dv_w _ _ _ hi, dv_w _ _ _ hi] at hb
      simp at hb; omega
theorem run_sameD (n : Int) (F G : Nat → Nat) (n' : Int) (F' G' : Nat → Nat) (w : World) : (Op.equalIn 10000 29 (.agg (dv n F G)) (.agg (dv n' F' G'))).run Try.prog w = .ok (eqDB n F G n' F' G') w := by
  have ht : Try.prog.underlying 29 = some (.struct (Try.prog.fieldsOf 29)) := by kernel_rfl
  have hp : Try.prog.stoodInHeld 29 = false := by kernel_rfl
  rw [run_equalIn_struct w 9999 29 _ _ ht hp]
  have hi : (Op.equalIn 9999 2 (.int .i64 n) (.int .i64 n')).run Try.prog w = .ok (n == n') w := run_equalIn_int w 9998 2 .i64 .i64 n n' Try.underlying2
  have hb : (Op.equalIn 9999 27 (.agg (av F)) (.agg (av F'))).run Try.prog w = .ok (sameB F F') w := run_sameP2 9997 F F' w
  have hw : (Op.equalIn 9999 27 (.agg (av G)) (.agg (av G'))).run Try.prog w = .ok (sameB G G') w := run_sameP2 9997 G G' w
  unfold eqDB
  rcases h1 : n == n' with _ | _
  · rw [h1] at hi
    simp [Program.fieldsOf, Try.underlying29, Op.eqFields, part_n, hi]
  · rw [h1] at hi
    rcases h2 : sameB F F' with _ | _
    · rw [h2] at hb
      simp [Program.fieldsOf, Try.underlying29, Op.eqFields, part_n, part_b, hi, hb]
    · rw [h2] at hb
      rcases h3 : sameB G G' with _ | _
      · rw [h3] at hw
        simp [Program.fieldsOf, Try.underlying29, Op.eqFields, part_n, part_b, part_w, hi, hb, hw]
      · rw [h3] at hw
        simp [Program.fieldsOf, Try.underlying29, Op.eqFields, part_n, part_b, part_w, hi, hb, hw]
@[go_sem] theorem guardD : Try.prog.eqGuardType Try.prog.depth 29 = false := by kernel_rfl
@[go_sem ↓] theorem run_eqlD (n : Int) (F G : Nat → Nat) (n' : Int) (F' G' : Nat → Nat) (w : World) : (binOp .eql 29 (.agg (dv n F G)) (.agg (dv n' F' G'))).run Try.prog w = .ok (.bool (eqDB n F G n' F' G')) w := by
  rw [run_eql_struct, run_sameD]; rfl
@[go_sem ↓] theorem run_neqD (n : Int) (F G : Nat → Nat) (n' : Int) (F' G' : Nat → Nat) (w : World) : (binOp .neq 29 (.agg (dv n F G)) (.agg (dv n' F' G'))).run Try.prog w = .ok (.bool (!eqDB n F G n' F' G')) w := by
  rw [run_neq_struct, run_sameD]; rfl
end Go.Proofs.Ytdoehnckolhloaa

namespace Go.Proofs.Ytdoehnckolhloaa
open Go.RowKit

/-- from the form of one dessin back by a naming of the other one -/
def isoP (first : Nat → Nat) (k : Nat) (s : Nat → Nat) : Nat → Nat := thenF first (backF s k) k
/-- all isomorphisms -/
noncomputable def isoL (f g : Nat → Nat) (m : Nat) (f' g' : Nat → Nat) (k : Nat) : List (Nat → Nat) := (lstT (formK f' g' k) (namF f' g' k) k (formK f g m 0)).map (isoP (namF f g m 0) k)
theorem isoL_len (f g : Nat → Nat) (m : Nat) (f' g' : Nat → Nat) (k : Nat) : (isoL f g m f' g' k).length ≤ k := by unfold isoL; rw [List.length_map]; exact lstT_len _ _ _ _
theorem upon_appPl {o : Oper} {a : Act} {w0 w : World} {L : List Part} (H : Holds w0 w L) (k : Nat) {v : Value} {l : List (Nat → Nat)} (hk : L[k]? = some (pPl v l))
    (g : Nat) (p : Nat → Nat) (t : TypeId) (hc : w.heap[g]? = some (.cells (av p) t (0, 0))) (hb : l.length ≤ 100000) {C : World → Prop} {R : Value → World → Prop}
    (h : ∀ v' w', Holds w0 w' (L.set k (pPl v' (l ++ [p]))) → C w' ∧ R v' w') (s x : Operand)
    (ho : o.op = .call { callee := .builtin .append, args := #[s, x], argTypes := #[79, 79] })
    (hs : a.eval s = v) (hx : a.eval x = .slice (some ⟨g, 0, none⟩) 1 1) : Rd.uponE Try.prog C R w ((execOp a.eval o).run Try.prog w) := by
  obtain ⟨v', w', h1, h2⟩ := run_appPl H k hk g p t hc hb s x ho hs hx
  rw [h1]
  exact h v' w' h2

-- left out here: loop.example/g01200/impl.isomorphisms
end Go.Proofs.Ytdoehnckolhloaa

namespace Go.Proofs.Ytdoehnckolhloaa
open Go.RowKit

@[irreducible] def gv (p : Nat → Nat) (y : Int) : Array Value := row 17 fun i => if i = 16 then .int .i64 y else .int .u8 (p i)
theorem gv_size (p : Nat → Nat) (y : Int) : (gv p y).size = 17 := by unfold gv; exact row_size _ _
theorem gv_cases (p : Nat → Nat) (y : Int) (i : Nat) : (gv p y)[i]? = if i < 17 then some (if i = 16 then .int .i64 y else .int .u8 (p i)) else none := by
  unfold gv
  by_cases c : i < 17
  · rw [row_get _ _ c, if_pos c]
  · rw [row_none _ _ c, if_neg c]
theorem gv_len (p : Nat → Nat) (y : Int) : (gv p y).toList.length = 17 := by rw [Array.length_toList, gv_size]
theorem gv_cells (p : Nat → Nat) (y : Int) : (gv p y).all (·.oneCell') = true := by
  unfold gv row
  simp [Value.oneCell']
  intro x _
  by_cases c : x = 16
  · rw [if_pos c]
  · rw [if_neg c]
theorem gv_level (p : Nat → Nat) (y : Int) : (gv p y)[16]? = some (.int .i64 y) := by rw [gv_cases]; rfl
theorem gv_places (p : Nat → Nat) (y : Int) : (gv p y).extract 0 16 = av p := by
  apply Array.ext_getElem?
  intro i
  rw [Array.getElem?_extract, av_cases, gv_cases, gv_size]
  by_cases c : i < 16
  · rw [if_pos (by omega), if_pos (by omega), if_neg (by omega), if_pos c, Nat.zero_add]
  · rw [if_neg (by omega), if_neg c]
theorem gv_zero : gv (fun _ => 0) 0 = #[.int .u8 0, .int .u8 0, .int .u8 0, .int .u8 0, .int .u8 0, .int .u8 0, .int .u8 0, .int .u8 0, .int .u8 0, .int .u8 0, .int .u8 0, .int .u8 0, .int .u8 0, .int .u8 0, .int .u8 0, .int .u8 0, .int .i64 0] := by unfold gv row; rfl

def grB (l : List ((Nat → Nat) × Nat)) : List Value := l.flatMap fun q => (gv q.1 q.2).toList
theorem grB_cons (q : (Nat → Nat) × Nat) (l : List ((Nat → Nat) × Nat)) : grB (q :: l) = (gv q.1 q.2).toList ++ grB l := rfl
theorem grB_length (l : List ((Nat → Nat) × Nat)) : (grB l).length = l.length * 17 := by
  induction l with
  | nil => rfl
  | cons p l ih => rw [grB_cons, List.length_append, ih, gv_len, List.length_cons, Nat.succ_mul]; omega
theorem grB_append (l l' : List ((Nat → Nat) × Nat)) : grB (l ++ l') = grB l ++ grB l' := by unfold grB; simp
theorem grB_one {l : List ((Nat → Nat) × Nat)} : ∀ u ∈ grB l, u.oneCell' = true := by
  intro u hu
  unfold grB at hu
  obtain ⟨p, _, hp⟩ := List.mem_flatMap.1 hu
  have := Array.all_eq_true_iff_forall_mem.1 (gv_cells p.1 p.2) u (by simpa using hp)
  exact this
theorem grB_at {l : List ((Nat → Nat) × Nat)} {k : Nat} (hk : k < l.length) {i : Nat} (hi : i < 17) : (grB l)[k * 17 + i]? = (gv l[k].1 l[k].2)[i]? := by
  induction l generalizing k with
  | nil => simp at hk
  | cons p l ih =>
    rw [grB_cons]
    rcases k with _ | k
    · rw [Nat.zero_mul, Nat.zero_add, List.getElem?_append_left (by rw [gv_len]; exact hi), Array.getElem?_toList]; rfl
    · rw [List.getElem?_append_right (by rw [gv_len]; omega), gv_len, show (k + 1) * 17 + i - 17 = k * 17 + i by omega]
      exact ih (k := k) (by simpa using hk)
theorem grB_ext {l : List ((Nat → Nat) × Nat)} {cur : Array Value} (h : cur.toList.take (l.length * 17) = grB l) {k : Nat} (hk : k < l.length) : cur.extract (k * 17) (k * 17 + 17) = gv l[k].1 l[k].2 := by
  have hlen : l.length * 17 ≤ cur.size := by
    have h1 := congrArg List.length h
    rw [grB_length, List.length_take] at h1
    have h2 : cur.toList.length = cur.size := Array.length_toList
    rw [← h2, ← h1]
    exact Nat.min_le_right _ _
  have hk16 : k * 17 + 17 ≤ l.length * 17 := by omega
  apply Array.ext_getElem?
  intro i
  rw [Array.getElem?_extract]
  by_cases c : i < 17
  · rw [if_pos (by omega)]
    have h1 := grB_at hk c
    rw [← h, List.getElem?_take_of_lt (by omega), Array.getElem?_toList] at h1
    exact h1
  · rw [if_neg (by omega), Array.getElem?_eq_none (by rw [gv_size]; omega)]
theorem infoGr : (Try.prog.info? 160).map (fun i => (i.zero, i.size, i.bytes)) = some (some (.agg #[.int .u8 0, .int .u8 0, .int .u8 0, .int .u8 0, .int .u8 0, .int .u8 0, .int .u8 0, .int .u8 0, .int .u8 0, .int .u8 0, .int .u8 0, .int .u8 0, .int .u8 0, .int .u8 0, .int .u8 0, .int .u8 0, .int .i64 0]), 17, 24) := by kernel_rfl
/-- a row of grains, its part -/
def pGr (v : Value) (l : List ((Nat → Nat) × Nat)) : Part := pRow v 160 17 l.length (grB l)
theorem Holds.grForm {w0 w : World} {L : List Part} (h : Holds w0 w L) (i : Nat) {v : Value} {l : List ((Nat → Nat) × Nat)} (hi : L[i]? = some (pGr v l)) : ∃ A c, v = .slice A l.length c := own_slice (h.row i hi)

set_option maxRecDepth 1000000 in
theorem builtGr (p : Nat → Nat) (y : Int) : Try.prog.built 160 [(0, .agg (av p)), (1, .int .i64 y)] = some (gv p y) := by
  have hu : Try.prog.underlying 160 = some (.struct _) := Try.underlying160
  have hz : (Try.prog.info? 160).map (·.zero) = some (some (.agg (gv (fun _ => 0) 0))) := by rw [gv_zero]; kernel_rfl
  unfold Program.built
  rcases hi : Try.prog.info? 160 with _ | it
  · rw [hi] at hz; cases hz
  · rw [hi] at hz
    have hz' : it.zero = some (.agg (gv (fun _ => 0) 0)) := by simpa using hz
    rw [hu]
    simp only [hz']
    generalize he : List.mapM (fun (f : Field) => Option.map (fun i => (f.offset, i.size)) (Try.prog.info? f.type)) _ = z
    have hz2 : z = some [(0, 16), (16, 1)] := he.symm.trans (by kernel_rfl)
    subst hz2
    simp only [Instr.fill, Value.cells, List.getElem?_toArray, List.getElem?_cons_zero, List.getElem?_cons_succ, av_size, splice_eq, splice_size, gv_size]
    rw [if_neg (by simp), if_neg (by simp)]
    congr 1
    apply Array.ext_getElem?
    intro i
    have l1 : (av p).toList.length = 16 := by simpa using av_size p
    rw [foldset, foldset, gv_cases, gv_cases, splice_size, gv_size, l1, Array.getElem?_toList, Array.getElem?_toList, av_cases]
    simp only [List.length_cons, List.length_nil, Nat.zero_add, Nat.add_zero, Nat.sub_zero]
    by_cases h0 : i = 16
    · subst h0; simp
    · by_cases h1 : i < 16
      · rw [if_neg (by omega), if_pos (by omega), if_pos (by omega), if_pos (by omega), if_neg h0]
      · rw [if_neg (by omega), if_neg (by omega), if_neg (by omega), if_neg (by omega)]
/-- what the operation 'build a grain' does -/
def buildGr (ps : Array (Nat × Value)) : Sem Next := do pure (.value (← Instr.build 160 ps))
@[go_sem ↓] theorem exec_buildGr (ρ : Operand → Value) (dst : Option Tmp) (parts : Array (Nat × Operand)) (ty : TypeId) (pos : String) (after : Array Edge) (guard : Option (Nat × Bool)) :
    execOp ρ { dst, op := .build 160 parts, type := ty, pos, after, guard } = buildGr (parts.map fun (i, x) => (i, ρ x)) := rfl
@[go_sem] theorem run_buildGr (p : Nat → Nat) (y : Int) (w : World) : (buildGr #[(0, .agg (av p)), (1, .int .i64 y)]).run Try.prog w = .ok (.value (.agg (gv p y))) w := by
  simp only [buildGr, Sem.run_bind, run_build (P := Try.prog) w 160 #[(0, .agg (av p)), (1, .int .i64 y)] _ (builtGr p y), Result.andThen_ok, Sem.run_pure]
/-- one grain laid for an append -/
def buildSlGr (n : Nat) (ps : Array (Nat × Value)) : Sem Next := do pure (.value (← Instr.buildSlice 161 n ps))
@[go_sem ↓] theorem exec_buildSlGr (ρ : Operand → Value) (dst : Option Tmp) (n : Nat) (parts : Array (Nat × Operand)) (ty : TypeId) (pos : String) (after : Array Edge) (guard : Option (Nat × Bool)) :
    execOp ρ { dst, op := .buildSlice 161 n parts, type := ty, pos, after, guard } = buildSlGr n (parts.map fun (i, x) => (i, ρ x)) := rfl
theorem fillGr (p : Nat → Nat) (y : Int) (cs : Array Value) (hcs : cs.size = 17) : Instr.fill (fun i => some (i * 17, 17)) cs [(0, .agg (gv p y))] = some (gv p y) := by
  simp only [Instr.fill, Value.cells, gv_size, hcs, splice_eq]
  rw [if_neg (by simp)]
  congr 1
  apply Array.ext_getElem?
  intro i
  rw [foldset, hcs, gv_len, Array.getElem?_toList]
  by_cases c : i < 17
  · rw [if_pos (by omega)]; congr 1
  · rw [if_neg (by omega), Array.getElem?_eq_none (by rw [hcs]; omega), Array.getElem?_eq_none (by rw [gv_size]; omega)]
@[go_sem] theorem run_bslGr (p : Nat → Nat) (y : Int) (w : World) : (buildSlGr 1 #[(0, .agg (gv p y))]).run Try.prog w = .ok (.value (.slice (some ⟨w.heap.size, 0, none⟩) 1 1)) (w.alloc (.cells (gv p y) 160)) := by
  obtain ⟨i0, hi, hz0, hz1, _⟩ := info_parts infoGr
  have hsz : ¬ (1 * i0.size > 2 ^ 24) := by rw [hz1]; decide
  have hnz : ¬ (1 * i0.size = 0) := by rw [hz1]; decide
  have hff : ∀ cs : Array Value, cs.size = 17 → Instr.fill (fun i => some (i * i0.size, i0.size)) cs [(0, .agg (gv p y))] = some (gv p y) := fun cs h => by rw [hz1]; exact fillGr p y cs h
  simp only [buildSlGr, Instr.buildSlice, run_underlying Try.underlying161, sizeOf, typeInfo, hi, zeroValue, hz0, Sem.run_bind, Sem.run_pure, Result.andThen_ok, run_program, hsz, hnz, if_false]
  rw [hff _ (by simp [hz1])]
  rfl
theorem run_appGr {o : Oper} {a : Act} {w0 w : World} {L : List Part} (H : Holds w0 w L) (k : Nat) {v : Value} {l : List ((Nat → Nat) × Nat)} (hk : L[k]? = some (pGr v l))
    (g : Nat) (q : (Nat → Nat) × Nat) (t : TypeId) (hc : w.heap[g]? = some (.cells (gv q.1 q.2) t (0, 0))) (hb : l.length ≤ 1000000) (s x : Operand)
    (ho : o.op = .call { callee := .builtin .append, args := #[s, x], argTypes := #[161, 161] })
    (hs : a.eval s = v) (hx : a.eval x = .slice (some ⟨g, 0, none⟩) 1 1) :
    ∃ v' w', (execOp a.eval o).run Try.prog w = .ok (.value v') w' ∧ Holds w0 w' (L.set k (pGr v' (l ++ [q]))) := by
  obtain ⟨i0, hi, hz0, hz1, hz2⟩ := info_parts infoGr
  obtain ⟨v', w', h1, h2, _⟩ := run_appH (P := Try.prog) (w := w) 161 o.type 160 i0 _ 17 24 Try.underlying161 hi hz0 hz1 hz2 rfl (by decide) v l.length (grB l) H k hk ⟨g, 0, none⟩ 1 1 (gv q.1 q.2).toList
    (by rw [gv_len]) (fun j u hu => by
      have : ((⟨g, 0, none⟩ : Addr).add j) = ⟨g, j, none⟩ := by simp [Addr.add]; exact Eq.symm
      rw [this, cell_of_cells, cellsOf_heap hc]
      simpa using hu) (fun u hu => grB_one (l := [q]) u (by unfold grB; simpa using hu)) (by unfold maxLen; omega) (by omega)
  refine ⟨v', w', exec_append ho hs hx h1, ?_⟩
  unfold pGr at *
  have e : grB (l ++ [q]) = grB l ++ (gv q.1 q.2).toList := by rw [grB_append]; unfold grB; simp
  rw [List.length_append, e]
  exact h2
theorem upon_appGr {o : Oper} {a : Act} {w0 w : World} {L : List Part} (H : Holds w0 w L) (k : Nat) {v : Value} {l : List ((Nat → Nat) × Nat)} (hk : L[k]? = some (pGr v l))
    (g : Nat) (q : (Nat → Nat) × Nat) (t : TypeId) (hc : w.heap[g]? = some (.cells (gv q.1 q.2) t (0, 0))) (hb : l.length ≤ 1000000) {C : World → Prop} {R : Value → World → Prop}
    (h : ∀ v' w', Holds w0 w' (L.set k (pGr v' (l ++ [q]))) → C w' ∧ R v' w') (s x : Operand)
    (ho : o.op = .call { callee := .builtin .append, args := #[s, x], argTypes := #[161, 161] })
    (hs : a.eval s = v) (hx : a.eval x = .slice (some ⟨g, 0, none⟩) 1 1) : Rd.uponE Try.prog C R w ((execOp a.eval o).run Try.prog w) := by
  obtain ⟨v', w', h1, h2⟩ := run_appGr H k hk g q t hc hb s x ho hs hx
  rw [h1]
  exact h v' w' h2
/-- a row's list, appended as a whole (append(waiting, made...)) -/
theorem appGrs {ops : Array Oper} {rest : List Oper} {o : Oper} {a : Act} {Q : Exit → Act → World → Prop} {w0 w : World} {L : List Part} (H : Holds w0 w L) (k : Nat) {v : Value} {l l2 : List ((Nat → Nat) × Nat)} (hk : L[k]? = some (pGr v l))
    (g c : Nat) (hn : ∀ j u, (grB l2)[j]? = some u → w.cell? ⟨g, j, none⟩ = some u) (hb : l.length + l2.length ≤ 1000000)
    (hgd : o.guard = none) (s x : Operand)
    (ho : o.op = .call { callee := .builtin .append, args := #[s, x], argTypes := #[161, 161] })
    (hs : a.eval s = v) (hx : a.eval x = .slice (some ⟨g, 0, none⟩) l2.length c)
    (h : ∀ v' w', Holds w0 w' (L.set k (pGr v' (l ++ l2))) → wpList Try.prog ops Q rest (a.put o.dst v') w') : wpList Try.prog ops Q (o :: rest) a w := by
  obtain ⟨i0, hi, hz0, hz1, hz2⟩ := info_parts infoGr
  refine appH (P := Try.prog) hgd s x 161 ho 160 i0 _ 17 24 Try.underlying161 hi hz0 hz1 hz2 rfl (by decide) v l.length (grB l) hs H k hk ⟨g, 0, none⟩ l2.length c (grB l2) hx
    (grB_length l2) (fun j u hu => ?_) (fun u hu => grB_one u hu) (by unfold maxLen; omega) (by omega) fun v' w' h1 => h v' w' ?_
  · have : ((⟨g, 0, none⟩ : Addr).add j) = ⟨g, j, none⟩ := by simp [Addr.add]; exact Eq.symm
    rw [this]
    exact hn j u hu
  · unfold pGr at *
    rw [List.length_append, grB_append]
    exact h1
end Go.Proofs.Ytdoehnckolhloaa

namespace Go.Proofs.Ytdoehnckolhloaa

/-- ways, makers and waiting grains: G, all that may be made; Q, what must be made in the end -/
structure SInv (n : Nat) (G Q : (Nat → Nat) → Prop) (U M : Nat → List (Nat → Nat)) (W : List ((Nat → Nat) × Nat)) : Prop where
  way : ∀ k, k < n → ∀ u ∈ U k, PermN u n ∧ (∀ x, x < k → u x = x) ∧ Gen n (Mk n M k) u
  one : ∀ k, k < n → ∃ u ∈ U k, EqN n u (fun x => x)
  mks : ∀ k, k < n → ∀ s ∈ M k, PermN s n ∧ ∀ x, x < k → s x = x
  down : ∀ k, k + 1 < n → ∀ s ∈ M (k + 1), Gen n (Mk n M k) s
  dist : Dist n U
  prod : ∀ k, k < n → ∀ u ∈ U k, ∀ s ∈ M k, In n U k (fun x => s (u x)) ∨ ∃ w ∈ W, w.2 = k + 1 ∧ EqN n w.1 (fun x => s (u x))
  grain : ∀ w ∈ W, PermN w.1 n ∧ w.2 ≤ n ∧ (w.2 = 0 → G w.1) ∧ ∀ k, w.2 = k + 1 → (∀ x, x < k → w.1 x = x) ∧ Gen n (Mk n M k) w.1
  top : ∀ s ∈ M 0, G s
  goal : ∀ g, Q g → In n U 0 g ∨ ∃ w ∈ W, w.2 = 0 ∧ EqN n w.1 g
section
variable {n : Nat} {G Q : (Nat → Nat) → Prop} {U M : Nat → List (Nat → Nat)} {W : List ((Nat → Nat) × Nat)}
theorem SInv.wb (h : SInv n G Q U M W) : ∀ k, k < n → ∀ u ∈ U k, Bij u n := fun k hk u hu => (h.way k hk u hu).1.2.2.1
theorem SInv.wf (h : SInv n G Q U M W) : ∀ k, k < n → ∀ u ∈ U k, ∀ x, x < k → u x = x := fun k hk u hu => (h.way k hk u hu).2.1
theorem SInv.mb (h : SInv n G Q U M W) (k : Nat) : ∀ s, Mk n M k s → Bij s n := fun s hs => (h.mks k hs.1 s hs.2).1.2.2.1
theorem SInv.comp (h : SInv n G Q U M []) : Comp n U M 0 where
  way k _ hk u hu := ⟨h.wb k hk u hu, h.wf k hk u hu, (h.way k hk u hu).2.2⟩
  one k _ hk := h.one k hk
  mks k _ hk s hs := ⟨(h.mks k hk s hs).1.2.2.1, (h.mks k hk s hs).2⟩
  down k _ hk := h.down k hk
  prod k _ hk u hu s hs := by
    rcases h.prod k hk u hu s hs with c | ⟨w, hw, _⟩
    · exact c
    · cases hw
/-- the group that the levels tell in the end -/
theorem SInv.group {S : (Nat → Nat) → Prop} (h : SInv n (Gen n S) S U M []) (hS : ∀ s, S s → Bij s n) (p : Nat → Nat) : Gen n S p ↔ Gen n (Mk n M 0) p := by
  have hc := h.comp
  constructor
  · intro hp
    refine hp.sub (h.mb 0) fun s hs => ?_
    rcases h.goal s hs with c | ⟨w, hw, _⟩
    · exact (hc.inGen (Nat.le_refl _) (Nat.zero_le _) s).1 c
    · cases hw
  · intro hp
    exact hp.sub hS fun s hs => h.top s hs.2
/-- the levels below one that a permutation keeps are passed -/
theorem SInv.from (h : SInv n G Q U M W) {k : Nat} (hk : k ≤ n) {p : Nat → Nat} (hp : In n U 0 p) (hx : ∀ x, x < k → p x = x) : In n U k p := hp.from h.dist h.wb h.wf h.one k 0 k (by omega) hk hx

/-- what is sifted from a level on -/
def sift (U : Nat → List (Nat → Nat)) (n : Nat) : Nat → (Nat → Nat) → (Nat → Nat) × Nat
  | 0, p => (p, n)
  | j + 1, p => match (U (n - (j + 1))).find? (fun u => u (n - (j + 1)) == p (n - (j + 1))) with
    | some u => sift U n j (thenF p (backF u n) n)
    | none => (p, n - (j + 1))
theorem SInv.sift (h : SInv n G Q U M W) (hn : n ≤ 16) : ∀ (j : Nat), j ≤ n → ∀ p, PermN p n → (∀ x, x < n - j → p x = x) →
    PermN (sift U n j p).1 n ∧ n - j ≤ (sift U n j p).2 ∧ (sift U n j p).2 ≤ n ∧ (∀ x, x < (sift U n j p).2 → (sift U n j p).1 x = x) ∧
    ((sift U n j p).2 < n → ∀ u ∈ U (sift U n j p).2, u (sift U n j p).2 ≠ (sift U n j p).1 (sift U n j p).2) ∧
    (∀ V : Nat → List (Nat → Nat), (∀ k, ∀ u ∈ U k, u ∈ V k) → In n V (sift U n j p).2 (sift U n j p).1 → In n V (n - j) p) ∧
    (∀ (T : (Nat → Nat) → Prop) (l : Nat), (∀ s, T s → Bij s n) → (∀ x, x < l → x < n → p x = x) → (∀ k, l ≤ k → k < n → ∀ u ∈ U k, Gen n T u) → Gen n T p → Gen n T (sift U n j p).1) ∧
    (∀ l, l ≤ n → (∀ x, x < l → p x = x) → l ≤ (sift U n j p).2) := by
  intro j
  induction j with
  | zero =>
    intro _ p hp hx
    refine ⟨hp, by simp [Proofs.Ytdoehnckolhloaa.sift], Nat.le_refl _, fun x h' => hx x (by rw [Nat.sub_zero]; exact h'), fun h' => absurd h' (Nat.lt_irrefl _), fun V _ hi => by simpa [Proofs.Ytdoehnckolhloaa.sift] using hi, fun T l _ _ _ hg => hg, fun l hl _ => hl⟩
  | succ j ih =>
    intro hj p hp hx
    rw [Proofs.Ytdoehnckolhloaa.sift]
    obtain ⟨x0, hx0⟩ : ∃ x0, x0 = n - (j + 1) := ⟨_, rfl⟩
    rw [← hx0] at hx ⊢
    have hx0n : x0 < n := by omega
    rcases hf : (U x0).find? (fun u => u x0 == p x0) with _ | u
    · simp only [hf]
      refine ⟨hp, Nat.le_refl _, by omega, hx, fun _ u hu e => ?_, fun V _ hi => hi, fun T l _ _ _ hg => hg, fun l hl hlx => ?_⟩
      · have := List.find?_eq_none.1 hf u hu
        simp [e] at this
      · rcases Nat.lt_or_ge x0 l with c | c
        · obtain ⟨v, hv, ev⟩ := h.one x0 hx0n
          have := List.find?_eq_none.1 hf v hv
          simp [ev x0 hx0n, hlx x0 c] at this
        · exact c
    · simp only [hf]
      have hu := List.mem_of_find?_eq_some hf
      have he : u x0 = p x0 := by simpa using List.find?_some hf
      obtain ⟨hpu, hfu, hgu⟩ := h.way x0 hx0n u hu
      have hb := hpu.2.2.1
      have hbp := hp.2.2.1
      have hpb := backF_perm hpu
      have hq := thenF_perm hp hpb
      -- the way undone
      have key : ∀ x, x < n → u (thenF p (backF u n) n x) = p x := fun x hx' => by
        rw [thenF_at hx']
        obtain ⟨z, hz, ez⟩ := hb.onto (hbp.1 x hx')
        rw [← ez, backF_at hb hz]
      have hfix : ∀ x, x < n - j → thenF p (backF u n) n x = x := fun x hx' => by
        have hxn : x < n := by omega
        refine hb.2 _ _ (hq.2.2.1.1 x hxn) hxn ?_
        rw [key x hxn]
        rcases Nat.lt_or_ge x x0 with c | c
        · rw [hx x c, hfu x c]
        · obtain rfl : x = x0 := by omega
          exact he.symm
      obtain ⟨i1, i2, i3, i4, i5, i6, i7, i8⟩ := ih (by omega) _ hq hfix
      refine ⟨i1, by omega, i3, i4, i5, fun V hV hi => ?_, fun T l hT hl hw hg => ?_, fun l hl hlx => ?_⟩
      · have := i6 V hV hi
        rw [show n - j = x0 + 1 by omega] at this
        exact .step hx0n (hV _ _ hu) this fun x hx' => (key x hx').symm
      · rcases Nat.lt_or_ge x0 l with c | c
        · -- a way that changes nothing
          obtain ⟨v, hv, ev⟩ := h.one x0 hx0n
          have e1 : u x0 = v x0 := by rw [he, hl x0 c hx0n, ev x0 hx0n]
          obtain rfl := same_of_nodup (h.dist x0 hx0n) hu hv e1
          have e2 : EqN n p (thenF p (backF u n) n) := fun x hx' => by
            rw [← key x hx', ev _ (hq.2.2.1.1 x hx')]
          exact i7 T l hT (fun x h1 h2 => by rw [← e2 x h2]; exact hl x h1 h2) hw (hg.ext e2)
        · have hgu2 := hw x0 c hx0n u hu
          have hinv : Gen n T (backF u n) := hgu2.inv hn hT fun x hx' => backF_at hb hx'
          have hg2 : Gen n T (thenF p (backF u n) n) := hg.prod hT hinv fun x hx' => thenF_at hx'
          refine i7 T (min l (n - j)) hT (fun x h1 h2 => hfix x (by omega)) (fun k h1 h2 u hu => ?_) hg2
          exact hw k (by omega) h2 u hu
      · rcases Nat.lt_or_ge x0 l with c | c
        · obtain ⟨v, hv, ev⟩ := h.one x0 hx0n
          have e1 : u x0 = v x0 := by rw [he, hlx x0 c, ev x0 hx0n]
          obtain rfl := same_of_nodup (h.dist x0 hx0n) hu hv e1
          exact i8 l hl fun x hx' => by
            have e2 : thenF p (backF u n) n x = p x := by
              rw [← key x (by omega), ev _ (hq.2.2.1.1 x (by omega))]
            rw [e2]; exact hlx x hx'
        · omega
/-- a grain that is sifted away -/
theorem SInv.away (h : SInv n G Q U M W) (hn : n ≤ 16) {W0 : List ((Nat → Nat) × Nat)} {p : Nat → Nat} {l : Nat} (hW : ∀ w, w ∈ W ↔ w ∈ W0 ∨ w = (p, l)) (hs : (Proofs.Ytdoehnckolhloaa.sift U n n p).2 = n) : SInv n G Q U M W0 := by
  have hg := h.grain (p, l) ((hW _).2 (.inr rfl))
  obtain ⟨s1, _, _, s4, _, s6, _, _⟩ := h.sift hn n (Nat.le_refl _) p hg.1 (fun x hx => by omega)
  have hin : In n U 0 p := by
    have := s6 U (fun _ _ hu => hu) (by rw [hs]; exact .done fun x hx => s4 x (by omega))
    rwa [Nat.sub_self] at this
  refine ⟨h.way, h.one, h.mks, h.down, h.dist, fun k hk u hu s hs' => ?_, fun w hw => h.grain w ((hW w).2 (.inl hw)), h.top, fun g hg' => ?_⟩
  · rcases h.prod k hk u hu s hs' with c | ⟨w, hw, e1, e2⟩
    · exact .inl c
    · rcases (hW w).1 hw with c | rfl
      · exact .inr ⟨w, c, e1, e2⟩
      · exact .inl ((h.from (by omega) hin ((hg.2.2.2 k e1).1)).ext e2)
  · rcases h.goal g hg' with c | ⟨w, hw, e1, e2⟩
    · exact .inl c
    · rcases (hW w).1 hw with c | rfl
      · exact .inr ⟨w, c, e1, e2⟩
      · exact .inl (hin.ext e2)
/-- what is left of a grain becomes a maker of the levels from its own one on, and a way -/
theorem SInv.keep {S : (Nat → Nat) → Prop} (hS : ∀ s, S s → Bij s n) (h : SInv n (Gen n S) Q U M W) (hn : n ≤ 16) {W0 W1 : List ((Nat → Nat) × Nat)} {p r : Nat → Nat} {l y : Nat} {U1 M1 : Nat → List (Nat → Nat)} (hW : ∀ w, w ∈ W ↔ w ∈ W0 ∨ w = (p, l))
    (hs : Proofs.Ytdoehnckolhloaa.sift U n n p = (r, y)) (hy : y < n)
    (hU : ∀ k, U1 k = if k = y then U k ++ [r] else U k) (hM : ∀ k, M1 k = if l ≤ k ∧ k ≤ y then M k ++ [r] else M k)
    (hW1 : ∀ w, w ∈ W1 ↔ w ∈ W0 ∨ (∃ x u, l ≤ x ∧ x ≤ y ∧ u ∈ U x ∧ w = (thenF u r n, x + 1)) ∨ ∃ s, s ∈ M1 y ∧ w = (thenF r s n, y + 1)) : SInv n (Gen n S) Q U1 M1 W1 := by
  have hg := h.grain (p, l) ((hW _).2 (.inr rfl))
  obtain ⟨s1, _, _, s4, s5, s6, s7, s8⟩ := h.sift hn n (Nat.le_refl _) p hg.1 (fun x hx => by omega)
  rw [hs] at s1 s4 s5 s6 s7 s8
  simp only at s1 s4 s5 s6 s7 s8
  have s5 := s5 hy
  have hUs : ∀ k, ∀ u ∈ U k, u ∈ U1 k := fun k u hu => by
    rw [hU]; split
    · exact List.mem_append_left _ hu
    · exact hu
  have hMs : ∀ k, ∀ u ∈ M k, u ∈ M1 k := fun k u hu => by
    rw [hM]; split
    · exact List.mem_append_left _ hu
    · exact hu
  have hMm : ∀ k p, Gen n (Mk n M k) p → Gen n (Mk n M1 k) p := fun k p hp => hp.mono fun s hs => ⟨hs.1, hMs k s hs.2⟩
  have hrU : r ∈ U1 y := by rw [hU, if_pos rfl]; simp
  have hInr : In n U1 y r := .step hy hrU ((In.done fun _ _ => rfl : In n U1 n (fun x => x)) |> fun hd => by
    -- nothing is left behind the way
    have ones : ∀ j k, k + j = n → y < k → In n U1 k (fun x => x) := by
      intro j
      induction j with
      | zero => intro k e _; obtain rfl : k = n := by omega
                exact hd
      | succ j ih =>
        intro k e hk
        obtain ⟨u, hu, eu⟩ := h.one k (by omega)
        exact .step (by omega) (hUs k u hu) (ih (k + 1) (by omega) (by omega)) fun x hx => (eu x hx).symm
    exact ones (n - (y + 1)) (y + 1) (by omega) (by omega)) fun _ _ => rfl
  have hInp : In n U1 0 p := by
    have := s6 U1 hUs hInr
    rwa [Nat.sub_self] at this
  -- the levels below the grain's own one are passed
  have hly : l ≤ y + 1 := by
    rcases Nat.eq_zero_or_pos l with c | c
    · omega
    · obtain ⟨k, rfl⟩ : ∃ k, l = k + 1 := ⟨l - 1, by omega⟩
      have := s8 k (by have := hg.2.1; simp only at this; omega) (hg.2.2.2 k rfl).1
      omega
  have lift : ∀ j k, k + j ≤ n → ∀ q, Gen n (Mk n M (k + j)) q → Gen n (Mk n M k) q := by
    intro j
    induction j with
    | zero => exact fun _ _ _ hq => hq
    | succ j ih =>
      intro k hk q hq
      refine ih k (by omega) q (hq.sub (h.mb _) fun s hs => ?_)
      exact h.down (k + j) hs.1 s hs.2
  have genr : ∀ k, k < n → (∀ x, x < k → p x = x) → Gen n (Mk n M k) p → Gen n (Mk n M k) r := fun k hk hx hp =>
    s7 (Mk n M k) k (h.mb k) (fun x hx' _ => hx x hx') (fun k' h1 h2 u hu => by
      have := lift (k' - k) k (by omega) u (by rw [show k + (k' - k) = k' by omega]; exact (h.way k' h2 u hu).2.2)
      exact this) hp
  have rM : ∀ k, l ≤ k → k ≤ y → r ∈ M1 k := fun k h1 h2 => by rw [hM, if_pos ⟨h1, h2⟩]; simp
  have genY : Gen n (Mk n M1 y) r := by
    rcases Nat.lt_or_ge y l with c | c
    · obtain rfl : l = y + 1 := by omega
      have := hg.2.2.2 y rfl
      exact hMm y r (genr y hy this.1 this.2)
    · exact .of ⟨hy, rM y c (Nat.le_refl _)⟩
  have memU : ∀ k u, u ∈ U1 k → u ∈ U k ∨ (k = y ∧ u = r) := fun k u hu => by
    rw [hU] at hu
    split at hu
    · rename_i e
      rcases List.mem_append.1 hu with c | c
      · exact .inl c
      · exact .inr ⟨e, by simpa using c⟩
    · exact .inl hu
  have memM : ∀ k u, u ∈ M1 k → u ∈ M k ∨ (l ≤ k ∧ k ≤ y ∧ u = r) := fun k u hu => by
    rw [hM] at hu
    split at hu
    · rename_i e
      rcases List.mem_append.1 hu with c | c
      · exact .inl c
      · exact .inr ⟨e.1, e.2, by simpa using c⟩
    · exact .inl hu
  have way1 : ∀ k, k < n → ∀ u ∈ U1 k, PermN u n ∧ (∀ x, x < k → u x = x) ∧ Gen n (Mk n M1 k) u := fun k hk u hu => by
    rcases memU k u hu with c | ⟨rfl, rfl⟩
    · obtain ⟨a1, a2, a3⟩ := h.way k hk u c
      exact ⟨a1, a2, hMm k u a3⟩
    · exact ⟨s1, s4, genY⟩
  have one1 : ∀ k, k < n → ∃ u ∈ U1 k, EqN n u (fun x => x) := fun k hk => by
    obtain ⟨u, hu, e⟩ := h.one k hk
    exact ⟨u, hUs k u hu, e⟩
  have mks1 : ∀ k, k < n → ∀ s ∈ M1 k, PermN s n ∧ ∀ x, x < k → s x = x := fun k hk s hs => by
    rcases memM k s hs with c | ⟨h1, h2, rfl⟩
    · exact h.mks k hk s c
    · exact ⟨s1, fun x hx => s4 x (by omega)⟩
  have dist1 : Dist n U1 := fun k hk => by
    rw [hU]
    split
    · rename_i e
      subst e
      rw [List.map_append, List.nodup_append]
      refine ⟨h.dist k hk, by simp, fun a ha b hb e => ?_⟩
      obtain ⟨u, hu, rfl⟩ := List.mem_map.1 ha
      simp at hb
      exact s5 u hu (by rw [e, hb])
    · exact h.dist k hk
  have from1 : ∀ k, k ≤ n → ∀ q, In n U1 0 q → (∀ x, x < k → q x = x) → In n U1 k q := fun k hk q hq hx =>
    hq.from dist1 (fun k hk u hu => (way1 k hk u hu).1.2.2.1) (fun k hk u hu => (way1 k hk u hu).2.1) one1 k 0 k (by omega) hk hx
  refine ⟨way1, one1, mks1, fun k hk s hs => ?_, dist1, fun k hk u hu s hsM => ?_, fun w hw => ?_, fun s hs => ?_, fun g hg' => ?_⟩
  · rcases memM (k + 1) s hs with c | ⟨h1, h2, rfl⟩
    · exact hMm k s (h.down k hk s c)
    · rcases Nat.lt_or_ge k l with c | c
      · obtain rfl : l = k + 1 := by omega
        have := hg.2.2.2 k rfl
        exact hMm k s (genr k (by omega) this.1 this.2)
      · exact .of ⟨by omega, rM k c (by omega)⟩
  · rcases memU k u hu with cu | ⟨rfl, rfl⟩
    · rcases memM k s hsM with cs | ⟨h1, h2, rfl⟩
      · rcases h.prod k hk u cu s cs with c | ⟨w, hw, e1, e2⟩
        · exact .inl (c.mono fun j _ u hu => hUs j u hu)
        · rcases (hW w).1 hw with c | rfl
          · exact .inr ⟨w, (hW1 w).2 (.inl c), e1, e2⟩
          · exact .inl ((from1 k (by omega) p hInp (hg.2.2.2 k e1).1).ext e2)
      · exact .inr ⟨_, (hW1 _).2 (.inr (.inl ⟨k, u, h1, h2, cu, rfl⟩)), rfl, fun x hx => thenF_at hx⟩
    · exact .inr ⟨_, (hW1 _).2 (.inr (.inr ⟨s, hsM, rfl⟩)), rfl, fun x hx => thenF_at hx⟩
  · rcases (hW1 w).1 hw with c | ⟨x, u, h1, h2, hu, rfl⟩ | ⟨s, hs, rfl⟩
    · obtain ⟨g1, g2, g3, g4⟩ := h.grain w ((hW w).2 (.inl c))
      exact ⟨g1, g2, g3, fun k e => ⟨(g4 k e).1, hMm k _ (g4 k e).2⟩⟩
    · obtain ⟨a1, a2, a3⟩ := h.way x (by omega) u hu
      refine ⟨thenF_perm a1 s1, by simp only; omega, fun e => absurd e (by simp), fun k e => ?_⟩
      obtain rfl : x = k := by simp only at e; omega
      refine ⟨fun z hz => ?_, (hMm x u a3).prod (fun s hs => (mks1 x hs.1 s hs.2).1.2.2.1) (.of ⟨by omega, rM x h1 h2⟩) fun z hz => thenF_at hz⟩
      show thenF u r n z = z
      rw [thenF_at (by omega), a2 z hz, s4 z (by omega)]
    · obtain ⟨a1, a2⟩ := mks1 y hy s hs
      refine ⟨thenF_perm s1 a1, by simp only; omega, fun e => absurd e (by simp), fun k e => ?_⟩
      obtain rfl : y = k := by simp only at e; omega
      refine ⟨fun z hz => ?_, genY.prod (fun s hs => (mks1 y hs.1 s hs.2).1.2.2.1) (.of ⟨hy, hs⟩) fun z hz => thenF_at hz⟩
      show thenF r s n z = z
      rw [thenF_at (by omega), s4 z hz, a2 z hz]
  · rcases memM 0 s hs with c | ⟨h1, h2, rfl⟩
    · exact h.top s c
    · obtain rfl : l = 0 := by omega
      refine s7 S 0 hS (fun x hx _ => absurd hx (by omega)) (fun k _ hk u hu => ?_) (hg.2.2.1 rfl)
      have := lift k 0 (by omega) u (by rw [Nat.zero_add]; exact (h.way k hk u hu).2.2)
      exact this.sub hS fun s hs => h.top s hs.2
  · rcases h.goal g hg' with c | ⟨w, hw, e1, e2⟩
    · exact .inl (c.mono fun j _ u hu => hUs j u hu)
    · rcases (hW w).1 hw with c | rfl
      · exact .inr ⟨w, (hW1 w).2 (.inl c), e1, e2⟩
      · exact .inl (hInp.ext e2)
end
end Go.Proofs.Ytdoehnckolhloaa

namespace Go.Proofs.Ytdoehnckolhloaa
open Go.RowKit

/-- the block of a sieve: the number of darts, then a row of ways and a row of makers for each level -/
@[irreducible] def sv (n : Nat) (vs : Nat → Value) : Array Value := row 33 fun i => if i = 0 then .int .i64 n else vs (i - 1)
theorem sv_size (n : Nat) (vs : Nat → Value) : (sv n vs).size = 33 := by unfold sv; exact row_size _ _
theorem sv_n (n : Nat) (vs : Nat → Value) : (sv n vs)[0]? = some (.int .i64 n) := by unfold sv; rw [row_get _ _ (by omega)]; rfl
theorem sv_at (n : Nat) (vs : Nat → Value) {i : Nat} (hi : i < 32) : (sv n vs)[1 + i]? = some (vs i) := by
  unfold sv
  rw [row_get _ _ (by omega), if_neg (by omega), show 1 + i - 1 = i by omega]
def vset (vs : Nat → Value) (i : Nat) (v : Value) : Nat → Value := fun j => if j = i then v else vs j
theorem sv_set (n : Nat) (vs : Nat → Value) (i : Nat) (v : Value) : (sv n vs).setIfInBounds (1 + i) v = sv n (vset vs i v) := by
  unfold sv
  rw [row_set]
  apply row_congr
  intro j _
  unfold vset
  by_cases c : j = 1 + i
  · subst c; rw [if_pos rfl, if_neg (by omega), if_pos (by omega)]
  · rw [if_neg c]
    by_cases d : j = 0
    · rw [if_pos d, if_pos d]
    · rw [if_neg d, if_neg d, if_neg (by omega)]
theorem sv_zero (n : Nat) : sv n (fun _ => .slice none 0 0) = #[.int .i64 (n : Int), .slice none 0 0, .slice none 0 0, .slice none 0 0, .slice none 0 0, .slice none 0 0, .slice none 0 0, .slice none 0 0, .slice none 0 0, .slice none 0 0, .slice none 0 0, .slice none 0 0, .slice none 0 0, .slice none 0 0, .slice none 0 0, .slice none 0 0, .slice none 0 0, .slice none 0 0, .slice none 0 0, .slice none 0 0, .slice none 0 0, .slice none 0 0, .slice none 0 0, .slice none 0 0, .slice none 0 0, .slice none 0 0, .slice none 0 0, .slice none 0 0, .slice none 0 0, .slice none 0 0, .slice none 0 0, .slice none 0 0, .slice none 0 0] := by unfold sv row; rfl
def rset (R : Nat → List (Nat → Nat)) (i : Nat) (l : List (Nat → Nat)) : Nat → List (Nat → Nat) := fun j => if j = i then l else R j
/-- the rows of a sieve, a part each -/
def svRows (vs : Nat → Value) (R : Nat → List (Nat → Nat)) : List Part := (List.range 32).map fun i => pPl (vs i) (R i)
theorem svRows_length (vs : Nat → Value) (R : Nat → List (Nat → Nat)) : (svRows vs R).length = 32 := by unfold svRows; simp
theorem svRows_at (vs : Nat → Value) (R : Nat → List (Nat → Nat)) {i : Nat} (hi : i < 32) : (svRows vs R)[i]? = some (pPl (vs i) (R i)) := by unfold svRows; simp [hi]
theorem svRows_set (vs : Nat → Value) (R : Nat → List (Nat → Nat)) (i : Nat) (v : Value) (l : List (Nat → Nat)) : (svRows vs R).set i (pPl v l) = svRows (vset vs i v) (rset R i l) := by
  apply List.ext_getElem?
  intro j
  rw [List.getElem?_set, svRows_length]
  rcases Nat.lt_or_ge j 32 with c | c
  · rw [svRows_at _ _ c, svRows_at _ _ c]
    unfold vset rset
    by_cases e : i = j
    · subst e; simp [c]
    · rw [if_neg e, if_neg (fun h => e h.symm), if_neg (fun h => e h.symm)]
  · have h1 : ∀ vs R, (svRows vs R)[j]? = none := fun vs R => List.getElem?_eq_none (by rw [svRows_length]; exact c)
    rw [h1, h1]
    by_cases e : i = j
    · subst e; rw [if_pos rfl, if_neg (by omega)]
    · rw [if_neg e]
theorem set_perm {α : Type _} : ∀ (l : List α) (i : Nat) (a : α), i < l.length → (a :: l.eraseIdx i).Perm (l.set i a) := by
  intro l
  induction l with
  | nil => intro i a h; simp at h
  | cons b l ih =>
    intro i a h
    cases i with
    | zero => exact .refl _
    | succ i => exact (List.Perm.swap b a _).trans ((ih i a (by simpa using h)).cons b)
/-- a part takes the place of another one -/
theorem Holds.into {w0 w : World} {L : List Part} {a : Part} (h : Holds w0 w (a :: L)) (i : Nat) (hi : i < L.length) : Holds w0 w (L.set i a) :=
  (h.sub (List.Sublist.cons_cons a (List.eraseIdx_sublist L i))).perm (set_perm L i a hi)
/-- a part seen in another way -/
theorem Holds.conv {w0 w : World} {L : List Part} (h : Holds w0 w L) (i : Nat) {a : Part} (hi : L[i]? = some a) (a' : Part) (ha : a'.ok w) (ho : ∀ g, a'.own g → a.own g) : Holds w0 w (L.set i a') :=
  h.turn i hi a' ha rfl rfl rfl (Nat.le_refl _) (fun _ _ _ => rfl) fun g hg => .inl (ho g hg)
theorem one_row {w : World} {g : Nat} {p : Nat → Nat} (h : (pBlk g (av p) 27).ok w) : (pPl (.slice (some ⟨g, 0, none⟩) 1 1) [p]).ok w := by
  refine ⟨by rw [plB_length], .inr ⟨g, 1, av p, rfl, Nat.zero_le _, h, Nat.le_refl _, by unfold maxLen; omega, av_size p, ?_⟩⟩
  rw [show [p].length * 16 = (av p).toList.length by rw [av_len]; rfl, List.take_length]
  unfold plB; simp
/-- the rows after so many darts -/
def R0 (m x : Nat) : Nat → List (Nat → Nat) := fun i => if i % 2 = 0 ∧ i / 2 < x then [sameF m] else []
theorem R0_step (m x : Nat) : rset (R0 m x) (x * 2) [sameF m] = R0 m (x + 1) := by
  funext j
  unfold rset R0
  by_cases c : j = x * 2
  · subst c; rw [if_pos rfl, if_pos (by omega)]
  · rw [if_neg c]
    by_cases d : j % 2 = 0 ∧ j / 2 < x
    · rw [if_pos d, if_pos (by omega)]
    · rw [if_neg d, if_neg (by omega)]
theorem Holds.nils (w0 : World) : ∀ (k : Nat) {w : World} {L : List Part}, Holds w0 w L → Holds w0 w (L ++ List.replicate k (pPl (.slice none 0 0) [])) := by
  intro k
  induction k with
  | zero => intro w L h; simpa using h
  | succ k ih =>
    intro w L h
    rw [List.replicate_succ]
    have h1 : Holds w0 w (pPl (.slice none 0 0) [] :: L) := h.nilRow 27 16
    have h2 := ih h1
    exact h2.perm (by
      rw [List.cons_append]
      exact List.perm_middle.symm)
theorem svRows_nil : svRows (fun _ => .slice none 0 0) (fun _ => []) = List.replicate 32 (pPl (.slice none 0 0) []) := by
  apply List.ext_getElem?
  intro i
  rcases Nat.lt_or_ge i 32 with c | c
  · rw [svRows_at _ _ c, List.getElem?_replicate, if_pos c]
  · rw [List.getElem?_eq_none (by rw [svRows_length]; exact c), List.getElem?_replicate, if_neg (by omega)]

set_option maxRecDepth 100000 in
set_option maxHeartbeats 2000000 in
theorem emptySieve_any (m : Nat) (hm : m ≤ 16) (w : World) :
    Calls Try.prog 111 #[.int .i64 m] w fun e w' => ∃ g vs, e = .returned (.pointer (some ⟨g, 0, none⟩)) ∧ Holds w w' (pBlk g (sv m vs) 136 :: svRows vs (R0 m m)) := by
  have C1 := hide fun w => stay_any m hm w
  have hz := sv_zero m
  have HZ := hide hz; clear hz
  have HH : Holds w (w.alloc (.cells (sv m fun _ => .slice none 0 0) 136)) (pBlk w.heap.size (sv m fun _ => .slice none 0 0) 136 :: svRows (fun _ => .slice none 0 0) (fun _ => [])) := by
    rw [svRows_nil]
    exact ((Holds.start w).blk _ _ _ rfl).nils w 32
  go_enter Try.func111, Try.ntmps111
  go_wp2
  try rw [← HZ.out]
  generalize w.alloc (.cells (sv m fun _ => .slice none 0 0) 136) = w1 at *
  have hr0 : R0 m 0 = fun _ => [] := by funext i; unfold R0; rw [if_neg (by omega)]
  rw [← hr0] at HH
  generalize w.heap.size = g at *
  go_loopw [9] (fun t wr => ∃ (x : Nat) (vs : Nat → Value), x ≤ m ∧ t = .int .i64 x ∧ Holds w wr (pBlk g (sv m vs) 136 :: svRows vs (R0 m x))) (fun t _ => m - (intOf t).toNat)
  case atStart => exact ⟨0, _, by omega, rfl, HH⟩
  case round =>
    clear HH
    obtain ⟨x, vs, hx, rfl, hH⟩ := hrel
    by_cases hxm : x < m
    · have hx16 : (x : Int) < 16 := by omega
      have hxm' : (x : Int) < m := by omega
      go_wp2
      refine Rd.region_P (w0 := w) (svRows vs (R0 m x)) (pBlk g (sv m vs) 136 :: svRows vs (R0 m x)) [4, 9] (.q 0 <| .q 1 <| .q 2 <| .q 3 <| .q 5 <| .q 6 <| .s1 4 <| .q 7 <| .q 8 <| .s1 9 .fin) hH (.cons _ (.refl _)) (by kernel_rfl) (by kernel_rfl) (by kernel_rfl) ?_
      iterate 3
        apply Rd.v_q
        · simp only [List.getElem?_toArray, List.getElem?_cons_zero, List.getElem?_cons_succ]; exact rfl
        · rfl
        · go_simp
        · intro wx hx
          unfold atG
          go_simp
          simp only [uponG]
          exact ⟨by trivial, rfl⟩
      iterate 1
        apply Rd.v_q
        · simp only [List.getElem?_toArray, List.getElem?_cons_zero, List.getElem?_cons_succ]; exact rfl
        · rfl
        · go_simp
        · intro wx hx
          unfold atG
          go_simp
          simp only [uponG]
          exact ⟨by trivial, C1.out wx⟩
      iterate 2
        apply Rd.v_q
        · simp only [List.getElem?_toArray, List.getElem?_cons_zero, List.getElem?_cons_succ]; exact rfl
        · rfl
        · go_simp
        · intro wx hx
          unfold atG
          go_simp
          simp only [uponG]
          exact ⟨by trivial, rfl⟩
      refine Rd.v_build (av (sameF m)) 27 1 (by simp only [List.getElem?_toArray, List.getElem?_cons_zero, List.getElem?_cons_succ]; exact rfl) rfl (by go_simp) (fun wx hx hD => by go_simp) fun gq => ?_
      iterate 2
        apply Rd.v_q
        · simp only [List.getElem?_toArray, List.getElem?_cons_zero, List.getElem?_cons_succ]; exact rfl
        · rfl
        · go_simp
        · intro wx hx
          unfold atG
          go_simp
          simp only [uponG]
          exact ⟨by trivial, rfl⟩
      refine Rd.v_s (Rd.rHolds w fun _ => pBlk gq (av (sameF m)) 27 :: pBlk g (sv m (vset vs (x * 2) (.slice (some ⟨gq, 0, none⟩) 1 1))) 136 :: svRows vs (R0 m x)) Rd.rHolds_stable (by simp only [List.getElem?_toArray, List.getElem?_cons_zero, List.getElem?_cons_succ]; exact rfl) rfl (by go_simp) (fun wx hx hD => ?_) ?_
      · have c0 := hD.cell 1 rfl (sv_at m vs (i := x * 2) (by omega))
        have f0 := hD.frozen 1 rfl (1 + x * 2)
        go_simp
        simp only [Rd.uponE]
        have h2 := hD.set 1 rfl (1 + x * 2) (.slice (some ⟨gq, 0, none⟩) 1 1)
        rw [sv_set] at h2
        exact ⟨h2.tail.tail, h2⟩
      rintro vn -
      rintro w6 - hx6
      clear hH
      have hx7 : Holds w w6 (pBlk gq (av (sameF m)) 27 :: pBlk g (sv m (vset vs (x * 2) (.slice (some ⟨gq, 0, none⟩) 1 1))) 136 :: svRows vs (R0 m x)) := hx6
      have h8 := hx7.conv 0 rfl (pPl (.slice (some ⟨gq, 0, none⟩) 1 1) [sameF m]) (one_row (hx7.at 0 rfl)) (fun k hk => by simpa [pPl, pRow, Value.ownBlock, pBlk, eq_comm] using hk)
      have h9 : Holds w w6 (pBlk g (sv m (vset vs (x * 2) (.slice (some ⟨gq, 0, none⟩) 1 1))) 136 :: svRows (vset vs (x * 2) (.slice (some ⟨gq, 0, none⟩) 1 1)) (R0 m (x + 1))) := by
        rw [← R0_step, ← svRows_set]
        exact Holds.into (L := pBlk g (sv m (vset vs (x * 2) (.slice (some ⟨gq, 0, none⟩) 1 1))) 136 :: svRows vs (R0 m x)) h8 (x * 2 + 1) (by rw [List.length_cons, svRows_length]; omega)
      clear h8 hx7 hx6
      go_simp
      go_wp2
      go_roundw
      case rel => exact ⟨x + 1, _, by omega, by go_num, h9⟩
      case measure => simp [intOf]; omega
    · obtain rfl : x = m := by omega
      clear hxm hx
      go_wp2
      go_ret
      exact ⟨g, vs, rfl, hH⟩
end Go.Proofs.Ytdoehnckolhloaa

namespace Go.Proofs.Ytdoehnckolhloaa
open Go.RowKit

/-- a sieve that lies at a block -/
def SvAt (w : World) (g m : Nat) (vs : Nat → Value) (R : Nat → List (Nat → Nat)) : Prop := (pBlk g (sv m vs) 136).ok w ∧ ∀ i, i < 32 → (pPl (vs i) (R i)).ok w
theorem SvAt.below {w w' : World} {g m : Nat} {vs : Nat → Value} {R : Nat → List (Nat → Nat)} (h : SvAt w g m vs R) (hb : Below w.heap.size w w') : SvAt w' g m vs R :=
  ⟨(pBlk g (sv m vs) 136).keep _ _ h.1 fun k hk => hb.block k ((pBlk g (sv m vs) 136).lt _ _ h.1 hk), fun i hi => (pPl (vs i) (R i)).keep _ _ (h.2 i hi) fun k hk => hb.block k ((pPl (vs i) (R i)).lt _ _ (h.2 i hi) hk)⟩
theorem SvAt.cell {w : World} {g m : Nat} {vs : Nat → Value} {R : Nat → List (Nat → Nat)} (h : SvAt w g m vs R) {i : Nat} {v : Value} (hv : (sv m vs)[i]? = some v) : w.cell? ⟨g, i, none⟩ = some v := by
  rw [cell_of_cells, cellsOf_heap h.1]; exact hv
theorem SvAt.form {w : World} {g m : Nat} {vs : Nat → Value} {R : Nat → List (Nat → Nat)} (h : SvAt w g m vs R) {i : Nat} (hi : i < 32) : ∃ A c, vs i = .slice A (R i).length c := own_slice (h.2 i hi)
theorem SvAt.load {w : World} {g m : Nat} {vs : Nat → Value} {R : Nat → List (Nat → Nat)} (h : SvAt w g m vs R) {i : Nat} (hi : i < 32) {k : Nat} (hk : k < (R i).length) :
    ∃ q c, vs i = .slice (some ⟨q, 0, none⟩) (R i).length c ∧ q < w.heap.size ∧ (loadT 27 (.pointer (some ⟨q, k * 16, none⟩))).run Try.prog w = .ok (.value (.agg (av (R i)[k]))) w := by
  obtain ⟨q, c, h1, _, h2, h3⟩ := row_extract (h.2 i hi) hk
  exact ⟨q, c, h1, h2, run_loadR h3⟩
theorem find_at {l : List (Nat → Nat)} {f : (Nat → Nat) → Bool} : ∀ {j : Nat} (hj : j < l.length), (∀ i (hi : i < l.length), i < j → f l[i] = false) → f l[j] = true → l.find? f = some l[j] := by
  induction l with
  | nil => intro j hj; simp at hj
  | cons a l ih =>
    intro j hj h1 h2
    rcases j with _ | j
    · rw [List.find?_cons]
      simp only [List.getElem_cons_zero] at h2 ⊢
      rw [h2]
    · have h0 := h1 0 (by simp) (by omega)
      simp only [List.getElem_cons_zero] at h0
      rw [List.find?_cons, h0]
      simp only [List.getElem_cons_succ] at h2 ⊢
      exact ih (by simpa using hj) (fun i hi hij => by have := h1 (i + 1) (by simpa using hi) (by omega); simpa using this) h2
theorem find_no {l : List (Nat → Nat)} {f : (Nat → Nat) → Bool} (h : ∀ i (hi : i < l.length), f l[i] = false) : l.find? f = none := by
  rw [List.find?_eq_none]
  intro a ha
  obtain ⟨i, hi, rfl⟩ := List.getElem_of_mem ha
  rw [h i hi]; simp
theorem sift_some {U : Nat → List (Nat → Nat)} {m x : Nat} {q u : Nat → Nat} (hx : x < m) (h : (U x).find? (fun u => u x == q x) = some u) : sift U m (m - x) q = sift U m (m - (x + 1)) (thenF q (backF u m) m) := by
  obtain ⟨j, hj⟩ : ∃ j, m - x = j + 1 := ⟨m - x - 1, by omega⟩
  rw [hj, sift, show m - (j + 1) = x by omega, h]
  simp only
  rw [show m - (x + 1) = j by omega]
theorem sift_none {U : Nat → List (Nat → Nat)} {m x : Nat} {q : Nat → Nat} (hx : x < m) (h : (U x).find? (fun u => u x == q x) = none) : sift U m (m - x) q = (q, x) := by
  obtain ⟨j, hj⟩ : ∃ j, m - x = j + 1 := ⟨m - x - 1, by omega⟩
  rw [hj, sift, show m - (j + 1) = x by omega, h]

set_option maxRecDepth 100000 in
set_option maxHeartbeats 2000000 in
theorem sift_any (m : Nat) (hm : m ≤ 16) (g : Nat) (vs : Nat → Value) (R : Nat → List (Nat → Nat)) (hU : ∀ k, k < m → ∀ u ∈ R (k * 2), PermN u m) (hRl : ∀ i, (R i).length ≤ 100000) (p : Nat → Nat) (hp : PermN p m) (w : World) (hS : SvAt w g m vs R) :
    Calls Try.prog 132 #[.pointer (some ⟨g, 0, none⟩), .agg (av p)] w fun e w' => e = .returned (.tuple #[.agg (av (sift (fun k => R (k * 2)) m m p).1), .int .i64 (sift (fun k => R (k * 2)) m m p).2]) ∧ Below w.heap.size w w' := by
  have HS := hide hS; clear hS
  have HU := hide hU; clear hU
  have hgs : g < w.heap.size := lt_of_some HS.out.1
  have HH := ((Holds.start w).blk (av p) 27 w.heap.size rfl).blk (av fun _ => 0) 27 (w.heap.size + 1) (by simp)
  obtain ⟨RES, hRES⟩ : ∃ RES, RES = sift (fun k => R (k * 2)) m m p := ⟨_, rfl⟩
  rw [← hRES]
  have HR := hide hRES; clear hRES
  have n0 : ((w.alloc (.cells (av p) 27)).alloc (.cells (av fun _ => 0) 27)).cell? ⟨g, 0, none⟩ = some (.int .i64 m) := (HS.out.below (below2 w _ _)).cell (sv_n m vs)
  go_enter Try.func132, Try.ntmps132
  go_wp2
  try rw [← av_zero]
  go_step3
  go_wp2
  try rw [← av_zero]
  go_step3
  go_wp2
  try rw [← av_zero]
  clear n0
  generalize (w.alloc (.cells (av p) 27)).alloc (.cells (av fun _ => 0) 27) = w1 at *
  go_loopw [13] (fun t wr => ∃ (x : Nat) (q : Nat → Nat), x ≤ m ∧ t = .int .i64 x ∧ PermN q m ∧ RES = sift (fun k => R (k * 2)) m (m - x) q ∧ Holds w wr [pBlk (w.heap.size + 1) (av fun _ => 0) 27, pBlk w.heap.size (av q) 27]) (fun t _ => m - (intOf t).toNat)
  case atStart => exact ⟨0, p, by omega, rfl, hp, by rw [HR.out]; rfl, HH⟩
  case round =>
    clear HH HR hp
    obtain ⟨x, q, hx, rfl, hq, hres, hH⟩ := hrel
    have HRES := hide hres; clear hres
    have HQ := hide hq; clear hq
    have hSr := HS.out.below hH.low
    by_cases hxm : x < m
    · have hx16 : (x : Int) < 16 := by omega
      have hxm' : (x : Int) < m := by omega
      obtain ⟨A, c, hv⟩ := hSr.form (i := x * 2) (by omega)
      have x1 := hSr.cell (sv_at m vs (i := x * 2) (by omega))
      rw [hv] at x1
      have HV := hide hv; clear hv
      have hrl := hRl (x * 2)
      have hqx : q x < 16 := by have := HQ.out.2.2.1.1 x hxm; omega
      clear hSr
      go_wp2
      clear x1
      go_loopw [24] (fun t wr => ∃ j : Nat, j ≤ (R (x * 2)).length ∧ t = .int .i64 j ∧ (∀ i (hi : i < (R (x * 2)).length), i < j → (((R (x * 2))[i] x) == q x) = false) ∧ Holds w wr [pBlk (w.heap.size + 1) (av fun _ => 0) 27, pBlk w.heap.size (av q) 27]) (fun t _ => (R (x * 2)).length - (intOf t).toNat)
      case atStart => exact ⟨0, by omega, rfl, fun i _ h => absurd h (by omega), hH⟩
      case round =>
        clear hH
        obtain ⟨j, hj, rfl, hno, hH⟩ := hrel
        have HNO := hide hno; clear hno
        have hSr := HS.out.below hH.low
        by_cases hjl : j < (R (x * 2)).length
        · obtain ⟨q0, c0, hv2, hq0, hld⟩ := hSr.load (i := x * 2) (by omega) hjl
          rw [HV.out] at hv2
          injection hv2 with hv2 e1 e2
          subst hv2
          clear e1 e2
          have hpu := HU.out x hxm _ (List.getElem_mem hjl)
          have hfa := find_at (f := fun u => u x == q x) hjl (fun i hi hij => HNO.out i hi hij)
          obtain ⟨u, hu⟩ : ∃ u, u = (R (x * 2))[j] := ⟨_, rfl⟩
          rw [← hu] at hld hpu hfa
          have HUU := hide hu; clear hu
          have HFA := hide hfa; clear hfa
          have HPU := hide hpu; clear hpu
          have hjl' : (j : Int) < (R (x * 2)).length := by omega
          have H1 := hH.blk (av u) 27 wr.heap.size rfl
          clear hSr hH
          go_wp2
          clear hld
          generalize wr.alloc (.cells (av u) 27) = w2 at *
          generalize wr.heap.size = G4 at *
          have y1 := H1.cell 0 rfl (av_get u (i := x) (by omega))
          have y2 := H1.cell 2 rfl (av_get q (i := x) (by omega))
          go_quiet (fail)
          have H2 := H1.drewN nq
          clear y1 y2 H1
          generalize w2.drewN nq = w3 at *
          rcases hb : (u x == q x) with _ | _
          · have hbi : (((u x : Nat) : Int) == ((q x : Nat) : Int)) = false := by
              rw [beq_eq_false_iff_ne] at hb ⊢; omega
            go_wp2
            go_roundw
            case rel => exact ⟨j + 1, by omega, by go_num, fun i hi hij => by
              rcases Nat.lt_or_ge i j with d | d
              · exact HNO.out i hi d
              · obtain rfl : i = j := by omega
                rw [← HUU.out]; exact hb, H2.tail⟩
            case measure => simp [intOf]; omega
          · have hbi : (((u x : Nat) : Int) == ((q x : Nat) : Int)) = true := by
              rw [beq_iff_eq] at hb ⊢; omega
            have hss := sift_some (U := fun k => R (k * 2)) hxm (HFA.out hb)
            have HSS := hide hss; clear hss
            have CU := hide fun w => undo_any u m hm (fun i hi => HPU.out.lt i (by omega)) w
            have CF := hide fun w => follow_any q (backF u m) m hm (fun i hi => HQ.out.lt i (by omega)) w
            have hq2 : PermN (thenF q (backF u m) m) m := thenF_perm HQ.out (backF_perm HPU.out)
            have HQ2 := hide hq2; clear hq2
            have nS : ∀ wx, Holds w wx [pBlk G4 (av u) 27, pBlk (w.heap.size + 1) (av fun _ => 0) 27, pBlk w.heap.size (av q) 27] → wx.cell? ⟨g, 0, none⟩ = some (.int .i64 m) := fun wx hx => (HS.out.below hx.low).cell (sv_n m vs)
            have NS := hide nS; clear nS
            go_wp2
            refine region_tail (fun wx => Holds w wx _) 12 (by kernel_rfl) (by kernel_rfl) H2.drew ?_
            simp only [List.take_succ_cons, List.take_zero, List.drop_succ_cons, List.drop_zero]
            iterate 6
              apply q_step
              · go_simp
              · intro wx hx
                have q1 := hx.cells 2 rfl
                have q2 := hx.cells 0 rfl
                have q3 := NS.out wx hx
                go_simp
                try exact rfl
            iterate 1
              apply q_step
              · go_simp
              · intro wx hx
                have q1 := hx.cells 2 rfl
                have q2 := hx.cells 0 rfl
                have q3 := NS.out wx hx
                go_simp
                exact Calls.mono (CU.out wx) fun e w' h => ⟨h.1, hx.call h.2⟩
            iterate 4
              apply q_step
              · go_simp
              · intro wx hx
                have q1 := hx.cells 2 rfl
                have q2 := hx.cells 0 rfl
                have q3 := NS.out wx hx
                go_simp
                try exact rfl
            iterate 1
              apply q_step
              · go_simp
              · intro wx hx
                have q1 := hx.cells 2 rfl
                have q2 := hx.cells 0 rfl
                have q3 := NS.out wx hx
                go_simp
                exact Calls.mono (CF.out wx) fun e w' h => ⟨h.1, hx.call h.2⟩
            refine wpQuiet_nil ?_
            intro w4 H4
            have rr := H4.rowOk 2 rfl (av_size _)
            have H5 := H4.setRow 2 rfl (av (thenF q (backF u m) m))
            go_wp2
            go_roundw
            case rel => exact ⟨x + 1, thenF q (backF u m) m, by omega, by go_num, HQ2.out, by rw [HRES.out, HSS.out], Holds.tail H5⟩
            case measure => simp [intOf]; omega
        · obtain rfl : j = (R (x * 2)).length := by omega
          have hsn := sift_none (U := fun k => R (k * 2)) hxm (find_no fun i hi => HNO.out i hi hi)
          have HSN := hide hsn; clear hsn
          clear hjl hj hSr
          have cc := hH.cells 1 rfl
          have rr := hH.rowOk 0 rfl (av_size _)
          have H5 := hH.setRow 0 rfl (av q)
          have hres : RES = (q, x) := by rw [HRES.out, HSN.out]
          go_wp2
          try rw [Exit.noGoto_ret]
          exact res_agg2 (p := 4) (t := 5) (g := w.heap.size + 1) (v := .int .i64 x) aggP (av_size _) rfl rfl rfl rfl (H5.at 0 rfl) ⟨by rw [hres], H5.low⟩
    · obtain ⟨X, hX⟩ : ∃ X, X = m := ⟨_, rfl⟩
      obtain rfl : X = x := by omega
      have hres : RES = (q, m) := by rw [HRES.out, hX, Nat.sub_self]; rfl
      rw [hX]
      clear hxm hx hX
      have cc := hH.cells 1 rfl
      have rr := hH.rowOk 0 rfl (av_size _)
      have n1 := hSr.cell (sv_n m vs)
      have nS : ∀ wx, Holds w wx [pBlk w.heap.size (av q) 27] → wx.cell? ⟨g, 0, none⟩ = some (.int .i64 m) := fun wx hx => (HS.out.below hx.low).cell (sv_n m vs)
      have NS := hide nS; clear nS cc rr n1 hSr
      go_wp2
      refine Rd.region_P (w0 := w) [pBlk w.heap.size (av q) 27] [pBlk (w.heap.size + 1) (av fun _ => 0) 27, pBlk w.heap.size (av q) 27] [5] (.q 0 <| .q 1 <| .q 2 <| .q 3 <| .q 4 <| .s1 5 <| .q 6 .fin) hH (.cons _ (.refl _)) (by kernel_rfl) (by kernel_rfl) (by kernel_rfl) ?_
      iterate 5
        apply Rd.v_q
        · simp only [List.getElem?_toArray, List.getElem?_cons_zero, List.getElem?_cons_succ]; exact rfl
        · rfl
        · go_simp
        · intro wx hx
          have q1 := hx.cells 0 rfl
          have q3 := NS.out wx hx
          unfold atG
          go_simp
          simp only [uponG]
          exact ⟨by trivial, rfl⟩
      refine Rd.v_s (Rd.rHolds w fun _ => [pBlk (w.heap.size + 1) (av q) 27, pBlk w.heap.size (av q) 27]) Rd.rHolds_stable (by simp only [List.getElem?_toArray, List.getElem?_cons_zero, List.getElem?_cons_succ]; exact rfl) rfl (by go_simp) (fun wx hx hD => ?_) ?_
      · have rr := hD.rowOk 0 rfl (av_size _)
        go_simp
        simp only [Rd.uponE]
        have h2 := hD.setRow 0 rfl (av q)
        exact ⟨h2.tail, h2⟩
      rintro vn -
      iterate 1
        apply Rd.v_q
        · simp only [List.getElem?_toArray, List.getElem?_cons_zero, List.getElem?_cons_succ]; exact rfl
        · rfl
        · go_simp
        · intro wx hx
          unfold atG
          go_simp
          simp only [uponG]
          exact ⟨by trivial, rfl⟩
      rintro w4 - hx
      clear hH
      have hx2 : Holds w w4 [pBlk (w.heap.size + 1) (av q) 27, pBlk w.heap.size (av q) 27] := hx
      go_simp
      go_wp2
      try rw [Exit.noGoto_ret]
      exact res_agg2 (p := 4) (t := 5) (g := w.heap.size + 1) (v := .int .i64 m) aggP (av_size _) rfl rfl rfl rfl (hx2.at 0 rfl) ⟨by rw [hres], hx2.low⟩
end Go.Proofs.Ytdoehnckolhloaa

namespace Go.Proofs.Ytdoehnckolhloaa
open Go.RowKit

/-- the products of ways and makers, as grains of a level -/
def prodL (W M : List (Nat → Nat)) (m y : Nat) : List ((Nat → Nat) × Nat) := W.flatMap fun u => M.map fun k => (thenF u k m, y)
theorem prodL_len (W M : List (Nat → Nat)) (m y : Nat) : (prodL W M m y).length = W.length * M.length := by
  induction W with
  | nil => simp [prodL]
  | cons u W ih =>
    have e : prodL (u :: W) M m y = (M.map fun k => (thenF u k m, y)) ++ prodL W M m y := rfl
    rw [e, List.length_append, ih, List.length_map, List.length_cons, Nat.succ_mul]; omega
theorem prodL_step (W M : List (Nat → Nat)) (m y : Nat) {x : Nat} (hx : x < W.length) : prodL (W.take (x + 1)) M m y = prodL (W.take x) M m y ++ M.map fun k => (thenF W[x] k m, y) := by
  have : W.take (x + 1) = W.take x ++ [W[x]] := by rw [List.take_add_one, List.getElem?_eq_getElem hx]; rfl
  rw [this]
  unfold prodL
  rw [List.flatMap_append]
  simp
theorem plOk_below {w w' : World} {v : Value} {l : List (Nat → Nat)} (h : (pPl v l).ok w) (hb : Below w.heap.size w w') : (pPl v l).ok w' := (pPl v l).keep _ _ h fun k hk => hb.block k ((pPl v l).lt _ _ h hk)
theorem plOk_load {w : World} {v : Value} {l : List (Nat → Nat)} (h : (pPl v l).ok w) {k : Nat} (hk : k < l.length) :
    ∃ q c, v = .slice (some ⟨q, 0, none⟩) l.length c ∧ q < w.heap.size ∧ (loadT 27 (.pointer (some ⟨q, k * 16, none⟩))).run Try.prog w = .ok (.value (.agg (av l[k]))) w := by
  obtain ⟨q, c, h1, _, h2, h3⟩ := row_extract h hk
  exact ⟨q, c, h1, h2, run_loadR h3⟩

set_option maxRecDepth 1000000 in
set_option maxHeartbeats 2000000 in
theorem products_any (m : Nat) (hm : m ≤ 16) (g : Nat) (vs : Nat → Value) (vw vm : Value) (W M : List (Nat → Nat)) (y : Nat) (hy : y ≤ 16) (hWp : ∀ u ∈ W, ∀ i, i < m → u i < 16) (hWM : W.length * M.length ≤ 1000000) (hWl : W.length ≤ 1000000) (hMl : M.length ≤ 1000000) (w : World)
    (hS : (pBlk g (sv m vs) 136).ok w) (hvw : (pPl vw W).ok w) (hvm : (pPl vm M).ok w) :
    Calls Try.prog 133 #[.pointer (some ⟨g, 0, none⟩), vw, vm, .int .i64 y] w fun e w' => ∃ v, e = .returned v ∧ Holds w w' [pGr v (prodL W M m (y + 1))] := by
  obtain ⟨AW, cw, rfl⟩ := own_slice hvw
  obtain ⟨AM, cm, rfl⟩ := own_slice hvm
  have HS := hide hS; clear hS
  have HVW := hide hvw; clear hvw
  have HVM := hide hvm; clear hvm
  have HWP := hide hWp; clear hWp
  have hgs : g < w.heap.size := lt_of_some HS.out
  have nS : ∀ wx, Below w.heap.size w wx → wx.cell? ⟨g, 0, none⟩ = some (.int .i64 m) := fun wx hb => by
    have := (pBlk g (sv m vs) 136).keep _ _ HS.out fun k hk => hb.block k ((pBlk g (sv m vs) 136).lt _ _ HS.out hk)
    rw [cell_of_cells, cellsOf_heap this]; exact sv_n m vs
  have NS0 := hide nS; clear nS
  have HH := (Holds.start w).nilRow 160 17
  go_enter Try.func133, Try.ntmps133
  go_wp2
  go_loopw [9, 16] (fun v t wr => ∃ x : Nat, x ≤ W.length ∧ t = .int .i64 x ∧ Holds w wr [pGr v (prodL (W.take x) M m (y + 1))]) (fun _ t _ => W.length - (intOf t).toNat)
  case atStart => exact ⟨0, by omega, rfl, HH⟩
  case round =>
    clear HH
    obtain ⟨x, hx, rfl, hH⟩ := hrel
    by_cases hxl : x < W.length
    · obtain ⟨q0, c0, e0, hq0, lk⟩ := plOk_load (plOk_below HVW.out hH.low) hxl
      injection e0 with e0 e1 e2
      subst e0
      clear e1 e2
      have hu16 := HWP.out _ (List.getElem_mem hxl)
      have hst := prodL_step W M m (y + 1) hxl
      have hlen := prodL_len (W.take x) M m (y + 1)
      have hlx : x * M.length + M.length ≤ W.length * M.length := by
        have := Nat.mul_le_mul_right M.length (show x + 1 ≤ W.length by omega)
        rw [Nat.succ_mul] at this; omega
      rw [List.length_take, Nat.min_eq_left hx] at hlen
      obtain ⟨u, hu⟩ : ∃ u, u = W[x] := ⟨_, rfl⟩
      rw [← hu] at hu16 hst lk
      clear hu
      obtain ⟨P0, hP0⟩ : ∃ P0, P0 = prodL (W.take x) M m (y + 1) := ⟨_, rfl⟩
      rw [← hP0] at hst hlen hH
      clear hP0
      have HST := hide hst; clear hst
      have HU := hide hu16; clear hu16
      have hxl' : (x : Int) < W.length := by omega
      have H1 := hH.blk (av u) 27 wr.heap.size rfl
      clear hH
      go_wp2
      clear lk
      generalize wr.alloc (.cells (av u) 27) = w1 at *
      generalize wr.heap.size = G1 at *
      go_loopw [9, 22] (fun v t wr => ∃ j : Nat, j ≤ M.length ∧ t = .int .i64 j ∧ Holds w wr [pBlk G1 (av u) 27, pGr v (P0 ++ (M.take j).map fun k => (thenF u k m, y + 1))]) (fun _ t _ => M.length - (intOf t).toNat)
      case atStart => exact ⟨0, by omega, rfl, by rw [List.take_zero, List.map_nil, List.append_nil]; exact H1⟩
      case round =>
        clear H1
        obtain ⟨j, hj, rfl, hH⟩ := hrel
        by_cases hjl : j < M.length
        · obtain ⟨q1, c1, e0, hq1, lk⟩ := plOk_load (plOk_below HVM.out hH.low) hjl
          injection e0 with e0 e1 e2
          subst e0
          clear e1 e2
          have htk : (M.take (j + 1)).map (fun k => (thenF u k m, y + 1)) = (M.take j).map (fun k => (thenF u k m, y + 1)) ++ [(thenF u M[j] m, y + 1)] := by rw [List.take_add_one, List.getElem?_eq_getElem hjl, List.map_append]; rfl
          have hL1 : (P0 ++ (M.take j).map (fun k => (thenF u k m, y + 1))).length ≤ 1000000 := by rw [List.length_append, List.length_map, List.length_take]; omega
          obtain ⟨k, hk⟩ : ∃ k, k = M[j] := ⟨_, rfl⟩
          rw [← hk] at htk lk
          clear hk
          have CF := hide fun w => follow_any u k m hm HU.out w
          obtain ⟨L1, hL⟩ : ∃ L1, L1 = P0 ++ (M.take j).map (fun k => (thenF u k m, y + 1)) := ⟨_, rfl⟩
          have hL2 : P0 ++ (M.take (j + 1)).map (fun k => (thenF u k m, y + 1)) = L1 ++ [(thenF u k m, y + 1)] := by rw [htk, hL, List.append_assoc]
          rw [← hL] at hL1 hH
          clear hL htk
          have HL2 := hide hL2; clear hL2
          obtain ⟨A', c', rfl⟩ := hH.grForm 1 rfl
          have hjl' : (j : Int) < M.length := by omega
          have hwr : IntKind.i64.wrap ((y : Int) + 1) = (y : Int) + 1 := by rw [IntKind.wrap_i64]; omega
          have H2 := hH.blk (av k) 27 wr.heap.size rfl
          clear hH
          go_wp2
          clear lk
          generalize wr.alloc (.cells (av k) 27) = w2 at *
          generalize wr.heap.size = G2 at *
          generalize thenF u k m = r at *
          have NS := hide fun wx (hx : Holds w wx [pBlk G2 (av k) 27, pBlk G1 (av u) 27]) => NS0.out wx hx.low
          refine Rd.region_P (w0 := w) [pBlk G2 (av k) 27, pBlk G1 (av u) 27] [pBlk G2 (av k) 27, pBlk G1 (av u) 27, pGr (.slice A' L1.length c') L1] [11, 12] (.q 0 <| .q 1 <| .q 2 <| .q 3 <| .q 4 <| .q 5 <| .q 6 <| .q 7 <| .q 8 <| .q 9 <| .q 10 <| .s1 11 <| .s1 12 <| .q 13 .fin) H2 (.cons_cons _ (.cons_cons _ (.cons _ (.refl _)))) (by kernel_rfl) (by kernel_rfl) (by kernel_rfl) ?_
          iterate 7
            apply Rd.v_q
            · simp only [List.getElem?_toArray, List.getElem?_cons_zero, List.getElem?_cons_succ]; exact rfl
            · rfl
            · go_simp
            · intro wx hx
              have q0 := hx.cells 0 rfl
              have q1 := hx.cells 1 rfl
              have q3 := NS.out wx hx
              unfold atG
              go_simp
              simp only [uponG]
              exact ⟨by trivial, rfl⟩
          iterate 1
            apply Rd.v_q
            · simp only [List.getElem?_toArray, List.getElem?_cons_zero, List.getElem?_cons_succ]; exact rfl
            · rfl
            · go_simp
            · intro wx hx
              have q0 := hx.cells 0 rfl
              have q1 := hx.cells 1 rfl
              have q3 := NS.out wx hx
              unfold atG
              go_simp
              simp only [uponG]
              exact ⟨by trivial, CF.out wx⟩
          iterate 3
            apply Rd.v_q
            · simp only [List.getElem?_toArray, List.getElem?_cons_zero, List.getElem?_cons_succ]; exact rfl
            · rfl
            · go_simp
            · intro wx hx
              have q0 := hx.cells 0 rfl
              have q1 := hx.cells 1 rfl
              have q3 := NS.out wx hx
              unfold atG
              go_simp
              simp only [uponG]
              exact ⟨by trivial, rfl⟩
          refine Rd.v_build (gv r ((y + 1 : Nat) : Int)) 160 1 (by simp only [List.getElem?_toArray, List.getElem?_cons_zero, List.getElem?_cons_succ]; exact rfl) rfl (by go_simp) (fun wx hx hD => by go_simp; try rw [hwr]) fun gq => ?_
          refine Rd.v_s (fun z wx => Holds w wx [pBlk G1 (av u) 27, pGr z (L1 ++ [(r, y + 1)])]) (fun z _ _ h hb => h.call hb) (by simp only [List.getElem?_toArray, List.getElem?_cons_zero, List.getElem?_cons_succ]; exact rfl) rfl (by go_simp) (fun wx hx hD => ?_) ?_
          · exact upon_appGr hD 3 rfl gq (r, y + 1) 160 (hD.at 0 rfl) (by omega) (fun v' w' h2 => ⟨h2.sub (.cons _ (.cons_cons _ (.cons_cons _ (.cons _ (.refl _))))), h2.sub (.cons _ (.cons _ (.refl _)))⟩) _ _ rfl (by go_simp) (by go_simp)
          rintro v' -
          iterate 1
            apply Rd.v_q
            · simp only [List.getElem?_toArray, List.getElem?_cons_zero, List.getElem?_cons_succ]; exact rfl
            · rfl
            · go_simp
            · intro wx hx
              have q0 := hx.cells 0 rfl
              have q1 := hx.cells 1 rfl
              have q3 := NS.out wx hx
              unfold atG
              go_simp
              simp only [uponG]
              exact ⟨by trivial, rfl⟩
          rintro w6 - hx6
          clear H2
          go_simp
          go_wp2
          go_roundw
          case rel => exact ⟨j + 1, by omega, by go_num, by rw [HL2.out]; exact hx6⟩
          case measure => simp [intOf]; omega
        · obtain rfl : j = M.length := by omega
          clear hjl hj
          rw [List.take_length, ← HST.out] at hH
          go_wp2
          go_roundw
          case rel => exact ⟨x + 1, by omega, by go_num, hH.tail⟩
          case measure => simp [intOf]; omega
    · obtain rfl : x = W.length := by omega
      clear hxl hx
      rw [List.take_length] at hH
      go_wp2
      go_ret
      exact ⟨_, rfl, hH⟩
end Go.Proofs.Ytdoehnckolhloaa

namespace Go.Proofs.Ytdoehnckolhloaa

section
variable {R : Nat → List (Nat → Nat)} {r : Nat → Nat} {m l x y : Nat}
theorem prodL_mem {W M : List (Nat → Nat)} {w : (Nat → Nat) × Nat} : w ∈ prodL W M m y ↔ ∃ u ∈ W, ∃ s ∈ M, w = (thenF u s m, y) := by
  unfold prodL
  rw [List.mem_flatMap]
  constructor
  · rintro ⟨u, hu, hw⟩
    obtain ⟨s, hs, rfl⟩ := List.mem_map.1 hw
    exact ⟨u, hu, s, hs, rfl⟩
  · rintro ⟨u, hu, s, hs, rfl⟩
    exact ⟨u, hu, List.mem_map.2 ⟨s, hs, rfl⟩⟩
/-- the number of ways -/
def totN (R : Nat → List (Nat → Nat)) : Nat → Nat
  | 0 => 0
  | k + 1 => totN R k + (R (k * 2)).length
theorem totN_mono (R : Nat → List (Nat → Nat)) (x : Nat) : ∀ j, totN R x ≤ totN R (x + j)
  | 0 => Nat.le_refl _
  | j + 1 => Nat.le_trans (totN_mono R x j) (by rw [← Nat.add_assoc, totN]; omega)
theorem totN_le {b : Nat} (h : ∀ k, k < m → (R (k * 2)).length ≤ b) : ∀ x, x ≤ m → totN R x ≤ x * b
  | 0, _ => by simp [totN]
  | x + 1, hx => by
    have := totN_le h x (by omega)
    have := h x (by omega)
    rw [totN, Nat.succ_mul]; omega
/-- makers of the levels from l on, below x -/
def mkR (R : Nat → List (Nat → Nat)) (r : Nat → Nat) (l x : Nat) : Nat → List (Nat → Nat) := fun i => if i % 2 = 1 ∧ l ≤ i / 2 ∧ i / 2 < x then R i ++ [r] else R i
theorem mkR_zero : mkR R r l l = R := by funext i; unfold mkR; rw [if_neg (by omega)]
theorem mkR_own : mkR R r l x (x * 2 + 1) = R (x * 2 + 1) := by unfold mkR; rw [if_neg (by omega)]
theorem mkR_way (k : Nat) : mkR R r l x (k * 2) = R (k * 2) := by unfold mkR; rw [if_neg (by omega)]
theorem mkR_step (hl : l ≤ x) : rset (mkR R r l x) (x * 2 + 1) (R (x * 2 + 1) ++ [r]) = mkR R r l (x + 1) := by
  funext j
  unfold rset mkR
  by_cases c : j = x * 2 + 1
  · subst c; rw [if_pos rfl, if_pos (by omega)]
  · rw [if_neg c]
    by_cases d : j % 2 = 1 ∧ l ≤ j / 2 ∧ j / 2 < x
    · rw [if_pos d, if_pos (by omega)]
    · rw [if_neg d, if_neg (by omega)]
def adR (R : Nat → List (Nat → Nat)) (r : Nat → Nat) (l y : Nat) : Nat → List (Nat → Nat) := rset (mkR R r l (y + 1)) (y * 2) (R (y * 2) ++ [r])
theorem adR_way (k : Nat) : adR R r l y (k * 2) = if k = y then R (k * 2) ++ [r] else R (k * 2) := by
  unfold adR rset
  by_cases c : k = y
  · subst c; rw [if_pos rfl, if_pos rfl]
  · rw [if_neg (by omega), if_neg c, mkR_way]
theorem adR_mk (k : Nat) : adR R r l y (k * 2 + 1) = if l ≤ k ∧ k ≤ y then R (k * 2 + 1) ++ [r] else R (k * 2 + 1) := by
  unfold adR rset mkR
  rw [if_neg (by omega)]
  by_cases c : l ≤ k ∧ k ≤ y
  · rw [if_pos c, if_pos (by omega)]
  · rw [if_neg c, if_neg (by omega)]
theorem adR_tot : ∀ x, totN (adR R r l y) x = totN R x + if y < x then 1 else 0
  | 0 => by simp [totN]
  | x + 1 => by
    rw [totN, totN, adR_tot x, adR_way]
    by_cases c : x = y
    · subst c; rw [if_pos rfl, if_neg (show ¬ x < x by omega), if_pos (show x < x + 1 by omega), List.length_append, List.length_singleton]; omega
    · rw [if_neg c]
      by_cases d : y < x
      · rw [if_pos d, if_pos (show y < x + 1 by omega)]; omega
      · rw [if_neg d, if_neg (show ¬ y < x + 1 by omega)]; omega
theorem adR_len {b : Nat} (h : ∀ i, (R i).length ≤ b) (i : Nat) : (adR R r l y i).length ≤ b + 1 := by
  have := h i
  have h2 := h (y * 2)
  unfold adR rset mkR
  split
  · rename_i e; subst e; rw [List.length_append, List.length_singleton]; omega
  · split
    · rw [List.length_append, List.length_singleton]; omega
    · omega
/-- the grains of the levels from l on -/
def grL (R : Nat → List (Nat → Nat)) (r : Nat → Nat) (m l : Nat) : Nat → List ((Nat → Nat) × Nat)
  | 0 => []
  | j + 1 => grL R r m l j ++ prodL (R ((l + j) * 2)) [r] m (l + j + 1)
theorem grL_len : ∀ j, totN R l + (grL R r m l j).length = totN R (l + j)
  | 0 => by simp [grL]
  | j + 1 => by
    have := grL_len j
    rw [grL, List.length_append, prodL_len, ← Nat.add_assoc l j 1, totN, List.length_singleton]; omega
theorem grL_mem {w : (Nat → Nat) × Nat} : ∀ j, w ∈ grL R r m l j ↔ ∃ x u, l ≤ x ∧ x < l + j ∧ u ∈ R (x * 2) ∧ w = (thenF u r m, x + 1)
  | 0 => by
    constructor
    · intro h; cases h
    · rintro ⟨x, u, h1, h2, _⟩; omega
  | j + 1 => by
    rw [grL, List.mem_append, grL_mem j, prodL_mem]
    constructor
    · rintro (⟨x, u, h1, h2, h3, h4⟩ | ⟨u, hu, s, hs, rfl⟩)
      · exact ⟨x, u, h1, by omega, h3, h4⟩
      · rw [List.mem_singleton] at hs; subst hs
        exact ⟨l + j, u, by omega, by omega, hu, rfl⟩
    · rintro ⟨x, u, h1, h2, h3, h4⟩
      by_cases c : x = l + j
      · subst c; exact .inr ⟨u, h3, r, by simp, h4⟩
      · exact .inl ⟨x, u, h1, by omega, h3, h4⟩
end
def Uf (R : Nat → List (Nat → Nat)) : Nat → List (Nat → Nat) := fun k => R (k * 2)
def Mf (R : Nat → List (Nat → Nat)) : Nat → List (Nat → Nat) := fun k => R (k * 2 + 1)
section
variable {m : Nat} {G Q S : (Nat → Nat) → Prop} {R : Nat → List (Nat → Nat)} {W : List ((Nat → Nat) × Nat)}
theorem SInv.len {U M : Nat → List (Nat → Nat)} (h : SInv m G Q U M W) {k : Nat} (hk : k < m) : (U k).length ≤ m := by
  have h1 := nodup_le ((U k).map fun u => u k) (List.range m) (h.dist k hk) fun x hx => by
    obtain ⟨u, hu, rfl⟩ := List.mem_map.1 hx
    exact List.mem_range.2 ((h.way k hk u hu).1.2.2.1.1 k hk)
  rwa [List.length_map, List.length_range] at h1
theorem SInv.tot (h : SInv m G Q (Uf R) (Mf R) W) (hm : m ≤ 16) : totN R m ≤ 256 := by
  have := totN_le (R := R) (b := 16) (fun k hk => Nat.le_trans (h.len hk) hm) m (Nat.le_refl _)
  have : m * 16 ≤ 16 * 16 := Nat.mul_le_mul_right _ hm
  omega
/-- what is told of a grain that is sifted -/
theorem SInv.sifted {W0 : List ((Nat → Nat) × Nat)} {q r : Nat → Nat} {l y : Nat} (h : SInv m G Q (Uf R) (Mf R) (W0 ++ [(q, l)])) (hm : m ≤ 16) (hs : Proofs.Ytdoehnckolhloaa.sift (Uf R) m m q = (r, y)) : PermN q m ∧ PermN r m ∧ y ≤ m ∧ l ≤ y + 1 ∧ l ≤ m := by
  have hg := h.grain (q, l) (by simp)
  obtain ⟨s1, _, s3, _, _, _, _, s8⟩ := h.sift hm m (Nat.le_refl _) q hg.1 (fun x hx => by omega)
  rw [hs] at s1 s3 s8
  refine ⟨hg.1, s1, s3, ?_, hg.2.1⟩
  rcases Nat.eq_zero_or_pos l with c | c
  · omega
  · obtain ⟨k, rfl⟩ : ∃ k, l = k + 1 := ⟨l - 1, by omega⟩
    have := s8 k (by have := hg.2.1; simp only at this; omega) (hg.2.2.2 k rfl).1
    simp only at this
    omega
theorem add_keep (hS : ∀ s, S s → Bij s m) {W0 : List ((Nat → Nat) × Nat)} {q r : Nat → Nat} {l y : Nat} (h : SInv m (Gen m S) Q (Uf R) (Mf R) (W0 ++ [(q, l)])) (hm : m ≤ 16) (hs : Proofs.Ytdoehnckolhloaa.sift (Uf R) m m q = (r, y)) (hy : y < m) :
    SInv m (Gen m S) Q (Uf (adR R r l y)) (Mf (adR R r l y)) (W0 ++ grL R r m l (y + 1 - l) ++ prodL [r] (adR R r l y (y * 2 + 1)) m (y + 1)) := by
  have hl := (h.sifted hm hs).2.2.2.1
  refine h.keep hS hm (W0 := W0) (fun w => by simp) hs hy (fun k => adR_way k) (fun k => adR_mk k) fun w => ?_
  rw [List.mem_append, List.mem_append, grL_mem, prodL_mem]
  constructor
  · rintro ((c | ⟨x, u, h1, h2, h3, h4⟩) | ⟨u, hu, s, hs, rfl⟩)
    · exact .inl c
    · exact .inr (.inl ⟨x, u, h1, by omega, h3, h4⟩)
    · rw [List.mem_singleton] at hu; subst hu
      exact .inr (.inr ⟨s, hs, rfl⟩)
  · rintro (c | ⟨x, u, h1, h2, h3, h4⟩ | ⟨s, hs, h4⟩)
    · exact .inl (.inl c)
    · exact .inl (.inr ⟨x, u, h1, by omega, h3, h4⟩)
    · exact .inr ⟨r, by simp, s, hs, h4⟩
theorem add_away {W0 : List ((Nat → Nat) × Nat)} {q : Nat → Nat} {l : Nat} (h : SInv m G Q (Uf R) (Mf R) (W0 ++ [(q, l)])) (hm : m ≤ 16) (hs : (Proofs.Ytdoehnckolhloaa.sift (Uf R) m m q).2 = m) : SInv m G Q (Uf R) (Mf R) W0 :=
  h.away hm (W0 := W0) (p := q) (l := l) (fun w => by simp) hs
theorem add_start {U M : Nat → List (Nat → Nat)} (h : SInv m G Q U M []) {p : Nat → Nat} (hp : PermN p m) (hG : G p) : SInv m G (fun q => Q q ∨ q = p) U M [(p, 0)] where
  way := h.way
  one := h.one
  mks := h.mks
  down := h.down
  dist := h.dist
  prod k hk u hu s hs := by
    rcases h.prod k hk u hu s hs with c | ⟨w, hw, _⟩
    · exact .inl c
    · cases hw
  grain w hw := by
    rw [List.mem_singleton] at hw; subst hw
    exact ⟨hp, Nat.zero_le _, fun _ => hG, fun k e => absurd e (by simp)⟩
  top := h.top
  goal g hg := by
    rcases hg with c | rfl
    · rcases h.goal g c with d | ⟨w, hw, _⟩
      · exact .inl d
      · cases hw
    · exact .inr ⟨_, List.mem_singleton.2 rfl, rfl, fun _ _ => rfl⟩
end
end Go.Proofs.Ytdoehnckolhloaa

namespace Go.Proofs.Ytdoehnckolhloaa
open Go.RowKit

theorem aggG : AggT 160 17 := ⟨⟨_, Try.underlying160, rfl⟩, by kernel_rfl⟩
def Is17g (c : Array Value) : Prop := c.size = 17
@[go_sem] theorem is17_gv (p : Nat → Nat) (y : Int) : Is17g (gv p y) ↔ True := ⟨fun _ => trivial, fun _ => gv_size p y⟩
@[go_sem] theorem is17g_lit (x0 x1 x2 x3 x4 x5 x6 x7 x8 x9 x10 x11 x12 x13 x14 x15 x16 : Value) : Is17g #[x0, x1, x2, x3, x4, x5, x6, x7, x8, x9, x10, x11, x12, x13, x14, x15, x16] ↔ True := ⟨fun _ => trivial, fun _ => rfl⟩
@[go_sem] theorem ones_gv (p : Nat → Nat) (y : Int) : Ones (gv p y) ↔ True := ⟨fun _ => trivial, fun _ => gv_cells p y⟩
@[go_sem] theorem rowOk_at17g {w : World} {g : Nat} {c : Array Value} {t : TypeId} (h : g = w.heap.size) (hc : Is17g c) : rowOk (w.alloc (.cells c t)) g 17 ↔ True := ⟨fun _ => trivial, fun _ => ⟨c, t, heap_at _ _ _ h, hc⟩⟩
section
variable (ρ : Operand → Value) (dst : Option Tmp) (x y : Operand) (ty : TypeId) (pos : String) (after : Array Edge) (guard : Option (Nat × Bool))
@[go_sem ↓] theorem exec_loadG : execOp ρ { dst, op := .load 160 x, type := ty, pos, after, guard } = loadT 160 (ρ x) := rfl
@[go_sem ↓] theorem exec_storeG : execOp ρ { dst, op := .store 160 x y, type := ty, pos, after, guard } = storeT 160 (ρ x) (ρ y) := rfl
end
@[go_sem] theorem run_storeG {w : World} {g : Nat} {cs : Array Value} (h : rowOk w g 17) (hs : Is17g cs) (hc : Ones cs) :
    (storeT 160 (.pointer (some ⟨g, 0, none⟩)) (.agg cs)).run Try.prog w = .ok .skip (w.setRow g cs) := run_storeT aggG h hs hc
/-- the permutation of a grain -/
theorem run_loadGp {w : World} {g : Nat} {p : Nat → Nat} {y : Int} (h : cellsOf w g = gv p y) : (loadT 27 (.pointer (some ⟨g, 0, none⟩))).run Try.prog w = .ok (.value (.agg (av p))) w :=
  run_load_mid aggP (by rw [h, Nat.zero_add]; exact gv_places p y) (av_size _)
theorem one_grain {w : World} {g : Nat} {p : Nat → Nat} {y : Nat} (h : (pBlk g (gv p y) 160).ok w) : (pGr (.slice (some ⟨g, 0, none⟩) 1 1) [(p, y)]).ok w := by
  refine ⟨by rw [grB_length], .inr ⟨g, 1, gv p y, rfl, Nat.zero_le _, h, Nat.le_refl _, by unfold maxLen; omega, gv_size p y, ?_⟩⟩
  rw [show [(p, y)].length * 17 = (gv p y).toList.length by rw [gv_len]; rfl, List.take_length]
  unfold grB; simp
/-- the last grain of a row, and the row without it -/
theorem gr_last {w : World} {v : Value} {W0 : List ((Nat → Nat) × Nat)} {q : Nat → Nat} {l : Nat} (h : (pGr v (W0 ++ [(q, l)])).ok w) :
    ∃ g c, v = .slice (some ⟨g, 0, none⟩) (W0.length + 1) c ∧ W0.length + 1 ≤ c ∧ g < w.heap.size ∧ (loadT 160 (.pointer (some ⟨g, W0.length * 17, none⟩))).run Try.prog w = .ok (.value (.agg (gv q l))) w ∧
      (pGr (.slice (some ⟨g, 0, none⟩) W0.length c) W0).ok w := by
  have hl : (W0 ++ [(q, l)]).length = W0.length + 1 := by simp
  rcases h.2 with ⟨_, e⟩ | ⟨g, cap, cur, rfl, hB, hh, h1, h2, h3, h4⟩
  · omega
  · refine ⟨g, cap, by rw [hl], by omega, lt_of_some hh, ?_, by rw [grB_length], .inr ⟨g, cap, cur, rfl, hB, hh, by omega, h2, h3, ?_⟩⟩
    · have := grB_ext h4 (k := W0.length) (by omega)
      rw [List.getElem_append_right (Nat.le_refl _)] at this
      simp only [Nat.sub_self, List.getElem_cons_zero] at this
      exact run_load_mid aggG (by rw [cellsOf_heap hh]; exact this) (gv_size _ _)
    · have h5 := congrArg (List.take (W0.length * 17)) h4
      rw [List.take_take, hl, Nat.min_eq_left (by omega), grB_append, List.take_append_of_le_length (by rw [grB_length]; exact Nat.le_refl _)] at h5
      exact h5.trans (List.take_of_length_le (by rw [grB_length]; exact Nat.le_refl _))
theorem set_same {α : Type _} {l : List α} {i : Nat} {a : α} (h : l[i]? = some a) : l.set i a = l := by
  apply List.ext_getElem?
  intro j
  rw [List.getElem?_set]
  split
  · rename_i e; subst e
    obtain ⟨h1, h2⟩ := List.getElem?_eq_some_iff.1 h
    rw [if_pos h1, h]
  · rfl
theorem run_append_none {w : World} (t ty e : TypeId) (i : TypeInfo) (ht : Try.prog.underlying t = some (.slice e)) (hi : Try.prog.info? e = some i) (A : Option Addr) (n c : Nat) (h : n ≤ c) :
    (Builtin.append_ #[t, t] ty #[.slice A n c, .slice none 0 0]).run Try.prog w = .ok (.slice A n c) w := by
  cases A <;> simp [Builtin.append_, run_underlying ht, sizeOf, typeInfo, hi, Builtin.lenOf, Builtin.firstCells, h, storeCells]
theorem run_appGrs {o : Oper} {a : Act} {w0 w : World} {L : List Part} (H : Holds w0 w L) (k : Nat) {v : Value} {l : List ((Nat → Nat) × Nat)} (hk : L[k]? = some (pGr v l))
    {u : Value} {l2 : List ((Nat → Nat) × Nat)} (hu : (pGr u l2).ok w) (hb : l.length + l2.length ≤ 1000000) (s x : Operand)
    (ho : o.op = .call { callee := .builtin .append, args := #[s, x], argTypes := #[161, 161] })
    (hs : a.eval s = v) (hx : a.eval x = u) :
    ∃ v' w', (execOp a.eval o).run Try.prog w = .ok (.value v') w' ∧ Holds w0 w' (L.set k (pGr v' (l ++ l2))) := by
  obtain ⟨i0, hi, hz0, hz1, hz2⟩ := info_parts infoGr
  rcases hu.2 with ⟨rfl, e⟩ | ⟨g, cap, cur, rfl, hB, hh, h1, h2, h3, h4⟩
  · have e2 : l2 = [] := List.eq_nil_of_length_eq_zero e
    subst e2
    have hv : ∃ A c, v = .slice A l.length c ∧ l.length ≤ c := by
      rcases (H.row k hk).2 with ⟨rfl, e⟩ | ⟨g, cap, cur, rfl, _, _, h1, _⟩
      · exact ⟨none, 0, by rw [e], by omega⟩
      · exact ⟨_, cap, rfl, h1⟩
    obtain ⟨A, c, rfl, hc⟩ := hv
    refine ⟨_, w, exec_append ho hs hx (run_append_none _ _ _ i0 Try.underlying161 hi A l.length c hc), ?_⟩
    rw [List.append_nil, set_same hk]
    exact H
  · obtain ⟨v', w', r1, r2, _⟩ := run_appH (P := Try.prog) (w := w) 161 o.type 160 i0 _ 17 24 Try.underlying161 hi hz0 hz1 hz2 rfl (by decide) v l.length (grB l) H k hk ⟨g, 0, none⟩ l2.length cap (grB l2)
      (grB_length l2) (fun j u hu => by
        have : ((⟨g, 0, none⟩ : Addr).add j) = ⟨g, j, none⟩ := by simp [Addr.add]; exact Eq.symm
        have hj : j < l2.length * 17 := by
          rcases Nat.lt_or_ge j (l2.length * 17) with c | c
          · exact c
          · rw [List.getElem?_eq_none (by rw [grB_length]; exact c)] at hu; cases hu
        rw [this, cell_of_cells, cellsOf_heap hh, ← Array.getElem?_toList]
        rw [← h4, List.getElem?_take_of_lt hj] at hu
        exact hu) (fun u hu => grB_one u hu) (by unfold maxLen; omega) (by omega)
    refine ⟨v', w', exec_append ho hs hx r1, ?_⟩
    unfold pGr at *
    rw [List.length_append, grB_append]
    exact r2
theorem upon_appGrs {o : Oper} {a : Act} {w0 w : World} {L : List Part} (H : Holds w0 w L) (k : Nat) {v : Value} {l : List ((Nat → Nat) × Nat)} (hk : L[k]? = some (pGr v l))
    {u : Value} {l2 : List ((Nat → Nat) × Nat)} (hu : (pGr u l2).ok w) (hb : l.length + l2.length ≤ 1000000) {C : World → Prop} {R : Value → World → Prop}
    (h : ∀ v' w', Holds w0 w' (L.set k (pGr v' (l ++ l2))) → C w' ∧ R v' w') (s x : Operand)
    (ho : o.op = .call { callee := .builtin .append, args := #[s, x], argTypes := #[161, 161] })
    (hs : a.eval s = v) (hx : a.eval x = u) : Rd.uponE Try.prog C R w ((execOp a.eval o).run Try.prog w) := by
  obtain ⟨v', w', h1, h2⟩ := run_appGrs H k hk hu hb s x ho hs hx
  rw [h1]
  exact h v' w' h2
end Go.Proofs.Ytdoehnckolhloaa

namespace Go.Proofs.Ytdoehnckolhloaa
open Go.RowKit

theorem rows_at (vs : Nat → Value) (R : Nat → List (Nat → Nat)) (L : List Part) {k : Nat} (hk : k < 32) : (svRows vs R ++ L)[k]? = some (pPl (vs k) (R k)) := by
  rw [List.getElem?_append_left (by rw [svRows_length]; exact hk), svRows_at vs R hk]
theorem rows_set (vs : Nat → Value) (R : Nat → List (Nat → Nat)) (L : List Part) (i : Nat) (v : Value) (l : List (Nat → Nat)) (hi : i < 32) : (svRows vs R ++ L).set i (pPl v l) = svRows (vset vs i v) (rset R i l) ++ L := by
  rw [List.set_append_left _ _ (by rw [svRows_length]; exact hi), svRows_set]
def lenV : Value → Nat
  | .slice _ n _ => n
  | _ => 0
/-- the number of ways, as it stands in memory -/
def totW (w : World) (g : Nat) : Nat → Nat
  | 0 => 0
  | k + 1 => totW w g k + lenV ((cellsOf w g).getD (1 + k * 2) undef)
theorem totW_eq {w : World} {g m : Nat} {vs : Nat → Value} {R : Nat → List (Nat → Nat)} (h : SvAt w g m vs R) : ∀ x, x ≤ 16 → totW w g x = totN R x
  | 0, _ => rfl
  | x + 1, hx => by
    obtain ⟨A, c, hv⟩ := h.form (i := x * 2) (by omega)
    rw [totW, totN, totW_eq h x (by omega), cellsOf_heap h.1, Array.getD_eq_getD_getElem?, sv_at m vs (by omega), Option.getD_some, hv]
    rfl

set_option maxRecDepth 100000 in
set_option maxHeartbeats 4000000 in
theorem add_any (m : Nat) (hm : m ≤ 16) (g : Nat) (vs1 : Nat → Value) (R1 : Nat → List (Nat → Nat)) (S Q : (Nat → Nat) → Prop) (hS : ∀ s, S s → Bij s m) (h : SInv m (Gen m S) Q (Uf R1) (Mf R1) []) (hB : ∀ i, (R1 i).length ≤ totN R1 m)
    (p : Nat → Nat) (hp : PermN p m) (hG : Gen m S p) (w0 w : World) (L : List Part) (H : Holds w0 w (pBlk g (sv m vs1) 136 :: (svRows vs1 R1 ++ L))) :
    Calls Try.prog 112 #[.pointer (some ⟨g, 0, none⟩), .agg (av p)] w fun e w' => (∃ v, e = .returned v) ∧ ∃ vs' R', Holds w0 w' (pBlk g (sv m vs') 136 :: (svRows vs' R' ++ L)) ∧ SInv m (Gen m S) (fun q => Q q ∨ q = p) (Uf R') (Mf R') [] ∧ ∀ i, (R' i).length ≤ totN R' m := by
  have HSM := hide hS; clear hS
  have HI0 := hide (add_start h hp hG); clear h hG hp
  have HB0 := hide hB; clear hB
  have H1 := H.blk (av p) 27 w.heap.size rfl
  have H2 := H1.blk (gv p ((0 : Nat) : Int)) 160 (w.heap.size + 1) (by simp)
  have H3 := H2.conv 0 rfl (pGr (.slice (some ⟨w.heap.size + 1, 0, none⟩) 1 1) [(p, 0)]) (one_grain (H2.at 0 rfl)) (fun k hk => by simpa [pGr, pRow, Value.ownBlock, pBlk, eq_comm] using hk)
  have H4 := H3.sub (.cons_cons _ (.cons _ (.refl _)) : (pGr (.slice (some ⟨w.heap.size + 1, 0, none⟩) 1 1) [(p, 0)] :: pBlk g (sv m vs1) 136 :: (svRows vs1 R1 ++ L)).Sublist _)
  clear H1 H2 H3 H
  go_enter Try.func112, Try.ntmps112
  go_wp2
  go_loopw [4] (fun v wr => ∃ vs R Wt, SInv m (Gen m S) (fun q => Q q ∨ q = p) (Uf R) (Mf R) Wt ∧ (∀ i, (R i).length ≤ totN R m) ∧ Wt.length ≤ 1 + 600 * totN R m ∧ Holds w0 wr (pGr v Wt :: pBlk g (sv m vs) 136 :: (svRows vs R ++ L))) (fun v wr => (256 - totW wr g m) * 600 + lenV v)
  case atStart => exact ⟨vs1, R1, [(p, 0)], HI0.out, HB0.out, by simp, H4⟩
  case round =>
    clear H4 HI0 HB0
    obtain ⟨vs, R, Wt, hI, hB, hW, hH⟩ := hrel
    rcases List.eq_nil_or_concat Wt with rfl | ⟨W0, ⟨q, l⟩, hc⟩
    · obtain ⟨A, c, rfl⟩ := hH.grForm 0 rfl
      go_wp2
      go_end0
      exact ⟨⟨_, rfl⟩, vs, R, hH.tail, hI, hB⟩
    · rw [List.concat_eq_append] at hc
      subst hc
      have hSv : SvAt wr g m vs R := ⟨hH.at 1 rfl, fun k hk => hH.at (k + 2) (rows_at vs R L hk)⟩
      obtain ⟨q0, c0, rfl, hc0, hq0, lk, hpop⟩ := gr_last (hH.at 0 rfl)
      have htot := hI.tot hm
      have hTW := totW_eq hSv m hm
      obtain ⟨⟨r, y⟩, hsf⟩ : ∃ ry, sift (Uf R) m m q = ry := ⟨_, rfl⟩
      obtain ⟨hq, hr, hy, hly, hlm⟩ := hI.sifted hm hsf
      have hwl : W0.length + 1 ≤ 1 + 600 * totN R m := by simpa using hW
      have hP := hH.conv 0 rfl (pGr (.slice (some ⟨q0, 0, none⟩) W0.length c0) W0) hpop (fun k hk => by simpa [pGr, pRow, Value.ownBlock] using hk)
      have H1 : Holds w0 (wr.alloc (.cells (gv q (l : Int)) 160)) (pBlk wr.heap.size (gv q (l : Int)) 160 :: pGr (.slice (some ⟨q0, 0, none⟩) W0.length c0) W0 :: pBlk g (sv m vs) 136 :: (svRows vs R ++ L)) := hP.blk (gv q (l : Int)) 160 wr.heap.size rfl
      have hSv2 : SvAt (wr.alloc (.cells (gv q (l : Int)) 160)) g m vs R := ⟨H1.at 2 rfl, fun k hk => H1.at (k + 3) (rows_at vs R L hk)⟩
      have lp := run_loadGp (H1.cells 0 rfl)
      have cs := sift_any m hm g vs R (fun k hk u hu => (hI.way k hk u hu).1) (fun i => by have := hB i; omega) q hq _ hSv2
      have hsf' : sift (fun k => R (k * 2)) m m q = (r, y) := hsf
      rw [hsf'] at cs
      simp only at cs
      clear hsf' hSv2 hSv hP hpop hH
      have hwi : W0.length ≤ 153600 := by omega
      have HI := hide hI; clear hI
      have HB := hide hB; clear hB
      have HSF := hide hsf; clear hsf
      have HTW := hide hTW; clear hTW
      have HR := hide hr; clear hr hq
      have CS := hide cs; clear cs
      have HW := hide hwl; clear hwl hW
      have HTT := hide htot; clear htot
      have hcI : (W0.length : Int) + 1 ≤ c0 := by omega
      go_wp2_with fail
      refine CS.out.mono ?_
      rintro e w3 ⟨rfl, hb⟩
      clear lk lp CS
      have H3 := (H1.call hb).blk (av r) 27 w3.heap.size rfl
      clear H1 hb
      have n0 := H3.cell 3 rfl (sv_n m vs)
      have lv := H3.cell 1 rfl (gv_level q l)
      by_cases hym : y = m
      · have hyi : ((y : Int) == (m : Int)) = true := by rw [beq_iff_eq]; omega
        go_wp2
        go_roundw
        case rel => exact ⟨vs, R, W0, add_away HI.out hm (by rw [HSF.out]; exact hym), HB.out, by have := HW.out; omega, H3.sub (.cons _ (.cons _ (.refl _)))⟩
        case measure =>
          have hSv : SvAt (w3.alloc (.cells (av r) 27)) g m vs R := ⟨H3.at 3 rfl, fun k hk => H3.at (k + 4) (rows_at vs R L hk)⟩
          show (256 - totW _ g m) * 600 + lenV _ < (256 - totW _ g m) * 600 + lenV _
          rw [HTW.out, totW_eq hSv m hm]
          simp [lenV]
      · have hyi : ((y : Int) == (m : Int)) = false := by rw [beq_eq_false_iff_ne]; omega
        have hym' : y < m := by omega
        clear hym
        go_wp2
        clear n0 lv hyi
        have H4 : Holds w0 (w3.alloc (.cells (av r) 27)) (pBlk w3.heap.size (av r) 27 :: pGr (.slice (some ⟨q0, 0, none⟩) W0.length c0) W0 :: pBlk g (sv m vs) 136 :: (svRows vs R ++ L)) := H3.sub (.cons_cons _ (.cons _ (.refl _)))
        clear H3
        generalize w3.alloc (.cells (av r) 27) = w4 at *
        generalize w3.heap.size = G6 at *
        go_loopw [4, 8] (fun v t wx => ∃ j vs2, l + j ≤ y + 1 ∧ t = .int .i64 ((l + j : Nat) : Int) ∧ Holds w0 wx (pBlk G6 (av r) 27 :: pGr v (W0 ++ grL R r m l j) :: pBlk g (sv m vs2) 136 :: (svRows vs2 (mkR R r l (l + j)) ++ L))) (fun _ t _ => y + 1 - (intOf t).toNat)
        case atStart => exact ⟨0, vs, by omega, rfl, by rw [Nat.add_zero, mkR_zero, grL, List.append_nil]; exact H4⟩
        case round =>
          clear H4
          obtain ⟨j, vs2, hj, rfl, hH⟩ := hrel
          have hgl := grL_len (R := R) (r := r) (m := m) (l := l) j
          have hgt := totN_mono R (l + j)
          by_cases hxy : l + j ≤ y
          · have hrd := hgt (m - (l + j))
            rw [show l + j + (m - (l + j)) = m by omega] at hrd
            have hgn : grL R r m l (j + 1) = grL R r m l j ++ prodL (R ((l + j) * 2)) [r] m (l + j + 1) := rfl
            have hU1 : (R ((l + j) * 2)).length ≤ 256 := by have := HB.out ((l + j) * 2); have := HTT.out; omega
            have hM1 : (R ((l + j) * 2 + 1)).length ≤ 256 := by have := HB.out ((l + j) * 2 + 1); have := HTT.out; omega
            have hWp : ∀ u ∈ R ((l + j) * 2), ∀ i, i < m → u i < 16 := fun u hu i hi => (HI.out.way (l + j) (by omega) u hu).1.lt i (by omega)
            have hWL : (W0 ++ grL R r m l j).length ≤ 200000 := by have := HW.out; have := HTT.out; rw [List.length_append]; omega
            obtain ⟨W1, hW1⟩ : ∃ W1, W1 = W0 ++ grL R r m l j := ⟨_, rfl⟩
            have hgn2 : W0 ++ grL R r m l (j + 1) = W1 ++ prodL (R ((l + j) * 2)) [r] m (l + j + 1) := by rw [hgn, hW1, List.append_assoc]
            rw [← hW1] at hWL hH
            have HGN := hide hgn2; clear hgn2 hgn hW1 hgl hgt hrd
            have HWP := hide hWp; clear hWp
            have HSS := hide (show l + j + 1 = l + (j + 1) by omega)
            have hstep := mkR_step (R := R) (r := r) (l := l) (x := l + j) (by omega)
            have hown := mkR_own (R := R) (r := r) (l := l) (x := l + j)
            have hway := mkR_way (R := R) (r := r) (l := l) (x := l + j + 1) (l + j)
            have HLJ := hide (show l ≤ l + j by omega)
            generalize hx : l + j = x at *
            have HX := hide hx; clear hx
            have hx16 : (x : Int) < 16 := by omega
            have hx16n : x < 16 := by omega
            have hxyi : (x : Int) ≤ y := by omega
            have hwr : IntKind.i64.wrap ((x : Int) + 1) = (x : Int) + 1 := by rw [IntKind.wrap_i64]; omega
            obtain ⟨RR, hRR⟩ : ∃ RR, RR = mkR R r l x := ⟨_, rfl⟩
            obtain ⟨R3, hR3⟩ : ∃ R3, R3 = mkR R r l (x + 1) := ⟨_, rfl⟩
            rw [← hRR, ← hR3] at hstep
            rw [← hRR] at hown hH
            rw [← hR3] at hway
            have HR3 := hide hR3; clear hR3 hRR
            obtain ⟨A', c', rfl⟩ := hH.grForm 1 rfl
            obtain ⟨AM, cM, hvM⟩ := hH.plForm (x * 2 + 1 + 3) (rows_at vs2 RR L (by omega))
            rw [← hown] at hM1 hstep
            have HST := hide hstep; clear hstep
            have HWY := hide hway; clear hway
            have HOW := hide hown; clear hown
            have HVM := hide hvM; clear hvM
            go_wp2
            refine Rd.region_PT (w0 := w0) [pBlk G6 (av r) 27, pBlk g (sv m vs2) 136] (pBlk G6 (av r) 27 :: pGr (.slice A' W1.length c') W1 :: pBlk g (sv m vs2) 136 :: (svRows vs2 RR ++ L)) [6, 7] 8 (.q 0 <| .q 1 <| .q 2 <| .q 3 <| .q 4 <| .q 5 <| .s1 6 <| .s1 7 .fin) hH (.cons_cons _ (.cons _ (.cons_cons _ (List.nil_sublist _)))) (by kernel_rfl) (by kernel_rfl) ?_
            iterate 6
              apply Rd.v_q
              · simp only [List.getElem?_toArray, List.getElem?_cons_zero, List.getElem?_cons_succ]; exact rfl
              · rfl
              · go_simp
              · intro wx hx
                have q0 := hx.cells 0 rfl
                have q1 : wx.cell? ⟨g, 1 + x * 2 + 1, none⟩ = some (.slice AM (RR (x * 2 + 1)).length cM) := by have := hx.cell 1 rfl (sv_at m vs2 (i := x * 2 + 1) (by omega)); rw [HVM.out] at this; exact this
                unfold atG
                go_simp
                simp only [uponG]
                exact ⟨by trivial, rfl⟩
            refine Rd.v_build (av r) 27 1 (by simp only [List.getElem?_toArray, List.getElem?_cons_zero, List.getElem?_cons_succ]; exact rfl) rfl (by go_simp) (fun wx hx hD => by go_simp) fun gq => ?_
            refine Rd.v_s (fun u wx => Holds w0 wx (pBlk G6 (av r) 27 :: pGr (.slice A' W1.length c') W1 :: pBlk g (sv m vs2) 136 :: (svRows (vset vs2 (x * 2 + 1) u) R3 ++ L))) (fun u _ _ h hb => h.call hb) (by simp only [List.getElem?_toArray, List.getElem?_cons_zero, List.getElem?_cons_succ]; exact rfl) rfl (by go_simp) (fun wx hx hD => ?_) ?_
            · refine upon_appPl hD (x * 2 + 1 + 4) (v := .slice AM (RR (x * 2 + 1)).length cM) (l := RR (x * 2 + 1)) (by rw [← HVM.out]; exact rows_at vs2 RR L (by omega)) gq r 27 (hD.at 0 rfl) (by omega) (fun v' w' h2 => ?_) _ _ rfl (by go_simp) (by go_simp)
              have h3 : Holds w0 w' (pBlk gq (av r) 27 :: pBlk G6 (av r) 27 :: pGr (.slice A' W1.length c') W1 :: pBlk g (sv m vs2) 136 :: ((svRows vs2 RR ++ L).set (x * 2 + 1) (pPl v' (RR (x * 2 + 1) ++ [r])))) := h2
              rw [rows_set _ _ _ _ _ _ (by omega), HST.out] at h3
              exact ⟨h3.sub (.cons _ (.cons_cons _ (.cons _ (.cons_cons _ (List.nil_sublist _))))), h3.tail⟩
            rintro u ⟨wy, hwy, hu⟩
            obtain ⟨Au, cu, hvu⟩ := hu.plForm (x * 2 + 1 + 3) (rows_at _ R3 L (by omega))
            obtain ⟨nu, hnu⟩ : ∃ nu, nu = (R3 (x * 2 + 1)).length := ⟨_, rfl⟩
            rw [show vset vs2 (x * 2 + 1) u (x * 2 + 1) = u from if_pos rfl, ← hnu] at hvu
            subst hvu
            clear hu hnu hwy wy
            rintro w6 - hx6
            have hx7 : Holds w0 w6 (pBlk G6 (av r) 27 :: pGr (.slice A' W1.length c') W1 :: pBlk g (sv m vs2) 136 :: (svRows (vset vs2 (x * 2 + 1) (.slice Au nu cu)) R3 ++ L)) := hx6
            have c0 : w6.cell? ⟨g, 1 + x * 2 + 1, none⟩ = some (.slice AM (RR (x * 2 + 1)).length cM) := by have := hx7.cell 2 rfl (sv_at m vs2 (i := x * 2 + 1) (by omega)); rw [HVM.out] at this; exact this
            have f0 := hx7.frozen 2 rfl (1 + x * 2 + 1)
            have h7 := hx7.set 2 rfl (1 + (x * 2 + 1)) (.slice Au nu cu)
            rw [sv_set] at h7
            obtain ⟨vs3, hvs3⟩ : ∃ vs3, vs3 = vset vs2 (x * 2 + 1) (.slice Au nu cu) := ⟨_, rfl⟩
            rw [← hvs3] at h7
            have h8 : Holds w0 (w6.setCell ⟨g, 1 + x * 2 + 1, none⟩ (.slice Au nu cu)) (pBlk G6 (av r) 27 :: pGr (.slice A' W1.length c') W1 :: pBlk g (sv m vs3) 136 :: (svRows vs3 R3 ++ L)) := h7
            clear h7 hx6 hx7 hH hvs3
            go_simp
            go_wp2
            clear c0 f0
            generalize w6.setCell ⟨g, 1 + x * 2 + 1, none⟩ (.slice Au nu cu) = w7 at *
            obtain ⟨AW, cW, hvW⟩ := h8.plForm (x * 2 + 3) (rows_at vs3 R3 L (by omega))
            have HVW := hide hvW; clear hvW
            refine Rd.region_P (w0 := w0) [pBlk G6 (av r) 27, pBlk g (sv m vs3) 136] (pBlk G6 (av r) 27 :: pGr (.slice A' W1.length c') W1 :: pBlk g (sv m vs3) 136 :: (svRows vs3 R3 ++ L)) [7, 9, 10] (.q 0 <| .q 1 <| .q 2 <| .q 3 <| .q 4 <| .q 5 <| .q 6 <| .q 8 <| .s1 7 <| .s1 9 <| .s1 10 <| .q 11 .fin) h8 (.cons_cons _ (.cons _ (.cons_cons _ (List.nil_sublist _)))) (by kernel_rfl) (by kernel_rfl) (by kernel_rfl) ?_
            iterate 8
              apply Rd.v_q
              · simp only [List.getElem?_toArray, List.getElem?_cons_zero, List.getElem?_cons_succ]; exact rfl
              · rfl
              · go_simp
              · intro wx hx
                have q0 := hx.cells 0 rfl
                have q1 : wx.cell? ⟨g, 1 + x * 2, none⟩ = some (.slice AW (R3 (x * 2)).length cW) := by have := hx.cell 1 rfl (sv_at m vs3 (i := x * 2) (by omega)); rw [HVW.out] at this; exact this
                unfold atG
                go_simp
                simp only [uponG]
                exact ⟨by trivial, rfl⟩
            refine Rd.v_build (av r) 27 1 (by simp only [List.getElem?_toArray, List.getElem?_cons_zero, List.getElem?_cons_succ]; exact rfl) rfl (by go_simp) (fun wx hx hD => by go_simp) fun gz => ?_
            refine Rd.v_s (fun u wx => Holds w0 wx (pGr u (prodL (R (x * 2)) [r] m (x + 1)) :: pBlk G6 (av r) 27 :: pGr (.slice A' W1.length c') W1 :: pBlk g (sv m vs3) 136 :: (svRows vs3 R3 ++ L))) (fun u _ _ h hb => h.call hb) (by simp only [List.getElem?_toArray, List.getElem?_cons_zero, List.getElem?_cons_succ]; exact rfl) rfl (by go_simp) (fun wx hx hD => ?_) ?_
            · have o1 : (pPl (.slice AW (R3 (x * 2)).length cW) (R3 (x * 2))).ok wx := by rw [← HVW.out]; exact hD.at (x * 2 + 4) (rows_at vs3 R3 L (by omega))
              rw [HWY.out] at o1
              have o2 : (pPl (.slice (some ⟨gz, 0, none⟩) 1 1) [r]).ok wx := one_row (hD.at 0 rfl)
              have o3 : (pBlk g (sv m vs3) 136).ok wx := hD.at 3 rfl
              have pc := products_any m hm g vs3 _ _ (R (x * 2)) [r] x (by omega) HWP.out (by simp; omega) (by omega) (by simp) wx o3 o1 o2
              rw [HWY.out]
              go_simp
              simp only [Rd.uponE]
              refine ⟨by trivial, pc.mono ?_⟩
              rintro e w' ⟨v, rfl, hN⟩
              exact ⟨_, rfl, hx.call hN.low, hD.tail.join hN⟩
            rintro u2 -
            refine Rd.v_s (fun u wx => Holds w0 wx (pBlk G6 (av r) 27 :: pGr u (W1 ++ prodL (R (x * 2)) [r] m (x + 1)) :: pBlk g (sv m vs3) 136 :: (svRows vs3 R3 ++ L))) (fun u _ _ h hb => h.call hb) (by simp only [List.getElem?_toArray, List.getElem?_cons_zero, List.getElem?_cons_succ]; exact rfl) rfl (by go_simp) (fun wx hx hD => ?_) ?_
            · exact upon_appGrs hD 2 rfl (hD.at 0 rfl) (by rw [prodL_len, List.length_singleton]; omega) (fun v' w' h2 => ⟨h2.sub (.cons _ (.cons_cons _ (.cons _ (.cons_cons _ (List.nil_sublist _))))), h2.tail⟩) _ _ rfl (by go_simp) (by go_simp)
            rintro u3 -
            iterate 1
              apply Rd.v_q
              · simp only [List.getElem?_toArray, List.getElem?_cons_zero, List.getElem?_cons_succ]; exact rfl
              · rfl
              · go_simp
              · intro wx hx
                have q0 := hx.cells 0 rfl
                unfold atG
                go_simp
                simp only [uponG]
                exact ⟨by trivial, rfl⟩
            rintro w8 - hx8
            have hx9 : Holds w0 w8 (pBlk G6 (av r) 27 :: pGr u3 (W1 ++ prodL (R (x * 2)) [r] m (x + 1)) :: pBlk g (sv m vs3) 136 :: (svRows vs3 R3 ++ L)) := hx8
            clear hx8 h8
            go_simp
            go_wp2
            go_roundw
            case rel =>
              refine ⟨j + 1, vs3, ?_, ?_, ?_⟩
              · have := HX.out; omega
              · rw [show l + (j + 1) = x + 1 by have := HX.out; omega]; go_num
              · rw [show l + (j + 1) = x + 1 by have := HX.out; omega, HGN.out, ← HR3.out]; exact hx9
            case measure => simp [intOf]; omega
          · have hxe : l + j = y + 1 := by omega
            have hje : j = y + 1 - l := by omega
            have hrd := totN_mono R (y + 1) (m - (y + 1))
            rw [show y + 1 + (m - (y + 1)) = m by omega] at hrd
            rw [hxe] at hgl
            obtain ⟨W1, hW1⟩ : ∃ W1, W1 = W0 ++ grL R r m l j := ⟨_, rfl⟩
            have hWl : W1.length ≤ W0.length + 256 := by have := HTT.out; rw [hW1, List.length_append]; omega
            rw [← hW1, hxe] at hH
            rw [hje] at hW1
            have hWL : W1.length ≤ 200000 := by omega
            have hkeep := add_keep HSM.out HI.out hm HSF.out hym'
            rw [← hW1] at hkeep
            obtain ⟨RR, hRR⟩ : ∃ RR, RR = mkR R r l (y + 1) := ⟨_, rfl⟩
            have hown : RR (y * 2) = R (y * 2) := by rw [hRR]; exact mkR_way y
            rw [← hRR] at hH
            have hM1 : (RR (y * 2)).length ≤ 256 := by have := HB.out (y * 2); have := HTT.out; rw [hown]; omega
            have hB3 := adR_len (r := r) (l := l) (y := y) HB.out
            have ht3 := adR_tot (R := R) (r := r) (l := l) (y := y) m
            rw [if_pos hym'] at ht3
            have hst : rset RR (y * 2) (RR (y * 2) ++ [r]) = adR R r l y := by rw [hown, hRR]; rfl
            generalize adR R r l y = R3 at *
            have hM3 : (R3 (y * 2 + 1)).length ≤ 257 := by have := hB3 (y * 2 + 1); have := HTT.out; omega
            have hrl : ∀ u ∈ [r], ∀ i, i < m → u i < 16 := fun u hu i hi => by rw [List.mem_singleton] at hu; subst hu; exact HR.out.lt i (by omega)
            have HRL := hide hrl; clear hrl
            have HB3 := hide hB3; clear hB3
            have HT3 := hide ht3; clear ht3
            have HKP := hide hkeep; clear hkeep
            have HST := hide hst; clear hst hown hRR hW1 hje hgl hgt hrd
            have HWl := hide hWl; clear hWl
            have hyi16 : (y : Int) < 16 := by omega
            have hy16 : y < 16 := by omega
            have hxi : ¬ (((l + j : Nat) : Int) ≤ (y : Int)) := by omega
            have hwr : IntKind.i64.wrap ((y : Int) + 1) = (y : Int) + 1 := by rw [IntKind.wrap_i64]; omega
            rw [hxe]
            obtain ⟨A', c', rfl⟩ := hH.grForm 1 rfl
            obtain ⟨AM, cM, hvM⟩ := hH.plForm (y * 2 + 3) (rows_at vs2 RR L (by omega))
            have HVM := hide hvM; clear hvM hxy
            have HJ := hide (And.intro hj (And.intro hxe hxi)); clear hj hxe hxi
            go_wp2
            refine Rd.region_PT (w0 := w0) [pBlk G6 (av r) 27, pBlk g (sv m vs2) 136] (pBlk G6 (av r) 27 :: pGr (.slice A' W1.length c') W1 :: pBlk g (sv m vs2) 136 :: (svRows vs2 RR ++ L)) [6, 7] 8 (.q 0 <| .q 1 <| .q 2 <| .q 3 <| .q 4 <| .q 5 <| .s1 6 <| .s1 7 .fin) hH (.cons_cons _ (.cons _ (.cons_cons _ (List.nil_sublist _)))) (by kernel_rfl) (by kernel_rfl) ?_
            iterate 6
              apply Rd.v_q
              · simp only [List.getElem?_toArray, List.getElem?_cons_zero, List.getElem?_cons_succ]; exact rfl
              · rfl
              · go_simp
              · intro wx hx
                have q0 := hx.cells 0 rfl
                have q1 : wx.cell? ⟨g, 1 + y * 2, none⟩ = some (.slice AM (RR (y * 2)).length cM) := by have := hx.cell 1 rfl (sv_at m vs2 (i := y * 2) (by omega)); rw [HVM.out] at this; exact this
                unfold atG
                go_simp
                simp only [uponG]
                exact ⟨by trivial, rfl⟩
            refine Rd.v_build (av r) 27 1 (by simp only [List.getElem?_toArray, List.getElem?_cons_zero, List.getElem?_cons_succ]; exact rfl) rfl (by go_simp) (fun wx hx hD => by go_simp) fun gq => ?_
            refine Rd.v_s (fun u wx => Holds w0 wx (pBlk G6 (av r) 27 :: pGr (.slice A' W1.length c') W1 :: pBlk g (sv m vs2) 136 :: (svRows (vset vs2 (y * 2) u) R3 ++ L))) (fun u _ _ h hb => h.call hb) (by simp only [List.getElem?_toArray, List.getElem?_cons_zero, List.getElem?_cons_succ]; exact rfl) rfl (by go_simp) (fun wx hx hD => ?_) ?_
            · refine upon_appPl hD (y * 2 + 4) (v := .slice AM (RR (y * 2)).length cM) (l := RR (y * 2)) (by rw [← HVM.out]; exact rows_at vs2 RR L (by omega)) gq r 27 (hD.at 0 rfl) (by omega) (fun v' w' h2 => ?_) _ _ rfl (by go_simp) (by go_simp)
              have h3 : Holds w0 w' (pBlk gq (av r) 27 :: pBlk G6 (av r) 27 :: pGr (.slice A' W1.length c') W1 :: pBlk g (sv m vs2) 136 :: ((svRows vs2 RR ++ L).set (y * 2) (pPl v' (RR (y * 2) ++ [r])))) := h2
              rw [rows_set _ _ _ _ _ _ (by omega), HST.out] at h3
              exact ⟨h3.sub (.cons _ (.cons_cons _ (.cons _ (.cons_cons _ (List.nil_sublist _))))), h3.tail⟩
            rintro u ⟨wy, hwy, hu⟩
            obtain ⟨Au, cu, hvu⟩ := hu.plForm (y * 2 + 3) (rows_at _ R3 L (by omega))
            obtain ⟨nu, hnu⟩ : ∃ nu, nu = (R3 (y * 2)).length := ⟨_, rfl⟩
            rw [show vset vs2 (y * 2) u (y * 2) = u from if_pos rfl, ← hnu] at hvu
            subst hvu
            clear hu hnu hwy wy
            rintro w6 - hx6
            have hx7 : Holds w0 w6 (pBlk G6 (av r) 27 :: pGr (.slice A' W1.length c') W1 :: pBlk g (sv m vs2) 136 :: (svRows (vset vs2 (y * 2) (.slice Au nu cu)) R3 ++ L)) := hx6
            have c0 : w6.cell? ⟨g, 1 + y * 2, none⟩ = some (.slice AM (RR (y * 2)).length cM) := by have := hx7.cell 2 rfl (sv_at m vs2 (i := y * 2) (by omega)); rw [HVM.out] at this; exact this
            have f0 := hx7.frozen 2 rfl (1 + y * 2)
            have h7 := hx7.set 2 rfl (1 + y * 2) (.slice Au nu cu)
            rw [sv_set] at h7
            obtain ⟨vs3, hvs3⟩ : ∃ vs3, vs3 = vset vs2 (y * 2) (.slice Au nu cu) := ⟨_, rfl⟩
            rw [← hvs3] at h7
            have h8 : Holds w0 (w6.setCell ⟨g, 1 + y * 2, none⟩ (.slice Au nu cu)) (pBlk G6 (av r) 27 :: pGr (.slice A' W1.length c') W1 :: pBlk g (sv m vs3) 136 :: (svRows vs3 R3 ++ L)) := h7
            clear h7 hx6 hx7 hH hvs3
            go_simp
            go_wp2
            clear c0 f0
            generalize w6.setCell ⟨g, 1 + y * 2, none⟩ (.slice Au nu cu) = w7 at *
            obtain ⟨AW, cW, hvW⟩ := h8.plForm (y * 2 + 1 + 3) (rows_at vs3 R3 L (by omega))
            have HVW := hide hvW; clear hvW
            refine Rd.region_P (w0 := w0) [pBlk G6 (av r) 27, pBlk g (sv m vs3) 136] (pBlk G6 (av r) 27 :: pGr (.slice A' W1.length c') W1 :: pBlk g (sv m vs3) 136 :: (svRows vs3 R3 ++ L)) [3, 9, 10] (.q 0 <| .q 1 <| .q 2 <| .q 4 <| .q 5 <| .q 6 <| .q 7 <| .q 8 <| .s1 3 <| .s1 9 <| .s1 10 <| .q 11 .fin) h8 (.cons_cons _ (.cons _ (.cons_cons _ (List.nil_sublist _)))) (by kernel_rfl) (by kernel_rfl) (by kernel_rfl) ?_
            iterate 8
              apply Rd.v_q
              · simp only [List.getElem?_toArray, List.getElem?_cons_zero, List.getElem?_cons_succ]; exact rfl
              · rfl
              · go_simp
              · intro wx hx
                have q0 := hx.cells 0 rfl
                have q1 : wx.cell? ⟨g, 1 + y * 2 + 1, none⟩ = some (.slice AW (R3 (y * 2 + 1)).length cW) := by have := hx.cell 1 rfl (sv_at m vs3 (i := y * 2 + 1) (by omega)); rw [HVW.out] at this; exact this
                unfold atG
                go_simp
                simp only [uponG]
                exact ⟨by trivial, rfl⟩
            refine Rd.v_build (av r) 27 1 (by simp only [List.getElem?_toArray, List.getElem?_cons_zero, List.getElem?_cons_succ]; exact rfl) rfl (by go_simp) (fun wx hx hD => by go_simp) fun gz => ?_
            refine Rd.v_s (fun u wx => Holds w0 wx (pGr u (prodL [r] (R3 (y * 2 + 1)) m (y + 1)) :: pBlk G6 (av r) 27 :: pGr (.slice A' W1.length c') W1 :: pBlk g (sv m vs3) 136 :: (svRows vs3 R3 ++ L))) (fun u _ _ h hb => h.call hb) (by simp only [List.getElem?_toArray, List.getElem?_cons_zero, List.getElem?_cons_succ]; exact rfl) rfl (by go_simp) (fun wx hx hD => ?_) ?_
            · have o1 : (pPl (.slice AW (R3 (y * 2 + 1)).length cW) (R3 (y * 2 + 1))).ok wx := by rw [← HVW.out]; exact hD.at (y * 2 + 1 + 4) (rows_at vs3 R3 L (by omega))
              have o2 : (pPl (.slice (some ⟨gz, 0, none⟩) 1 1) [r]).ok wx := one_row (hD.at 0 rfl)
              have o3 : (pBlk g (sv m vs3) 136).ok wx := hD.at 3 rfl
              have pc := products_any m hm g vs3 _ _ [r] (R3 (y * 2 + 1)) y (by omega) HRL.out (by simp; omega) (by simp) (by omega) wx o3 o2 o1
              go_simp
              simp only [Rd.uponE]
              refine ⟨by trivial, pc.mono ?_⟩
              rintro e w' ⟨v, rfl, hN⟩
              exact ⟨_, rfl, hx.call hN.low, hD.tail.join hN⟩
            rintro u2 -
            refine Rd.v_s (fun u wx => Holds w0 wx (pBlk G6 (av r) 27 :: pGr u (W1 ++ prodL [r] (R3 (y * 2 + 1)) m (y + 1)) :: pBlk g (sv m vs3) 136 :: (svRows vs3 R3 ++ L))) (fun u _ _ h hb => h.call hb) (by simp only [List.getElem?_toArray, List.getElem?_cons_zero, List.getElem?_cons_succ]; exact rfl) rfl (by go_simp) (fun wx hx hD => ?_) ?_
            · exact upon_appGrs hD 2 rfl (hD.at 0 rfl) (by rw [prodL_len, List.length_singleton]; omega) (fun v' w' h2 => ⟨h2.sub (.cons _ (.cons_cons _ (.cons _ (.cons_cons _ (List.nil_sublist _))))), h2.tail⟩) _ _ rfl (by go_simp) (by go_simp)
            rintro u3 -
            iterate 1
              apply Rd.v_q
              · simp only [List.getElem?_toArray, List.getElem?_cons_zero, List.getElem?_cons_succ]; exact rfl
              · rfl
              · go_simp
              · intro wx hx
                have q0 := hx.cells 0 rfl
                unfold atG
                go_simp
                simp only [uponG]
                exact ⟨by trivial, rfl⟩
            rintro w8 - hx8
            have hx9 : Holds w0 w8 (pBlk G6 (av r) 27 :: pGr u3 (W1 ++ prodL [r] (R3 (y * 2 + 1)) m (y + 1)) :: pBlk g (sv m vs3) 136 :: (svRows vs3 R3 ++ L)) := hx8
            clear hx8 h8
            have hpl : (prodL [r] (R3 (y * 2 + 1)) m (y + 1)).length ≤ 257 := by rw [prodL_len, List.length_singleton]; omega
            go_simp
            go_wp2
            go_roundw
            case rel =>
              exact ⟨vs3, R3, _, HKP.out, fun i => by rw [HT3.out]; exact HB3.out i, by have := HT3.out; have := HWl.out; have := HW.out; rw [List.length_append]; omega, hx9.tail⟩
            case measure =>
              obtain ⟨A3, c3, rfl⟩ := hx9.grForm 1 rfl
              have hSv : SvAt w8 g m vs3 R3 := ⟨hx9.at 2 rfl, fun k hk => hx9.at (k + 3) (rows_at vs3 R3 L hk)⟩
              have h256 := HKP.out.tot hm
              have h1 := HT3.out
              have h2 := HWl.out
              show (256 - totW _ g m) * 600 + lenV _ < (256 - totW _ g m) * 600 + lenV _
              rw [HTW.out, totW_eq hSv m hm, h1]
              rw [h1] at h256
              simp only [lenV, List.length_append]
              omega
end Go.Proofs.Ytdoehnckolhloaa

namespace Go.Proofs.Ytdoehnckolhloaa
open Go.RowKit

set_option maxRecDepth 100000 in
set_option maxHeartbeats 2000000 in
theorem order_any (m : Nat) (hm : m ≤ 16) (g : Nat) (vs : Nat → Value) (R : Nat → List (Nat → Nat)) (hO : ∀ k, k ≤ m → wayN (fun k => R (k * 2)) k ≤ 9223372036854775807) (w : World) (hS : SvAt w g m vs R) :
    Calls Try.prog 82 #[.pointer (some ⟨g, 0, none⟩)] w fun e w' => e = .returned (.int .i64 (wayN (fun k => R (k * 2)) m)) ∧ Below w.heap.size w w' := by
  have HS := hide hS; clear hS
  have HO := hide hO; clear hO
  have n0 := HS.out.cell (sv_n m vs)
  have hg := lt_of_some HS.out.1
  have HST := hide fun k => (show wayN (fun k => R (k * 2)) (k + 1) = wayN (fun k => R (k * 2)) k * (R (k * 2)).length from rfl)
  have HS0 := hide (show wayN (fun k => R (k * 2)) 0 = 1 from rfl)
  generalize wayN (fun k => R (k * 2)) = F at *
  have HH := Holds.start w
  go_enter Try.func82, Try.ntmps82
  go_wp2
  have nS : ∀ wx, Holds w wx [] → wx.cell? ⟨g, 0, none⟩ = some (.int .i64 m) := fun wx hx => (HS.out.below hx.low).cell (sv_n m vs)
  have NS := hide nS; clear nS n0
  have hm' : (m : Int) ≤ 16 := by omega
  refine Rd.region_P (w0 := w) [] [] [] (.q 0 <| .q 1 <| .q 2 <| .q 3 <| .q 4 <| .q 5 <| .q 6 <| .q 7 <| .q 8 <| .q 9 .fin) HH (.refl _) (by kernel_rfl) (by kernel_rfl) (by kernel_rfl) ?_
  iterate 10
    apply Rd.v_q
    · simp only [List.getElem?_toArray, List.getElem?_cons_zero, List.getElem?_cons_succ]; exact rfl
    · rfl
    · go_simp
    · intro wx hx
      have q3 := NS.out wx hx
      unfold atG
      go_simp
      simp only [uponG]
      exact ⟨by trivial, rfl⟩
  rintro w1 - H1
  clear HH
  go_simp
  go_wp2
  go_loopw [3, 15] (fun s t wr => ∃ x : Nat, x ≤ m ∧ t = .int .i64 x ∧ s = .int .i64 (F x) ∧ Holds w wr []) (fun _ t _ => m - (intOf t).toNat)
  case atStart => exact ⟨0, by omega, rfl, by rw [HS0.out]; rfl, H1⟩
  case round =>
    clear H1
    obtain ⟨x, hx, rfl, rfl, hH⟩ := hrel
    by_cases hxm : x < m
    · have hSr := HS.out.below hH.low
      have hx16 : (x : Int) < 16 := by omega
      have hxm' : (x : Int) < m := by omega
      obtain ⟨A, c, hv⟩ := hSr.form (i := x * 2) (by omega)
      obtain ⟨A2, c2, hv2⟩ := hSr.form (i := x * 2 + 1) (by omega)
      have x1 := hSr.cell (sv_at m vs (i := x * 2) (by omega))
      have x2 := hSr.cell (sv_at m vs (i := x * 2 + 1) (by omega))
      rw [hv] at x1
      rw [hv2, show 1 + (x * 2 + 1) = 1 + x * 2 + 1 by omega] at x2
      have hst := HST.out x
      have hlt := HO.out (x + 1) (by omega)
      rw [hst] at hlt
      generalize (R (x * 2)).length = n at *
      generalize (R (x * 2 + 1)).length = n2 at *
      generalize hFx : F x = y at *
      have HSF := hide hst; clear hst hSr hFx
      have hwr : IntKind.i64.wrap ((y : Int) * (n : Int)) = ((y * n : Nat) : Int) := by
        rw [IntKind.wrap_i64, ← Int.natCast_mul]; omega
      have H2 := hH.blk #[.slice A n c, .slice A2 n2 c2] 133 wr.heap.size rfl
      go_wp2
      clear x1 x2
      go_roundw
      case rel => exact ⟨x + 1, by omega, by go_num, by rw [HSF.out, Int.natCast_mul], H2.tail⟩
      case measure => simp [intOf]; omega
    · obtain ⟨X, hX⟩ : ∃ X, X = m := ⟨_, rfl⟩
      obtain rfl : X = x := by omega
      rw [← hX]
      clear hxm hx
      go_wp2
      go_ret
      exact ⟨by rw [← hX]; rfl, hH.low⟩
end Go.Proofs.Ytdoehnckolhloaa

namespace Go.Proofs.Ytdoehnckolhloaa
open Go.RowKit

set_option maxRecDepth 100000 in
set_option maxHeartbeats 1000000 in
theorem has_any (m : Nat) (hm : m ≤ 16) (g : Nat) (vs : Nat → Value) (R : Nat → List (Nat → Nat)) (hU : ∀ k, k < m → ∀ u ∈ R (k * 2), PermN u m) (hRl : ∀ i, (R i).length ≤ 100000) (p : Nat → Nat) (hp : PermN p m) (w : World) (hS : SvAt w g m vs R) :
    Calls Try.prog 114 #[.pointer (some ⟨g, 0, none⟩), .agg (av p)] w fun e w' => e = .returned (.bool (decide ((sift (fun k => R (k * 2)) m m p).2 = m))) ∧ Below w.heap.size w w' := by
  have H1 := (Holds.start w).blk (av p) 27 w.heap.size rfl
  have cs := sift_any m hm g vs R hU hRl p hp (w.alloc (.cells (av p) 27)) (hS.below H1.low)
  have HS := hide hS; clear hS hU hRl hp
  obtain ⟨⟨r, y⟩, hsf⟩ : ∃ ry, sift (fun k => R (k * 2)) m m p = ry := ⟨_, rfl⟩
  rw [hsf] at cs ⊢
  simp only at cs ⊢
  clear hsf
  have CS := hide cs; clear cs
  go_enter Try.func114, Try.ntmps114
  go_wp2_with fail
  refine CS.out.mono ?_
  rintro e w3 ⟨rfl, hb⟩
  have H3 := (H1.call hb).blk (av r) 27 w3.heap.size rfl
  have n0 := (HS.out.below H3.low).cell (sv_n m vs)
  have hbe : ((y : Int) == (m : Int)) = decide (y = m) := by
    by_cases c : y = m
    · rw [decide_eq_true c, beq_iff_eq]; omega
    · rw [decide_eq_false c, beq_eq_false_iff_ne]; omega
  go_wp2
  go_ret
  exact ⟨by simp [hbe], H3.low⟩

theorem upto_in {f : Nat → Nat} {k x : Nat} (h : x < k) : upto f k x = f x := by unfold upto; rw [if_pos h]
theorem upto_past {f : Nat → Nat} {k x : Nat} (h : k ≤ x) : upto f k x = 0 := by unfold upto; rw [if_neg (by omega)]
theorem sameF_perm {m : Nat} (h1 : 1 ≤ m) (hm : m ≤ 16) : PermN (sameF m) m := by
  refine ⟨h1, hm, ⟨fun x hx => ?_, fun x y hx hy e => ?_⟩, fun i hi _ => upto_past hi⟩
  · unfold sameF; rw [upto_in hx]; exact hx
  · unfold sameF at e; rwa [upto_in hx, upto_in hy] at e
theorem sInv_start (m : Nat) (hm : m ≤ 16) (S : (Nat → Nat) → Prop) : SInv m (Gen m S) (fun _ => False) (Uf (R0 m m)) (Mf (R0 m m)) [] where
  way k hk u hu := by
    have e : Uf (R0 m m) k = [sameF m] := by unfold Uf R0; rw [if_pos (by omega)]
    rw [e, List.mem_singleton] at hu; subst hu
    exact ⟨sameF_perm (by omega) hm, fun x hx => upto_in (by omega), .one fun x hx => upto_in hx⟩
  one k hk := ⟨sameF m, by unfold Uf R0; rw [if_pos (by omega)]; simp, fun x hx => upto_in hx⟩
  mks k hk s hs := by unfold Mf R0 at hs; rw [if_neg (by omega)] at hs; cases hs
  down k hk s hs := by unfold Mf R0 at hs; rw [if_neg (by omega)] at hs; cases hs
  dist k hk := by unfold Uf R0; rw [if_pos (by omega)]; simp
  prod k hk u hu s hs := by unfold Mf R0 at hs; rw [if_neg (by omega)] at hs; cases hs
  grain w hw := by cases hw
  top s hs := by unfold Mf R0 at hs; rw [if_neg (by omega)] at hs; cases hs
  goal g hg := hg.elim
theorem R0_tot (m : Nat) : ∀ x, x ≤ m → totN (R0 m m) x = x
  | 0, _ => rfl
  | x + 1, hx => by rw [totN, R0_tot m x (by omega)]; unfold R0; rw [if_pos (by omega)]; rfl
theorem R0_len (m : Nat) (hm : 0 < m) (i : Nat) : (R0 m m i).length ≤ totN (R0 m m) m := by
  rw [R0_tot m m (Nat.le_refl _)]
  unfold R0
  split
  · simp; omega
  · simp
/-- the two permutations of a dessin -/
def Two (f g : Nat → Nat) : (Nat → Nat) → Prop := fun s => s = f ∨ s = g

set_option maxRecDepth 100000 in
set_option maxHeartbeats 1000000 in
theorem groupOf_any (f h : Nat → Nat) (m : Nat) (hd : DesN f h m) (w : World) :
    Calls Try.prog 81 #[.agg (dv m f h)] w fun e w' => ∃ g vs R, e = .returned (.pointer (some ⟨g, 0, none⟩)) ∧ Holds w w' (pBlk g (sv m vs) 136 :: svRows vs R) ∧ SInv m (Gen m (Two f h)) (Two f h) (Uf R) (Mf R) [] ∧ ∀ i, (R i).length ≤ totN R m := by
  have hm := hd.le
  have hb := hd.black
  have hw := hd.white
  have hS : ∀ s, Two f h s → Bij s m := by
    rintro s (rfl | rfl)
    · exact hb.2.2.1
    · exact hw.2.2.1
  have H1 := (Holds.start w).blk (dv m f h) 29 w.heap.size rfl
  have C1 := hide fun w => emptySieve_any m hm w
  have n0 := H1.cell 0 rfl (dv_n m f h)
  have C2 := hide (add_any m hm)
  have R0L := hide (R0_len m hd.pos)
  have HS := hide hS; clear hS
  have HB := hide hb; clear hb
  have HW := hide hw; clear hw
  clear hd
  go_enter Try.func81, Try.ntmps81
  go_wp2_with fail
  refine (C1.out _).mono ?_
  rintro e w1 ⟨g, vs0, rfl, hN⟩
  have H2 := H1.join hN
  clear n0 H1 hN
  have d1 : cellsOf w1 w.heap.size = dv m f h := H2.cells 33 (by rw [List.getElem?_append_right (by simp [svRows_length]), List.length_cons, svRows_length]; rfl)
  go_wp2_with fail
  refine (C2.out g vs0 (R0 m m) (Two f h) (fun _ => False) HS.out (sInv_start m hm _) R0L.out f HB.out (.of (.inl rfl)) w w1 [pBlk w.heap.size (dv m f h) 29] H2).mono ?_
  rintro e w2 ⟨⟨v2, rfl⟩, vs1, R1, H3, hI1, hB1⟩
  clear d1 H2
  have d2 : cellsOf w2 w.heap.size = dv m f h := H3.cells 33 (by rw [← List.cons_append, List.getElem?_append_right (by simp [svRows_length]), List.length_cons, svRows_length]; rfl)
  go_wp2_with fail
  refine (C2.out g vs1 R1 (Two f h) _ HS.out hI1 hB1 h HW.out (.of (.inr rfl)) w w2 [pBlk w.heap.size (dv m f h) 29] H3).mono ?_
  rintro e w3 ⟨⟨v3, rfl⟩, vs2, R2, H4, hI2, hB2⟩
  clear d2 H3
  go_wp2
  go_ret
  refine ⟨g, vs2, R2, rfl, H4.sub (List.Sublist.cons_cons _ (List.sublist_append_left _ _)), ?_, hB2⟩
  have e : (fun q => (False ∨ q = f) ∨ q = h) = Two f h := by funext q; unfold Two; simp
  rw [e] at hI2
  exact hI2
end Go.Proofs.Ytdoehnckolhloaa

namespace Go.Proofs.Ytdoehnckolhloaa
open Go.RowKit

@[irreducible] def chv (n : Nat) (G : Nat → Value) (H : Nat → Bool) (B : Nat → Nat) : Array Value :=
  row 4369 fun i => if i = 0 then .int .i64 n else if i < 17 then G (i - 1) else if i < 273 then .bool (H (i - 17)) else .int .u8 (B (i - 273))
theorem chv_size (n : Nat) (G : Nat → Value) (H : Nat → Bool) (B : Nat → Nat) : (chv n G H B).size = 4369 := by unfold chv; exact row_size _ _
theorem chv_n (n : Nat) (G : Nat → Value) (H : Nat → Bool) (B : Nat → Nat) : (chv n G H B)[0]? = some (.int .i64 n) := by unfold chv; rw [row_get _ _ (by omega)]; rfl
theorem chv_gens (n : Nat) (G : Nat → Value) (H : Nat → Bool) (B : Nat → Nat) {k : Nat} (hk : k < 16) : (chv n G H B)[1 + k]? = some (G k) := by
  unfold chv
  rw [row_get _ _ (by omega), if_neg (by omega), if_pos (by omega), show 1 + k - 1 = k by omega]
theorem chv_has (n : Nat) (G : Nat → Value) (H : Nat → Bool) (B : Nat → Nat) {j : Nat} (hj : j < 256) : (chv n G H B)[17 + j]? = some (.bool (H j)) := by
  unfold chv
  rw [row_get _ _ (by omega), if_neg (by omega), if_neg (by omega), if_pos (by omega), show 17 + j - 17 = j by omega]
theorem chv_at (n : Nat) (G : Nat → Value) (H : Nat → Bool) (B : Nat → Nat) {j : Nat} (hj : j < 4096) : (chv n G H B)[273 + j]? = some (.int .u8 (B j)) := by
  unfold chv
  rw [row_get _ _ (by omega), if_neg (by omega), if_neg (by omega), if_neg (by omega), show 273 + j - 273 = j by omega]
/-- one way, as it lies in the block -/
theorem chv_by (n : Nat) (G : Nat → Value) (H : Nat → Bool) (B : Nat → Nat) {j : Nat} (hj : j < 256) : (chv n G H B).extract (273 + j * 16) (273 + j * 16 + 16) = av fun i => B (j * 16 + i) := by
  apply Array.ext_getElem?
  intro i
  rw [Array.getElem?_extract, chv_size]
  by_cases c : i < 16
  · rw [if_pos (by omega), av_get _ c, show 273 + j * 16 + i = 273 + (j * 16 + i) by omega, chv_at n G H B (by omega)]
  · rw [if_neg (by omega), Array.getElem?_eq_none (by rw [av_size]; omega)]
def hset (H : Nat → Bool) (j : Nat) (b : Bool) : Nat → Bool := fun i => if i = j then b else H i
def bset (B : Nat → Nat) (j : Nat) (p : Nat → Nat) : Nat → Nat := fun i => if j * 16 ≤ i ∧ i < j * 16 + 16 then p (i - j * 16) else B i
theorem chv_setHas (n : Nat) (G : Nat → Value) (H : Nat → Bool) (B : Nat → Nat) {j : Nat} (hj : j < 256) (b : Bool) : (chv n G H B).setIfInBounds (17 + j) (.bool b) = chv n G (hset H j b) B := by
  unfold chv
  rw [row_set]
  apply row_congr
  intro i _
  unfold hset
  by_cases c : i = 17 + j
  · subst c; rw [if_pos rfl, if_neg (by omega), if_neg (by omega), if_pos (by omega), if_pos (by omega)]
  · rw [if_neg c]
    by_cases d : 17 ≤ i ∧ i < 273
    · rw [if_neg (by omega), if_neg (by omega), if_pos (by omega), if_neg (by omega), if_neg (by omega), if_pos (by omega), if_neg (by omega)]
    · by_cases e : i = 0
      · rw [if_pos e, if_pos e]
      · rw [if_neg e, if_neg e]
        by_cases f : i < 17
        · rw [if_pos f, if_pos f]
        · rw [if_neg f, if_neg f, if_neg (by omega), if_neg (by omega)]
theorem chv_setGens (n : Nat) (G : Nat → Value) (H : Nat → Bool) (B : Nat → Nat) {k : Nat} (hk : k < 16) (v : Value) : (chv n G H B).setIfInBounds (1 + k) v = chv n (vset G k v) H B := by
  unfold chv
  rw [row_set]
  apply row_congr
  intro i _
  unfold vset
  by_cases c : i = 1 + k
  · subst c; rw [if_pos rfl, if_neg (by omega), if_pos (by omega), if_pos (by omega)]
  · rw [if_neg c]
    by_cases e : i = 0
    · rw [if_pos e, if_pos e]
    · rw [if_neg e, if_neg e]
      by_cases f : i < 17
      · rw [if_pos f, if_pos f, if_neg (by omega)]
      · rw [if_neg f, if_neg f]
set_option maxRecDepth 100000 in
theorem chv_zero : (Try.prog.info? 155).map (·.zero) = some (some (.agg (chv 0 (fun _ => .slice none 0 0) (fun _ => false) (fun _ => 0)))) := by kernel_rfl
end Go.Proofs.Ytdoehnckolhloaa
