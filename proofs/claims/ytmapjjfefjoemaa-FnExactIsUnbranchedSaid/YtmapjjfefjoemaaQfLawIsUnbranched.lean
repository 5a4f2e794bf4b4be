/- Texts put together: Join, JoinW, Nam, SNam, ToPl, EqPl, ToDs, NamOf, Blk, SBlk, CellR, Which, Prj, Same, SameD, Ren, QuoM, Vlk, Trp, Trs -/
import Derived.Test.YtmapjjfefjoemaaQeLawIsUnbranched
import Derived.Test.YtmapjjfefjoemaaChecked
import Derived.WalkKit
import Derived.WalkSpells
import Derived.WalkLawsBesides
import Derived.Deep.LoopGhost
import Derived.Deep.OwnRows
import Derived.Laws.Rows
import Derived.Laws.Tables
import Derived.Laws.CopyOwn
import Derived.ProofKit
import Derived.OpenShut
import Derived.ShutString
import Derived.ChangeOld
import Derived.Below
import Derived.Laws.OwnMore
import Derived.BigQuiet
import Derived.Deep.QuietTactic
import Derived.OwnWalk
import Derived.ChangeSlices
import Derived.RegionTactic
import Derived.Deep.Quiet
import Derived.StillTail
import Derived.Deep.Slices
import Derived.WideShapes
import Derived.Laws.CopyRow
import Derived.Deep.MidRow
import Derived.Deep.RegionWith
import Derived.ChangeKeysEq
import Derived.StillTailTactics
import Derived.Deep.RegionHeld3
import Derived.DataElems
import Derived.Laws.Cover3
import Derived.IntWalk
import Derived.Laws.StructEq
namespace Go.Proofs.Ytmapjjfefjoemaa

/-- what is to be joined, and the number of each dart's set -/
abbrev JS := List (Nat × Nat) × (Nat → Nat)
def jst (mg : (Nat → Nat) → Nat → Nat → Nat → Nat) (f g : Nat → Nat) (S : JS) (k : Nat) : JS :=
  match S.1[k]? with
  | none => S
  | some p => if S.2 p.1 = S.2 p.2 then S else (S.1 ++ [(f p.1, f p.2), (g p.1, g p.2)], mg S.2 p.1 p.2)
def jrun (mg : (Nat → Nat) → Nat → Nat → Nat → Nat) (f g : Nat → Nat) (S0 : JS) : Nat → JS
  | 0 => S0
  | k + 1 => jst mg f g (jrun mg f g S0 k) k
/-- the least number for both sets -/
def mgI (m : Nat) (c : Nat → Nat) (a b : Nat) : Nat → Nat := fun i => if i < m ∧ (c i = c a ∨ c i = c b) then min (c a) (c b) else c i
/-- the first one's number for both sets -/
def mgS (m : Nat) (c : Nat → Nat) (a b : Nat) : Nat → Nat := fun i => if i < m ∧ c i = c b then c a else c i
/-- the darts that are numbers of sets -/
def reps (c : Nat → Nat) (m : Nat) : List Nat := (List.range m).filter fun i => c i == i
structure JInv (m B : Nat) (S : JS) : Prop where
  lt : ∀ p ∈ S.1, p.1 < m ∧ p.2 < m
  num : ∀ i, i < m → S.2 i < m ∧ S.2 (S.2 i) = S.2 i
  far : ∀ i, ¬ i < m → S.2 i = 0
  len : S.1.length + 2 * (reps S.2 m).length ≤ B

theorem filter_lt {l : List Nat} {p q : Nat → Bool} (h : ∀ x ∈ l, p x = true → q x = true) {y : Nat} (hy : y ∈ l) (h1 : q y = true) (h2 : p y = false) : (l.filter p).length + 1 ≤ (l.filter q).length := by
  induction l with
  | nil => cases hy
  | cons x l ih =>
    have hl : (l.filter p).length ≤ (l.filter q).length := by
      have : ∀ l' : List Nat, (∀ x ∈ l', p x = true → q x = true) → (l'.filter p).length ≤ (l'.filter q).length := by
        intro l' h'
        induction l' with
        | nil => simp
        | cons z l' ih' =>
          have := ih' fun x hx => h' x (by simp [hx])
          have hz := h' z (by simp)
          rcases hp : p z with _ | _ <;> rcases hq : q z with _ | _ <;> simp_all <;> omega
      exact this l fun x hx => h x (by simp [hx])
    rcases List.mem_cons.1 hy with rfl | hy
    · simp [h1, h2]; omega
    · have := ih (fun x hx => h x (by simp [hx])) hy
      have hx := h x (by simp)
      rcases hp : p x with _ | _ <;> rcases hq : q x with _ | _ <;> simp_all <;> omega
/-- how a merging is to behave -/
structure Mg (m : Nat) (mg : (Nat → Nat) → Nat → Nat → Nat → Nat) : Prop where
  num : ∀ c a b, a < m → b < m → c a ≠ c b → (∀ i, i < m → c i < m ∧ c (c i) = c i) → ∀ i, i < m → mg c a b i < m ∧ mg c a b (mg c a b i) = mg c a b i
  far : ∀ c a b i, ¬ i < m → mg c a b i = c i
  rep : ∀ c a b, a < m → b < m → c a ≠ c b → (∀ i, i < m → c i < m ∧ c (c i) = c i) → (∀ i, i < m → mg c a b i = i → c i = i) ∧ ∃ y, y < m ∧ c y = y ∧ mg c a b y ≠ y
  ker : ∀ c a b, a < m → b < m → ∀ i j, i < m → j < m → (mg c a b i = mg c a b j ↔ c i = c j ∨ (c i = c a ∧ c j = c b) ∨ (c i = c b ∧ c j = c a))
theorem mgS_ok (m : Nat) : Mg m (mgS m) where
  num c a b ha hb hne hc i hi := by
    have h1 := hc i hi
    have h2 := hc a ha
    unfold mgS
    by_cases e : c i = c b
    · rw [if_pos ⟨hi, e⟩]
      refine ⟨h2.1, ?_⟩
      by_cases e2 : c (c a) = c b
      · rw [if_pos ⟨h2.1, e2⟩]
      · rw [if_neg (fun k => e2 k.2)]; exact h2.2
    · rw [if_neg (fun k => e k.2)]
      refine ⟨h1.1, ?_⟩
      rw [if_neg (fun k => e (by rw [← h1.2]; exact k.2))]
      exact h1.2
  far c a b i hi := by unfold mgS; rw [if_neg (fun k => hi k.1)]
  rep c a b ha hb hne hc := by
    refine ⟨fun i hi h => ?_, c b, (hc b hb).1, (hc b hb).2, ?_⟩
    · unfold mgS at h
      by_cases e : c i = c b
      · rw [if_pos ⟨hi, e⟩] at h
        have := (hc a ha).2
        rw [h] at this
        rw [this] at e
        omega
      · rw [if_neg (fun k => e k.2)] at h; exact h
    · unfold mgS
      rw [if_pos ⟨(hc b hb).1, (hc b hb).2⟩]
      exact hne
  ker c a b ha hb i j hi hj := by
    unfold mgS
    by_cases e1 : c i = c b <;> by_cases e2 : c j = c b <;> simp [hi, hj, e1, e2] <;> omega
theorem mgI_ok (m : Nat) : Mg m (mgI m) where
  num c a b ha hb hne hc i hi := by
    have h1 := hc i hi
    have h2 := hc a ha
    have h3 := hc b hb
    unfold mgI
    by_cases e : c i = c a ∨ c i = c b
    · rw [if_pos ⟨hi, e⟩]
      have hm : min (c a) (c b) < m := by omega
      refine ⟨hm, ?_⟩
      rcases Nat.le_total (c a) (c b) with k | k
      · rw [Nat.min_eq_left k, if_pos ⟨h2.1, .inl h2.2⟩]
      · rw [Nat.min_eq_right k, if_pos ⟨h3.1, .inr h3.2⟩]
    · rw [if_neg (fun k => e k.2)]
      refine ⟨h1.1, ?_⟩
      rw [if_neg (fun k => e (by rw [← h1.2]; exact k.2))]
      exact h1.2
  far c a b i hi := by unfold mgI; rw [if_neg (fun k => hi k.1)]
  rep c a b ha hb hne hc := by
    refine ⟨fun i hi h => ?_, max (c a) (c b), ?_, ?_, ?_⟩
    · unfold mgI at h
      by_cases e : c i = c a ∨ c i = c b
      · rw [if_pos ⟨hi, e⟩] at h
        have h2 := hc a ha
        have h3 := hc b hb
        rcases Nat.le_total (c a) (c b) with k | k
        · rw [Nat.min_eq_left k] at h; rw [← h]; exact h2.2
        · rw [Nat.min_eq_right k] at h; rw [← h]; exact h3.2
      · rw [if_neg (fun k => e k.2)] at h; exact h
    · have := (hc a ha).1; have := (hc b hb).1; omega
    · rcases Nat.le_total (c a) (c b) with k | k
      · rw [Nat.max_eq_right k]; exact (hc b hb).2
      · rw [Nat.max_eq_left k]; exact (hc a ha).2
    · unfold mgI
      have h2 := hc a ha
      have h3 := hc b hb
      rcases Nat.le_total (c a) (c b) with k | k
      · rw [Nat.max_eq_right k, if_pos ⟨h3.1, .inr h3.2⟩, Nat.min_eq_left k]; exact hne
      · rw [Nat.max_eq_left k, if_pos ⟨h2.1, .inl h2.2⟩, Nat.min_eq_right k]; exact Ne.symm hne
  ker c a b ha hb i j hi hj := by
    unfold mgI
    by_cases e1 : c i = c a ∨ c i = c b <;> by_cases e2 : c j = c a ∨ c j = c b <;> simp [hi, hj, e1, e2] <;> omega

theorem jst_inv {mg : (Nat → Nat) → Nat → Nat → Nat → Nat} {m B : Nat} (hm : Mg m mg) {f g : Nat → Nat} (hf : ∀ i, i < m → f i < m) (hg : ∀ i, i < m → g i < m) {S : JS} (h : JInv m B S) (k : Nat) : JInv m B (jst mg f g S k) := by
  unfold jst
  split
  · exact h
  · rename_i p hp
    split
    · exact h
    · rename_i hne
      have hpl := h.lt p (List.mem_of_getElem? hp)
      refine ⟨fun q hq => ?_, hm.num _ _ _ hpl.1 hpl.2 hne h.num, fun i hi => (hm.far _ _ _ _ hi).trans (h.far i hi), ?_⟩
      · rcases List.mem_append.1 hq with c | c
        · exact h.lt q c
        · rcases List.mem_cons.1 c with rfl | c
          · exact ⟨hf _ hpl.1, hf _ hpl.2⟩
          · rw [List.mem_singleton.1 c]; exact ⟨hg _ hpl.1, hg _ hpl.2⟩
      · obtain ⟨k1, y, hy, k2, k3⟩ := hm.rep S.2 p.1 p.2 hpl.1 hpl.2 hne h.num
        have := filter_lt (l := List.range m) (p := fun i => mg S.2 p.1 p.2 i == i) (q := fun i => S.2 i == i) (fun x hx he => by
          simp only [beq_iff_eq] at he ⊢; exact k1 x (List.mem_range.1 hx) he) (List.mem_range.2 hy) (by simpa using k2) (by simpa using k3)
        have hl := h.len
        unfold reps at *
        simp only [List.length_append, List.length_cons, List.length_nil] at *
        omega
theorem jrun_inv {mg : (Nat → Nat) → Nat → Nat → Nat → Nat} {m B : Nat} (hm : Mg m mg) {f g : Nat → Nat} (hf : ∀ i, i < m → f i < m) (hg : ∀ i, i < m → g i < m) {S0 : JS} (h : JInv m B S0) (k : Nat) : JInv m B (jrun mg f g S0 k) := by
  induction k with
  | zero => exact h
  | succ k ih => exact jst_inv hm hf hg ih k
theorem jrun_stop {mg : (Nat → Nat) → Nat → Nat → Nat → Nat} {f g : Nat → Nat} {S0 : JS} {i : Nat} (h : (jrun mg f g S0 i).1.length ≤ i) {j : Nat} (hj : i ≤ j) : jrun mg f g S0 j = jrun mg f g S0 i := by
  obtain ⟨d, rfl⟩ := Nat.exists_eq_add_of_le hj
  clear hj
  induction d with
  | zero => rfl
  | succ d ih => rw [← Nat.add_assoc, jrun, ih, jst, List.getElem?_eq_none (by omega)]
def sameN (m : Nat) : Nat → Nat := fun i => if i < m then i else 0
theorem JInv.start {m : Nat} (q : List (Nat × Nat)) (hq : ∀ p ∈ q, p.1 < m ∧ p.2 < m) : JInv m (q.length + 2 * m) (q, sameN m) where
  lt := hq
  num i hi := by
    have : sameN m i = i := by unfold sameN; rw [if_pos hi]
    show sameN m i < m ∧ sameN m (sameN m i) = sameN m i
    rw [this, this]; exact ⟨hi, rfl⟩
  far i hi := by show sameN m i = 0; unfold sameN; rw [if_neg hi]
  len := by
    have : (reps (sameN m) m).length ≤ m := by unfold reps; have := List.length_filter_le (fun i => sameN m i == i) (List.range m); simpa using this
    show q.length + 2 * (reps (sameN m) m).length ≤ _
    omega
/-- two runs whose sets are the same, the one an entry behind -/
theorem jrun_two {m : Nat} {mg mg' : (Nat → Nat) → Nat → Nat → Nat → Nat} (hm : Mg m mg) (hm' : Mg m mg') {f g : Nat → Nat} (hf : ∀ i, i < m → f i < m) (hg : ∀ i, i < m → g i < m) {x y : Nat} (hx : x < m) (hy : y < m) (k : Nat) :
    (jrun mg f g ([(x, x), (x, y)], sameN m) (k + 1)).1 = (x, x) :: (jrun mg' f g ([(x, y)], sameN m) k).1 ∧
      ∀ i j, i < m → j < m → ((jrun mg f g ([(x, x), (x, y)], sameN m) (k + 1)).2 i = (jrun mg f g ([(x, x), (x, y)], sameN m) (k + 1)).2 j ↔ (jrun mg' f g ([(x, y)], sameN m) k).2 i = (jrun mg' f g ([(x, y)], sameN m) k).2 j) := by
  induction k with
  | zero =>
    have e : jrun mg f g ([(x, x), (x, y)], sameN m) 1 = ([(x, x), (x, y)], sameN m) := by simp [jrun, jst]
    rw [e]
    exact ⟨rfl, fun _ _ _ _ => Iff.rfl⟩
  | succ k ih =>
    have I' := jrun_inv hm' hf hg (JInv.start [(x, y)] (by simpa using ⟨hx, hy⟩)) k
    rw [jrun]
    rw [show jrun mg' f g ([(x, y)], sameN m) (k + 1) = jst mg' f g (jrun mg' f g ([(x, y)], sameN m) k) k from rfl]
    generalize jrun mg f g ([(x, x), (x, y)], sameN m) (k + 1) = S at *
    generalize jrun mg' f g ([(x, y)], sameN m) k = S' at *
    obtain ⟨h1, h2⟩ := ih
    unfold jst
    rw [h1, List.getElem?_cons_succ]
    rcases hp : S'.1[k]? with _ | p
    · exact ⟨h1, h2⟩
    · have hpl := I'.lt p (List.mem_of_getElem? hp)
      by_cases e : S'.2 p.1 = S'.2 p.2
      · have e' := (h2 _ _ hpl.1 hpl.2).2 e
        simp only [e, e', if_true]
        exact ⟨h1, h2⟩
      · have e' : ¬ S.2 p.1 = S.2 p.2 := fun k => e ((h2 _ _ hpl.1 hpl.2).1 k)
        simp only [e, e', if_false]
        refine ⟨rfl, fun i j hi hj => ?_⟩
        rw [hm.ker _ _ _ hpl.1 hpl.2 i j hi hj, hm'.ker _ _ _ hpl.1 hpl.2 i j hi hj, h2 i j hi hj, h2 i _ hi hpl.1, h2 j _ hj hpl.2, h2 i _ hi hpl.2, h2 j _ hj hpl.1]
end Go.Proofs.Ytmapjjfefjoemaa

namespace Go.Proofs.Ytmapjjfefjoemaa
open Go.RowKit

def ints (l : List Nat) : List Int := l.map fun (x : Nat) => (x : Int)
theorem ints_length (l : List Nat) : (ints l).length = l.length := by unfold ints; simp
theorem RdZ.nat {w : World} {A : Option Addr} {n c k : Nat} {l : List Nat} (h : RdZ w (.slice A n c) (ints l)) (hk : k < l.length) :
    ∃ a, A = some a ∧ a.block < w.heap.size ∧ w.cell? (a.add k) = some (.int .i64 (l[k] : Nat)) := by
  obtain ⟨a, h1, h2, h3⟩ := h.at (k := k) (by rw [ints_length]; exact hk)
  refine ⟨a, h1, h2, ?_⟩
  rw [h3]
  simp [ints]
theorem RdZ.nat0 {w : World} {A : Option Addr} {n c : Nat} {l : List Nat} (h : RdZ w (.slice A n c) (ints l)) (hk : 0 < l.length) : ∃ a, A = some a ∧ a.block < w.heap.size ∧ w.cell? a = some (.int .i64 (l[0] : Nat)) := by
  obtain ⟨a, h1, h2, h3⟩ := h.nat hk
  refine ⟨a, h1, h2, ?_⟩
  rw [← h3]
  rfl
theorem sameF_N (m : Nat) : sameF m = sameN m := rfl
/-- what is to be joined at first -/
def joinQ (l : List Nat) (x : Nat) : List (Nat × Nat) := l.map fun y => (x, y)
theorem joinQ_succ (l : List Nat) (x : Nat) {k : Nat} (hk : k < l.length) : joinQ (l.take k) x ++ [(x, l[k])] = joinQ (l.take (k + 1)) x := by
  unfold joinQ; rw [List.take_succ_eq_append_getElem hk, List.map_append]; rfl
theorem joinQ_length (l : List Nat) (x : Nat) : (joinQ l x).length = l.length := by unfold joinQ; simp

/-- the merging, j darts on -/
def mgP (j : Nat) (c : Nat → Nat) (a b : Nat) : Nat → Nat := fun i => if i < j ∧ (c i = c a ∨ c i = c b) then min (c a) (c b) else c i
theorem mgP_all (m : Nat) (c : Nat → Nat) (a b : Nat) : mgP m c a b = mgI m c a b := rfl
theorem mgP_zero (c : Nat → Nat) (a b : Nat) : mgP 0 c a b = c := by funext i; simp [mgP]
theorem mgP_at (j : Nat) (c : Nat → Nat) (a b : Nat) : mgP j c a b j = c j := by simp [mgP]
theorem mgP_yes {j : Nat} {c : Nat → Nat} {a b : Nat} (h : c j = c a ∨ c j = c b) : fset (mgP j c a b) j (min (c a) (c b)) = mgP (j + 1) c a b := by
  funext i
  unfold fset mgP
  by_cases e : i = j
  · subst e; simp [h]
  · have : i < j + 1 ↔ i < j := by omega
    simp [e, this]
theorem mgP_no {j : Nat} {c : Nat → Nat} {a b : Nat} (h : ¬ (c j = c a ∨ c j = c b)) : mgP j c a b = mgP (j + 1) c a b := by
  funext i
  unfold mgP
  by_cases e : i = j
  · subst e; simp [h]
  · have : i < j + 1 ↔ i < j := by omega
    simp [this]
theorem min_cast (a b : Nat) : (if b < a then ((b : Nat) : Int) else ((a : Nat) : Int)) = ((min a b : Nat) : Int) := by split <;> omega
theorem cast_beq {a b : Nat} (h : a = b) : (((a : Nat) : Int) == ((b : Nat) : Int)) = true := by simp [h]
theorem cast_bne {a b : Nat} (h : ¬ a = b) : (((a : Nat) : Int) == ((b : Nat) : Int)) = false := by simp; omega

@[irreducible] def joinR (f g : Nat → Nat) (m : Nat) (l : List Nat) (x : Nat) : Nat → Nat := (jrun (mgI m) f g (joinQ l x, sameN m) 64).2
theorem join_fact (f g : Nat → Nat) (m : Nat) (hf : ∀ i, i < m → f i < m) (hg : ∀ i, i < m → g i < m) (l : List Nat) (x : Nat) (hl16 : l.length ≤ 16) (hxm : x < m) (hlt : ∀ y ∈ l, y < m) (hm : m ≤ 16 := by omega) :
    ∃ F : Nat → JS, (∀ k, JInv m 48 (F k)) ∧ F 0 = (joinQ l x, sameN m) ∧ (∀ k, F (k + 1) = jst (mgI m) f g (F k) k) ∧ (∀ k, k ≤ 64 → (F k).1.length ≤ k → joinR f g m l x = (F k).2) := by
  refine ⟨jrun (mgI m) f g (joinQ l x, sameN m), fun k => ?_, rfl, fun k => rfl, fun k h1 h2 => ?_⟩
  · have := jrun_inv (mgI_ok m) hf hg (JInv.start (joinQ l x) (fun p hp => by
      unfold joinQ at hp
      obtain ⟨y, hy, rfl⟩ := List.mem_map.1 hp
      exact ⟨hxm, hlt y hy⟩)) k
    refine ⟨this.lt, this.num, this.far, Nat.le_trans this.len ?_⟩
    rw [joinQ_length]; omega
  · unfold joinR
    generalize 64 = K at *
    rw [jrun_stop h2 h1]

-- left out here: loop.example/g01200/impl.joinedSets
end Go.Proofs.Ytmapjjfefjoemaa

namespace Go.Proofs.Ytmapjjfefjoemaa
open Go.RowKit

theorem zeros16 : (Builtin.zeroCells #[Value.int .u8 0] 16).toList = bytesL (List.replicate 16 0) := by kernel_rfl
theorem wrap16 : IntKind.i64.wrap 16 = 16 := by kernel_rfl
theorem run_app16 {w : World} {B : Nat} {v : Value} {l : List Nat} (ty : TypeId) (h : OwnB B w v l) (h0 : 0 < l.length) (hl : l.length ≤ 16) (hBw : B ≤ w.heap.size) :
    ∃ v' w', (Builtin.append_ #[72, 3] ty #[v, .int .i64 16]).run Try.prog w = .ok v' w' ∧ OwnB B w' v' (l ++ List.replicate 16 0) ∧ w.grownBy w' v.ownBlock := by
  obtain ⟨i0, hi, hz0, hz1, hz2⟩ := info_parts infoU8
  rcases h.2 with ⟨_, e⟩ | ⟨g, cap, cur, rfl, hB, hh, h1, h2, h3, h4⟩
  · omega
  · rw [Nat.mul_one] at h3 h4
    have hbl : (bytesL l).length = l.length := by simp [bytesL]
    by_cases hroom : l.length + 16 ≤ cap
    · have hst := run_storeCells_at Try.prog g l.length 5 (bytesL (List.replicate 16 0)) 0 cur w hh (by simp [bytesL]; omega) (by simp [bytesL, Value.oneCell'])
      refine ⟨.slice (some ⟨g, 0, none⟩) (l.length + 16) cap, w.setRow g (cur.toList.take l.length ++ bytesL (List.replicate 16 0) ++ cur.toList.drop (l.length + 16)).toArray, ?_, ?_, ?_⟩
      · have hz := zeros16
        simp only [Nat.add_zero] at hst
        have hZl : (bytesL (List.replicate 16 0)).length = 16 := by simp [bytesL]
        generalize bytesL (List.replicate 16 0) = Z at *
        rw [hZl] at hst
        simp [Builtin.append_, run_underlying Try.underlying72, run_underlying Try.underlying3, sizeOf, typeInfo, zeroValue, hi, hz0, hz1, hz2, hroom, asInt, asIntOf, Addr.add_lit, wrap16, hz, Value.cells, hst, hbl]
      · refine ⟨by simp [bytesL], .inr ⟨g, cap, _, by simp, hB, setRow_heap _ _ _ _ _ _ hh, by simpa using hroom, h2, ?_, ?_⟩⟩
        · simp [bytesL]; omega
        · rw [h4]
          have : (l ++ List.replicate 16 0).length * 1 = (bytesL l ++ bytesL (List.replicate 16 0)).length := by simp [bytesL]
          rw [this]
          simp only [List.take_left]
          simp [bytesL]
      · exact ⟨rfl, rfl, rfl, by simp, fun k _ hk => setRow_other w g k _ (fun e => hk (by simp [Value.ownBlock, e]))⟩
    · have hn : ¬ (l.length + 16 ≤ cap) := hroom
      have h63 : ¬ (9223372036854775807 < ((l.length : Int) + max 16 0)) := by omega
      have h48 : ¬ (281474976710656 < Builtin.nextslicecap (l.length + 16) cap) := by
        have := growslice_fits (need := l.length + 16) (old := cap) (bytes := 1) (by omega) (by omega)
        omega
      have hfo := run_firstCells_some (P := Try.prog) w.drew 1 l.length ⟨g, 0, none⟩ l.length cap (bytesL l) (by simp [bytesL]) (fun j u hu => by
        have := World.ownsRow.cells h (g := g) rfl j u hu
        simpa using this)
      have hz := zeros16
      have hge := grownCap_ge w (l.length + 16) cap 5
      have hcm := grownCap_le_maxLen w (l.length + 16) cap 5 (by unfold maxLen; omega)
      refine ⟨.slice (some ⟨w.heap.size, 0, none⟩) (l.length + 16) (grownCap w (l.length + 16) cap 5), w.drew.alloc (.cells ((bytesL l).toArray ++ (Builtin.zeroCells #[Value.int .u8 0] 16 ++ Builtin.zeroCells #[Value.int .u8 0] (grownCap w (l.length + 16) cap 5 - (l.length + 16)))) 5), ?_, ?_, ?_⟩
      · simp [Builtin.append_, run_underlying Try.underlying72, run_underlying Try.underlying3, sizeOf, typeInfo, zeroValue, hi, hz0, hz1, hz2, hn, h63, h48, asInt, asIntOf, Addr.add_lit, wrap16, hz, Value.cells, Question.forced, hfo, newRow, grownCap]
      · refine ⟨by simp [bytesL], .inr ⟨w.heap.size, _, _, by simp, hBw, heap_alloc_new w.drew _, by simpa using hge, hcm, ?_, ?_⟩⟩
        · simp [size_zeroCells, bytesL]; omega
        · have e : (l ++ List.replicate 16 0).length * 1 = (bytesL l ++ bytesL (List.replicate 16 0)).length := by simp [bytesL]
          rw [e]
          simp only [Array.toList_append, hz]
          rw [← List.append_assoc]
          simp only [List.take_left]
          simp [bytesL]
      · exact ⟨rfl, rfl, rfl, by simp, fun k hk _ => heap_past w.drew _ k hk⟩
/-- the operation -/
theorem appZ {ops : Array Oper} {rest : List Oper} {o : Oper} {a : Act} {Q : Exit → Act → World → Prop} {w : World} (hgd : o.guard = none) (s : Operand)
    (ho : o.op = .call { callee := .builtin .append, args := #[s, .const (.int .i64 16)], argTypes := #[72, 3] }) {B : Nat} {v : Value} {l : List Nat} (hs : a.eval s = v) (hown : OwnB B w v l) (h0 : 0 < l.length) (hl : l.length ≤ 16) (hB : B ≤ w.heap.size)
    (h : ∀ v' w', OwnB B w' v' (l ++ List.replicate 16 0) → w.grownBy w' v.ownBlock → wpList Try.prog ops Q rest (a.put o.dst v') w') : wpList Try.prog ops Q (o :: rest) a w := by
  obtain ⟨v', w', hr, h2, h3⟩ := run_app16 o.type hown h0 hl hB
  refine wpList_plain hgd fun _ hK => ?_
  unfold Oper.wp execOp
  have hc : a.eval (.const (.int .i64 16)) = .int .i64 16 := rfl
  simp only [ho, resolve, invoke, builtin, Sem.run_bind, Sem.run_pure, Result.andThen_ok, List.map_toArray, List.map_cons, List.map_nil, hs, hc, hr]
  exact hK _ _ (h v' w' h2 h3)

/-- the first sixteen of a list of bytes and sixteen zeros behind it -/
def lstF (l : List Nat) : Nat → Nat := fun i => l.getD i 0
theorem lstF_take (l : List Nat) (hl : l.length ≤ 16) : ((bytesL (l ++ List.replicate 16 0)).take 16).toArray = av (lstF l) := by
  apply Array.ext_getElem?
  intro i
  rw [List.getElem?_toArray, av_cases]
  by_cases h : i < 16
  · rw [List.getElem?_take_of_lt h, if_pos h]
    unfold bytesL lstF
    rw [List.getElem?_map]
    rcases Nat.lt_or_ge i l.length with c | c
    · rw [List.getElem?_append_left c, List.getD_eq_getElem?_getD, List.getElem?_eq_getElem c]; rfl
    · rw [List.getElem?_append_right c, List.getD_eq_getElem?_getD, List.getElem?_eq_none c, List.getElem?_replicate, if_pos (by omega)]; rfl
  · rw [List.getElem?_take_eq_none (by omega), if_neg h]
/-- the array that lies at the beginning of such a list -/
theorem own_sixteen {B : Nat} {w : World} {v : Value} {l : List Nat} (h : OwnB B w v (l ++ List.replicate 16 0)) (h0 : 0 < (l ++ List.replicate 16 0).length) (hl : l.length ≤ 16) :
    ∃ g c, v = .slice (some ⟨g, 0, none⟩) (l ++ List.replicate 16 0).length c ∧ B ≤ g ∧ g < w.heap.size ∧
      ∀ wx, cellsOf wx g = cellsOf w g → (loadT 29 (.pointer (some ⟨g, 0, none⟩))).run Try.prog wx = .ok (.value (.agg (av (lstF l)))) wx := by
  rcases h.2 with ⟨_, e⟩ | ⟨g, cap, cur, rfl, hB, hh, h1, h2, h3, h4⟩
  · omega
  · refine ⟨g, cap, rfl, hB, (Array.getElem?_eq_some_iff.1 hh).1, fun wx hx => run_load_mid aggP ?_ (av_size _)⟩
    rw [hx, cellsOf_heap hh, ← lstF_take l hl, ← h4, List.take_take]
    have hm : min 16 ((l ++ List.replicate 16 0).length * 1) = 16 := by simp
    rw [hm]
    apply Array.ext'
    simp
def namF (f g : Nat → Nat) (m x : Nat) : Nat → Nat := backF (lstF (bfs f g x 16).1) m

-- left out here: loop.example/g01200/impl.naming
end Go.Proofs.Ytmapjjfefjoemaa

namespace Go.Proofs.Ytmapjjfefjoemaa
open Go.RowKit

/-- one byte more at the end of a list of bytes of the call's own -/
theorem appB {ops : Array Oper} {rest : List Oper} {o : Oper} {a : Act} {Q : Exit → Act → World → Prop} {w : World} {t : TypeId} (hgd : o.guard = none) (s x : Operand)
    (ho : o.op = .call { callee := .builtin .append, args := #[s, x], argTypes := #[72, 72] }) {B : Nat} {v : Value} {l : List Nat} (hs : a.eval s = v) (hown : OwnB B w v l) (hB : B ≤ w.heap.size)
    (y : Nat) (g : Nat) (hx : a.eval x = .slice (some ⟨g, 0, none⟩) 1 1) (hg : g = w.heap.size) (hl : l.length ≤ 1000000000)
    (h : ∀ v' w', OwnB B w' v' (l ++ [y]) → w.grownBy w' v.ownBlock → w.heap.size < w'.heap.size → wpList Try.prog ops Q rest (a.put o.dst v') w') :
    wpList Try.prog ops Q (o :: rest) a (w.alloc (.cells #[.int .u8 (y : Int)] t)) := by
  obtain ⟨i0, hi, hz0, hz1, hz2⟩ := info_parts infoU8
  unfold OwnB at hown
  refine wpList_append_own (P := Try.prog) _ hgd s x 72 ho B 5 i0 (.int .u8 0) 1 1 Try.underlying72 hi hz0 hz1 hz2 rfl (by decide) v l.length (bytesL l) hs (hown.alloc _) ⟨g, 0, none⟩ 1 1 [.int .u8 (y : Int)] hx rfl
    (one_new _ _ _ _ hg) (fun u hu => ?_) (by unfold maxLen; omega) (by omega) (by simp; omega) fun v' w' h1 h2 _ => h v' w' ?_ ?_ ?_
  · simp at hu; subst hu; rfl
  · unfold OwnB bytesL at *
    simpa using h1
  · exact grown_step (grown_alloc (grown_refl w v.ownBlock) _) h2 fun g hg => .inr hg
  · have := h2.size; simp at this; omega

theorem heap4 {w : World} {o o1 o2 o3 o4 : Obj} {g : Nat} (h : g = w.heap.size) : (((((w.alloc o).alloc o1).alloc o2).alloc o3).alloc o4).heap[g]? = some o := (heap_past _ _ _ (by simp; omega)).trans (heap3 h)
/-- what l02Naming has made -/
structure NW (w wr : World) (m : Nat) (f g : Nat → Nat) (o : Nat → Nat) (b : Nat → Bool) : Prop where
  low : Below w.heap.size w wr
  des : cellsOf wr w.heap.size = dv m f g
  res : rowOk wr (w.heap.size + 1) 16
  out : wr.heap[w.heap.size + 1 + 1 + 1]? = some (.cells (av o) 29 (0, 0))
  met : wr.heap[w.heap.size + 1 + 1 + 1 + 1]? = some (.cells (bv b) 85 (0, 0))
theorem NW.lt {w wr : World} {m : Nat} {f g o : Nat → Nat} {b : Nat → Bool} (h : NW w wr m f g o b) : w.heap.size + 1 + 1 + 1 + 1 < wr.heap.size := (Array.getElem?_eq_some_iff.1 h.met).1
theorem NW.grown {w wr w' : World} {m : Nat} {f g o : Nat → Nat} {b : Nat → Bool} {r : Option Nat} (h : NW w wr m f g o b) (hg : wr.grownBy w' r) (hr : ∀ k, r = some k → w.heap.size + 2 ≤ k ∧ k ≠ w.heap.size + 1 + 1 + 1 ∧ k ≠ w.heap.size + 1 + 1 + 1 + 1) : NW w w' m f g o b := by
  have hl := h.lt
  exact ⟨h.low.grown hg (by omega) (fun k hk => by have := hr k hk; omega), (grown_cells hg (by omega) (fun e => by have := hr _ e.symm; omega)).trans h.des, (grown_row hg (by omega) (fun e => by have := hr _ e.symm; omega)).2 h.res,
    (hg.block _ (by omega) (fun e => (hr _ e.symm).2.1 rfl)).trans h.out, (hg.block _ (by omega) (fun e => (hr _ e.symm).2.2 rfl)).trans h.met⟩
theorem NW.setB {w wr : World} {m : Nat} {f g o : Nat → Nat} {b : Nat → Bool} (h : NW w wr m f g o b) (y : Nat) : NW w (wr.setCell ⟨w.heap.size + 1 + 1 + 1 + 1, y, none⟩ (.bool true)) m f g o (mset b y) := by
  refine ⟨below_setCell h.low (by omega) _ _, (cellsOf_setCell_ne (by omega)).trans h.des, rowOk_setCell h.res, ?_, ?_⟩
  · rw [Below.heap_setCell wr ⟨w.heap.size + 1 + 1 + 1 + 1, y, none⟩ _ _ (show w.heap.size + 1 + 1 + 1 ≠ w.heap.size + 1 + 1 + 1 + 1 by omega)]; exact h.out
  · rw [heap_setCell_same _ _ _ _ _ _ h.met, bv_set]
theorem NW.setO {w wr : World} {m : Nat} {f g o : Nat → Nat} {b : Nat → Bool} (h : NW w wr m f g o b) (y v : Nat) : NW w (wr.setCell ⟨w.heap.size + 1 + 1 + 1, y, none⟩ (.int .u8 v)) m f g (fset o y v) b := by
  refine ⟨below_setCell h.low (by omega) _ _, (cellsOf_setCell_ne (by omega)).trans h.des, rowOk_setCell h.res, ?_, ?_⟩
  · rw [heap_setCell_same _ _ _ _ _ _ h.out, av_set]
  · rw [Below.heap_setCell wr ⟨w.heap.size + 1 + 1 + 1, y, none⟩ _ _ (show w.heap.size + 1 + 1 + 1 + 1 ≠ w.heap.size + 1 + 1 + 1 by omega)]; exact h.met
theorem NW.far {w wr : World} {m : Nat} {f g o : Nat → Nat} {b : Nat → Bool} (h : NW w wr m f g o b) {v : Value} {l : List Nat} (ho : OwnB (w.heap.size + 2) wr v l) : ∀ k, v.ownBlock = some k → w.heap.size + 2 ≤ k ∧ k ≠ w.heap.size + 1 + 1 + 1 ∧ k ≠ w.heap.size + 1 + 1 + 1 + 1 := by
  intro k hk
  refine ⟨(World.ownsRow.lt ho k hk).1, fun e => ?_, fun e => ?_⟩
  · rcases own_ne_blk ho h.out (by decide) with c | c
    · rw [c] at hk; cases hk
    · exact c (by rw [hk, e])
  · rcases own_ne_blk ho h.met (by decide) with c | c
    · rw [c] at hk; cases hk
    · exact c (by rw [hk, e])
theorem OwnB.setCell {B g i : Nat} {w : World} {v u : Value} {l : List Nat} (h : OwnB B w v l) (hne : ∀ k, v.ownBlock = some k → k ≠ g) : OwnB B (w.setCell ⟨g, i, none⟩ u) v l :=
  World.ownsRow.kept h (grown_setCell (grown_refl w (some g))) (by rcases hv : v.ownBlock with _ | k; exact .inl rfl; exact .inr fun e => hne k hv (by injection e))
theorem lstF_at {f g : Nat → Nat} {m x k : Nat} (hI : BInv m (bfs f g x k)) (hm : m ≤ 16) (hk : k < (bfs f g x k).1.length) : lstF (bfs f g x 16).1 k = (bfs f g x k).1[k] := by
  have h16 := hI.length_le
  obtain ⟨t, ht⟩ := bfs_pre' f g x (show k ≤ 16 by omega)
  unfold lstF
  rw [← ht, List.getD_eq_getElem?_getD, List.getElem?_append_left hk, List.getElem?_eq_getElem hk]; rfl

-- left out here: loop.example/g01200/spec.l02Naming
end Go.Proofs.Ytmapjjfefjoemaa

namespace Go.Proofs.Ytmapjjfefjoemaa
open Go.RowKit

set_option maxHeartbeats 400000 in
theorem toPlaces_any (f : Nat → Nat) (w : World) : Calls Try.prog 50 #[.agg (av f)] w fun e w' => e = .returned (.agg (av f)) ∧ Below w.heap.size w w' := by
  go_enter Try.func50, Try.ntmps50
  go_wp2
  rw [← av_zero]
  go_loopw [4] (fun i wr => ∃ k : Nat, k ≤ 16 ∧ i = .int .i64 k ∧ wr = ((w.alloc (.cells (av f) 22)).alloc (.cells (av fun _ => 0) 29)).alloc (.cells (av (upto f k)) 29)) (fun i _ => 16 - (intOf i).toNat)
  case atStart => exact ⟨0, by omega, rfl, by rw [upto_zero]⟩
  case round =>
    obtain ⟨k, hk, rfl, rfl⟩ := hrel
    by_cases hlt : k < 16
    · have h1 := av_get f hlt
      have h2 := av_get (upto f k) hlt
      have h3 := av_set (upto f k) k (f k)
      rw [upto_step] at h3
      go_wp2
      go_roundw
      case rel => exact ⟨k + 1, by omega, by go_num, rfl⟩
      case measure => simp [intOf]; omega
    · obtain rfl : k = 16 := by omega
      clear hlt hk
      rw [av_congr (f := upto f 16) (g := f) (fun i h => by simp [upto, h])]
      go_wp2_with (first
        | (refine ld0 aggP (av_size _) rfl _ rfl _ rfl (by simp) ?_)
        | (refine st1 aggP (av_size f) (av_size _) (av_cells f) rfl _ _ rfl (w.heap.size + 1) rfl rfl (by simp) ?_))
      exact res_agg (p := 2) (g := w.heap.size + 1) aggP (av_size f) rfl rfl rfl (heap1 (by simp)) ⟨rfl, below3 _ _ _ _⟩

end Go.Proofs.Ytmapjjfefjoemaa

namespace Go.Proofs.Ytmapjjfefjoemaa
open Go.RowKit
set_option maxHeartbeats 400000 in
theorem eqPlaces_same (f : Nat → Nat) (w : World) : Calls Try.prog 59 #[.agg (av f), .agg (av f)] w fun e w' => e = .returned (.bool true) ∧ Below w.heap.size w w' := by
  go_enter Try.func59, Try.ntmps59
  go_wp2
  go_loopw [5] (fun i wr => ∃ k : Nat, k ≤ 16 ∧ i = .int .i64 k ∧ Below w.heap.size w wr ∧ cellsOf wr w.heap.size = av f ∧ cellsOf wr (w.heap.size + 1) = av f) (fun i _ => 16 - (intOf i).toNat)
  case atStart => exact ⟨0, by omega, rfl, below2 _ _ _, cellsOf_heap (heap1 rfl), cellsOf_heap (heap_at _ _ _ (by simp))⟩
  case round =>
    obtain ⟨k, hk, rfl, hb, h0, h1⟩ := hrel
    by_cases hlt : k < 16
    · have c0 : wr.cell? ⟨w.heap.size, k, none⟩ = some (.int .u8 (f k)) := by rw [cell_of_cells, h0, av_get f hlt]
      have c1 : wr.cell? ⟨w.heap.size + 1, k, none⟩ = some (.int .u8 (f k)) := by rw [cell_of_cells, h1, av_get f hlt]
      have H0 := hide h0; clear h0
      have H1 := hide h1; clear h1
      go_wp2
      go_region
      all_goals go_wp2
      all_goals go_roundw
      case rel => exact ⟨k + 1, by omega, by go_num, hb.drew, H0.out, H1.out⟩
      case measure => simp [intOf]; omega
    · obtain rfl : k = 16 := by omega
      clear hlt hk h0 h1
      go_wp2
      go_ret
      exact ⟨rfl, hb⟩
end Go.Proofs.Ytmapjjfefjoemaa

namespace Go.Proofs.Ytmapjjfefjoemaa
open Go.RowKit Go.ChangeShapes Go.WideShapes

set_option maxRecDepth 100000 in
set_option maxHeartbeats 400000 in
theorem toDessin_any (n : Int) (f g : Nat → Nat) (w : World) : Calls Try.prog 16 #[.agg (dv n f g)] w fun e w' => e = .returned (.agg (dv n f g)) ∧ Below w.heap.size w w' := by
  have hn := dv_n n f g
  go_enter Try.func16, Try.ntmps16
  go_wp2_with fail
  rw [← dv_lit n, ← dv_lit 0]
  refine (toPlaces_any f _).mono ?_
  rintro e w1 ⟨rfl, h1⟩
  have c0 : cellsOf w1 w.heap.size = dv n f g := (below_cells h1 (by simp <;> omega)).trans (cellsOf_heap (heap2 rfl))
  have r1 : rowOk w1 (w.heap.size + 1) 33 := (below_row h1 (by simp <;> omega)).2 ⟨_, _, heap1 (by simp), dv_size _ _ _⟩
  have c2 : cellsOf w1 (w.heap.size + 1 + 1) = dv n (fun _ => 0) (fun _ => 0) := (below_cells h1 (by simp)).trans (cellsOf_heap (heap_at _ _ _ (by simp)))
  have r2 : rowOk w1 (w.heap.size + 1 + 1) 33 := (below_row h1 (by simp)).2 ⟨_, _, heap_at _ _ _ (by simp), dv_size _ _ _⟩
  have b1 := (below3 w (.cells (dv n f g) 24) (.cells (dv 0 (fun _ => 0) (fun _ => 0)) 31) (.cells (dv n (fun _ => 0) (fun _ => 0)) 31)).trans (h1.mono (by simp <;> omega))
  clear h1
  go_wp2_with fail
  refine (toPlaces_any g _).mono ?_
  rintro e w2 ⟨rfl, h2⟩
  have l1 := r1.lt
  have l2 := r2.lt
  have s1 : rowOk (w1.setRow (w.heap.size + 1 + 1) (dv n f fun _ => 0)) (w.heap.size + 1) 33 := (rowOk_setRow_ne (by omega)).2 r1
  have s2 : rowOk (w1.setRow (w.heap.size + 1 + 1) (dv n f fun _ => 0)) (w.heap.size + 1 + 1) 33 := rowOk_setRow r2 (dv_size _ _ _)
  have q1 : rowOk w2 (w.heap.size + 1) 33 := (below_row h2 (by simp; omega)).2 s1
  have q2 : rowOk w2 (w.heap.size + 1 + 1) 33 := (below_row h2 (by simp; omega)).2 s2
  have k2 : cellsOf w2 (w.heap.size + 1 + 1) = dv n f (fun _ => 0) := (below_cells h2 (by simp; omega)).trans (cellsOf_setRow r2)
  have b2 := (below_setRow b1 (show w.heap.size ≤ w.heap.size + 1 + 1 by omega) (dv n f fun _ => 0)).trans (h2.mono (by simp; omega))
  clear h2 b1 r1 r2 c0 c2 s1 s2 l1 l2
  go_wp2
  obtain ⟨t, ht, _⟩ := ((rowOk_setRow_ne (c' := dv n f g) (show w.heap.size + 1 ≠ w.heap.size + 1 + 1 by omega)).2 q1).heap
  exact res_agg (p := 2) (g := w.heap.size + 1) aggD (dv_size n f g) rfl rfl rfl (setRow_heap _ _ _ _ t (0, 0) ht) ⟨rfl, below_setRow (below_setRow b2 (by omega) _) (by omega) _⟩

section
variable {H : Type} {enc : TypeId × Value → H} {w : World} {base : Nat} {spare : Nat → Bool} {held : Bool}
set_option maxRecDepth 100000 in
/-- a dessin that came in -/
theorem open_dessin {r : Reach} {b0 : Nat} {v : Value} {d : DataW H} {ps : List MemPlace}
    (hval : Value.okWide Try.prog w r b0 24 v) (hd : DataW.Trod enc Try.prog w base spare held 24 v d ps) :
    ∃ (n : Int) (f g : Nat → Nat), (-9223372036854775808 ≤ n ∧ n ≤ 9223372036854775807) ∧ (∀ i, f i < 256) ∧ (∀ i, g i < 256) ∧ v = .agg (dv n f g) := by
  obtain ⟨cs, rfl, hs⟩ := okWide_struct Try.underlying24 hval
  have h33 : cs.size = 33 := hs.trans (by kernel_rfl)
  obtain ⟨fuel, hf⟩ := hd
  obtain ⟨xs, m, _, hx, _, hlen, hfl⟩ := DataW.trod_struct Try.underlying24 hf
  have hx3 : xs.length = 3 := hlen
  have h0 : DataW.trod enc Try.prog w base spare held m 2 (List.take (Try.prog.cellsOf 2) (List.drop 0 cs.toList)) = xs[0]? := hfl 0 _ rfl
  have h1 : DataW.trod enc Try.prog w base spare held m 22 (List.take (Try.prog.cellsOf 22) (List.drop 1 cs.toList)) = xs[1]? := hfl 1 _ rfl
  have h2 : DataW.trod enc Try.prog w base spare held m 22 (List.take (Try.prog.cellsOf 22) (List.drop 17 cs.toList)) = xs[2]? := hfl 2 _ rfl
  rw [List.getElem?_eq_getElem (by omega)] at h0 h1 h2
  have e2 : Try.prog.cellsOf 2 = 1 := by kernel_rfl
  have e16 : Try.prog.cellsOf 22 = 16 := by kernel_rfl
  have e1 : Try.prog.cellsOf 5 = 1 := by kernel_rfl
  rw [e2] at h0
  rw [e16] at h1 h2
  obtain ⟨n, hn, _, hw⟩ := DataW.trod_int Try.underlying2 h0
  have part : ∀ (o : Nat), o + 16 ≤ 33 → ∀ y, DataW.trod enc Try.prog w base spare held m 22 (List.take 16 (List.drop o cs.toList)) = some y → ∃ f : Nat → Nat, (∀ i, f i < 256) ∧ ∀ i, i < 16 → cs[o + i]? = some (.int .u8 (f i)) := by
    intro o ho y hy
    obtain ⟨ys, m', _, _, _, hl, hi⟩ := DataW.trod_array Try.underlying22 hy
    obtain ⟨f, hf, e⟩ := bytes_of (l := List.take 16 (List.drop o cs.toList)) Try.underlying5 (by simp; omega) hl (fun i h => by have := hi i h; rw [e1, Nat.mul_one] at this; exact this)
    refine ⟨f, hf, fun i h => ?_⟩
    have := congrArg (·[i]?) e
    simp only [List.getElem?_toArray, List.getElem?_take_of_lt h, List.getElem?_drop, Array.getElem?_toList, av_get f h] at this
    exact this
  obtain ⟨f, hf, hfc⟩ := part 1 (by omega) _ h1
  obtain ⟨g, hg, hgc⟩ := part 17 (by omega) _ h2
  refine ⟨n, f, g, bounds_i64 hw, hf, hg, ?_⟩
  congr 1
  apply Array.ext_getElem?
  intro i
  rw [get_cases]
  by_cases hi : i < 33
  · rw [if_pos hi]
    by_cases h0 : i = 0
    · subst h0
      rw [if_pos rfl]
      have := congrArg (·[0]?) hn
      simpa [List.getElem?_take] using this
    · rw [if_neg h0]
      by_cases h17 : i < 17
      · have := hfc (i - 1) (by omega)
        rw [show 1 + (i - 1) = i from by omega] at this
        rw [if_pos h17, this]
      · have := hgc (i - 17) (by omega)
        rw [show 17 + (i - 17) = i from by omega] at this
        rw [if_neg h17, this]
  · rw [if_neg hi, Array.getElem?_eq_none]; omega
end

end Go.Proofs.Ytmapjjfefjoemaa

namespace Go.Proofs.Ytmapjjfefjoemaa
open Go.RowKit

set_option maxRecDepth 100000 in
set_option maxHeartbeats 1000000 in
theorem isDart_any (n : Int) (f g : Nat → Nat) (x : Int) (w : World) :
    Calls Try.prog 63 #[.agg (dv n f g), .int .i64 x] w fun e w' => e = .returned (.bool (decide (0 ≤ x ∧ x < n))) ∧ Below w.heap.size w w' := by
  have hn := dv_n n f g
  by_cases h0 : 0 ≤ x
  · have hd : decide (0 ≤ x ∧ x < n) = decide (x < n) := by simp [h0]
    rw [hd]
    have hd0 : decide (0 ≤ x) = true := by simp [h0]
    clear hd
    go_enter Try.func63, Try.ntmps63
    go_wp2
    go_ret
    exact ⟨rfl, below1 _ _⟩
  · have hd : decide (0 ≤ x ∧ x < n) = false := by simp [h0]
    rw [hd]
    have hd0 : decide (0 ≤ x) = false := by simp [h0]
    clear hd
    go_enter Try.func63, Try.ntmps63
    go_wp2
    go_ret
    exact ⟨rfl, below1 _ _⟩
open Classical in
noncomputable def namR (n : Int) (f g : Nat → Nat) (x : Int) : Value :=
  if desB n f g = true then (if 0 ≤ x ∧ x < n then .tuple #[.agg (av (namF f g n.toNat x.toNat)), .int .i64 0] else .tuple #[.agg (av fun _ => 0), .int .i64 2]) else .tuple #[.agg (av fun _ => 0), .int .i64 1]
theorem namR_eq (n : Int) (f g : Nat → Nat) (x : Int) : ∃ (r : Nat → Nat) (c : Int), namR n f g x = .tuple #[.agg (av r), .int .i64 c] := by
  unfold namR; split
  · split
    · exact ⟨_, _, rfl⟩
    · exact ⟨_, _, rfl⟩
  · exact ⟨_, _, rfl⟩

-- left out here: loop.example/g01200/impl.NamingFrom
-- left out here: loop.example/g01200/spec.NamingFrom
-- left out here: loop.example/g01200/laws.FnExactNamingFrom
end Go.Proofs.Ytmapjjfefjoemaa

namespace Go.Proofs.Ytmapjjfefjoemaa
open Go.RowKit

/-- the darts with the number of x -/
def classL (m : Nat) (c : Nat → Nat) (x : Nat) : List Nat := (List.range m).filter fun i => c i == c x
def classP (k : Nat) (c : Nat → Nat) (x : Nat) : List Nat := (List.range k).filter fun i => c i == c x
theorem classP_yes {k x : Nat} {c : Nat → Nat} (h : c k = c x) : classP k c x ++ [k] = classP (k + 1) c x := by unfold classP; rw [List.range_succ, List.filter_append]; simp [h]
theorem classP_no {k x : Nat} {c : Nat → Nat} (h : ¬ c k = c x) : classP k c x = classP (k + 1) c x := by unfold classP; rw [List.range_succ, List.filter_append]; simp [h]
theorem classP_len (k : Nat) (c : Nat → Nat) (x : Nat) : (classP k c x).length ≤ k := by unfold classP; have := List.length_filter_le (fun i => c i == c x) (List.range k); simpa using this

-- left out here: loop.example/g01200/impl.leastBlock
open Classical in
noncomputable def blkR (n : Int) (f g : Nat → Nat) (x y : Int) : List Nat := if desB n f g = true ∧ (0 ≤ x ∧ x < n) ∧ 0 ≤ y ∧ y < n then classL n.toNat (joinR f g n.toNat [x.toNat, y.toNat] x.toNat) x.toNat else []
open Classical in
noncomputable def blkC (n : Int) (f g : Nat → Nat) (x y : Int) : Int := if desB n f g = true then (if (0 ≤ x ∧ x < n) ∧ 0 ≤ y ∧ y < n then 0 else 2) else 1
theorem blkR_bound (n : Int) (f g : Nat → Nat) (x y : Int) : (blkR n f g x y).length ≤ 16 := by
  unfold blkR
  split
  · rename_i h
    obtain ⟨m, rfl, hd⟩ := desB_true h.1
    have := classP_len m (joinR f g m [x.toNat, y.toNat] x.toNat) x.toNat
    have := hd.le
    rw [Int.toNat_natCast]
    show (classP m _ _).length ≤ 16
    omega
  · simp
theorem rd_two {w : World} {g x y : Nat} {t : TypeId} {fr : Nat × Nat} (h : w.heap[g]? = some (.cells #[.int .i64 x, .int .i64 y] t fr)) : RdZ w (.slice (some ⟨g, 0, none⟩) 2 2) (ints [x, y]) := by
  refine ⟨some ⟨g, 0, none⟩, 2, rfl, by simp [ints], fun i z hi => ⟨⟨g, 0, none⟩, rfl, lt_of_some h, ?_⟩⟩
  rcases i with _ | _ | i
  · simp [ints] at hi
    subst hi
    show w.cell? ⟨g, 0, none⟩ = _
    unfold World.cell?
    simp [h]
  · simp [ints] at hi
    subst hi
    show w.cell? ⟨g, 1, none⟩ = _
    unfold World.cell?
    simp [h]
  · simp [ints] at hi

-- left out here: loop.example/g01200/impl.BlockOf
end Go.Proofs.Ytmapjjfefjoemaa

namespace Go.Proofs.Ytmapjjfefjoemaa
open Go.RowKit

/-- sixteen numbers -/
@[irreducible] def zv (f : Nat → Nat) : Array Value := row 16 fun i => .int .i64 (f i)
theorem zv_size (f : Nat → Nat) : (zv f).size = 16 := by unfold zv; exact row_size _ _
theorem zv_get (f : Nat → Nat) {i : Nat} (h : i < 16) : (zv f)[i]? = some (.int .i64 (f i)) := by unfold zv; exact row_get _ _ h
theorem zv_set (f : Nat → Nat) (i v : Nat) : (zv f).setIfInBounds i (.int .i64 v) = zv (fset f i v) := by
  unfold zv
  rw [row_set]
  apply row_congr
  intro j _
  unfold fset
  by_cases c : j = i
  · rw [if_pos c, if_pos c]
  · rw [if_neg c, if_neg c]
theorem zv_zero : zv (fun _ => 0) = #[.int .i64 0, .int .i64 0, .int .i64 0, .int .i64 0, .int .i64 0, .int .i64 0, .int .i64 0, .int .i64 0, .int .i64 0, .int .i64 0, .int .i64 0, .int .i64 0, .int .i64 0, .int .i64 0, .int .i64 0, .int .i64 0] := by
  unfold zv row; rfl
/-- rows of pairs of numbers -/
def pairZ (l : List (Nat × Nat)) : List Value := l.flatMap fun p => [Value.int .i64 (p.1 : Int), Value.int .i64 (p.2 : Int)]
theorem pairZ_length (l : List (Nat × Nat)) : (pairZ l).length = l.length * 2 := by unfold pairZ; induction l <;> simp_all <;> omega
theorem pairZ_append (l l' : List (Nat × Nat)) : pairZ (l ++ l') = pairZ l ++ pairZ l' := by unfold pairZ; simp
theorem pairZ_at {l : List (Nat × Nat)} {k : Nat} (hk : k < l.length) : (pairZ l)[k * 2]? = some (.int .i64 (l[k].1 : Int)) ∧ (pairZ l)[k * 2 + 1]? = some (.int .i64 (l[k].2 : Int)) := by
  induction l generalizing k with
  | nil => simp at hk
  | cons p l ih =>
    rcases k with _ | k
    · exact ⟨rfl, rfl⟩
    · have := ih (k := k) (by simpa using hk)
      have e : pairZ (p :: l) = [Value.int .i64 (p.1 : Int), Value.int .i64 (p.2 : Int)] ++ pairZ l := rfl
      rw [e, List.getElem?_append_right (by simp; omega), List.getElem?_append_right (by simp; omega)]
      simp only [List.length_cons, List.length_nil, List.getElem_cons_succ]
      rw [show (k + 1) * 2 - (0 + 1 + 1) = k * 2 by omega, show (k + 1) * 2 + 1 - (0 + 1 + 1) = k * 2 + 1 by omega]
      exact this
theorem pairZ_one {l : List (Nat × Nat)} : ∀ u ∈ pairZ l, u.oneCell' = true := by
  intro u hu
  unfold pairZ at hu
  obtain ⟨p, _, hp⟩ := List.mem_flatMap.1 hu
  simp at hp
  rcases hp with rfl | rfl <;> rfl
theorem infoPz : (Try.prog.info? 116).map (fun i => (i.zero, i.size, i.bytes)) = some (some (.agg #[.int .i64 0, .int .i64 0]), 2, 16) := by kernel_rfl
def pPairsZ (v : Value) (l : List (Nat × Nat)) : Part := pRow v 116 2 l.length (pairZ l)
theorem Holds.pairsZ {w0 w : World} {L : List Part} (h : Holds w0 w L) (i : Nat) {v : Value} {l : List (Nat × Nat)} (hi : L[i]? = some (pPairsZ v l)) {k : Nat} (hk : k < l.length) :
    ∃ g c, v = .slice (some ⟨g, 0, none⟩) l.length c ∧ g < w.heap.size ∧ w.cell? ⟨g, k * 2, none⟩ = some (.int .i64 (l[k].1 : Int)) ∧ w.cell? ⟨g, k * 2 + 1, none⟩ = some (.int .i64 (l[k].2 : Int)) := by
  obtain ⟨g, c, h1, h2, h3, h4, h5, h6, h7⟩ := row_at (h.row i hi) (by omega : 0 < l.length)
  exact ⟨g, c, h1, h3, h6 _ _ (pairZ_at hk).1, h6 _ _ (pairZ_at hk).2⟩
theorem Holds.pairsZForm {w0 w : World} {L : List Part} (h : Holds w0 w L) (i : Nat) {v : Value} {l : List (Nat × Nat)} (hi : L[i]? = some (pPairsZ v l)) : ∃ A c, v = .slice A l.length c := own_slice (h.row i hi)
-- left out here: None
-- left out here: None
/-- the first k numbers themselves -/
theorem same_step {k m : Nat} (h : k < m) : fset (sameN k) k k = sameN (k + 1) := by
  funext i
  unfold fset sameN
  by_cases e : i = k
  · subst e; simp
  · have : i < k + 1 ↔ i < k := by omega
    simp [e, this]
/-- the merging, j darts on -/
def mgT (j : Nat) (c : Nat → Nat) (a b : Nat) : Nat → Nat := fun i => if i < j ∧ c i = c b then c a else c i
theorem mgT_all (m : Nat) (c : Nat → Nat) (a b : Nat) : mgT m c a b = mgS m c a b := rfl
theorem mgT_zero (c : Nat → Nat) (a b : Nat) : mgT 0 c a b = c := by funext i; simp [mgT]
theorem mgT_at (j : Nat) (c : Nat → Nat) (a b : Nat) : mgT j c a b j = c j := by simp [mgT]
theorem mgT_yes {j : Nat} {c : Nat → Nat} {a b : Nat} (h : c j = c b) : fset (mgT j c a b) j (c a) = mgT (j + 1) c a b := by
  funext i
  unfold fset mgT
  by_cases e : i = j
  · subst e; simp [h]
  · have : i < j + 1 ↔ i < j := by omega
    simp [e, this]
theorem mgT_no {j : Nat} {c : Nat → Nat} {a b : Nat} (h : ¬ c j = c b) : mgT j c a b = mgT (j + 1) c a b := by
  funext i
  unfold mgT
  by_cases e : i = j
  · subst e; simp [h]
  · have : i < j + 1 ↔ i < j := by omega
    simp [this]
@[irreducible] def joinS (f g : Nat → Nat) (m x y : Nat) : Nat → Nat := (jrun (mgS m) f g ([(x, y)], sameN m) 64).2
theorem joinS_fact (f g : Nat → Nat) (m : Nat) (hf : ∀ i, i < m → f i < m) (hg : ∀ i, i < m → g i < m) (x y : Nat) (hx : x < m) (hy : y < m) (hm : m ≤ 16 := by omega) :
    ∃ F : Nat → JS, (∀ k, JInv m 33 (F k)) ∧ F 0 = ([(x, y)], sameN m) ∧ (∀ k, F (k + 1) = jst (mgS m) f g (F k) k) ∧ (∀ k, k ≤ 64 → (F k).1.length ≤ k → joinS f g m x y = (F k).2) := by
  refine ⟨jrun (mgS m) f g ([(x, y)], sameN m), fun k => ?_, rfl, fun k => rfl, fun k h1 h2 => ?_⟩
  · have := jrun_inv (mgS_ok m) hf hg (JInv.start [(x, y)] (by simpa using ⟨hx, hy⟩)) k
    refine ⟨this.lt, this.num, this.far, Nat.le_trans this.len ?_⟩
    simp only [List.length_cons, List.length_nil]; omega
  · unfold joinS
    generalize 64 = K at *
    rw [jrun_stop h2 h1]
theorem class_gen (K : Nat) (f g : Nat → Nat) (m : Nat) (hf : ∀ i, i < m → f i < m) (hg : ∀ i, i < m → g i < m) (x y : Nat) (hx : x < m) (hy : y < m) (hK : 2 * m + 1 ≤ K) :
    classL m (jrun (mgS m) f g ([(x, y)], sameN m) (K + 1)).2 x = classL m (jrun (mgI m) f g ([(x, x), (x, y)], sameN m) (K + 1)).2 x := by
  have I := jrun_inv (mgS_ok m) hf hg (JInv.start [(x, y)] (by simpa using ⟨hx, hy⟩)) K
  have hl := I.len
  simp only [List.length_cons, List.length_nil] at hl
  rw [jrun_stop (i := K) (j := K + 1) (by omega) (by omega)]
  have h2 := (jrun_two (mgI_ok m) (mgS_ok m) hf hg hx hy K).2
  unfold classL
  apply List.filter_congr
  intro i hi
  have := h2 i x (List.mem_range.1 hi) hx
  rw [Bool.eq_iff_iff]
  simp only [beq_iff_eq]
  exact this.symm
/-- both tell the same block -/
theorem class_both (f g : Nat → Nat) (m : Nat) (hf : ∀ i, i < m → f i < m) (hg : ∀ i, i < m → g i < m) (x y : Nat) (hx : x < m) (hy : y < m) (hm : m ≤ 16) : classL m (joinS f g m x y) x = classL m (joinR f g m [x, y] x) x := by
  unfold joinS joinR
  exact class_gen 63 f g m hf hg x y hx hy (by omega)

-- left out here: loop.example/g01200/spec.l03Block
end Go.Proofs.Ytmapjjfefjoemaa

namespace Go.Proofs.Ytmapjjfefjoemaa
open Go.RowKit

theorem Holds.cellR {w0 w : World} {L : List Part} (h : Holds w0 w L) (i : Nat) {g n c : Nat} {e : TypeId} {s : Nat} {xs : List Value} (hi : L[i]? = some (pRow (.slice (some ⟨g, 0, none⟩) n c) e s n xs)) {j : Nat} {u : Value} (hj : xs[j]? = some u) : w.cell? ⟨g, j, none⟩ = some u := by
  have hn : 0 < n := by
    have h1 := (h.row i hi).1
    have h2 := (List.getElem?_eq_some_iff.1 hj).1
    rcases Nat.eq_zero_or_pos n with rfl | c
    · simp at h1; subst h1; simp at h2
    · exact c
  obtain ⟨g', c', e1, _, _, _, _, h6, _⟩ := row_at (h.row i hi) hn
  injection e1 with e1
  injection e1 with e1
  injection e1 with e1
  subst e1
  exact h6 j u hj
theorem Holds.frozenR {w0 w : World} {L : List Part} (h : Holds w0 w L) (i : Nat) {g n c : Nat} {e : TypeId} {s : Nat} {xs : List Value} (hi : L[i]? = some (pRow (.slice (some ⟨g, 0, none⟩) n c) e s n xs)) (hn : 0 < n) (j : Nat) : w.frozen? ⟨g, j, none⟩ = false := by
  obtain ⟨g', c', e1, _, _, _, _, _, h7⟩ := row_at (h.row i hi) hn
  injection e1 with e1
  injection e1 with e1
  injection e1 with e1
  subst e1
  exact h7 j
theorem Holds.cellV {w0 w : World} {L : List Part} (h : Holds w0 w L) (i : Nat) {g n c : Nat} {vs : List Value} (hi : L[i]? = some (pVals (.slice (some ⟨g, 0, none⟩) n c) vs)) (hl : vs.length = n) {j : Nat} {u : Value} (hj : vs[j]? = some u) : w.cell? ⟨g, j, none⟩ = some u := by
  subst hl
  exact h.cellR i hi hj
end Go.Proofs.Ytmapjjfefjoemaa

namespace Go.Proofs.Ytmapjjfefjoemaa
open Go.RowKit

theorem aggZ : AggT 112 16 := ⟨⟨_, Try.underlying112, rfl⟩, by kernel_rfl⟩
theorem zv_cells (f : Nat → Nat) : (zv f).all (·.oneCell') = true := by unfold zv row; simp [Value.oneCell']
@[go_sem] theorem is16_zv (f : Nat → Nat) : Is16 (zv f) ↔ True := ⟨fun _ => trivial, fun _ => zv_size f⟩
@[go_sem] theorem ones_zv (f : Nat → Nat) : Ones (zv f) ↔ True := ⟨fun _ => trivial, fun _ => zv_cells f⟩
section
variable (ρ : Operand → Value) (dst : Option Tmp) (x y : Operand) (ty : TypeId) (pos : String) (after : Array Edge) (guard : Option (Nat × Bool)) {w : World} {g : Nat} {cs : Array Value}
@[go_sem ↓] theorem exec_loadZ : execOp ρ { dst, op := .load 112 x, type := ty, pos, after, guard } = loadT 112 (ρ x) := rfl
@[go_sem ↓] theorem exec_storeZ : execOp ρ { dst, op := .store 112 x y, type := ty, pos, after, guard } = storeT 112 (ρ x) (ρ y) := rfl
@[go_sem] theorem run_loadZ (h : Is16 (cellsOf w g)) : (loadT 112 (.pointer (some ⟨g, 0, none⟩))).run Try.prog w = .ok (.value (.agg (cellsOf w g))) w := run_loadT aggZ h (by decide)
@[go_sem] theorem run_storeZ (h : rowOk w g 16) (hs : Is16 cs) (hc : Ones cs) : (storeT 112 (.pointer (some ⟨g, 0, none⟩)) (.agg cs)).run Try.prog w = .ok .skip (w.setRow g cs) := run_storeT aggZ h hs hc
end
/-- numbers laid down along one cycle, along all of them -/
def numA (c : List Nat) (i : Nat) : Nat → (Nat → Nat) → Nat → Nat
  | 0, h => h
  | j + 1, h => fset (numA c i j h) (c.getD j 0) i
def numT (cs : List (List Nat)) : Nat → Nat → Nat
  | 0 => fun _ => 0
  | i + 1 => numA (cs.getD i []) i (cs.getD i []).length (numT cs i)
def whichF (p : Nat → Nat) (m : Nat) : Nat → Nat := numT (cycs p m) (cycs p m).length
theorem cyc_lt {p : Nat → Nat} {m x : Nat} {c : List Nat} (hp : PermN p m) (h1 : c ∈ cycs p m) (h2 : x ∈ c) : x < m :=
  List.mem_range.1 ((cycs_flat hp.2.2.1 hp.2.1).subset (List.mem_flatten.2 ⟨c, h1, h2⟩))

set_option maxRecDepth 100000 in
set_option maxHeartbeats 1000000 in
theorem cycleNumbers_any (p : Nat → Nat) (m : Nat) (hp : PermN p m) (w : World) :
    Calls Try.prog 115 #[.agg (av p), .int .i64 m] w fun e w' => e = .returned (.agg (zv (whichF p m))) ∧ Below w.heap.size w w' := by
  have C1 := hide fun w => cycleList_any p m hp w
  have hbd := hide fun (x : Nat) (c : List Nat) (h1 : c ∈ cycs p m) (h2 : x ∈ c) => cyc_lt hp h1 h2
  have hcl := hide fun (c : List Nat) (h1 : c ∈ cycs p m) => (lens_pos hp.2.2.1 hp.2.1 (List.mem_map.2 ⟨c, h1, rfl⟩)).2
  have hle := cycs_le hp
  have hm := hp.2.1
  have hw : whichF p m = numT (cycs p m) (cycs p m).length := rfl
  rw [hw]
  clear hp hw
  generalize cycs p m = cs at *
  have HH0 := (((Holds.start w).blk (av p) 29 w.heap.size rfl).blk (zv fun _ => 0) 112 (w.heap.size + 1) (by simp)).blk (zv fun _ => 0) 112 (w.heap.size + 1 + 1) (by simp)
  go_enter Try.func115, Try.ntmps115
  go_wp2_with fail
  try rw [← zv_zero]
  refine (C1.out _).mono ?_
  rintro e w1 ⟨v, rfl, hb, ho⟩
  obtain ⟨A, c, vs, rfl, hv⟩ := own2_form ho
  have HLV := hide hv.len
  have HH1 := HH0.joinL (Holds.ofOwn2 hb hv)
  clear hb ho hv HH0
  go_wp2
  go_loopw [14] (fun t wr => ∃ i : Nat, i ≤ cs.length ∧ t = .int .i64 i ∧ Holds w wr (pBlk (w.heap.size + 1 + 1) (zv (numT cs i)) 112 :: pBlk (w.heap.size + 1) (zv fun _ => 0) 112 :: pBlk w.heap.size (av p) 29 :: pVals (.slice A cs.length c) vs :: rowsP vs cs)) (fun t _ => cs.length - (intOf t).toNat)
  case atStart => exact ⟨0, by omega, rfl, HH1⟩
  case round =>
    clear HH1
    obtain ⟨i, hi, rfl, hH⟩ := hrel
    by_cases hil : i < cs.length
    · have hil' : (i : Int) < cs.length := by omega
      obtain ⟨g0, c0, A', c', e0, hvi, x1, hpart⟩ := hH.rowAt HLV.out 3 rfl (fun _ => rfl) hil
      injection e0 with e0 e0a e0b
      subst e0
      clear e0a e0b
      have HX := hide hvi; clear hvi
      have hs : numT cs (i + 1) = numA cs[i] i cs[i].length (numT cs i) := by
        show numA (cs.getD i []) i (cs.getD i []).length (numT cs i) = _
        rw [List.getD_eq_getElem?_getD, List.getElem?_eq_getElem hil]; rfl
      have hmem := List.getElem_mem hil
      have hbi := fun x hx => hbd.out x _ hmem hx
      have hcil := hcl.out _ hmem
      generalize numT cs i = h0 at *
      generalize cs[i] = ci at *
      have HS := hide hs; clear hs
      have HBI := hide hbi; clear hbi hmem
      have hpt : ∀ h : Nat → Nat, (pBlk (w.heap.size + 1 + 1) (zv h) 112 :: pBlk (w.heap.size + 1) (zv fun _ => 0) 112 :: pBlk w.heap.size (av p) 29 :: pVals (.slice (some ⟨g0, 0, none⟩) cs.length c) vs :: rowsP vs cs)[i + (3 + 1)]? = some (pInts (.slice A' ci.length c') ci) := fun h => hpart
      have HPT := hide hpt; clear hpt hpart
      go_wp2
      clear x1
      go_loopw [21] (fun t wr => ∃ j : Nat, j ≤ ci.length ∧ t = .int .i64 j ∧ Holds w wr (pBlk (w.heap.size + 1 + 1) (zv (numA ci i j h0)) 112 :: pBlk (w.heap.size + 1) (zv fun _ => 0) 112 :: pBlk w.heap.size (av p) 29 :: pVals (.slice (some ⟨g0, 0, none⟩) cs.length c) vs :: rowsP vs cs)) (fun t _ => ci.length - (intOf t).toNat)
      case atStart => exact ⟨0, by omega, rfl, hH⟩
      case round =>
        clear hH
        obtain ⟨j, hj, rfl, hH⟩ := hrel
        have hpart := HPT.out (numA ci i j h0)
        by_cases hjl : j < ci.length
        · obtain ⟨g2, c2, e2, _, y1, _⟩ := hH.ints (i + 4) hpart hjl
          injection e2 with e2 e2a e2b
          subst e2
          clear e2a e2b
          have hst : numA ci i (j + 1) h0 = fset (numA ci i j h0) (ci.getD j 0) i := rfl
          have hgd : ci.getD j 0 = ci[j] := by rw [List.getD_eq_getElem?_getD, List.getElem?_eq_getElem hjl]; rfl
          rw [hgd] at hst
          have hx := HBI.out _ (List.getElem_mem hjl)
          generalize ci[j] = x at *
          have hx16 : (x : Int) < 16 := by omega
          have HST := hide hst; clear hst hgd
          have z0 := hH.cell 0 rfl (zv_get (numA ci i j h0) (i := x) (by omega))
          have z1 := hH.frozen 0 rfl x
          have hP := hH.set 0 rfl x (.int .i64 (i : Nat))
          rw [zv_set, ← HST.out] at hP
          go_wp2
          go_roundw
          case rel => exact ⟨j + 1, by omega, by go_num, hP⟩
          case measure => simp [intOf]; omega
        · obtain rfl : j = ci.length := by omega

          clear hj hjl hpart
          go_wp2
          go_roundw
          case rel => exact ⟨i + 1, by omega, by go_num, by rw [HS.out]; exact hH⟩
          case measure => simp [intOf]; omega
    · obtain rfl : i = cs.length := by omega
      have cc := hH.cells 0 rfl
      have rr := hH.rowOk 1 rfl (zv_size _)
      clear hi hil
      go_wp2
      have H2 := hH.setRow 1 rfl (zv (numT cs cs.length))
      exact res_agg (p := 4) (g := (w.heap.size + 1)) aggZ (zv_size _) rfl rfl rfl (H2.at 1 rfl) ⟨rfl, H2.low⟩


set_option maxRecDepth 100000 in
set_option maxHeartbeats 1000000 in
theorem sWhich_any (p : Nat → Nat) (m : Nat) (hp : PermN p m) (w : World) :
    Calls Try.prog 104 #[.agg (av p), .int .i64 m] w fun e w' => e = .returned (.agg (zv (whichF p m))) ∧ Below w.heap.size w w' := by
  have C1 := hide fun w => sCycles_any p m hp w
  have hbd := hide fun (x : Nat) (c : List Nat) (h1 : c ∈ cycs p m) (h2 : x ∈ c) => cyc_lt hp h1 h2
  have hcl := hide fun (c : List Nat) (h1 : c ∈ cycs p m) => (lens_pos hp.2.2.1 hp.2.1 (List.mem_map.2 ⟨c, h1, rfl⟩)).2
  have hle := cycs_le hp
  have hm := hp.2.1
  have hw : whichF p m = numT (cycs p m) (cycs p m).length := rfl
  rw [hw]
  clear hp hw
  generalize cycs p m = cs at *
  have HH0 := ((Holds.start w).blk (av p) 29 w.heap.size rfl).blk (zv fun _ => 0) 112 (w.heap.size + 1) (by simp)
  go_enter Try.func104, Try.ntmps104
  go_wp2_with fail
  try rw [← zv_zero]
  refine (C1.out _).mono ?_
  rintro e w1 ⟨v, rfl, hb, ho⟩
  obtain ⟨A, c, vs, rfl, hv⟩ := own2_form ho
  have HLV := hide hv.len
  have HH1 := (HH0.joinL (Holds.ofOwn2 hb hv)).blk (zv fun _ => 0) 112 w1.heap.size rfl
  clear hb ho hv HH0
  go_wp2
  try rw [← zv_zero]
  generalize w1.alloc (.cells (zv fun _ => 0) 112) = w2 at *
  generalize w1.heap.size = G5 at *
  go_loopw [7] (fun t wr => ∃ i : Nat, i ≤ cs.length ∧ t = .int .i64 i ∧ Holds w wr (pBlk G5 (zv (numT cs i)) 112 :: pBlk (w.heap.size + 1) (zv fun _ => 0) 112 :: pBlk w.heap.size (av p) 29 :: pVals (.slice A cs.length c) vs :: rowsP vs cs)) (fun t _ => cs.length - (intOf t).toNat)
  case atStart => exact ⟨0, by omega, rfl, HH1⟩
  case round =>
    clear HH1
    obtain ⟨i, hi, rfl, hH⟩ := hrel
    by_cases hil : i < cs.length
    · have hil' : (i : Int) < cs.length := by omega
      obtain ⟨g0, c0, A', c', e0, hvi, x1, hpart⟩ := hH.rowAt HLV.out 3 rfl (fun _ => rfl) hil
      injection e0 with e0 e0a e0b
      subst e0
      clear e0a e0b
      have HX := hide hvi; clear hvi
      have hs : numT cs (i + 1) = numA cs[i] i cs[i].length (numT cs i) := by
        show numA (cs.getD i []) i (cs.getD i []).length (numT cs i) = _
        rw [List.getD_eq_getElem?_getD, List.getElem?_eq_getElem hil]; rfl
      have hmem := List.getElem_mem hil
      have hbi := fun x hx => hbd.out x _ hmem hx
      have hcil := hcl.out _ hmem
      generalize numT cs i = h0 at *
      generalize cs[i] = ci at *
      have HS := hide hs; clear hs
      have HBI := hide hbi; clear hbi hmem
      have hpt : ∀ h : Nat → Nat, (pBlk G5 (zv h) 112 :: pBlk (w.heap.size + 1) (zv fun _ => 0) 112 :: pBlk w.heap.size (av p) 29 :: pVals (.slice (some ⟨g0, 0, none⟩) cs.length c) vs :: rowsP vs cs)[i + (3 + 1)]? = some (pInts (.slice A' ci.length c') ci) := fun h => hpart
      have HPT := hide hpt; clear hpt hpart
      go_wp2
      clear x1
      go_loopw [8] (fun t wr => ∃ j : Nat, j ≤ ci.length ∧ t = .int .i64 j ∧ Holds w wr (pBlk G5 (zv (numA ci i j h0)) 112 :: pBlk (w.heap.size + 1) (zv fun _ => 0) 112 :: pBlk w.heap.size (av p) 29 :: pVals (.slice (some ⟨g0, 0, none⟩) cs.length c) vs :: rowsP vs cs)) (fun t _ => ci.length - (intOf t).toNat)
      case atStart => exact ⟨0, by omega, rfl, hH⟩
      case round =>
        clear hH
        obtain ⟨j, hj, rfl, hH⟩ := hrel
        have hpart := HPT.out (numA ci i j h0)
        by_cases hjl : j < ci.length
        · obtain ⟨g2, c2, e2, _, y1, _⟩ := hH.ints (i + 4) hpart hjl
          injection e2 with e2 e2a e2b
          subst e2
          clear e2a e2b
          have x1 := hH.cellV 3 rfl HLV.out HX.out
          have hst : numA ci i (j + 1) h0 = fset (numA ci i j h0) (ci.getD j 0) i := rfl
          have hgd : ci.getD j 0 = ci[j] := by rw [List.getD_eq_getElem?_getD, List.getElem?_eq_getElem hjl]; rfl
          rw [hgd] at hst
          have hx := HBI.out _ (List.getElem_mem hjl)
          generalize ci[j] = x at *
          have hx16 : (x : Int) < 16 := by omega
          have HST := hide hst; clear hst hgd
          have z0 := hH.cell 0 rfl (zv_get (numA ci i j h0) (i := x) (by omega))
          have z1 := hH.frozen 0 rfl x
          have hP := hH.set 0 rfl x (.int .i64 (i : Nat))
          rw [zv_set, ← HST.out] at hP
          go_wp2
          go_roundw
          case rel => exact ⟨j + 1, by omega, by go_num, hP⟩
          case measure => simp [intOf]; omega
        · obtain rfl : j = ci.length := by omega
          have x1 := hH.cellV 3 rfl HLV.out HX.out
          clear hj hjl hpart
          go_wp2
          go_roundw
          case rel => exact ⟨i + 1, by omega, by go_num, by rw [HS.out]; exact hH⟩
          case measure => simp [intOf]; omega
    · obtain rfl : i = cs.length := by omega
      have cc := hH.cells 0 rfl
      have rr := hH.rowOk 1 rfl (zv_size _)
      clear hi hil
      go_wp2
      have H2 := hH.setRow 1 rfl (zv (numT cs cs.length))
      exact res_agg (p := 4) (g := (w.heap.size + 1)) aggZ (zv_size _) rfl rfl rfl (H2.at 1 rfl) ⟨rfl, H2.low⟩

end Go.Proofs.Ytmapjjfefjoemaa

namespace Go.Proofs.Ytmapjjfefjoemaa
open Go.RowKit

/-- a list of numbers wherever it lies -/
def RdI (w : World) (v : Value) (l : List Nat) : Prop := w.ownsRow 0 2 1 v l.length (nums l)
theorem RdI.below {C : Nat} {w w' : World} {v : Value} {l : List Nat} (h : RdI w v l) (hb : Below C w w') (hC : w.heap.size ≤ C) : RdI w' v l := World.ownsRow.kept h (grown_of_below (hb.mono hC) none) (Classical.em _)
theorem RdI.form {w : World} {v : Value} {l : List Nat} (h : RdI w v l) : ∃ A c, v = .slice A l.length c := own_slice h
theorem RdI.at {w : World} {A : Option Addr} {n c k : Nat} {l : List Nat} (h : RdI w (.slice A n c) l) (hk : k < l.length) :
    ∃ g, A = some ⟨g, 0, none⟩ ∧ g < w.heap.size ∧ w.cell? ⟨g, k, none⟩ = some (.int .i64 ((l.getD k 0 : Nat) : Int)) := by
  obtain ⟨g, c, h1, h2, h3, h4, h5, h6, h7⟩ := row_at h (by omega : 0 < l.length)
  injection h1 with e1 e2 e3
  have a1 := h6 _ _ (nums_at hk)
  have hg : l.getD k 0 = l[k] := by rw [List.getD_eq_getElem?_getD, List.getElem?_eq_getElem hk]; rfl
  rw [hg]
  exact ⟨g, e1, h3, a1⟩
theorem Holds.rdI {w0 w : World} {L : List Part} (h : Holds w0 w L) (i : Nat) {v : Value} {l : List Nat} (hi : L[i]? = some (pInts v l)) : RdI w v l := row_low (h.row i hi) (Nat.zero_le _)
/-- the greatest of the first k + 1 numbers -/
def maxU (l : List Nat) : Nat → Nat
  | 0 => l.getD 0 0
  | k + 1 => max (maxU l k) (l.getD (k + 1) 0)
theorem maxU_step (l : List Nat) {j : Nat} (h : 1 ≤ j) : max (maxU l (j - 1)) (l.getD j 0) = maxU l j := by
  obtain ⟨k, rfl⟩ : ∃ k, j = k + 1 := ⟨j - 1, by omega⟩
  rfl
theorem maxU_ge (l : List Nat) : ∀ k i, i ≤ k → l.getD i 0 ≤ maxU l k := by
  intro k
  induction k with
  | zero => intro i hi; obtain rfl : i = 0 := by omega
            exact Nat.le_refl _
  | succ k ih =>
    intro i hi
    rw [maxU]
    rcases Nat.lt_or_ge k i with c | c
    · obtain rfl : i = k + 1 := by omega
      omega
    · have := ih i c; omega
theorem maxU_at (l : List Nat) : ∀ k, ∃ i, i ≤ k ∧ maxU l k = l.getD i 0 := by
  intro k
  induction k with
  | zero => exact ⟨0, Nat.le_refl _, rfl⟩
  | succ k ih =>
    obtain ⟨i, hi, e⟩ := ih
    rw [maxU]
    rcases Nat.lt_or_ge (maxU l k) (l.getD (k + 1) 0) with c | c
    · exact ⟨k + 1, Nat.le_refl _, by omega⟩
    · exact ⟨i, by omega, by omega⟩

-- left out here: slices.Max[[]int64,int64]
/-- a quotient's places: what so many darts tell -/
def prjT (ns : List Nat) (f : Nat → Nat) : Nat → Nat → Nat
  | 0 => fun _ => 0
  | k + 1 => fset (prjT ns f k) (ns.getD k 0) (ns.getD (f k) 0)

-- left out here: loop.example/g01200/impl.project
end Go.Proofs.Ytmapjjfefjoemaa

namespace Go.Proofs.Ytmapjjfefjoemaa
open Go.RowKit

theorem info8 : (Try.prog.info? 5).map (fun i => (i.zero, i.size, i.bytes)) = some (some (.int .u8 0), 1, 1) := by kernel_rfl
theorem plain8 : Try.prog.plainKey 5 = true := by kernel_rfl
theorem cells8 : Try.prog.cellsOf 5 = 1 := by kernel_rfl
@[go_sem] theorem guardP : Try.prog.eqGuardType Try.prog.depth 29 = false := by kernel_rfl
@[irreducible] def sameB (f g : Nat → Nat) : Bool := (List.range 16).all fun i => ((f i : Nat) : Int) == ((g i : Nat) : Int)
theorem sameB_iff (f g : Nat → Nat) : sameB f g = true ↔ ∀ i, i < 16 → f i = g i := by unfold sameB; simp [Int.ofNat_inj]
theorem run_items (f g : Nat → Nat) (w : World) : ∀ is : List Nat, (∀ i ∈ is, i < 16) →
    (Op.eqItems 9999 5 1 (av f) (av g) is).run Try.prog w = .ok (is.all fun i => ((f i : Nat) : Int) == ((g i : Nat) : Int)) w
  | [], _ => by simp [Op.eqItems]
  | i :: is, h => by
    have hi := h i (by simp)
    have ih := run_items f g w is fun j hj => h j (by simp [hj])
    have h1 := run_part_plain w plain8 (av_get f hi)
    have h2 := run_part_plain w plain8 (av_get g hi)
    have h3 := run_equalIn_int w 9998 5 .u8 .u8 (f i) (g i) Try.underlying5
    simp only [Op.eqItems, Nat.mul_one, Sem.run_bind, h1, h2, h3, Result.andThen_ok, List.all_cons]
    rcases hb : (((f i : Nat) : Int) == ((g i : Nat) : Int)) with _ | _
    · simp
    · simp [ih]
@[go_sem] theorem run_sameP (f g : Nat → Nat) (w : World) : (Op.equalIn 10000 29 (.agg (av f)) (.agg (av g))).run Try.prog w = .ok (sameB f g) w := by
  obtain ⟨i0, hi, _⟩ := info_parts info8
  have h := run_equalIn_array w 9999 (av f) (av g) Try.underlying29 hi
  rw [cells8] at h
  rw [h, run_items f g w _ (by simp)]
  unfold sameB; rfl

end Go.Proofs.Ytmapjjfefjoemaa

namespace Go.Proofs.Ytmapjjfefjoemaa
open Go.RowKit

theorem run_items2 (d : Nat) (f g : Nat → Nat) (w : World) : ∀ is : List Nat, (∀ i ∈ is, i < 16) →
    (Op.eqItems (d + 1) 5 1 (av f) (av g) is).run Try.prog w = .ok (is.all fun i => ((f i : Nat) : Int) == ((g i : Nat) : Int)) w
  | [], _ => by simp [Op.eqItems]
  | i :: is, h => by
    have hi := h i (by simp)
    have ih := run_items2 d f g w is fun j hj => h j (by simp [hj])
    have h1 := run_part_plain w plain8 (av_get f hi)
    have h2 := run_part_plain w plain8 (av_get g hi)
    have h3 := run_equalIn_int w d 5 .u8 .u8 (f i) (g i) Try.underlying5
    simp only [Op.eqItems, Nat.mul_one, Sem.run_bind, h1, h2, h3, Result.andThen_ok, List.all_cons]
    rcases hb : (((f i : Nat) : Int) == ((g i : Nat) : Int)) with _ | _
    · simp
    · simp [ih]
theorem run_sameP2 (d : Nat) (f g : Nat → Nat) (w : World) : (Op.equalIn (d + 2) 29 (.agg (av f)) (.agg (av g))).run Try.prog w = .ok (sameB f g) w := by
  obtain ⟨i0, hi, _⟩ := info_parts info8
  have h := run_equalIn_array w (d + 1) (av f) (av g) Try.underlying29 hi
  rw [cells8] at h
  rw [h, run_items2 d f g w _ (by simp)]
  unfold sameB; rfl
theorem info64D : (Try.prog.info? 2).map (·.size) = some 1 := by kernel_rfl
theorem infoPD : (Try.prog.info? 29).map (·.size) = some 16 := by kernel_rfl
theorem part_n (n : Int) (F G : Nat → Nat) (w : World) : (part 2 (dv n F G) 0).run Try.prog w = .ok (.int .i64 n) w :=
  run_part_plain w (by kernel_rfl) (dv_n n F G)
theorem part_b (n : Int) (F G : Nat → Nat) (w : World) : (part 29 (dv n F G) 1).run Try.prog w = .ok (.agg (av F)) w := by
  rcases hi : Try.prog.info? 29 with _ | i
  · have := infoPD; rw [hi] at this; cases this
  · have hsz : i.size = 16 := by have := infoPD; rw [hi] at this; simpa using this
    have hag : (isAgg 29).run Try.prog w = .ok true w := by simp [isAgg, run_underlying Try.underlying29]
    have e := blackOf_dv n F G
    unfold blackOf at e
    simp [part, hag, sizeOf, typeInfo, hi, hsz, e]
theorem part_w (n : Int) (F G : Nat → Nat) (w : World) : (part 29 (dv n F G) 17).run Try.prog w = .ok (.agg (av G)) w := by
  rcases hi : Try.prog.info? 29 with _ | i
  · have := infoPD; rw [hi] at this; cases this
  · have hsz : i.size = 16 := by have := infoPD; rw [hi] at this; simpa using this
    have hag : (isAgg 29).run Try.prog w = .ok true w := by simp [isAgg, run_underlying Try.underlying29]
    have e := whiteOf_dv n F G
    unfold whiteOf at e
    simp [part, hag, sizeOf, typeInfo, hi, hsz, e]
@[irreducible] def eqDB (n : Int) (F G : Nat → Nat) (n' : Int) (F' G' : Nat → Nat) : Bool := (n == n') && (sameB F F' && sameB G G')
theorem eqDB_iff (n : Int) (F G : Nat → Nat) (n' : Int) (F' G' : Nat → Nat) : eqDB n F G n' F' G' = true ↔ dv n F G = dv n' F' G' := by
  unfold eqDB
  rw [Bool.and_eq_true, Bool.and_eq_true, beq_iff_eq, sameB_iff, sameB_iff]
  constructor
  · rintro ⟨rfl, h1, h2⟩
    unfold dv
    apply row_congr
    intro i hi
    by_cases c : i = 0
    · rw [if_pos c, if_pos c]
    · rw [if_neg c, if_neg c]
      by_cases d : i < 17
      · rw [if_pos d, if_pos d, h1 (i - 1) (by omega)]
      · rw [if_neg d, if_neg d, h2 (i - 17) (by omega)]
  · intro h
    have hn : (dv n F G)[0]? = (dv n' F' G')[0]? := by rw [h]
    rw [dv_n, dv_n] at hn
    refine ⟨by simpa using hn, fun i hi => ?_, fun i hi => ?_⟩
    · have hb : (dv n F G)[1 + i]? = (dv n' F' G')[1 + i]? := by rw [h]
      rw [dv_b _ _ _ hi, dv_b _ _ _ hi] at hb
      simp at hb; omega
    · have hb : (dv n F G)[17 + i]? = (dv n' F' G')[17 + i]? := by rw [h]
      rw [dv_w _ _ _ hi, dv_w _ _ _ hi] at hb
      simp at hb; omega
theorem run_sameD (n : Int) (F G : Nat → Nat) (n' : Int) (F' G' : Nat → Nat) (w : World) : (Op.equalIn 10000 31 (.agg (dv n F G)) (.agg (dv n' F' G'))).run Try.prog w = .ok (eqDB n F G n' F' G') w := by
  have ht : Try.prog.underlying 31 = some (.struct (Try.prog.fieldsOf 31)) := by kernel_rfl
  have hp : Try.prog.stoodInHeld 31 = false := by kernel_rfl
  rw [run_equalIn_struct w 9999 31 _ _ ht hp]
  have hi : (Op.equalIn 9999 2 (.int .i64 n) (.int .i64 n')).run Try.prog w = .ok (n == n') w := run_equalIn_int w 9998 2 .i64 .i64 n n' Try.underlying2
  have hb : (Op.equalIn 9999 29 (.agg (av F)) (.agg (av F'))).run Try.prog w = .ok (sameB F F') w := run_sameP2 9997 F F' w
  have hw : (Op.equalIn 9999 29 (.agg (av G)) (.agg (av G'))).run Try.prog w = .ok (sameB G G') w := run_sameP2 9997 G G' w
  unfold eqDB
  rcases h1 : n == n' with _ | _
  · rw [h1] at hi
    simp [Program.fieldsOf, Try.underlying31, Op.eqFields, part_n, hi]
  · rw [h1] at hi
    rcases h2 : sameB F F' with _ | _
    · rw [h2] at hb
      simp [Program.fieldsOf, Try.underlying31, Op.eqFields, part_n, part_b, hi, hb]
    · rw [h2] at hb
      rcases h3 : sameB G G' with _ | _
      · rw [h3] at hw
        simp [Program.fieldsOf, Try.underlying31, Op.eqFields, part_n, part_b, part_w, hi, hb, hw]
      · rw [h3] at hw
        simp [Program.fieldsOf, Try.underlying31, Op.eqFields, part_n, part_b, part_w, hi, hb, hw]
@[go_sem] theorem guardD : Try.prog.eqGuardType Try.prog.depth 31 = false := by kernel_rfl
@[go_sem ↓] theorem run_eqlD (n : Int) (F G : Nat → Nat) (n' : Int) (F' G' : Nat → Nat) (w : World) : (binOp .eql 31 (.agg (dv n F G)) (.agg (dv n' F' G'))).run Try.prog w = .ok (.bool (eqDB n F G n' F' G')) w := by
  rw [run_eql_struct, run_sameD]; rfl
@[go_sem ↓] theorem run_neqD (n : Int) (F G : Nat → Nat) (n' : Int) (F' G' : Nat → Nat) (w : World) : (binOp .neq 31 (.agg (dv n F G)) (.agg (dv n' F' G'))).run Try.prog w = .ok (.bool (!eqDB n F G n' F' G')) w := by
  rw [run_neq_struct, run_sameD]; rfl
end Go.Proofs.Ytmapjjfefjoemaa

namespace Go.Proofs.Ytmapjjfefjoemaa
open Go.RowKit

def renF (p f : Nat → Nat) (m : Nat) : Nat → Nat := thenF (thenF (backF p m) f m) p m
def renTo (p f : Nat → Nat) : Nat → Nat → Nat
  | 0 => fun _ => 0
  | k + 1 => fset (renTo p f k) (p k) (p (f k))
theorem renTo_at {p f : Nat → Nat} {n : Nat} (h : Bij p n) : ∀ k, k ≤ n → ∀ x, x < k → renTo p f k (p x) = p (f x) := by
  intro k
  induction k with
  | zero => intro _ x hx; omega
  | succ k ih =>
    intro hk x hx
    show fset (renTo p f k) (p k) (p (f k)) (p x) = p (f x)
    unfold fset
    by_cases c : p x = p k
    · rw [if_pos c, h.2 x k (by omega) (by omega) c]
    · rw [if_neg c]
      by_cases d : x = k
      · subst d; exact absurd rfl c
      · exact ih (by omega) x (by omega)
theorem renTo_none {p f : Nat → Nat} {y : Nat} : ∀ k, (∀ x, x < k → p x ≠ y) → renTo p f k y = 0 := by
  intro k
  induction k with
  | zero => intro _; rfl
  | succ k ih =>
    intro h
    show fset (renTo p f k) (p k) (p (f k)) y = 0
    unfold fset
    rw [if_neg (fun e => h k (by omega) e.symm)]
    exact ih fun x hx => h x (by omega)
theorem renF_at {p f : Nat → Nat} {m x : Nat} (h : Bij p m) (hx : x < m) : renF p f m (p x) = p (f x) := by
  unfold renF
  rw [thenF_at (h.1 x hx), thenF_at (h.1 x hx), backF_at h hx]
theorem renTo_eq {p f : Nat → Nat} {m : Nat} (h : Bij p m) : renTo p f m = renF p f m := by
  funext y
  rcases Nat.lt_or_ge y m with c | c
  · obtain ⟨x, hx, rfl⟩ := h.onto c
    rw [renTo_at h m (Nat.le_refl m) x hx, renF_at h hx]
  · rw [renTo_none m fun x hx e => by have := h.1 x hx; omega]
    unfold renF
    rw [thenF_out c]
theorem renF_perm {p f : Nat → Nat} {m : Nat} (hp : PermN p m) (hf : PermN f m) : PermN (renF p f m) m := thenF_perm (thenF_perm (backF_perm hp) hf) hp

-- left out here: loop.example/g01200/impl.rename
-- left out here: loop.example/g01200/spec.l02Rename
noncomputable def renB (n : Int) (f g p : Nat → Nat) : Bool := desB n f g && permB p n
noncomputable def renR (n : Int) (f g p : Nat → Nat) : Value := if renB n f g p = true then .tuple #[.agg (dv n (renF p f n.toNat) (renF p g n.toNat)), .int .i64 0] else .tuple #[.agg (dv 0 (fun _ => 0) (fun _ => 0)), .int .i64 1]
theorem renR_eq (n : Int) (f g p : Nat → Nat) : ∃ (a : Int) (r s : Nat → Nat) (c : Int), renR n f g p = .tuple #[.agg (dv a r s), .int .i64 c] := by
  unfold renR; split
  · exact ⟨_, _, _, _, rfl⟩
  · exact ⟨_, _, _, _, rfl⟩

-- left out here: loop.example/g01200/impl.RenameDessin
-- left out here: loop.example/g01200/spec.RenameDessin
end Go.Proofs.Ytmapjjfefjoemaa

namespace Go.Proofs.Ytmapjjfefjoemaa
open Go.RowKit

theorem numA_at (c : List Nat) (i : Nat) (h : Nat → Nat) (x : Nat) : ∀ j, j ≤ c.length → numA c i j h x = if x ∈ c.take j then i else h x := by
  intro j
  induction j with
  | zero => intro _; simp [numA]
  | succ j ih =>
    intro hj
    have hg : c.getD j 0 = c[j] := by rw [List.getD_eq_getElem?_getD, List.getElem?_eq_getElem (by omega)]; rfl
    have hm : x ∈ c.take (j + 1) ↔ x ∈ c.take j ∨ x = c[j] := by rw [List.take_succ_eq_append_getElem (by omega), List.mem_append, List.mem_singleton]
    rw [numA, hg]
    unfold fset
    by_cases e : x = c[j]
    · rw [if_pos e, if_pos (hm.2 (.inr e))]
    · rw [if_neg e, ih (by omega)]
      by_cases d : x ∈ c.take j
      · rw [if_pos d, if_pos (hm.2 (.inl d))]
      · rw [if_neg d, if_neg fun h => (hm.1 h).elim d e]
theorem numT_at {cs : List (List Nat)} (hn : cs.flatten.Nodup) : ∀ K, K ≤ cs.length → ∀ i (hi : i < K) (hic : i < cs.length) x, x ∈ cs[i] → numT cs K x = i := by
  intro K
  induction K with
  | zero => intro _ i hi; omega
  | succ K ih =>
    intro hK i hi hic x hx
    have hg : cs.getD K [] = cs[K] := by rw [List.getD_eq_getElem?_getD, List.getElem?_eq_getElem (by omega)]; rfl
    rw [numT, hg, numA_at _ _ _ _ _ (Nat.le_refl _), List.take_length]
    rcases Nat.lt_or_ge i K with c | c
    · rw [if_neg, ih (by omega) i c hic x hx]
      intro hx2
      have h1 := (List.pairwise_flatten.1 hn).2
      have := List.pairwise_iff_getElem.1 h1 i K hic (by omega) c
      exact this x hx x hx2 rfl
    · obtain rfl : i = K := by omega
      rw [if_pos hx]
section
variable {p : Nat → Nat} {m : Nat}
theorem cycs_nodup (hp : PermN p m) : (cycs p m).flatten.Nodup := (cycs_flat hp.2.2.1 hp.2.1).symm.nodup (List.nodup_range)
theorem which_at (hp : PermN p m) {i : Nat} (hi : i < (cycs p m).length) {x : Nat} (hx : x ∈ (cycs p m)[i]) : whichF p m x = i :=
  numT_at (cycs_nodup hp) _ (Nat.le_refl _) i hi hi x hx
theorem which_mem (hp : PermN p m) {x : Nat} (hx : x < m) : ∃ (i : Nat) (hi : i < (cycs p m).length), x ∈ (cycs p m)[i] ∧ whichF p m x = i := by
  have h1 : x ∈ (cycs p m).flatten := (cycs_flat hp.2.2.1 hp.2.1).symm.subset (List.mem_range.2 hx)
  obtain ⟨c, hc, hxc⟩ := List.mem_flatten.1 h1
  obtain ⟨i, hi, rfl⟩ := List.getElem_of_mem hc
  exact ⟨i, hi, hxc, which_at hp hi hxc⟩
theorem which_lt (hp : PermN p m) {x : Nat} (hx : x < m) : whichF p m x < (cycs p m).length := by
  obtain ⟨i, hi, _, e⟩ := which_mem hp hx
  omega
theorem it_comm {f : Nat → Nat} (hb : Bij p m) (hc : ∀ x, x < m → f (p x) = p (f x)) (k : Nat) {x : Nat} (hx : x < m) : f (it p k x) = it p k (f x) := by
  induction k with
  | zero => rfl
  | succ k ih =>
    show f (p (it p k x)) = p (it p k (f x))
    rw [hc _ (hb.it_lt k hx), ih]
theorem which_same (hp : PermN p m) {f : Nat → Nat} (hf : ∀ x, x < m → f x < m) (hc : ∀ x, x < m → f (p x) = p (f x)) {x y : Nat} (hx : x < m) (hy : y < m) (e : whichF p m x = whichF p m y) : whichF p m (f x) = whichF p m (f y) := by
  have hb := hp.2.2.1
  obtain ⟨i, hi, hxi, e1⟩ := which_mem hp hx
  obtain ⟨j, hj, hyj, e2⟩ := which_mem hp hy
  obtain rfl : i = j := by omega
  obtain ⟨z, hz, hcz⟩ := cycs_mem hb hp.2.1 (List.getElem_mem hi)
  rw [hcz] at hxi hyj
  have r1 := (mem_orbit hb hz).1 hxi
  have r2 := (mem_orbit hb hz).1 hyj
  obtain ⟨k, hk⟩ := (R.symm hb hz r1).trans r2
  obtain ⟨i', hi', hm, e3⟩ := which_mem hp (hf x hx)
  obtain ⟨z', hz', hcz'⟩ := cycs_mem hb hp.2.1 (List.getElem_mem hi')
  have hm2 := hm
  rw [hcz'] at hm2
  have r3 := (mem_orbit hb hz').1 hm2
  have r4 : R p z' (f y) := r3.trans ⟨k, by rw [← it_comm hb hc k hx, hk]⟩
  have hm3 := (mem_orbit hb hz').2 r4
  rw [← hcz'] at hm3
  rw [e3, which_at hp hi' hm3]
/-- what renames a dessin to itself -/
theorem ren_comm {f : Nat → Nat} (hp : PermN p m) (h : ∀ i, i < 16 → renF p f m i = f i) : ∀ x, x < m → f (p x) = p (f x) := fun x hx => by
  have h1 := h (p x) (hp.lt x (by have := hp.2.1; omega))
  rw [renF_at hp.2.2.1 hx] at h1
  exact h1.symm
theorem eqDB_parts {n n' : Int} {F G F' G' : Nat → Nat} (h : eqDB n F G n' F' G' = true) : (∀ i, i < 16 → F i = F' i) ∧ ∀ i, i < 16 → G i = G' i := by
  have e := (eqDB_iff n F G n' F' G').1 h
  refine ⟨fun i hi => ?_, fun i hi => ?_⟩
  · have h1 : (dv n F G)[1 + i]? = (dv n' F' G')[1 + i]? := by rw [e]
    rw [dv_b _ _ _ hi, dv_b _ _ _ hi] at h1
    simp at h1; omega
  · have h1 : (dv n F G)[17 + i]? = (dv n' F' G')[17 + i]? := by rw [e]
    rw [dv_w _ _ _ hi, dv_w _ _ _ hi] at h1
    simp at h1; omega
/-- the numbers of the cycles, as a list -/
def whL (p : Nat → Nat) (m : Nat) : List Nat := (List.range m).map (whichF p m)
theorem whL_length (p : Nat → Nat) (m : Nat) : (whL p m).length = m := by unfold whL; simp
theorem whL_at {k : Nat} (hk : k < m) : (whL p m).getD k 0 = whichF p m k := by unfold whL; simp [List.getD_eq_getElem?_getD, hk]
theorem whL_out {k : Nat} (hk : m ≤ k) : (whL p m).getD k 0 = 0 := by unfold whL; simp [List.getD_eq_getElem?_getD, hk]
theorem whL_lt (hp : PermN p m) (k : Nat) : (whL p m).getD k 0 < 16 := by
  rcases Nat.lt_or_ge k m with c | c
  · rw [whL_at c]
    have := which_lt hp c
    have := cycs_le hp
    have := hp.2.1
    omega
  · rw [whL_out c]; omega
theorem prj_at {ns : List Nat} {f : Nat → Nat} {m : Nat} (hc : ∀ i j, i < m → j < m → ns.getD i 0 = ns.getD j 0 → ns.getD (f i) 0 = ns.getD (f j) 0) : ∀ k, k ≤ m → ∀ j, j < k → prjT ns f k (ns.getD j 0) = ns.getD (f j) 0 := by
  intro k
  induction k with
  | zero => intro _ j hj; omega
  | succ k ih =>
    intro hk j hj
    rw [prjT]
    unfold fset
    by_cases e : ns.getD j 0 = ns.getD k 0
    · rw [if_pos e]; exact (hc j k (by omega) (by omega) e).symm
    · rw [if_neg e]
      rcases Nat.lt_or_ge j k with d | d
      · exact ih (by omega) j d
      · obtain rfl : j = k := by omega
        exact absurd rfl e
theorem prj_none {ns : List Nat} {f : Nat → Nat} {y : Nat} : ∀ k, (∀ j, j < k → ns.getD j 0 ≠ y) → prjT ns f k y = 0 := by
  intro k
  induction k with
  | zero => intro _; rfl
  | succ k ih =>
    intro h
    rw [prjT]
    unfold fset
    rw [if_neg (fun e => h k (by omega) e.symm), ih fun j hj => h j (by omega)]
/-- the quotient's places -/
def quoF (p : Nat → Nat) (m : Nat) (f : Nat → Nat) : Nat → Nat := upto (fun k => whichF p m (f (((cycs p m).getD k []).getD 0 0))) (cycs p m).length
theorem cyc_head (hp : PermN p m) {k : Nat} (hk : k < (cycs p m).length) : ((cycs p m).getD k []).getD 0 0 < m ∧ whichF p m (((cycs p m).getD k []).getD 0 0) = k ∧ 0 < ((cycs p m)[k]).length ∧ ((cycs p m).getD k []).getD 0 0 ∈ (cycs p m)[k] := by
  have hg : (cycs p m).getD k [] = (cycs p m)[k] := by rw [List.getD_eq_getElem?_getD, List.getElem?_eq_getElem hk]; rfl
  have hl := (lens_pos hp.2.2.1 hp.2.1 (List.mem_map.2 ⟨_, List.getElem_mem hk, rfl⟩)).1
  have hm : ((cycs p m)[k]).getD 0 0 ∈ (cycs p m)[k] := by
    rw [List.getD_eq_getElem?_getD, List.getElem?_eq_getElem (by omega)]; exact List.getElem_mem _
  rw [hg]
  exact ⟨cyc_lt hp (List.getElem_mem hk) hm, which_at hp hk hm, hl, hm⟩
theorem prj_quo (hp : PermN p m) {f : Nat → Nat} (hf : ∀ x, x < m → f x < m) (hc : ∀ x, x < m → f (p x) = p (f x)) : prjT (whL p m) f m = quoF p m f := by
  have hcc : ∀ i j, i < m → j < m → (whL p m).getD i 0 = (whL p m).getD j 0 → (whL p m).getD (f i) 0 = (whL p m).getD (f j) 0 := fun i j hi hj e => by
    rw [whL_at hi, whL_at hj] at e
    rw [whL_at (hf i hi), whL_at (hf j hj)]
    exact which_same hp hf hc hi hj e
  funext y
  unfold quoF upto
  by_cases hy : y < (cycs p m).length
  · rw [if_pos hy]
    show _ = whichF p m (f (((cycs p m).getD y []).getD 0 0))
    obtain ⟨h1, h2, _, _⟩ := cyc_head hp hy
    generalize ((cycs p m).getD y []).getD 0 0 = z at *
    have h3 := prj_at hcc m (Nat.le_refl _) z h1
    rw [whL_at h1, h2, whL_at (hf z h1)] at h3
    exact h3
  · rw [if_neg hy]
    refine prj_none m fun j hj => ?_
    rw [whL_at hj]
    have := which_lt hp hj
    omega
theorem max_quo (hp : PermN p m) : maxU (whL p m) (m - 1) + 1 = (cycs p m).length := by
  have h1 := hp.1
  obtain ⟨i, hi, e⟩ := maxU_at (whL p m) (m - 1)
  have h2 := which_lt hp (x := i) (by omega)
  rw [whL_at (by omega)] at e
  have h0 : 0 < (cycs p m).length := by omega
  obtain ⟨h3, h4, _, _⟩ := cyc_head hp (k := (cycs p m).length - 1) (by omega)
  generalize ((cycs p m).getD ((cycs p m).length - 1) []).getD 0 0 = z at *
  have h5 := maxU_ge (whL p m) (m - 1) z (by omega)
  rw [whL_at h3, h4] at h5
  omega
end
/-- the answer -/
noncomputable def quoOk (n : Int) (f g p : Nat → Nat) : Nat := if desB n f g = true ∧ permB p n = true then if eqDB n (renF p f n.toNat) (renF p g n.toNat) n f g = true then 0 else 5 else 1
noncomputable def quoA (n : Int) (f g p : Nat → Nat) : Array Value := if quoOk n f g p = 0 then dv (cycs p n.toNat).length (quoF p n.toNat f) (quoF p n.toNat g) else dv 0 (fun _ => 0) (fun _ => 0)
noncomputable def quoL (n : Int) (f g p : Nat → Nat) : List Nat := if quoOk n f g p = 0 then whL p n.toNat else []
end Go.Proofs.Ytmapjjfefjoemaa

namespace Go.Proofs.Ytmapjjfefjoemaa
open Go.RowKit

theorem lk9_step (e0 e1 : Nat → Nat) (k : Nat) : fset (fset (lk9 (upto e0 k) (upto e1 k)) (k * 2) (e0 k)) (k * 2 + 1) (e1 k) = lk9 (upto e0 (k + 1)) (upto e1 (k + 1)) := by
  rw [← upto_step e0, ← upto_step e1]
  funext i
  simp only [fset, lk9]
  by_cases h1 : i = k * 2 + 1
  · subst h1
    rw [if_pos rfl, if_neg (by omega), if_pos (by omega)]
  · rw [if_neg h1]
    by_cases h0 : i = k * 2
    · subst h0
      rw [if_pos rfl, if_pos (by omega), if_pos (by omega)]
    · rw [if_neg h0]
      by_cases h2 : i % 2 = 0
      · rw [if_pos h2, if_pos h2, if_neg (by omega)]
      · rw [if_neg h2, if_neg h2, if_neg (by omega)]
theorem lk9_zero (e0 e1 : Nat → Nat) : lk9 (upto e0 0) (upto e1 0) = fun _ => 0 := by
  funext i; unfold lk9 upto; simp
/-- the vertices of the edges -/
def vb9 (f : Nat → Nat) (m : Nat) : Nat → Nat := upto (whichF f m) m
def vw9 (g : Nat → Nat) (m : Nat) : Nat → Nat := upto (fun x => 16 + whichF g m x) m
theorem which_lt9 {p : Nat → Nat} {m x : Nat} (hp : PermN p m) (hx : x < m) : whichF p m x < 16 := by
  have := which_lt hp hx
  have := cycs_le hp
  have := hp.2.1
  omega
theorem vl9_lt {f g : Nat → Nat} {m : Nat} (hd : DesN f g m) (x : Nat) (_ : x < 16) : vb9 f m x < 32 ∧ vw9 g m x < 32 := by
  unfold vb9 vw9 upto
  constructor
  · split
    · rename_i h; have := which_lt9 hd.black h; omega
    · omega
  · split
    · rename_i h; have := which_lt9 hd.white h; show 16 + whichF g m x < 32; omega
    · omega
set_option maxRecDepth 100000 in
set_option maxHeartbeats 2000000 in
theorem vertexLinks_any (f g : Nat → Nat) (m : Nat) (hd : DesN f g m) (w : World) :
    Calls Try.prog 107 #[.agg (dv m f g)] w fun e w' => e = .returned (.agg (nv9 (lk9 (vb9 f m) (vw9 g m)))) ∧ Below w.heap.size w w' := by
  have CB := hide fun w => cycleNumbers_any f m hd.black w
  have CW := hide fun w => cycleNumbers_any g m hd.white w
  have LB := hide fun x (hx : x < m) => which_lt9 hd.black hx
  have LW := hide fun x (hx : x < m) => which_lt9 hd.white hx
  have hm := hd.le
  have hn := dv_n m f g
  clear hd
  unfold vb9 vw9
  generalize whichF f m = hb at *
  generalize whichF g m = hw at *
  obtain ⟨e1, he1⟩ : ∃ e1 : Nat → Nat, e1 = fun x => 16 + hw x := ⟨_, rfl⟩
  rw [← he1]
  have HE1 := hide (fun x => congrFun he1 x); clear he1
  have HH0 := (((Holds.start w).blk (dv m f g) 31 w.heap.size rfl).blk (nv9 fun _ => 0) 118 (w.heap.size + 1) (by simp)).blk (nv9 fun _ => 0) 118 (w.heap.size + 1 + 1) (by simp)
  go_enter Try.func107, Try.ntmps107
  go_wp2
  rw [nv9_zero] at HH0
  rw [← nv9_zero] at HH0 ⊢
  apply Rd.region_R2 (w0 := w) [pBlk (w.heap.size + 1 + 1) (nv9 fun _ => 0) 118, pBlk (w.heap.size + 1) (nv9 fun _ => 0) 118, pBlk w.heap.size (dv m f g) 31] [pBlk (w.heap.size + 1 + 1) (nv9 fun _ => 0) 118, pBlk (w.heap.size + 1) (nv9 fun _ => 0) 118, pBlk w.heap.size (dv m f g) 31] [10, 11, 12, 13] (.q 0 <| .q 1 <| .q 2 <| .q 3 <| .q 4 <| .q 5 <| .q 6 <| .q 7 <| .q 8 <| .q 9 <| .s2 10 (.s1 11 <| .s1 12 <| .s1 13 .fin) 11 (.s1 10 <| .s1 12 <| .s1 13 .fin)) HH0 (.refl _) (by kernel_rfl) (by kernel_rfl) (by kernel_rfl) (F := fun (g4 g5 : Nat) => pBlk g5 (zv hw) 112 :: pBlk g4 (zv hb) 112 :: [pBlk (w.heap.size + 1 + 1) (nv9 fun _ => 0) 118, pBlk (w.heap.size + 1) (nv9 fun _ => 0) 118, pBlk w.heap.size (dv m f g) 31])
  case h =>
    intro K key
    iterate 4
      apply Rd.v_q
      · simp only [List.getElem?_toArray, List.getElem?_cons_zero, List.getElem?_cons_succ]; exact rfl
      · rfl
      · go_simp
      · intro wx hx
        have q1 := hx.cells 2 rfl
        have q2 := hx.cell 2 rfl hn
        unfold atG
        go_simp
        simp only [uponG]
        exact ⟨by trivial, rfl⟩
    iterate 1
      apply Rd.v_q
      · simp only [List.getElem?_toArray, List.getElem?_cons_zero, List.getElem?_cons_succ]; exact rfl
      · rfl
      · go_simp
      · intro wx hx
        have q1 := hx.cells 2 rfl
        have q2 := hx.cell 2 rfl hn
        unfold atG
        go_simp
        simp only [uponG]
        exact ⟨by trivial, CB.out wx⟩
    iterate 4
      apply Rd.v_q
      · simp only [List.getElem?_toArray, List.getElem?_cons_zero, List.getElem?_cons_succ]; exact rfl
      · rfl
      · go_simp
      · intro wx hx
        have q1 := hx.cells 2 rfl
        have q2 := hx.cell 2 rfl hn
        unfold atG
        go_simp
        simp only [uponG]
        exact ⟨by trivial, rfl⟩
    iterate 1
      apply Rd.v_q
      · simp only [List.getElem?_toArray, List.getElem?_cons_zero, List.getElem?_cons_succ]; exact rfl
      · rfl
      · go_simp
      · intro wx hx
        have q1 := hx.cells 2 rfl
        have q2 := hx.cell 2 rfl hn
        unfold atG
        go_simp
        simp only [uponG]
        exact ⟨by trivial, CW.out wx⟩
    refine ⟨?_, ?_⟩
    · skip
      refine Rd.v_box (zv fun _ => 0) 112 (by simp only [List.getElem?_toArray, List.getElem?_cons_zero, List.getElem?_cons_succ]; exact rfl) rfl (by go_simp) (fun wx hx hD => by rw [zv_zero]; go_simp) fun g4 => ?_
      refine Rd.v_box (zv fun _ => 0) 112 (by simp only [List.getElem?_toArray, List.getElem?_cons_zero, List.getElem?_cons_succ]; exact rfl) rfl (by go_simp) (fun wx hx hD => by rw [zv_zero]; go_simp) fun g5 => ?_
      refine Rd.v_put 1 g4 (zv fun _ => 0) (zv hb) 112 rfl (.cons _ (.cons _ (.refl _))) (by simp only [List.getElem?_toArray, List.getElem?_cons_zero, List.getElem?_cons_succ]; exact rfl) rfl (by go_simp) (fun wx hx hD => ?_) ?_
      · have rr := hD.rowOk (n := 16) 1 rfl (zv_size _)
        go_simp
      refine Rd.v_put 0 g5 (zv fun _ => 0) (zv hw) 112 rfl (.cons _ (.cons _ (.refl _))) (by simp only [List.getElem?_toArray, List.getElem?_cons_zero, List.getElem?_cons_succ]; exact rfl) rfl (by go_simp) (fun wx hx hD => ?_) ?_
      · have rr := hD.rowOk (n := 16) 0 rfl (zv_size _)
        go_simp
      rintro wz - hz
      go_simp
      exact key _ _ _ hz
    · skip
      refine Rd.v_box (zv fun _ => 0) 112 (by simp only [List.getElem?_toArray, List.getElem?_cons_zero, List.getElem?_cons_succ]; exact rfl) rfl (by go_simp) (fun wx hx hD => by rw [zv_zero]; go_simp) fun g5 => ?_
      refine Rd.v_box (zv fun _ => 0) 112 (by simp only [List.getElem?_toArray, List.getElem?_cons_zero, List.getElem?_cons_succ]; exact rfl) rfl (by go_simp) (fun wx hx hD => by rw [zv_zero]; go_simp) fun g4 => ?_
      refine Rd.v_put 0 g4 (zv fun _ => 0) (zv hb) 112 rfl (.cons _ (.cons _ (.refl _))) (by simp only [List.getElem?_toArray, List.getElem?_cons_zero, List.getElem?_cons_succ]; exact rfl) rfl (by go_simp) (fun wx hx hD => ?_) ?_
      · have rr := hD.rowOk (n := 16) 0 rfl (zv_size _)
        go_simp
      refine Rd.v_put 1 g5 (zv fun _ => 0) (zv hw) 112 rfl (.cons _ (.cons _ (.refl _))) (by simp only [List.getElem?_toArray, List.getElem?_cons_zero, List.getElem?_cons_succ]; exact rfl) rfl (by go_simp) (fun wx hx hD => ?_) ?_
      · have rr := hD.rowOk (n := 16) 1 rfl (zv_size _)
        go_simp
      rintro wz - hz
      go_simp
      exact key _ _ _ (hz.perm (List.Perm.swap _ _ _))
  intro g4 g5 w2 H2
  clear HH0
  have c2 := H2.cell 4 rfl hn
  have HZ : Hid (nv9 (fun _ => 0) = nv9 (lk9 (upto hb 0) (upto e1 0))) := hide (by rw [lk9_zero])
  go_wp2
  clear c2
  go_loopw [19] (fun t wr => ∃ k : Nat, k ≤ m ∧ t = .int .i64 k ∧ Holds w wr [pBlk g5 (zv hw) 112, pBlk g4 (zv hb) 112, pBlk (w.heap.size + 1 + 1) (nv9 (lk9 (upto hb k) (upto e1 k))) 118, pBlk (w.heap.size + 1) (nv9 fun _ => 0) 118, pBlk w.heap.size (dv m f g) 31]) (fun t _ => m - (intOf t).toNat)
  case atStart => exact ⟨0, Nat.zero_le _, rfl, by rw [← HZ.out]; exact H2⟩
  case round =>
    clear H2 HZ
    obtain ⟨k, hk, rfl, hH⟩ := hrel
    by_cases hlt : k < m
    · have hki : (k : Int) < m := by omega
      have hk16 : k < 16 := by omega
      have hk16i : (k : Int) < 16 := by omega
      have lb := LB.out k hlt
      have lw := LW.out k hlt
      have he := HE1.out k
      have HST := hide (lk9_step hb e1 k)
      have cn0 := hH.cell 4 rfl hn
      go_wp2
      clear cn0
      refine region_tail (fun wx => Holds w wx _) 9 (by kernel_rfl) (by kernel_rfl) hH.drew ?_
      simp only [List.take_succ_cons, List.take_zero, List.drop_succ_cons, List.drop_zero]
      iterate 9
        apply q_step
        · go_simp
        · intro wx hx
          have q1 := hx.cell 1 rfl (zv_get hb hk16)
          have q2 := hx.cell 0 rfl (zv_get hw hk16)
          go_simp
          try exact rfl
      refine wpQuiet_nil ?_
      intro w4 H4
      have c0 := H4.cell 2 rfl (nv9_get _ (show k * 2 < 32 by omega))
      have c1 := H4.cell 2 rfl (nv9_get _ (show k * 2 + 1 < 32 by omega))
      have f0 := H4.frozen 2 rfl (k * 2)
      have f1 := H4.frozen 2 rfl (k * 2 + 1)
      have H5 := H4.set 2 rfl (k * 2) (.int .i64 (hb k : Nat))
      have H6 := H5.set 2 rfl (k * 2 + 1) (.int .i64 ((e1 k : Nat) : Int))
      simp only [List.set_cons_succ, List.set_cons_zero] at H6
      rw [nv9_set, nv9_set, HST.out] at H6
      rw [he] at H6
      have HQ := hide H6; clear H4 H5 H6
      go_wp2
      go_roundw
      case rel => exact ⟨k + 1, by omega, by go_num, HQ.out⟩
      case measure => simp [intOf]; omega
    · obtain rfl : m = k := by omega
      have cc := hH.cells 2 rfl
      have rr := hH.rowOk 3 rfl (nv9_size _)
      have HQ := hide hH
      clear hk hlt hH
      go_wp2
      have H2 := HQ.out.setRow 3 rfl (nv9 (lk9 (upto hb m) (upto e1 m)))
      exact res_agg (p := 2) (g := (w.heap.size + 1)) aggL9 (nv9_size _) rfl rfl rfl (H2.at 3 rfl) ⟨rfl, H2.low⟩
end Go.Proofs.Ytmapjjfefjoemaa

namespace Go.Proofs.Ytmapjjfefjoemaa
open Go.RowKit

theorem Holds.rowCell9 {w0 w : World} {L : List Part} (h : Holds w0 w L) (i : Nat) {g n c : Nat} {e : TypeId} {xs : List Value} (hi : L[i]? = some (pRow (.slice (some ⟨g, 0, none⟩) n c) e 1 n xs)) {j : Nat} {u : Value} (hj : xs[j]? = some u) :
    w.cell? ⟨g, j, none⟩ = some u ∧ w.frozen? ⟨g, j, none⟩ = false := by
  have hl : xs.length = n := by have := (h.row i hi).1; omega
  have := (List.getElem?_eq_some_iff.1 hj).1
  obtain ⟨g', c', e, _, _, _, _, h6, h7⟩ := row_at (h.row i hi) (by omega : 0 < n)
  simp only [Value.slice.injEq, Option.some.injEq, Addr.mk.injEq] at e
  obtain ⟨⟨rfl, _, _⟩, _, _⟩ := e
  exact ⟨h6 j u hj, h7 j⟩
/-- the first k numbers in their places, zeros behind them -/
def upr9 (n k : Nat) : List Nat := (List.range n).map fun i => if i < k then i else 0
theorem upr9_length (n k : Nat) : (upr9 n k).length = n := by simp [upr9]
theorem upr9_zero (n : Nat) : upr9 n 0 = List.replicate n 0 := by
  unfold upr9
  apply List.ext_getElem
  · simp
  · intro i h1 h2; simp
theorem upr9_end (n : Nat) : upr9 n n = List.range n := by
  unfold upr9
  apply List.ext_getElem
  · simp
  · intro i h1 h2
    simp at h1
    simp [h1]
theorem upr9_set (n k : Nat) (h : k < n) : (upr9 n k).set k k = upr9 n (k + 1) := by
  unfold upr9
  apply List.ext_getElem
  · simp
  · intro i h1 h2
    simp at h2
    rw [List.getElem_set]
    simp
    split
    · rename_i e; subst e; simp
    · by_cases c : i < k
      · rw [if_pos c, if_pos (by omega)]
      · rw [if_neg c, if_neg (by omega)]
theorem nums_set9 (l : List Nat) (i x : Nat) : (nums l).set i (.int .i64 (x : Int)) = nums (l.set i x) := by unfold nums; rw [List.map_set]
/-- the tree edges and the others -/
def tre9 (f g : Nat → Nat) (m : Nat) : List Nat × List Nat := spl9 (vb9 f m) (vw9 g m) (List.range m)
set_option maxRecDepth 100000 in
set_option maxHeartbeats 2000000 in
theorem splitByTree_any (f g : Nat → Nat) (m : Nat) (hd : DesN f g m) (w : World) :
    Calls Try.prog 77 #[.agg (dv m f g)] w fun e w' => ∃ v1 v2, e = .returned (.tuple #[v1, v2]) ∧ Holds w w' [pInts v1 (tre9 f g m).1, pInts v2 (tre9 f g m).2] := by
  have CV := hide fun w => vertexLinks_any f g m hd w
  have CS := hide fun v w hv => split_any (vb9 f m) (vw9 g m) (vl9_lt hd) v (List.range m) (fun x hx => by have := List.mem_range.1 hx; have := hd.le; omega) (by rw [List.length_range]; exact hd.le) w hv
  have hT : tre9 f g m = spl9 (vb9 f m) (vw9 g m) (List.range m) := rfl
  rw [hT]
  generalize spl9 (vb9 f m) (vw9 g m) (List.range m) = T at *
  generalize lk9 (vb9 f m) (vw9 g m) = E at *
  have hm := hd.le
  have hn := dv_n m f g
  clear hd hT
  obtain ⟨i0, hi, hz0, hz1, hz2⟩ := info_parts info64
  have I0 := hide (And.intro hi (And.intro hz0 (And.intro hz1 hz2))); clear hi hz0 hz1 hz2
  have HH0 := (Holds.start w).blk (dv m f g) 31 w.heap.size rfl
  go_enter Try.func77, Try.ntmps77
  go_wp2_with (refine makeH (P := Try.prog) rfl 25 _ _ rfl 2 i0 (.int .i64 0) 8 Try.underlying25 I0.out.1 I0.out.2.1 I0.out.2.2.1 I0.out.2.2.2 rfl m .i64 .i64 rfl rfl (by omega) (by decide) HH0 ?_)
  intro w1 H1
  clear HH0
  have H2 : Holds w w1 [pRow (.slice (some ⟨w.heap.size + 1, 0, none⟩) m m) 2 1 m (nums (upr9 m 0)), pBlk w.heap.size (dv m f g) 31] := by
    rw [upr9_zero]; unfold nums; rw [List.map_replicate]; exact H1
  clear H1
  go_wp2
  go_loopw [11] (fun t wr => ∃ k : Nat, k ≤ m ∧ t = .int .i64 k ∧ Holds w wr [pRow (.slice (some ⟨w.heap.size + 1, 0, none⟩) m m) 2 1 m (nums (upr9 m k)), pBlk w.heap.size (dv m f g) 31]) (fun t _ => m - (intOf t).toNat)
  case atStart => exact ⟨0, Nat.zero_le _, rfl, H2⟩
  case round =>
    clear H2
    obtain ⟨k, hk, rfl, hH⟩ := hrel
    by_cases hlt : k < m
    · have hki : (k : Int) < m := by omega
      obtain ⟨z0, z1⟩ := hH.rowCell9 0 rfl (nums_at (l := upr9 m k) (k := k) (by rw [upr9_length]; exact hlt))
      have hP := hH.put 0 rfl k (.int .i64 (k : Nat))
      simp only [List.set_cons_zero] at hP
      rw [nums_set9, upr9_set m k hlt] at hP
      have HQ := hide hP
      clear hP hH
      generalize (upr9 m k)[k]'(by rw [upr9_length]; exact hlt) = old at z0
      go_wp2
      go_roundw
      case rel => exact ⟨k + 1, by omega, by go_num, HQ.out⟩
      case measure => simp [intOf]; omega
    · obtain rfl : m = k := by omega
      rw [upr9_end] at hH
      have hH2 : Holds w wr [pInts (.slice (some ⟨w.heap.size + 1, 0, none⟩) m m) (List.range m), pBlk w.heap.size (dv m f g) 31] := by
        unfold pInts; rw [List.length_range]; exact hH
      have cd := hH2.cells 1 rfl
      clear hk hlt hH
      go_wp2_with fail
      refine (CV.out _).mono ?_
      rintro e w2 ⟨rfl, hb⟩
      have H3 := hH2.call hb
      clear hb hH2 cd
      have RR := hide (rd_nums (H3.own1 0 rfl) (by rw [List.length_range]; omega))
      go_wp2_with fail
      refine (CS.out _ _ RR.out).mono ?_
      rintro e w3 ⟨v1, v2, rfl, hk⟩
      have H4 := H3.joinL hk
      have HQ := hide (H4.sub (L' := [pInts v1 T.1, pInts v2 T.2]) (.cons _ (.cons _ (.refl _))))
      clear hk H3 H4
      go_wp2
      go_ret2
      exact ⟨_, _, rfl, HQ.out⟩
open Classical in
noncomputable def teL9 (n : Int) (f g : Nat → Nat) : List Int := if desB n f g = true then zs9 (tre9 f g n.toNat).1 else []
open Classical in
noncomputable def teC9 (n : Int) (f g : Nat → Nat) : Int := if desB n f g = true then 0 else 1
theorem tre9_len (f g : Nat → Nat) (m : Nat) : (tre9 f g m).1.length + (tre9 f g m).2.length = m := by unfold tre9; rw [spl9_len, List.length_range]
set_option maxRecDepth 100000 in
set_option maxHeartbeats 2000000 in
theorem treeEdges_any (n : Int) (f g : Nat → Nat) (hf : ∀ i, f i < 256) (hg : ∀ i, g i < 256) (w : World) :
    Calls Try.prog 37 #[.agg (dv n f g)] w fun e w' => ∃ v, e = .returned (.tuple #[v, .int .i64 (teC9 n f g)]) ∧ Below w.heap.size w w' ∧ OwnZ w.heap.size w' v (teL9 n f g) := by
  have C1 := hide fun w => isDessin_any n f g hf hg w
  clear hf hg
  have HH0 := (Holds.start w).blk (dv n f g) 31 w.heap.size rfl
  rcases h1 : desB n f g with _ | _
  · rw [h1] at C1
    rw [show teL9 n f g = [] from if_neg (by simp [h1]), show teC9 n f g = 1 from if_neg (by simp [h1])]
    clear h1
    go_enter Try.func37, Try.ntmps37
    go_wp2_with fail
    refine (C1.out _).mono ?_
    rintro e w1 ⟨rfl, hb⟩
    have HH1 := HH0.call hb
    go_wp2
    go_ret2
    exact ⟨.slice none 0 0, rfl, HH1.low, World.ownsRow_nil _ _ _ _⟩
  rw [h1] at C1
  rw [show teL9 n f g = zs9 (tre9 f g n.toNat).1 from if_pos h1, show teC9 n f g = 0 from if_pos h1]
  obtain ⟨m, rfl, hd⟩ := desB_true h1
  rw [Int.toNat_natCast]
  have C2 := hide fun w => splitByTree_any f g m hd w
  generalize tre9 f g m = T at *
  clear h1 hd
  go_enter Try.func37, Try.ntmps37
  go_wp2_with fail
  refine (C1.out _).mono ?_
  rintro e w1 ⟨rfl, hb⟩
  have HH1 := HH0.call hb
  have cd1 := HH1.cells 0 rfl
  clear hb HH0
  go_wp2_with fail
  refine (C2.out _).mono ?_
  rintro e w2 ⟨v1, v2, rfl, hk⟩
  have H4 := HH1.joinL hk
  have HQ := hide (H4.sub (L' := [pInts v1 T.1, pInts v2 T.2]) (.cons _ (.refl _)))
  clear hk H4 HH1 cd1
  go_wp2
  go_ret2
  exact ⟨_, rfl, HQ.out.low, (HQ.out.own1 0 rfl).z⟩
end Go.Proofs.Ytmapjjfefjoemaa

namespace Go.Proofs.Ytmapjjfefjoemaa
open Go.RowKit

set_option maxRecDepth 100000 in
set_option maxHeartbeats 1000000 in
theorem l09Alone_any (n : Nat) (hn : n ≤ 1000) (w : World) :
    Calls Try.prog 105 #[.int .i64 n] w fun e w' => ∃ u, e = .returned u ∧ Holds w w' [pInts u (List.range n)] := by
  have H1 := (Holds.start w).rowNew #[] 2 1 0 w.heap.size rfl rfl (by decide)
  have H2 : Holds w (w.alloc (.cells #[] 2)) [pInts (.slice (some ⟨w.heap.size, 0, none⟩) 0 0) (List.range 0)] := H1
  clear H1
  go_enter Try.func105, Try.ntmps105
  go_wp2
  go_loopw [3, 4] (fun q t wr => ∃ k : Nat, k ≤ n ∧ t = .int .i64 k ∧ Holds w wr [pInts q (List.range k)]) (fun _ t _ => n - (intOf t).toNat)
  case atStart => exact ⟨0, Nat.zero_le _, rfl, H2⟩
  case round =>
    clear H2
    obtain ⟨k, hk, rfl, hH⟩ := hrel
    by_cases hlt : k < n
    · have hki : (k : Int) < n := by omega
      obtain ⟨A, c, rfl⟩ := hH.intsForm 0 rfl
      rw [List.length_range]
      rw [List.length_range] at hH
      go_wp2_with (at_builtin; refine appI (hH.alloc _) 0 rfl wr.heap.size [k] 2 ?_ ?_ rfl _ _ rfl rfl rfl ?_)
      · exact heap_at _ _ _ rfl
      · simp only [List.length_cons, List.length_nil, List.length_range]; omega
      intro v' w' h1
      rw [← List.range_succ] at h1
      have HQ := hide h1
      clear hH h1
      go_wp2
      go_roundw
      case rel => exact ⟨k + 1, by omega, by go_num, HQ.out⟩
      case measure => simp [intOf]; omega
    · obtain rfl : n = k := by omega
      clear hk hlt
      go_wp2
      go_ret
      exact ⟨_, rfl, hH⟩
/-- numbers of the first n places -/
def cl9 (h : Nat → Nat) (n : Nat) : List Nat := (List.range n).map h
theorem cl9_length (h : Nat → Nat) (n : Nat) : (cl9 h n).length = n := by simp [cl9]
theorem cl9_get (h : Nat → Nat) {n k : Nat} (hk : k < n) (h' : k < (cl9 h n).length) : (cl9 h n)[k] = h k := by simp [cl9]
theorem cl9_at (h : Nat → Nat) {n k : Nat} (hk : k < n) : (nums (cl9 h n))[k]? = some (.int .i64 (h k : Nat)) := by rw [nums_at (by rw [cl9_length]; exact hk), cl9_get h hk]
theorem cl9_set (h : Nat → Nat) (n k x : Nat) : (cl9 h n).set k x = cl9 (fset h k x) n := by
  unfold cl9
  apply List.ext_getElem
  · simp
  · intro i h1 h2
    rw [List.getElem_set]
    simp only [List.getElem_map, List.getElem_range, fset]
    by_cases e : k = i
    · subst e; simp
    · rw [if_neg e, if_neg (Ne.symm e)]
theorem cl9_congr {h h' : Nat → Nat} {n : Nat} (e : ∀ i, i < n → h i = h' i) : cl9 h n = cl9 h' n := by
  unfold cl9
  exact List.map_congr_left fun i hi => e i (List.mem_range.1 hi)
theorem cl9_id (n : Nat) : cl9 id n = List.range n := by simp [cl9]
theorem Holds.intCell9 {w0 w : World} {L : List Part} (h : Holds w0 w L) (i : Nat) {g n c : Nat} {l : List Nat} (hi : L[i]? = some (pInts (.slice (some ⟨g, 0, none⟩) n c) l)) {k x : Nat} (hk : l[k]? = some x) :
    w.cell? ⟨g, k, none⟩ = some (.int .i64 (x : Nat)) ∧ w.frozen? ⟨g, k, none⟩ = false := by
  obtain ⟨hl, rfl⟩ := List.getElem?_eq_some_iff.1 hk
  obtain ⟨g', c', e, _, h1, h2⟩ := h.ints i hi hl
  injection e with e
  injection e with e
  injection e with e
  subst e
  exact ⟨h1, h2⟩
theorem cl9_get? (h : Nat → Nat) {n k : Nat} (hk : k < n) : (cl9 h n)[k]? = some (h k) := by unfold cl9; simp [hk]
def joi9 (h : Nat → Nat) (a b : Nat) : Nat → Nat := fun p => if h p = h b then h a else h p
set_option maxRecDepth 100000 in
set_option maxHeartbeats 1000000 in
theorem l09Join_any (h : Nat → Nat) (n a b : Nat) (hn : n ≤ 1000) (ha : a < n) (hb : b < n) (v : Value) (w0 w : World) (L : List Part) (H : Holds w0 w (pInts v (cl9 h n) :: L)) :
    Calls Try.prog 106 #[v, .int .i64 a, .int .i64 b] w fun e w' => e = .returned (.bool (decide (h a ≠ h b))) ∧ Holds w0 w' (pInts v (cl9 (joi9 h a b) n) :: L) := by
  obtain ⟨A, c, rfl⟩ := H.intsForm 0 rfl
  rw [cl9_length] at H ⊢
  obtain ⟨G, c', eA, _, _, _, _, _, _⟩ := row_at (H.row 0 rfl) (by rw [cl9_length]; omega)
  injection eA with eA e1 e2
  subst eA
  clear e1 e2
  have z0 := (H.intCell9 0 rfl (cl9_get? h ha)).1
  have z1 := (H.intCell9 0 rfl (cl9_get? h hb)).1
  obtain ⟨h2, hh2⟩ : ∃ h2, h2 = joi9 h a b := ⟨_, rfl⟩
  have hh3 : ∀ p, h2 p = if h p = h b then h a else h p := fun p => by rw [hh2]; rfl
  rw [← hh2]
  have HS : Hid (h a = h b → h2 = h) := hide fun e => by
    funext p; rw [hh3]; split
    · rename_i q; rw [q, e]
    · rfl
  clear hh2
  have hai : (a : Int) < n := by omega
  have hbi : (b : Int) < n := by omega
  generalize hka : h a = ka at *
  generalize hkb : h b = kb at *
  have HH3 := hide hh3; clear hh3 hka hkb
  by_cases e : ka = kb
  · have hq : ((kb : Int) == (ka : Int)) = true := by simp; omega
    have HS2 := hide (HS.out e)
    rw [show decide (ka ≠ kb) = false by simp [e]]
    clear e HS HH3
    go_enter Try.func106, Try.ntmps106
    go_wp2
    go_quiet (fail)
    have HZ := H.drewN nq
    clear H z0 z1
    generalize w.drewN nq = wz at *
    go_wp2
    go_ret
    exact ⟨rfl, by rw [HS2.out]; exact HZ⟩
  · have hq : ((kb : Int) == (ka : Int)) = false := by simp; omega
    rw [show decide (ka ≠ kb) = true by simp [e]]
    clear HS
    have HM : Hid (cl9 h n = cl9 (fun p => if p < 0 then h2 p else h p) n) := hide (cl9_congr fun i _ => by rw [if_neg (by omega)])
    clear e
    go_enter Try.func106, Try.ntmps106
    go_wp2
    go_quiet (fail)
    have HZ := H.drewN nq
    clear H z0 z1
    generalize w.drewN nq = wz at *
    go_wp2
    clear hq
    go_loopw [9] (fun t wr => ∃ k : Nat, k ≤ n ∧ t = .int .i64 k ∧ Holds w0 wr (pInts (.slice (some ⟨G, 0, none⟩) n c) (cl9 (fun p => if p < k then h2 p else h p) n) :: L)) (fun t _ => n - (intOf t).toNat)
    case atStart => exact ⟨0, Nat.zero_le _, rfl, by rw [← HM.out]; exact HZ⟩
    case round =>
      clear HZ HM
      obtain ⟨k, hk, rfl, hH⟩ := hrel
      by_cases hlt : k < n
      · have hki : (k : Int) < n := by omega
        obtain ⟨z0, z1⟩ := hH.intCell9 0 rfl (cl9_get? _ hlt)
        have hH0 := hH
        unfold pInts at hH
        rw [cl9_length] at hH
        have h3 := HH3.out k
        simp only [Nat.lt_irrefl, if_false] at z0
        have hP := hH.put 0 rfl k (.int .i64 (ka : Nat))
        simp only [List.set_cons_zero] at hP
        rw [nums_set9, cl9_set] at hP
        by_cases e : h k = kb
        · have hq : (((h k : Nat) : Int) == (kb : Int)) = true := by rw [e]; simp
          rw [if_pos e] at h3
          have HF := hide (cl9_congr (h := fset (fun p => if p < k then h2 p else h p) k ka) (h' := fun p => if p < k + 1 then h2 p else h p) (n := n) fun i _ => by
            simp only [fset]
            by_cases c : i = k
            · subst c; rw [if_pos rfl, if_pos (by omega), h3]
            · rw [if_neg c]; by_cases c2 : i < k
              · rw [if_pos c2, if_pos (by omega)]
              · rw [if_neg c2, if_neg (by omega)])
          rw [HF.out] at hP
          have HQ : Hid (Holds w0 (wr.setCell ⟨G, k, none⟩ (.int .i64 (ka : Nat))) (pInts (.slice (some ⟨G, 0, none⟩) n c) (cl9 (fun p => if p < k + 1 then h2 p else h p) n) :: L)) := hide (by unfold pInts; rw [cl9_length]; exact hP)
          clear hP hH hH0 HF e h3
          generalize h k = hk9 at *
          go_wp2
          go_roundw
          case rel => exact ⟨k + 1, by omega, by go_num, HQ.out⟩
          case measure => simp [intOf]; omega
        · have hq : (((h k : Nat) : Int) == (kb : Int)) = false := by simp; omega
          rw [if_neg e] at h3
          have HF := hide (cl9_congr (h := fun p => if p < k then h2 p else h p) (h' := fun p => if p < k + 1 then h2 p else h p) (n := n) fun i _ => by
            by_cases c : i = k
            · subst c; rw [if_neg (by omega), if_pos (by omega), h3]
            · by_cases c2 : i < k
              · rw [if_pos c2, if_pos (by omega)]
              · rw [if_neg c2, if_neg (by omega)])
          have HQ : Hid (Holds w0 wr (pInts (.slice (some ⟨G, 0, none⟩) n c) (cl9 (fun p => if p < k + 1 then h2 p else h p) n) :: L)) := hide (by rw [← HF.out]; exact hH0)
          clear hP hH hH0 HF e h3
          generalize h k = hk9 at *
          go_wp2
          go_roundw
          case rel => exact ⟨k + 1, by omega, by go_num, HQ.out⟩
          case measure => simp [intOf]; omega
      · obtain rfl : n = k := by omega
        have HQ := hide (show Holds w0 wr (pInts (.slice (some ⟨G, 0, none⟩) n c) (cl9 h2 n) :: L) by rw [cl9_congr (h := h2) (h' := fun p => if p < n then h2 p else h p) fun i hi => by rw [if_pos hi]]; exact hH)
        clear hk hlt hH
        go_wp2
        go_ret
        exact ⟨rfl, HQ.out⟩
end Go.Proofs.Ytmapjjfefjoemaa
