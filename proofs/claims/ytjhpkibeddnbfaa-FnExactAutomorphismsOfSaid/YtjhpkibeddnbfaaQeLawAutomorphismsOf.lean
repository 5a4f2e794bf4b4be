/- Texts put together: AutOf -/
import Derived.Test.YtjhpkibeddnbfaaQdLawAutomorphismsOf
import Derived.Test.YtjhpkibeddnbfaaChecked
import Derived.WalkKit
import Derived.WalkSpells
import Derived.WalkLawsBesides
import Derived.Deep.LoopGhost
import Derived.Deep.OwnRows
import Derived.Laws.Rows
import Derived.Laws.Tables
import Derived.Laws.CopyOwn
import Derived.ProofKit
import Derived.OpenShut
import Derived.ShutString
import Derived.ChangeOld
import Derived.Below
import Derived.Laws.OwnMore
import Derived.Maps.Keyed
import Derived.DeepKeys4
import Derived.Maps.Own
import Derived.Laws.CopyRow
import Derived.Deep.MidRow
import Derived.Carry
import Derived.BigQuiet
import Derived.Deep.QuietTactic
import Derived.RegionTactic
import Derived.Deep.RegionWith
import Derived.Deep.Quiet
import Derived.StillTail
import Derived.ChangeKeysEq
import Derived.StillTailTactics
import Derived.Deep.RegionHeld3
import Derived.Laws.Cover3
import Derived.Lib.Bytealg
import Derived.Lib.BytesEntry
import Derived.Laws.Externs
import Derived.Laws.StructEq
import Derived.IntWalk
namespace Go.Proofs.Ytjhpkibeddnbfaa
open Go.RowKit

noncomputable def autR (n : Int) (f g : Nat → Nat) : List (Nat → Nat) := isoR n f g n f g
noncomputable def autC (n : Int) (f g : Nat → Nat) : Int := bothC n f g n f g
theorem autR_bound (n : Int) (f g : Nat → Nat) : (autR n f g).length ≤ 16 := isoR_bound n f g n f g

set_option maxRecDepth 100000 in
set_option maxHeartbeats 1000000 in
theorem automorphismsOf_any (n : Int) (f g : Nat → Nat) (hf : ∀ i, f i < 256) (hg : ∀ i, g i < 256) (w : World) :
    Calls Try.prog 20 #[.agg (dv n f g)] w fun e w' => ∃ v, e = .returned (.tuple #[v, .int .i64 (autC n f g)]) ∧ Below w.heap.size w w' ∧ OwnR w.heap.size w' v (autR n f g).length (plB (autR n f g)) := by
  have C1 := hide fun w => isomorphismsOf_any n f g hf hg n f g hf hg w
  clear hf hg
  unfold autR autC
  generalize isoR n f g n f g = L at *
  generalize bothC n f g n f g = c at *
  have HH0 := (Holds.start w).blk (dv n f g) 30 w.heap.size rfl
  go_enter Try.func20, Try.ntmps20
  go_wp2_with fail
  refine (C1.out _).mono ?_
  rintro e w1 ⟨v, rfl, hb, ho⟩
  have HH1 := HH0.newRow hb ho
  clear hb ho HH0
  go_wp2
  go_ret2
  exact ⟨v, rfl, HH1.low, HH1.row 0 rfl⟩

set_option maxRecDepth 100000 in
set_option maxHeartbeats 1000000 in
theorem sAutomorphismsOf_any (n : Int) (f g : Nat → Nat) (hf : ∀ i, f i < 256) (hg : ∀ i, g i < 256) (w : World) :
    Calls Try.prog 19 #[.agg (dv n f g)] w fun e w' => ∃ v, e = .returned (.tuple #[v, .int .i64 (autC n f g)]) ∧ Below w.heap.size w w' ∧ OwnR w.heap.size w' v (autR n f g).length (plB (autR n f g)) := by
  have C1 := hide fun w => sIs_any n f g hf hg w
  clear hf hg
  have HH0 := (Holds.start w).blk (dv n f g) 30 w.heap.size rfl
  rcases h1 : desB n f g with _ | _
  · rw [h1] at C1
    have hr : autR n f g = [] := by unfold autR isoR; rw [if_neg (by simp [h1])]
    have hc : autC n f g = 1 := by unfold autC bothC; rw [if_neg (by simp [h1])]
    rw [hr, hc]
    clear h1 hr hc
    go_enter Try.func19, Try.ntmps19
    go_wp2_with fail
    refine (C1.out _).mono ?_
    rintro e w1 ⟨rfl, hb⟩
    have HH1 := HH0.call hb
    clear hb HH0
    go_wp2
    go_ret2
    exact ⟨.slice none 0 0, rfl, HH1.low, World.ownsRow_nil _ _ _ _⟩
  · rw [h1] at C1
    have hr : autR n f g = isoL f g n.toNat f g n.toNat := by unfold autR isoR; rw [if_pos ⟨h1, h1⟩]
    have hc : autC n f g = 0 := by unfold autC bothC; rw [if_pos ⟨h1, h1⟩]
    rw [hr, hc]
    obtain ⟨m, rfl, hd⟩ := desB_true h1
    simp only [Int.toNat_natCast]
    have C3 := hide fun (w : World) => sAll_any f g m hd f g m hd w
    clear h1 hd hr hc
    generalize isoL f g m f g m = L at *
    go_enter Try.func19, Try.ntmps19
    go_wp2_with fail
    refine (C1.out _).mono ?_
    rintro e w1 ⟨rfl, hb⟩
    have HH1 := HH0.call hb
    have cd := HH1.cells 0 rfl
    clear hb HH0
    go_wp2_with fail
    refine (C3.out _).mono ?_
    rintro e w2 ⟨v, rfl, hb, ho⟩
    have HH2 := HH1.newRow hb ho
    clear hb ho HH1 cd
    go_wp2
    go_ret2
    exact ⟨v, rfl, HH2.low, HH2.row 0 rfl⟩

set_option maxRecDepth 100000 in
set_option maxHeartbeats 1000000 in
theorem fnExactAutomorphismsOf_walk (n : Int) (f g : Nat → Nat) (_hn : -9223372036854775808 ≤ n ∧ n ≤ 9223372036854775807) (hf : ∀ i, f i < 256) (hg : ∀ i, g i < 256) (w : World) :
    Calls Try.prog 4 #[.agg (dv n f g)] w fun e w' => e = .returned (.bool true) ∧ Below w.heap.size w w' := by
  clear _hn 
  have C1 := hide fun w => automorphismsOf_any n f g hf hg  w
  have C2 := hide fun w => sAutomorphismsOf_any n f g hf hg  w
  have hL := autR_bound n f g
  generalize autR n f g = L at *
  generalize autC n f g = c at *
  clear hf hg
  have hne : (c != c) = false := by simp
  have hnt : (((1 + 16 * L.length : Nat) : Int) != ((1 + 16 * L.length : Nat) : Int)) = false := by simp
  have hneg : decide (((1 + 16 * L.length : Nat) : Int) < 0) = false := decide_eq_false (by omega)
  go_enter Try.func4, Try.ntmps4
  go_wp2_with fail
  refine (toDessin_any n f g _).mono ?_
  rintro e w1 ⟨rfl, h1⟩
  go_wp2_with fail
  refine (C2.out _).mono ?_
  rintro e w2 ⟨v0, rfl, h2, o0⟩
  obtain ⟨A0, c0, rfl, p0⟩ := ownR_form o0
  clear o0
  have b2 := h1.trans (h2.mono h1.size)
  have g2 : cellsOf w2 w.heap.size = dv n f g := (below_cells b2 (by simp)).trans (cellsOf_heap (heap_at _ _ _ rfl))
  have O0 := hide p0; clear p0
  clear h1 h2
  go_wp2_with fail
  refine (toDessin_any n f g _).mono ?_
  rintro e w3 ⟨rfl, h3⟩
  go_wp2_with fail
  refine (C1.out _).mono ?_
  rintro e w4 ⟨v1, rfl, h4, o1⟩
  obtain ⟨A1, c1, rfl, p1⟩ := ownR_form o1
  clear o1
  have s23 := h3.size
  have s34 := h4.size
  have h24 := h3.trans (h4.mono h3.size)
  have O04 := hide (O0.out.below h24 (Nat.le_refl _))
  have O1 := hide p1; clear p1
  have b4 := b2.trans (h24.mono b2.size)
  clear h3 h4 h24 g2
  go_wp2_with fail
  refine (eqPlacesS_same L A1 A0 c1 c0 _ _ (by omega) _ O1.out O04.out).mono ?_
  rintro e w5 ⟨rfl, h5⟩
  have s45 := h5.size
  have O05 := hide (O04.out.below h5 (Nat.le_refl _))
  have O15 := hide (O1.out.below h5 (Nat.le_refl _))
  have b5 := b4.trans (h5.mono b4.size)
  clear h5
  go_wp2_with fail
  refine (mkP L A1 c1 _ (by omega) _ (by omega) O15.out).mono ?_
  rintro e w6 ⟨rfl, h6, s56, o16⟩
  have O16 := hide o16; clear o16
  have O06 := hide (O05.out.lower h6 (fun k hk => by have := O0.out.low k hk; omega))
  have b6 := b5.trans (h6.mono (by have := b2.size; omega))
  clear h6
  go_wp2_with fail
  refine (hdP L A1 c1 _ (by omega) _ O16.out).mono ?_
  rintro e w7 ⟨rfl, h7⟩
  have s67 := h7.size
  have O17 := hide (O16.out.below h7 (Nat.le_refl _))
  have O07 := hide (O06.out.below h7 (Nat.le_refl _))
  have b7 := b6.trans (h7.mono b6.size)
  have g7 : cellsOf w7 w.heap.size = dv n f g := (below_cells b7 (by simp)).trans (cellsOf_heap (heap_at _ _ _ rfl))
  clear h7
  go_wp2_with fail
  refine (toDessin_any n f g _).mono ?_
  rintro e w8 ⟨rfl, h8⟩
  go_wp2_with fail
  refine (C1.out _).mono ?_
  rintro e w9 ⟨v2, rfl, h9, o2⟩
  obtain ⟨A2, c2, rfl, p2⟩ := ownR_form o2
  clear o2
  have h79 := h8.trans (h9.mono h8.size)
  have O09 := hide (O07.out.below h79 (Nat.le_refl _))
  have O19 := hide (O17.out.below h79 (Nat.le_refl _))
  have O2 := hide p2; clear p2
  have b9 := b7.trans (h79.mono b7.size)
  clear h8 h9 h79 g7
  go_wp2_with fail
  refine (eqPlacesS_same L A2 A0 c2 c0 _ _ (by omega) _ O2.out O09.out).mono ?_
  rintro e w10 ⟨rfl, h10⟩
  have O110 := hide (O19.out.below h10 (Nat.le_refl _))
  have b10 := b9.trans (h10.mono b9.size)
  clear h10
  go_wp2_with fail
  refine (hdP L A1 c1 _ (by omega) _ O110.out).mono ?_
  rintro e w11 ⟨rfl, h11⟩
  have b11 := b10.trans (h11.mono b10.size)
  clear h11
  go_wp2
  go_ret
  exact ⟨rfl, (below1 w _).trans (b11.mono (by simp))⟩
end Go.Proofs.Ytjhpkibeddnbfaa
