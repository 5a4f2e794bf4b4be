/- impl.isClean, spec.l07Clean; IsClean of both. -/
import Derived.Test.YtcddglkecfnhmaaCycL
import Derived.Test.YtcddglkecfnhmaaCnt
import Derived.Test.YtcddglkecfnhmaaMark
import Derived.Test.YtcddglkecfnhmaaFace
import Derived.Test.YtcddglkecfnhmaaToDs
import Derived.Test.YtcddglkecfnhmaaHS
namespace Go.Proofs.Ytcddglkecfnhmaa
open Go.RowKit

def clP (g : Nat → Nat) (m : Nat) : Prop := ∀ x, x < m → g x ≠ x ∧ g (g x) = x
open Classical in
noncomputable def clB (g : Nat → Nat) (m : Nat) : Bool := decide (clP g m)
theorem clB_true {g : Nat → Nat} {m : Nat} : clB g m = true ↔ clP g m := by unfold clB; simp
theorem clB_false {g : Nat → Nat} {m : Nat} : clB g m = false ↔ ¬ clP g m := by unfold clB; simp
theorem per_two {p : Nat → Nat} {n x : Nat} (h : Bij p n) (hx : x < n) : per p x = 2 ↔ p x ≠ x ∧ p (p x) = x := by
  have h1 := it_back h hx (k := 1)
  have h2 := it_back h hx (k := 2)
  have e1 : it p 1 x = p x := rfl
  have e2 : it p 2 x = p (p x) := rfl
  rw [e1] at h1
  rw [e2] at h2
  rw [h2, ne_eq, h1]
  have hp := (per_spec h hx).1
  constructor
  · intro e; rw [e]; exact ⟨by decide, Nat.dvd_refl 2⟩
  · rintro ⟨a, b⟩
    have := Nat.le_of_dvd (by omega) b
    by_cases c : per p x = 1
    · rw [c] at a; exact absurd (Nat.dvd_refl 1) a
    · omega
theorem clean_cycs {p : Nat → Nat} {m : Nat} (h : Bij p m) (hm : m ≤ 16) : clP p m ↔ ∀ c ∈ cycs p m, c.length = 2 := by
  constructor
  · intro hc c hcm
    obtain ⟨x, hx, rfl⟩ := cycs_mem h hm hcm
    rw [orbit_length]
    exact (per_two h hx).2 (hc x hx)
  · intro hc y hy
    obtain ⟨x, hx, hm2, r⟩ := cycs_of h hm hy
    have := hc _ hm2
    rw [orbit_length] at this
    exact (per_two h hy).1 ((per_of_R h hx r).trans this)

set_option maxRecDepth 100000 in
set_option maxHeartbeats 1000000 in
theorem isClean_any (f g : Nat → Nat) (m : Nat) (hd : DesN f g m) (w : World) :
    Calls Try.prog 42 #[.agg (dv m f g)] w fun e w' => e = .returned (.bool (clB g m)) ∧ Below w.heap.size w w' := by
  have C := hide fun w => cycleList_any g m hd.white w
  obtain ⟨R, hR⟩ : ∃ R, R = clB g m := ⟨_, rfl⟩
  rw [← hR]
  have hyes : (∀ c ∈ cycs g m, c.length = 2) → R = true := fun h => by rw [hR]; exact clB_true.2 ((clean_cycs hd.bg hd.le).2 h)
  have hno : ∀ c ∈ cycs g m, c.length ≠ 2 → R = false := fun c hc h => by rw [hR]; exact clB_false.2 fun k => h ((clean_cycs hd.bg hd.le).1 k c hc)
  have hle := cycs_le hd.white
  have h16 := hd.le
  have hn := dv_n m f g
  have HH0 := (Holds.start w).blk (dv m f g) 32 w.heap.size rfl
  clear hR hd
  generalize cycs g m = ls at *
  have HY := hide hyes; clear hyes
  have HN := hide hno; clear hno
  go_enter Try.func42, Try.ntmps42
  go_wp2_with fail
  refine (C.out _).mono ?_
  rintro e w1 ⟨v, rfl, hb, ho⟩
  obtain ⟨A, c, vs, rfl, hv⟩ := own2_form ho
  have HH1 := HH0.call hb
  have HV := hide hv; clear hv ho hb C
  have b1 := HH1.low
  clear HH1 HH0 hn
  go_wp2
  go_loopw [11] (fun i wr => ∃ k : Nat, k ≤ ls.length ∧ i = .int .i64 k ∧ Below w1.heap.size w1 wr ∧ (∀ j (h : j < k) (h' : j < ls.length), (ls[j]).length = 2)) (fun i _ => ls.length - (intOf i).toNat)
  case atStart => exact ⟨0, by omega, rfl, Below.refl _ _, fun j h => by omega⟩
  case round =>
    obtain ⟨k, hk, rfl, hbw, hall⟩ := hrel
    have HA := hide hall; clear hall
    have b2 := b1.trans (hbw.mono b1.size)
    by_cases hlt : k < ls.length
    · obtain ⟨g', A', c', rfl, hg, _, x1, _⟩ := (HV.out.below hbw (Nat.le_refl _)).at hlt
      have hmem := List.getElem_mem hlt
      obtain ⟨y, hy⟩ : ∃ y, y = ls[k].length := ⟨_, rfl⟩
      rw [← hy] at x1
      have HYY := hide hy; clear hy
      by_cases hy2 : y = 2
      · have e1 : ((y : Int) != 2) = false := by simp [hy2]
        have HY2 := hide hy2; clear hy2
        go_wp2
        go_roundw
        case rel =>
          refine ⟨k + 1, by omega, by go_num, hbw, fun j h h' => ?_⟩
          by_cases c : j = k
          · subst c; rw [← HYY.out]; exact HY2.out
          · exact HA.out j (by omega) h'
        case measure => simp [intOf]; omega
      · have e1 : ((y : Int) != 2) = true := by simp; omega
        have hr := HN.out _ hmem (by rw [← HYY.out]; exact hy2)
        subst hr
        clear hy2
        go_wp2
        go_ret
        exact ⟨rfl, b2⟩
    · obtain rfl : k = ls.length := by omega
      have hr := HY.out fun c hc => by
        obtain ⟨j, hj, rfl⟩ := List.getElem_of_mem hc
        exact HA.out j hj hj
      subst hr
      go_wp2
      go_ret
      exact ⟨rfl, b2⟩

set_option maxRecDepth 100000 in
set_option maxHeartbeats 1000000 in
theorem sClean_any (f g : Nat → Nat) (m : Nat) (hd : DesN f g m) (w : World) :
    Calls Try.prog 38 #[.agg (dv m f g)] w fun e w' => e = .returned (.bool (clB g m)) ∧ Below w.heap.size w w' := by
  obtain ⟨R, hR⟩ : ∃ R, R = clB g m := ⟨_, rfl⟩
  rw [← hR]
  have hyes : clP g m → R = true := fun h => by rw [hR]; exact clB_true.2 h
  have hno : ¬ clP g m → R = false := fun h => by rw [hR]; exact clB_false.2 h
  have lg := hide hd.bg.1
  have h16 := hd.le
  have hn := dv_n m f g
  have HH0 := (Holds.start w).blk (dv m f g) 32 w.heap.size rfl
  clear hR hd
  have HY := hide hyes; clear hyes
  have HN := hide hno; clear hno
  go_enter Try.func38, Try.ntmps38
  go_wp2
  generalize hG : w.heap.size = G at *
  have HG := hide hG; clear hG
  go_loopw [3] (fun i wr => ∃ k : Nat, k ≤ m ∧ i = .int .i64 k ∧ Holds w wr [pBlk G (dv m f g) 32] ∧ (∀ j, j < k → g j ≠ j ∧ g (g j) = j)) (fun i _ => m - (intOf i).toNat)
  case atStart => exact ⟨0, by omega, rfl, HH0, fun j h => by omega⟩
  case round =>
    clear HH0
    obtain ⟨k, hk, rfl, hH, hall⟩ := hrel
    have HA := hide hall; clear hall
    have cn := hH.cell 0 rfl hn
    by_cases hlt : k < m
    · have l1 := lg.out k hlt
      have l2 := lg.out _ l1
      have cw := hH.cell 0 rfl (dv_w (m : Int) f g (i := k) (by omega))
      have cw2 := hH.cell 0 rfl (dv_w (m : Int) f g (i := g k) (by omega))
      have hstep : ∀ y z, y = g k → z = g (g k) → ((y ≠ k ∧ z = k → ∀ j, j < k + 1 → g j ≠ j ∧ g (g j) = j) ∧ (¬ (y ≠ k ∧ z = k) → R = false)) := fun y z hy hz => ⟨fun h j hj => by
        by_cases c : j = k
        · subst c; rw [← hz, ← hy]; exact h
        · exact HA.out j (by omega), fun h => HN.out fun hc => h (by rw [hy, hz]; exact hc k hlt)⟩
      have HS := hide (hstep _ _ rfl rfl); clear hstep
      generalize g (g k) = z at *
      generalize g k = y at *
      by_cases hy : y = k
      · have e1 : ((y : Int) == (k : Int)) = true := by simp [hy]
        have hr := HS.out.2 fun h => h.1 hy
        subst hr
        clear hy HS
        go_wp2
        go_ret
        exact ⟨rfl, hH.low⟩
      · have e1 : ((y : Int) == (k : Int)) = false := by simp; omega
        by_cases hz : z = k
        · have e2 : ((z : Int) != (k : Int)) = false := by simp [hz]
          have HT := hide (HS.out.1 ⟨hy, hz⟩); clear HS hz hy
          go_wp2
          go_roundw
          case rel => exact ⟨k + 1, by omega, by go_num, hH, HT.out⟩
          case measure => simp [intOf]; omega
        · have e2 : ((z : Int) != (k : Int)) = true := by simp; omega
          have hr := HS.out.2 fun h => hz h.2
          subst hr
          clear hy hz HS
          go_wp2
          go_ret
          exact ⟨rfl, hH.low⟩
    · obtain rfl : k = m := by omega
      have hr := HY.out HA.out
      subst hr
      clear hlt
      go_wp2
      go_ret
      exact ⟨rfl, hH.low⟩

noncomputable def cleanR (n : Int) (f g : Nat → Nat) : Value := if desB n f g = true then .tuple #[.bool (clB g n.toNat), .int .i64 0] else .tuple #[.bool false, .int .i64 1]
theorem cleanR_eq (n : Int) (f g : Nat → Nat) : ∃ (a : Bool) (c : Int), cleanR n f g = .tuple #[.bool a, .int .i64 c] := by
  unfold cleanR; split
  · exact ⟨_, _, rfl⟩
  · exact ⟨_, _, rfl⟩

-- left out here: loop.example/g01200/impl.IsClean
-- left out here: loop.example/g01200/spec.IsClean
end Go.Proofs.Ytcddglkecfnhmaa
