/- impl.cycleType -/
import Derived.Test.YtghdbnbejkneiaaSort
import Derived.Test.YtghdbnbejkneiaaCnt
namespace Go.Proofs.Ytghdbnbejkneiaa
open Go.RowKit

theorem lens_ne {p : Nat → Nat} {m : Nat} (hp : PermN p m) : 0 < (lens p m).length ∧ (lens p m).length ≤ 16 := by
  have h1 := cycs_sum hp.2.2.1 hp.2.1
  have h2 := cycs_le hp
  have h3 := hp.1
  have h4 := hp.2.1
  unfold lens
  rw [List.length_map]
  refine ⟨?_, by omega⟩
  rcases hc : cycs p m with _ | ⟨x, l⟩
  · rw [hc] at h1; simp at h1; omega
  · simp

set_option maxRecDepth 100000 in
set_option maxHeartbeats 1000000 in
theorem cycleType_any (p : Nat → Nat) (m : Nat) (hp : PermN p m) (w : World) :
    Calls Try.prog 54 #[.agg (av p), .int .i64 m] w fun e w' => ∃ v, e = .returned v ∧ Below w.heap.size w w' ∧ Own1 w.heap.size w' v (sortD (lens p m)) := by
  have C := hide fun w => cycleList_any p m hp w
  have hne := lens_ne hp
  rw [← sortU_reverse]
  have hlm : lens p m = (cycs p m).map List.length := rfl
  rw [hlm] at hne ⊢
  generalize cycs p m = ls at *
  rw [List.length_map] at hne
  clear hp hlm
  obtain ⟨hL0, hL16⟩ := hne
  obtain ⟨S, hS⟩ : ∃ S, S = ls.map List.length := ⟨_, rfl⟩
  rw [← hS]
  have HSS := hide hS; clear hS
  go_enter Try.func54, Try.ntmps54
  go_wp2_with fail
  refine (C.out _).mono ?_
  rintro e w1 ⟨v, rfl, hb, ho⟩
  obtain ⟨A, c, vs, rfl, hv⟩ := own2_form ho
  have b1 := (below1 w (.cells (av p) 23)).trans (hb.mono (by simp))
  have HV := hide hv; clear hv ho hb
  go_wp2
  go_loopw [12, 5] (fun i out wr => ∃ k : Nat, k ≤ ls.length ∧ i = .int .i64 k ∧ Below w1.heap.size w1 wr ∧ Own1 w1.heap.size wr out ((ls.map List.length).take k)) (fun i _ _ => ls.length - (intOf i).toNat)
  case atStart => exact ⟨0, by omega, rfl, Below.refl _ _, by simpa using Own1.nil _ _⟩
  case round =>
    obtain ⟨k, hk, rfl, hbw, hown⟩ := hrel
    have hs := hbw.size
    by_cases hlt : k < ls.length
    · obtain ⟨g, A', c', rfl, hg, _, x1, _⟩ := (HV.out.below hbw (Nat.le_refl _)).at hlt
      have hst : (ls.map List.length).take (k + 1) = (ls.map List.length).take k ++ [ls[k].length] := by
        rw [List.take_succ_eq_append_getElem (by simpa using hlt)]; simp
      have htl : ((ls.map List.length).take k).length ≤ 16 := by simp; omega
      have HS := hide hst; clear hst
      generalize (ls.map List.length).take k = T at *
      generalize ls[k].length = y at *
      have hlow : ∀ g, u5.ownBlock = some g → w1.heap.size ≤ g := fun g hg => (World.ownsRow.lt hown g hg).1
      go_wp2_with (at_builtin; refine app1 rfl _ _ rfl rfl hown hs y _ rfl rfl (by omega) fun v' w' ho' hg' hs' => ?_)
      have hb' := hbw.grown hg' hs hlow
      have HO := hide ho'; clear ho' hg' hown hlow x1
      go_wp2
      go_roundw
      case rel => exact ⟨k + 1, by omega, by go_num, hb', by rw [HS.out]; exact HO.out⟩
      case measure => simp [intOf]; omega
    · obtain rfl : k = ls.length := by omega
      have hS : (ls.map List.length).take ls.length = ls.map List.length := List.take_of_length_le (by simp)
      rw [hS, ← HSS.out] at hown
      clear hS hlt hk HV
      have hl0 : 0 < S.length := by rw [HSS.out]; simpa using hL0
      have hl1 : S.length ≤ 16 := by rw [HSS.out]; simpa using hL16
      have hlow : ∀ g, u5.ownBlock = some g → w1.heap.size ≤ g := fun g hg => (World.ownsRow.lt hown g hg).1
      go_wp2_with fail
      refine (sort_any hown hl0 (by omega)).mono ?_
      rintro e w2 ⟨rfl, hg2, ho2⟩
      have b2 := hbw.grown hg2 hs hlow
      clear hg2 hown hbw
      have hll : (sortU S).length = S.length := by unfold sortU; exact (List.mergeSort_perm _ _).length_eq
      go_wp2_with fail
      refine (rev_any ho2 (by omega) (by omega)).mono ?_
      rintro e w3 ⟨rfl, hg3, ho3⟩
      have b3 := b1.trans ((b2.grown hg3 b2.size hlow).mono b1.size)
      have HO := hide (ho3.mono b1.size)
      clear ho3 hg3 ho2 b2 hlow hll
      go_wp2
      go_ret
      exact ⟨_, rfl, b3, HO.out⟩
end Go.Proofs.Ytghdbnbejkneiaa
