/- Marks in an argument's copy, as the laws set them. -/
import Derived.Test.YtpkfjdaedaplfaaMk1
import Derived.Test.YtpkfjdaedaplfaaHS2
import Derived.Test.YtpkfjdaedaplfaaArg
namespace Go.Proofs.Ytpkfjdaedaplfaa
open Go.RowKit

set_option maxRecDepth 100000 in
set_option maxHeartbeats 400000 in
theorem markZ_any (l : List Int) (A : Option Addr) (c B k0 : Nat) (hl : l.length ≤ 140737488351232) (hk0 : k0 ≤ 140737488351232) (w : World) (h : OwnZ B w (.slice A l.length c) l) :
    Calls Try.prog 80 #[.slice A l.length c, .int .i64 k0] w fun e w' => e = .returned (.int .i64 (k0 + l.length : Nat)) ∧ w.grownBy w' (Value.slice A l.length c).ownBlock ∧ w'.ownsRow B 2 1 (.slice A l.length c) l.length (nums (marks k0 l.length)) := by
  have hz : ∀ k, k < l.length → (nums (marks k0 k) ++ (zc l).drop k)[k]? = some (.int .i64 (l.getD k 0)) := fun k hk => by
    rw [List.getElem?_append_right (by rw [nums_length, marks_length]; omega), nums_length, marks_length, Nat.sub_self, List.getElem?_drop, Nat.add_zero, zc_get]
    simp [hk]
  have hs : ∀ k, k < l.length → (nums (marks k0 k) ++ (zc l).drop k).set k (.int .i64 ((k0 + k : Nat) : Int)) = nums (marks k0 (k + 1)) ++ (zc l).drop (k + 1) := fun k hk => by
    rw [List.set_append_right _ _ (by rw [nums_length, marks_length]; omega), nums_length, marks_length, Nat.sub_self, List.drop_eq_getElem_cons (show k < (zc l).length by rw [zc_length]; exact hk), List.set_cons_zero]
    unfold marks nums
    rw [List.range_succ, List.map_append, List.map_append, List.append_assoc]; rfl
  have HZ := hide (And.intro hz hs); clear hz hs
  have h' : w.ownsRow B 2 1 (.slice A l.length c) l.length (zc l) := h
  clear h
  go_enter Try.func80, Try.ntmps80
  go_wp2
  go_loopw [1, 5] (fun q i wr => ∃ k : Nat, k ≤ l.length ∧ i = .int .i64 k ∧ q = .int .i64 (k0 + k : Nat) ∧ w.grownBy wr (Value.slice A l.length c).ownBlock ∧ wr.ownsRow B 2 1 (.slice A l.length c) l.length (nums (marks k0 k) ++ (zc l).drop k)) (fun _ i _ => l.length - (intOf i).toNat)
  case atStart => exact ⟨0, by omega, rfl, by simp, grown_refl _ _, by simpa [marks, nums] using h'⟩
  case round =>
    clear h'
    obtain ⟨k, hk, rfl, rfl, hg, ho⟩ := hrel
    by_cases hlt : k < l.length
    · obtain ⟨g, c', hA, _, _, _, _, hcell, hfr⟩ := row_at ho (by omega)
      injection hA with hA hA1 hA2
      subst hA
      clear hA1 hA2
      have h1 := hcell k _ (HZ.out.1 k hlt)
      have h2 := hfr k
      have hs := World.ownsRow.stored ho k (.int .i64 ((k0 + k : Nat) : Int))
      have hs1 := hs.1
      rw [HZ.out.2 k hlt] at hs1
      have hg2 : w.grownBy (wr.setCell ⟨g, k, none⟩ (.int .i64 ((k0 + k : Nat) : Int))) (Value.slice (some ⟨g, 0, none⟩) l.length c).ownBlock := grown_setCell hg
      have HS := hide hs1; clear hs1 hs
      have HG := hide hg2; clear hg2 ho hg hcell hfr
      generalize l.getD k 0 = y at h1
      have hcast : ((k0 + k : Nat) : Int) = (k0 : Int) + (k : Int) := by omega
      rw [hcast] at HS HG
      rw [hcast]
      clear hcast
      go_wp2
      go_roundw
      case rel => exact ⟨k + 1, by omega, by go_num, by go_num, HG.out, HS.out⟩
      case measure => simp [intOf]; omega
    · obtain rfl : k = l.length := by omega
      rw [List.drop_of_length_le (by rw [zc_length]; exact Nat.le_refl _), List.append_nil] at ho
      go_wp2
      go_ret
      exact ⟨rfl, hg, ho⟩
theorem Own1.as {B : Nat} {w : World} {v : Value} {n : Nat} (h : Own1 B w v (marks 1 n)) : w.ownsRow B 2 1 v n (nums (marks 1 n)) := by
  have h' : w.ownsRow B 2 1 v (marks 1 n).length (nums (marks 1 n)) := h
  rwa [marks_length] at h'
theorem Own1.of {B : Nat} {w : World} {v : Value} {n : Nat} (h : w.ownsRow B 2 1 v n (nums (marks 1 n))) : Own1 B w v (marks 1 n) := by
  show w.ownsRow B 2 1 v (marks 1 n).length (nums (marks 1 n))
  rwa [marks_length]
end Go.Proofs.Ytpkfjdaedaplfaa
