/- How the arguments of the laws are opened: an array of sixteen bytes. -/
import Derived.Test.YtpkfjdaedaplfaaBase
import Derived.ProofKit
import Derived.OpenShut
import Derived.ShutString
import Derived.ChangeOld
import Derived.Below
namespace Go.Proofs.Ytpkfjdaedaplfaa
open Go.RowKit Go.ChangeShapes Go.WideShapes

section
variable {H : Type} {enc : TypeId × Value → H} {P : Program} {w : World} {base : Nat} {spare : Nat → Bool} {held : Bool}
theorem okWide_array {r : Reach} {b0 : Nat} {t : TypeId} {v : Value} {n : Nat} {e : TypeId} (ht : P.underlying t = some (.array n e)) (h : Value.okWide P w r b0 t v) : ∃ cs, v = .agg cs ∧ cs.size = P.cellsOf t := by
  simp only [Value.okWide, ht] at h
  obtain ⟨cs, h1, h2, _⟩ := h
  exact ⟨cs, h1, h2⟩

/-- sixteen cells that read as bytes -/
theorem bytes_of {l : List Value} {e : TypeId} {m : Nat} {xs : List (DataW H × List MemPlace)} (he : P.underlying e = some (.int .u8)) (hl : l.length = 16) (hx : xs.length = 16)
    (h : ∀ i, i < 16 → DataW.trod enc P w base spare held m e ((l.drop i).take 1) = xs[i]?) : ∃ f : Nat → Nat, (∀ i, f i < 256) ∧ l.toArray = av f := by
  have key : ∀ i, i < 16 → ∃ k : Nat, k < 256 ∧ l[i]? = some (.int .u8 k) := by
    intro i hi
    have h1 := h i hi
    rw [List.getElem?_eq_getElem (by omega)] at h1
    obtain ⟨n, hn, _, hw⟩ := DataW.trod_int he h1
    have hb := bounds_u8 hw
    obtain ⟨k, rfl⟩ := Int.eq_ofNat_of_zero_le hb.1
    refine ⟨k, by omega, ?_⟩
    rw [List.drop_eq_getElem_cons (by omega), List.take_succ_cons, List.take_zero] at hn
    rw [List.getElem?_eq_getElem (by omega), (List.cons.inj hn).1]
  refine ⟨fun i => match l[i]? with | some (.int .u8 n) => if n.toNat < 256 then n.toNat else 0 | _ => 0, fun i => ?_, ?_⟩
  · dsimp only
    split
    · split <;> omega
    · omega
  · apply Array.ext_getElem?
    intro i
    by_cases hi : i < 16
    · obtain ⟨k, hk, e⟩ := key i hi
      rw [av_get _ hi]
      simp only [List.getElem?_toArray, e]
      rw [if_pos (by omega)]
      simp
    · rw [Array.getElem?_eq_none (by simp; omega), Array.getElem?_eq_none (by rw [av_size]; omega)]

theorem open_bytes16 {r : Reach} {b0 : Nat} {t e : TypeId} {v : Value} {d : DataW H} {ps : List MemPlace} (ht : P.underlying t = some (.array 16 e)) (he : P.underlying e = some (.int .u8)) (hc : P.cellsOf t = 16) (hc1 : P.cellsOf e = 1)
    (hval : Value.okWide P w r b0 t v) (hd : DataW.Trod enc P w base spare held t v d ps) : ∃ f : Nat → Nat, (∀ i, f i < 256) ∧ v = .agg (av f) := by
  obtain ⟨cs, rfl, hs⟩ := okWide_array ht hval
  obtain ⟨fuel, hf⟩ := hd
  obtain ⟨xs, m, _, _, hl, hx, hi⟩ := DataW.trod_array ht hf
  obtain ⟨f, hb, e⟩ := bytes_of (l := cs.toList) he (by simpa [hc] using hs) hx (fun i h => by have := hi i h; rw [hc1, Nat.mul_one] at this; simpa [Value.cells] using this)
  exact ⟨f, hb, by rw [← e]⟩
end

end Go.Proofs.Ytpkfjdaedaplfaa
