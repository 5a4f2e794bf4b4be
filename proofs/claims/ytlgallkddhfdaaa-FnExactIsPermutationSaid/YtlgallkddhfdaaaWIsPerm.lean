/- the walk of FnExactIsPermutation -/
import Derived.Test.YtlgallkddhfdaaaIsPerm
import Derived.Test.YtlgallkddhfdaaaSPerm
import Derived.Test.YtlgallkddhfdaaaToPl
namespace Go.Proofs.Ytlgallkddhfdaaa
open Go.RowKit

set_option maxHeartbeats 400000 in
theorem fnExactIsPermutation_walk (f : Nat → Nat) (hf : ∀ i, f i < 256) (n : Int) (_hn : -9223372036854775808 ≤ n ∧ n ≤ 9223372036854775807) (w : World) :
    Calls Try.prog 4 #[.agg (av f), .int .i64 n] w fun e w' => e = .returned (.bool true) ∧ Below w.heap.size w w' := by
  clear _hn
  have HF := hide hf; clear hf
  obtain ⟨b, hb⟩ : ∃ b, permB f n = b := ⟨_, rfl⟩
  have c1 := fun w => isPerm_any f HF.out n w
  have c2 := fun w => sIsPerm_any f HF.out n w
  rw [hb] at c1 c2
  have C1 := hide c1; clear c1
  have C2 := hide c2; clear c2
  clear hb
  have hne : (b != b) = false := by simp
  go_enter Try.func4, Try.ntmps4
  go_wp2_with (refine ld0 aggA (av_size _) rfl _ rfl _ rfl (by simp) ?_)
  refine (toPlaces_any f _).mono ?_
  rintro e w1 ⟨rfl, h1⟩
  go_wp2_with fail
  refine (C2.out _).mono ?_
  rintro e w2 ⟨rfl, h2⟩
  have b2 := h1.trans (h2.mono h1.size)
  have g2 := (b2.block w.heap.size (by simp)).trans (heap_at w (.cells (av f) 24) _ rfl)
  go_wp2_with (refine ld_at aggA (av_size f) rfl _ rfl w.heap.size rfl g2 ?_)
  refine (toPlaces_any f _).mono ?_
  rintro e w3 ⟨rfl, h3⟩
  go_wp2_with fail
  refine (C1.out _).mono ?_
  rintro e w4 ⟨rfl, h4⟩
  have b3 := b2.trans (h3.mono b2.size)
  have b4 := b3.trans (h4.mono b3.size)
  clear h1 h2 h3 h4 b2 b3 g2
  go_wp2
  go_ret
  exact ⟨rfl, (below1 w _).trans (b4.mono (by simp))⟩

end Go.Proofs.Ytlgallkddhfdaaa
