/- impl.secondsByFirst, spec.l02Morphism -/
import Derived.Test.YtjhpkibeddnbfaaMorM
import Derived.Test.YtjhpkibeddnbfaaHS2
import Derived.Test.YtjhpkibeddnbfaaProd
namespace Go.Proofs.Ytjhpkibeddnbfaa
open Go.RowKit

theorem Holds.cellR {w0 w : World} {L : List Part} (h : Holds w0 w L) (i : Nat) {g n c : Nat} {e : TypeId} {s : Nat} {xs : List Value} (hi : L[i]? = some (pRow (.slice (some ⟨g, 0, none⟩) n c) e s n xs)) {j : Nat} {u : Value} (hj : xs[j]? = some u) : w.cell? ⟨g, j, none⟩ = some u := by
  have hn : 0 < n := by
    have h1 := (h.row i hi).1
    have h2 := (List.getElem?_eq_some_iff.1 hj).1
    rcases Nat.eq_zero_or_pos n with rfl | c
    · simp at h1; subst h1; simp at h2
    · exact c
  obtain ⟨g', c', e1, _, _, _, _, h6, _⟩ := row_at (h.row i hi) hn
  injection e1 with e1
  injection e1 with e1
  injection e1 with e1
  subst e1
  exact h6 j u hj
theorem Holds.frozenR {w0 w : World} {L : List Part} (h : Holds w0 w L) (i : Nat) {g n c : Nat} {e : TypeId} {s : Nat} {xs : List Value} (hi : L[i]? = some (pRow (.slice (some ⟨g, 0, none⟩) n c) e s n xs)) (hn : 0 < n) (j : Nat) : w.frozen? ⟨g, j, none⟩ = false := by
  obtain ⟨g', c', e1, _, _, _, _, _, h7⟩ := row_at (h.row i hi) hn
  injection e1 with e1
  injection e1 with e1
  injection e1 with e1
  subst e1
  exact h7 j

set_option maxRecDepth 100000 in
set_option maxHeartbeats 1000000 in
theorem seconds_any (l : List Nat) (hl : l.length ≤ 16) (hlt : ∀ z ∈ l, z < 256 ∧ z / 16 < l.length) (v : Value) (w : World) (hv : RdP w v (dec l)) :
    Calls Try.prog 53 #[v] w fun e w' => ∃ u, e = .returned u ∧ Below w.heap.size w w' ∧ w'.ownsRow w.heap.size 2 1 u l.length (rv (secT l l.length) l.length) := by
  obtain ⟨A, c, rfl⟩ := hv.form
  rw [dec_length] at hv ⊢
  have HV := hide hv; clear hv
  have HL := hide hlt; clear hlt
  obtain ⟨i0, hi, hz0, hz1, hz2⟩ := info_parts info64
  have I0 := hide (And.intro hi (And.intro hz0 (And.intro hz1 hz2))); clear hi hz0 hz1 hz2
  have HH0 := Holds.start w
  go_enter Try.func53, Try.ntmps53
  go_wp2_with (refine makeH (P := Try.prog) rfl 48 _ _ rfl 2 i0 (.int .i64 0) 8 Try.underlying48 I0.out.1 I0.out.2.1 I0.out.2.2.1 I0.out.2.2.2 rfl l.length .i64 .i64 rfl rfl (by omega) (by decide) HH0 ?_)
  intro w1 HH1
  rw [rv_zero] at HH1
  clear HH0
  go_wp2
  go_loopw [11] (fun t wr => ∃ k : Nat, k ≤ l.length ∧ t = .int .i64 k ∧ Holds w wr [pRow (.slice (some ⟨w.heap.size, 0, none⟩) l.length l.length) 2 1 l.length (rv (secT l k) l.length)]) (fun t _ => l.length - (intOf t).toNat)
  case atStart => exact ⟨0, by omega, rfl, HH1⟩
  case round =>
    clear HH1
    obtain ⟨k, hk, rfl, hH⟩ := hrel
    by_cases hkl : k < l.length
    · obtain ⟨q, rfl, hq, x1, x2⟩ := (HV.out.below hH.low (Nat.le_refl _)).at hkl
      obtain ⟨a, ha⟩ : ∃ a, a = l.getD k 0 / 16 := ⟨_, rfl⟩
      obtain ⟨b, hb⟩ : ∃ b, b = l.getD k 0 % 16 := ⟨_, rfl⟩
      have hm : l.getD k 0 ∈ l := by rw [List.getD_eq_getElem?_getD, List.getElem?_eq_getElem hkl]; exact List.getElem_mem hkl
      have hz := HL.out _ hm
      rw [← ha] at x1
      rw [← hb] at x2
      rw [← ha] at hz
      have hs : secT l (k + 1) = hset (secT l k) a ((b : Nat) : Int) := by rw [ha, hb]; rfl
      have HS := hide hs; clear hs ha hm
      have hal : a < l.length := hz.2
      have hal' : (a : Int) < l.length := by omega
      have hb256 : (b : Int) < 256 := by omega
      clear hb hz
      have hHb := hH.blk #[.int .u8 (a : Nat), .int .u8 (b : Nat)] 68 wr.heap.size rfl
      have z0 : (wr.alloc (.cells #[.int .u8 (a : Nat), .int .u8 (b : Nat)] 68)).cell? ⟨w.heap.size, a, none⟩ = some (.int .i64 (secT l k a)) := hHb.cellR 1 rfl (rv_at _ hal)
      have z1 := hHb.frozenR 1 rfl (by omega) a
      have hP := hHb.put 1 rfl a (.int .i64 (b : Nat))
      rw [rv_set, ← HS.out] at hP
      go_wp2
      clear z0 z1 hHb hH x1 x2
      go_roundw
      case rel => exact ⟨k + 1, by omega, by go_num, hP.tail⟩
      case measure => simp [intOf]; omega
    · obtain ⟨K, hK⟩ : ∃ K, K = l.length := ⟨_, rfl⟩
      obtain rfl : K = k := by omega
      subst hK
      clear hk hkl
      go_wp2
      go_ret
      exact ⟨_, rfl, hH.low, hH.row 0 rfl⟩
end Go.Proofs.Ytjhpkibeddnbfaa
