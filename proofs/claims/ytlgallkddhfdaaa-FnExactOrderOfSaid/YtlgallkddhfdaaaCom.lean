/- spec.l01Common: the least common multiple of a list -/
import Derived.Test.YtlgallkddhfdaaaMark
import Derived.Test.YtlgallkddhfdaaaPerm
import Derived.RegionTactic
import Derived.Deep.RegionWith
import Derived.Deep.LoopGhost
namespace Go.Proofs.Ytlgallkddhfdaaa
open Go.RowKit

theorem lcms_take_le {ls : List Nat} (h2 : lcms ls ≤ 65536) (h3 : 0 < lcms ls) (k : Nat) : 1 ≤ lcms (ls.take k) ∧ lcms (ls.take k) ≤ 65536 := by
  have hd : lcms (ls.take k) ∣ lcms ls := (lcms_dvd _ _).2 fun x hx => (lcms_dvd ls (lcms ls)).1 (Nat.dvd_refl _) x (List.mem_of_mem_take hx)
  have := Nat.le_of_dvd h3 hd
  have : 0 < lcms (ls.take k) := Nat.pos_of_dvd_of_pos hd h3
  omega
theorem lcms_take_succ {ls : List Nat} {k : Nat} (hk : k < ls.length) : lcms (ls.take (k + 1)) = Nat.lcm (lcms (ls.take k)) ls[k] := by
  unfold lcms
  rw [List.take_succ_eq_append_getElem hk, List.foldl_append]
  rfl
theorem lcm_quo (o x : Nat) : (o : Int) / ((Nat.gcd o x : Nat) : Int) * (x : Int) = ((Nat.lcm o x : Nat) : Int) := by
  have : Nat.lcm o x = o / Nat.gcd o x * x := by
    unfold Nat.lcm
    exact Nat.mul_div_right_comm (Nat.gcd_dvd_left o x) x
  rw [this]; simp

set_option maxRecDepth 100000 in
set_option maxHeartbeats 400000 in
theorem common_any (ls : List Nat) (A : Option Addr) (c B : Nat) (h1 : ∀ l ∈ ls, 1 ≤ l ∧ l ≤ 16) (h2 : lcms ls ≤ 65536) (h3 : 0 < lcms ls) (hlen : ls.length ≤ 16) (w : World) (ho : Own1 B w (.slice A ls.length c) ls) :
    Calls Try.prog 67 #[.slice A ls.length c] w fun e w' => e = .returned (.int .i64 (lcms ls)) ∧ Below w.heap.size w w' := by
  have H := hide ho; clear ho
  have H1 := hide h1; clear h1
  have HT := hide fun k => lcms_take_le h2 h3 k
  clear h2 h3
  go_enter Try.func67, Try.ntmps67
  go_wp2
  go_loopw [3, 4] (fun o i wr => ∃ k : Nat, k ≤ ls.length ∧ i = .int .i64 k ∧ o = .int .i64 (lcms (ls.take k)) ∧ Below w.heap.size w wr) (fun _ i _ => ls.length - (intOf i).toNat)
  case atStart => exact ⟨0, by omega, rfl, rfl, Below.refl _ _⟩
  case round =>
    obtain ⟨k, hk, rfl, rfl, hb⟩ := hrel
    by_cases hlt : k < ls.length
    · obtain ⟨g, rfl, _, hg, c1, _⟩ := H.out.at hlt
      have hx := H1.out ls[k] (List.getElem_mem hlt)
      have ho := HT.out k
      have hn := HT.out (k + 1)
      have hs := lcms_take_succ hlt
      rw [hs] at hn
      have HS := hide hs; clear hs
      generalize ls[k] = x at *
      generalize lcms (ls.take k) = o at *
      have C1 := hide c1
      have c1' : wr.cell? ⟨g, k, none⟩ = some (.int .i64 (x : Nat)) := (hb.cell (p := ⟨g, k, none⟩) hg).trans c1
      clear c1
      go_wp2
      go_region
      all_goals go_wp2
      all_goals (obtain ⟨wo, rfl⟩ : ∃ wo : World, wo = wr := ⟨_, rfl⟩)
      all_goals go_loopg [5, 6] x (fun gd a b wr => ∃ a' b' : Nat, gd = b' ∧ a = .int .i64 a' ∧ b = .int .i64 b' ∧ 1 ≤ a' ∧ a' ≤ 65536 ∧ b' ≤ 16 ∧ Nat.gcd a' b' = Nat.gcd o x ∧ Below w.heap.size w wr)
      case atStart => exact ⟨o, x, rfl, rfl, rfl, ho.1, ho.2, hx.2, rfl, hb.drew⟩
      case round =>
        obtain ⟨a, b, hgd, rfl, rfl, ha1, ha2, hb16, hgc, hbw⟩ := hrel
        by_cases hb0 : 0 < b
        · have hgb : decide ((0 : Int) < (b : Int)) = true := by simp; omega
          have hm : 0 ≤ (a : Int) % (b : Int) ∧ (a : Int) % (b : Int) < (b : Int) := ⟨Int.emod_nonneg _ (by omega), Int.emod_lt_of_pos _ (by omega)⟩
          have hne : ((b : Int) = 0) = False := by simp; omega
          have hgc2 : Nat.gcd b (a % b) = Nat.gcd o x := by rw [← hgc, Nat.gcd_comm a b, Nat.gcd_rec b a, Nat.gcd_comm]
          have hml : a % b < b := Nat.mod_lt _ hb0
          have HG := hide hgc2; clear hgc2 hgc
          go_wp2
          go_roundg (a % b)
          case measure => omega
          case rel => exact ⟨b, a % b, rfl, rfl, by simp, by omega, by omega, by omega, HG.out, hbw⟩
        · obtain rfl : b = 0 := by omega
          obtain rfl : a = Nat.gcd o x := by rw [← hgc, Nat.gcd_zero_right]
          have hq := lcm_quo o x
          have hq1 : 0 ≤ (o : Int) / ((Nat.gcd o x : Nat) : Int) ∧ (o : Int) / ((Nat.gcd o x : Nat) : Int) ≤ 65536 := ⟨Int.ediv_nonneg (by omega) (by omega), by have h := Nat.div_le_self o (Nat.gcd o x); rw [← Int.natCast_ediv]; generalize o / Nat.gcd o x = t at *; omega⟩
          have hq2 : 0 ≤ (o : Int) / ((Nat.gcd o x : Nat) : Int) * (x : Int) ∧ (o : Int) / ((Nat.gcd o x : Nat) : Int) * (x : Int) ≤ 65536 := by rw [hq]; omega
          have HQ := hide hq; clear hq
          have c2 : wr.cell? ⟨g, k, none⟩ = some (.int .i64 (x : Nat)) := (hbw.cell (p := ⟨g, k, none⟩) hg).trans C1.out
          clear c1'
          go_wp2
          go_region
          all_goals go_wp2
          all_goals go_roundw
          case rel => exact ⟨k + 1, by omega, by go_num, by rw [HS.out, HQ.out], hbw.drew⟩
          case measure => simp [intOf]; omega
    · obtain rfl : k = ls.length := by omega
      rw [List.take_length]
      go_wp2
      go_ret
      exact ⟨rfl, hb⟩
end Go.Proofs.Ytlgallkddhfdaaa
