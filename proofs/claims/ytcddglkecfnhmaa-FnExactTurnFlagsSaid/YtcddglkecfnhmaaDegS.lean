/- spec.l07Degrees -/
import Derived.Test.YtcddglkecfnhmaaDeg
namespace Go.Proofs.Ytcddglkecfnhmaa
open Go.RowKit

@[irreducible] def kv (f : Nat → Nat) : Array Value := row 33 fun i => .int .i64 (f i)
theorem kv_size (f : Nat → Nat) : (kv f).size = 33 := by unfold kv; exact row_size _ _
theorem kv_get (f : Nat → Nat) {i : Nat} (h : i < 33) : (kv f)[i]? = some (.int .i64 (f i)) := by unfold kv; exact row_get _ _ h
theorem kv_set (f g : Nat → Nat) (i : Nat) (x : Int) (hx : x = g i) (h : ∀ j, j ≠ i → g j = f j) : (kv f).setIfInBounds i (.int .i64 x) = kv g := by
  unfold kv
  rw [row_set]
  refine row_congr fun j _ => ?_
  show (if j = i then _ else _) = _
  split
  · rename_i e; subst e; rw [hx]
  · rename_i e; rw [h j e]
theorem kv_cells (f : Nat → Nat) : (kv f).all (·.oneCell') = true := by unfold kv row; simp [Value.oneCell']
theorem kv_zero : kv (fun _ => 0) = #[.int .i64 0, .int .i64 0, .int .i64 0, .int .i64 0, .int .i64 0, .int .i64 0, .int .i64 0, .int .i64 0, .int .i64 0, .int .i64 0, .int .i64 0, .int .i64 0, .int .i64 0, .int .i64 0, .int .i64 0, .int .i64 0, .int .i64 0, .int .i64 0, .int .i64 0, .int .i64 0, .int .i64 0, .int .i64 0, .int .i64 0, .int .i64 0, .int .i64 0, .int .i64 0, .int .i64 0, .int .i64 0, .int .i64 0, .int .i64 0, .int .i64 0, .int .i64 0, .int .i64 0] := by unfold kv row; rfl
theorem aggK : AggT 95 33 := ⟨⟨_, Try.underlying95, rfl⟩, by kernel_rfl⟩
def Is33k (c : Array Value) : Prop := c.size = 33
@[go_sem] theorem is33k_kv (f : Nat → Nat) : Is33k (kv f) ↔ True := ⟨fun _ => trivial, fun _ => kv_size f⟩
@[go_sem] theorem is33k_lit (x0 x1 x2 x3 x4 x5 x6 x7 x8 x9 x10 x11 x12 x13 x14 x15 x16 x17 x18 x19 x20 x21 x22 x23 x24 x25 x26 x27 x28 x29 x30 x31 x32 : Value) : Is33k #[x0, x1, x2, x3, x4, x5, x6, x7, x8, x9, x10, x11, x12, x13, x14, x15, x16, x17, x18, x19, x20, x21, x22, x23, x24, x25, x26, x27, x28, x29, x30, x31, x32] ↔ True := ⟨fun _ => trivial, fun _ => rfl⟩
@[go_sem] theorem ones_kz : Ones #[.int .i64 0, .int .i64 0, .int .i64 0, .int .i64 0, .int .i64 0, .int .i64 0, .int .i64 0, .int .i64 0, .int .i64 0, .int .i64 0, .int .i64 0, .int .i64 0, .int .i64 0, .int .i64 0, .int .i64 0, .int .i64 0, .int .i64 0, .int .i64 0, .int .i64 0, .int .i64 0, .int .i64 0, .int .i64 0, .int .i64 0, .int .i64 0, .int .i64 0, .int .i64 0, .int .i64 0, .int .i64 0, .int .i64 0, .int .i64 0, .int .i64 0, .int .i64 0, .int .i64 0] ↔ True := ⟨fun _ => trivial, fun _ => by unfold Ones; simp [Value.oneCell']⟩
@[go_sem] theorem rowOk_at33k {w : World} {g : Nat} {c : Array Value} {t : TypeId} (h : g = w.heap.size) (hc : Is33k c) : rowOk (w.alloc (.cells c t)) g 33 ↔ True := ⟨fun _ => trivial, fun _ => ⟨c, t, heap_at _ _ _ h, hc⟩⟩
@[go_sem ↓] theorem exec_storeK (ρ : Operand → Value) (dst : Option Tmp) (x y : Operand) (ty : TypeId) (pos : String) (after : Array Edge) (guard : Option (Nat × Bool)) : execOp ρ { dst, op := .store 95 x y, type := ty, pos, after, guard } = storeT 95 (ρ x) (ρ y) := rfl
@[go_sem] theorem run_storeK {w : World} {g : Nat} {cs : Array Value} (h : rowOk w g 33) (hs : Is33k cs) (hc : Ones cs) : (storeT 95 (.pointer (some ⟨g, 0, none⟩)) (.agg cs)).run Try.prog w = .ok .skip (w.setRow g cs) := run_storeT aggK h hs hc
/-- how many of the first k numbers are l -/
def cntS (D : List Nat) (k : Nat) : Nat → Nat := fun l => (D.take k).count l
theorem cntS_zero (D : List Nat) : cntS D 0 = fun _ => 0 := by funext l; simp [cntS]
theorem cntS_step {D : List Nat} {k : Nat} (hk : k < D.length) (l : Nat) : cntS D (k + 1) l = cntS D k l + if D[k] = l then 1 else 0 := by
  unfold cntS
  rw [List.take_succ_eq_append_getElem hk, List.count_append]
  congr 1
  simp [List.count_singleton]
theorem cntS_le (D : List Nat) (k l : Nat) : cntS D k l ≤ D.length := by
  unfold cntS
  refine Nat.le_trans List.count_le_length ?_
  simp; omega
theorem degL_count {ps : List (Nat → Nat)} {n : Nat} (hk : Keeps ps n) (hn : n ≤ 32) : (countD (szL ps n) 32).map (· / 2) = degL ps n := by
  have h : ∀ x ∈ szL ps n, 1 ≤ x ∧ x ≤ 32 := by
    intro x hx
    unfold szL at hx
    obtain ⟨y, hy, rfl⟩ := List.mem_map.1 hx
    have hyn := List.mem_range.1 (List.mem_filter.1 hy).1
    have := cls_len hk hyn
    have := cls_pos ps y
    omega
  rw [countD_sort h]
  unfold degL
  apply sortD_unique
  · exact (sortD_perm _).map _
  · rw [List.pairwise_map]
    exact (sortD_pairwise _).imp fun {a b} hab => Nat.div_le_div_right hab

set_option maxRecDepth 100000 in
set_option maxHeartbeats 2000000 in
theorem sDegrees_any (n : Nat) (hn : n ≤ 32) (c t s f : Nat → Nat) (hK : Keeps [t, f] n) (hU : Undo [t, f] n) (w : World) :
    Calls Try.prog 56 #[.agg (fv (n : Int) c t s), .agg (qv f)] w fun e w' => ∃ v, e = .returned v ∧ Below w.heap.size w w' ∧ Own1 w.heap.size w' v (degL [t, f] n) := by
  have hdc := degL_count hK hn
  rw [← hdc]
  have HDC := hide hdc; clear hdc
  have hsz := szL_len [t, f] n
  have hcl : ∀ x ∈ szL [t, f] n, x ≤ 32 := by
    intro x hx
    unfold szL at hx
    obtain ⟨y, hy, rfl⟩ := List.mem_map.1 hx
    have hyn := List.mem_range.1 (List.mem_filter.1 hy).1
    have := cls_len hK hyn
    omega
  have hcd : (countD (szL [t, f] n) 32).length ≤ 32 := by
    have := congrArg List.length HDC.out
    rw [List.length_map] at this
    have := degL_len [t, f] n
    omega
  have CS := hide fun g w (ho : (pBlk g (lsB [t, f]).toArray 25).ok w) => sSets_any n hn [t, f] hK hU (by simp) g w ho
  clear hK hU
  have HCL := hide hcl; clear hcl
  have hn' := fv_n (n : Int) c t s
  have HH0 := ((Holds.start w).blk (fv (n : Int) c t s) 27 w.heap.size rfl).blk (qv f) 25 (w.heap.size + 1) (by simp)
  have n0 := HH0.cell 1 rfl hn'
  have HH1 := HH0.blk (lsB [t, f]).toArray 25 (w.heap.size + 1 + 1) (by simp)
  have CX := hide (CS.out (w.heap.size + 1 + 1) _ (HH1.at 0 rfl))
  clear CS HH0
  go_enter Try.func56, Try.ntmps56
  go_wp2_with fail
  refine (CX.out).mono ?_
  rintro e w2 ⟨v, rfl, hv⟩
  have HH2 := HH1.newRow hv.low (hv.row 0 rfl)
  clear hv CX HH1 n0
  have H3 : Holds w w2 [pInts v (szL [t, f] n)] := HH2.sub (.cons_cons _ (.cons _ (.cons _ (.cons _ (.refl _)))))
  clear HH2
  obtain ⟨D, hD⟩ : ∃ D, D = szL [t, f] n := ⟨_, rfl⟩
  have HDD := hide hD
  rw [← hD] at H3 hsz hcd HCL
  clear hD
  obtain ⟨A, cc, rfl⟩ := H3.intsForm 0 rfl
  have H4 : Holds w _ (pInts (.slice (some ⟨w2.heap.size, 0, none⟩) 0 0) (([] : List Nat).map (· / 2)) :: _) := H3.rowNew #[] 2 1 0 w2.heap.size rfl (by simp) (by decide)
  have H5 := H4.blk (kv fun _ => 0) 95 (w2.heap.size + 1) (by simp)
  have HH5 := hide H5; clear H3 H4 H5
  go_wp2
  rw [← kv_zero]
  generalize hG : w2.heap.size = G at *
  have HG := hide hG; clear hG
  go_loopw [8] (fun i wr => ∃ k : Nat, k ≤ D.length ∧ i = .int .i64 k ∧ Holds w wr [pBlk (G + 1) (kv (cntS D k)) 95, pInts (.slice (some ⟨G, 0, none⟩) 0 0) (([] : List Nat).map (· / 2)), pInts (.slice A D.length cc) D]) (fun i _ => D.length - (intOf i).toNat)
  case atStart => exact ⟨0, by omega, rfl, by rw [cntS_zero]; exact HH5.out⟩
  case round =>
    clear HH5
    obtain ⟨k, hk, rfl, hH⟩ := hrel
    by_cases hlt : k < D.length
    · obtain ⟨g0, c0, e0, hg0, c1, _⟩ := hH.ints 2 rfl hlt
      simp only [Value.slice.injEq] at e0
      obtain ⟨rfl, _, rfl⟩ := e0
      have hx := HCL.out D[k] (List.getElem_mem hlt)
      have hst := cntS_step hlt
      have hcl := cntS_le D k
      have hlti : (k : Int) < D.length := by omega
      generalize D[k] = x at *
      have hxi : (x : Int) < 33 := by omega
      have h4 := hH.cell 0 rfl (kv_get (cntS D k) (i := x) (by omega))
      have f4 := hH.frozen 0 rfl x
      have h3 := kv_set (cntS D k) (cntS D (k + 1)) x ((cntS D k x : Nat) + 1 : Int) (by rw [hst x, if_pos rfl]; simp) (fun j hj => by rw [hst j, if_neg (fun e => hj e.symm)]; rfl)
      have hs := hH.set 0 rfl x (.int .i64 ((cntS D k x : Nat) + 1 : Int))
      simp only [List.set_cons_zero] at hs
      rw [h3] at hs
      have hclx := hcl x
      have hwx : wrap64 ((cntS D k x : Nat) + 1 : Int) = ((cntS D k x : Nat) + 1 : Int) := wr64 (by omega) (by omega)
      have HS := hide hs; clear hs hst hcl h3
      generalize cntS D k x = y at *
      clear hH
      go_wp2
      go_roundw
      case rel => exact ⟨k + 1, by omega, by go_num, HS.out⟩
      case measure => simp [intOf]; omega
    · obtain rfl : k = D.length := by omega
      have hcf : cntS D D.length = fun l => D.count l := by funext l; unfold cntS; rw [List.take_length]
      rw [hcf] at hH
      have hH2 : Holds w wr [pInts (.slice (some ⟨G, 0, none⟩) 0 0) (([] : List Nat).map (· / 2)), pBlk (G + 1) (kv fun l => D.count l) 95] := (hH.sub (L' := [pBlk (G + 1) (kv fun l => D.count l) 95, pInts (.slice (some ⟨G, 0, none⟩) 0 0) (([] : List Nat).map (· / 2))]) (.cons_cons _ (.cons_cons _ (.cons _ (.refl _))))).perm (List.Perm.swap _ _ _)
      clear hcf hH hlt hk
      go_wp2
      go_loopw [7, 9] (fun out i wr => ∃ (j : Nat) (S : List Nat), j ≤ 32 ∧ i = .int .i64 j ∧ S ++ countD D j = countD D 32 ∧ Holds w wr [pInts out (S.map (· / 2)), pBlk (G + 1) (kv fun l => D.count l) 95]) (fun _ i _ => (intOf i).toNat)
      case atStart => exact ⟨32, [], by omega, rfl, rfl, hH2⟩
      case round =>
        clear hH2
        obtain ⟨j, S, hj, rfl, hS, hH⟩ := hrel
        by_cases hj0 : 0 < j
        · obtain ⟨i, hi⟩ : ∃ i, j = i + 1 := ⟨j - 1, by omega⟩
          have hcD : countD D j = List.replicate (D.count j) j ++ countD D i := by subst hi; rfl
          rw [hcD] at hS
          clear hcD
          have hi1 : i ≤ 32 := by omega
          have HI := hide hi; clear hi
          have hjd : decide ((0 : Int) < (j : Int)) = true := by simp; omega
          have hlen : S.length + (D.count j) ≤ 32 := by
            have := congrArg List.length hS
            rw [List.length_append, List.length_append, List.length_replicate] at this
            omega
          have hji : (j : Int) < 33 := by omega
          have c1 := hH.cell 1 rfl (kv_get (fun l => D.count l) (i := j) (by omega))
          have HS := hide hS; clear hS
          obtain ⟨y, hy⟩ : ∃ y, y = D.count j := ⟨_, rfl⟩
          rw [← hy] at c1 hlen
          have HY := hide hy; clear hy
          go_wp2
          clear c1
          go_loopg [7, 10] y (fun gd out q wr => ∃ (b : Nat) (T : List Nat), gd = b ∧ q = .int .i64 b ∧ T.length + b ≤ 32 ∧ T ++ List.replicate b j ++ countD D i = countD D 32 ∧ Holds w wr [pInts out (T.map (· / 2)), pBlk (G + 1) (kv fun l => D.count l) 95])
          case atStart => exact ⟨y, S, rfl, rfl, hlen, by rw [HY.out, List.append_assoc]; exact HS.out, hH⟩
          case round =>
            clear hH HS
            obtain ⟨b, T, hgd, rfl, hTl, hT, hH⟩ := hrel
            have HT := hide hT; clear hT
            by_cases hb0 : 0 < b
            · have hb1 : decide ((0 : Int) < (b : Int)) = true := by simp; omega
              obtain ⟨h2, hh2⟩ : ∃ h2, h2 = j / 2 := ⟨_, rfl⟩
              have hq : Int.tdiv (j : Int) 2 = (h2 : Int) := by rw [hh2]; rfl
              have hq2 : (j : Int) / 2 = (h2 : Int) := by omega
              have hwq : wrap64 (h2 : Int) = (h2 : Int) := wr64 (by omega) (by omega)
              have hTT : (T ++ [j]) ++ List.replicate (b - 1) j ++ countD D i = countD D 32 := by
                rw [← HT.out]
                obtain ⟨b, rfl⟩ : ∃ b', b = b' + 1 := ⟨b - 1, by omega⟩
                simp [List.replicate_succ]
              have hTm : (T ++ [j]).map (· / 2) = T.map (· / 2) ++ [h2] := by rw [List.map_append, hh2]; rfl
              obtain ⟨M, hM⟩ : ∃ M, M = T.map (· / 2) := ⟨_, rfl⟩
              have hMl : M.length ≤ 32 := by rw [hM, List.length_map]; omega
              rw [← hM] at hH hTm
              have H2 := hide (And.intro hTT hTm); clear hTT hTm hM hh2
              go_wp2_with (at_builtin; refine appI (hH.alloc _) 0 rfl wr.heap.size [h2] 2 ?_ ?_ rfl _ _ rfl rfl rfl ?_)
              · first | exact heap_at _ _ _ rfl | exact (Array.getElem?_eq_some_iff.1 (heap_at wr _ _ rfl)).2
              · first | (simp only [List.length_cons, List.length_nil]; omega) | omega
              intro v' w' h1
              clear hH
              go_wp2
              go_roundg (b - 1)
              case measure => omega
              case rel => exact ⟨b - 1, T ++ [j], rfl, by go_num, by simp; omega, H2.out.1, by rw [H2.out.2]; exact h1⟩
            · obtain rfl : b = 0 := by omega
              go_wp2
              go_roundw
              case rel => exact ⟨i, T, hi1, by have := HI.out; go_num, by simpa using HT.out, hH⟩
              case measure => have := HI.out; simp [intOf]; omega
        · obtain rfl : j = 0 := by omega
          have hSS : S = countD D 32 := by simpa [countD] using hS
          have hO := hH.own1 0 rfl
          have hlow := hH.low
          have HO := hide (And.intro hSS hO)
          clear hS hSS hO hH hj0
          go_wp2
          go_ret
          exact ⟨u7, rfl, hlow, by rw [← HDD.out, ← HO.out.1]; exact HO.out.2⟩
end Go.Proofs.Ytcddglkecfnhmaa

