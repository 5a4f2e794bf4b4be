/- spec.l01Type: the type as a counting sort -/
import Derived.Test.YtdoehnckolhloaaSCyc
import Derived.Test.YtdoehnckolhloaaMark
namespace Go.Proofs.Ytdoehnckolhloaa
open Go.RowKit

@[irreducible] def cv (f : Nat → Nat) : Array Value := row 17 fun i => .int .i64 (f i)
theorem cv_size (f : Nat → Nat) : (cv f).size = 17 := by unfold cv; exact row_size _ _
theorem cv_get (f : Nat → Nat) {i : Nat} (h : i < 17) : (cv f)[i]? = some (.int .i64 (f i)) := by unfold cv; exact row_get _ _ h
theorem cv_set (f g : Nat → Nat) (i : Nat) (x : Int) (hx : x = g i) (h : ∀ j, j ≠ i → g j = f j) : (cv f).setIfInBounds i (.int .i64 x) = cv g := by
  unfold cv
  rw [row_set]
  refine row_congr fun j _ => ?_
  show (if j = i then _ else _) = _
  split
  · rename_i e; subst e; rw [hx]
  · rename_i e; rw [h j e]
theorem cv_cells (f : Nat → Nat) : (cv f).all (·.oneCell') = true := by unfold cv row; simp [Value.oneCell']
theorem cv_zero : cv (fun _ => 0) = #[.int .i64 0, .int .i64 0, .int .i64 0, .int .i64 0, .int .i64 0, .int .i64 0, .int .i64 0, .int .i64 0, .int .i64 0, .int .i64 0, .int .i64 0, .int .i64 0, .int .i64 0, .int .i64 0, .int .i64 0, .int .i64 0, .int .i64 0] := by
  unfold cv row; rfl
/-- how many of the first k lists have each length -/
def cntF (ls : List (List Nat)) (k : Nat) : Nat → Nat := fun l => ((ls.take k).map List.length).count l
theorem cntF_zero (ls : List (List Nat)) : cntF ls 0 = fun _ => 0 := by funext l; simp [cntF]
theorem cntF_step {ls : List (List Nat)} {k : Nat} (hk : k < ls.length) (l : Nat) : cntF ls (k + 1) l = cntF ls k l + if ls[k].length = l then 1 else 0 := by
  unfold cntF
  rw [List.take_succ_eq_append_getElem hk, List.map_append, List.count_append]
  congr 1
  simp [List.count_singleton]
theorem cntF_le (ls : List (List Nat)) (k l : Nat) : cntF ls k l ≤ ls.length := by
  unfold cntF
  refine Nat.le_trans List.count_le_length ?_
  simp; omega
theorem aggC : AggT 90 17 := ⟨⟨_, Try.underlying90, rfl⟩, by kernel_rfl⟩
def Is17 (c : Array Value) : Prop := c.size = 17
@[go_sem] theorem is17_cv (f : Nat → Nat) : Is17 (cv f) ↔ True := ⟨fun _ => trivial, fun _ => cv_size f⟩
@[go_sem] theorem ones_cv (f : Nat → Nat) : Ones (cv f) ↔ True := ⟨fun _ => trivial, fun _ => cv_cells f⟩

set_option maxRecDepth 100000 in
set_option maxHeartbeats 1000000 in
theorem sType_any (p : Nat → Nat) (m : Nat) (hp : PermN p m) (w : World) :
    Calls Try.prog 117 #[.agg (av p), .int .i64 m] w fun e w' => ∃ v, e = .returned v ∧ Below w.heap.size w w' ∧ Own1 w.heap.size w' v (sortD (lens p m)) := by
  have C := hide fun w => sCycles_any p m hp w
  have hle := cycs_len_le hp.2.2.1 hp.2.1 (Nat.le_refl m)
  have hm16 := hp.2.1
  have hls : ∀ l ∈ cycs p m, 1 ≤ l.length ∧ l.length ≤ m := fun l hl => lens_pos hp.2.2.1 hp.2.1 (List.mem_map_of_mem hl)
  have hD : countD (lens p m) m = sortD (lens p m) := countD_sort fun x hx => lens_pos hp.2.2.1 hp.2.1 hx
  have hDl : (countD (lens p m) m).length ≤ 16 := by rw [hD, (sortD_perm _).length_eq]; unfold lens; rw [List.length_map]; exact hle
  have hcnt : ∀ l, cntF (cycs p m) (cycs p m).length l = (lens p m).count l := fun l => by unfold cntF lens; rw [List.take_length]
  rw [← hD]
  clear hD hp
  generalize lens p m = D at *
  have HC := hide hcnt; clear hcnt
  have HL := hide hls; clear hls
  have HD := hide hDl; clear hDl
  obtain ⟨i0, hi, hz0, hz1, hz2⟩ := info_parts info64
  have I0 := hide (And.intro hi (And.intro hz0 (And.intro hz1 hz2))); clear hi hz0 hz1 hz2
  go_enter Try.func117, Try.ntmps117
  go_wp2_with fail
  refine (C.out _).mono ?_
  rintro e w2 ⟨v, rfl, hb, ho⟩
  generalize cycs p m = ls at *
  obtain ⟨A, c, rfl⟩ := ho.form
  obtain ⟨vs, hv⟩ := own2v.1 ho
  clear ho
  have HV := hide hv; clear hv
  have b2 := (below1 w _).trans (hb.mono (by simp))
  have s2 := b2.size
  clear hb
  go_wp2
  rw [← cv_zero]
  go_loopw [8] (fun i wr => ∃ k : Nat, k ≤ ls.length ∧ i = .int .i64 k ∧ wr = (w2.alloc (.cells #[] 2)).alloc (.cells (cv (cntF ls k)) 90)) (fun i _ => ls.length - (intOf i).toNat)
  case atStart => exact ⟨0, by omega, rfl, by rw [cntF_zero]⟩
  case round =>
    obtain ⟨k, hk, rfl, rfl⟩ := hrel
    by_cases hlt : k < ls.length
    · obtain ⟨g, A', c', rfl, hg, _, c1, _⟩ := HV.out.at hlt
      have hx := HL.out ls[k] (List.getElem_mem hlt)
      have hst := cntF_step hlt
      have hcl := cntF_le ls k
      generalize ls[k].length = x at *
      have h4 := cv_get (cntF ls k) (i := x) (by omega)
      have h3 := cv_set (cntF ls k) (cntF ls (k + 1)) x ((cntF ls k x : Nat) + 1 : Int) (by rw [hst x, if_pos rfl]; simp) (fun j hj => by rw [hst j, if_neg (fun e => hj e.symm)]; rfl)
      have hclx := hcl x
      have HST := hide hst; clear hst hcl
      generalize cntF ls k x = y at *
      go_wp2
      go_roundw
      case rel => exact ⟨k + 1, by omega, by go_num, rfl⟩
      case measure => simp [intOf]; omega
    · obtain rfl : k = ls.length := by omega
      clear hlt hk HV
      have hcf : cntF ls ls.length = fun l => D.count l := by funext l; exact HC.out l
      rw [hcf]
      clear hcf HC HL
      go_wp2
      go_loopw [7, 9] (fun out k wr => ∃ (j : Nat) (S : List Nat), j ≤ m ∧ k = .int .i64 j ∧ S ++ countD D j = countD D m ∧ Below w.heap.size w wr ∧ w2.heap.size + 1 < wr.heap.size ∧ wr.heap[w2.heap.size + 1]? = some (.cells (cv fun l => D.count l) 90 (0, 0)) ∧ Own1 w2.heap.size wr out S) (fun _ k _ => (intOf k).toNat)
      case atStart => exact ⟨m, [], by omega, rfl, rfl, (b2.alloc (by omega) _).alloc (by simp; omega) _, by simp, heap_at _ _ _ (by simp), (own_empty w2 2 1 _ (Nat.le_refl _)).alloc _⟩
      case round =>
        obtain ⟨j, S, hj, rfl, hS, hb, hsz, hh, hown⟩ := hrel
        by_cases hj0 : 0 < j
        · obtain ⟨i, hi⟩ : ∃ i, j = i + 1 := ⟨j - 1, by omega⟩
          have hcD : countD D j = List.replicate (D.count j) j ++ countD D i := by subst hi; rfl
          rw [hcD] at hS
          clear hcD
          have hi1 : i ≤ m := by omega
          have HI := hide hi; clear hi
          have hjd : decide ((0 : Int) < (j : Int)) = true := by simp; omega
          have hD16 := HD.out
          have hlen : S.length + (D.count j) ≤ 16 := by
            have := congrArg List.length hS
            rw [List.length_append, List.length_append, List.length_replicate] at this
            omega
          have c1 : wr.cell? ⟨w2.heap.size + 1, j, none⟩ = some (.int .i64 (D.count j)) := by rw [cell_of_cells, cellsOf_heap hh, cv_get _ (by omega)]
          have HH := hide hh; clear hh
          have HS := hide hS; clear hS
          obtain ⟨y, hy⟩ : ∃ y, y = D.count j := ⟨_, rfl⟩
          rw [← hy] at c1 hlen
          have HY := hide hy; clear hy
          go_wp2
          clear c1
          obtain ⟨wo, rfl⟩ : ∃ wo : World, wo = wr := ⟨_, rfl⟩
          go_loopg [7, 10] y (fun gd out c wr => ∃ (b : Nat) (T : List Nat), gd = b ∧ c = .int .i64 b ∧ T.length + b ≤ 16 ∧ T ++ List.replicate b j ++ countD D i = countD D m ∧ Below w.heap.size w wr ∧ w2.heap.size + 1 < wr.heap.size ∧ wr.heap[w2.heap.size + 1]? = some (.cells (cv fun l => D.count l) 90 (0, 0)) ∧ Own1 w2.heap.size wr out T)
          case atStart => exact ⟨y, S, rfl, rfl, hlen, by rw [HY.out, List.append_assoc]; exact HS.out, hb, hsz, HH.out, hown⟩
          case round =>
            clear hb hsz HH hown HS
            obtain ⟨b, T, hgd, rfl, hTl, hT, hbw, hsw, hhw, how⟩ := hrel
            have HW := hide hhw; clear hhw
            have HT := hide hT; clear hT
            by_cases hb0 : 0 < b
            · have hb1 : decide ((0 : Int) < (b : Int)) = true := by simp; omega
              have how' := how
              unfold Own1 at how'
              have hTl' : T.length ≤ 15 := by omega
              go_wp2_with (at_builtin; refine wpList_append_own _ rfl _ _ 32 rfl w2.heap.size 2 i0 (.int .i64 0) 1 8 Try.underlying32 I0.out.1 I0.out.2.1 I0.out.2.2.1 I0.out.2.2.2 rfl (by decide) _ _ _ rfl (how'.alloc _) ⟨wr.heap.size, 0, none⟩ 1 1 [.int .i64 j] rfl rfl ?c1 ?c2 ?c3 ?c4 ?c5 ?_)
              case c1 => exact one_new _ _ _ _ (by simp)
              case c2 => intro u hu; simp at hu; subst hu; rfl
              case c3 => unfold maxLen; omega
              case c4 => omega
              case c5 => simp; omega
              intro v' w1 hown' hg' _
              have hnm := own_ne_blk how' HW.out (by decide)
              have hs1 : wr.heap.size + 1 ≤ w1.heap.size := by have := hg'.size; simpa using this
              have hmc : w1.heap[w2.heap.size + 1]? = some (.cells (cv fun l => D.count l) 90 (0, 0)) := by
                rw [hg'.block _ (by simp; omega) (fun e => by rcases hnm with c | c; rw [c] at e; cases e; exact c e.symm), heap_past _ _ _ (by omega)]; exact HW.out
              have hbw1 : Below w.heap.size w w1 := (hbw.alloc (by omega) _).grown hg' (by simp; omega) (fun g hg => by have := (how'.lt g hg).1; omega)
              have hO : Own1 w2.heap.size w1 v' (T ++ [j]) := by
                unfold Own1 nums at *
                simpa using hown'
              have hTT : (T ++ [j]) ++ List.replicate (b - 1) j ++ countD D i = countD D m := by
                rw [← HT.out]
                obtain ⟨b, rfl⟩ : ∃ b', b = b' + 1 := ⟨b - 1, by omega⟩
                simp [List.replicate_succ]
              have H1 := hide hmc; clear hmc
              have H2 := hide hTT; clear hTT
              clear hown' hg' how' hnm
              go_wp2
              go_roundg (b - 1)
              case measure => omega
              case rel => exact ⟨b - 1, T ++ [j], rfl, by go_num, by simp; omega, H2.out, hbw1, by omega, H1.out, hO⟩
            · obtain rfl : b = 0 := by omega
              go_wp2
              go_roundw
              case rel => exact ⟨i, T, hi1, by have := HI.out; go_num, by simpa using HT.out, hbw, hsw, HW.out, how⟩
              case measure => have := HI.out; simp [intOf]; omega
        · obtain rfl : j = 0 := by omega
          clear hh
          have hO : Own1 w.heap.size wr u7 (countD D m) := by rw [← hS]; simpa [countD] using hown.mono s2
          clear hS hown
          go_wp2
          go_ret
          exact ⟨_, rfl, hb, hO⟩
end Go.Proofs.Ytdoehnckolhloaa
