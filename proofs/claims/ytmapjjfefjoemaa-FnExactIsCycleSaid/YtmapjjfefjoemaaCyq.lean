/- Cycles of edges: what a chain sums up to at the vertices; impl.isCycle. -/
import Derived.Test.YtmapjjfefjoemaaNin
import Derived.Test.YtmapjjfefjoemaaTwo
import Derived.Test.YtmapjjfefjoemaaHS3
import Derived.Test.YtmapjjfefjoemaaCycL
import Derived.Test.YtmapjjfefjoemaaCnt
namespace Go.Proofs.Ytmapjjfefjoemaa
open Go.RowKit

def zer9 (l : List Int) (cs : List (List Nat)) : Bool := cs.all fun c => sm9 l c == 0
theorem zer9_bad {l : List Int} {cs : List (List Nat)} {i : Nat} (h : i < cs.length) (hb : (sm9 l cs[i] != 0) = true) : zer9 l cs = false := by
  unfold zer9
  rw [List.all_eq_false]
  exact ⟨cs[i], List.getElem_mem h, by simpa using hb⟩
theorem zer9_good {l : List Int} {cs : List (List Nat)} (h : ∀ i (hi : i < cs.length), (sm9 l cs[i] != 0) = false) : zer9 l cs = true := by
  unfold zer9
  rw [List.all_eq_true]
  intro c hc
  obtain ⟨i, hi, rfl⟩ := List.getElem_of_mem hc
  simpa using h i hi
theorem zer9_append (l : List Int) (a b : List (List Nat)) : zer9 l (a ++ b) = (zer9 l a && zer9 l b) := by unfold zer9; exact List.all_append
/-- a chain that sums up to nothing at each vertex -/
def cyc9 (l : List Int) (f g : Nat → Nat) (m : Nat) : Bool := zer9 l (cycs f m ++ cycs g m)
theorem pick2_perm {f g : Nat → Nat} {m k : Nat} (hd : DesN f g m) : PermN (pick2 f g k) m := by
  unfold pick2
  split
  · exact hd.black
  · exact hd.white
theorem cyc_lt9 {p : Nat → Nat} {m : Nat} (hp : PermN p m) {x : Nat} {c : List Nat} (h1 : c ∈ cycs p m) (h2 : x ∈ c) : x < m :=
  List.mem_range.1 ((cycs_flat hp.2.2.1 hp.2.1).subset (List.mem_flatten.2 ⟨c, h1, h2⟩))
theorem cyc_len9 {p : Nat → Nat} {m : Nat} (hp : PermN p m) {c : List Nat} (h1 : c ∈ cycs p m) : c.length ≤ 16 := by
  have := (lens_pos hp.2.2.1 hp.2.1 (List.mem_map.2 ⟨c, h1, rfl⟩)).2
  have := hp.2.1
  omega
theorem rd_nums {B : Nat} {w : World} {v : Value} {l : List Nat} (h : Own1 B w v l) (hl : l.length ≤ 1000000) : RdZ w v (zs9 l) := by
  have h1 := h.z
  exact OwnZ.rd h1 (by rw [zs9_length]; omega)
set_option maxRecDepth 100000 in
set_option maxHeartbeats 2000000 in
theorem isCycle_any (v : Value) (l : List Int) (f g : Nat → Nat) (m : Nat) (hd : DesN f g m) (hl : l.length = m) (hs : ∀ x ∈ l, -100000 ≤ x ∧ x ≤ 100000) (w : World) (hv : RdZ w v l) :
    Calls Try.prog 75 #[.agg (dv m f g), v] w fun e w' => e = .returned (.bool (cyc9 l f g m)) ∧ Below w.heap.size w w' := by
  have CL := hide fun (k : Nat) w => cycleList_any (pick2 f g k) m (pick2_perm hd) w
  have CB := hide fun (k : Nat) (x : Nat) (c : List Nat) (h1 : c ∈ cycs (pick2 f g k) m) (h2 : x ∈ c) => cyc_lt9 (pick2_perm hd) h1 h2
  have CN := hide fun (k : Nat) (c : List Nat) (h1 : c ∈ cycs (pick2 f g k) m) => cyc_len9 (pick2_perm hd) h1
  have CK := hide fun (k : Nat) => cycs_le (pick2_perm (k := k) hd)
  obtain ⟨r, hr⟩ : ∃ r, r = cyc9 l f g m := ⟨_, rfl⟩
  rw [← hr]
  have HR := hide (hr.trans (zer9_append l (cycs f m) (cycs g m))); clear hr
  have HS := hide hs; clear hs
  have HL := hide hl; clear hl
  have HV := hide hv
  have hm := hd.le
  clear hd
  obtain ⟨A0, c0, rfl, _⟩ := hv.form
  clear hv
  have HH0 := (Holds.start w).blk (dv m f g) 31 w.heap.size rfl
  have hn := dv_n m f g
  go_enter Try.func75, Try.ntmps75
  go_wp2
  go_loopw [14] (fun t wr => ∃ k : Nat, k ≤ 2 ∧ t = .int .i64 k ∧ Hid (∀ j, j < k → zer9 l (cycs (pick2 f g j) m) = true) ∧ Holds w wr [pBlk w.heap.size (dv m f g) 31]) (fun t _ => 2 - (intOf t).toNat)
  case atStart => exact ⟨0, Nat.zero_le _, rfl, hide (fun j h => by omega), HH0⟩
  case round =>
    clear HH0
    obtain ⟨k, hk, rfl, hZ, hH⟩ := hrel
    by_cases hlt : k < 2
    · have hlti : (k : Int) < 2 := by omega
      have cn := hH.cell 0 rfl hn
      have HB := (hH.blk (av (pick2 f g k)) 29 wr.heap.size rfl)
      have cn2 := hH.lt 0 rfl
      have cd2 := hH.cells 0 rfl
      have CL2 := hide fun w => CL.out k w
      have CB2 := hide fun x c h1 h2 => CB.out k x c h1 h2
      have CN2 := hide fun c h1 => CN.out k c h1
      have hK := CK.out k
      have hF1 := hide (fun (h : zer9 l (cycs (pick2 f g k) m) = false) => (by
        rw [HR.out]
        have : k = 0 ∨ k = 1 := by omega
        rcases this with rfl | rfl
        · have e : pick2 f g 0 = f := rfl
          rw [e] at h; rw [h, Bool.false_and]
        · have e : pick2 f g 1 = g := rfl
          rw [e] at h; rw [h, Bool.and_false] : r = false))
      have hF2 := hide (fun (h : zer9 l (cycs (pick2 f g k) m) = true) => (fun (j : Nat) (hj : j < k + 1) => (by
        by_cases e : j = k
        · subst e; exact h
        · exact hZ.out j (by omega) : zer9 l (cycs (pick2 f g j) m) = true)))
      clear hZ
      generalize cycs (pick2 f g k) m = cs at *
      go_wp2_with fail
      refine (CL2.out _).mono ?_
      rintro e w1 ⟨v1, rfl, hb, ho⟩
      obtain ⟨A, c, vs, rfl, hv⟩ := own2_form ho
      have HLV := hide hv.len
      have H1 := (HB.joinL (Holds.ofOwn2 hb hv)).tail
      clear hb ho hv HB hH cn cn2 cd2
      go_wp2
      go_loopw [22] (fun t wq => ∃ i : Nat, i ≤ cs.length ∧ t = .int .i64 i ∧ Hid (∀ j (hj : j < cs.length), j < i → (sm9 l cs[j] != 0) = false) ∧ Holds w wq (pBlk w.heap.size (dv m f g) 31 :: pVals (.slice A cs.length c) vs :: rowsP vs cs)) (fun t _ => cs.length - (intOf t).toNat)
      case atStart => exact ⟨0, Nat.zero_le _, rfl, hide (fun j hj h => by omega), H1⟩
      case round =>
        clear H1
        obtain ⟨i, hi, rfl, hZ, hH⟩ := hrel
        by_cases hil : i < cs.length
        · have hil' : (i : Int) < cs.length := by omega
          obtain ⟨g0, d0, A', c', e0, hvi, x1, hpart⟩ := hH.rowAt HLV.out 1 rfl (fun _ => rfl) hil
          injection e0 with e0 e0a e0b
          subst e0
          clear e0a e0b hvi
          have hmem := List.getElem_mem hil
          have hci := CN2.out _ hmem
          have RU := hide (rd_nums (hH.own1 (i + (1 + 1)) hpart) (by omega))
          have SC := hide fun (w : World) => sumAt_any (.slice A0 l.length c0) (.slice A' cs[i].length c') l cs[i] HS.out (by omega) (fun x hx => by rw [HL.out]; exact CB2.out x _ hmem hx) w
          have RV := hide (HV.out.below hH.low (Nat.le_refl _))
          rcases hz : (sm9 l cs[i] != 0) with _ | _
          · have hZ' := hide (fun (j : Nat) (hj : j < cs.length) (h : j < i + 1) => (by
              by_cases e : j = i
              · subst e; exact hz
              · exact hZ.out j hj (by omega) : (sm9 l cs[j] != 0) = false))
            clear hpart hmem
            generalize cs[i] = ci at *
            generalize sm9 l ci = s at *
            go_wp2_with fail
            refine (SC.out _ RV.out RU.out).mono ?_
            rintro e w2 ⟨rfl, rfl⟩
            go_wp2
            go_roundw
            case rel => exact ⟨i + 1, by omega, by go_num, hZ', hH⟩
            case measure => simp [intOf]; omega
          · have hF := hide (hF1.out (zer9_bad hil hz))
            clear hpart hmem
            generalize cs[i] = ci at *
            generalize sm9 l ci = s at *
            go_wp2_with fail
            refine (SC.out _ RV.out RU.out).mono ?_
            rintro e w2 ⟨rfl, rfl⟩
            go_wp2
            go_ret
            exact ⟨by rw [hF.out]; rfl, hH.low⟩
        · obtain rfl : i = cs.length := by omega
          have hF := hide (hF2.out (zer9_good fun j hj => hZ.out j hj hj))
          have hH2 := hH.sub (L' := [pBlk w.heap.size (dv m f g) 31]) (.cons_cons _ (List.nil_sublist _))
          clear hZ hH hi hil
          go_wp2
          go_roundw
          case rel => exact ⟨k + 1, by omega, by go_num, hF, hH2⟩
          case measure => simp [intOf]; omega
    · obtain rfl : k = 2 := by omega
      have hF := hide (show r = true by rw [HR.out]; have a := hZ.out 0 (by omega); have b := hZ.out 1 (by omega); exact (Bool.and_eq_true _ _).mpr ⟨a, b⟩)
      clear hZ hk hlt
      go_wp2
      go_ret
      exact ⟨by rw [hF.out]; rfl, hH.low⟩
end Go.Proofs.Ytmapjjfefjoemaa
