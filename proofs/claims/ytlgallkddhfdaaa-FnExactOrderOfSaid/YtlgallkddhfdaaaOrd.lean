/- '==' of two arrays of 16 bytes; OrderOf of the program -/
import Derived.Test.YtlgallkddhfdaaaPl1
import Derived.Test.YtlgallkddhfdaaaSPerm
import Derived.Test.YtlgallkddhfdaaaToPl
import Derived.Test.YtlgallkddhfdaaaOwn
import Derived.ChangeKeysEq
namespace Go.Proofs.Ytlgallkddhfdaaa
open Go.RowKit

theorem info8 : (Try.prog.info? 5).map (fun i => (i.zero, i.size, i.bytes)) = some (some (.int .u8 0), 1, 1) := by kernel_rfl
theorem plain8 : Try.prog.plainKey 5 = true := by kernel_rfl
theorem cells8 : Try.prog.cellsOf 5 = 1 := by kernel_rfl
@[go_sem] theorem guardP : Try.prog.eqGuardType Try.prog.depth 25 = false := by kernel_rfl
@[irreducible] def sameB (f g : Nat → Nat) : Bool := (List.range 16).all fun i => ((f i : Nat) : Int) == ((g i : Nat) : Int)
theorem sameB_iff (f g : Nat → Nat) : sameB f g = true ↔ ∀ i, i < 16 → f i = g i := by unfold sameB; simp [Int.ofNat_inj]
theorem run_items (f g : Nat → Nat) (w : World) : ∀ is : List Nat, (∀ i ∈ is, i < 16) →
    (Op.eqItems 9999 5 1 (av f) (av g) is).run Try.prog w = .ok (is.all fun i => ((f i : Nat) : Int) == ((g i : Nat) : Int)) w
  | [], _ => by simp [Op.eqItems]
  | i :: is, h => by
    have hi := h i (by simp)
    have ih := run_items f g w is fun j hj => h j (by simp [hj])
    have h1 := run_part_plain w plain8 (av_get f hi)
    have h2 := run_part_plain w plain8 (av_get g hi)
    have h3 := run_equalIn_int w 9998 5 .u8 .u8 (f i) (g i) Try.underlying5
    simp only [Op.eqItems, Nat.mul_one, Sem.run_bind, h1, h2, h3, Result.andThen_ok, List.all_cons]
    rcases hb : (((f i : Nat) : Int) == ((g i : Nat) : Int)) with _ | _
    · simp
    · simp [ih]
@[go_sem] theorem run_sameP (f g : Nat → Nat) (w : World) : (Op.equalIn 10000 25 (.agg (av f)) (.agg (av g))).run Try.prog w = .ok (sameB f g) w := by
  obtain ⟨i0, hi, _⟩ := info_parts info8
  have h := run_equalIn_array w 9999 (av f) (av g) Try.underlying25 hi
  rw [cells8] at h
  rw [h, run_items f g w _ (by simp)]
  unfold sameB; rfl

/-- the k-th power -/
def powF (p : Nat → Nat) (m k : Nat) : Nat → Nat := upto (it p k) m
theorem powF_one {p : Nat → Nat} {m : Nat} (h : PermN p m) : av (powF p m 1) = av p := by
  refine av_congr fun i hi => ?_
  unfold powF upto it
  split
  · rfl
  · exact (h.2.2.2 i (by omega) hi).symm
theorem powF_step (p : Nat → Nat) (m k : Nat) : thenF (powF p m k) p m = powF p m (k + 1) := by
  funext i
  unfold thenF powF upto
  split
  · rename_i h
    show p (if i < m then it p k i else 0) = _
    rw [if_pos h]; rfl
  · rfl
theorem powF_same {p : Nat → Nat} {m : Nat} (hm : m ≤ 16) (k : Nat) : sameB (powF p m k) (sameF m) = true ↔ ∀ x, x < m → it p k x = x := by
  rw [sameB_iff]
  unfold powF sameF upto
  constructor
  · intro h x hx
    have := h x (by omega)
    rwa [if_pos hx, if_pos hx] at this
  · intro h x hx
    split
    · exact h x (by assumption)
    · rfl

noncomputable def ordR (p : Nat → Nat) (n : Int) : Value :=
  if permB p n = true then .tuple #[.int .i64 (lcms (lens p n.toNat)), .int .i64 0] else .tuple #[.int .i64 0, .int .i64 1]

set_option maxRecDepth 100000 in
set_option maxHeartbeats 1000000 in
theorem orderOf_any (p : Nat → Nat) (hp : ∀ i, p i < 256) (n : Int) (w : World) :
    Calls Try.prog 30 #[.agg (av p), .int .i64 n] w fun e w' => e = .returned (ordR p n) ∧ Below w.heap.size w w' := by
  have C1 := hide fun w => isPerm_any p hp n w
  clear hp
  rcases h1 : permB p n with _ | _
  · rw [h1] at C1
    have hr : ordR p n = .tuple #[.int .i64 0, .int .i64 1] := by unfold ordR; rw [if_neg (by simp [h1])]
    rw [hr]
    clear h1 hr
    go_enter Try.func30, Try.ntmps30
    go_wp2_with fail
    refine (C1.out _).mono ?_
    rintro e w1 ⟨rfl, hb⟩
    go_wp2
    go_ret2
    exact ⟨rfl, (below1 w _).trans (hb.mono (by simp))⟩
  · rw [h1] at C1
    obtain ⟨m, rfl, hpm⟩ := permB_true h1
    have hr : ordR p (m : Int) = .tuple #[.int .i64 (lcms (lens p m)), .int .i64 0] := by unfold ordR; rw [if_pos h1, Int.toNat_natCast]
    rw [hr]
    clear h1 hr
    have h16 := hpm.2.1
    have hbij := hpm.2.2.1
    have C2 := hide fun w => stay_any m h16 w
    have hle := lcms_le hbij h16
    have hpos := lcms_pos hbij h16
    have hall : ∀ x, x < m → it p (lcms (lens p m)) x = x := fun x hx => order_all hbij h16 hx
    have C3 := hide fun (k : Nat) (w : World) => (powF_step p m k ▸ follow_any (powF p m k) p m h16 (fun i hi => by unfold powF upto; rw [if_pos hi]; have := hbij.it_lt k hi; omega) w : Calls Try.prog 56 #[.agg (av (powF p m k)), .agg (av p), .int .i64 m] w fun e w' => e = .returned (.agg (av (powF p m (k + 1)))) ∧ Below w.heap.size w w')
    have HB := hide hbij; clear hbij
    have HA := hide hall; clear hall
    have hone := powF_one hpm
    have HP := hide hpm; clear hpm
    obtain ⟨L, hL⟩ : ∃ L, L = lcms (lens p m) := ⟨_, rfl⟩
    rw [← hL] at hle hpos HA ⊢
    have HL := hide hL; clear hL
    go_enter Try.func30, Try.ntmps30
    go_wp2_with fail
    refine (C1.out _).mono ?_
    rintro e w1 ⟨rfl, hb⟩
    have c1 : cellsOf w1 w.heap.size = av p := (below_cells hb (by simp)).trans (cellsOf_heap (heap_at _ _ _ rfl))
    have s1 : w.heap.size + 1 ≤ w1.heap.size := by have := hb.size; simpa using this
    have b1 := (below1 w _).trans (hb.mono (by simp))
    clear hb
    go_wp2_with fail
    refine (C2.out _).mono ?_
    rintro e w2 ⟨rfl, hb2⟩
    have c2 : cellsOf w2 w.heap.size = av p := (below_cells hb2 (by omega)).trans c1
    have s2 := hb2.size
    have b2 := b1.trans (hb2.mono (by omega))
    clear hb2 c1 b1
    have HO := hide hone; clear hone
    have hlt : w.heap.size < w2.heap.size := by omega
    go_wp2
    go_loopw [6, 8] (fun o q wr => ∃ k g : Nat, 1 ≤ k ∧ k ≤ L ∧ o = .int .i64 k ∧ q = .pointer (some ⟨g, 0, none⟩) ∧ Below w.heap.size w wr ∧ cellsOf wr w.heap.size = av p ∧ cellsOf wr w2.heap.size = av (sameF m) ∧ w2.heap.size < g ∧
        rowOk wr g 16 ∧ cellsOf wr g = av (powF p m k) ∧ ∀ j, 0 < j → j < k → ¬ ∀ x, x < m → it p j x = x) (fun o _ _ => L - (intOf o).toNat)
    case atStart => exact ⟨1, w2.heap.size + 1, by omega, by omega, rfl, rfl, (b2.alloc (by omega) _).alloc (by simp; omega) _, by rw [cellsOf_past (by simp; omega), cellsOf_past (by omega)]; exact c2, by rw [cellsOf_past (by simp)]; exact cellsOf_heap (heap_at _ _ _ rfl),
        by omega, ⟨_, _, heap_at _ _ _ (by simp), av_size _⟩, by rw [HO.out]; exact cellsOf_heap (heap_at _ _ _ (by simp)), fun j h1 h2 => by omega⟩
    case round =>
      obtain ⟨k, g, hk1, hk2, rfl, rfl, hbr, hcp, hcs, hgg, hrg, hcg, hmin⟩ := hrel
      have hgl := hrg.lt
      have HM := hide hmin; clear hmin
      have hsb := powF_same (p := p) h16 k
      rcases hs : sameB (powF p m k) (sameF m) with _ | _
      · have hne : ¬ ∀ x, x < m → it p k x = x := fun h => by rw [hsb.2 h] at hs; cases hs
        have hkL : k < L := by
          rcases Nat.lt_or_ge k L with c | c
          · exact c
          · obtain rfl : k = L := by omega
            exact absurd HA.out hne
        have HN := hide hne; clear hne
        clear hsb
        have HR := hide hrg; clear hrg
        have hlw : w.heap.size < wr.heap.size := by omega
        have hlw2 : w2.heap.size < wr.heap.size := by omega
        go_wp2_with fail
        refine (C3.out _ _).mono ?_
        rintro e w3 ⟨rfl, hb3⟩
        have r3 : rowOk w3 wr.heap.size 16 := (below_row hb3 (by simp)).2 ⟨_, _, heap_at _ _ _ rfl, av_size _⟩
        have p3 : cellsOf w3 w.heap.size = av p := by rw [below_cells hb3 (by simp; omega), cellsOf_past (by omega)]; exact hcp
        have q3 : cellsOf w3 w2.heap.size = av (sameF m) := by rw [below_cells hb3 (by simp; omega), cellsOf_past (by omega)]; exact hcs
        have b3 := (hbr.alloc (by omega) (.cells (av (powF p m k)) 25)).trans (hb3.mono (by simp; omega))
        clear hb3 hcp hcs hcg hbr
        go_wp2
        go_roundw
        case rel => exact ⟨k + 1, wr.heap.size, by omega, by omega, by go_num, rfl, below_setRow b3 (by omega) _, by rw [cellsOf_setRow_ne (by omega)]; exact p3, by rw [cellsOf_setRow_ne (by omega)]; exact q3, by omega,
            rowOk_setRow r3 (av_size _), cellsOf_setRow r3, fun j h1 h2 => by
              rcases Nat.lt_or_ge j k with c | c
              · exact HM.out j h1 c
              · obtain rfl : j = k := by omega
                exact HN.out⟩
        case measure => simp [intOf]; omega
      · have hkk : k = L := by rw [HL.out]; exact order_spec HB.out h16 (by omega) (hsb.1 hs) HM.out
        clear hsb
        have HK := hide hkk; clear hkk
        go_wp2
        go_ret2
        obtain rfl : k = L := HK.out
        exact ⟨rfl, hbr⟩
end Go.Proofs.Ytlgallkddhfdaaa
