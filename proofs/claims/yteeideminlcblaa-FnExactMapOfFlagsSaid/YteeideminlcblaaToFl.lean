/- laws.toByteA32, laws.eqByteA32, laws.toFlags, laws.eqFlags; how flags that came in are opened -/
import Derived.Test.YteeideminlcblaaFlg
import Derived.Test.YteeideminlcblaaOpen
import Derived.Test.YteeideminlcblaaHS
import Derived.RegionTactic
namespace Go.Proofs.Yteeideminlcblaa
open Go.RowKit Go.ChangeShapes Go.WideShapes

set_option maxHeartbeats 400000 in
theorem toQ_any (f : Nat → Nat) (w : World) : Calls Try.prog 65 #[.agg (qv f)] w fun e w' => e = .returned (.agg (qv f)) ∧ Below w.heap.size w w' := by
  go_enter Try.func65, Try.ntmps65
  go_wp2
  rw [← qv_zero]
  go_loopw [4] (fun i wr => ∃ k : Nat, k ≤ 32 ∧ i = .int .i64 k ∧ wr = ((w.alloc (.cells (qv f) 48)).alloc (.cells (qv fun _ => 0) 48)).alloc (.cells (qv (upto f k)) 48)) (fun i _ => 32 - (intOf i).toNat)
  case atStart => exact ⟨0, by omega, rfl, by rw [upto_zero]⟩
  case round =>
    obtain ⟨k, hk, rfl, rfl⟩ := hrel
    by_cases hlt : k < 32
    · have h1 := qv_get f hlt
      have h2 := qv_get (upto f k) hlt
      have h3 := qv_set (upto f k) k (f k)
      rw [upto_step] at h3
      go_wp2
      go_roundw
      case rel => exact ⟨k + 1, by omega, by go_num, rfl⟩
      case measure => simp [intOf]; omega
    · obtain rfl : k = 32 := by omega
      clear hlt hk
      rw [qv_congr (f := upto f 32) (g := f) (fun i h => by simp [upto, h])]
      go_wp2
      exact res_agg (p := 2) (g := w.heap.size + 1) aggQb (qv_size f) rfl rfl rfl (heap1 (by simp)) ⟨rfl, below3 _ _ _ _⟩

-- left out here: loop.example/g01200/laws.eqByteA32
set_option maxRecDepth 100000 in
set_option maxHeartbeats 1000000 in
theorem toFlags_any (n : Int) (c t s : Nat → Nat) (w : World) : Calls Try.prog 31 #[.agg (fv n c t s)] w fun e w' => e = .returned (.agg (fv n c t s)) ∧ Below w.heap.size w w' := by
  have hn := fv_n n c t s
  have h0 := fv_n 0 (fun _ => 0) (fun _ => 0) (fun _ => 0)
  have hset := fv_setn 0 n (fun _ => 0) (fun _ => 0) (fun _ => 0)
  have HH0 := (((Holds.start w).blk (fv n c t s) 50 w.heap.size rfl).blk (fv 0 (fun _ => 0) (fun _ => 0) (fun _ => 0)) 53 (w.heap.size + 1) (by simp)).blk (fv n (fun _ => 0) (fun _ => 0) (fun _ => 0)) 53 (w.heap.size + 1 + 1) (by simp)
  have HX := hide HH0; clear HH0
  go_enter Try.func31, Try.ntmps31
  go_wp2_with fail
  refine (toQ_any c _).mono ?_
  rintro e w1 ⟨rfl, hb⟩
  have HH1 := HX.out.call hb
  have c1 := HH1.cells 2 rfl
  have d1 := HH1.cells 0 rfl
  have r1 := HH1.rowOk (n := 97) 0 rfl (fv_size _ _ _ _)
  have HH2 := HH1.setRow 0 rfl (fv n c (fun _ => 0) (fun _ => 0))
  simp only [List.set_cons_zero] at HH2
  have c2 := HH2.cells 2 rfl
  clear hb HX hset h0 hn
  go_wp2_with fail
  refine (toQ_any t _).mono ?_
  rintro e w2 ⟨rfl, hb⟩
  have HH3 := HH2.call hb
  clear c1 d1 r1 c2 HH1 HH2
  have c1 := HH3.cells 2 rfl
  have d1 := HH3.cells 0 rfl
  have r1 := HH3.rowOk (n := 97) 0 rfl (fv_size _ _ _ _)
  have HH4 := HH3.setRow 0 rfl (fv n c t (fun _ => 0))
  simp only [List.set_cons_zero] at HH4
  have c2 := HH4.cells 2 rfl
  clear hb
  go_wp2_with fail
  refine (toQ_any s _).mono ?_
  rintro e w3 ⟨rfl, hb⟩
  have HH5 := HH4.call hb
  clear c1 d1 r1 c2 HH3 HH4
  have d1 := HH5.cells 0 rfl
  have r1 := HH5.rowOk (n := 97) 0 rfl (fv_size _ _ _ _)
  have r2 := HH5.rowOk (n := 97) 1 rfl (fv_size _ _ _ _)
  have HH6 := HH5.setRow 0 rfl (fv n c t s)
  simp only [List.set_cons_zero] at HH6
  have HH7 := HH6.setRow 1 rfl (fv n c t s)
  clear hb
  go_wp2
  exact res_agg (p := 2) (g := w.heap.size + 1) aggFl (fv_size _ _ _ _) rfl rfl rfl (HH7.at 1 rfl) ⟨rfl, HH7.low⟩

-- left out here: loop.example/g01200/laws.eqFlags
section
variable {H : Type} {enc : TypeId × Value → H} {w : World} {base : Nat} {spare : Nat → Bool} {held : Bool}
/-- cells that read as bytes -/
theorem bytesN_of {P : Program} {N : Nat} {l : List Value} {e : TypeId} {m : Nat} {xs : List (DataW H × List MemPlace)} (he : P.underlying e = some (.int .u8)) (hl : l.length = N) (hx : xs.length = N)
    (h : ∀ i, i < N → DataW.trod enc P w base spare held m e ((l.drop i).take 1) = xs[i]?) : ∃ f : Nat → Nat, (∀ i, f i < 256) ∧ ∀ i, i < N → l[i]? = some (.int .u8 (f i)) := by
  have key : ∀ i, i < N → ∃ k : Nat, k < 256 ∧ l[i]? = some (.int .u8 k) := by
    intro i hi
    have h1 := h i hi
    rw [List.getElem?_eq_getElem (by omega)] at h1
    obtain ⟨n, hn, _, hw⟩ := DataW.trod_int he h1
    have hb := bounds_u8 hw
    obtain ⟨k, rfl⟩ := Int.eq_ofNat_of_zero_le hb.1
    refine ⟨k, by omega, ?_⟩
    rw [List.drop_eq_getElem_cons (by omega), List.take_succ_cons, List.take_zero] at hn
    rw [List.getElem?_eq_getElem (by omega), (List.cons.inj hn).1]
  refine ⟨fun i => match l[i]? with | some (.int .u8 n) => if n.toNat < 256 then n.toNat else 0 | _ => 0, fun i => ?_, ?_⟩
  · dsimp only
    split
    · split <;> omega
    · omega
  · intro i hi
    obtain ⟨k, hk, e⟩ := key i hi
    simp only [e]
    rw [if_pos (by omega)]
    simp
set_option maxRecDepth 100000 in
/-- flags that came in -/
theorem open_flags {r : Reach} {b0 : Nat} {v : Value} {d : DataW H} {ps : List MemPlace}
    (hval : Value.okWide Try.prog w r b0 50 v) (hd : DataW.Trod enc Try.prog w base spare held 50 v d ps) :
    ∃ (n : Int) (c t s : Nat → Nat), (-9223372036854775808 ≤ n ∧ n ≤ 9223372036854775807) ∧ (∀ i, c i < 256) ∧ (∀ i, t i < 256) ∧ (∀ i, s i < 256) ∧ v = .agg (fv n c t s) := by
  obtain ⟨cs, rfl, hs⟩ := okWide_struct Try.underlying50 hval
  have h97 : cs.size = 97 := hs.trans (by kernel_rfl)
  obtain ⟨fuel, hf⟩ := hd
  obtain ⟨xs, m, _, hx, _, hlen, hfl⟩ := DataW.trod_struct Try.underlying50 hf
  have hx4 : xs.length = 4 := hlen
  have h0 : DataW.trod enc Try.prog w base spare held m 2 (List.take (Try.prog.cellsOf 2) (List.drop 0 cs.toList)) = xs[0]? := hfl 0 _ rfl
  have h1 : DataW.trod enc Try.prog w base spare held m 48 (List.take (Try.prog.cellsOf 48) (List.drop 1 cs.toList)) = xs[1]? := hfl 1 _ rfl
  have h2 : DataW.trod enc Try.prog w base spare held m 48 (List.take (Try.prog.cellsOf 48) (List.drop 33 cs.toList)) = xs[2]? := hfl 2 _ rfl
  have h3 : DataW.trod enc Try.prog w base spare held m 48 (List.take (Try.prog.cellsOf 48) (List.drop 65 cs.toList)) = xs[3]? := hfl 3 _ rfl
  rw [List.getElem?_eq_getElem (by omega)] at h0 h1 h2 h3
  have e2 : Try.prog.cellsOf 2 = 1 := by kernel_rfl
  have e32 : Try.prog.cellsOf 48 = 32 := by kernel_rfl
  have e1 : Try.prog.cellsOf 5 = 1 := by kernel_rfl
  rw [e2] at h0
  rw [e32] at h1 h2 h3
  obtain ⟨n, hn, _, hw⟩ := DataW.trod_int Try.underlying2 h0
  have lcs : cs.toList.length = 97 := by rw [Array.length_toList]; exact h97
  have part : ∀ (o : Nat), o + 32 ≤ 97 → ∀ y, DataW.trod enc Try.prog w base spare held m 48 (List.take 32 (List.drop o cs.toList)) = some y → ∃ f : Nat → Nat, (∀ i, f i < 256) ∧ ∀ i, i < 32 → cs[o + i]? = some (.int .u8 (f i)) := by
    intro o ho y hy
    obtain ⟨ys, m', _, _, _, hl, hi⟩ := DataW.trod_array Try.underlying48 hy
    obtain ⟨f, hf, e⟩ := bytesN_of (N := 32) (l := List.take 32 (List.drop o cs.toList)) Try.underlying5 (by rw [List.length_take, List.length_drop, lcs]; omega) hl (fun i h => by have := hi i h; rw [e1, Nat.mul_one] at this; exact this)
    refine ⟨f, hf, fun i h => ?_⟩
    have := e i h
    rw [List.getElem?_take_of_lt h, List.getElem?_drop, Array.getElem?_toList] at this
    exact this
  obtain ⟨c, hc, hcc⟩ := part 1 (by omega) _ h1
  obtain ⟨t, ht, htc⟩ := part 33 (by omega) _ h2
  obtain ⟨s, hs', hsc⟩ := part 65 (by omega) _ h3
  refine ⟨n, c, t, s, bounds_i64 hw, hc, ht, hs', ?_⟩
  congr 1
  apply Array.ext_getElem?
  intro i
  rw [fv_cases]
  by_cases hi : i < 97
  · rw [if_pos hi]
    by_cases h0 : i = 0
    · subst h0
      rw [if_pos rfl]
      have := congrArg (·[0]?) hn
      simpa [List.getElem?_take] using this
    · rw [if_neg h0]
      by_cases h33 : i < 33
      · have := hcc (i - 1) (by omega)
        rw [show 1 + (i - 1) = i from by omega] at this
        rw [if_pos h33, this]
      · by_cases h65 : i < 65
        · have := htc (i - 33) (by omega)
          rw [show 33 + (i - 33) = i from by omega] at this
          rw [if_neg h33, if_pos h65, this]
        · have := hsc (i - 65) (by omega)
          rw [show 65 + (i - 65) = i from by omega] at this
          rw [if_neg h33, if_neg h65, this]
  · rw [if_neg hi, Array.getElem?_eq_none (by omega)]
end
end Go.Proofs.Yteeideminlcblaa

