/- CountRooted of the program and of the model. -/
import Derived.Test.YtdoehnckolhloaaEqT
import Derived.Test.YtdoehnckolhloaaHS2
import Derived.Test.YtdoehnckolhloaaQTail
import Derived.ChangeKeysEq
namespace Go.Proofs.Ytdoehnckolhloaa
open Go.RowKit

/-- seventeen numbers -/
@[irreducible] def z17 (c : Nat → Nat) : Array Value := row 17 fun i => .int .i64 (c i : Nat)
theorem z17_size (c : Nat → Nat) : (z17 c).size = 17 := by unfold z17; exact row_size _ _
theorem z17_get (c : Nat → Nat) {i : Nat} (h : i < 17) : (z17 c)[i]? = some (.int .i64 (c i : Nat)) := by unfold z17; exact row_get _ _ h
theorem z17_zero : z17 (fun _ => 0) = #[.int .i64 0, .int .i64 0, .int .i64 0, .int .i64 0, .int .i64 0, .int .i64 0, .int .i64 0, .int .i64 0, .int .i64 0, .int .i64 0, .int .i64 0, .int .i64 0, .int .i64 0, .int .i64 0, .int .i64 0, .int .i64 0, .int .i64 0] := by
  unfold z17 row; rfl
theorem z17_cells (c : Nat → Nat) : (z17 c).all (·.oneCell') = true := by unfold z17 row; simp [Value.oneCell']
theorem z17_set (c : Nat → Nat) {i : Nat} (x : Nat) : (z17 c).setIfInBounds i (.int .i64 (x : Nat)) = z17 (fset c i x) := by
  unfold z17
  rw [row_set]
  apply row_congr
  intro j _
  unfold fset
  by_cases e : j = i
  · rw [if_pos e, if_pos e]
  · rw [if_neg e, if_neg e]
theorem aggCC : AggT 91 17 := ⟨⟨_, Try.underlying91, rfl⟩, by kernel_rfl⟩
def Is17 (c : Array Value) : Prop := c.size = 17
@[go_sem] theorem is17_z17 (f : Nat → Nat) : Is17 (z17 f) ↔ True := ⟨fun _ => trivial, fun _ => z17_size f⟩
@[go_sem] theorem ones_z17 (f : Nat → Nat) : Ones (z17 f) ↔ True := ⟨fun _ => trivial, fun _ => z17_cells f⟩
section
variable (ρ : Operand → Value) (dst : Option Tmp) (x y : Operand) (ty : TypeId) (pos : String) (after : Array Edge) (guard : Option (Nat × Bool)) {w : World} {g : Nat} {cs : Array Value}
@[go_sem ↓] theorem exec_loadCC : execOp ρ { dst, op := .load 91 x, type := ty, pos, after, guard } = loadT 91 (ρ x) := rfl
@[go_sem ↓] theorem exec_storeCC : execOp ρ { dst, op := .store 91 x y, type := ty, pos, after, guard } = storeT 91 (ρ x) (ρ y) := rfl
@[go_sem] theorem run_loadCC (h : Is17 (cellsOf w g)) : (loadT 91 (.pointer (some ⟨g, 0, none⟩))).run Try.prog w = .ok (.value (.agg (cellsOf w g))) w := run_loadT aggCC h (by decide)
@[go_sem] theorem run_storeCC (h : rowOk w g 17) (hs : Is17 cs) (hc : Ones cs) : (storeT 91 (.pointer (some ⟨g, 0, none⟩)) (.agg cs)).run Try.prog w = .ok .skip (w.setRow g cs) := run_storeT aggCC h hs hc
end
theorem cntT_step {l : List Int} {i : Nat} (hi : i < l.length) {x : Nat} (hx : l[i] = (x : Int)) : fset (cntT l i) x (cntT l i x + 1) = cntT l (i + 1) := by
  funext v
  have h := cnt_succ hi v
  unfold fset
  by_cases e : v = x
  · subst e; rw [if_pos rfl, h, if_pos hx]
  · rw [if_neg e, h, if_neg (by omega)]; omega
theorem cntT_le (l : List Int) (i v : Nat) : cntT l i v ≤ i := by
  unfold cntT
  exact Nat.le_trans List.count_le_length (by rw [List.length_take]; omega)
theorem cntT_zero (l : List Int) : cntT l 0 = fun _ => 0 := by funext v; unfold cntT; simp

set_option maxRecDepth 100000 in
set_option maxHeartbeats 1000000 in
theorem countsOf_any (v : Value) (l : List Int) (h : isTyp l) (w : World) (hv : RdZ w v l) :
    Calls Try.prog 90 #[v] w fun e w' => e = .returned (.agg (z17 (cntT l l.length))) ∧ Below w.heap.size w w' := by
  obtain ⟨A, c, rfl, hlen⟩ := hv.form
  have HV := hide hv; clear hv
  have HT := hide h; clear h
  have hl16 := HT.out.len.2
  have H0 := ((Holds.start w).blk (z17 fun _ => 0) 91 w.heap.size rfl).blk (z17 (fun _ => 0)) 91 (w.heap.size + 1) (by simp)
  have H1 : Holds w ((w.alloc (.cells (z17 fun _ => 0) 91)).alloc (.cells (z17 fun _ => 0) 91)) [pBlk (w.heap.size + 1) (z17 (cntT l 0)) 91, pBlk w.heap.size (z17 fun _ => 0) 91] := by rw [cntT_zero]; exact H0
  clear H0
  go_enter Try.func90, Try.ntmps90
  go_wp2
  try rw [← z17_zero]
  generalize (w.alloc (.cells (z17 fun _ => 0) 91)).alloc (.cells (z17 fun _ => 0) 91) = w2 at *
  generalize hG : w.heap.size = G at *
  have HG := hide hG; clear hG
  go_loopw [8] (fun t wr => ∃ i : Nat, i ≤ l.length ∧ t = .int .i64 i ∧ Holds w wr [pBlk (G + 1) (z17 (cntT l i)) 91, pBlk G (z17 fun _ => 0) 91]) (fun t _ => l.length - (intOf t).toNat)
  case atStart => exact ⟨0, Nat.zero_le _, rfl, H1⟩
  case round =>
    clear H1
    obtain ⟨i, hi, rfl, hH⟩ := hrel
    by_cases hlt : i < l.length
    · have hlt' : (i : Int) < l.length := by omega
      have hx := HT.out.at hlt
      obtain ⟨a, rfl, _, c1⟩ := (HV.out.below hH.low (Nat.le_refl _)).at hlt
      obtain ⟨x, hxe⟩ := Int.eq_ofNat_of_zero_le (show 0 ≤ l[i] by omega)
      have hst := cntT_step hlt hxe
      have hle := cntT_le l i x
      rw [hxe] at c1 hx
      have hx17 : (x : Int) < 17 := by omega
      have c2 := hH.cell 0 rfl (z17_get (cntT l i) (i := x) (by omega))
      have f2 := hH.frozen 0 rfl x
      have H2 := hH.set 0 rfl x (.int .i64 ((cntT l i x + 1 : Nat)))
      rw [z17_set, hst] at H2
      have HST := hide (And.intro hst hxe); clear hst hxe
      generalize cntT l i x = y at *
      go_wp2
      go_roundw
      case rel => exact ⟨i + 1, by omega, by go_num, H2⟩
      case measure => simp [intOf]; omega
    · obtain rfl : i = l.length := by omega
      have cc := hH.cells 0 rfl
      have rr := hH.rowOk 1 rfl (z17_size _)
      clear hi hlt
      go_wp2
      have H2 := hH.setRow 1 rfl (z17 (cntT l l.length))
      exact res_agg (p := 2) (g := G) aggCC (z17_size _) rfl rfl rfl (H2.at 1 rfl) ⟨rfl, H2.low⟩

/-- an entry of such an array by value -/
def idxCC (v i : Value) : Sem Next := do pure (.value (← Instr.index 91 v i))
theorem run_idx17 (c : Nat → Nat) {k : Nat} (hk : k < 17) (w : World) : (Instr.index 91 (.agg (z17 c)) (.int .i64 k)).run Try.prog w = .ok (.int .i64 (c k : Nat)) w := by
  have hb : (0 : Int) ≤ (k : Int) ∧ (k : Int) < ((17 : Nat) : Int) := by omega
  have hz : Try.prog.cellsOf 2 = 1 := by kernel_rfl
  have hn : (Try.prog.info? 2).map (·.size) = some 1 := by kernel_rfl
  rcases hi : Try.prog.info? 2 with _ | it
  · rw [hi] at hn; cases hn
  · have hz' : (sizeOf 2).run Try.prog w = .ok 1 w := by rw [run_sizeOf w hi, hz]
    simp only [Instr.index, asIntOf, run_underlying Try.underlying91, Sem.run_bind, Sem.run_pure, Result.andThen_ok]
    rw [if_pos hb]
    simp only [Sem.run_bind, hz', Result.andThen_ok, Int.toNat_natCast, Nat.mul_one]
    exact run_part_plain (P := Try.prog) w (e := 2) (by kernel_rfl) (z17_get c hk)
section
variable (ρ : Operand → Value) (dst : Option Tmp) (x y : Operand) (ty : TypeId) (pos : String) (after : Array Edge) (guard : Option (Nat × Bool))
@[go_sem ↓] theorem exec_idxCC : execOp ρ { dst, op := .index 91 x y, type := ty, pos, after, guard } = idxCC (ρ x) (ρ y) := rfl
end
@[go_sem] theorem run_idxCC (c : Nat → Nat) {k : Nat} (hk : k < 17) (w : World) : (idxCC (.agg (z17 c)) (.int .i64 k)).run Try.prog w = .ok (.value (.int .i64 (c k : Nat))) w := by
  simp only [idxCC, Sem.run_bind, run_idx17 c hk w, Result.andThen_ok, Sem.run_pure]

set_option maxRecDepth 100000 in
set_option maxHeartbeats 1000000 in
theorem factorialsOfEqual_any (v : Value) (l : List Int) (h : isTyp l) (w : World) (hv : RdZ w v l) :
    Calls Try.prog 55 #[v] w fun e w' => e = .returned (.int .i64 (eqT l l.length)) ∧ Below w.heap.size w w' := by
  have C1 := hide (countsOf_any v l h w hv)
  obtain ⟨A, c, rfl, hlen⟩ := hv.form
  clear hv
  have hE := eqT_prod h l.length (Nat.le_refl _)
  have hbd := eqT_old h (Nat.le_refl l.length)
  have hle : ∀ v, cntT l l.length v < 17 := fun v => by have := cntT_le l l.length v; have := h.len; omega
  have CF := hide fun (m : Nat) (hm : m < 17) (w : World) => factorial_any m hm w
  rw [hE] at hbd ⊢
  clear hE h
  generalize cntT l l.length = q at *
  have hpb : ∀ k, k ≤ 17 → prodF q k ≤ 20922789888000 := fun k hk => by have := prodF_le q hk; omega
  have HP := hide hpb; clear hpb hbd
  have HL := hide hle; clear hle
  go_enter Try.func55, Try.ntmps55
  go_wp2_with fail
  refine C1.out.mono ?_
  rintro e w1 ⟨rfl, hb⟩
  go_wp2
  go_loopw [3, 8] (fun s t wr => ∃ k : Nat, k ≤ 17 ∧ t = .int .i64 k ∧ s = .int .i64 ((prodF q k : Nat) : Int) ∧ w1 = wr) (fun _ t _ => 17 - (intOf t).toNat)
  case atStart => exact ⟨0, by omega, rfl, rfl, rfl⟩
  case round =>
    obtain ⟨k, hk, rfl, rfl, rfl⟩ := hrel
    by_cases hlt : k < 17
    · have hlt' : (k : Int) < 17 := by omega
      have b1 := HP.out k hk
      have b2 := HP.out (k + 1) (by omega)
      have hst : prodF q (k + 1) = prodF q k * fac (q k) := rfl
      have CK := hide (fun w => CF.out (q k) (HL.out k) w)
      have hq := HL.out k
      have e1 : ((prodF q (k + 1) : Nat) : Int) = ((prodF q k : Nat) : Int) * ((fac (q k) : Nat) : Int) := by rw [hst, Int.natCast_mul]
      have m1 : wrap64 (((prodF q k : Nat) : Int) * ((fac (q k) : Nat) : Int)) = ((prodF q k : Nat) : Int) * ((fac (q k) : Nat) : Int) := by rw [← e1]; exact w64 (by omega) (by omega)
      have HE := hide e1; clear e1 hst b2
      generalize prodF q k = y at *
      generalize fac (q k) = z at *
      go_wp2_with fail
      refine (CK.out _).mono ?_
      rintro e w' ⟨rfl, rfl⟩
      go_wp2
      go_roundw
      case rel => exact ⟨k + 1, by omega, by go_num, by first | (rw [HE.out]; done) | rw [HE.out, m1], by trivial⟩
      case measure => simp [intOf]; omega
    · obtain rfl : k = 17 := by omega
      clear hlt hk
      go_wp2
      go_ret
      exact ⟨rfl, hb⟩

set_option maxRecDepth 100000 in
set_option maxHeartbeats 1000000 in
theorem l05Factorial_any (n : Nat) (hn : n < 17) (w : World) :
    Calls Try.prog 51 #[.int .i64 n] w fun e w' => e = .returned (.int .i64 ((fac n : Nat) : Int)) ∧ w = w' := by
  have hb := fac_bd hn
  obtain ⟨F, hF⟩ : ∃ F, F = fac n := ⟨_, rfl⟩
  rw [← hF] at hb ⊢
  have HF := hide hF; clear hF
  go_enter Try.func51, Try.ntmps51
  go_wp2
  go_loopw [3, 0] (fun s t wr => ∃ k o : Nat, k ≤ n ∧ t = .int .i64 ((k : Nat) : Int) ∧ s = .int .i64 ((o : Nat) : Int) ∧ o * fac k = F ∧ w = wr) (fun _ t _ => (intOf t).toNat)
  case atStart => exact ⟨n, 1, by omega, rfl, rfl, by rw [Nat.one_mul, HF.out], rfl⟩
  case round =>
    obtain ⟨k, o, hk, rfl, rfl, ho, rfl⟩ := hrel
    by_cases hlt : 1 < k
    · obtain ⟨j, rfl⟩ : ∃ j, k = j + 1 := ⟨k - 1, by omega⟩
      rw [fac, ← Nat.mul_assoc] at ho
      have h1 : o * (j + 1) ≤ F := by rw [← ho]; exact Nat.le_mul_of_pos_right _ (fac_pos j)
      have HO := hide ho; clear ho
      have e : (((o * (j + 1) : Nat)) : Int) = (o : Int) * ((j : Int) + 1) := by rw [Int.natCast_mul]; simp
      have m1 : wrap64 ((o : Int) * ((j : Int) + 1)) = (o : Int) * ((j : Int) + 1) := by rw [← e]; exact w64 (by omega) (by omega)
      have HE := hide e; clear e h1
      have hlt' : (1 : Int) < (j : Int) + 1 := by omega
      go_wp2
      go_roundw
      case rel => exact ⟨j, o * (j + 1), by omega, by go_num, by first | (rw [HE.out]; done) | rw [HE.out, m1], HO.out, by trivial⟩
      case measure => simp [intOf]
    · have he : o = F := by
        rw [← ho]
        have : fac k = 1 := by
          rcases k with _ | _ | k
          · rfl
          · rfl
          · omega
        rw [this, Nat.mul_one]
      subst he
      have hlt' : ¬ (1 : Int) < (k : Int) := by omega
      clear hlt ho HF
      go_wp2
      go_ret
      exact ⟨rfl, rfl⟩

theorem eq_step {l : List Int} (h : isTyp l) {i : Nat} (hi : i < l.length) : 1 ≤ eqT l i ∧ eqT l i ≤ 20922789888000 ∧ 0 ≤ plc l i ∧ plc l i ≤ 16 ∧ 1 ≤ plc l (i + 1) ∧ plc l (i + 1) ≤ 16 ∧ eqT l (i + 1) = eqT l i * plc l (i + 1) ∧ 1 ≤ eqT l (i + 1) ∧ eqT l (i + 1) ≤ 20922789888000 := by
  obtain ⟨_, _, _, _, b5, b6, b7, b8, _⟩ := cen_step h hi
  exact ⟨(eqT_bd h (Nat.le_of_lt hi)).1, eqT_old h (Nat.le_of_lt hi), b5, b6, b7, b8, rfl, (eqT_bd h hi).1, eqT_old h hi⟩

set_option maxRecDepth 100000 in
set_option maxHeartbeats 1000000 in
theorem l05Equal_any (v : Value) (l : List Int) (h : isTyp l) (w : World) (hv : RdZ w v l) :
    Calls Try.prog 52 #[v] w fun e w' => e = .returned (.int .i64 (eqT l l.length)) ∧ Dr w w' := by
  obtain ⟨A, c, rfl, hlen⟩ := hv.form
  have HV := hide hv; clear hv
  have HT := hide h; clear h
  go_enter Try.func52, Try.ntmps52
  go_wp2
  go_loopw [3, 4, 5] (fun s q t wr => ∃ i : Nat, i ≤ l.length ∧ t = .int .i64 i ∧ s = .int .i64 (eqT l i) ∧ q = .int .i64 (plc l i) ∧ Dr w wr) (fun _ _ t _ => l.length - (intOf t).toNat)
  case atStart => exact ⟨0, by omega, rfl, rfl, rfl, Dr.refl _⟩
  case round =>
    obtain ⟨i, hi, rfl, rfl, rfl, hb⟩ := hrel
    by_cases hlt : i < l.length
    · obtain ⟨b3, b4, b5, b6, b7, b8, b11, b12, b13⟩ := eq_step HT.out hlt
      have hold := plc_old hlt
      have hnew := plc_new hlt
      obtain ⟨a, rfl, _, c1⟩ := (HV.out.below hb.low (Nat.le_refl _)).at hlt
      have hprev : 0 < i → ∃ q : Nat, q < l.length ∧ (i : Int) - 1 = (q : Int) ∧ q = i - 1 := fun h => ⟨i - 1, by omega, by omega, rfl⟩
      rw [b11] at b12 b13
      generalize eqT l i = P at *
      generalize plc l i = p at *
      generalize hx : l[i] = x at *
      have HX := hide hx; clear hx
      have HC := hide b11; clear b11
      by_cases h0 : 0 < i
      · have d0 : decide ((0 : Int) < (i : Int)) = true := decide_eq_true (by omega)
        obtain ⟨q, hq, hqi, hqe⟩ := hprev h0
        obtain ⟨a', e', _, c2⟩ := (HV.out.below hb.low (Nat.le_refl _)).at hq
        injection e' with e'
        subst e'
        subst hqe
        obtain ⟨y, hy⟩ : ∃ y, y = l[i - 1] := ⟨_, rfl⟩
        have hnew2 := hnew h0
        rw [← hy] at c2 hold hnew2
        have HY := hide hy; clear hy
        obtain ⟨q, hqq⟩ : ∃ q, q = i - 1 := ⟨_, rfl⟩
        rw [← hqq] at c2 hqi hq
        have HQ := hide hqq; clear hqq
        by_cases h3 : x = y
        · have d3 : (x != y) = false := by simp [h3]
          have hp := hold fun _ => h3
          rw [hp] at HC b7 b8 b12 b13
          have m2 := w64 (x := P * (p + 1)) (by omega) (by omega)
          have HP := hide hp; clear hp hold hnew hnew2 h3 hprev b12 b13
          go_wp2
          go_quiet (fail)
          go_wp2
          go_roundw
          case rel => exact ⟨i + 1, by omega, by go_num, by first | (rw [HC.out]; done) | rw [HC.out, m2], by rw [HP.out], hb.more _⟩
          case measure => simp [intOf]; omega
        · have d3 : (x != y) = true := by simp [h3]
          have hp := hnew2 h3
          rw [hp, Int.mul_one] at HC b12 b13
          have HP := hide hp; clear hp hold hnew hnew2 h3 hprev b12 b13 b7 b8
          go_wp2
          go_quiet (fail)
          go_wp2
          go_roundw
          case rel => exact ⟨i + 1, by omega, by go_num, by first | (rw [HC.out]; done) | rw [HC.out, m2], by rw [HP.out], hb.more _⟩
          case measure => simp [intOf]; omega
      · have d0 : decide ((0 : Int) < (i : Int)) = false := decide_eq_false (by omega)
        have hp := hold fun h => absurd h h0
        rw [hp] at HC b7 b8 b12 b13
        have m2 := w64 (x := P * (p + 1)) (by omega) (by omega)
        have HP := hide hp; clear hp hold hnew hprev b12 b13
        go_wp2
        go_quiet (fail)
        go_wp2
        go_roundw
        case rel => exact ⟨i + 1, by omega, by go_num, by first | (rw [HC.out]; done) | rw [HC.out, m2], by rw [HP.out], hb.more _⟩
        case measure => simp [intOf]; omega
    · obtain rfl : i = l.length := by omega
      clear hlt hi
      go_wp2
      go_ret
      exact ⟨rfl, hb⟩

open Classical in
noncomputable def twoB (a b : List Int) : Bool := decide (isTyp a ∧ isTyp b ∧ zs a = zs b)
open Classical in
theorem twoB_true {a b : List Int} (h : isTyp a ∧ isTyp b ∧ zs a = zs b) : twoB a b = true := by unfold twoB; exact decide_eq_true h
open Classical in
theorem twoB_false {a b : List Int} (h : ¬ (isTyp a ∧ isTyp b ∧ zs a = zs b)) : twoB a b = false := by unfold twoB; exact decide_eq_false h
theorem neqT {x y : Int} (h : x ≠ y) : (x != y) = true := by simp [h]
theorem neqF {x y : Int} (h : x = y) : (x != y) = false := by simp [h]
set_option maxRecDepth 100000 in
set_option maxHeartbeats 1000000 in
theorem areTypes_any (u v : Value) (a b : List Int) (w : World) (hu : RdZ w u a) (hv : RdZ w v b) :
    Calls Try.prog 53 #[u, v] w fun e w' => e = .returned (.bool (twoB a b)) ∧ w = w' := by
  have C1 := hide (isType_any u a w hu)
  have C2 := hide (isType_any v b w hv)
  have C3 := hide fun (h : isTyp a) => sumOf_any u a h.small w hu
  have C4 := hide fun (h : isTyp b) => sumOf_any v b h.small w hv
  obtain ⟨A, c, rfl, _⟩ := hu.form
  obtain ⟨A', c', rfl, _⟩ := hv.form
  clear hu hv
  obtain ⟨R, hR⟩ : ∃ R, R = twoB a b := ⟨_, rfl⟩
  rw [← hR]
  have hY : isTyp a ∧ isTyp b ∧ zs a = zs b → R = true := fun h => by rw [hR]; exact twoB_true h
  have hN : ¬ (isTyp a ∧ isTyp b ∧ zs a = zs b) → R = false := fun h => by rw [hR]; exact twoB_false h
  clear hR
  by_cases ha : isTyp a
  · have c3 := C3.out ha
    rw [typB_true ha] at C1
    by_cases hb : isTyp b
    · have c4 := C4.out hb
      rw [typB_true hb] at C2
      have hr : (zs a == zs b) = R := by
        by_cases e : zs a = zs b
        · rw [hY ⟨ha, hb, e⟩]; simp [e]
        · rw [hN fun h => e h.2.2]; simp [e]
      clear hY hN ha hb C3 C4
      have C3 := hide c3; clear c3
      have C4 := hide c4; clear c4
      generalize zs a = x at *
      generalize zs b = y at *
      have HR := hide hr; clear hr
      go_enter Try.func53, Try.ntmps53
      go_wp2_with fail
      refine C1.out.mono ?_
      rintro e w' ⟨rfl, rfl⟩
      go_wp2_with fail
      refine C2.out.mono ?_
      rintro e w' ⟨rfl, rfl⟩
      go_wp2_with fail
      refine C3.out.mono ?_
      rintro e w' ⟨rfl, rfl⟩
      go_wp2_with fail
      refine C4.out.mono ?_
      rintro e w' ⟨rfl, rfl⟩
      go_wp2
      go_ret
      refine ⟨?_, rfl⟩
      rw [← HR.out]
      first | rfl | done
    · rw [typB_false hb] at C2
      have hr := hN fun h => hb h.2.1
      subst hr
      clear hY hN ha hb C3 C4 c3
      go_enter Try.func53, Try.ntmps53
      go_wp2_with fail
      refine C1.out.mono ?_
      rintro e w' ⟨rfl, rfl⟩
      go_wp2_with fail
      refine C2.out.mono ?_
      rintro e w' ⟨rfl, rfl⟩
      go_wp2
      go_ret
      exact ⟨rfl, rfl⟩
  · rw [typB_false ha] at C1
    have hr := hN fun h => ha h.1
    subst hr
    clear hY hN ha C2 C3 C4
    go_enter Try.func53, Try.ntmps53
    go_wp2_with fail
    refine C1.out.mono ?_
    rintro e w' ⟨rfl, rfl⟩
    go_wp2
    go_ret
    exact ⟨rfl, rfl⟩

open Classical in
theorem crR_no {a b : List Int} (h : ¬ (isTyp a ∧ isTyp b ∧ zs a = zs b)) : crR a b = .tuple #[.int .i64 0, .int .i64 2] := by unfold crR; rw [if_neg h]
open Classical in
theorem crR_other {a b : List Int} (h : isTyp a ∧ isTyp b ∧ zs a = zs b) (h2 : ¬ (a.length : Int) + b.length = zs a + 1) : crR a b = .tuple #[.int .i64 0, .int .i64 0] := by unfold crR; rw [if_pos h, if_neg h2]
open Classical in
theorem crR_yes {a b : List Int} (h : isTyp a ∧ isTyp b ∧ zs a = zs b) (h2 : (a.length : Int) + b.length = zs a + 1) : crR a b = .tuple #[.int .i64 (crN a b), .int .i64 0] := by unfold crR; rw [if_pos h, if_pos h2]
set_option maxRecDepth 100000 in
set_option maxHeartbeats 1000000 in
theorem countRooted_any (u v : Value) (a b : List Int) (w : World) (hu : RdZ w u a) (hv : RdZ w v b) :
    Calls Try.prog 20 #[u, v] w fun e w' => e = .returned (crR a b) ∧ Below w.heap.size w w' := by
  have C1 := hide (areTypes_any u v a b w hu hv)
  have HU := hide hu
  have HV := hide hv
  obtain ⟨A, c, rfl, la⟩ := hu.form
  obtain ⟨A', c', rfl, lb⟩ := hv.form
  by_cases h : isTyp a ∧ isTyp b ∧ zs a = zs b
  · have hB := twoB_true h
    rw [hB] at C1
    have C2 := hide (sumOf_any _ a h.1.small w hu)
    have ha16 := h.1.len
    have hb16 := h.2.1.len
    have hs := h.1.sum
    by_cases h2 : (a.length : Int) + b.length = zs a + 1
    · rw [crR_yes h h2]
      have d1 : ((a.length : Int) + b.length != zs a + 1) = false := neqF h2
      obtain ⟨m1, m2, m3, m4, m5, m6⟩ := cr_bd h.1 h.2.1 h2
      have C3 := hide fun (w' : World) (k : RdZ w' (.slice A a.length c) a) => factorialsOfEqual_any _ a h.1 w' k
      have C4 := hide fun (w' : World) (k : RdZ w' (.slice A' b.length c') b) => factorialsOfEqual_any _ b h.2.1 w' k
      have C5 := hide fun (w : World) => factorial_any (a.length - 1) (by omega) w
      have C6 := hide fun (w : World) => factorial_any (b.length - 1) (by omega) w
      rw [show ((a.length - 1 : Nat) : Int) = (a.length : Int) - 1 by omega] at C5
      rw [show ((b.length - 1 : Nat) : Int) = (b.length : Int) - 1 by omega] at C6
      have hcr : crN a b = (zs a * (fac (a.length - 1) : Nat) * (fac (b.length - 1) : Nat)).tdiv (eqT a a.length * eqT b b.length) := rfl
      have HCR := hide hcr; clear hcr
      clear hu hv hB h2 h
      generalize crN a b = RES at *
      generalize eqT a a.length = ea at *
      generalize eqT b b.length = eb at *
      generalize fac (a.length - 1) = fa at *
      generalize fac (b.length - 1) = fb at *
      generalize zs a = s at *
      have w1 := w64 (x := ea * eb) (by omega) (by omega)
      have w2 := w64 (x := s * (fa : Int)) (by omega) (by omega)
      have w3 := w64 (x := s * (fa : Int) * (fb : Int)) (by omega) (by omega)
      have hne : ¬ ea * eb = 0 := by omega
      have hq : 0 ≤ (s * (fa : Int) * (fb : Int)).tdiv (ea * eb) ∧ (s * (fa : Int) * (fb : Int)).tdiv (ea * eb) ≤ s * (fa : Int) * (fb : Int) := by
        rw [Int.tdiv_eq_ediv_of_nonneg m5]
        exact ⟨Int.ediv_nonneg m5 (by omega), Int.ediv_le_self _ m5⟩
      have w4 := w64 (x := (s * (fa : Int) * (fb : Int)).tdiv (ea * eb)) (by omega) (by omega)
      clear hq m1 m2 m3 m4 m5 m6
      go_enter Try.func20, Try.ntmps20
      go_wp2_with fail
      refine C1.out.mono ?_
      rintro e w' ⟨rfl, rfl⟩
      go_wp2_with fail
      refine C2.out.mono ?_
      rintro e w' ⟨rfl, rfl⟩
      go_wp2_with fail
      refine (C3.out _ HU.out).mono ?_
      rintro e w1 ⟨rfl, hb1⟩
      go_wp2_with fail
      refine (C4.out _ (HV.out.below hb1 (Nat.le_refl _))).mono ?_
      rintro e w2 ⟨rfl, hb2⟩
      have b2 := hb1.trans (hb2.mono hb1.size)
      clear hb1 hb2
      go_wp2_with fail
      refine (C5.out _).mono ?_
      rintro e w3 ⟨rfl, rfl⟩
      go_wp2_with fail
      refine (C6.out _).mono ?_
      rintro e w3 ⟨rfl, rfl⟩
      go_wp2
      go_ret2
      refine ⟨?_, b2⟩
      rw [w4, HCR.out]
      first | rfl | done
    · rw [crR_other h h2]
      have d1 : ((a.length : Int) + b.length != zs a + 1) = true := neqT h2
      clear hu hv hB h2 h
      generalize zs a = s at *
      go_enter Try.func20, Try.ntmps20
      go_wp2_with fail
      refine C1.out.mono ?_
      rintro e w' ⟨rfl, rfl⟩
      go_wp2_with fail
      refine C2.out.mono ?_
      rintro e w' ⟨rfl, rfl⟩
      go_wp2
      go_ret2
      exact ⟨rfl, Below.refl _ _⟩
  · have hB := twoB_false h
    rw [hB] at C1
    rw [crR_no h]
    clear hu hv hB h
    go_enter Try.func20, Try.ntmps20
    go_wp2_with fail
    refine C1.out.mono ?_
    rintro e w' ⟨rfl, rfl⟩
    go_wp2
    go_ret2
    exact ⟨rfl, Below.refl _ _⟩

end Go.Proofs.Ytdoehnckolhloaa
