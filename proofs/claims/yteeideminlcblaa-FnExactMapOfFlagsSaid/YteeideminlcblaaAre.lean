/- AreFlags of the program and of the model -/
import Derived.Test.YteeideminlcblaaSwp
import Derived.Test.YteeideminlcblaaFfr
import Derived.Test.YteeideminlcblaaSets
import Derived.Test.YteeideminlcblaaRegS
import Derived.Test.YteeideminlcblaaSameD
namespace Go.Proofs.Yteeideminlcblaa
open Go.RowKit

theorem Rd.v_skip {P : Program} {ops : Array Oper} {C : World → Prop} {E : Nat → Bool} {k : Nat} {a : Act} {D : World → Prop} {N : Act → (World → Prop) → Prop} {o : Oper} (ho : ops[k]? = some o) (hw : Region.wanted o (yielded ops a.tmps) = false) (h : N (a.put o.dst undef) D) : Rd.opV P ops C E k N a D := by
  unfold Rd.opV
  simp only [ho]
  rw [if_neg (by rw [hw]; simp)]
  exact h
/-- flags, as the document has them -/
def flP (n : Nat) (c t s : Nat → Nat) : Prop := (4 ≤ n ∧ n ≤ 32 ∧ n % 4 = 0) ∧ prP c n ∧ prP t n ∧ prP s n ∧ (∀ x, x < n → s (c x) ≠ x ∧ s (c x) = c (s x)) ∧ (cls [c, t, s] 0).length = n
open Classical in
noncomputable def flB (n : Int) (c t s : Nat → Nat) : Bool := decide (0 ≤ n ∧ flP n.toNat c t s)
theorem flB_iff {n : Int} {c t s : Nat → Nat} : flB n c t s = true ↔ 0 ≤ n ∧ flP n.toNat c t s := by unfold flB; simp
theorem flB_yes {n : Nat} {c t s : Nat → Nat} (h : flP n c t s) : flB (n : Int) c t s = true := flB_iff.2 ⟨by omega, by rw [Int.toNat_natCast]; exact h⟩
theorem flB_true {n : Int} {c t s : Nat → Nat} (h : flB n c t s = true) : ∃ m : Nat, n = (m : Int) ∧ flP m c t s := by
  have := flB_iff.1 h
  exact ⟨n.toNat, by omega, this.2⟩
theorem flB_no {n : Nat} {c t s : Nat → Nat} (h : ¬ flP n c t s) : flB (n : Int) c t s = false := by
  rcases e : flB (n : Int) c t s with _ | _
  · rfl
  · have := (flB_iff.1 e).2
    rw [Int.toNat_natCast] at this
    exact absurd this h
theorem flB_out {n : Int} {c t s : Nat → Nat} (h : ¬ (4 ≤ n ∧ n ≤ 32)) : flB n c t s = false := by
  rcases e : flB n c t s with _ | _
  · rfl
  · obtain ⟨m, rfl, hm⟩ := flB_true e
    have := hm.1
    omega
theorem prP.keeps {f : Nat → Nat} {n : Nat} (h : prP f n) {x : Nat} (hx : x < n) : f x < n := (h.1 x hx).1
theorem keeps3 {c t s : Nat → Nat} {n : Nat} (hc : prP c n) (ht : prP t n) (hs : prP s n) : Keeps [c, t, s] n := by
  intro j hj x hx
  have : j = 0 ∨ j = 1 ∨ j = 2 := by simp at hj; omega
  rcases this with rfl | rfl | rfl
  · exact hc.keeps hx
  · exact ht.keeps hx
  · exact hs.keeps hx
theorem undo3 {c t s : Nat → Nat} {n : Nat} (hc : prP c n) (ht : prP t n) (hs : prP s n) : Undo [c, t, s] n := by
  intro j hj x hx
  have : j = 0 ∨ j = 1 ∨ j = 2 := by simp at hj; omega
  rcases this with rfl | rfl | rfl
  · exact (hc.1 x hx).2.2
  · exact (ht.1 x hx).2.2
  · exact (hs.1 x hx).2.2
theorem keeps2 {c t : Nat → Nat} {n : Nat} (hc : ∀ x, x < n → c x < n) (ht : ∀ x, x < n → t x < n) : Keeps [c, t] n := by
  intro j hj x hx
  have : j = 0 ∨ j = 1 := by simp at hj; omega
  rcases this with rfl | rfl
  · exact hc x hx
  · exact ht x hx
theorem undo2 {c t : Nat → Nat} {n : Nat} (hc : ∀ x, x < n → c (c x) = x) (ht : ∀ x, x < n → t (t x) = x) : Undo [c, t] n := by
  intro j hj x hx
  have : j = 0 ∨ j = 1 := by simp at hj; omega
  rcases this with rfl | rfl
  · exact hc x hx
  · exact ht x hx
theorem prP.lt32 {f : Nat → Nat} {n : Nat} (h : prP f n) (hn : n ≤ 32) (i : Nat) (hi : i < 32) (h0 : 0 < n) : f i < 32 := by
  rcases Nat.lt_or_ge i n with c | c
  · have := h.keeps c; omega
  · rw [h.2 i c hi]; omega

theorem aggTw : AggT 95 2 := ⟨⟨_, Try.underlying95, rfl⟩, by kernel_rfl⟩
def Is2 (c : Array Value) : Prop := c.size = 2
@[go_sem] theorem is2_lit (a b : Value) : Is2 #[a, b] ↔ True := ⟨fun _ => trivial, fun _ => rfl⟩
@[go_sem] theorem ones_sw2 (f g : Nat → Nat) : Ones #[swV f, swV g] ↔ True := ⟨fun _ => trivial, fun _ => by unfold Ones swV; simp [Value.oneCell']⟩
@[go_sem ↓] theorem exec_loadTw (ρ : Operand → Value) (dst : Option Tmp) (x : Operand) (ty : TypeId) (pos : String) (after : Array Edge) (guard : Option (Nat × Bool)) : execOp ρ { dst, op := .load 95 x, type := ty, pos, after, guard } = loadT 95 (ρ x) := rfl
@[go_sem ↓] theorem exec_storeTw (ρ : Operand → Value) (dst : Option Tmp) (x y : Operand) (ty : TypeId) (pos : String) (after : Array Edge) (guard : Option (Nat × Bool)) : execOp ρ { dst, op := .store 95 x y, type := ty, pos, after, guard } = storeT 95 (ρ x) (ρ y) := rfl
@[go_sem] theorem run_loadTw {w : World} {g : Nat} (h : Is2 (cellsOf w g)) : (loadT 95 (.pointer (some ⟨g, 0, none⟩))).run Try.prog w = .ok (.value (.agg (cellsOf w g))) w := run_loadT aggTw h (by decide)
@[go_sem] theorem run_storeTw {w : World} {g : Nat} {cs : Array Value} (h : rowOk w g 2) (hs : Is2 cs) (hc : Ones cs) : (storeT 95 (.pointer (some ⟨g, 0, none⟩)) (.agg cs)).run Try.prog w = .ok .skip (w.setRow g cs) := run_storeT aggTw h hs hc
def buildSlS (n : Nat) (ps : Array (Nat × Value)) : Sem Next := do pure (.value (← Instr.buildSlice 136 n ps))
@[go_sem ↓] theorem exec_buildSlS (ρ : Operand → Value) (dst : Option Tmp) (n : Nat) (parts : Array (Nat × Operand)) (ty : TypeId) (pos : String) (after : Array Edge) (guard : Option (Nat × Bool)) :
    execOp ρ { dst, op := .buildSlice 136 n parts, type := ty, pos, after, guard } = buildSlS n (parts.map fun (i, x) => (i, ρ x)) := rfl
theorem run_buildSlS3 (a b c : Value) (h1 : a.cells = #[a]) (h2 : b.cells = #[b]) (h3 : c.cells = #[c]) (w : World) : (buildSlS 3 #[(0, a), (1, b), (2, c)]).run Try.prog w = .ok (.value (.slice (some ⟨w.heap.size, 0, none⟩) 3 3)) (w.alloc (.cells #[a, b, c] 92)) := by
  have h := run_buildSl (P := Try.prog) (T := 136) (E := 92) (s := 1) (n := 3) Try.underlying136 (by kernel_rfl) (by kernel_rfl) #[(0, a), (1, b), (2, c)] (by simp [Fits, h1, h2, h3]) (by simp [flatC, h1, h2, h3]) (by decide) (by decide) w
  simp only [buildSlS, Sem.run_bind, h, Result.andThen_ok, Sem.run_pure]
  simp [flatC, h1, h2, h3]
theorem run_buildSlS2 (a b : Value) (h1 : a.cells = #[a]) (h2 : b.cells = #[b]) (w : World) : (buildSlS 2 #[(0, a), (1, b)]).run Try.prog w = .ok (.value (.slice (some ⟨w.heap.size, 0, none⟩) 2 2)) (w.alloc (.cells #[a, b] 92)) := by
  have h := run_buildSl (P := Try.prog) (T := 136) (E := 92) (s := 1) (n := 2) Try.underlying136 (by kernel_rfl) (by kernel_rfl) #[(0, a), (1, b)] (by simp [Fits, h1, h2]) (by simp [flatC, h1, h2]) (by decide) (by decide) w
  simp only [buildSlS, Sem.run_bind, h, Result.andThen_ok, Sem.run_pure]
  simp [flatC, h1, h2]
@[go_sem] theorem run_bSlS3 (a b c : Nat → Nat) (w : World) : (buildSlS 3 #[(0, swV a), (1, swV b), (2, swV c)]).run Try.prog w = .ok (.value (.slice (some ⟨w.heap.size, 0, none⟩) 3 3)) (w.alloc (.cells #[swV a, swV b, swV c] 92)) := run_buildSlS3 _ _ _ rfl rfl rfl w
def buildSlQ (n : Nat) (ps : Array (Nat × Value)) : Sem Next := do pure (.value (← Instr.buildSlice 122 n ps))
@[go_sem ↓] theorem exec_buildSlQ (ρ : Operand → Value) (dst : Option Tmp) (n : Nat) (parts : Array (Nat × Operand)) (ty : TypeId) (pos : String) (after : Array Edge) (guard : Option (Nat × Bool)) :
    execOp ρ { dst, op := .buildSlice 122 n parts, type := ty, pos, after, guard } = buildSlQ n (parts.map fun (i, x) => (i, ρ x)) := rfl
@[go_sem] theorem run_bSlQ3 (a b c : Nat → Nat) (w : World) : (buildSlQ 3 #[(0, .agg (qv a)), (1, .agg (qv b)), (2, .agg (qv c))]).run Try.prog w = .ok (.value (.slice (some ⟨w.heap.size, 0, none⟩) 3 3)) (w.alloc (.cells (lsB [a, b, c]).toArray 48)) := by
  have h := run_buildSl (P := Try.prog) (T := 122) (E := 48) (s := 32) (n := 3) Try.underlying122 (by kernel_rfl) (by kernel_rfl) #[(0, .agg (qv a)), (1, .agg (qv b)), (2, .agg (qv c))] (by simp [Fits, Value.cells, qv_size]) (by simp [flatC, Value.cells, qv_size]) (by decide) (by decide) w
  simp only [buildSlQ, Sem.run_bind, h, Result.andThen_ok, Sem.run_pure]
  rfl
@[go_sem] theorem run_bSlQ2 (a b : Nat → Nat) (w : World) : (buildSlQ 2 #[(0, .agg (qv a)), (1, .agg (qv b))]).run Try.prog w = .ok (.value (.slice (some ⟨w.heap.size, 0, none⟩) 2 2)) (w.alloc (.cells (lsB [a, b]).toArray 48)) := by
  have h := run_buildSl (P := Try.prog) (T := 122) (E := 48) (s := 32) (n := 2) Try.underlying122 (by kernel_rfl) (by kernel_rfl) #[(0, .agg (qv a)), (1, .agg (qv b))] (by simp [Fits, Value.cells, qv_size]) (by simp [flatC, Value.cells, qv_size]) (by decide) (by decide) w
  simp only [buildSlQ, Sem.run_bind, h, Result.andThen_ok, Sem.run_pure]
  rfl
theorem lead3 {c t s : Nat → Nat} (hc : ∀ i, i < 32 → c i < 32) (ht : ∀ i, i < 32 → t i < 32) (hs : ∀ i, i < 32 → s i < 32) : ∀ j (h : j < [swV c, swV t, swV s].length), LeadV [swV c, swV t, swV s][j] ([c, t, s].getD j id) := by
  intro j hj
  have : j = 0 ∨ j = 1 ∨ j = 2 := by simp at hj; omega
  rcases this with rfl | rfl | rfl
  · exact lead_sw c hc
  · exact lead_sw t ht
  · exact lead_sw s hs

set_option maxRecDepth 100000 in
set_option maxHeartbeats 2000000 in
theorem areFlags_any (n : Int) (c t s : Nat → Nat) (hc : ∀ i, c i < 256) (ht : ∀ i, t i < 256) (hs : ∀ i, s i < 256) (w : World) :
    Calls Try.prog 66 #[.agg (fv n c t s)] w fun e w' => e = .returned (.bool (flB n c t s)) ∧ Below w.heap.size w w' := by
  have HH0 := (Holds.start w).blk (fv n c t s) 53 w.heap.size rfl
  have hn := fv_n n c t s
  have n0 := HH0.cell 0 rfl hn
  by_cases hr : 4 ≤ n ∧ n ≤ 32
  rotate_left
  · rw [flB_out hr]
    by_cases h4 : n < 4
    · have d1 : decide (n < 4) = true := decide_eq_true h4
      go_enter Try.func66, Try.ntmps66
      go_wp2
      go_ret
      exact ⟨rfl, HH0.low⟩
    · have d1 : decide (n < 4) = false := decide_eq_false h4
      have d2 : decide (32 < n) = true := decide_eq_true (by omega)
      have h32 : 32 < n := by omega
      go_enter Try.func66, Try.ntmps66
      go_wp2
      go_ret
      exact ⟨rfl, HH0.low⟩
  obtain ⟨n, rfl⟩ := Int.eq_ofNat_of_zero_le (show 0 ≤ n by omega)
  have h4 : 4 ≤ n := by omega
  have h32 : n ≤ 32 := by omega
  have q4 : ¬ (n : Int) < 4 := by omega
  have q32 : ¬ (32 : Int) < n := by omega
  have hm4 : (n : Int).tmod 4 = ((n % 4 : Nat) : Int) := by rw [Int.natCast_emod]; rfl
  by_cases hmod : n % 4 = 0
  rotate_left
  · rw [flB_no fun h => hmod h.1.2.2]
    have d3 : (((n % 4 : Nat) : Int) != 0) = true := by simp; omega
    go_enter Try.func66, Try.ntmps66
    go_wp2
    go_ret
    exact ⟨rfl, HH0.low⟩
  have d3 : (((n % 4 : Nat) : Int) != 0) = false := by simp [hmod]
  have HM := hide hmod; clear hmod
  have C1 := hide fun w => areSwaps_any c hc n h32 w
  have C2 := hide fun w => areSwaps_any t ht n h32 w
  have C3 := hide fun w => areSwaps_any s hs n h32 w
  clear hc ht hs hr
  rcases hp1 : prB c n with _ | _
  · rw [flB_no fun h => by have := prB_yes h.2.1; rw [hp1] at this; cases this]
    rw [hp1] at C1
    go_enter Try.func66, Try.ntmps66
    go_wp2_with fail
    refine (C1.out _).mono ?_
    rintro e w1 ⟨rfl, hb⟩
    have HH1 := HH0.call hb
    have cd1 := HH1.cells 0 rfl
    have n1 := HH1.cell 0 rfl hn
    clear hb
    go_wp2
    go_ret
    exact ⟨rfl, HH1.low⟩
  rw [hp1] at C1
  rcases hp2 : prB t n with _ | _
  · rw [flB_no fun h => by have := prB_yes h.2.2.1; rw [hp2] at this; cases this]
    rw [hp2] at C2
    go_enter Try.func66, Try.ntmps66
    go_wp2_with fail
    refine (C1.out _).mono ?_
    rintro e w1 ⟨rfl, hb⟩
    have HH1 := HH0.call hb
    have cd1 := HH1.cells 0 rfl
    have n1 := HH1.cell 0 rfl hn
    clear hb
    go_wp2_with fail
    refine (C2.out _).mono ?_
    rintro e w2 ⟨rfl, hb⟩
    have HH2 := HH1.call hb
    have cd2 := HH2.cells 0 rfl
    have n2 := HH2.cell 0 rfl hn
    clear hb cd1 n1
    go_wp2
    go_ret
    exact ⟨rfl, HH2.low⟩
  rw [hp2] at C2
  rcases hp3 : prB s n with _ | _
  · rw [flB_no fun h => by have := prB_yes h.2.2.2.1; rw [hp3] at this; cases this]
    rw [hp3] at C3
    go_enter Try.func66, Try.ntmps66
    go_wp2_with fail
    refine (C1.out _).mono ?_
    rintro e w1 ⟨rfl, hb⟩
    have HH1 := HH0.call hb
    have cd1 := HH1.cells 0 rfl
    have n1 := HH1.cell 0 rfl hn
    clear hb
    go_wp2_with fail
    refine (C2.out _).mono ?_
    rintro e w2 ⟨rfl, hb⟩
    have HH2 := HH1.call hb
    have cd2 := HH2.cells 0 rfl
    have n2 := HH2.cell 0 rfl hn
    clear hb cd1 n1
    go_wp2_with fail
    refine (C3.out _).mono ?_
    rintro e w3 ⟨rfl, hb⟩
    have HH3 := HH2.call hb
    have cd3 := HH3.cells 0 rfl
    have n3 := HH3.cell 0 rfl hn
    clear hb cd2 n2
    go_wp2
    go_ret
    exact ⟨rfl, HH3.low⟩
  rw [hp3] at C3
  have pc := prB_iff.1 hp1
  have pt := prB_iff.1 hp2
  have ps := prB_iff.1 hp3
  clear hp1 hp2 hp3
  have lc := fun i hi => pc.lt32 h32 i hi (by omega)
  have lt := fun i hi => pt.lt32 h32 i hi (by omega)
  have ls := fun i hi => ps.lt32 h32 i hi (by omega)
  have hK := keeps3 pc pt ps
  obtain ⟨R, hR⟩ : ∃ R, R = flB (n : Int) c t s := ⟨_, rfl⟩
  rw [← hR]
  have hyes : (∀ x, x < n → s (c x) ≠ x ∧ s (c x) = c (s x)) → (((cls [c, t, s] 0).length : Int) == (n : Int)) = R := fun h => by
    rw [hR, Bool.eq_iff_iff]
    constructor
    · intro e; exact flB_yes ⟨⟨h4, h32, HM.out⟩, pc, pt, ps, h, by have := beq_iff_eq.1 e; omega⟩
    · intro e
      obtain ⟨m, em, hm⟩ := flB_true e
      obtain rfl : n = m := by omega
      have := hm.2.2.2.2.2
      exact beq_iff_eq.2 (by omega)
  have hno : ∀ x, x < n → ¬ (s (c x) ≠ x ∧ s (c x) = c (s x)) → R = false := fun x hx h => by rw [hR]; exact flB_no fun hf => h (hf.2.2.2.2.1 x hx)
  have HY := hide hyes; clear hyes
  have HN := hide hno; clear hno
  clear hR
  have A1 := hide fun w => across_any (n : Int) c t s w
  have A2 := hide fun w => side_any (n : Int) c t s w
  have A3 := hide fun w => corner_any (n : Int) c t s w
  have A4 := hide fun w => turn_any (n : Int) c t s w
  have LA := hide (fun x hx w => twLead_any (swV c) (swV s) c s (lead_sw c lc) (lead_sw s ls) x hx w)
  have LB := hide (fun x hx w => twLead_any (swV s) (swV c) s c (lead_sw s ls) (lead_sw c lc) x hx w)
  have AC : LeadV (acV c s) (fun x => s (c x)) := lead_tw (lead_sw c lc) (lead_sw s ls)
  obtain ⟨Ty, xv, Kf, rv, ev, mv, nv, cv, bv0, CV⟩ := AC
  rw [ev] at A1
  have CW := hide CV; clear CV
  have LD := hide (lead3 lc lt ls)
  have HK := hide hK; clear hK
  have LC := hide lc; have LS := hide ls
  have KC := hide pc.1; have KS := hide ps.1
  clear lc lt ls pc pt ps bv0 ev
  go_enter Try.func66, Try.ntmps66
  go_wp2_with fail
  refine (C1.out _).mono ?_
  rintro e w1 ⟨rfl, hb⟩
  have HH1 := HH0.call hb
  have cd1 := HH1.cells 0 rfl
  have n1 := HH1.cell 0 rfl hn
  clear hb
  go_wp2_with fail
  refine (C2.out _).mono ?_
  rintro e w2 ⟨rfl, hb⟩
  have HH2 := HH1.call hb
  have cd2 := HH2.cells 0 rfl
  have n2 := HH2.cell 0 rfl hn
  clear hb cd1 n1
  go_wp2_with fail
  refine (C3.out _).mono ?_
  rintro e w3 ⟨rfl, hb⟩
  have HH3 := HH2.call hb
  have cd3 := HH3.cells 0 rfl
  have n3 := HH3.cell 0 rfl hn
  clear hb cd2 n2
  go_wp2
  clear cd3 n3 n0 C1 C2 C3
  refine Rd.region_P (w0 := w) [pBlk w.heap.size (fv (n : Int) c t s) 53] [pBlk w.heap.size (fv (n : Int) c t s) 53] [7, 9] (.q 0 <| .q 1 <| .q 2 <| .q 3 <| .q 4 <| .q 5 <| .q 6 <| .s1 7 <| .q 8 <| .s1 9 .fin) HH3 (.refl _) (by kernel_rfl) (by kernel_rfl) (by kernel_rfl) ?_
  iterate 1
    apply Rd.v_q
    · simp only [List.getElem?_toArray, List.getElem?_cons_zero, List.getElem?_cons_succ]; exact rfl
    · rfl
    · go_simp
    · intro wx hx
      have q0 := hx.cells 0 rfl
      unfold atG
      go_simp
      simp only [uponG]
      exact ⟨by trivial, rfl⟩
  iterate 1
    apply Rd.v_q
    · simp only [List.getElem?_toArray, List.getElem?_cons_zero, List.getElem?_cons_succ]; exact rfl
    · rfl
    · go_simp
    · intro wx hx
      have q0 := hx.cells 0 rfl
      unfold atG
      go_simp
      simp only [uponG]
      exact ⟨by trivial, A1.out wx⟩
  iterate 1
    apply Rd.v_q
    · simp only [List.getElem?_toArray, List.getElem?_cons_zero, List.getElem?_cons_succ]; exact rfl
    · rfl
    · go_simp
    · intro wx hx
      have q0 := hx.cells 0 rfl
      unfold atG
      go_simp
      simp only [uponG]
      exact ⟨by trivial, rfl⟩
  iterate 1
    apply Rd.v_q
    · simp only [List.getElem?_toArray, List.getElem?_cons_zero, List.getElem?_cons_succ]; exact rfl
    · rfl
    · go_simp
    · intro wx hx
      have q0 := hx.cells 0 rfl
      unfold atG
      go_simp
      simp only [uponG]
      exact ⟨by trivial, A2.out wx⟩
  iterate 1
    apply Rd.v_q
    · simp only [List.getElem?_toArray, List.getElem?_cons_zero, List.getElem?_cons_succ]; exact rfl
    · rfl
    · go_simp
    · intro wx hx
      have q0 := hx.cells 0 rfl
      unfold atG
      go_simp
      simp only [uponG]
      exact ⟨by trivial, rfl⟩
  iterate 1
    apply Rd.v_q
    · simp only [List.getElem?_toArray, List.getElem?_cons_zero, List.getElem?_cons_succ]; exact rfl
    · rfl
    · go_simp
    · intro wx hx
      have q0 := hx.cells 0 rfl
      unfold atG
      go_simp
      simp only [uponG]
      exact ⟨by trivial, A3.out wx⟩
  iterate 1
    apply Rd.v_q
    · simp only [List.getElem?_toArray, List.getElem?_cons_zero, List.getElem?_cons_succ]; exact rfl
    · rfl
    · go_simp
    · intro wx hx
      have q0 := hx.cells 0 rfl
      unfold atG
      go_simp
      simp only [uponG]
      exact ⟨by trivial, rfl⟩
  refine Rd.v_box #[.nilIface, .nilIface] 95 (by simp only [List.getElem?_toArray, List.getElem?_cons_zero, List.getElem?_cons_succ]; exact rfl) rfl (by go_simp) (fun wx hx hD => by go_simp) fun g4 => ?_
  iterate 1
    apply Rd.v_q
    · simp only [List.getElem?_toArray, List.getElem?_cons_zero, List.getElem?_cons_succ]; exact rfl
    · rfl
    · go_simp
    · intro wx hx
      have q0 := hx.cells 0 rfl
      unfold atG
      go_simp
      simp only [uponG]
      exact ⟨by trivial, rfl⟩
  refine Rd.v_put 0 g4 #[.nilIface, .nilIface] #[swV s, swV c] 95 rfl (.cons _ (.refl _)) (by simp only [List.getElem?_toArray, List.getElem?_cons_zero, List.getElem?_cons_succ]; exact rfl) rfl (by go_simp) (fun wx hx hD => ?_) ?_
  · have rr := hD.rowOk (n := 2) 0 rfl rfl
    go_simp
  rintro w5 - H5
  clear HH1 HH2 HH3
  simp only [List.set_cons_zero] at H5
  go_simp
  have n5 := H5.cell 1 rfl hn
  have hw8 : IntKind.u8.wrap (n : Int) = n := wr8k (by omega) (by omega)
  go_wp2
  clear n5
  generalize hG : w.heap.size = G at *
  have HG := hide hG; clear hG
  go_loopw [53] (fun i wr => ∃ x : Nat, x ≤ n ∧ i = .int .u8 x ∧ Holds w wr [pBlk g4 #[swV s, swV c] 95, pBlk G (fv (n : Int) c t s) 53] ∧ ∀ y, y < x → s (c y) ≠ y ∧ s (c y) = c (s y)) (fun i _ => n - (intOf i).toNat)
  case atStart => exact ⟨0, by omega, rfl, H5, fun y hy => by omega⟩
  case round =>
    clear H5
    obtain ⟨x, hx, rfl, hH, hall⟩ := hrel
    have HA := hide hall; clear hall
    by_cases hlt : x < n
    · have hx32 : x < 32 := by omega
      have hcx := (KC.out x hlt).1
      have hsx := (KS.out x hlt).1
      have CX := hide (CW.out x hx32)
      have CB := hide (LB.out x hx32)
      have hscx := (KS.out _ hcx).1
      have hcsx := (KC.out _ hsx).1
      have hrn := HN.out x hlt
      have hstep : s (c x) ≠ x → s (c x) = c (s x) → ∀ y, y < x + 1 → s (c y) ≠ y ∧ s (c y) = c (s y) := fun h1 h2 y hy => by
        by_cases e : y = x
        · subst e; exact ⟨h1, h2⟩
        · exact HA.out y (by omega)
      generalize s (c x) = y1 at *
      generalize c (s x) = y2 at *
      have HS := hide hstep; clear hstep
      have hli : (x : Int) < n := by omega
      have hwx : IntKind.u8.wrap ((x : Int) + 1) = ((x + 1 : Nat) : Int) := by rw [wr8k (by omega) (by omega)]; rfl
      have cd0 := hH.cells 0 rfl
      by_cases h1 : y1 = x
      · have hr := hrn fun h => h.1 h1
        have e1 : ((y1 : Int) == (x : Int)) = true := by simp [h1]
        subst hr
        clear h1
        go_wp2_with fail
        refine (CX.out _).mono ?_
        rintro e w6 ⟨rfl, hb⟩
        have H6 := hH.call hb
        clear hb hH cd0
        go_wp2
        go_ret
        exact ⟨rfl, H6.low⟩
      · have e1 : ((y1 : Int) == (x : Int)) = false := by simp; omega
        go_wp2_with fail
        refine (CX.out _).mono ?_
        rintro e w6 ⟨rfl, hb⟩
        have H6 := hH.call hb
        clear hb hH cd0
        have cd0 := H6.cells 0 rfl
        go_wp2_with fail
        refine (CB.out _).mono ?_
        rintro e w7 ⟨rfl, hb⟩
        have H7 := H6.call hb
        clear hb H6 cd0
        by_cases h2 : y1 = y2
        · have e2 : ((y1 : Int) != (y2 : Int)) = false := by simp [h2]
          have HT := hide (HS.out h1 h2); clear HS h2 h1
          go_wp2
          go_roundw
          case rel => exact ⟨x + 1, by omega, by go_num, H7, HT.out⟩
          case measure => simp [intOf]; omega
        · have hr := hrn fun h => h2 h.2
          have e2 : ((y1 : Int) != (y2 : Int)) = true := by simp; omega
          subst hr
          clear h2
          go_wp2
          go_ret
          exact ⟨rfl, H7.low⟩
    · obtain rfl : x = n := by omega
      have hr := HY.out HA.out
      have hgG := hH.lt 1 rfl
      subst hr
      clear hlt
      go_wp2
      refine Rd.region_P (w0 := w) [pBlk g4 #[swV s, swV c] 95, pBlk G (fv (x : Int) c t s) 53] [pBlk g4 #[swV s, swV c] 95, pBlk G (fv (x : Int) c t s) 53] [6, 7] (.q 0 <| .q 1 <| .q 2 <| .q 3 <| .q 4 <| .q 5 <| .q 9 <| .q 10 <| .s1 6 <| .s1 7 <| .q 8 <| .q 11 <| .q 12 .fin) hH (.refl _) (by kernel_rfl) (by kernel_rfl) (by kernel_rfl) ?_
      iterate 1
        apply Rd.v_q
        · simp only [List.getElem?_toArray, List.getElem?_cons_zero, List.getElem?_cons_succ]; exact rfl
        · rfl
        · go_simp
        · intro wx hx
          have q0 := hx.cells 1 rfl
          have q1 := hx.cell 1 rfl hn
          unfold atG
          go_simp
          simp only [uponG]
          exact ⟨by trivial, rfl⟩
      iterate 1
        apply Rd.v_q
        · simp only [List.getElem?_toArray, List.getElem?_cons_zero, List.getElem?_cons_succ]; exact rfl
        · rfl
        · go_simp
        · intro wx hx
          have q0 := hx.cells 1 rfl
          have q1 := hx.cell 1 rfl hn
          unfold atG
          go_simp
          simp only [uponG]
          exact ⟨by trivial, A3.out wx⟩
      iterate 1
        apply Rd.v_q
        · simp only [List.getElem?_toArray, List.getElem?_cons_zero, List.getElem?_cons_succ]; exact rfl
        · rfl
        · go_simp
        · intro wx hx
          have q0 := hx.cells 1 rfl
          have q1 := hx.cell 1 rfl hn
          unfold atG
          go_simp
          simp only [uponG]
          exact ⟨by trivial, rfl⟩
      iterate 1
        apply Rd.v_q
        · simp only [List.getElem?_toArray, List.getElem?_cons_zero, List.getElem?_cons_succ]; exact rfl
        · rfl
        · go_simp
        · intro wx hx
          have q0 := hx.cells 1 rfl
          have q1 := hx.cell 1 rfl hn
          unfold atG
          go_simp
          simp only [uponG]
          exact ⟨by trivial, A4.out wx⟩
      iterate 1
        apply Rd.v_q
        · simp only [List.getElem?_toArray, List.getElem?_cons_zero, List.getElem?_cons_succ]; exact rfl
        · rfl
        · go_simp
        · intro wx hx
          have q0 := hx.cells 1 rfl
          have q1 := hx.cell 1 rfl hn
          unfold atG
          go_simp
          simp only [uponG]
          exact ⟨by trivial, rfl⟩
      iterate 1
        apply Rd.v_q
        · simp only [List.getElem?_toArray, List.getElem?_cons_zero, List.getElem?_cons_succ]; exact rfl
        · rfl
        · go_simp
        · intro wx hx
          have q0 := hx.cells 1 rfl
          have q1 := hx.cell 1 rfl hn
          unfold atG
          go_simp
          simp only [uponG]
          exact ⟨by trivial, A2.out wx⟩
      iterate 2
        apply Rd.v_q
        · simp only [List.getElem?_toArray, List.getElem?_cons_zero, List.getElem?_cons_succ]; exact rfl
        · rfl
        · go_simp
        · intro wx hx
          have q0 := hx.cells 1 rfl
          have q1 := hx.cell 1 rfl hn
          unfold atG
          go_simp
          simp only [uponG]
          exact ⟨by trivial, rfl⟩
      refine Rd.v_build #[swV c, swV t, swV s] 92 3 (by simp only [List.getElem?_toArray, List.getElem?_cons_zero, List.getElem?_cons_succ]; exact rfl) rfl (by go_simp) (fun wx hx hD => by go_simp) fun gq => ?_
      refine Rd.v_s (fun v wx => Holds w wx (pBy v (cls [c, t, s] 0) :: pBlk gq #[swV c, swV t, swV s] 92 :: [pBlk g4 #[swV s, swV c] 95, pBlk G (fv (x : Int) c t s) 53])) (fun v _ _ h hb => h.call hb) (by simp only [List.getElem?_toArray, List.getElem?_cons_zero, List.getElem?_cons_succ]; exact rfl) rfl (by go_simp) (fun wx hx hD => ?_) ?_
      · have CF := flagsFrom_any x h32 [c, t, s] HK.out (by simp) gq [swV c, swV t, swV s] rfl LD.out 0 (by omega) wx (hD.at 0 rfl)
        go_simp
        simp only [Rd.uponE]
        refine ⟨by trivial, CF.mono ?_⟩
        rintro e w' ⟨v, rfl, h2⟩
        have h3 := hD.newRow h2.low (h2.row 0 rfl)
        exact ⟨v, rfl, hx.call h2.low, h3⟩
      rintro v ⟨wy, _, hv⟩
      obtain ⟨A, cc, rfl⟩ := hv.bysForm 0 rfl
      clear hv
      iterate 3
        apply Rd.v_q
        · simp only [List.getElem?_toArray, List.getElem?_cons_zero, List.getElem?_cons_succ]; exact rfl
        · rfl
        · go_simp
        · intro wx hx
          have q0 := hx.cells 1 rfl
          have q1 := hx.cell 1 rfl hn
          unfold atG
          go_simp
          simp only [uponG]
          exact ⟨by trivial, rfl⟩
      rintro wz - hz
      go_simp
      go_wp2
      go_ret
      exact ⟨rfl, hz.low⟩
end Go.Proofs.Yteeideminlcblaa

