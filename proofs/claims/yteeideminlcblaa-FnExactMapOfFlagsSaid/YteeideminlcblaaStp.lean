/- Steps: the three lists behind an interface, one step then another one. -/
import Derived.Test.YteeideminlcblaaFlg
import Derived.Test.YteeideminlcblaaHS
import Derived.Test.YteeideminlcblaaHS2
import Derived.Test.YteeideminlcblaaRegD
import Derived.Test.YteeideminlcblaaWr
import Derived.Test.YteeideminlcblaaMake
namespace Go.Proofs.Yteeideminlcblaa
open Go.RowKit

/-- a value of the interface that leads flags to flags -/
def LeadV (v : Value) (p : Nat → Nat) : Prop :=
  ∃ (T : TypeId) (x : Value) (K : Nat) (r : Value), v = .iface T x ∧ (∀ (N : Nat) w, (method (N + 1) T x "loop.example/g01200/impl.lead").run Try.prog w = .ok (K, r) w) ∧ (∀ (N : Nat) w, (nilAhead (N + 1) T x "loop.example/g01200/impl.lead").run Try.prog w = .ok (some false) w) ∧ (∀ (a b : Value) w, (callFunc K #[a, b]).run Try.prog w = .ok (.enter K #[a, b]) w) ∧ (∀ i, i < 32 → p i < 32) ∧
    ∀ i : Nat, i < 32 → ∀ w, Calls Try.prog K #[r, .int .u8 i] w fun e w' => e = .returned (.int .u8 (p i)) ∧ Below w.heap.size w w'

set_option maxRecDepth 100000 in
theorem swLead_any (f : Nat → Nat) (x : Nat) (hx : x < 32) (w : World) :
    Calls Try.prog 125 #[.agg (qv f), .int .u8 x] w fun e w' => e = .returned (.int .u8 (f x)) ∧ Below w.heap.size w w' := by
  have H := (Holds.start w).blk (qv f) 125 w.heap.size rfl
  have c := H.cell 0 rfl (qv_get f hx)
  have hx' : (x : Int) < 32 := by omega
  go_enter Try.func125, Try.ntmps125
  go_wp2
  go_ret
  exact ⟨rfl, H.low⟩
set_option maxRecDepth 100000 in
theorem lead_sw (f : Nat → Nat) (hf : ∀ i, i < 32 → f i < 32) : LeadV (.iface 125 (.agg (qv f))) f :=
  ⟨125, .agg (qv f), 125, .agg (qv f), rfl, fun _ _ => by kernel_rfl, fun _ _ => by kernel_rfl, fun _ _ _ => by kernel_rfl, hf, fun i hi w => swLead_any f i hi w⟩

set_option maxRecDepth 100000 in
set_option maxHeartbeats 1000000 in
theorem twLead_any (v1 v2 : Value) (p q : Nat → Nat) (h1 : LeadV v1 p) (h2 : LeadV v2 q) (x : Nat) (hx : x < 32) (w : World) :
    Calls Try.prog 71 #[.agg #[v1, v2], .int .u8 x] w fun e w' => e = .returned (.int .u8 (q (p x))) ∧ Below w.heap.size w w' := by
  obtain ⟨T1, x1, K1, r1, rfl, m1, n1, k1, b1, C1⟩ := h1
  obtain ⟨T2, x2, K2, r2, rfl, m2, n2, k2, b2, C2⟩ := h2
  have D1 := hide (C1 x hx)
  have D2 := hide (C2 _ (b1 x hx))
  clear C1 C2
  generalize q (p x) = z at *
  generalize p x = y at *
  have H := (Holds.start w).blk #[.iface T1 x1, .iface T2 x2] 95 w.heap.size rfl
  go_enter Try.func71, Try.ntmps71
  go_wp2
  refine Rd.region_P (w0 := w) [pBlk w.heap.size #[.iface T1 x1, .iface T2 x2] 95] [pBlk w.heap.size #[.iface T1 x1, .iface T2 x2] 95] [] (.q 0 <| .q 1 <| .q 2 <| .q 3 <| .q 4 <| .q 5 <| .q 6 <| .q 7 <| .q 8 <| .q 9 .fin) H (.refl _) (by kernel_rfl) (by kernel_rfl) (by kernel_rfl) ?_
  iterate 5
    apply Rd.v_q
    · simp only [List.getElem?_toArray, List.getElem?_cons_zero, List.getElem?_cons_succ]; exact rfl
    · rfl
    · go_simp
    · intro wx hx
      have c1 : wx.cell? ⟨w.heap.size, 0, none⟩ = some (.iface T1 x1) := hx.cell 0 rfl rfl
      have c2 : wx.cell? ⟨w.heap.size, 1, none⟩ = some (.iface T2 x2) := hx.cell 0 rfl rfl
      unfold atG
      go_simp
      simp only [uponG]
      exact ⟨by trivial, rfl⟩
  iterate 1
    apply Rd.v_q
    · simp only [List.getElem?_toArray, List.getElem?_cons_zero, List.getElem?_cons_succ]; exact rfl
    · rfl
    · go_simp
    · intro wx hx
      have c1 : wx.cell? ⟨w.heap.size, 0, none⟩ = some (.iface T1 x1) := hx.cell 0 rfl rfl
      have c2 : wx.cell? ⟨w.heap.size, 1, none⟩ = some (.iface T2 x2) := hx.cell 0 rfl rfl
      unfold atG
      go_simp
      simp only [uponG]
      exact ⟨by trivial, D1.out wx⟩
  iterate 2
    apply Rd.v_q
    · simp only [List.getElem?_toArray, List.getElem?_cons_zero, List.getElem?_cons_succ]; exact rfl
    · rfl
    · go_simp
    · intro wx hx
      have c1 : wx.cell? ⟨w.heap.size, 0, none⟩ = some (.iface T1 x1) := hx.cell 0 rfl rfl
      have c2 : wx.cell? ⟨w.heap.size, 1, none⟩ = some (.iface T2 x2) := hx.cell 0 rfl rfl
      unfold atG
      go_simp
      simp only [uponG]
      exact ⟨by trivial, rfl⟩
  iterate 1
    apply Rd.v_q
    · simp only [List.getElem?_toArray, List.getElem?_cons_zero, List.getElem?_cons_succ]; exact rfl
    · rfl
    · go_simp
    · intro wx hx
      have c1 : wx.cell? ⟨w.heap.size, 0, none⟩ = some (.iface T1 x1) := hx.cell 0 rfl rfl
      have c2 : wx.cell? ⟨w.heap.size, 1, none⟩ = some (.iface T2 x2) := hx.cell 0 rfl rfl
      unfold atG
      go_simp
      simp only [uponG]
      exact ⟨by trivial, D2.out wx⟩
  iterate 1
    apply Rd.v_q
    · simp only [List.getElem?_toArray, List.getElem?_cons_zero, List.getElem?_cons_succ]; exact rfl
    · rfl
    · go_simp
    · intro wx hx
      have c1 : wx.cell? ⟨w.heap.size, 0, none⟩ = some (.iface T1 x1) := hx.cell 0 rfl rfl
      have c2 : wx.cell? ⟨w.heap.size, 1, none⟩ = some (.iface T2 x2) := hx.cell 0 rfl rfl
      unfold atG
      go_simp
      simp only [uponG]
      exact ⟨by trivial, rfl⟩
  rintro w2 h2 -
  go_simp
  go_wp2
  go_ret
  exact ⟨rfl, h2.low⟩
set_option maxRecDepth 100000 in
theorem lead_tw {v1 v2 : Value} {p q : Nat → Nat} (h1 : LeadV v1 p) (h2 : LeadV v2 q) : LeadV (.iface 95 (.agg #[v1, v2])) (fun x => q (p x)) := by
  refine ⟨95, .agg #[v1, v2], 71, .agg #[v1, v2], rfl, fun _ _ => by kernel_rfl, fun _ _ => by kernel_rfl, fun _ _ _ => by kernel_rfl, fun i hi => ?_, fun i hi w => twLead_any v1 v2 p q h1 h2 i hi w⟩
  obtain ⟨_, _, _, _, _, _, _, _, b1, _⟩ := h1
  obtain ⟨_, _, _, _, _, _, _, _, b2, _⟩ := h2
  exact b2 _ (b1 i hi)
def swV (f : Nat → Nat) : Value := .iface 125 (.agg (qv f))

set_option maxRecDepth 100000 in
set_option maxHeartbeats 1000000 in
theorem corner_any (n : Int) (c t s : Nat → Nat) (w : World) : Calls Try.prog 70 #[.agg (fv n c t s)] w fun e w' => e = .returned (swV c) ∧ Below w.heap.size w w' := by
  have H := (Holds.start w).blk (fv n c t s) 53 w.heap.size rfl
  go_enter Try.func70, Try.ntmps70
  go_wp2
  go_ret
  exact ⟨rfl, H.low⟩

set_option maxRecDepth 100000 in
set_option maxHeartbeats 1000000 in
theorem turn_any (n : Int) (c t s : Nat → Nat) (w : World) : Calls Try.prog 69 #[.agg (fv n c t s)] w fun e w' => e = .returned (swV t) ∧ Below w.heap.size w w' := by
  have H := (Holds.start w).blk (fv n c t s) 53 w.heap.size rfl
  go_enter Try.func69, Try.ntmps69
  go_wp2
  go_ret
  exact ⟨rfl, H.low⟩

set_option maxRecDepth 100000 in
set_option maxHeartbeats 1000000 in
theorem side_any (n : Int) (c t s : Nat → Nat) (w : World) : Calls Try.prog 68 #[.agg (fv n c t s)] w fun e w' => e = .returned (swV s) ∧ Below w.heap.size w w' := by
  have H := (Holds.start w).blk (fv n c t s) 53 w.heap.size rfl
  go_enter Try.func68, Try.ntmps68
  go_wp2
  go_ret
  exact ⟨rfl, H.low⟩

theorem twBuilt (v1 v2 : Value) (h1 : v1.cells = #[v1]) (h2 : v2.cells = #[v2]) : Try.prog.built 95 [(0, v1), (1, v2)] = some #[v1, v2] := by
  have h := built_str (P := Try.prog) (T := 95) (N := 2) (pl := [(0, 1), (1, 1)]) Try.underlying95 (by kernel_rfl) (by kernel_rfl) [(0, v1), (1, v2)] (by simp [Fits, h1, h2]) (by simp [flatC, h1, h2])
  rw [h]
  simp [flatC, h1, h2]
def buildTw (ps : Array (Nat × Value)) : Sem Next := do pure (.value (← Instr.build 95 ps))
@[go_sem ↓] theorem exec_buildTw (ρ : Operand → Value) (dst : Option Tmp) (parts : Array (Nat × Operand)) (ty : TypeId) (pos : String) (after : Array Edge) (guard : Option (Nat × Bool)) :
    execOp ρ { dst, op := .build 95 parts, type := ty, pos, after, guard } = buildTw (parts.map fun (i, x) => (i, ρ x)) := rfl
@[go_sem] theorem run_buildTw (f g : Nat → Nat) (w : World) : (buildTw #[(0, swV f), (1, swV g)]).run Try.prog w = .ok (.value (.agg #[swV f, swV g])) w := by
  simp only [buildTw, Sem.run_bind, run_build (P := Try.prog) w 95 #[(0, swV f), (1, swV g)] _ (twBuilt _ _ rfl rfl), Result.andThen_ok, Sem.run_pure]
def acV (c s : Nat → Nat) : Value := .iface 95 (.agg #[swV c, swV s])

set_option maxRecDepth 100000 in
set_option maxHeartbeats 1000000 in
theorem across_any (n : Int) (c t s : Nat → Nat) (w : World) : Calls Try.prog 93 #[.agg (fv n c t s)] w fun e w' => e = .returned (acV c s) ∧ Below w.heap.size w w' := by
  have H := (Holds.start w).blk (fv n c t s) 53 w.heap.size rfl
  have C1 := hide fun w => corner_any n c t s w
  have C2 := hide fun w => side_any n c t s w
  go_enter Try.func93, Try.ntmps93
  go_wp2
  refine Rd.region_P (w0 := w) [pBlk w.heap.size (fv n c t s) 53] [pBlk w.heap.size (fv n c t s) 53] [] (.q 0 <| .q 1 <| .q 2 <| .q 3 <| .q 4 <| .q 5 <| .q 6 .fin) H (.refl _) (by kernel_rfl) (by kernel_rfl) (by kernel_rfl) ?_
  iterate 1
    apply Rd.v_q
    · simp only [List.getElem?_toArray, List.getElem?_cons_zero, List.getElem?_cons_succ]; exact rfl
    · rfl
    · go_simp
    · intro wx hx
      have q0 := hx.cells 0 rfl
      unfold atG
      go_simp
      simp only [uponG]
      exact ⟨by trivial, rfl⟩
  iterate 1
    apply Rd.v_q
    · simp only [List.getElem?_toArray, List.getElem?_cons_zero, List.getElem?_cons_succ]; exact rfl
    · rfl
    · go_simp
    · intro wx hx
      have q0 := hx.cells 0 rfl
      unfold atG
      go_simp
      simp only [uponG]
      exact ⟨by trivial, C1.out wx⟩
  iterate 1
    apply Rd.v_q
    · simp only [List.getElem?_toArray, List.getElem?_cons_zero, List.getElem?_cons_succ]; exact rfl
    · rfl
    · go_simp
    · intro wx hx
      have q0 := hx.cells 0 rfl
      unfold atG
      go_simp
      simp only [uponG]
      exact ⟨by trivial, rfl⟩
  iterate 1
    apply Rd.v_q
    · simp only [List.getElem?_toArray, List.getElem?_cons_zero, List.getElem?_cons_succ]; exact rfl
    · rfl
    · go_simp
    · intro wx hx
      have q0 := hx.cells 0 rfl
      unfold atG
      go_simp
      simp only [uponG]
      exact ⟨by trivial, C2.out wx⟩
  iterate 3
    apply Rd.v_q
    · simp only [List.getElem?_toArray, List.getElem?_cons_zero, List.getElem?_cons_succ]; exact rfl
    · rfl
    · go_simp
    · intro wx hx
      have q0 := hx.cells 0 rfl
      unfold atG
      go_simp
      simp only [uponG]
      exact ⟨by trivial, rfl⟩
  rintro w2 h2 -
  go_simp
  go_wp2
  go_ret
  exact ⟨rfl, h2.low⟩
end Go.Proofs.Yteeideminlcblaa

