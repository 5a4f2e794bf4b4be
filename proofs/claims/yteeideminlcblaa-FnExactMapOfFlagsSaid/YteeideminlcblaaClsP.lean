/- classes: the program's search for two classes -/
import Derived.Test.YteeideminlcblaaCls
import Derived.Test.YteeideminlcblaaJmp
import Derived.Test.YteeideminlcblaaAre
import Derived.Test.YteeideminlcblaaRegS
namespace Go.Proofs.Yteeideminlcblaa
open Go.RowKit

def Is3 (c : Array Value) : Prop := c.size = 3
@[go_sem] theorem is3_lit (a b c : Value) : Is3 #[a, b, c] ↔ True := ⟨fun _ => trivial, fun _ => rfl⟩
@[go_sem] theorem ones_sw3 (f g h : Nat → Nat) : Ones #[swV f, swV g, swV h] ↔ True := ⟨fun _ => trivial, fun _ => by unfold Ones swV; simp [Value.oneCell']⟩
theorem agg3s : AggT 124 3 := ⟨⟨_, Try.underlying124, rfl⟩, by kernel_rfl⟩
@[go_sem ↓] theorem exec_store3s (ρ : Operand → Value) (dst : Option Tmp) (x y : Operand) (ty : TypeId) (pos : String) (after : Array Edge) (guard : Option (Nat × Bool)) : execOp ρ { dst, op := .store 124 x y, type := ty, pos, after, guard } = storeT 124 (ρ x) (ρ y) := rfl
@[go_sem] theorem run_store3s {w : World} {g : Nat} {cs : Array Value} (h : rowOk w g 3) (hs : Is3 cs) (hc : Ones cs) : (storeT 124 (.pointer (some ⟨g, 0, none⟩)) (.agg cs)).run Try.prog w = .ok .skip (w.setRow g cs) := run_storeT agg3s h hs hc
theorem built3s (v1 v2 v3 : Value) (h1 : v1.cells = #[v1]) (h2 : v2.cells = #[v2]) (h3 : v3.cells = #[v3]) : Try.prog.built 124 [(0, v1), (1, v2), (2, v3)] = some #[v1, v2, v3] := by
  have h := built_arr (P := Try.prog) (T := 124) (E := 92) (n := 3) (s := 1) (N := 3) Try.underlying124 (by kernel_rfl) (by kernel_rfl) [(0, v1), (1, v2), (2, v3)] (by simp [Fits, h1, h2, h3]) (by simp [flatC, h1, h2, h3])
  rw [h]
  simp [flatC, h1, h2, h3]
def build3s (ps : Array (Nat × Value)) : Sem Next := do pure (.value (← Instr.build 124 ps))
@[go_sem ↓] theorem exec_build3s (ρ : Operand → Value) (dst : Option Tmp) (parts : Array (Nat × Operand)) (ty : TypeId) (pos : String) (after : Array Edge) (guard : Option (Nat × Bool)) :
    execOp ρ { dst, op := .build 124 parts, type := ty, pos, after, guard } = build3s (parts.map fun (i, x) => (i, ρ x)) := rfl
@[go_sem] theorem run_build3s (f g h : Nat → Nat) (w : World) : (build3s #[(0, swV f), (1, swV g), (2, swV h)]).run Try.prog w = .ok (.value (.agg #[swV f, swV g, swV h])) w := by
  simp only [build3s, Sem.run_bind, run_build (P := Try.prog) w 124 #[(0, swV f), (1, swV g), (2, swV h)] _ (built3s _ _ _ rfl rfl rfl), Result.andThen_ok, Sem.run_pure]

def cJ1 (n : Int) (c t s : Nat → Nat) (w0 : World) (a : Act) (wr : World) : Prop :=
  ∃ (gS gC k : Nat) (S : CSt) (v : Value) (kk : Int) (u8 u9 : Value) (u10 u11 u12 u13 u14 u15 u16 u17 u18 u19 u20 u21 u22 u23 u24 u25 u26 u27 u28 u29 u30 u31 u32 u33 u34 u35 u36 u37 u38 u39 u40 u41 u42 u43 u44 u45 u46 u47 u48 u49 u50 u51 u52 u53 u54 u55 u56 u57 u58 u59 u60 : Value), a = { tmps := #[.agg (fv n c t s), .pointer (some ⟨w0.heap.size, 0, none⟩), .pointer (some ⟨w0.heap.size + 1, 0, none⟩), .bool false, .pointer (some ⟨gS, 0, none⟩), .pointer (some ⟨gC, 0, none⟩), v, .int .i64 kk, u8, u9, u10, u11, u12, u13, u14, u15, u16, u17, u18, u19, u20, u21, u22, u23, u24, u25, u26, u27, u28, u29, u30, u31, u32, u33, u34, u35, u36, u37, u38, u39, u40, u41, u42, u43, u44, u45, u46, u47, u48, u49, u50, u51, u52, u53, u54, u55, u56, u57, u58, u59, u60], defers := [] } ∧ kk = (k : Int) ∧ cb [c, t, s] k = some S ∧ k ≤ S.1.length ∧
    Holds w0 wr [pBy v S.1, pBlk gC (iv (pc S.2)) 88, pBlk gS #[swV c, swV t, swV s] 124, pBlk (w0.heap.size + 1) (iv fun _ => 0) 88]
def cJ2 (n : Int) (c t s : Nat → Nat) (w0 : World) (a : Act) (wr : World) : Prop :=
  ∃ (gS gC k j X : Nat) (S T : CSt) (v : Value) (kk jj : Int) (u10 u11 u12 u13 u14 u15 u16 u17 u18 u19 u20 u21 u22 u23 u24 u25 u26 u27 u28 u29 u30 u31 u32 u33 u34 u35 u36 u37 u38 u39 u40 u41 u42 u43 u44 u45 u46 u47 u48 u49 u50 u51 u52 u53 u54 u55 u56 u57 u58 u59 u60 : Value), a = { tmps := #[.agg (fv n c t s), .pointer (some ⟨w0.heap.size, 0, none⟩), .pointer (some ⟨w0.heap.size + 1, 0, none⟩), .bool false, .pointer (some ⟨gS, 0, none⟩), .pointer (some ⟨gC, 0, none⟩), v, .int .i64 kk, .int .i64 jj, .int .u8 (X : Nat), u10, u11, u12, u13, u14, u15, u16, u17, u18, u19, u20, u21, u22, u23, u24, u25, u26, u27, u28, u29, u30, u31, u32, u33, u34, u35, u36, u37, u38, u39, u40, u41, u42, u43, u44, u45, u46, u47, u48, u49, u50, u51, u52, u53, u54, u55, u56, u57, u58, u59, u60], defers := [] } ∧ kk = (k : Int) + 1 ∧ jj = (j : Int) ∧ j ≤ 3 ∧ cb [c, t, s] k = some S ∧ S.1[k]? = some X ∧ cgo [c, t, s] S X j = some T ∧
    Holds w0 wr [pBy v T.1, pBlk gC (iv (pc T.2)) 88, pBlk gS #[swV c, swV t, swV s] 124, pBlk (w0.heap.size + 1) (iv fun _ => 0) 88]
def cM1 (a : Act) (_ : World) : Nat := 5 * (33 - (intOf (a.tmps.getD 7 undef)).toNat)
def cM2 (a : Act) (_ : World) : Nat := 5 * (33 - (intOf (a.tmps.getD 7 undef)).toNat) + 4 - (intOf (a.tmps.getD 8 undef)).toNat
theorem clsOne : (#[.int .i64 1, .int .i64 0, .int .i64 0, .int .i64 0, .int .i64 0, .int .i64 0, .int .i64 0, .int .i64 0, .int .i64 0, .int .i64 0, .int .i64 0, .int .i64 0, .int .i64 0, .int .i64 0, .int .i64 0, .int .i64 0, .int .i64 0, .int .i64 0, .int .i64 0, .int .i64 0, .int .i64 0, .int .i64 0, .int .i64 0, .int .i64 0, .int .i64 0, .int .i64 0, .int .i64 0, .int .i64 0, .int .i64 0, .int .i64 0, .int .i64 0, .int .i64 0] : Array Value) = iv (pc (kset (fun _ => 0) 0 1)) := by unfold iv row pc kset sgn; rfl
theorem clsZ : (#[.int .i64 0, .int .i64 0, .int .i64 0, .int .i64 0, .int .i64 0, .int .i64 0, .int .i64 0, .int .i64 0, .int .i64 0, .int .i64 0, .int .i64 0, .int .i64 0, .int .i64 0, .int .i64 0, .int .i64 0, .int .i64 0, .int .i64 0, .int .i64 0, .int .i64 0, .int .i64 0, .int .i64 0, .int .i64 0, .int .i64 0, .int .i64 0, .int .i64 0, .int .i64 0, .int .i64 0, .int .i64 0, .int .i64 0, .int .i64 0, .int .i64 0, .int .i64 0] : Array Value) = iv fun _ => 0 := iv_zero.symm

set_option maxRecDepth 100000 in
set_option maxHeartbeats 2000000 in
theorem classes_any (n : Nat) (hn : n ≤ 32) (h0 : 0 < n) (c t s : Nat → Nat) (hps : Keeps [c, t, s] n) (hc : ∀ i, i < 32 → c i < 32) (ht : ∀ i, i < 32 → t i < 32) (hs : ∀ i, i < 32 → s i < 32) (w : World) :
    Calls Try.prog 67 #[.agg (fv n c t s)] w fun e w' => ∃ K : Nat → Int, e = .returned (.tuple #[.agg (iv K), .bool (orB [c, t, s])]) ∧ (∀ S, cb [c, t, s] 32 = some S → K = pc S.2) ∧ Below w.heap.size w w' := by
  have HPS := hide hps; clear hps
  have HLD := hide (lead3 hc ht hs)
  clear hc ht hs
  have hN : (n : Int) = (n : Int) := rfl
  have HH0 := ((Holds.start w).blk (fv n c t s) 53 w.heap.size rfl).blk (iv fun _ => 0) 88 (w.heap.size + 1) (by simp)
  rw [iv_zero] at HH0
  rw [← iv_zero] at HH0
  have C1 := hide fun w => corner_any n c t s w
  have C2 := hide fun w => turn_any n c t s w
  have C3 := hide fun w => side_any n c t s w
  go_enter Try.func67, Try.ntmps67
  go_wp2
  refine wp_scope_two 0 1 (cJ1 n c t s w) (cJ2 n c t s w) cM1 cM2 (by rfl) (by rfl) 166 ?_ ?_ ?_
  · intro p1
    refine wp_seq_k fun K hK => ?_
    rw [clsZ]
    apply Rd.region_R1 (w0 := w) [pBlk (w.heap.size + 1) (iv fun _ => 0) 88, pBlk w.heap.size (fv n c t s) 53] [pBlk (w.heap.size + 1) (iv fun _ => 0) 88, pBlk w.heap.size (fv n c t s) 53] [7, 8] (.q 0 <| .q 1 <| .q 2 <| .q 3 <| .q 4 <| .q 5 <| .q 6 <| .s1 7 <| .s1 8 .fin) HH0 (.refl _) (by kernel_rfl) (by kernel_rfl) (by kernel_rfl) (F := fun (k4 : Nat) => pBlk k4 #[swV c, swV t, swV s] 124 :: [pBlk (w.heap.size + 1) (iv fun _ => 0) 88, pBlk w.heap.size (fv n c t s) 53])
    case h =>
      intro K2 key
      iterate 1
        apply Rd.v_q
        · simp only [List.getElem?_toArray, List.getElem?_cons_zero, List.getElem?_cons_succ]; exact rfl
        · rfl
        · go_simp
        · intro wx hx
          have q0 := hx.cells 1 rfl
          unfold atG
          go_simp
          simp only [uponG]
          exact ⟨by trivial, rfl⟩
      iterate 1
        apply Rd.v_q
        · simp only [List.getElem?_toArray, List.getElem?_cons_zero, List.getElem?_cons_succ]; exact rfl
        · rfl
        · go_simp
        · intro wx hx
          have q0 := hx.cells 1 rfl
          unfold atG
          go_simp
          simp only [uponG]
          exact ⟨by trivial, C1.out wx⟩
      iterate 1
        apply Rd.v_q
        · simp only [List.getElem?_toArray, List.getElem?_cons_zero, List.getElem?_cons_succ]; exact rfl
        · rfl
        · go_simp
        · intro wx hx
          have q0 := hx.cells 1 rfl
          unfold atG
          go_simp
          simp only [uponG]
          exact ⟨by trivial, rfl⟩
      iterate 1
        apply Rd.v_q
        · simp only [List.getElem?_toArray, List.getElem?_cons_zero, List.getElem?_cons_succ]; exact rfl
        · rfl
        · go_simp
        · intro wx hx
          have q0 := hx.cells 1 rfl
          unfold atG
          go_simp
          simp only [uponG]
          exact ⟨by trivial, C2.out wx⟩
      iterate 1
        apply Rd.v_q
        · simp only [List.getElem?_toArray, List.getElem?_cons_zero, List.getElem?_cons_succ]; exact rfl
        · rfl
        · go_simp
        · intro wx hx
          have q0 := hx.cells 1 rfl
          unfold atG
          go_simp
          simp only [uponG]
          exact ⟨by trivial, rfl⟩
      iterate 1
        apply Rd.v_q
        · simp only [List.getElem?_toArray, List.getElem?_cons_zero, List.getElem?_cons_succ]; exact rfl
        · rfl
        · go_simp
        · intro wx hx
          have q0 := hx.cells 1 rfl
          unfold atG
          go_simp
          simp only [uponG]
          exact ⟨by trivial, C3.out wx⟩
      iterate 1
        apply Rd.v_q
        · simp only [List.getElem?_toArray, List.getElem?_cons_zero, List.getElem?_cons_succ]; exact rfl
        · rfl
        · go_simp
        · intro wx hx
          have q0 := hx.cells 1 rfl
          unfold atG
          go_simp
          simp only [uponG]
          exact ⟨by trivial, rfl⟩
      refine Rd.v_box #[.nilIface, .nilIface, .nilIface] 124 (by simp only [List.getElem?_toArray, List.getElem?_cons_zero, List.getElem?_cons_succ]; exact rfl) rfl (by go_simp) (fun wx hx hD => by go_simp) fun g4 => ?_
      refine Rd.v_put 0 g4 #[.nilIface, .nilIface, .nilIface] #[swV c, swV t, swV s] 124 rfl (.cons _ (.refl _)) (by simp only [List.getElem?_toArray, List.getElem?_cons_zero, List.getElem?_cons_succ]; exact rfl) rfl (by go_simp) (fun wx hx hD => ?_) ?_
      · have rr := hD.rowOk 0 rfl (n := 3) rfl
        go_simp
      rintro w4 - hx4
      go_simp
      exact key g4 _ hx4
    case key =>
      intro g4 w4 H4
      refine hK _ _ ?_
      clear K hK HH0
      have p1 := hide p1
      have H5 := H4.blk (iv (pc (kset (fun _ => 0) 0 1))) 88 w4.heap.size rfl
      have H6 : Holds w _ (pBy (.slice (some ⟨w4.heap.size + 1, 0, none⟩) 1 1) [0] :: _) := H5.rowNew #[.int .u8 0] 5 1 1 (w4.heap.size + 1) (by simp) (by simp) (by decide)
      have H8 := hide (H6.sub (.cons_cons _ (.cons_cons _ (.cons_cons _ (.cons_cons _ (.cons _ (.refl _)))))))
      clear H5 H6
      go_wp2
      rename_i KK hKK
      refine wp_label (hKK _ _ ?_)
      clear hKK
      rw [clsOne]
      exact p1.out _ _ ⟨g4, w4.heap.size, 0, ([0], kset (fun _ => 0) 0 1), _, _, _, _, _, _, _, _, _, _, _, _, _, _, _, _, _, _, _, _, _, _, _, _, _, _, _, _, _, _, _, _, _, _, _, _, _, _, _, _, _, _, _, _, _, _, _, _, _, _, _, _, _, _, _, rfl, rfl, rfl, Nat.zero_le _, H8.out⟩ (by show 5 * (33 - 0) < 166; omega)
  · clear HH0 C1 C2 C3
    intro p2 a wr hJ
    have p2 := hide p2
    obtain ⟨gS, gC, k, S, v, kk, u8, u9, u10, u11, u12, u13, u14, u15, u16, u17, u18, u19, u20, u21, u22, u23, u24, u25, u26, u27, u28, u29, u30, u31, u32, u33, u34, u35, u36, u37, u38, u39, u40, u41, u42, u43, u44, u45, u46, u47, u48, u49, u50, u51, u52, u53, u54, u55, u56, u57, u58, u59, u60, rfl, rfl, hcb, hk, hH⟩ := hJ
    have hI := cb_inv HPS.out h0 k S hcb
    have hl := hI.length_le
    by_cases hlt : k < S.1.length
    · have hX : S.1[k]? = some S.1[k] := List.getElem?_eq_getElem hlt
      obtain ⟨g, c0, rfl, hg, hcell⟩ := hH.bys 0 rfl hlt
      generalize S.1[k] = X at *
      have hne : ¬ ((k : Int) = (S.1.length : Int)) := by omega
      have hlti : (k : Int) < (S.1.length : Int) := by omega
      have HC := hide (And.intro hcb (And.intro hX hH))
      clear hcb hX hH hI
      go_wp2
      rename_i KK hKK
      refine wp_label (hKK _ _ ?_)
      clear hKK
      exact p2.out _ _ _ ⟨gS, gC, k, 0, X, S, S, _, _, _, _, _, _, _, _, _, _, _, _, _, _, _, _, _, _, _, _, _, _, _, _, _, _, _, _, _, _, _, _, _, _, _, _, _, _, _, _, _, _, _, _, _, _, _, _, _, _, _, _, _, _, rfl, rfl, rfl, by omega, HC.out.1, HC.out.2.1, rfl, HC.out.2.2⟩ (by show 5 * (33 - ((k : Int) + 1).toNat) + 4 - (0 : Int).toNat < 5 * (33 - ((k : Int)).toNat); omega)
    · have hst := cb_stop hcb (show S.1.length ≤ k by omega) (show k ≤ 32 by omega)
      have hor : orB [c, t, s] = true := by unfold orB; rw [hst]; rfl
      obtain ⟨A, c0, rfl⟩ := hH.bysForm 0 rfl
      have hkl : S.1.length = k := by omega
      rw [hkl] at hH ⊢
      have q1 := hH.cells 1 rfl
      have r3 := hH.rowOk 3 rfl (iv_size _)
      have l3 := hH.lt 3 rfl
      have H2 := hide (hH.setRow 3 rfl (iv (pc S.2)))
      have HST := hide (And.intro hst hor)
      clear hI hcb hk hlt hkl hst hor hH
      go_wp2
      simp only [jmp2]
      exact res_agg2 aggI32 (iv_size _) rfl rfl rfl rfl (H2.out.at 3 rfl) ⟨pc S.2, by rw [HST.out.2]; rfl, fun S' e => by rw [HST.out.1] at e; obtain rfl := Option.some.inj e; rfl, H2.out.low⟩
  · clear HH0 C1 C2 C3
    intro a wr hJ
    obtain ⟨gS, gC, k, j, X, S, T, v, kk, jj, u10, u11, u12, u13, u14, u15, u16, u17, u18, u19, u20, u21, u22, u23, u24, u25, u26, u27, u28, u29, u30, u31, u32, u33, u34, u35, u36, u37, u38, u39, u40, u41, u42, u43, u44, u45, u46, u47, u48, u49, u50, u51, u52, u53, u54, u55, u56, u57, u58, u59, u60, rfl, rfl, rfl, hj, hcb, hX, hT, hH⟩ := hJ
    have hI := cb_inv HPS.out h0 k S hcb
    have hXm : X ∈ S.1 := List.mem_of_getElem? hX
    have hXn := hI.lt X hXm
    obtain ⟨hIT, hpre⟩ := cgo_inv HPS.out hI hXm j hj T hT
    have hkl : k < S.1.length := (List.getElem?_eq_some_iff.1 hX).1
    have hk32 : k < 32 := by have := hI.length_le; omega
    have hkT : k + 1 ≤ T.1.length := by have := hpre.length_le; omega
    have hTl : T.1.length ≤ 32 := by have := hIT.length_le; omega
    have hXT := hpre.subset hXm
    clear hpre hkl
    by_cases hj3 : j < 3
    rotate_left
    · obtain rfl : j = 3 := by omega
      have hnext := (cb_next hcb hX).trans hT
      have HN := hide (And.intro hnext hH)
      clear hnext hH hcb hX hT hI hIT hXm hXT
      go_wp2
      go_step3
      exact Or.inl ⟨rfl, ⟨gS, gC, k + 1, T, v, _, _, _, _, _, _, _, _, _, _, _, _, _, _, _, _, _, _, _, _, _, _, _, _, _, _, _, _, _, _, _, _, _, _, _, _, _, _, _, _, _, _, _, _, _, _, _, _, _, _, _, _, _, _, rfl, rfl, HN.out.1, hkT, HN.out.2⟩, by show 5 * (33 - ((k : Int) + 1).toNat) < 5 * (33 - ((k : Int) + 1).toNat) + 4 - (3 : Int).toNat; omega⟩
    obtain ⟨Y, hYe⟩ : ∃ Y, Y = [c, t, s].getD j id X := ⟨_, rfl⟩
    have hY : Y < n := by rw [hYe]; exact HPS.out j (by simpa using hj3) X hXn
    have hgo : cgo [c, t, s] S X (j + 1) = cadd T X Y := by
      show (cgo [c, t, s] S X j).bind _ = _
      rw [hT, hYe]; rfl
    obtain ⟨Ty, xv, Kf, rv, ev, mv, nv, cv, _, CV⟩ := HLD.out j (by simpa using hj3)
    have CY := hide (CV X (by omega)); clear CV
    rw [← hYe] at CY
    clear hYe
    have hcs := hH.cell 2 rfl (j := j) (v := .iface Ty xv) (by rw [← ev]; simp)
    have hY32 : Y < 32 := by omega
    have hX32 : X < 32 := by omega
    have hYi : (Y : Int) < 32 := by omega
    have hXi : (X : Int) < 32 := by omega
    have hji : (j : Int) < 3 := by omega
    have hjn : ¬ ((j : Int) = 3) := by omega
    have hx0 := (hIT.mem X).2 hXT
    have hx2 := hIT.le X
    have hy2 := hIT.le Y
    have HB := hide (And.intro hcb (And.intro hX hgo))
    clear ev hcb hX hgo hT hI hIT hXm hXT
    rcases (show T.2 X = 1 ∨ T.2 X = 2 by omega) with hx | hx
    · have HX := hide hx; clear hx hx0 hx2
      rcases (show T.2 Y = 0 ∨ T.2 Y = 1 ∨ T.2 Y = 2 by omega) with hy | hy | hy
      · have HY := hide hy; clear hy hy2
        go_wp2_with fail
        refine (CY.out _).mono ?_
        rintro e w1 ⟨rfl, hb⟩
        have hH1 := hH.call hb
        clear hb hH hcs
        have cY : w1.cell? ⟨gC, Y, none⟩ = some (.int .i64 (0)) := hH1.cell 1 rfl (pc_get T.2 hY32 HY.out)
        have cX : w1.cell? ⟨gC, X, none⟩ = some (.int .i64 (1)) := hH1.cell 1 rfl (pc_get T.2 hX32 HX.out)
        have f0 := hH1.frozen 1 rfl Y
        have hH2 := hH1.set 1 rfl Y (.int .i64 (sgn 2))
        rw [pc_set] at hH2
        have HH2 := hide (show Holds w (w1.setCell ⟨gC, Y, none⟩ (.int .i64 (-1))) [pBy v T.1, pBlk gC (iv (pc (kset T.2 Y 2))) 88, pBlk gS #[swV c, swV t, swV s] 124, pBlk (w.heap.size + 1) (iv fun _ => 0) 88] from hH2)
        clear hH1 hH2
        go_wp2_with (at_builtin; refine appBy (HH2.out.alloc _) 0 rfl w1.heap.size [Y] 5 ?_ ?_ rfl _ _ rfl rfl rfl ?_)
        · first | exact heap_at _ _ _ (by simp) | (have hq := Array.getElem?_eq_some_iff.1 (heap_at (w1.setCell ⟨gC, Y, none⟩ (.int .i64 (-1))) (.cells (bytesL [Y]).toArray 5) w1.heap.size (by simp)); exact hq.2)
        · first | (simp only [List.length_cons, List.length_nil]; omega) | omega
        intro v' w' h1
        clear f0 cX cY
        go_wp2
        go_step3
        exact Or.inr ⟨rfl, ⟨gS, gC, k, j + 1, X, S, (T.1 ++ [Y], kset T.2 Y 2), v', _, _, _, _, _, _, _, _, _, _, _, _, _, _, _, _, _, _, _, _, _, _, _, _, _, _, _, _, _, _, _, _, _, _, _, _, _, _, _, _, _, _, _, _, _, _, _, _, _, _, _, _, _, rfl, rfl, rfl, by omega, HB.out.1, HB.out.2.1, by rw [HB.out.2.2, cadd_new HY.out, HX.out], h1⟩, by show 5 * (33 - ((k : Int) + 1).toNat) + 4 - ((j : Int) + 1).toNat < 5 * (33 - ((k : Int) + 1).toNat) + 4 - ((j : Int)).toNat; omega⟩
      · have HY := hide hy; clear hy hy2
        go_wp2_with fail
        refine (CY.out _).mono ?_
        rintro e w1 ⟨rfl, hb⟩
        have hH1 := hH.call hb
        clear hb hH hcs
        have cY : w1.cell? ⟨gC, Y, none⟩ = some (.int .i64 (1)) := hH1.cell 1 rfl (pc_get T.2 hY32 HY.out)
        have cX : w1.cell? ⟨gC, X, none⟩ = some (.int .i64 (1)) := hH1.cell 1 rfl (pc_get T.2 hX32 HX.out)
        have hnn := cb_none (i := 32) ((cb_next HB.out.1 HB.out.2.1).trans (cgo_none (HB.out.2.2.trans (cadd_same (by rw [HY.out]; omega) (HY.out.trans HX.out.symm))) (show j + 1 ≤ 3 by omega))) (by omega)
        have hor : orB [c, t, s] = false := by unfold orB; rw [hnn]; rfl
        have r3 := hH1.rowOk 3 rfl (iv_size _)
        have H2 := hide (hH1.setRow 3 rfl (iv fun _ => 0))
        have HNN := hide (And.intro hnn hor)
        clear hnn hor hH1
        rw [iv_zero] at H2
        go_wp2
        simp only [jmp2]
        exact res_agg2 aggI32 rfl rfl rfl rfl rfl (H2.out.at 3 rfl) ⟨fun _ => 0, by rw [iv_zero, HNN.out.2]; rfl, fun S' e => (by rw [HNN.out.1] at e; cases e), H2.out.low⟩
      · have HY := hide hy; clear hy hy2
        go_wp2_with fail
        refine (CY.out _).mono ?_
        rintro e w1 ⟨rfl, hb⟩
        have hH1 := hH.call hb
        clear hb hH hcs
        have cY : w1.cell? ⟨gC, Y, none⟩ = some (.int .i64 (-1)) := hH1.cell 1 rfl (pc_get T.2 hY32 HY.out)
        have cX : w1.cell? ⟨gC, X, none⟩ = some (.int .i64 (1)) := hH1.cell 1 rfl (pc_get T.2 hX32 HX.out)
        have HH1 := hide hH1; clear hH1
        go_wp2
        go_step3
        exact Or.inr ⟨rfl, ⟨gS, gC, k, j + 1, X, S, T, v, _, _, _, _, _, _, _, _, _, _, _, _, _, _, _, _, _, _, _, _, _, _, _, _, _, _, _, _, _, _, _, _, _, _, _, _, _, _, _, _, _, _, _, _, _, _, _, _, _, _, _, _, _, rfl, rfl, rfl, by omega, HB.out.1, HB.out.2.1, by rw [HB.out.2.2, cadd_other (by rw [HY.out]; omega) (by rw [HY.out, HX.out]; omega)], HH1.out⟩, by show 5 * (33 - ((k : Int) + 1).toNat) + 4 - ((j : Int) + 1).toNat < 5 * (33 - ((k : Int) + 1).toNat) + 4 - ((j : Int)).toNat; omega⟩
    
    · have HX := hide hx; clear hx hx0 hx2
      rcases (show T.2 Y = 0 ∨ T.2 Y = 1 ∨ T.2 Y = 2 by omega) with hy | hy | hy
      · have HY := hide hy; clear hy hy2
        go_wp2_with fail
        refine (CY.out _).mono ?_
        rintro e w1 ⟨rfl, hb⟩
        have hH1 := hH.call hb
        clear hb hH hcs
        have cY : w1.cell? ⟨gC, Y, none⟩ = some (.int .i64 (0)) := hH1.cell 1 rfl (pc_get T.2 hY32 HY.out)
        have cX : w1.cell? ⟨gC, X, none⟩ = some (.int .i64 (-1)) := hH1.cell 1 rfl (pc_get T.2 hX32 HX.out)
        have f0 := hH1.frozen 1 rfl Y
        have hH2 := hH1.set 1 rfl Y (.int .i64 (sgn 1))
        rw [pc_set] at hH2
        have HH2 := hide (show Holds w (w1.setCell ⟨gC, Y, none⟩ (.int .i64 (1))) [pBy v T.1, pBlk gC (iv (pc (kset T.2 Y 1))) 88, pBlk gS #[swV c, swV t, swV s] 124, pBlk (w.heap.size + 1) (iv fun _ => 0) 88] from hH2)
        clear hH1 hH2
        go_wp2_with (at_builtin; refine appBy (HH2.out.alloc _) 0 rfl w1.heap.size [Y] 5 ?_ ?_ rfl _ _ rfl rfl rfl ?_)
        · first | exact heap_at _ _ _ (by simp) | (have hq := Array.getElem?_eq_some_iff.1 (heap_at (w1.setCell ⟨gC, Y, none⟩ (.int .i64 (1))) (.cells (bytesL [Y]).toArray 5) w1.heap.size (by simp)); exact hq.2)
        · first | (simp only [List.length_cons, List.length_nil]; omega) | omega
        intro v' w' h1
        clear f0 cX cY
        go_wp2
        go_step3
        exact Or.inr ⟨rfl, ⟨gS, gC, k, j + 1, X, S, (T.1 ++ [Y], kset T.2 Y 1), v', _, _, _, _, _, _, _, _, _, _, _, _, _, _, _, _, _, _, _, _, _, _, _, _, _, _, _, _, _, _, _, _, _, _, _, _, _, _, _, _, _, _, _, _, _, _, _, _, _, _, _, _, _, rfl, rfl, rfl, by omega, HB.out.1, HB.out.2.1, by rw [HB.out.2.2, cadd_new HY.out, HX.out], h1⟩, by show 5 * (33 - ((k : Int) + 1).toNat) + 4 - ((j : Int) + 1).toNat < 5 * (33 - ((k : Int) + 1).toNat) + 4 - ((j : Int)).toNat; omega⟩
      · have HY := hide hy; clear hy hy2
        go_wp2_with fail
        refine (CY.out _).mono ?_
        rintro e w1 ⟨rfl, hb⟩
        have hH1 := hH.call hb
        clear hb hH hcs
        have cY : w1.cell? ⟨gC, Y, none⟩ = some (.int .i64 (1)) := hH1.cell 1 rfl (pc_get T.2 hY32 HY.out)
        have cX : w1.cell? ⟨gC, X, none⟩ = some (.int .i64 (-1)) := hH1.cell 1 rfl (pc_get T.2 hX32 HX.out)
        have HH1 := hide hH1; clear hH1
        go_wp2
        go_step3
        exact Or.inr ⟨rfl, ⟨gS, gC, k, j + 1, X, S, T, v, _, _, _, _, _, _, _, _, _, _, _, _, _, _, _, _, _, _, _, _, _, _, _, _, _, _, _, _, _, _, _, _, _, _, _, _, _, _, _, _, _, _, _, _, _, _, _, _, _, _, _, _, _, rfl, rfl, rfl, by omega, HB.out.1, HB.out.2.1, by rw [HB.out.2.2, cadd_other (by rw [HY.out]; omega) (by rw [HY.out, HX.out]; omega)], HH1.out⟩, by show 5 * (33 - ((k : Int) + 1).toNat) + 4 - ((j : Int) + 1).toNat < 5 * (33 - ((k : Int) + 1).toNat) + 4 - ((j : Int)).toNat; omega⟩
      · have HY := hide hy; clear hy hy2
        go_wp2_with fail
        refine (CY.out _).mono ?_
        rintro e w1 ⟨rfl, hb⟩
        have hH1 := hH.call hb
        clear hb hH hcs
        have cY : w1.cell? ⟨gC, Y, none⟩ = some (.int .i64 (-1)) := hH1.cell 1 rfl (pc_get T.2 hY32 HY.out)
        have cX : w1.cell? ⟨gC, X, none⟩ = some (.int .i64 (-1)) := hH1.cell 1 rfl (pc_get T.2 hX32 HX.out)
        have hnn := cb_none (i := 32) ((cb_next HB.out.1 HB.out.2.1).trans (cgo_none (HB.out.2.2.trans (cadd_same (by rw [HY.out]; omega) (HY.out.trans HX.out.symm))) (show j + 1 ≤ 3 by omega))) (by omega)
        have hor : orB [c, t, s] = false := by unfold orB; rw [hnn]; rfl
        have r3 := hH1.rowOk 3 rfl (iv_size _)
        have H2 := hide (hH1.setRow 3 rfl (iv fun _ => 0))
        have HNN := hide (And.intro hnn hor)
        clear hnn hor hH1
        rw [iv_zero] at H2
        go_wp2
        simp only [jmp2]
        exact res_agg2 aggI32 rfl rfl rfl rfl rfl (H2.out.at 3 rfl) ⟨fun _ => 0, by rw [iv_zero, HNN.out.2]; rfl, fun S' e => (by rw [HNN.out.1] at e; cases e), H2.out.low⟩
end Go.Proofs.Yteeideminlcblaa

