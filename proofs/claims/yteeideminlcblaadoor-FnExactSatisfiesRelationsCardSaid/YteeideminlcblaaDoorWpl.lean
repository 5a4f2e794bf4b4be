/- WordPlaces: the numbers of letters; the program's wordPlaces. -/
import Derived.Test.YteeideminlcblaaDoorInl
import Derived.Test.YteeideminlcblaaDoorRdw
import Derived.Test.YteeideminlcblaaDoorExc
import Derived.Test.YteeideminlcblaaDoorPF
import Derived.Test.YteeideminlcblaaDoorHS3
namespace Go.Proofs.YteeideminlcblaaDoor
open Go.RowKit

/-- where a letter leads -/
def stL (f g : Nat → Nat) (m c : Nat) : Nat → Nat := if c = 120 then f else if c = 88 then backF f m else if c = 121 then g else backF g m
def wplK (f g : Nat → Nat) (m : Nat) (l : List Nat) (k : Nat) : Nat → Nat := (l.take k).foldl (fun v c => thenF v (stL f g m c) m) (sameF m)
def wplF (f g : Nat → Nat) (m : Nat) (l : List Nat) : Nat → Nat := l.foldl (fun v c => thenF v (stL f g m c) m) (sameF m)
theorem wplK_zero (f g : Nat → Nat) (m : Nat) (l : List Nat) : wplK f g m l 0 = sameF m := by unfold wplK; simp
theorem wplK_succ (f g : Nat → Nat) (m : Nat) (l : List Nat) {k : Nat} (h : k < l.length) : wplK f g m l (k + 1) = thenF (wplK f g m l k) (stL f g m l[k]) m := by
  unfold wplK
  rw [List.take_succ_eq_append_getElem h, List.foldl_append]
  rfl
theorem wplK_end (f g : Nat → Nat) (m : Nat) (l : List Nat) : wplK f g m l l.length = wplF f g m l := by unfold wplK wplF; rw [List.take_length]
theorem stL_perm {f g : Nat → Nat} {m : Nat} (hf : PermN f m) (hg : PermN g m) (c : Nat) : PermN (stL f g m c) m := by
  unfold stL
  split
  · exact hf
  split
  · exact backF_perm hf
  split
  · exact hg
  · exact backF_perm hg
theorem sameF_perm8 {m : Nat} (h1 : 1 ≤ m) (hm : m ≤ 16) : PermN (sameF m) m := by
  have e : ∀ x, x < m → sameF m x = x := fun x hx => by unfold sameF upto; rw [if_pos hx]
  refine ⟨h1, hm, ⟨fun x hx => by rw [e x hx]; exact hx, fun x y hx hy h => by rwa [e x hx, e y hy] at h⟩, fun i hi _ => by unfold sameF upto; rw [if_neg (by omega)]⟩
theorem wplK_perm {f g : Nat → Nat} {m : Nat} (hf : PermN f m) (hg : PermN g m) (l : List Nat) (k : Nat) (hk : k ≤ l.length) : PermN (wplK f g m l k) m := by
  induction k with
  | zero => rw [wplK_zero]; exact sameF_perm8 hf.1 hf.2.1
  | succ k ih => rw [wplK_succ _ _ _ _ (by omega)]; exact thenF_perm (ih (by omega)) (stL_perm hf hg _)
theorem numL_lt (c : Nat) : numL c < 4 := by unfold numL; split; omega; split; omega; split <;> omega
theorem stL_num {f g : Nat → Nat} {m c : Nat} (hc : isL c = true) (h : numL c < [f, backF f m, g, backF g m].length) : ([f, backF f m, g, backF g m][numL c]'h) = stL f g m c := by
  rcases isL_cases hc with rfl | rfl | rfl | rfl <;> rfl

theorem numL_list (s : ByteArray) : ∃ N : List Nat, N = (lts s).map numL ∧ N.length = s.size ∧ ∀ (i : Nat) (hi : i < s.size) (h : i < N.length), N[i] = numL ((s[i]'hi).toNat) :=
  ⟨_, rfl, by rw [List.length_map, lts_length], fun i hi h => by rw [List.getElem_map, lts_get s hi]⟩
/-- numbers of the type int -/
def pIn (v : Value) (l : List Nat) : Part := pRow v 3 1 l.length (nums l)
theorem infoIn : (Tryd.prog.info? 3).map (fun i => (i.zero, i.size, i.bytes)) = some (some (.int .i64 0), 1, 8) := by kernel_rfl
def upN (l : List Nat) (k : Nat) : List Nat := l.take k ++ List.replicate (l.length - k) 0
theorem upN_len (l : List Nat) {k : Nat} (h : k ≤ l.length) : (upN l k).length = l.length := by unfold upN; simp; omega
theorem upN_set (l : List Nat) {k : Nat} (h : k < l.length) : (upN l k).set k l[k] = upN l (k + 1) := by
  unfold upN
  have e : (l.take k).length = k := by rw [List.length_take]; omega
  rw [List.set_append_right _ _ (by omega), e, Nat.sub_self, show l.length - k = (l.length - (k + 1)) + 1 from by omega, List.replicate_succ, List.set_cons_zero, List.take_succ_eq_append_getElem h, List.append_assoc]
  rfl
theorem upN_end (l : List Nat) : upN l l.length = l := by unfold upN; simp
theorem nums_zero (n : Nat) : List.replicate n (Value.int .i64 0) = nums (List.replicate n 0) := by unfold nums; rw [List.map_replicate]; rfl
theorem upN_zero (l : List Nat) : upN l 0 = List.replicate l.length 0 := by unfold upN; simp
theorem nums_set (l : List Nat) (i x : Nat) : (nums l).set i (.int .i64 (x : Nat)) = nums (l.set i x) := by unfold nums; rw [List.map_set]
theorem Holds.inAt {w0 w : World} {L : List Part} (h : Holds w0 w L) (i : Nat) {g n c : Nat} {l : List Nat} (hi : L[i]? = some (pIn (.slice (some ⟨g, 0, none⟩) n c) l)) {k : Nat} (hk : k < l.length) :
    w.cell? ⟨g, k, none⟩ = some (.int .i64 (l[k] : Nat)) ∧ w.frozen? ⟨g, k, none⟩ = false := by
  obtain ⟨g', c', e, _, _, _, _, h6, h7⟩ := row_at (h.row i hi) (by omega : 0 < l.length)
  simp only [Value.slice.injEq, Option.some.injEq, Addr.mk.injEq] at e
  obtain ⟨⟨rfl, _, _⟩, _, _⟩ := e
  exact ⟨h6 k _ (nums_at hk), h7 k⟩
set_option maxRecDepth 100000 in
set_option maxHeartbeats 2000000 in
theorem letterNumbers_any (s : ByteArray) (hs : s.size ≤ 100000) (hl : ∀ x ∈ lts s, isL x = true) (w : World) :
    Calls Tryd.prog 57 #[.string s] w fun e w' => ∃ g, e = .returned (.slice (some ⟨g, 0, none⟩) s.size s.size) ∧ Holds w w' [pIn (.slice (some ⟨g, 0, none⟩) s.size s.size) ((lts s).map numL)] := by
  obtain ⟨i2, hi, hz0, hz1, hz2⟩ := info_parts infoIn
  have I2 := hide (And.intro hi (And.intro hz0 (And.intro hz1 hz2))); clear hi hz0 hz1 hz2
  have HLS := hide (fun (i : Nat) (hi : i < s.size) => show isL ((s[i]'hi).toNat) = true by rw [← lts_get s hi]; exact hl _ (List.getElem_mem _))
  clear hl
  obtain ⟨N, hN, hNl, hNa⟩ := numL_list s
  rw [← hN]
  have NAT := hide hNa; clear hNa hN
  have NLE := hide hNl; clear hNl
  have H0 := Holds.start w
  go_enter Tryd.func57, Tryd.ntmps57
  go_wp2_with (refine makeH (P := Tryd.prog) rfl 67 _ _ rfl 3 i2 (.int .i64 0) 8 Tryd.underlying67 I2.out.1 I2.out.2.1 I2.out.2.2.1 I2.out.2.2.2 rfl s.size .i64 .i64 rfl rfl (by omega) (by decide) H0 ?_)
  intro w1 H1
  generalize w.heap.size = G at *
  have H2 : Holds w w1 [pRow (.slice (some ⟨G, 0, none⟩) s.size s.size) 3 1 s.size (nums (upN N 0))] := by rw [upN_zero, NLE.out, ← nums_zero]; exact H1
  clear H1 H0
  go_wp2
  go_loopw [10] (fun t wr => ∃ i : Nat, i ≤ s.size ∧ t = .int .i64 i ∧ Holds w wr [pRow (.slice (some ⟨G, 0, none⟩) s.size s.size) 3 1 s.size (nums (upN N i))]) (fun t _ => s.size - (intOf t).toNat)
  case atStart => exact ⟨0, Nat.zero_le _, rfl, H2⟩
  case round =>
    clear H2
    obtain ⟨i, hi, rfl, hH⟩ := hrel
    by_cases hlt : i < s.size
    · have hlti : (i : Int) < (s.size : Int) := by omega
      have hix := letU8 s hlt
      have hLc := HLS.out i hlt
      have hna := NAT.out i hlt (by have := NLE.out; omega)
      have hset := upN_set N (k := i) (by have := NLE.out; omega)
      have hxl : i < (upN N i).length := by rw [upN_len _ (by have := NLE.out; omega)]; have := NLE.out; omega
      have hfr : wr.frozen? ⟨G, i, none⟩ = false ∧ ∃ u, wr.cell? ⟨G, i, none⟩ = some u := by
        obtain ⟨g', c', e, _, _, _, _, h6, h7⟩ := row_at (hH.row 0 rfl) (by omega : 0 < s.size)
        simp only [Value.slice.injEq, Option.some.injEq, Addr.mk.injEq] at e
        obtain ⟨⟨rfl, _, _⟩, _, _⟩ := e
        exact ⟨h7 i, _, h6 i _ (nums_at hxl)⟩
      obtain ⟨f1, u1, c1⟩ := hfr
      obtain ⟨c, hc⟩ : ∃ c, c = (s[i]'hlt).toNat := ⟨_, rfl⟩
      rw [← hc] at hLc hix hna
      rw [hna] at hset
      clear hc hna
      have CI := hide fun w => letterNumber_any c hLc w
      have h1 := hH.put 0 rfl i (.int .i64 (numL c : Nat))
      rw [nums_set, hset] at h1
      have HP := hide h1; clear h1 hset hLc hxl hH
      generalize numL c = y at *
      go_wp2_with fail
      refine (CI.out _).mono ?_
      rintro e w1 ⟨rfl, rfl⟩
      go_wp2
      go_roundw
      case rel => exact ⟨i + 1, by omega, by go_num, HP.out⟩
      case measure => simp [intOf]; omega
    · obtain rfl : i = s.size := by omega
      have hE : upN N s.size = N := by rw [← NLE.out]; exact upN_end N
      rw [hE] at hH
      have HL := NLE.out
      clear hE
      clear hlt hi
      go_wp2
      go_ret
      refine ⟨G, rfl, ?_⟩
      unfold pIn
      rw [HL]
      exact hH
theorem aggX4 : AggT 66 64 := ⟨⟨_, Tryd.underlying66, rfl⟩, by kernel_rfl⟩
@[go_sem] theorem pv_size4 (a b c d : Nat → Nat) : IsN 64 (pv [a, b, c, d]) ↔ True := ⟨fun _ => trivial, fun _ => pv_size _⟩
@[go_sem ↓] theorem exec_storeX4 (ρ : Operand → Value) (dst : Option Tmp) (x y : Operand) (ty : TypeId) (pos : String) (after : Array Edge) (guard : Option (Nat × Bool)) : execOp ρ { dst, op := .store 66 x y, type := ty, pos, after, guard } = storeT 66 (ρ x) (ρ y) := rfl
@[go_sem] theorem run_storeX4 {w : World} {g : Nat} {cs : Array Value} (h : rowOk w g 64) (hs : IsN 64 cs) (hc : Ones cs) : (storeT 66 (.pointer (some ⟨g, 0, none⟩)) (.agg cs)).run Tryd.prog w = .ok .skip (w.setRow g cs) := run_storeT aggX4 h hs hc
set_option maxRecDepth 100000 in
theorem builtX4 (a b c d : Nat → Nat) : Tryd.prog.built 66 [(0, .agg (av a)), (1, .agg (av b)), (2, .agg (av c)), (3, .agg (av d))] = some (pv [a, b, c, d]) := by
  have h := built_arr (P := Tryd.prog) (T := 66) (n := 4) (E := 28) (s := 16) (N := 64) Tryd.underlying66 (by kernel_rfl) (by kernel_rfl) [(0, .agg (av a)), (1, .agg (av b)), (2, .agg (av c)), (3, .agg (av d))] (by simp [Fits, Value.cells, av_size, pv_size]) (by simp [flatC, Value.cells, av_size, pv_size])
  rw [h]
  unfold flatC
  simp only [List.flatMap_cons, List.flatMap_nil, Value.cells, pv_list]
  unfold pv plB
  simp only [List.flatMap_cons, List.flatMap_nil, List.append_nil, List.append_assoc]
def buildX4 (ps : Array (Nat × Value)) : Sem Next := do pure (.value (← Instr.build 66 ps))
@[go_sem ↓] theorem exec_buildX4 (ρ : Operand → Value) (dst : Option Tmp) (parts : Array (Nat × Operand)) (ty : TypeId) (pos : String) (after : Array Edge) (guard : Option (Nat × Bool)) :
    execOp ρ { dst, op := .build 66 parts, type := ty, pos, after, guard } = buildX4 (parts.map fun (i, x) => (i, ρ x)) := rfl
@[go_sem] theorem run_buildX4 (a b c d : Nat → Nat) (w : World) : (buildX4 #[(0, .agg (av a)), (1, .agg (av b)), (2, .agg (av c)), (3, .agg (av d))]).run Tryd.prog w = .ok (.value (.agg (pv [a, b, c, d]))) w := by
  simp only [buildX4, Sem.run_bind, run_build (P := Tryd.prog) w 66 #[(0, .agg (av a)), (1, .agg (av b)), (2, .agg (av c)), (3, .agg (av d))] _ (builtX4 a b c d), Result.andThen_ok, Sem.run_pure]
set_option maxRecDepth 100000 in
theorem pv_zero4 : pv [fun _ => 0, fun _ => 0, fun _ => 0, fun _ => 0] = #[Value.int .u8 0, Value.int .u8 0, Value.int .u8 0, Value.int .u8 0, Value.int .u8 0, Value.int .u8 0, Value.int .u8 0, Value.int .u8 0, Value.int .u8 0, Value.int .u8 0, Value.int .u8 0, Value.int .u8 0, Value.int .u8 0, Value.int .u8 0, Value.int .u8 0, Value.int .u8 0, Value.int .u8 0, Value.int .u8 0, Value.int .u8 0, Value.int .u8 0, Value.int .u8 0, Value.int .u8 0, Value.int .u8 0, Value.int .u8 0, Value.int .u8 0, Value.int .u8 0, Value.int .u8 0, Value.int .u8 0, Value.int .u8 0, Value.int .u8 0, Value.int .u8 0, Value.int .u8 0, Value.int .u8 0, Value.int .u8 0, Value.int .u8 0, Value.int .u8 0, Value.int .u8 0, Value.int .u8 0, Value.int .u8 0, Value.int .u8 0, Value.int .u8 0, Value.int .u8 0, Value.int .u8 0, Value.int .u8 0, Value.int .u8 0, Value.int .u8 0, Value.int .u8 0, Value.int .u8 0, Value.int .u8 0, Value.int .u8 0, Value.int .u8 0, Value.int .u8 0, Value.int .u8 0, Value.int .u8 0, Value.int .u8 0, Value.int .u8 0, Value.int .u8 0, Value.int .u8 0, Value.int .u8 0, Value.int .u8 0, Value.int .u8 0, Value.int .u8 0, Value.int .u8 0, Value.int .u8 0] := by unfold pv plB av row; rfl
set_option maxRecDepth 100000 in
set_option maxHeartbeats 2000000 in
theorem wordPlaces_any (m : Nat) (f g : Nat → Nat) (hd : DesN f g m) (s : ByteArray) (hs : s.size ≤ 100000) (hl : ∀ x ∈ lts s, isL x = true) (w : World) :
    Calls Tryd.prog 33 #[.agg (dv m f g), .string s] w fun e w' => e = .returned (.agg (av (wplF f g m (lts s)))) ∧ Below w.heap.size w w' := by
  have hm := hd.le
  have hm1 := hd.pos
  have lt16 : ∀ {q : Nat → Nat}, PermN q m → ∀ i, i < m → q i < 16 := fun h i hi => by have := h.lt i (by have := h.2.1; omega); omega
  have CB := hide fun w => undo_any f m hm (lt16 hd.black) w
  have CW := hide fun w => undo_any g m hm (lt16 hd.white) w
  have CS := hide fun w => stay_any m hm w
  have CN := hide fun w => letterNumbers_any s hs hl w
  have HLS := hide (fun (i : Nat) (hi : i < s.size) => show isL ((s[i]'hi).toNat) = true by rw [← lts_get s hi]; exact hl _ (List.getElem_mem _))
  obtain ⟨F, F0, FS, FE⟩ : ∃ F : Nat → (Nat → Nat), Hid (F 0 = sameF m) ∧ Hid (∀ k (h : k < s.size), F (k + 1) = thenF (F k) (stL f g m (s[k]'h).toNat) m) ∧ Hid (wplF f g m (lts s) = F s.size ∧ ∀ k, k ≤ s.size → PermN (F k) m) :=
    ⟨wplK f g m (lts s), hide (wplK_zero _ _ _ _), hide fun k h => by rw [wplK_succ _ _ _ (lts s) (by rw [lts_length]; exact h), lts_get s h], hide ⟨by rw [← lts_length s, wplK_end], fun k hk => wplK_perm hd.black hd.white _ k (by rw [lts_length]; exact hk)⟩⟩
  have CF := hide (fun (k : Nat) (hk : k ≤ s.size) (q : Nat → Nat) (w : World) => follow_any (F k) q m hm (lt16 (FE.out.2 k hk)) w)
  have NUM := hide (fun (i : Nat) (hi : i < s.size) => show ∃ y, numL ((s[i]'hi).toNat) = y ∧ y < 4 ∧ ∀ h : y < [f, backF f m, g, backF g m].length, ([f, backF f m, g, backF g m][y]'h) = stL f g m (s[i]'hi).toNat from ⟨_, rfl, numL_lt _, stL_num (HLS.out i hi)⟩)
  obtain ⟨N, hN, hNl, hNa⟩ := numL_list s
  rw [← hN] at CN
  have NAT := hide hNa; clear hNa hN
  have NLE := hide hNl; clear hNl
  rw [FE.out.1]
  clear hd hl lt16
  have hn := dv_n m f g
  have H0 := ((Holds.start w).blk (dv m f g) 32 w.heap.size rfl).blk (av fun _ => 0) 28 (w.heap.size + 1) (by simp)
  rw [av_zero] at H0
  go_enter Tryd.func33, Tryd.ntmps33
  go_wp2
  rw [← av_zero] at H0 ⊢
  refine Rd.region_P (w0 := w) [pBlk (w.heap.size + 1) (av fun _ => 0) 28, pBlk w.heap.size (dv m f g) 32] [pBlk (w.heap.size + 1) (av fun _ => 0) 28, pBlk w.heap.size (dv m f g) 32] [13, 14] (.q 0 <| .q 1 <| .q 2 <| .q 3 <| .q 4 <| .q 5 <| .q 6 <| .q 7 <| .q 8 <| .q 9 <| .q 10 <| .q 11 <| .q 12 <| .s1 13 <| .s1 14 .fin) H0 (.refl _) (by kernel_rfl) (by kernel_rfl) (by kernel_rfl) ?_
  iterate 5
    apply Rd.v_q
    · simp only [List.getElem?_toArray, List.getElem?_cons_zero, List.getElem?_cons_succ]; exact rfl
    · rfl
    · go_simp
    · intro wx hx
      have q1 := hx.cell 1 rfl hn
      have q2 := hx.cells 1 rfl
      unfold atG
      go_simp
      simp only [uponG]
      exact ⟨by trivial, rfl⟩
  iterate 1
    apply Rd.v_q
    · simp only [List.getElem?_toArray, List.getElem?_cons_zero, List.getElem?_cons_succ]; exact rfl
    · rfl
    · go_simp
    · intro wx hx
      have q1 := hx.cell 1 rfl hn
      have q2 := hx.cells 1 rfl
      unfold atG
      go_simp
      simp only [uponG]
      exact ⟨by trivial, CB.out wx⟩
  iterate 5
    apply Rd.v_q
    · simp only [List.getElem?_toArray, List.getElem?_cons_zero, List.getElem?_cons_succ]; exact rfl
    · rfl
    · go_simp
    · intro wx hx
      have q1 := hx.cell 1 rfl hn
      have q2 := hx.cells 1 rfl
      unfold atG
      go_simp
      simp only [uponG]
      exact ⟨by trivial, rfl⟩
  iterate 1
    apply Rd.v_q
    · simp only [List.getElem?_toArray, List.getElem?_cons_zero, List.getElem?_cons_succ]; exact rfl
    · rfl
    · go_simp
    · intro wx hx
      have q1 := hx.cell 1 rfl hn
      have q2 := hx.cells 1 rfl
      unfold atG
      go_simp
      simp only [uponG]
      exact ⟨by trivial, CW.out wx⟩
  iterate 1
    apply Rd.v_q
    · simp only [List.getElem?_toArray, List.getElem?_cons_zero, List.getElem?_cons_succ]; exact rfl
    · rfl
    · go_simp
    · intro wx hx
      have q1 := hx.cell 1 rfl hn
      have q2 := hx.cells 1 rfl
      unfold atG
      go_simp
      simp only [uponG]
      exact ⟨by trivial, rfl⟩
  generalize backF f m = bf at *
  generalize backF g m = bg at *
  refine Rd.v_box (pv [fun _ => 0, fun _ => 0, fun _ => 0, fun _ => 0]) 66 (by simp only [List.getElem?_toArray, List.getElem?_cons_zero, List.getElem?_cons_succ]; exact rfl) rfl (by go_simp) (fun wx hx hD => by rw [pv_zero4]; go_simp) fun g6 => ?_
  refine Rd.v_put 0 g6 (pv [fun _ => 0, fun _ => 0, fun _ => 0, fun _ => 0]) (pv [f, bf, g, bg]) 66 rfl (.cons _ (.refl _)) (by simp only [List.getElem?_toArray, List.getElem?_cons_zero, List.getElem?_cons_succ]; exact rfl) rfl (by go_simp) (fun wx hx hD => ?_) ?_
  · have rr := hD.rowOk (n := 64) 0 rfl (pv_size _)
    go_simp
  rintro w4 - H4
  clear H0
  simp only [List.set_cons_zero] at H4
  go_simp
  go_wp2_with fail
  refine (CS.out _).mono ?_
  rintro e w5 ⟨rfl, hb⟩
  have H5 := (H4.call hb).blk (av (sameF m)) 28 w5.heap.size rfl
  have Hz := (H4.call hb).blk (av fun _ => 0) 28 w5.heap.size rfl
  have rrz := Hz.rowOk 0 rfl (av_size _)
  rw [av_zero] at rrz
  clear hb H4 Hz
  go_wp2_with fail
  generalize hG7 : w5.heap.size = G7 at *
  refine (CN.out _).mono ?_
  rintro e w6 ⟨gn, rfl, hb⟩
  have H6 := (H5.joinL hb).perm List.perm_append_comm
  clear hb H5
  go_wp2
  go_loopw [30] (fun t wr => ∃ i : Nat, i ≤ s.size ∧ t = .int .i64 i ∧ Holds w wr (pIn (.slice (some ⟨gn, 0, none⟩) s.size s.size) N :: pBlk G7 (av (F i)) 28 :: pBlk g6 (pv [f, bf, g, bg]) 66 :: [pBlk (w.heap.size + 1) (av fun _ => 0) 28, pBlk w.heap.size (dv m f g) 32])) (fun t _ => s.size - (intOf t).toNat)
  case atStart => exact ⟨0, Nat.zero_le _, rfl, by rw [F0.out]; exact H6⟩
  case round =>
    clear H6
    obtain ⟨i, hi, rfl, hH⟩ := hrel
    by_cases hlt : i < s.size
    · have hlti : (i : Int) < (s.size : Int) := by omega
      have hst := FS.out i hlt
      obtain ⟨y, hy, h4, hnm⟩ := NUM.out i hlt
      have hna := NAT.out i hlt (by rw [NLE.out]; exact hlt)
      obtain ⟨c1, _⟩ := hH.inAt 0 rfl (show i < N.length by rw [NLE.out]; exact hlt)
      rw [hna, hy] at c1
      clear hna hy
      generalize stL f g m ((s[i]'hlt).toNat) = p at hst hnm
      have CFO := hide (CF.out i hi p)
      have HST := hide hst; clear hst
      have PL := hide (fun (wx : World) (h : cellsOf wx g6 = pv [f, bf, g, bg]) => show (loadT 28 (.pointer (some ⟨g6, y * 16, none⟩))).run Tryd.prog wx = .ok (.value (.agg (av p))) wx by
        rw [pv_load h y (y * 16) (by simpa using h4) rfl, hnm (by simpa using h4)])
      clear hnm
      generalize hFi : F i = v at *
      clear hFi
      have hyi : (y : Int) < 4 := by omega
      go_wp2
      clear c1
      refine Rd.region_PT (w0 := w) [pIn (.slice (some ⟨gn, 0, none⟩) s.size s.size) N, pBlk G7 (av v) 28, pBlk g6 (pv [f, bf, g, bg]) 66, pBlk (w.heap.size + 1) (av fun _ => 0) 28, pBlk w.heap.size (dv m f g) 32] [pIn (.slice (some ⟨gn, 0, none⟩) s.size s.size) N, pBlk G7 (av v) 28, pBlk g6 (pv [f, bf, g, bg]) 66, pBlk (w.heap.size + 1) (av fun _ => 0) 28, pBlk w.heap.size (dv m f g) 32] [] 6 (.q 0 <| .q 1 <| .q 2 <| .q 3 <| .q 4 <| .q 5 .fin) hH (.refl _) (by kernel_rfl) (by kernel_rfl) ?_
      iterate 5
        apply Rd.v_q
        · simp only [List.getElem?_toArray, List.getElem?_cons_zero, List.getElem?_cons_succ]; exact rfl
        · rfl
        · go_simp
        · intro wx hx
          have q1 := hx.cells 1 rfl
          have q2 := PL.out wx (hx.cells 2 rfl)
          unfold atG
          go_simp
          simp only [uponG]
          exact ⟨by trivial, rfl⟩
      iterate 1
        apply Rd.v_q
        · simp only [List.getElem?_toArray, List.getElem?_cons_zero, List.getElem?_cons_succ]; exact rfl
        · rfl
        · go_simp
        · intro wx hx
          have q1 := hx.cells 1 rfl
          have q2 := PL.out wx (hx.cells 2 rfl)
          unfold atG
          go_simp
          simp only [uponG]
          exact ⟨by trivial, CFO.out wx⟩
      rintro w7 - H7
      go_simp
      have rr := H7.rowOk (n := 16) 1 rfl (av_size _)
      have H8 := H7.setRow 1 rfl (av (thenF v p m))
      clear hH H7
      go_wp2
      go_roundw
      case rel => exact ⟨i + 1, by omega, by go_num, by rw [HST.out]; exact H8⟩
      case measure => simp [intOf]; omega
    · obtain rfl : i = s.size := by omega
      have d7 := hH.cells 1 rfl
      have rr := hH.rowOk (n := 16) 3 rfl (av_size _)
      have H8 := hH.setRow 3 rfl (av (F s.size))
      clear hlt hi
      go_wp2
      exact res_agg (p := 4) (g := w.heap.size + 1) aggP (av_size _) rfl rfl rfl (H8.at 3 rfl) ⟨rfl, H8.low⟩
end Go.Proofs.YteeideminlcblaaDoor
