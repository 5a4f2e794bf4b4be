/- slices.Repeat of one number. -/
import Derived.Test.YtpkfjdaedaplfaaFrc
import Derived.Test.YtpkfjdaedaplfaaFrb
import Derived.Test.YtpkfjdaedaplfaaRegD
import Derived.Laws.CopyOwn
import Derived.Deep.RegionLaw
namespace Go.Proofs.Ytpkfjdaedaplfaa
open Go.RowKit

theorem bits_one : bits .and .u64 1 4294967295 = 1 := by decide
theorem bits_n (n : Nat) (hn : n ≤ 100000) : bits .and .u64 (n : Int) 4294967295 = n := by
  have e : n &&& 4294967295 = n := by
    have := Nat.and_two_pow_sub_one_eq_mod n 32
    rw [show (2 : Nat) ^ 32 - 1 = 4294967295 by decide, show (2 : Nat) ^ 32 = 4294967296 by decide] at this
    rw [this]; omega
  have e1 : n % 2 ^ IntKind.u64.bits = n := Nat.mod_eq_of_lt (by rw [show (2 : Nat) ^ IntKind.u64.bits = 18446744073709551616 by decide]; omega)
  have e2 : (4294967295 : Nat) % 2 ^ IntKind.u64.bits = 4294967295 := by decide
  simp [bits, IntKind.wrap_u64]
  rw [e1, e2, e]
  omega
theorem wr_u64 {x : Int} (h1 : 0 ≤ x) (h2 : x ≤ 1000000000000) : IntKind.u64.wrap x = x := by
  rw [IntKind.wrap_u64]; omega
set_option maxRecDepth 100000 in
set_option maxHeartbeats 1000000 in
theorem mul64_any (n : Nat) (hn : n ≤ 100000) (w : World) :
    Calls Try.prog 143 #[.int .u64 1, .int .u64 n] w fun e w' => e = .returned (.tuple #[.int .u64 0, .int .u64 n]) ∧ w' = w := by
  have h1 := bits_one
  have h2 := bits_n n hn
  have h3 : (n : Int) / 4294967296 = 0 := by omega
  have h4 : IntKind.u64.wrap (n : Int) = n := wr_u64 (by omega) (by omega)
  have h5 : IntKind.u64.wrap 0 = 0 := by decide
  have h6 : bits .and .u64 0 4294967295 = 0 := by decide
  go_enter Try.func143, Try.ntmps143
  go_wp2
  go_ret2
  exact ⟨rfl, rfl⟩
set_option maxRecDepth 100000 in
set_option maxHeartbeats 1000000 in
theorem mul_any (n : Nat) (hn : n ≤ 100000) (w : World) :
    Calls Try.prog 141 #[.int .u64 1, .int .u64 n] w fun e w' => e = .returned (.tuple #[.int .u64 0, .int .u64 n]) ∧ w' = w := by
  have C := hide fun w => mul64_any n hn w
  go_enter Try.func141, Try.ntmps141
  go_wp2_with fail
  refine (C.out _).mono ?_
  rintro e w1 ⟨rfl, rfl⟩
  go_wp2_with fail
  go_ret2
  exact ⟨rfl, rfl⟩
theorem exec_copy {P : Program} {w : World} {o : Oper} {a : Act} {s x : Operand} {t t' : TypeId} (ho : o.op = .call { callee := .builtin .copy, args := #[s, x], argTypes := #[t, t'] }) {v v' u : Value} {w' : World} (hs : a.eval s = v) (hx : a.eval x = u)
    (hr : (Builtin.copy_ #[t, t'] o.type #[v, u]).run P w = .ok v' w') : (execOp a.eval o).run P w = .ok (.value v') w' := by
  unfold execOp
  simp only [ho, resolve, invoke, builtin, Sem.run_bind, Sem.run_pure, Result.andThen_ok, List.map_toArray, List.map_cons, List.map_nil, hs, hx, hr]
/-- a block whose cells are numbers is a list of one's own -/
theorem Holds.blkZ {w0 w : World} {L : List Part} (h : Holds w0 w L) (i : Nat) {g : Nat} {c : Array Value} {l : List Int} (hi : L[i]? = some (pBlk g c 2)) (hc : c.toList = zc l) (hl : l.length ≤ 1000000) :
    Holds w0 w (L.set i (pZ9 (.slice (some ⟨g, 0, none⟩) l.length l.length) l)) := by
  refine h.turn i hi _ ?_ rfl rfl rfl (Nat.le_refl _) (fun _ _ _ => rfl) fun k hk => .inl ?_
  · have hs : c.size = l.length := by rw [← Array.length_toList, hc, zc_length]
    exact ⟨by rw [zc_length]; omega, .inr ⟨g, l.length, c, rfl, Nat.zero_le _, h.at i hi, Nat.le_refl _, by unfold maxLen; omega, by omega, by rw [← hc, Nat.mul_one, ← hs, ← Array.length_toList, List.take_length]⟩⟩
  · have : g = k := by simpa [pZ9, pRow, Value.ownBlock] using hk
    exact this.symm
/-- m times a number, zeros behind it -/
def rpL (m n : Nat) (x : Int) : List Value := zc (List.replicate m x ++ List.replicate (n - m) 0)
theorem rpL_len {m n : Nat} (x : Int) (h : m ≤ n) : (rpL m n x).length = n := by unfold rpL; rw [zc_length]; simp; omega
theorem rpL_get {m n j : Nat} (x : Int) (hj : j < m) : (rpL m n x)[j]? = some (.int .i64 x) := by
  unfold rpL; rw [zc_get, List.getElem?_append_left (by simpa using hj)]; simp [hj]
theorem rpL_splice {m n t : Nat} (x : Int) (h : m + t ≤ n) : splice (rpL m n x) m (List.replicate t (.int .i64 x)) = rpL (m + t) n x := by
  have e : List.replicate t (Value.int .i64 x) = zc (List.replicate t x) := by unfold zc; simp
  unfold splice rpL
  rw [e, zc_length, List.length_replicate]
  unfold zc
  rw [← List.map_take, ← List.map_drop, ← List.map_append, ← List.map_append]
  congr 1
  rw [List.take_append_of_le_length (by simp), List.take_of_length_le (by simp), List.drop_append, List.drop_of_length_le (by simp), List.nil_append, List.length_replicate, List.drop_replicate, ← List.append_assoc, List.replicate_append_replicate]
  congr 2
  omega
set_option maxRecDepth 100000 in
set_option maxHeartbeats 2000000 in
theorem repeat_any (x : Int) (v : Value) (n : Nat) (hn : n ≤ 100000) (w : World) (h : RdZ w v [x]) :
    Calls Try.prog 139 #[v, .int .i64 n] w fun e w' => ∃ u, e = .returned u ∧ Holds w w' [pZ9 u (List.replicate n x)] := by
  obtain ⟨A, c, rfl, _⟩ := h.form
  obtain ⟨a, rfl, ha, c1⟩ := h.at (k := 0) (by simp)
  have H := hide h; clear h
  have c1' : w.cell? a = some (.int .i64 x) := by rw [show a.add 0 = a from rfl] at c1; exact c1
  obtain ⟨i0, hi, hz0, hz1, hz2⟩ := info_parts info64
  have I0 := hide (And.intro hi (And.intro hz0 (And.intro hz1 hz2))); clear hi hz0 hz1 hz2
  have CM := hide fun w => mul_any n hn w
  have hu1 : IntKind.u64.wrap (n : Int) = n := wr_u64 (by omega) (by omega)
  have hu2 : IntKind.i64.wrap (n : Int) = n := wr64k (by omega) (by omega)
  have hneg : ¬ ((n : Int) < 0) := by omega
  have hbig : decide ((9223372036854775807 : Int) < (n : Int)) = false := decide_eq_false (by omega)
  have hb8 := I0.out.2.2.2
  have hbb : i0.bytes * n ≤ 281474976710656 := by rw [hb8]; omega
  clear hb8 c1
  go_enter Try.func139, Try.ntmps139
  go_wp2_with fail
  refine (CM.out _).mono ?_
  rintro e w1 ⟨rfl, rfl⟩
  clear CM
  go_wp2_with (refine wpList_make_full _ rfl _ _ 79 rfl w1.heap.size 2 i0 (.int .i64 0) 1 Try.underlying79 I0.out.1 I0.out.2.1 I0.out.2.2.1 .i64 .i64 _ _ n rfl rfl rfl rfl hbb (by unfold maxLen; omega) (Nat.le_refl _) ?_)
  intro w2 ho hg
  have b1 : Below w1.heap.size w1 w2 := (Below.refl _ _).grown hg (Nat.le_refl _) (fun k hk => by cases hk)
  have hz : (madeCells #[Value.int .i64 0] n).toList = rpL 0 n x := by rw [toList_madeCells_one]; unfold rpL zc; simp
  rw [hz] at ho
  have hblk : Hid (w2.heap[w1.heap.size]? = some (.cells (rpL 0 n x).toArray 2 (0, 0))) := hide (by
    rcases ho.2 with ⟨e, _⟩ | ⟨g', cap, cur, e, _, hh, _, _, h3, h4⟩
    · cases e
    · injection e with e1 e2 e3
      injection e1 with e1
      injection e1 with e1 _ _
      subst e1 e3
      rw [hh]
      rw [List.take_of_length_le (by rw [Array.length_toList]; omega)] at h4
      congr 2
      rw [← h4])
  clear ho hz hg
  have hsz : (Try.prog.info? 2).map (·.size) = some 1 := by rw [I0.out.1]; exact congrArg some I0.out.2.2.1
  have HSZ := hide hsz
  clear hsz hbb I0
  obtain ⟨m1, hm1⟩ : ∃ m, m = min 1 n := ⟨_, rfl⟩
  have HM1 := hide hm1
  clear hm1
  have hc1 : ∀ (j : Nat) (u : Value), (List.replicate m1 (Value.int .i64 x))[j]? = some u → w2.cell? (a.add j) = some u := by
    intro j u hj
    have hj1 : j < m1 := by simpa using (List.getElem?_eq_some_iff.1 hj).1
    have hm := HM1.out
    obtain rfl : j = 0 := by omega
    rw [List.getElem?_replicate, if_pos hj1] at hj
    injection hj with hj
    rw [← hj, show a.add 0 = a from rfl, ← c1']
    exact b1.cell (p := a) ha
  have HC1 := hide hc1
  clear hc1
  have hn1 : (List.replicate m1 (Value.int .i64 x)).length = Nat.min 1 n := by rw [List.length_replicate]; exact HM1.out
  have hf1 : 0 + (List.replicate m1 (Value.int .i64 x)).length ≤ (rpL 0 n x).length := by rw [rpL_len x (Nat.zero_le _), List.length_replicate]; have := HM1.out; omega
  have ho1 : ∀ u ∈ List.replicate m1 (Value.int .i64 x), u.oneCell' = true := by intro u hu; rw [(List.mem_replicate.1 hu).2]; rfl
  have HN1 := hide hn1; have HF1 := hide hf1; have HO1 := hide ho1; clear hn1 hf1 ho1
  go_wp2_with (refine wpList_copy_splice rfl (.tmp 31) (.tmp 32) 79 79 rfl 2 Try.underlying79 HSZ.out (some ⟨w1.heap.size, 0, none⟩) (some a) n n 1 c rfl rfl w1.heap.size 0 (rpL 0 n x) 2 hblk.out (List.replicate m1 (.int .i64 x)) HN1.out (fun _ => ⟨rfl, a, rfl, HC1.out⟩) HF1.out HO1.out w1.heap.size w1 b1 (Nat.le_refl _) ?_)
  intro w3 hg3 hb3
  have hq : splice (rpL 0 n x) 0 (List.replicate m1 (.int .i64 x)) = rpL m1 n x := by
    have := rpL_splice (m := 0) (n := n) (t := m1) x (by have := HM1.out; omega)
    rw [Nat.zero_add] at this; exact this
  rw [hq] at hg3
  clear hq hblk b1 HC1 c1'
  have hlr : ((List.replicate m1 (Value.int .i64 x)).length : Int) = (m1 : Int) := by simp
  clear hbig hu1 hu2 hneg
  go_wp2
  go_loopw [8] (fun i wr => ∃ m : Nat, m ≤ n ∧ i = .int .i64 m ∧ Hid (n = 0 ∨ 1 ≤ m) ∧ Hid (wr.heap[w1.heap.size]? = some (.cells (rpL m n x).toArray 2 (0, 0))) ∧ Below w1.heap.size w1 wr) (fun i _ => n - (intOf i).toNat)
  case atStart => exact ⟨m1, by have := HM1.out; omega, by first | rfl | rw [hlr], hide (by have := HM1.out; omega), hg3, hb3⟩
  case round =>
    clear hg3 hb3 hlr
    obtain ⟨m, hm, rfl, h1m, hg, hb⟩ := hrel
    by_cases hlt : m < n
    · have h1 : 1 ≤ m := by have := h1m.out; omega
      have hlt' : (m : Int) < n := by omega
      clear h1m
      obtain ⟨t, ht⟩ : ∃ t, t = min m (n - m) := ⟨_, rfl⟩
      have HT := hide ht; clear ht
      have hn1 : (List.replicate t (Value.int .i64 x)).length = Nat.min m (n - m) := by rw [List.length_replicate]; exact HT.out
      have hf1 : m + (List.replicate t (Value.int .i64 x)).length ≤ (rpL m n x).length := by rw [rpL_len x hm, List.length_replicate]; have := HT.out; omega
      have ho1 : ∀ u ∈ List.replicate t (Value.int .i64 x), u.oneCell' = true := by intro u hu; rw [(List.mem_replicate.1 hu).2]; rfl
      have HN1' := hide hn1; have HF1' := hide hf1; have HO1' := hide ho1; clear hn1 hf1 ho1
      have hmn : (m : Int) ≤ n := by omega
      have hnm : ¬ (n = m) := by omega
      have hc2 : Hid (∀ (w' : World), (w'.heap[w1.heap.size]? = some (.cells (rpL m n x).toArray 2 (0, 0))) → ∀ (j : Nat) (u : Value), (List.replicate t (Value.int .i64 x))[j]? = some u → w'.cell? ((⟨w1.heap.size, 0, none⟩ : Addr).add j) = some u) := hide (by
        intro w' hw' j u hj
        have hj1 : j < t := by simpa using (List.getElem?_eq_some_iff.1 hj).1
        rw [List.getElem?_replicate, if_pos hj1] at hj
        injection hj with hj
        have hadd : (⟨w1.heap.size, 0, none⟩ : Addr).add j = ⟨w1.heap.size, j, none⟩ := by unfold Addr.add; split <;> simp_all
        rw [hadd, cell_of_cells, cellsOf_heap hw', ← hj]
        simp only [List.getElem?_toArray]
        exact rpL_get x (by have := HT.out; omega))
      have hsp := rpL_splice (m := m) (n := n) (t := t) x (by have := HT.out; omega)
      have HSP := hide hsp; clear hsp
      have hwm : wrap64 ((m : Int) + (t : Int)) = ((m + t : Nat) : Int) := by rw [wr64 (by have := HT.out; omega) (by have := HT.out; omega)]; omega
      have HW := hide hwm; clear hwm
      have hH : Holds w1 wr [pBlk w1.heap.size (rpL m n x).toArray 2] := (Holds.start w1).new hb _ hg.out (fun g hg' => by cases hg'; exact Nat.le_refl _)
      have hRUN : Hid (∀ (wx : World) (ty : TypeId), Holds w1 wx [pBlk w1.heap.size (rpL m n x).toArray 2] → ∃ w', (Builtin.copy_ #[79, 79] ty #[.slice (some ⟨w1.heap.size, m, none⟩) (n - m) (n - m), .slice (some ⟨w1.heap.size, 0, none⟩) m n]).run Try.prog wx = .ok (.int .i64 t) w' ∧ Holds w1 w' [pBlk w1.heap.size (rpL (m + t) n x).toArray 2]) := hide (by
        intro wx ty hx
        have hw := hx.at 0 rfl
        have hr := run_copy_row (P := Try.prog) wx 79 79 ty 2 w1.heap.size m (n - m) (n - m) ⟨w1.heap.size, 0, none⟩ m n (rpL m n x).toArray 2 (List.replicate t (.int .i64 x)) Try.underlying79 HSZ.out hw HN1'.out (hc2.out wx hw) (by rw [List.size_toArray]; exact HF1'.out) HO1'.out
        refine ⟨_, by rw [hr]; congr 1; simp [goInt], ?_⟩
        have := hx.setRow 0 rfl (rpL (m + t) n x).toArray
        rw [← HSP.out]
        rw [← HSP.out] at this
        simpa [splice] using this)
      clear hc2 HN1' HF1' HO1' HSP hg hb
      go_wp2
      refine Rd.region_P (w0 := w1) [] [pBlk w1.heap.size (rpL m n x).toArray 2] [7] (.q 0 <| .q 1 <| .q 2 <| .q 3 <| .q 4 <| .q 5 <| .q 6 <| .s1 7 <| .q 8 <| .q 9 .fin) hH (List.nil_sublist _) (by kernel_rfl) (by kernel_rfl) (by kernel_rfl) ?_
      iterate 7
        apply Rd.v_q
        · simp only [List.getElem?_toArray, List.getElem?_cons_zero, List.getElem?_cons_succ]; exact rfl
        · rfl
        · go_simp
        · intro wx hx
          unfold atG
          go_simp
          simp only [uponG]
          exact ⟨by trivial, rfl⟩
      refine Rd.v_s (fun u wx => u = .int .i64 t ∧ Holds w1 wx [pBlk w1.heap.size (rpL (m + t) n x).toArray 2]) (fun u _ _ h hb => ⟨h.1, h.2.call hb⟩) (by simp only [List.getElem?_toArray, List.getElem?_cons_zero, List.getElem?_cons_succ]; exact rfl) rfl (by go_simp) (fun wx hx hD => ?_) (fun u hu => ?_)
      · have hr := (hRUN.out wx 3 hD).choose_spec
        rw [exec_copy (s := .tmp 41) (x := .tmp 44) rfl (by go_simp) (by go_simp) hr.1]
        exact ⟨hr.2.sub (List.nil_sublist _), rfl, hr.2⟩
      · obtain ⟨_, _, rfl, _⟩ := hu
        have hwm := HW.out
        iterate 2
          apply Rd.v_q
          · simp only [List.getElem?_toArray, List.getElem?_cons_zero, List.getElem?_cons_succ]; exact rfl
          · rfl
          · go_simp
          · intro wx hx
            unfold atG
            go_simp
            simp only [uponG]
            exact ⟨by trivial, rfl⟩
        rintro w4 - ⟨_, h4⟩
        have hb4 := h4.low
        have hg4 := hide (h4.at 0 rfl)
        have hwm := HW.out
        clear hH hRUN h4
        go_simp
        go_wp2
        go_roundw
        case rel => exact ⟨m + t, by have := HT.out; omega, by rw [wr64k (by have := HT.out; omega) (by have := HT.out; omega)]; rfl, hide (by omega), hg4, hb4⟩
        case measure =>
          have := HT.out
          have hk : IntKind.i64.wrap ((m : Int) + t) = (m : Int) + t := wr64k (by omega) (by omega)
          simp only [intOf, hk]; omega
    · obtain rfl : m = n := by omega
      have hH : Holds w1 wr [pBlk w1.heap.size (rpL m m x).toArray 2] := (Holds.start w1).new hb _ hg.out (fun g hg' => by cases hg'; exact Nat.le_refl _)
      have hZ := hide (hH.blkZ 0 rfl (l := List.replicate m x) (by unfold rpL; simp) (by simp; omega))
      clear hlt hm h1m hg hb hH HM1 HN1 HF1 HO1 HSZ H
      go_wp2
      go_ret
      have hz := hZ.out
      simp only [List.set_cons_zero, List.length_replicate] at hz
      exact ⟨_, rfl, hz⟩
end Go.Proofs.Ytpkfjdaedaplfaa
