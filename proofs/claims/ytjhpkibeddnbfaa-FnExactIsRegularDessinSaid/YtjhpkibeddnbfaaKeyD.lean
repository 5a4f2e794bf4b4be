/- Dessins as keys of maps. -/
import Derived.Test.YtjhpkibeddnbfaaMap2
import Derived.Test.YtjhpkibeddnbfaaDes
import Derived.Carry
namespace Go.Proofs.Ytjhpkibeddnbfaa
open Go.RowKit
open Go.Maps (Keyed)

theorem laidDk : laidOutB Try.prog = true := by kernel_rfl
theorem keyedD : Keyed Try.prog 30 := Keyed.of_law (deep_law_laid laidDk (m := 4) (by omega) (of_decide_eq_true (by kernel_rfl)) (by kernel_rfl) (by kernel_rfl))
theorem mapM_some {α β : Type} {f : α → Option β} : ∀ {l : List α}, (∀ x ∈ l, ∃ y, f x = some y) → ∃ ys, l.mapM f = some ys := by
  intro l
  induction l with
  | nil => intro _; exact ⟨[], rfl⟩
  | cons a l ih =>
    intro h
    obtain ⟨y, hy⟩ := h a (by simp)
    obtain ⟨ys, hys⟩ := ih fun x hx => h x (by simp [hx])
    exact ⟨y :: ys, by simp [List.mapM_cons, hy, hys]⟩
theorem isK_des (m : Nat) (F G : Nat → Nat) (hm : m ≤ 16) (hF : ∀ i, i < 16 → F i < 256) (hG : ∀ i, i < 16 → G i < 256) : IsK Try.prog 30 (.agg (dv m F G)) := by
  have h1 : Try.prog.keyType 30 = true := by kernel_rfl
  obtain ⟨n, hn⟩ : ∃ n, Try.prog.types.size + 1 = n + 3 := ⟨Try.prog.types.size - 2, by
    have : 2 ≤ Try.prog.types.size := of_decide_eq_true (by kernel_rfl)
    omega⟩
  have h2 : Try.prog.cellsOf 30 = 33 := by kernel_rfl
  have h3 : Try.prog.cellsOf 5 = 1 := by kernel_rfl
  have h4 : Try.prog.cellsOf 2 = 1 := by kernel_rfl
  have h5 : Try.prog.cellsOf 28 = 16 := by kernel_rfl
  have hlen : (dv m F G).toList.length = 33 := by rw [Array.length_toList, dv_size]
  have k8 : ∀ x : Nat, x < 256 → Try.prog.keyLits (n + 1) 5 [.int .u8 (x : Int)] = some [.int .u8 (x : Int)] := fun x hx => by
    have hw : (Lit.int .u8 (x : Int)).wf = true := by unfold Lit.wf; simp [IntKind.min, IntKind.max, IntKind.signed, IntKind.bits]; omega
    unfold Program.keyLits
    simp only [Try.underlying5, hw]
    simp
  have k64 : Try.prog.keyLits (n + 2) 2 [.int .i64 (m : Int)] = some [.int .i64 (m : Int)] := by
    have hw : (Lit.int .i64 (m : Int)).wf = true := by unfold Lit.wf; simp [IntKind.min, IntKind.max, IntKind.signed, IntKind.bits]; omega
    unfold Program.keyLits
    simp only [Try.underlying2, hw]
    simp
  have kP : ∀ p : Nat → Nat, (∀ i, i < 16 → p i < 256) → ∃ l, Try.prog.keyLits (n + 2) 28 (av p).toList = some l := fun p hp => by
    have hl : (av p).toList.length = 16 := by rw [Array.length_toList, av_size]
    obtain ⟨ys, hys⟩ := mapM_some (l := List.range 16) (f := fun i => Try.prog.keyLits (n + 1) 5 (((av p).toList.drop (i * 1)).take 1)) fun i hi => by
      have hi' := List.mem_range.1 hi
      have e : ((av p).toList.drop (i * 1)).take 1 = [.int .u8 ((p i : Nat) : Int)] := by
        have h0 : (av p).toList[i]? = some (.int .u8 ((p i : Nat) : Int)) := by rw [Array.getElem?_toList]; exact av_get _ hi'
        rw [Nat.mul_one, List.drop_eq_getElem_cons (by omega)]
        have : (av p).toList[i]'(by omega) = .int .u8 ((p i : Nat) : Int) := by
          rw [List.getElem?_eq_getElem (by omega)] at h0; exact Option.some.inj h0
        rw [this]; rfl
      exact ⟨_, by rw [e]; exact k8 _ (hp i hi')⟩
    refine ⟨ys.flatten, ?_⟩
    unfold Program.keyLits
    simp only [Try.underlying28, h5, h3, hl, if_true]
    rw [hys]; rfl
  have eb : ((dv m F G).toList.drop 1).take 16 = (av F).toList := by
    have := congrArg Array.toList (blackOf_dv (m : Int) F G)
    unfold blackOf at this
    rw [Array.toList_extract] at this
    exact this
  have ew : ((dv m F G).toList.drop 17).take 16 = (av G).toList := by
    have := congrArg Array.toList (whiteOf_dv (m : Int) F G)
    unfold whiteOf at this
    rw [Array.toList_extract] at this
    exact this
  have en : ((dv m F G).toList.drop 0).take 1 = [.int .i64 (m : Int)] := by
    have h0 : (dv m F G).toList[0]? = some (.int .i64 (m : Int)) := by rw [Array.getElem?_toList]; exact dv_n _ _ _
    rw [List.drop_eq_getElem_cons (by omega)]
    have : (dv m F G).toList[0]'(by omega) = .int .i64 (m : Int) := by
      rw [List.getElem?_eq_getElem (by omega)] at h0; exact Option.some.inj h0
    rw [this]; rfl
  obtain ⟨lF, hlF⟩ := kP F hF
  obtain ⟨lG, hlG⟩ := kP G hG
  have kD : ∃ l, Try.prog.keyLits (n + 3) 30 (dv m F G).toList = some l := by
    refine ⟨[[.int .i64 (m : Int)], lF, lG].flatten, ?_⟩
    unfold Program.keyLits
    simp only [Try.underlying30, h2, hlen]
    have eb' := eb
    rw [List.drop_one] at eb'
    have en' := en
    rw [List.drop_zero] at en'
    simp [h4, h5, eb', ew, en', hlF, hlG, k64]
  unfold IsK keyOf
  rw [Try.underlying30, hn]
  have hfm : Value.formed Try.prog 30 (.agg (dv m F G)) = true := by
    unfold Value.formed
    rw [Try.underlying30]
    simp [h2, dv_size]
  obtain ⟨l, hl⟩ := kD
  simp only [h1, hfm, Bool.and_self, if_true, Value.cells, hl]
  exact ⟨_, rfl⟩
end Go.Proofs.Ytjhpkibeddnbfaa
