/- loop: New, Len. -/
import Derived.Test.YtcoffbgpdbhjfaaLoopD
import Derived.Conc.LoneSelectN
import Derived.BigRegion
import Derived.RegionTactic
namespace Go.Proofs.Ytcoffbgpdbhjfaa
open Go.Conc Go.RowKit
set_option linter.unusedVariables false
set_option linter.unusedSimpArgs false

theorem bytesE : ∃ i, Try.prog.info? 23 = some i ∧ i.bytes = 32 := by
  have h : (Try.prog.info? 23).map (·.bytes) = some 32 := by kernel_rfl
  obtain ⟨i, hi, hb⟩ := Option.map_eq_some_iff.1 h
  exact ⟨i, hi, hb⟩
theorem mk_chan (n : Nat) (hn : n ≤ 65536) (w : World) : (Instr.makeChan 44 (.int .i64 n)).run Try.prog w = .ok (.chan (some w.heap.size)) (w.alloc (.chan n #[] false 0 0 false)) := by
  obtain ⟨i, hi, hb⟩ := bytesE
  simpa using run_makeChan (P := Try.prog) (w := w) Try.underlying44 hi .i64 n (by omega) (by rw [hb]; omega)

theorem new_not (n : Int) (w : World) (h : n < 1 ∨ 65536 < n) : Calls Try.prog 10 #[.int .i64 n] w fun e w' => e = .returned (.pointer none) ∧ w = w' := by
  go_enter Try.func10, Try.ntmps10
  by_cases h1 : n < 1
  · have d1 : decide (n < 1) = true := by simp; omega
    go_wp2
    go_ret
    exact ⟨rfl, rfl⟩
  · have d1 : decide (n < 1) = false := by simp; omega
    have d2 : decide (65536 < n) = true := by simp; omega
    go_wp2
    go_ret
    exact ⟨rfl, rfl⟩

/-- Four new blocks: three channels, and the box. -/
theorem new_bx (w : World) (n a b d : Nat) (ha : w.heap.size ≤ a ∧ a ≤ w.heap.size + 1 + 1) (hb : w.heap.size ≤ b ∧ b ≤ w.heap.size + 1 + 1) (hd : w.heap.size ≤ d ∧ d ≤ w.heap.size + 1 + 1) (h1 : a ≠ b) (h2 : a ≠ d) (h3 : b ≠ d) :
    (fun w' => Bx w' (w.heap.size + 1 + 1 + 1) a b d n [] [] [] ∧ Below w.heap.size w w') ((((w.alloc (.chan n #[] false 0 0 false)).alloc (.chan n #[] false 0 0 false)).alloc (.chan n #[] false 0 0 false)).alloc (.cells #[.chan (some a), .chan (some b), .chan (some d)] 46)).drew := by
  have key : ∀ k, w.heap.size ≤ k ∧ k ≤ w.heap.size + 1 + 1 → (((w.alloc (.chan n #[] false 0 0 false)).alloc (.chan n #[] false 0 0 false)).alloc (.chan n #[] false 0 0 false)).heap[k]? = some (.chan n #[] false 0 0 false) := by
    intro k hk
    obtain rfl | rfl | rfl : k = w.heap.size ∨ k = w.heap.size + 1 ∨ k = w.heap.size + 1 + 1 := by omega
    · rw [heap_alloc_old _ _ (by simp; omega), heap_alloc_old _ _ (by simp), heap_alloc_new]
    · rw [heap_alloc_old _ _ (by simp)]
      have := heap_alloc_new (w.alloc (.chan n #[] false 0 0 false)) (.chan n #[] false 0 0 false)
      rwa [World.size_alloc] at this
    · have := heap_alloc_new ((w.alloc (.chan n #[] false 0 0 false)).alloc (.chan n #[] false 0 0 false)) (.chan n #[] false 0 0 false)
      rwa [World.size_alloc, World.size_alloc] at this
  have ch : ∀ k, w.heap.size ≤ k ∧ k ≤ w.heap.size + 1 + 1 → ∃ s r, Ch ((((w.alloc (.chan n #[] false 0 0 false)).alloc (.chan n #[] false 0 0 false)).alloc (.chan n #[] false 0 0 false)).alloc (.cells #[.chan (some a), .chan (some b), .chan (some d)] 46)).drew k n (arr []) s r := by
    intro k hk
    refine ⟨0, 0, ?_⟩
    show ((((w.alloc (.chan n #[] false 0 0 false)).alloc (.chan n #[] false 0 0 false)).alloc (.chan n #[] false 0 0 false)).alloc (.cells #[.chan (some a), .chan (some b), .chan (some d)] 46)).heap[k]? = _
    rw [heap_alloc_old _ _ (by simp; omega), key k hk]
    rfl
  have hblk := blk_new (((w.alloc (.chan n #[] false 0 0 false)).alloc (.chan n #[] false 0 0 false)).alloc (.chan n #[] false 0 0 false)) #[.chan (some a), .chan (some b), .chan (some d)] 46
  rw [World.size_alloc, World.size_alloc, World.size_alloc] at hblk
  refine ⟨⟨hblk.drew, ch a ha, ch b hb, ch d hd, h1, h2, h3⟩, ?_⟩
  exact (((((Below.refl _ w).alloc (Nat.le_refl _) _).alloc (by simp) _).alloc (by simp; omega) _).alloc (by simp; omega) _).drew

set_option maxHeartbeats 2000000 in
set_option maxRecDepth 100000 in
theorem new_is (n : Nat) (w : World) (h1 : 0 < n) (h2 : n ≤ 65536) : Calls Try.prog 10 #[.int .i64 n] w fun e w' => ∃ bb cb ct cs, e = .returned (ptr bb) ∧ Bx w' bb cb ct cs n [] [] [] ∧ Below w.heap.size w w' ∧ w.heap.size ≤ bb ∧ w.heap.size ≤ cb ∧ w.heap.size ≤ ct ∧ w.heap.size ≤ cs := by
  have hmc := mk_chan n h2
  have d1 : decide ((n : Int) < 1) = false := by simp; omega
  have d2 : decide ((65536 : Int) < (n : Int)) = false := by simp; omega
  go_enter Try.func10, Try.ntmps10
  go_wp2
  go_region
  all_goals go_wp2
  all_goals go_ret
  all_goals refine ⟨_, _, _, _, rfl, (new_bx w n _ _ _ ?_ ?_ ?_ ?_ ?_ ?_).1, (new_bx w n _ _ _ ?_ ?_ ?_ ?_ ?_ ?_).2, ?_, ?_, ?_, ?_⟩
  all_goals omega

/-! ### Len -/
abbrev lens (a b c : Nat) : Value := .agg #[.int .i64 a, .int .i64 b, .int .i64 c]
theorem len_nil (w : World) : Calls Try.prog 8 #[.pointer none] w fun e w' => e = .returned (lens 0 0 0) ∧ Below w.heap.size w w' := by
  go_enter Try.func8, Try.ntmps8
  go_wp2
  refine at_world (fun Z => Below w.heap.size w Z ∧ Blk Z w.heap.size #[.int .i64 0, .int .i64 0, .int .i64 0]) ⟨(Below.refl _ _).alloc (Nat.le_refl _) _, blk_new _ _ _⟩ ?_
  rintro Z ⟨hc, _, h, _⟩
  have x0 := h 0
  have x1 := h 1
  have x2 := h 2
  refine bodyPost_ret (v := lens 0 0 0) (by simp [results, Try.results8, go_sem, x0, x1, x2]) rfl ⟨rfl, hc⟩

set_option maxHeartbeats 2000000 in
set_option maxRecDepth 100000 in
theorem len_any {w : World} {bb cb ct cs room : Nat} {qb qt qs : List Evt} (h : Bx w bb cb ct cs room qb qt qs) : Calls Try.prog 8 #[ptr bb] w fun e w' => e = .returned (lens qb.length qt.length qs.length) ∧ Below w.heap.size w w' := by
  have H := Lib.hid h
  clear h
  go_enter Try.func8, Try.ntmps8
  go_wp2
  refine at_world (fun X => (Bx X bb cb ct cs room qb qt qs ∧ Below w.heap.size w X) ∧ Blk X w.heap.size #[.int .i64 0, .int .i64 0, .int .i64 0]) ⟨⟨H.out.later ((Below.refl _ _).alloc (Nat.le_refl _) _), (Below.refl _ _).alloc (Nat.le_refl _) _⟩, blk_new _ _ _⟩ ?_
  rintro X HX
  have H1 := Lib.hid HX
  obtain ⟨y0, k0, j0⟩ := (show Blk _ _ _ from HX.1.1.blk)
  obtain ⟨y1, k1, j1⟩ := (show Blk _ _ _ from HX.2)
  obtain ⟨s1, r1, c1⟩ := (HX.1.1.later (Below.refl _ _).drew).chb
  obtain ⟨s2, r2, c2⟩ := (HX.1.1.later (Below.refl _ _).drew).cht
  obtain ⟨s3, r3, c3⟩ := (HX.1.1.later (Below.refl _ _).drew).chs
  have l1 := fun ty => run_len_chan (P := Try.prog) 44 ty Try.underlying44 c1
  have l2 := fun ty => run_len_chan (P := Try.prog) 44 ty Try.underlying44 c2
  have l3 := fun ty => run_len_chan (P := Try.prog) 44 ty Try.underlying44 c3
  simp only [arr_size] at l1 l2 l3
  clear HX c1 c2 c3
  go_still_tail 16, (by kernel_rfl)
  change wpList _ _ _ _ _ X.drew
  go_wp2
  refine at_world (fun Z => Below w.heap.size w Z ∧ Blk Z w.heap.size #[.int .i64 qb.length, .int .i64 qt.length, .int .i64 qs.length]) ⟨?_, ?_⟩ ?_
  · exact (((H1.out.1.2.drew).setCell (p := ⟨w.heap.size, 0, none⟩) (Nat.le_refl _) _).setCell (p := ⟨w.heap.size, 1, none⟩) (Nat.le_refl _) _).setCell (p := ⟨w.heap.size, 2, none⟩) (Nat.le_refl _) _
  · exact ((((H1.out.2.drew).set_ 0 (by simp) _).set_ 1 (by simp) _).set_ 2 (by simp) _ : Blk _ w.heap.size #[.int .i64 qb.length, .int .i64 qt.length, .int .i64 qs.length])
  rintro Z ⟨hc, _, h, _⟩
  have x0 := h 0
  have x1 := h 1
  have x2 := h 2
  refine bodyPost_ret (v := lens qb.length qt.length qs.length) (by simp [results, Try.results8, go_sem, x0, x1, x2]) rfl ⟨rfl, hc⟩
end Go.Proofs.Ytcoffbgpdbhjfaa
