/- Korean syllables: the laws' walks. -/
import Derived.Test.YteflpcdhlaeanaaHanA
namespace Go.Proofs.Yteflpcdhlaeanaa
open Go.RowKit
set_option linter.unusedVariables false

theorem wf32 {a : Int} (h : (Lit.int .i32 a).wf = true) : -2147483648 ≤ a ∧ a ≤ 2147483647 := by
  simp only [Lit.wf, Bool.and_eq_true] at h
  exact ⟨of_decide_eq_true h.1, of_decide_eq_true h.2⟩
theorem wf64 {a : Int} (h : (Lit.int .i64 a).wf = true) : -9223372036854775808 ≤ a ∧ a ≤ 9223372036854775807 := by
  simp only [Lit.wf, Bool.and_eq_true] at h
  exact ⟨of_decide_eq_true h.1, of_decide_eq_true h.2⟩

theorem Yes.end_ {w w1 : World} (hb : Below w.heap.size w w1) : Yes w (.returned (.bool true)) w1 := ⟨rfl, hb⟩

theorem splits_walk (r : Int) (n : Nat) (hn : n ≤ 3) (hs : ∀ w, Calls Try.prog 8 #[.int .i32 r] w (Tells n (hpart r) w)) (hx : ∀ w, Calls Try.prog 9 #[.int .i32 r] w (Tells n (hpart r) w))
    (d1 d2 : Bool) (h1 : decide (44032 ≤ r) = d1) (h2 : decide (r < 55204) = d2) (h3 : decide (r ≤ 55203) = d2) (w : World) : Calls Try.prog 3 #[.int .i32 r] w (Yes w) := by
  have Hs := Lib.hid hs
  have Hx := Lib.hid hx
  clear hs hx
  cases d1 <;> cases d2
  all_goals
    go_enter Try.func3, Try.ntmps3
    go_wp2_with (first
      | (go_at_call 8; refine (Hs.out _).mono ?_; rintro e w1 ⟨A, c, rfl, hA, hb⟩)
      | (go_at_call 9; refine (Hx.out _).mono ?_; rintro e w2 ⟨B, d, rfl, hB, hb2⟩)
      | (go_at_call 7; refine (same_yes A B n c d (hpart r) _ (by omega) (hA.later hb2) hB).mono ?_; rintro e w3 ⟨rfl, k, rfl⟩)
      | (go_at_call 12; refine (awake_yes _).mono ?_; rintro e w4 ⟨rfl, hb4⟩)
      | go_in)
    go_ret
    exact ⟨rfl, ((hb.trans (hb2.mono hb.size)).trans ((below_drewN (Below.refl _ _) k).mono (Nat.le_trans hb.size hb2.size))).trans (hb4.mono (Nat.le_trans hb.size hb2.size))⟩

theorem walk_HangulSplits (r : Int) (_w0 : (Lit.int .i32 r).wf = true) (w : World) : Calls Try.prog 3 #[.int .i32 r] w (Yes w) := by
  by_cases h0 : 44032 ≤ r
  · by_cases h1 : r < 55204
    · have h1' : decide (r ≤ 55203) = decide (r < 55204) := by congr 1; apply propext; omega
      by_cases h2 : (r - 44032) % 28 = 0
      · exact splits_walk r 2 (by omega) (fun w => split_two r w h0 h1 h2) (fun w => rsplit_two r w h0 h1 h2) _ _ rfl rfl h1' w
      · exact splits_walk r 3 (by omega) (fun w => split_three r w h0 h1 (by omega)) (fun w => rsplit_three r w h0 h1 (by omega)) _ _ rfl rfl h1' w
    · have h1' : decide (r ≤ 55203) = decide (r < 55204) := by congr 1; apply propext; omega
      exact splits_walk r 0 (by omega) (fun w => split_no r w (by omega)) (fun w => rsplit_no r w (by omega)) _ _ rfl rfl h1' w
  · have h1' : decide (r ≤ 55203) = decide (r < 55204) := by congr 1; apply propext; omega
    exact splits_walk r 0 (by omega) (fun w => split_no r w (by omega)) (fun w => rsplit_no r w (by omega)) _ _ rfl rfl h1' w

end Go.Proofs.Yteflpcdhlaeanaa
