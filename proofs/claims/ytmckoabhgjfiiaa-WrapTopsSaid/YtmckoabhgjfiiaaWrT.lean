/- wrap: WrapTops' walk. -/
import Derived.Test.YtmckoabhgjfiiaaWrF
namespace Go.Proofs.Ytmckoabhgjfiiaa
open Go.RowKit
set_option linter.unusedVariables false
set_option linter.unusedSimpArgs false

def topP (all rows row : Int) : Int := max (min (row - rows / 2) (all - rows)) 0

section
variable (all rows row : Int) (h1 : 1 ≤ all) (h2 : all ≤ 100000) (h3 : 1 ≤ rows) (h4 : rows ≤ 500) (h5 : 0 ≤ row) (h6 : row < all) (w : World)
include h1 h2 h3 h4 h5 h6
set_option maxHeartbeats 1000000 in
theorem top_any : Calls Try.prog 14 #[.int .i64 all, .int .i64 rows, .int .i64 row] w fun e w' => e = .returned (.int .i64 (topP all rows row)) ∧ w = w' := by
  have hq : Int.tdiv rows 2 = rows / 2 := Int.tdiv_eq_ediv_of_nonneg (by omega)
  obtain ⟨q, hqq⟩ : ∃ q, rows / 2 = q := ⟨_, rfl⟩
  have hT : topP all rows row = max (min (row - q) (all - rows)) 0 := by rw [topP, hqq]
  rw [hqq] at hq
  have b1 : 0 ≤ q ∧ q ≤ 250 := by omega
  obtain ⟨b1, b2⟩ := b1
  have v1 : IntKind.i64.wrap (row - q) = row - q := IntWalk.i64_in _ (by omega)
  have v2 : IntKind.i64.wrap (all - rows) = all - rows := IntWalk.i64_in _ (by omega)
  have v3 : IntKind.i64.wrap q = q := IntWalk.i64_in _ (by omega)
  have HT := Lib.hid hT
  clear hT hqq
  go_enter Try.func14, Try.ntmps14
  go_wp2
  go_ret
  exact ⟨by rw [HT.out] <;> rfl, rfl⟩
set_option maxHeartbeats 1000000 in
theorem rtop_any : Calls Try.prog 15 #[.int .i64 all, .int .i64 rows, .int .i64 row] w fun e w' => e = .returned (.int .i64 (topP all rows row)) ∧ w = w' := by
  have hq : Int.tdiv rows 2 = rows / 2 := Int.tdiv_eq_ediv_of_nonneg (by omega)
  obtain ⟨q, hqq⟩ : ∃ q, rows / 2 = q := ⟨_, rfl⟩
  have hT : topP all rows row = max (min (row - q) (all - rows)) 0 := by rw [topP, hqq]
  rw [hqq] at hq
  have b1 : 0 ≤ q ∧ q ≤ 250 := by omega
  obtain ⟨b1, b2⟩ := b1
  have v1 : IntKind.i64.wrap (row - q) = row - q := IntWalk.i64_in _ (by omega)
  have v2 : IntKind.i64.wrap (all - rows) = all - rows := IntWalk.i64_in _ (by omega)
  have v3 : IntKind.i64.wrap q = q := IntWalk.i64_in _ (by omega)
  have HT := Lib.hid hT
  clear hT hqq
  by_cases c1 : all - rows < row - q
  · by_cases c2 : all - rows < 0
    · have hr : topP all rows row = 0 := by rw [HT.out]; omega
      have HR := Lib.hid hr
      clear hr
      go_enter Try.func15, Try.ntmps15
      go_wp2
      go_ret
      exact ⟨by rw [HR.out] <;> rfl, rfl⟩
    · have hr : topP all rows row = all - rows := by rw [HT.out]; omega
      have HR := Lib.hid hr
      clear hr
      go_enter Try.func15, Try.ntmps15
      go_wp2
      go_ret
      exact ⟨by rw [HR.out] <;> rfl, rfl⟩
  · by_cases c2 : row - q < 0
    · have hr : topP all rows row = 0 := by rw [HT.out]; omega
      have HR := Lib.hid hr
      clear hr
      go_enter Try.func15, Try.ntmps15
      go_wp2
      go_ret
      exact ⟨by rw [HR.out] <;> rfl, rfl⟩
    · have hr : topP all rows row = row - q := by rw [HT.out]; omega
      have HR := Lib.hid hr
      clear hr
      go_enter Try.func15, Try.ntmps15
      go_wp2
      go_ret
      exact ⟨by rw [HR.out] <;> rfl, rfl⟩
end
theorem top_says (all rows row : Int) (h1 : 1 ≤ all) (h3 : 1 ≤ rows) (h5 : 0 ≤ row) (h6 : row < all) : 0 ≤ topP all rows row ∧ topP all rows row ≤ row ∧ row - topP all rows row < rows ∧ (all ≤ rows → topP all rows row = 0) ∧ (rows < all → topP all rows row + rows ≤ all) := by
  unfold topP
  omega

set_option maxHeartbeats 4000000 in
set_option maxRecDepth 100000 in
theorem walk_WrapTops (all : Int) (g1 : (Lit.int .i64 all).wf = true) (rows : Int) (g2 : (Lit.int .i64 rows).wf = true) (row : Int) (g3 : (Lit.int .i64 row).wf = true) (w : World) :
    Calls Try.prog 6 #[.int .i64 all, .int .i64 rows, .int .i64 row] w (YesL w) := by
  by_cases hg : 1 ≤ all ∧ all ≤ 100000 ∧ 1 ≤ rows ∧ rows ≤ 500 ∧ 0 ≤ row ∧ row < all
  · obtain ⟨h1, h2, h3, h4, h5, h6⟩ := hg
    have T1 := Lib.hid (top_any all rows row h1 h2 h3 h4 h5 h6)
    have T2 := Lib.hid (rtop_any all rows row h1 h2 h3 h4 h5 h6)
    obtain ⟨s1, s2, s3, s4, s5⟩ := top_says all rows row h1 h3 h5 h6
    obtain ⟨t, ht⟩ : ∃ t, topP all rows row = t := ⟨_, rfl⟩
    rw [ht] at T1 T2 s1 s2 s3 s4 s5
    clear ht g1 g2 g3
    have d1 : decide (all < 1) = false := decide_eq_false (by omega)
    have d2 : decide (100000 < all) = false := decide_eq_false (by omega)
    have d3 : decide (rows < 1) = false := decide_eq_false (by omega)
    have d4 : decide (500 < rows) = false := decide_eq_false (by omega)
    have d5 : decide (row < 0) = false := decide_eq_false (by omega)
    have d6 : decide (all ≤ row) = false := decide_eq_false (by omega)
    have d7 : decide (t < 0) = false := decide_eq_false (by omega)
    have d8 : decide (row < t) = false := decide_eq_false (by omega)
    have d9 : decide (rows ≤ row - t) = false := decide_eq_false (by omega)
    have e1 : (t != t) = false := by simp
    have v1 : IntKind.i64.wrap (row - t) = row - t := IntWalk.i64_in _ (by omega)
    have v2 : IntKind.i64.wrap (t + rows) = t + rows := IntWalk.i64_in _ (by omega)
    by_cases hc : all ≤ rows
    · obtain rfl := s4 hc
      have da : decide (all ≤ rows) = true := decide_eq_true hc
      clear s5 s4
      go_enter Try.func6, Try.ntmps6
      go_wp2_with fail
      refine (T1.out w).mono ?_
      rintro e w1 ⟨rfl, rfl⟩
      go_wp2_with fail
      refine (T2.out w).mono ?_
      rintro e w1 ⟨rfl, rfl⟩
      go_wp2_with fail
      refine (awake_yes w).mono ?_
      rintro e w4 ⟨rfl, hb4⟩
      have HY := Lib.hid hb4
      clear hb4
      go_wp2_with fail
      go_ret
      exact ⟨rfl, HY.out⟩
    · have da : decide (all ≤ rows) = false := decide_eq_false hc
      have db : decide (t + rows ≤ all) = true := decide_eq_true (s5 (by omega))
      clear s5 s4
      go_enter Try.func6, Try.ntmps6
      go_wp2_with fail
      refine (T1.out w).mono ?_
      rintro e w1 ⟨rfl, rfl⟩
      go_wp2_with fail
      refine (T2.out w).mono ?_
      rintro e w1 ⟨rfl, rfl⟩
      go_wp2_with fail
      refine (awake_yes w).mono ?_
      rintro e w4 ⟨rfl, hb4⟩
      have HY := Lib.hid hb4
      clear hb4
      go_wp2_with fail
      go_ret
      exact ⟨rfl, HY.out⟩
  · have hg' : all < 1 ∨ (1 ≤ all ∧ 100000 < all) ∨ (1 ≤ all ∧ all ≤ 100000 ∧ rows < 1) ∨ (1 ≤ all ∧ all ≤ 100000 ∧ 1 ≤ rows ∧ 500 < rows) ∨ (1 ≤ all ∧ all ≤ 100000 ∧ 1 ≤ rows ∧ rows ≤ 500 ∧ row < 0) ∨ (1 ≤ all ∧ all ≤ 100000 ∧ 1 ≤ rows ∧ rows ≤ 500 ∧ 0 ≤ row ∧ all ≤ row) := by omega
    clear hg g1 g2 g3
    rcases hg' with h | ⟨h, h'⟩ | ⟨h, h', h''⟩ | ⟨h, h', h'', h3⟩ | ⟨h, h', h'', h3, h4⟩ | ⟨h, h', h'', h3, h4, h5⟩
    all_goals
      go_enter Try.func6, Try.ntmps6
      go_wp2_with fail
      refine (awake_yes w).mono ?_
      rintro e w4 ⟨rfl, hb4⟩
      have HY := Lib.hid hb4
      clear hb4
      go_wp2_with fail
      go_ret
      exact ⟨rfl, HY.out⟩
end Go.Proofs.Ytmckoabhgjfiiaa
