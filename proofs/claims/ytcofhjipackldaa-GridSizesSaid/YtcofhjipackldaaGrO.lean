/- grid: GridSizes' walk. -/
import Derived.Test.YtcofhjipackldaaGrN
namespace Go.Proofs.Ytcofhjipackldaa
open Go.RowKit
set_option linter.unusedVariables false
set_option linter.unusedSimpArgs false

def Yes (w : World) (e : Ending) (w' : World) : Prop := e = .returned (.bool true) ∧ Below w.heap.size w w'

theorem eq_noblank : ∀ w, (Go.binOp .eql 28 (.agg #[.string ⟨#[]⟩, .int .i64 0]) (.agg #[.string ⟨#[32]⟩, .int .i64 1])).run Try.prog w = .ok (.bool false) w := fun w => by
  have := eql_cl nought blank w
  simpa [nought, blank] using this
theorem eq_blank : ∀ w, (Go.binOp .eql 28 (.agg #[.string ⟨#[32]⟩, .int .i64 1]) (.agg #[.string ⟨#[32]⟩, .int .i64 1])).run Try.prog w = .ok (.bool true) w := fun w => eql_cl blank blank w
theorem eq_nought : ∀ w, (Go.binOp .eql 28 (.agg #[.string ⟨#[]⟩, .int .i64 0]) (.agg #[.string ⟨#[]⟩, .int .i64 0])).run Try.prog w = .ok (.bool true) w := fun w => by
  have := eql_cl nought nought w
  simpa [nought] using this

set_option maxHeartbeats 2000000 in
theorem sizes_a1 (rows cols r c : Int) (w : World) (h : ¬ 40 < rows) (h1 : rows < 1) : Calls Try.prog 3 #[.int .i64 rows, .int .i64 cols, .int .i64 r, .int .i64 c] w (Yes w) := by
  have q0 := eq_nought
  go_enter Try.func3, Try.ntmps3
  go_wp2_with fail
  refine (new_no (R := rows) (n := cols) w (by omega)).mono ?_
  rintro e w1 ⟨rfl, rfl⟩
  go_wp2_with fail
  refine (size_nil w).mono ?_
  rintro e w1 ⟨rfl, rfl⟩
  go_wp2_with fail
  refine (erase_nil r c w).mono ?_
  rintro e w1 ⟨⟨v, rfl⟩, q, rfl⟩
  go_wp2_with fail
  refine at_calls (fun X => Below w.heap.size w X) (below_drewN (Below.refl _ _) q) ?_
  intro X hX
  have HX := Lib.hid hX
  clear hX
  refine (clear_nil X).mono ?_
  rintro e w1 ⟨⟨v, rfl⟩, rfl⟩
  go_wp2_with fail
  refine (at_nil r c X).mono ?_
  rintro e w2 ⟨rfl, b2⟩
  have H2 := Lib.hid b2
  clear b2
  simp only [nought]
  go_wp2_with fail
  refine (rowof_nil r w2).mono ?_
  rintro e w1 ⟨rfl, rfl⟩
  go_wp2_with fail
  refine (put_nil r c ⟨#[120]⟩ 1 w2).mono ?_
  rintro e w3 ⟨rfl, b3⟩
  have H3 := Lib.hid b3
  clear b3
  go_wp2_with fail
  refine (same_nil w3).mono ?_
  rintro e w4 ⟨rfl, q4, rfl⟩
  go_wp2_with fail
  refine (copy_nil _).mono ?_
  rintro e w4 ⟨rfl, rfl⟩
  go_wp2_with fail
  refine (awake_yes _).mono ?_
  rintro e w5 ⟨rfl, b5⟩
  have H5 := Lib.hid b5
  clear b5
  go_wp2_with fail
  go_ret
  exact ⟨rfl, belowStep HX.out (belowStep H2.out (belowStep H3.out (belowStep (below_drewN (Below.refl _ _) q4) H5.out)))⟩

set_option maxHeartbeats 2000000 in
theorem sizes_a2 (rows cols r c : Int) (w : World) (h : ¬ 40 < rows) (h1 : 1 ≤ rows) (h2 : cols < 2) : Calls Try.prog 3 #[.int .i64 rows, .int .i64 cols, .int .i64 r, .int .i64 c] w (Yes w) := by
  have q0 := eq_nought
  go_enter Try.func3, Try.ntmps3
  go_wp2_with fail
  refine (new_no (R := rows) (n := cols) w (by omega)).mono ?_
  rintro e w1 ⟨rfl, rfl⟩
  go_wp2_with fail
  refine (size_nil w).mono ?_
  rintro e w1 ⟨rfl, rfl⟩
  go_wp2_with fail
  refine (erase_nil r c w).mono ?_
  rintro e w1 ⟨⟨v, rfl⟩, q, rfl⟩
  go_wp2_with fail
  refine at_calls (fun X => Below w.heap.size w X) (below_drewN (Below.refl _ _) q) ?_
  intro X hX
  have HX := Lib.hid hX
  clear hX
  refine (clear_nil X).mono ?_
  rintro e w1 ⟨⟨v, rfl⟩, rfl⟩
  go_wp2_with fail
  refine (at_nil r c X).mono ?_
  rintro e w2 ⟨rfl, b2⟩
  have H2 := Lib.hid b2
  clear b2
  simp only [nought]
  go_wp2_with fail
  refine (rowof_nil r w2).mono ?_
  rintro e w1 ⟨rfl, rfl⟩
  go_wp2_with fail
  refine (put_nil r c ⟨#[120]⟩ 1 w2).mono ?_
  rintro e w3 ⟨rfl, b3⟩
  have H3 := Lib.hid b3
  clear b3
  go_wp2_with fail
  refine (same_nil w3).mono ?_
  rintro e w4 ⟨rfl, q4, rfl⟩
  go_wp2_with fail
  refine (copy_nil _).mono ?_
  rintro e w4 ⟨rfl, rfl⟩
  go_wp2_with fail
  refine (awake_yes _).mono ?_
  rintro e w5 ⟨rfl, b5⟩
  have H5 := Lib.hid b5
  clear b5
  go_wp2_with fail
  go_ret
  exact ⟨rfl, belowStep HX.out (belowStep H2.out (belowStep H3.out (belowStep (below_drewN (Below.refl _ _) q4) H5.out)))⟩

set_option maxHeartbeats 2000000 in
theorem sizes_a3 (rows cols r c : Int) (w : World) (h : ¬ 40 < rows) (h1 : 1 ≤ rows) (h2 : 1000 < cols) : Calls Try.prog 3 #[.int .i64 rows, .int .i64 cols, .int .i64 r, .int .i64 c] w (Yes w) := by
  have q0 := eq_nought
  have dd := decide_eq_false (show ¬ cols ≤ 1000 by omega)
  go_enter Try.func3, Try.ntmps3
  go_wp2_with fail
  refine (new_no (R := rows) (n := cols) w (by omega)).mono ?_
  rintro e w1 ⟨rfl, rfl⟩
  go_wp2_with fail
  refine (size_nil w).mono ?_
  rintro e w1 ⟨rfl, rfl⟩
  go_wp2_with fail
  refine (erase_nil r c w).mono ?_
  rintro e w1 ⟨⟨v, rfl⟩, q, rfl⟩
  go_wp2_with fail
  refine at_calls (fun X => Below w.heap.size w X) (below_drewN (Below.refl _ _) q) ?_
  intro X hX
  have HX := Lib.hid hX
  clear hX
  refine (clear_nil X).mono ?_
  rintro e w1 ⟨⟨v, rfl⟩, rfl⟩
  go_wp2_with fail
  refine (at_nil r c X).mono ?_
  rintro e w2 ⟨rfl, b2⟩
  have H2 := Lib.hid b2
  clear b2
  simp only [nought]
  go_wp2_with fail
  refine (rowof_nil r w2).mono ?_
  rintro e w1 ⟨rfl, rfl⟩
  go_wp2_with fail
  refine (put_nil r c ⟨#[120]⟩ 1 w2).mono ?_
  rintro e w3 ⟨rfl, b3⟩
  have H3 := Lib.hid b3
  clear b3
  go_wp2_with fail
  refine (same_nil w3).mono ?_
  rintro e w4 ⟨rfl, q4, rfl⟩
  go_wp2_with fail
  refine (copy_nil _).mono ?_
  rintro e w4 ⟨rfl, rfl⟩
  go_wp2_with fail
  refine (awake_yes _).mono ?_
  rintro e w5 ⟨rfl, b5⟩
  have H5 := Lib.hid b5
  clear b5
  go_wp2_with fail
  go_ret
  exact ⟨rfl, belowStep HX.out (belowStep H2.out (belowStep H3.out (belowStep (below_drewN (Below.refl _ _) q4) H5.out)))⟩

set_option maxHeartbeats 2000000 in
theorem sizes_b1 (rows cols r c : Int) (w : World) (h : 40 < rows) (h1 : 500 < rows) : Calls Try.prog 3 #[.int .i64 rows, .int .i64 cols, .int .i64 r, .int .i64 c] w (Yes w) := by
  have q0 := eq_nought
  go_enter Try.func3, Try.ntmps3
  go_wp2_with fail
  refine (new_no (R := rows) (n := cols) w (by omega)).mono ?_
  rintro e w1 ⟨rfl, rfl⟩
  go_wp2_with fail
  refine (size_nil w).mono ?_
  rintro e w1 ⟨rfl, rfl⟩
  go_wp2_with fail
  refine (erase_nil r c w).mono ?_
  rintro e w1 ⟨⟨v, rfl⟩, q, rfl⟩
  go_wp2_with fail
  refine at_calls (fun X => Below w.heap.size w X) (below_drewN (Below.refl _ _) q) ?_
  intro X hX
  have HX := Lib.hid hX
  clear hX
  refine (clear_nil X).mono ?_
  rintro e w1 ⟨⟨v, rfl⟩, rfl⟩
  go_wp2_with fail
  refine (at_nil r c X).mono ?_
  rintro e w2 ⟨rfl, b2⟩
  have H2 := Lib.hid b2
  clear b2
  simp only [nought]
  go_wp2_with fail
  refine (rowof_nil r w2).mono ?_
  rintro e w1 ⟨rfl, rfl⟩
  go_wp2_with fail
  refine (put_nil r c ⟨#[120]⟩ 1 w2).mono ?_
  rintro e w3 ⟨rfl, b3⟩
  have H3 := Lib.hid b3
  clear b3
  go_wp2_with fail
  refine (same_nil w3).mono ?_
  rintro e w4 ⟨rfl, q4, rfl⟩
  go_wp2_with fail
  refine (copy_nil _).mono ?_
  rintro e w4 ⟨rfl, rfl⟩
  go_wp2_with fail
  refine (awake_yes _).mono ?_
  rintro e w5 ⟨rfl, b5⟩
  have H5 := Lib.hid b5
  clear b5
  go_wp2_with fail
  go_ret
  exact ⟨rfl, belowStep HX.out (belowStep H2.out (belowStep H3.out (belowStep (below_drewN (Below.refl _ _) q4) H5.out)))⟩

set_option maxHeartbeats 2000000 in
theorem sizes_c1 (rows cols r c : Int) (w : World) (h : 40 < rows) (h1 : rows ≤ 500) (h2 : cols < 2) : Calls Try.prog 3 #[.int .i64 rows, .int .i64 cols, .int .i64 r, .int .i64 c] w (Yes w) := by
  have q0 := eq_nought
  go_enter Try.func3, Try.ntmps3
  go_wp2_with fail
  refine (new_no (R := rows) (n := cols) w (by omega)).mono ?_
  rintro e w1 ⟨rfl, rfl⟩
  go_wp2_with fail
  refine (size_nil w).mono ?_
  rintro e w1 ⟨rfl, rfl⟩
  go_wp2_with fail
  refine (erase_nil r c w).mono ?_
  rintro e w1 ⟨⟨v, rfl⟩, q, rfl⟩
  go_wp2_with fail
  refine at_calls (fun X => Below w.heap.size w X) (below_drewN (Below.refl _ _) q) ?_
  intro X hX
  have HX := Lib.hid hX
  clear hX
  refine (clear_nil X).mono ?_
  rintro e w1 ⟨⟨v, rfl⟩, rfl⟩
  go_wp2_with fail
  refine (at_nil r c X).mono ?_
  rintro e w2 ⟨rfl, b2⟩
  have H2 := Lib.hid b2
  clear b2
  simp only [nought]
  go_wp2_with fail
  refine (rowof_nil r w2).mono ?_
  rintro e w1 ⟨rfl, rfl⟩
  go_wp2_with fail
  refine (put_nil r c ⟨#[120]⟩ 1 w2).mono ?_
  rintro e w3 ⟨rfl, b3⟩
  have H3 := Lib.hid b3
  clear b3
  go_wp2_with fail
  refine (same_nil w3).mono ?_
  rintro e w4 ⟨rfl, q4, rfl⟩
  go_wp2_with fail
  refine (copy_nil _).mono ?_
  rintro e w4 ⟨rfl, rfl⟩
  go_wp2_with fail
  refine (awake_yes _).mono ?_
  rintro e w5 ⟨rfl, b5⟩
  have H5 := Lib.hid b5
  clear b5
  go_wp2_with fail
  go_ret
  exact ⟨rfl, belowStep HX.out (belowStep H2.out (belowStep H3.out (belowStep (below_drewN (Below.refl _ _) q4) H5.out)))⟩

set_option maxHeartbeats 2000000 in
theorem sizes_d1 (rows cols r c : Int) (w : World) (h : 40 < rows) (h1 : rows ≤ 500) (h2 : 1000 < cols) : Calls Try.prog 3 #[.int .i64 rows, .int .i64 cols, .int .i64 r, .int .i64 c] w (Yes w) := by
  have q0 := eq_nought
  have dd := decide_eq_false (show ¬ cols ≤ 1000 by omega)
  go_enter Try.func3, Try.ntmps3
  go_wp2_with fail
  refine (new_no (R := 40) (n := cols) w (by omega)).mono ?_
  rintro e w1 ⟨rfl, rfl⟩
  go_wp2_with fail
  refine (size_nil w).mono ?_
  rintro e w1 ⟨rfl, rfl⟩
  go_wp2_with fail
  refine (erase_nil r c w).mono ?_
  rintro e w1 ⟨⟨v, rfl⟩, q, rfl⟩
  go_wp2_with fail
  refine at_calls (fun X => Below w.heap.size w X) (below_drewN (Below.refl _ _) q) ?_
  intro X hX
  have HX := Lib.hid hX
  clear hX
  refine (clear_nil X).mono ?_
  rintro e w1 ⟨⟨v, rfl⟩, rfl⟩
  go_wp2_with fail
  refine (at_nil r c X).mono ?_
  rintro e w2 ⟨rfl, b2⟩
  have H2 := Lib.hid b2
  clear b2
  simp only [nought]
  go_wp2_with fail
  refine (rowof_nil r w2).mono ?_
  rintro e w1 ⟨rfl, rfl⟩
  go_wp2_with fail
  refine (put_nil r c ⟨#[120]⟩ 1 w2).mono ?_
  rintro e w3 ⟨rfl, b3⟩
  have H3 := Lib.hid b3
  clear b3
  go_wp2_with fail
  refine (same_nil w3).mono ?_
  rintro e w4 ⟨rfl, q4, rfl⟩
  go_wp2_with fail
  refine (copy_nil _).mono ?_
  rintro e w4 ⟨rfl, rfl⟩
  go_wp2_with fail
  refine (awake_yes _).mono ?_
  rintro e w5 ⟨rfl, b5⟩
  have H5 := Lib.hid b5
  clear b5
  go_wp2_with fail
  go_ret
  exact ⟨rfl, belowStep HX.out (belowStep H2.out (belowStep H3.out (belowStep (below_drewN (Below.refl _ _) q4) H5.out)))⟩

set_option maxHeartbeats 2000000 in
theorem sizes_Ai (rows cols : Nat) (r c : Nat) (w : World) (h : rows ≤ 40) (h1 : 1 ≤ rows) (h2 : 2 ≤ cols) (h3 : cols ≤ 1000) (hr : r < rows) (hc : c < cols) : Calls Try.prog 3 #[.int .i64 rows, .int .i64 cols, .int .i64 r, .int .i64 c] w (Yes w) := by
  have q0 := eq_blank
  have e1 : (((rows : Nat) : Int) == ((rows : Nat) : Int)) = true := by simp
  have e3 : (((cols : Int) == (cols : Int))) = true := by simp
  have dd := decide_eq_true (show (cols : Int) ≤ 1000 by omega)
  have de := decide_eq_true hc
  have d1 : (r : Int) < ((rows : Nat) : Int) := by omega
  have d2 : (c : Int) < (cols : Int) := by omega
  go_enter Try.func3, Try.ntmps3
  go_wp2_with fail
  refine (new_in (R := rows) (n := cols) w (by omega) (by omega) (by omega) (by omega)).mono ?_
  rintro e w1 ⟨g, cb, C, rfl, P1, b1⟩
  have H1 := Lib.hid (And.intro P1 b1)
  clear P1 b1
  go_wp2_with fail
  refine (size_any H1.out.1).mono ?_
  rintro e w1' ⟨rfl, q, rfl⟩
  go_wp2_with fail
  refine at_calls (fun X => PG X w.heap.size w1.heap.size g cb C rows cols (fun _ _ => blank) ∧ Below w.heap.size w X) ⟨H1.out.1.drewN q, below_drewN H1.out.2 q⟩ ?_
  rintro X ⟨PX, bX⟩
  have HX := Lib.hid (And.intro PX bX)
  clear PX bX
  refine (at_in HX.out.1 (by omega) (by omega)).mono ?_
  rintro e w2 ⟨rfl, b2⟩
  have P2 := Lib.hid (HX.out.1.later b2)
  have H2 := Lib.hid b2
  clear b2
  simp only [nought, blank]
  go_wp2_with fail
  refine (blank_any w2).mono ?_
  rintro e w3 ⟨rfl, b3⟩
  have P3 := Lib.hid (P2.out.later b3)
  have H3 := Lib.hid b3
  clear b3
  go_wp2_with fail
  refine (same_gnil P3.out).mono ?_
  rintro e w4 ⟨rfl, q4, rfl⟩
  go_wp2_with fail
  refine (awake_yes _).mono ?_
  rintro e w5 ⟨rfl, b5⟩
  have H5 := Lib.hid b5
  clear b5
  go_wp2_with fail
  go_ret
  exact ⟨rfl, belowStep HX.out.2 (belowStep H2.out (belowStep H3.out (belowStep (below_drewN (Below.refl _ _) q4) H5.out)))⟩

set_option maxHeartbeats 2000000 in
theorem sizes_Ar0 (rows cols : Nat) (r c : Int) (w : World) (h : rows ≤ 40) (h1 : 1 ≤ rows) (h2 : 2 ≤ cols) (h3 : cols ≤ 1000) (hr : r < 0) : Calls Try.prog 3 #[.int .i64 rows, .int .i64 cols, .int .i64 r, .int .i64 c] w (Yes w) := by
  have q0 := eq_noblank
  have e1 : (((rows : Nat) : Int) == ((rows : Nat) : Int)) = true := by simp
  have e3 : (((cols : Int) == (cols : Int))) = true := by simp
  have dd := decide_eq_true (show (cols : Int) ≤ 1000 by omega)
  go_enter Try.func3, Try.ntmps3
  go_wp2_with fail
  refine (new_in (R := rows) (n := cols) w (by omega) (by omega) (by omega) (by omega)).mono ?_
  rintro e w1 ⟨g, cb, C, rfl, P1, b1⟩
  have H1 := Lib.hid (And.intro P1 b1)
  clear P1 b1
  go_wp2_with fail
  refine (size_any H1.out.1).mono ?_
  rintro e w1' ⟨rfl, q, rfl⟩
  go_wp2_with fail
  refine at_calls (fun X => PG X w.heap.size w1.heap.size g cb C rows cols (fun _ _ => blank) ∧ Below w.heap.size w X) ⟨H1.out.1.drewN q, below_drewN H1.out.2 q⟩ ?_
  rintro X ⟨PX, bX⟩
  have HX := Lib.hid (And.intro PX bX)
  clear PX bX
  refine (at_row HX.out.1 (by omega)).mono ?_
  rintro e w2 ⟨rfl, b2⟩
  have P2 := Lib.hid (HX.out.1.later b2)
  have H2 := Lib.hid b2
  clear b2
  simp only [nought, blank]
  go_wp2_with fail
  refine (blank_any w2).mono ?_
  rintro e w3 ⟨rfl, b3⟩
  have P3 := Lib.hid (P2.out.later b3)
  have H3 := Lib.hid b3
  clear b3
  go_wp2_with fail
  refine (same_gnil P3.out).mono ?_
  rintro e w4 ⟨rfl, q4, rfl⟩
  go_wp2_with fail
  refine (awake_yes _).mono ?_
  rintro e w5 ⟨rfl, b5⟩
  have H5 := Lib.hid b5
  clear b5
  go_wp2_with fail
  go_ret
  exact ⟨rfl, belowStep HX.out.2 (belowStep H2.out (belowStep H3.out (belowStep (below_drewN (Below.refl _ _) q4) H5.out)))⟩

set_option maxHeartbeats 2000000 in
theorem sizes_Ar1 (rows cols : Nat) (r c : Int) (w : World) (h : rows ≤ 40) (h1 : 1 ≤ rows) (h2 : 2 ≤ cols) (h3 : cols ≤ 1000) (hr : 0 ≤ r) (hr2 : (rows : Nat) ≤ r) : Calls Try.prog 3 #[.int .i64 rows, .int .i64 cols, .int .i64 r, .int .i64 c] w (Yes w) := by
  have q0 := eq_noblank
  have e1 : (((rows : Nat) : Int) == ((rows : Nat) : Int)) = true := by simp
  have e3 : (((cols : Int) == (cols : Int))) = true := by simp
  have dd := decide_eq_true (show (cols : Int) ≤ 1000 by omega)
  go_enter Try.func3, Try.ntmps3
  go_wp2_with fail
  refine (new_in (R := rows) (n := cols) w (by omega) (by omega) (by omega) (by omega)).mono ?_
  rintro e w1 ⟨g, cb, C, rfl, P1, b1⟩
  have H1 := Lib.hid (And.intro P1 b1)
  clear P1 b1
  go_wp2_with fail
  refine (size_any H1.out.1).mono ?_
  rintro e w1' ⟨rfl, q, rfl⟩
  go_wp2_with fail
  refine at_calls (fun X => PG X w.heap.size w1.heap.size g cb C rows cols (fun _ _ => blank) ∧ Below w.heap.size w X) ⟨H1.out.1.drewN q, below_drewN H1.out.2 q⟩ ?_
  rintro X ⟨PX, bX⟩
  have HX := Lib.hid (And.intro PX bX)
  clear PX bX
  refine (at_row HX.out.1 (by omega)).mono ?_
  rintro e w2 ⟨rfl, b2⟩
  have P2 := Lib.hid (HX.out.1.later b2)
  have H2 := Lib.hid b2
  clear b2
  simp only [nought, blank]
  go_wp2_with fail
  refine (blank_any w2).mono ?_
  rintro e w3 ⟨rfl, b3⟩
  have P3 := Lib.hid (P2.out.later b3)
  have H3 := Lib.hid b3
  clear b3
  go_wp2_with fail
  refine (same_gnil P3.out).mono ?_
  rintro e w4 ⟨rfl, q4, rfl⟩
  go_wp2_with fail
  refine (awake_yes _).mono ?_
  rintro e w5 ⟨rfl, b5⟩
  have H5 := Lib.hid b5
  clear b5
  go_wp2_with fail
  go_ret
  exact ⟨rfl, belowStep HX.out.2 (belowStep H2.out (belowStep H3.out (belowStep (below_drewN (Below.refl _ _) q4) H5.out)))⟩

set_option maxHeartbeats 2000000 in
theorem sizes_Ac0 (rows cols : Nat) (r : Nat) (c : Int) (w : World) (h : rows ≤ 40) (h1 : 1 ≤ rows) (h2 : 2 ≤ cols) (h3 : cols ≤ 1000) (hr : r < rows) (hc : c < 0) : Calls Try.prog 3 #[.int .i64 rows, .int .i64 cols, .int .i64 r, .int .i64 c] w (Yes w) := by
  have q0 := eq_noblank
  have e1 : (((rows : Nat) : Int) == ((rows : Nat) : Int)) = true := by simp
  have e3 : (((cols : Int) == (cols : Int))) = true := by simp
  have dd := decide_eq_true (show (cols : Int) ≤ 1000 by omega)
  have d1 : (r : Int) < ((rows : Nat) : Int) := by omega
  go_enter Try.func3, Try.ntmps3
  go_wp2_with fail
  refine (new_in (R := rows) (n := cols) w (by omega) (by omega) (by omega) (by omega)).mono ?_
  rintro e w1 ⟨g, cb, C, rfl, P1, b1⟩
  have H1 := Lib.hid (And.intro P1 b1)
  clear P1 b1
  go_wp2_with fail
  refine (size_any H1.out.1).mono ?_
  rintro e w1' ⟨rfl, q, rfl⟩
  go_wp2_with fail
  refine at_calls (fun X => PG X w.heap.size w1.heap.size g cb C rows cols (fun _ _ => blank) ∧ Below w.heap.size w X) ⟨H1.out.1.drewN q, below_drewN H1.out.2 q⟩ ?_
  rintro X ⟨PX, bX⟩
  have HX := Lib.hid (And.intro PX bX)
  clear PX bX
  refine (at_col HX.out.1 (r := r) (by omega) (by omega)).mono ?_
  rintro e w2 ⟨rfl, b2⟩
  have P2 := Lib.hid (HX.out.1.later b2)
  have H2 := Lib.hid b2
  clear b2
  simp only [nought, blank]
  go_wp2_with fail
  refine (blank_any w2).mono ?_
  rintro e w3 ⟨rfl, b3⟩
  have P3 := Lib.hid (P2.out.later b3)
  have H3 := Lib.hid b3
  clear b3
  go_wp2_with fail
  refine (same_gnil P3.out).mono ?_
  rintro e w4 ⟨rfl, q4, rfl⟩
  go_wp2_with fail
  refine (awake_yes _).mono ?_
  rintro e w5 ⟨rfl, b5⟩
  have H5 := Lib.hid b5
  clear b5
  go_wp2_with fail
  go_ret
  exact ⟨rfl, belowStep HX.out.2 (belowStep H2.out (belowStep H3.out (belowStep (below_drewN (Below.refl _ _) q4) H5.out)))⟩

set_option maxHeartbeats 2000000 in
theorem sizes_Ac1 (rows cols : Nat) (r : Nat) (c : Int) (w : World) (h : rows ≤ 40) (h1 : 1 ≤ rows) (h2 : 2 ≤ cols) (h3 : cols ≤ 1000) (hr : r < rows) (hc : 0 ≤ c) (hc2 : (cols : Int) ≤ c) : Calls Try.prog 3 #[.int .i64 rows, .int .i64 cols, .int .i64 r, .int .i64 c] w (Yes w) := by
  have q0 := eq_noblank
  have e1 : (((rows : Nat) : Int) == ((rows : Nat) : Int)) = true := by simp
  have e3 : (((cols : Int) == (cols : Int))) = true := by simp
  have dd := decide_eq_true (show (cols : Int) ≤ 1000 by omega)
  have de := decide_eq_false (show ¬ c < (cols : Int) by omega)
  have d1 : (r : Int) < ((rows : Nat) : Int) := by omega
  go_enter Try.func3, Try.ntmps3
  go_wp2_with fail
  refine (new_in (R := rows) (n := cols) w (by omega) (by omega) (by omega) (by omega)).mono ?_
  rintro e w1 ⟨g, cb, C, rfl, P1, b1⟩
  have H1 := Lib.hid (And.intro P1 b1)
  clear P1 b1
  go_wp2_with fail
  refine (size_any H1.out.1).mono ?_
  rintro e w1' ⟨rfl, q, rfl⟩
  go_wp2_with fail
  refine at_calls (fun X => PG X w.heap.size w1.heap.size g cb C rows cols (fun _ _ => blank) ∧ Below w.heap.size w X) ⟨H1.out.1.drewN q, below_drewN H1.out.2 q⟩ ?_
  rintro X ⟨PX, bX⟩
  have HX := Lib.hid (And.intro PX bX)
  clear PX bX
  refine (at_col HX.out.1 (r := r) (by omega) (by omega)).mono ?_
  rintro e w2 ⟨rfl, b2⟩
  have P2 := Lib.hid (HX.out.1.later b2)
  have H2 := Lib.hid b2
  clear b2
  simp only [nought, blank]
  go_wp2_with fail
  refine (blank_any w2).mono ?_
  rintro e w3 ⟨rfl, b3⟩
  have P3 := Lib.hid (P2.out.later b3)
  have H3 := Lib.hid b3
  clear b3
  go_wp2_with fail
  refine (same_gnil P3.out).mono ?_
  rintro e w4 ⟨rfl, q4, rfl⟩
  go_wp2_with fail
  refine (awake_yes _).mono ?_
  rintro e w5 ⟨rfl, b5⟩
  have H5 := Lib.hid b5
  clear b5
  go_wp2_with fail
  go_ret
  exact ⟨rfl, belowStep HX.out.2 (belowStep H2.out (belowStep H3.out (belowStep (below_drewN (Below.refl _ _) q4) H5.out)))⟩

set_option maxHeartbeats 2000000 in
theorem sizes_Ci (rows cols : Nat) (r c : Nat) (w : World) (h : 40 < rows) (h1 : rows ≤ 500) (h2 : 2 ≤ cols) (h3 : cols ≤ 40) (hr : r < rows) (hc : c < cols) : Calls Try.prog 3 #[.int .i64 rows, .int .i64 cols, .int .i64 r, .int .i64 c] w (Yes w) := by
  have q0 := eq_blank
  have e1 : (((rows : Nat) : Int) == ((rows : Nat) : Int)) = true := by simp
  have e3 : (((cols : Int) == (cols : Int))) = true := by simp
  have dd := decide_eq_true (show (cols : Int) ≤ 1000 by omega)
  have de := decide_eq_true hc
  have d1 : (r : Int) < ((rows : Nat) : Int) := by omega
  have d2 : (c : Int) < (cols : Int) := by omega
  go_enter Try.func3, Try.ntmps3
  go_wp2_with fail
  refine (new_in (R := rows) (n := cols) w (by omega) (by omega) (by omega) (by omega)).mono ?_
  rintro e w1 ⟨g, cb, C, rfl, P1, b1⟩
  have H1 := Lib.hid (And.intro P1 b1)
  clear P1 b1
  go_wp2_with fail
  refine (size_any H1.out.1).mono ?_
  rintro e w1' ⟨rfl, q, rfl⟩
  go_wp2_with fail
  refine at_calls (fun X => PG X w.heap.size w1.heap.size g cb C rows cols (fun _ _ => blank) ∧ Below w.heap.size w X) ⟨H1.out.1.drewN q, below_drewN H1.out.2 q⟩ ?_
  rintro X ⟨PX, bX⟩
  have HX := Lib.hid (And.intro PX bX)
  clear PX bX
  refine (at_in HX.out.1 (by omega) (by omega)).mono ?_
  rintro e w2 ⟨rfl, b2⟩
  have P2 := Lib.hid (HX.out.1.later b2)
  have H2 := Lib.hid b2
  clear b2
  simp only [nought, blank]
  go_wp2_with fail
  refine (blank_any w2).mono ?_
  rintro e w3 ⟨rfl, b3⟩
  have P3 := Lib.hid (P2.out.later b3)
  have H3 := Lib.hid b3
  clear b3
  go_wp2_with fail
  refine (same_gnil P3.out).mono ?_
  rintro e w4 ⟨rfl, q4, rfl⟩
  go_wp2_with fail
  refine (awake_yes _).mono ?_
  rintro e w5 ⟨rfl, b5⟩
  have H5 := Lib.hid b5
  clear b5
  go_wp2_with fail
  go_ret
  exact ⟨rfl, belowStep HX.out.2 (belowStep H2.out (belowStep H3.out (belowStep (below_drewN (Below.refl _ _) q4) H5.out)))⟩

set_option maxHeartbeats 2000000 in
theorem sizes_Cr0 (rows cols : Nat) (r c : Int) (w : World) (h : 40 < rows) (h1 : rows ≤ 500) (h2 : 2 ≤ cols) (h3 : cols ≤ 40) (hr : r < 0) : Calls Try.prog 3 #[.int .i64 rows, .int .i64 cols, .int .i64 r, .int .i64 c] w (Yes w) := by
  have q0 := eq_noblank
  have e1 : (((rows : Nat) : Int) == ((rows : Nat) : Int)) = true := by simp
  have e3 : (((cols : Int) == (cols : Int))) = true := by simp
  have dd := decide_eq_true (show (cols : Int) ≤ 1000 by omega)
  go_enter Try.func3, Try.ntmps3
  go_wp2_with fail
  refine (new_in (R := rows) (n := cols) w (by omega) (by omega) (by omega) (by omega)).mono ?_
  rintro e w1 ⟨g, cb, C, rfl, P1, b1⟩
  have H1 := Lib.hid (And.intro P1 b1)
  clear P1 b1
  go_wp2_with fail
  refine (size_any H1.out.1).mono ?_
  rintro e w1' ⟨rfl, q, rfl⟩
  go_wp2_with fail
  refine at_calls (fun X => PG X w.heap.size w1.heap.size g cb C rows cols (fun _ _ => blank) ∧ Below w.heap.size w X) ⟨H1.out.1.drewN q, below_drewN H1.out.2 q⟩ ?_
  rintro X ⟨PX, bX⟩
  have HX := Lib.hid (And.intro PX bX)
  clear PX bX
  refine (at_row HX.out.1 (by omega)).mono ?_
  rintro e w2 ⟨rfl, b2⟩
  have P2 := Lib.hid (HX.out.1.later b2)
  have H2 := Lib.hid b2
  clear b2
  simp only [nought, blank]
  go_wp2_with fail
  refine (blank_any w2).mono ?_
  rintro e w3 ⟨rfl, b3⟩
  have P3 := Lib.hid (P2.out.later b3)
  have H3 := Lib.hid b3
  clear b3
  go_wp2_with fail
  refine (same_gnil P3.out).mono ?_
  rintro e w4 ⟨rfl, q4, rfl⟩
  go_wp2_with fail
  refine (awake_yes _).mono ?_
  rintro e w5 ⟨rfl, b5⟩
  have H5 := Lib.hid b5
  clear b5
  go_wp2_with fail
  go_ret
  exact ⟨rfl, belowStep HX.out.2 (belowStep H2.out (belowStep H3.out (belowStep (below_drewN (Below.refl _ _) q4) H5.out)))⟩

set_option maxHeartbeats 2000000 in
theorem sizes_Cr1 (rows cols : Nat) (r c : Int) (w : World) (h : 40 < rows) (h1 : rows ≤ 500) (h2 : 2 ≤ cols) (h3 : cols ≤ 40) (hr : 0 ≤ r) (hr2 : (rows : Nat) ≤ r) : Calls Try.prog 3 #[.int .i64 rows, .int .i64 cols, .int .i64 r, .int .i64 c] w (Yes w) := by
  have q0 := eq_noblank
  have e1 : (((rows : Nat) : Int) == ((rows : Nat) : Int)) = true := by simp
  have e3 : (((cols : Int) == (cols : Int))) = true := by simp
  have dd := decide_eq_true (show (cols : Int) ≤ 1000 by omega)
  go_enter Try.func3, Try.ntmps3
  go_wp2_with fail
  refine (new_in (R := rows) (n := cols) w (by omega) (by omega) (by omega) (by omega)).mono ?_
  rintro e w1 ⟨g, cb, C, rfl, P1, b1⟩
  have H1 := Lib.hid (And.intro P1 b1)
  clear P1 b1
  go_wp2_with fail
  refine (size_any H1.out.1).mono ?_
  rintro e w1' ⟨rfl, q, rfl⟩
  go_wp2_with fail
  refine at_calls (fun X => PG X w.heap.size w1.heap.size g cb C rows cols (fun _ _ => blank) ∧ Below w.heap.size w X) ⟨H1.out.1.drewN q, below_drewN H1.out.2 q⟩ ?_
  rintro X ⟨PX, bX⟩
  have HX := Lib.hid (And.intro PX bX)
  clear PX bX
  refine (at_row HX.out.1 (by omega)).mono ?_
  rintro e w2 ⟨rfl, b2⟩
  have P2 := Lib.hid (HX.out.1.later b2)
  have H2 := Lib.hid b2
  clear b2
  simp only [nought, blank]
  go_wp2_with fail
  refine (blank_any w2).mono ?_
  rintro e w3 ⟨rfl, b3⟩
  have P3 := Lib.hid (P2.out.later b3)
  have H3 := Lib.hid b3
  clear b3
  go_wp2_with fail
  refine (same_gnil P3.out).mono ?_
  rintro e w4 ⟨rfl, q4, rfl⟩
  go_wp2_with fail
  refine (awake_yes _).mono ?_
  rintro e w5 ⟨rfl, b5⟩
  have H5 := Lib.hid b5
  clear b5
  go_wp2_with fail
  go_ret
  exact ⟨rfl, belowStep HX.out.2 (belowStep H2.out (belowStep H3.out (belowStep (below_drewN (Below.refl _ _) q4) H5.out)))⟩

set_option maxHeartbeats 2000000 in
theorem sizes_Cc0 (rows cols : Nat) (r : Nat) (c : Int) (w : World) (h : 40 < rows) (h1 : rows ≤ 500) (h2 : 2 ≤ cols) (h3 : cols ≤ 40) (hr : r < rows) (hc : c < 0) : Calls Try.prog 3 #[.int .i64 rows, .int .i64 cols, .int .i64 r, .int .i64 c] w (Yes w) := by
  have q0 := eq_noblank
  have e1 : (((rows : Nat) : Int) == ((rows : Nat) : Int)) = true := by simp
  have e3 : (((cols : Int) == (cols : Int))) = true := by simp
  have dd := decide_eq_true (show (cols : Int) ≤ 1000 by omega)
  have d1 : (r : Int) < ((rows : Nat) : Int) := by omega
  go_enter Try.func3, Try.ntmps3
  go_wp2_with fail
  refine (new_in (R := rows) (n := cols) w (by omega) (by omega) (by omega) (by omega)).mono ?_
  rintro e w1 ⟨g, cb, C, rfl, P1, b1⟩
  have H1 := Lib.hid (And.intro P1 b1)
  clear P1 b1
  go_wp2_with fail
  refine (size_any H1.out.1).mono ?_
  rintro e w1' ⟨rfl, q, rfl⟩
  go_wp2_with fail
  refine at_calls (fun X => PG X w.heap.size w1.heap.size g cb C rows cols (fun _ _ => blank) ∧ Below w.heap.size w X) ⟨H1.out.1.drewN q, below_drewN H1.out.2 q⟩ ?_
  rintro X ⟨PX, bX⟩
  have HX := Lib.hid (And.intro PX bX)
  clear PX bX
  refine (at_col HX.out.1 (r := r) (by omega) (by omega)).mono ?_
  rintro e w2 ⟨rfl, b2⟩
  have P2 := Lib.hid (HX.out.1.later b2)
  have H2 := Lib.hid b2
  clear b2
  simp only [nought, blank]
  go_wp2_with fail
  refine (blank_any w2).mono ?_
  rintro e w3 ⟨rfl, b3⟩
  have P3 := Lib.hid (P2.out.later b3)
  have H3 := Lib.hid b3
  clear b3
  go_wp2_with fail
  refine (same_gnil P3.out).mono ?_
  rintro e w4 ⟨rfl, q4, rfl⟩
  go_wp2_with fail
  refine (awake_yes _).mono ?_
  rintro e w5 ⟨rfl, b5⟩
  have H5 := Lib.hid b5
  clear b5
  go_wp2_with fail
  go_ret
  exact ⟨rfl, belowStep HX.out.2 (belowStep H2.out (belowStep H3.out (belowStep (below_drewN (Below.refl _ _) q4) H5.out)))⟩

set_option maxHeartbeats 2000000 in
theorem sizes_Cc1 (rows cols : Nat) (r : Nat) (c : Int) (w : World) (h : 40 < rows) (h1 : rows ≤ 500) (h2 : 2 ≤ cols) (h3 : cols ≤ 40) (hr : r < rows) (hc : 0 ≤ c) (hc2 : (cols : Int) ≤ c) : Calls Try.prog 3 #[.int .i64 rows, .int .i64 cols, .int .i64 r, .int .i64 c] w (Yes w) := by
  have q0 := eq_noblank
  have e1 : (((rows : Nat) : Int) == ((rows : Nat) : Int)) = true := by simp
  have e3 : (((cols : Int) == (cols : Int))) = true := by simp
  have dd := decide_eq_true (show (cols : Int) ≤ 1000 by omega)
  have de := decide_eq_false (show ¬ c < (cols : Int) by omega)
  have d1 : (r : Int) < ((rows : Nat) : Int) := by omega
  go_enter Try.func3, Try.ntmps3
  go_wp2_with fail
  refine (new_in (R := rows) (n := cols) w (by omega) (by omega) (by omega) (by omega)).mono ?_
  rintro e w1 ⟨g, cb, C, rfl, P1, b1⟩
  have H1 := Lib.hid (And.intro P1 b1)
  clear P1 b1
  go_wp2_with fail
  refine (size_any H1.out.1).mono ?_
  rintro e w1' ⟨rfl, q, rfl⟩
  go_wp2_with fail
  refine at_calls (fun X => PG X w.heap.size w1.heap.size g cb C rows cols (fun _ _ => blank) ∧ Below w.heap.size w X) ⟨H1.out.1.drewN q, below_drewN H1.out.2 q⟩ ?_
  rintro X ⟨PX, bX⟩
  have HX := Lib.hid (And.intro PX bX)
  clear PX bX
  refine (at_col HX.out.1 (r := r) (by omega) (by omega)).mono ?_
  rintro e w2 ⟨rfl, b2⟩
  have P2 := Lib.hid (HX.out.1.later b2)
  have H2 := Lib.hid b2
  clear b2
  simp only [nought, blank]
  go_wp2_with fail
  refine (blank_any w2).mono ?_
  rintro e w3 ⟨rfl, b3⟩
  have P3 := Lib.hid (P2.out.later b3)
  have H3 := Lib.hid b3
  clear b3
  go_wp2_with fail
  refine (same_gnil P3.out).mono ?_
  rintro e w4 ⟨rfl, q4, rfl⟩
  go_wp2_with fail
  refine (awake_yes _).mono ?_
  rintro e w5 ⟨rfl, b5⟩
  have H5 := Lib.hid b5
  clear b5
  go_wp2_with fail
  go_ret
  exact ⟨rfl, belowStep HX.out.2 (belowStep H2.out (belowStep H3.out (belowStep (below_drewN (Below.refl _ _) q4) H5.out)))⟩

set_option maxHeartbeats 2000000 in
theorem sizes_Di (rows cols : Nat) (r c : Nat) (w : World) (h : 40 < rows) (h1 : rows ≤ 500) (h2 : 40 < cols) (h3 : cols ≤ 1000) (hr : r < 40) (hc : c < cols) : Calls Try.prog 3 #[.int .i64 rows, .int .i64 cols, .int .i64 r, .int .i64 c] w (Yes w) := by
  have q0 := eq_blank
  have e1 : (((40 : Nat) : Int) == ((40 : Nat) : Int)) = true := by simp
  have e3 : (((cols : Int) == (cols : Int))) = true := by simp
  have dd := decide_eq_true (show (cols : Int) ≤ 1000 by omega)
  have de := decide_eq_true hc
  have d1 : (r : Int) < ((40 : Nat) : Int) := by omega
  have d2 : (c : Int) < (cols : Int) := by omega
  go_enter Try.func3, Try.ntmps3
  go_wp2_with fail
  refine (new_in (R := 40) (n := cols) w (by omega) (by omega) (by omega) (by omega)).mono ?_
  rintro e w1 ⟨g, cb, C, rfl, P1, b1⟩
  have H1 := Lib.hid (And.intro P1 b1)
  clear P1 b1
  go_wp2_with fail
  refine (size_any H1.out.1).mono ?_
  rintro e w1' ⟨rfl, q, rfl⟩
  go_wp2_with fail
  refine at_calls (fun X => PG X w.heap.size w1.heap.size g cb C 40 cols (fun _ _ => blank) ∧ Below w.heap.size w X) ⟨H1.out.1.drewN q, below_drewN H1.out.2 q⟩ ?_
  rintro X ⟨PX, bX⟩
  have HX := Lib.hid (And.intro PX bX)
  clear PX bX
  refine (at_in HX.out.1 (by omega) (by omega)).mono ?_
  rintro e w2 ⟨rfl, b2⟩
  have P2 := Lib.hid (HX.out.1.later b2)
  have H2 := Lib.hid b2
  clear b2
  simp only [nought, blank]
  go_wp2_with fail
  refine (blank_any w2).mono ?_
  rintro e w3 ⟨rfl, b3⟩
  have P3 := Lib.hid (P2.out.later b3)
  have H3 := Lib.hid b3
  clear b3
  go_wp2_with fail
  refine (same_gnil P3.out).mono ?_
  rintro e w4 ⟨rfl, q4, rfl⟩
  go_wp2_with fail
  refine (awake_yes _).mono ?_
  rintro e w5 ⟨rfl, b5⟩
  have H5 := Lib.hid b5
  clear b5
  go_wp2_with fail
  go_ret
  exact ⟨rfl, belowStep HX.out.2 (belowStep H2.out (belowStep H3.out (belowStep (below_drewN (Below.refl _ _) q4) H5.out)))⟩

set_option maxHeartbeats 2000000 in
theorem sizes_Dr0 (rows cols : Nat) (r c : Int) (w : World) (h : 40 < rows) (h1 : rows ≤ 500) (h2 : 40 < cols) (h3 : cols ≤ 1000) (hr : r < 0) : Calls Try.prog 3 #[.int .i64 rows, .int .i64 cols, .int .i64 r, .int .i64 c] w (Yes w) := by
  have q0 := eq_noblank
  have e1 : (((40 : Nat) : Int) == ((40 : Nat) : Int)) = true := by simp
  have e3 : (((cols : Int) == (cols : Int))) = true := by simp
  have dd := decide_eq_true (show (cols : Int) ≤ 1000 by omega)
  go_enter Try.func3, Try.ntmps3
  go_wp2_with fail
  refine (new_in (R := 40) (n := cols) w (by omega) (by omega) (by omega) (by omega)).mono ?_
  rintro e w1 ⟨g, cb, C, rfl, P1, b1⟩
  have H1 := Lib.hid (And.intro P1 b1)
  clear P1 b1
  go_wp2_with fail
  refine (size_any H1.out.1).mono ?_
  rintro e w1' ⟨rfl, q, rfl⟩
  go_wp2_with fail
  refine at_calls (fun X => PG X w.heap.size w1.heap.size g cb C 40 cols (fun _ _ => blank) ∧ Below w.heap.size w X) ⟨H1.out.1.drewN q, below_drewN H1.out.2 q⟩ ?_
  rintro X ⟨PX, bX⟩
  have HX := Lib.hid (And.intro PX bX)
  clear PX bX
  refine (at_row HX.out.1 (by omega)).mono ?_
  rintro e w2 ⟨rfl, b2⟩
  have P2 := Lib.hid (HX.out.1.later b2)
  have H2 := Lib.hid b2
  clear b2
  simp only [nought, blank]
  go_wp2_with fail
  refine (blank_any w2).mono ?_
  rintro e w3 ⟨rfl, b3⟩
  have P3 := Lib.hid (P2.out.later b3)
  have H3 := Lib.hid b3
  clear b3
  go_wp2_with fail
  refine (same_gnil P3.out).mono ?_
  rintro e w4 ⟨rfl, q4, rfl⟩
  go_wp2_with fail
  refine (awake_yes _).mono ?_
  rintro e w5 ⟨rfl, b5⟩
  have H5 := Lib.hid b5
  clear b5
  go_wp2_with fail
  go_ret
  exact ⟨rfl, belowStep HX.out.2 (belowStep H2.out (belowStep H3.out (belowStep (below_drewN (Below.refl _ _) q4) H5.out)))⟩

set_option maxHeartbeats 2000000 in
theorem sizes_Dr1 (rows cols : Nat) (r c : Int) (w : World) (h : 40 < rows) (h1 : rows ≤ 500) (h2 : 40 < cols) (h3 : cols ≤ 1000) (hr : 0 ≤ r) (hr2 : (40 : Nat) ≤ r) : Calls Try.prog 3 #[.int .i64 rows, .int .i64 cols, .int .i64 r, .int .i64 c] w (Yes w) := by
  have q0 := eq_noblank
  have e1 : (((40 : Nat) : Int) == ((40 : Nat) : Int)) = true := by simp
  have e3 : (((cols : Int) == (cols : Int))) = true := by simp
  have dd := decide_eq_true (show (cols : Int) ≤ 1000 by omega)
  go_enter Try.func3, Try.ntmps3
  go_wp2_with fail
  refine (new_in (R := 40) (n := cols) w (by omega) (by omega) (by omega) (by omega)).mono ?_
  rintro e w1 ⟨g, cb, C, rfl, P1, b1⟩
  have H1 := Lib.hid (And.intro P1 b1)
  clear P1 b1
  go_wp2_with fail
  refine (size_any H1.out.1).mono ?_
  rintro e w1' ⟨rfl, q, rfl⟩
  go_wp2_with fail
  refine at_calls (fun X => PG X w.heap.size w1.heap.size g cb C 40 cols (fun _ _ => blank) ∧ Below w.heap.size w X) ⟨H1.out.1.drewN q, below_drewN H1.out.2 q⟩ ?_
  rintro X ⟨PX, bX⟩
  have HX := Lib.hid (And.intro PX bX)
  clear PX bX
  refine (at_row HX.out.1 (by omega)).mono ?_
  rintro e w2 ⟨rfl, b2⟩
  have P2 := Lib.hid (HX.out.1.later b2)
  have H2 := Lib.hid b2
  clear b2
  simp only [nought, blank]
  go_wp2_with fail
  refine (blank_any w2).mono ?_
  rintro e w3 ⟨rfl, b3⟩
  have P3 := Lib.hid (P2.out.later b3)
  have H3 := Lib.hid b3
  clear b3
  go_wp2_with fail
  refine (same_gnil P3.out).mono ?_
  rintro e w4 ⟨rfl, q4, rfl⟩
  go_wp2_with fail
  refine (awake_yes _).mono ?_
  rintro e w5 ⟨rfl, b5⟩
  have H5 := Lib.hid b5
  clear b5
  go_wp2_with fail
  go_ret
  exact ⟨rfl, belowStep HX.out.2 (belowStep H2.out (belowStep H3.out (belowStep (below_drewN (Below.refl _ _) q4) H5.out)))⟩

set_option maxHeartbeats 2000000 in
theorem sizes_Dc0 (rows cols : Nat) (r : Nat) (c : Int) (w : World) (h : 40 < rows) (h1 : rows ≤ 500) (h2 : 40 < cols) (h3 : cols ≤ 1000) (hr : r < 40) (hc : c < 0) : Calls Try.prog 3 #[.int .i64 rows, .int .i64 cols, .int .i64 r, .int .i64 c] w (Yes w) := by
  have q0 := eq_noblank
  have e1 : (((40 : Nat) : Int) == ((40 : Nat) : Int)) = true := by simp
  have e3 : (((cols : Int) == (cols : Int))) = true := by simp
  have dd := decide_eq_true (show (cols : Int) ≤ 1000 by omega)
  have d1 : (r : Int) < ((40 : Nat) : Int) := by omega
  go_enter Try.func3, Try.ntmps3
  go_wp2_with fail
  refine (new_in (R := 40) (n := cols) w (by omega) (by omega) (by omega) (by omega)).mono ?_
  rintro e w1 ⟨g, cb, C, rfl, P1, b1⟩
  have H1 := Lib.hid (And.intro P1 b1)
  clear P1 b1
  go_wp2_with fail
  refine (size_any H1.out.1).mono ?_
  rintro e w1' ⟨rfl, q, rfl⟩
  go_wp2_with fail
  refine at_calls (fun X => PG X w.heap.size w1.heap.size g cb C 40 cols (fun _ _ => blank) ∧ Below w.heap.size w X) ⟨H1.out.1.drewN q, below_drewN H1.out.2 q⟩ ?_
  rintro X ⟨PX, bX⟩
  have HX := Lib.hid (And.intro PX bX)
  clear PX bX
  refine (at_col HX.out.1 (r := r) (by omega) (by omega)).mono ?_
  rintro e w2 ⟨rfl, b2⟩
  have P2 := Lib.hid (HX.out.1.later b2)
  have H2 := Lib.hid b2
  clear b2
  simp only [nought, blank]
  go_wp2_with fail
  refine (blank_any w2).mono ?_
  rintro e w3 ⟨rfl, b3⟩
  have P3 := Lib.hid (P2.out.later b3)
  have H3 := Lib.hid b3
  clear b3
  go_wp2_with fail
  refine (same_gnil P3.out).mono ?_
  rintro e w4 ⟨rfl, q4, rfl⟩
  go_wp2_with fail
  refine (awake_yes _).mono ?_
  rintro e w5 ⟨rfl, b5⟩
  have H5 := Lib.hid b5
  clear b5
  go_wp2_with fail
  go_ret
  exact ⟨rfl, belowStep HX.out.2 (belowStep H2.out (belowStep H3.out (belowStep (below_drewN (Below.refl _ _) q4) H5.out)))⟩

set_option maxHeartbeats 2000000 in
theorem sizes_Dc1 (rows cols : Nat) (r : Nat) (c : Int) (w : World) (h : 40 < rows) (h1 : rows ≤ 500) (h2 : 40 < cols) (h3 : cols ≤ 1000) (hr : r < 40) (hc : 0 ≤ c) (hc2 : (cols : Int) ≤ c) : Calls Try.prog 3 #[.int .i64 rows, .int .i64 cols, .int .i64 r, .int .i64 c] w (Yes w) := by
  have q0 := eq_noblank
  have e1 : (((40 : Nat) : Int) == ((40 : Nat) : Int)) = true := by simp
  have e3 : (((cols : Int) == (cols : Int))) = true := by simp
  have dd := decide_eq_true (show (cols : Int) ≤ 1000 by omega)
  have de := decide_eq_false (show ¬ c < (cols : Int) by omega)
  have d1 : (r : Int) < ((40 : Nat) : Int) := by omega
  go_enter Try.func3, Try.ntmps3
  go_wp2_with fail
  refine (new_in (R := 40) (n := cols) w (by omega) (by omega) (by omega) (by omega)).mono ?_
  rintro e w1 ⟨g, cb, C, rfl, P1, b1⟩
  have H1 := Lib.hid (And.intro P1 b1)
  clear P1 b1
  go_wp2_with fail
  refine (size_any H1.out.1).mono ?_
  rintro e w1' ⟨rfl, q, rfl⟩
  go_wp2_with fail
  refine at_calls (fun X => PG X w.heap.size w1.heap.size g cb C 40 cols (fun _ _ => blank) ∧ Below w.heap.size w X) ⟨H1.out.1.drewN q, below_drewN H1.out.2 q⟩ ?_
  rintro X ⟨PX, bX⟩
  have HX := Lib.hid (And.intro PX bX)
  clear PX bX
  refine (at_col HX.out.1 (r := r) (by omega) (by omega)).mono ?_
  rintro e w2 ⟨rfl, b2⟩
  have P2 := Lib.hid (HX.out.1.later b2)
  have H2 := Lib.hid b2
  clear b2
  simp only [nought, blank]
  go_wp2_with fail
  refine (blank_any w2).mono ?_
  rintro e w3 ⟨rfl, b3⟩
  have P3 := Lib.hid (P2.out.later b3)
  have H3 := Lib.hid b3
  clear b3
  go_wp2_with fail
  refine (same_gnil P3.out).mono ?_
  rintro e w4 ⟨rfl, q4, rfl⟩
  go_wp2_with fail
  refine (awake_yes _).mono ?_
  rintro e w5 ⟨rfl, b5⟩
  have H5 := Lib.hid b5
  clear b5
  go_wp2_with fail
  go_ret
  exact ⟨rfl, belowStep HX.out.2 (belowStep H2.out (belowStep H3.out (belowStep (below_drewN (Below.refl _ _) q4) H5.out)))⟩

theorem walk_GridSizes (rows : Int) (w0 : (Lit.int .i64 rows).wf = true) (cols : Int) (w1 : (Lit.int .i64 cols).wf = true) (r : Int) (w2 : (Lit.int .i64 r).wf = true) (c : Int) (w3 : (Lit.int .i64 c).wf = true) (w : World) :
    Calls Try.prog 3 #[.int .i64 rows, .int .i64 cols, .int .i64 r, .int .i64 c] w (Yes w) := by
  by_cases h40 : 40 < rows
  · by_cases h500 : 500 < rows
    · exact sizes_b1 rows cols r c w h40 h500
    · by_cases n2 : cols < 2
      · exact sizes_c1 rows cols r c w h40 (by omega) n2
      · by_cases n1000 : 1000 < cols
        · exact sizes_d1 rows cols r c w h40 (by omega) n1000
        · obtain ⟨rows, rfl⟩ := Int.eq_ofNat_of_zero_le (show 0 ≤ rows by omega)
          obtain ⟨cols, rfl⟩ := Int.eq_ofNat_of_zero_le (show 0 ≤ cols by omega)
          by_cases n40 : 40 < cols
          · by_cases r0 : r < 0
            · exact sizes_Dr0 rows cols r c w (by omega) (by omega) (by omega) (by omega) r0
            · by_cases r1 : ((40 : Nat) : Int) ≤ r
              · exact sizes_Dr1 rows cols r c w (by omega) (by omega) (by omega) (by omega) (by omega) r1
              · obtain ⟨r, rfl⟩ := Int.eq_ofNat_of_zero_le (show 0 ≤ r by omega)
                by_cases c0 : c < 0
                · exact sizes_Dc0 rows cols r c w (by omega) (by omega) (by omega) (by omega) (by omega) c0
                · by_cases c1 : (cols : Int) ≤ c
                  · exact sizes_Dc1 rows cols r c w (by omega) (by omega) (by omega) (by omega) (by omega) (by omega) c1
                  · obtain ⟨c, rfl⟩ := Int.eq_ofNat_of_zero_le (show 0 ≤ c by omega)
                    exact sizes_Di rows cols r c w (by omega) (by omega) (by omega) (by omega) (by omega) (by omega)
          · by_cases r0 : r < 0
            · exact sizes_Cr0 rows cols r c w (by omega) (by omega) (by omega) (by omega) r0
            · by_cases r1 : (rows : Int) ≤ r
              · exact sizes_Cr1 rows cols r c w (by omega) (by omega) (by omega) (by omega) (by omega) r1
              · obtain ⟨r, rfl⟩ := Int.eq_ofNat_of_zero_le (show 0 ≤ r by omega)
                by_cases c0 : c < 0
                · exact sizes_Cc0 rows cols r c w (by omega) (by omega) (by omega) (by omega) (by omega) c0
                · by_cases c1 : (cols : Int) ≤ c
                  · exact sizes_Cc1 rows cols r c w (by omega) (by omega) (by omega) (by omega) (by omega) (by omega) c1
                  · obtain ⟨c, rfl⟩ := Int.eq_ofNat_of_zero_le (show 0 ≤ c by omega)
                    exact sizes_Ci rows cols r c w (by omega) (by omega) (by omega) (by omega) (by omega) (by omega)
  · by_cases h1 : rows < 1
    · exact sizes_a1 rows cols r c w h40 h1
    · by_cases n2 : cols < 2
      · exact sizes_a2 rows cols r c w h40 (by omega) n2
      · by_cases n1000 : 1000 < cols
        · exact sizes_a3 rows cols r c w h40 (by omega) n1000
        · obtain ⟨rows, rfl⟩ := Int.eq_ofNat_of_zero_le (show 0 ≤ rows by omega)
          obtain ⟨cols, rfl⟩ := Int.eq_ofNat_of_zero_le (show 0 ≤ cols by omega)
          by_cases r0 : r < 0
          · exact sizes_Ar0 rows cols r c w (by omega) (by omega) (by omega) (by omega) r0
          · by_cases r1 : (rows : Int) ≤ r
            · exact sizes_Ar1 rows cols r c w (by omega) (by omega) (by omega) (by omega) (by omega) r1
            · obtain ⟨r, rfl⟩ := Int.eq_ofNat_of_zero_le (show 0 ≤ r by omega)
              by_cases c0 : c < 0
              · exact sizes_Ac0 rows cols r c w (by omega) (by omega) (by omega) (by omega) (by omega) c0
              · by_cases c1 : (cols : Int) ≤ c
                · exact sizes_Ac1 rows cols r c w (by omega) (by omega) (by omega) (by omega) (by omega) (by omega) c1
                · obtain ⟨c, rfl⟩ := Int.eq_ofNat_of_zero_le (show 0 ≤ c by omega)
                  exact sizes_Ai rows cols r c w (by omega) (by omega) (by omega) (by omega) (by omega) (by omega)
end Go.Proofs.Ytcofhjipackldaa
