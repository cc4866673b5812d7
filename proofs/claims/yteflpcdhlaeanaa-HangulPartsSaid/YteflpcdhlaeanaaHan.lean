/- Korean syllables: the contracts of hangul's functions and of the document's own. -/
import Derived.Test.YteflpcdhlaeanaaSame
namespace Go.Proofs.Yteflpcdhlaeanaa
open Go.RowKit
set_option linter.unusedVariables false

def hpart (r : Int) (j : Nat) : Int := if j = 0 then 4352 + (r - 44032) / 588 else if j = 1 then 4449 + (r - 44032) / 28 % 21 else 4519 + (r - 44032) % 28

/-- What is handed back is a slice of n ints, p 0, p 1, ..; nothing that was there has turned. -/
def Tells (n : Nat) (p : Nat → Int) (w : World) (e : Ending) (w' : World) : Prop :=
  ∃ A c, e = .returned (.slice A n c) ∧ Rd w' A n (iv p) ∧ Below w.heap.size w w'

set_option maxHeartbeats 400000 in
theorem split_no (r : Int) (w : World) (hr : r < 44032 ∨ 55203 < r) : Calls Try.prog 8 #[.int .i32 r] w (Tells 0 (hpart r) w) := by
  rcases hr with hr | hr
  · have d1 : decide (44032 ≤ r) = false := by simp; omega
    go_enter Try.func8, Try.ntmps8
    go_wp2
    go_ret
    exact ⟨_, _, rfl, Rd.empty _ _ _, Below.refl _ _⟩
  · have d1 : decide (44032 ≤ r) = true := by simp; omega
    have d2 : decide (r < 55204) = false := by simp; omega
    go_enter Try.func8, Try.ntmps8
    go_wp2
    go_ret
    exact ⟨_, _, rfl, Rd.empty _ _ _, Below.refl _ _⟩

set_option maxHeartbeats 400000 in
theorem rsplit_no (r : Int) (w : World) (hr : r < 44032 ∨ 55203 < r) : Calls Try.prog 9 #[.int .i32 r] w (Tells 0 (hpart r) w) := by
  rcases hr with hr | hr
  · have d1 : decide (44032 ≤ r) = false := by simp; omega
    go_enter Try.func9, Try.ntmps9
    go_wp2
    go_ret
    exact ⟨_, _, rfl, Rd.empty _ _ _, Below.refl _ _⟩
  · have d1 : decide (44032 ≤ r) = true := by simp; omega
    have d2 : decide (r ≤ 55203) = false := by simp; omega
    go_enter Try.func9, Try.ntmps9
    go_wp2
    go_ret
    exact ⟨_, _, rfl, Rd.empty _ _ _, Below.refl _ _⟩

set_option maxHeartbeats 400000 in
theorem split_two (r : Int) (w : World) (h0 : 44032 ≤ r) (h1 : r < 55204) (h2 : (r - 44032) % 28 = 0) :
    Calls Try.prog 8 #[.int .i32 r] w (Tells 2 (hpart r) w) := by
  go_enter Try.func8, Try.ntmps8
  go_wp2
  go_ret
  refine ⟨_, _, rfl, rd_new _ _ _ _ _ ?_, (Below.refl _ _).alloc (Nat.le_refl _) _⟩
  intro j hj
  match j, hj with
  | 0, _ => simp [iv, hpart]
  | 1, _ => simp [iv, hpart]

set_option maxHeartbeats 400000 in
theorem split_three (r : Int) (w : World) (h0 : 44032 ≤ r) (h1 : r < 55204) (h2 : 0 < (r - 44032) % 28) :
    Calls Try.prog 8 #[.int .i32 r] w (Tells 3 (hpart r) w) := by
  go_enter Try.func8, Try.ntmps8
  go_wp2
  go_ret
  refine ⟨_, _, rfl, rd_new _ _ _ _ _ ?_, (Below.refl _ _).alloc (Nat.le_refl _) _⟩
  intro j hj
  match j, hj with
  | 0, _ => simp [iv, hpart]
  | 1, _ => simp [iv, hpart]
  | 2, _ => simp [iv, hpart]

theorem eltI : Elt Try.prog 23 21 1 4 := elt_of Try.underlying23 (z := .int .i32 0) (by kernel_rfl) rfl (by decide)

set_option maxHeartbeats 400000 in
theorem rsplit_two (r : Int) (w : World) (h0 : 44032 ≤ r) (h1 : r < 55204) (h2 : (r - 44032) % 28 = 0) :
    Calls Try.prog 9 #[.int .i32 r] w (Tells 2 (hpart r) w) := by
  have d1 : decide (44032 ≤ r) = true := by simp; omega
  have d2 : decide (r ≤ 55203) = true := by simp; omega
  have h3 : ((r - 44032) % 28 != 0) = false := by simp; omega
  go_enter Try.func9, Try.ntmps9
  go_wp2
  go_ret
  refine ⟨_, _, rfl, rd_new _ _ _ _ _ ?_, (Below.refl _ _).alloc (Nat.le_refl _) _⟩
  intro j hj
  match j, hj with
  | 0, _ => simp [iv, hpart]
  | 1, _ => simp [iv, hpart]

set_option maxHeartbeats 400000 in
theorem rsplit_three (r : Int) (w : World) (h0 : 44032 ≤ r) (h1 : r < 55204) (h2 : 0 < (r - 44032) % 28) :
    Calls Try.prog 9 #[.int .i32 r] w (Tells 3 (hpart r) w) := by
  have d1 : decide (44032 ≤ r) = true := by simp; omega
  have d2 : decide (r ≤ 55203) = true := by simp; omega
  have h3 : ((r - 44032) % 28 != 0) = true := by simp; omega
  go_enter Try.func9, Try.ntmps9
  go_wp2_with (first | go_in | (at_builtin; go_loud (refine wpList_push eltI (own_new _ _ _ 2 rfl (by unfold maxLen; omega)) (by simp) rfl rfl rfl rfl (by simp) rfl rfl (by unfold maxLen; omega) (by omega) ?_; intro A c w1 hp)))
  go_ret
  refine ⟨_, _, rfl, rd_own hp.own ?_, hp.below ((Below.refl _ _).alloc (Nat.le_refl _) _) (own_new _ _ _ 2 rfl (by unfold maxLen; omega)) (Nat.le_refl _)⟩
  intro j hj
  match j, hj with
  | 0, _ => simp [iv, hpart]
  | 1, _ => simp [iv, hpart]
  | 2, _ => simp [iv, hpart]

end Go.Proofs.Yteflpcdhlaeanaa
