/- columns: the plan's step. -/
import Derived.Test.YtpelmbiogamcpaaColF
namespace Go.Proofs.Ytpelmbiogamcpaa
open Go.RowKit
set_option linter.unusedVariables false
set_option linter.unusedSimpArgs false

set_option maxHeartbeats 2000000 in
set_option maxRecDepth 100000 in
theorem plan_left (r0 n at_ : Nat) (w : World) (hr : 0 < r0) (hr2 : r0 ≤ 9223372036854775807) (h : at_ < n) (hn : n ≤ 65536) :
    Calls Try.prog 6 #[.agg #[.int .i64 r0, .slice none 0 0], .int .i64 n, .int .i64 at_, .int .i64 0] w (TellsP (stepTo r0 n at_ 0) w) := by
  rw [← stepTo_min hr h]
  by_cases hc : n < r0
  · rw [Nat.min_eq_right (by omega)]
    obtain ⟨q, m, x, e1, e2, e3, e4, e5⟩ := at_parts (r := n) (at_ := at_) (by omega)
    have hq : q ≤ 65536 := by rw [← e2]; have := Nat.div_le_self at_ n; omega
    have b1 : decide ((r0 : Int) < 1) = false := decide_eq_false (by omega)
    have b2 : decide ((n : Int) < 1) = false := decide_eq_false (by omega)
    have b3 : decide ((65536 : Int) < (n : Int)) = false := decide_eq_false (by omega)
    have b4 : decide ((at_ : Int) < 0) = false := decide_eq_false (by omega)
    have b5 : decide (n ≤ at_) = false := decide_eq_false (by omega)
    have hm : Int.tmod (at_ : Int) (n : Int) = (m : Int) := by rw [Int.tmod_eq_emod_of_nonneg (by omega), ← e1]; rfl
    have hd : Int.tdiv (at_ : Int) (n : Int) = (q : Int) := by rw [Int.tdiv_eq_ediv_of_nonneg (by omega), ← e2]; rfl
    have hm' : (at_ : Int) % (n : Int) = (m : Int) := by rw [← e1]; rfl
    have hd' : (at_ : Int) / (n : Int) = (q : Int) := by rw [← e2]; rfl
    have hx : (q : Int) * (n : Int) = (x : Int) := by rw [← e3]; simp
    have hx1 : x ≤ at_ := by omega
    have hx2 : at_ < x + n := by omega
    have hm3 : m ≤ at_ := by omega
    have HE := Lib.hid (And.intro e1 (And.intro e2 (And.intro e3 (And.intro e4 e5))))
    clear e1 e2 e3 e4 e5
    have hr1 : ((n : Int) == 0) = false := by simp; omega
    obtain ⟨Q, hQ⟩ : ∃ Q, (n - 1 - m) / n = Q := ⟨_, rfl⟩
    obtain ⟨X, hX⟩ : ∃ X, Q * n = X := ⟨_, rfl⟩
    have hQ1 : X ≤ n - 1 - m := by rw [← hX, ← hQ]; exact Nat.div_mul_le_self _ _
    have hQ2 : Q ≤ 65536 := by rw [← hQ]; have := Nat.div_le_self (n - 1 - m) n; omega
    have hy : ((n : Int) - 1 - (m : Int)) / (n : Int) = (Q : Int) := by rw [← hQ, show (n : Int) - 1 - (m : Int) = ((n - 1 - m : Nat) : Int) by omega]; rfl
    have hz : (Q : Int) * (n : Int) = (X : Int) := by rw [← hX]; simp
    have HQ := Lib.hid (And.intro hQ hX)
    clear hQ hX
    go_enter Try.func6, Try.ntmps6
    go_wp2
    go_quiet (fail)
    go_wp2
    all_goals
      go_ret2
      refine ⟨congrArg (fun z : Int => Ending.returned (.tuple #[.int .i64 z, .bool true])) ?_, below_drewN ((Below.refl _ _).alloc (Nat.le_refl _) _) _⟩
      rw [stepTo0, HE.out.1, HQ.out.1, HQ.out.2]
      split <;> omega
  · rw [Nat.min_eq_left (by omega)]
    obtain ⟨q, m, x, e1, e2, e3, e4, e5⟩ := at_parts (r := r0) (at_ := at_) hr
    have hq : q ≤ 65536 := by rw [← e2]; have := Nat.div_le_self at_ r0; omega
    have b1 : decide ((r0 : Int) < 1) = false := decide_eq_false (by omega)
    have b2 : decide ((n : Int) < 1) = false := decide_eq_false (by omega)
    have b3 : decide ((65536 : Int) < (n : Int)) = false := decide_eq_false (by omega)
    have b4 : decide ((at_ : Int) < 0) = false := decide_eq_false (by omega)
    have b5 : decide (n ≤ at_) = false := decide_eq_false (by omega)
    have hm : Int.tmod (at_ : Int) (r0 : Int) = (m : Int) := by rw [Int.tmod_eq_emod_of_nonneg (by omega), ← e1]; rfl
    have hd : Int.tdiv (at_ : Int) (r0 : Int) = (q : Int) := by rw [Int.tdiv_eq_ediv_of_nonneg (by omega), ← e2]; rfl
    have hm' : (at_ : Int) % (r0 : Int) = (m : Int) := by rw [← e1]; rfl
    have hd' : (at_ : Int) / (r0 : Int) = (q : Int) := by rw [← e2]; rfl
    have hx : (q : Int) * (r0 : Int) = (x : Int) := by rw [← e3]; simp
    have hx1 : x ≤ at_ := by omega
    have hx2 : at_ < x + r0 := by omega
    have hm3 : m ≤ at_ := by omega
    have HE := Lib.hid (And.intro e1 (And.intro e2 (And.intro e3 (And.intro e4 e5))))
    clear e1 e2 e3 e4 e5
    have hr1 : ((r0 : Int) == 0) = false := by simp; omega
    obtain ⟨Q, hQ⟩ : ∃ Q, (n - 1 - m) / r0 = Q := ⟨_, rfl⟩
    obtain ⟨X, hX⟩ : ∃ X, Q * r0 = X := ⟨_, rfl⟩
    have hQ1 : X ≤ n - 1 - m := by rw [← hX, ← hQ]; exact Nat.div_mul_le_self _ _
    have hQ2 : Q ≤ 65536 := by rw [← hQ]; have := Nat.div_le_self (n - 1 - m) r0; omega
    have hy : ((n : Int) - 1 - (m : Int)) / (r0 : Int) = (Q : Int) := by rw [← hQ, show (n : Int) - 1 - (m : Int) = ((n - 1 - m : Nat) : Int) by omega]; rfl
    have hz : (Q : Int) * (r0 : Int) = (X : Int) := by rw [← hX]; simp
    have HQ := Lib.hid (And.intro hQ hX)
    clear hQ hX
    go_enter Try.func6, Try.ntmps6
    go_wp2
    go_quiet (fail)
    go_wp2
    all_goals
      go_ret2
      refine ⟨congrArg (fun z : Int => Ending.returned (.tuple #[.int .i64 z, .bool true])) ?_, below_drewN ((Below.refl _ _).alloc (Nat.le_refl _) _) _⟩
      rw [stepTo0, HE.out.1, HQ.out.1, HQ.out.2]
      split <;> omega

set_option maxHeartbeats 2000000 in
set_option maxRecDepth 100000 in
theorem plan_right (r0 n at_ : Nat) (w : World) (hr : 0 < r0) (hr2 : r0 ≤ 9223372036854775807) (h : at_ < n) (hn : n ≤ 65536) :
    Calls Try.prog 6 #[.agg #[.int .i64 r0, .slice none 0 0], .int .i64 n, .int .i64 at_, .int .i64 1] w (TellsP (stepTo r0 n at_ 1) w) := by
  rw [← stepTo_min hr h]
  by_cases hc : n < r0
  · rw [Nat.min_eq_right (by omega)]
    obtain ⟨q, m, x, e1, e2, e3, e4, e5⟩ := at_parts (r := n) (at_ := at_) (by omega)
    have hq : q ≤ 65536 := by rw [← e2]; have := Nat.div_le_self at_ n; omega
    have b1 : decide ((r0 : Int) < 1) = false := decide_eq_false (by omega)
    have b2 : decide ((n : Int) < 1) = false := decide_eq_false (by omega)
    have b3 : decide ((65536 : Int) < (n : Int)) = false := decide_eq_false (by omega)
    have b4 : decide ((at_ : Int) < 0) = false := decide_eq_false (by omega)
    have b5 : decide (n ≤ at_) = false := decide_eq_false (by omega)
    have hm : Int.tmod (at_ : Int) (n : Int) = (m : Int) := by rw [Int.tmod_eq_emod_of_nonneg (by omega), ← e1]; rfl
    have hd : Int.tdiv (at_ : Int) (n : Int) = (q : Int) := by rw [Int.tdiv_eq_ediv_of_nonneg (by omega), ← e2]; rfl
    have hm' : (at_ : Int) % (n : Int) = (m : Int) := by rw [← e1]; rfl
    have hd' : (at_ : Int) / (n : Int) = (q : Int) := by rw [← e2]; rfl
    have hx : (q : Int) * (n : Int) = (x : Int) := by rw [← e3]; simp
    have hx1 : x ≤ at_ := by omega
    have hx2 : at_ < x + n := by omega
    have hm3 : m ≤ at_ := by omega
    have HE := Lib.hid (And.intro e1 (And.intro e2 (And.intro e3 (And.intro e4 e5))))
    clear e1 e2 e3 e4 e5
    have hr1 : ((n : Int) == 0) = false := by simp; omega
    go_enter Try.func6, Try.ntmps6
    go_wp2
    go_quiet (fail)
    go_wp2
    all_goals
      go_ret2
      refine ⟨congrArg (fun z : Int => Ending.returned (.tuple #[.int .i64 z, .bool true])) ?_, below_drewN ((Below.refl _ _).alloc (Nat.le_refl _) _) _⟩
      rw [stepTo1, HE.out.1]
      split <;> omega
  · rw [Nat.min_eq_left (by omega)]
    obtain ⟨q, m, x, e1, e2, e3, e4, e5⟩ := at_parts (r := r0) (at_ := at_) hr
    have hq : q ≤ 65536 := by rw [← e2]; have := Nat.div_le_self at_ r0; omega
    have b1 : decide ((r0 : Int) < 1) = false := decide_eq_false (by omega)
    have b2 : decide ((n : Int) < 1) = false := decide_eq_false (by omega)
    have b3 : decide ((65536 : Int) < (n : Int)) = false := decide_eq_false (by omega)
    have b4 : decide ((at_ : Int) < 0) = false := decide_eq_false (by omega)
    have b5 : decide (n ≤ at_) = false := decide_eq_false (by omega)
    have hm : Int.tmod (at_ : Int) (r0 : Int) = (m : Int) := by rw [Int.tmod_eq_emod_of_nonneg (by omega), ← e1]; rfl
    have hd : Int.tdiv (at_ : Int) (r0 : Int) = (q : Int) := by rw [Int.tdiv_eq_ediv_of_nonneg (by omega), ← e2]; rfl
    have hm' : (at_ : Int) % (r0 : Int) = (m : Int) := by rw [← e1]; rfl
    have hd' : (at_ : Int) / (r0 : Int) = (q : Int) := by rw [← e2]; rfl
    have hx : (q : Int) * (r0 : Int) = (x : Int) := by rw [← e3]; simp
    have hx1 : x ≤ at_ := by omega
    have hx2 : at_ < x + r0 := by omega
    have hm3 : m ≤ at_ := by omega
    have HE := Lib.hid (And.intro e1 (And.intro e2 (And.intro e3 (And.intro e4 e5))))
    clear e1 e2 e3 e4 e5
    have hr1 : ((r0 : Int) == 0) = false := by simp; omega
    go_enter Try.func6, Try.ntmps6
    go_wp2
    go_quiet (fail)
    go_wp2
    all_goals
      go_ret2
      refine ⟨congrArg (fun z : Int => Ending.returned (.tuple #[.int .i64 z, .bool true])) ?_, below_drewN ((Below.refl _ _).alloc (Nat.le_refl _) _) _⟩
      rw [stepTo1, HE.out.1]
      split <;> omega

set_option maxHeartbeats 2000000 in
set_option maxRecDepth 100000 in
theorem plan_up (r0 n at_ : Nat) (w : World) (hr : 0 < r0) (hr2 : r0 ≤ 9223372036854775807) (h : at_ < n) (hn : n ≤ 65536) :
    Calls Try.prog 6 #[.agg #[.int .i64 r0, .slice none 0 0], .int .i64 n, .int .i64 at_, .int .i64 2] w (TellsP (stepTo r0 n at_ 2) w) := by
  rw [← stepTo_min hr h]
  by_cases hc : n < r0
  · rw [Nat.min_eq_right (by omega)]
    obtain ⟨q, m, x, e1, e2, e3, e4, e5⟩ := at_parts (r := n) (at_ := at_) (by omega)
    have hq : q ≤ 65536 := by rw [← e2]; have := Nat.div_le_self at_ n; omega
    have b1 : decide ((r0 : Int) < 1) = false := decide_eq_false (by omega)
    have b2 : decide ((n : Int) < 1) = false := decide_eq_false (by omega)
    have b3 : decide ((65536 : Int) < (n : Int)) = false := decide_eq_false (by omega)
    have b4 : decide ((at_ : Int) < 0) = false := decide_eq_false (by omega)
    have b5 : decide (n ≤ at_) = false := decide_eq_false (by omega)
    have hm : Int.tmod (at_ : Int) (n : Int) = (m : Int) := by rw [Int.tmod_eq_emod_of_nonneg (by omega), ← e1]; rfl
    have hd : Int.tdiv (at_ : Int) (n : Int) = (q : Int) := by rw [Int.tdiv_eq_ediv_of_nonneg (by omega), ← e2]; rfl
    have hm' : (at_ : Int) % (n : Int) = (m : Int) := by rw [← e1]; rfl
    have hd' : (at_ : Int) / (n : Int) = (q : Int) := by rw [← e2]; rfl
    have hx : (q : Int) * (n : Int) = (x : Int) := by rw [← e3]; simp
    have hx1 : x ≤ at_ := by omega
    have hx2 : at_ < x + n := by omega
    have hm3 : m ≤ at_ := by omega
    have HE := Lib.hid (And.intro e1 (And.intro e2 (And.intro e3 (And.intro e4 e5))))
    clear e1 e2 e3 e4 e5
    have hr1 : ((n : Int) == 0) = false := by simp; omega
    have h0 : ((m : Int) == 0) = decide (m = 0) := by by_cases h0 : m = 0 <;> simp [h0]
    go_enter Try.func6, Try.ntmps6
    go_wp2
    go_quiet (fail)
    go_wp2
    all_goals
      go_ret2
      refine ⟨congrArg (fun z : Int => Ending.returned (.tuple #[.int .i64 z, .bool true])) ?_, below_drewN ((Below.refl _ _).alloc (Nat.le_refl _) _) _⟩
      rw [stepTo2, HE.out.1, HE.out.2.1, HE.out.2.2.1]
      split <;> omega
  · rw [Nat.min_eq_left (by omega)]
    obtain ⟨q, m, x, e1, e2, e3, e4, e5⟩ := at_parts (r := r0) (at_ := at_) hr
    have hq : q ≤ 65536 := by rw [← e2]; have := Nat.div_le_self at_ r0; omega
    have b1 : decide ((r0 : Int) < 1) = false := decide_eq_false (by omega)
    have b2 : decide ((n : Int) < 1) = false := decide_eq_false (by omega)
    have b3 : decide ((65536 : Int) < (n : Int)) = false := decide_eq_false (by omega)
    have b4 : decide ((at_ : Int) < 0) = false := decide_eq_false (by omega)
    have b5 : decide (n ≤ at_) = false := decide_eq_false (by omega)
    have hm : Int.tmod (at_ : Int) (r0 : Int) = (m : Int) := by rw [Int.tmod_eq_emod_of_nonneg (by omega), ← e1]; rfl
    have hd : Int.tdiv (at_ : Int) (r0 : Int) = (q : Int) := by rw [Int.tdiv_eq_ediv_of_nonneg (by omega), ← e2]; rfl
    have hm' : (at_ : Int) % (r0 : Int) = (m : Int) := by rw [← e1]; rfl
    have hd' : (at_ : Int) / (r0 : Int) = (q : Int) := by rw [← e2]; rfl
    have hx : (q : Int) * (r0 : Int) = (x : Int) := by rw [← e3]; simp
    have hx1 : x ≤ at_ := by omega
    have hx2 : at_ < x + r0 := by omega
    have hm3 : m ≤ at_ := by omega
    have HE := Lib.hid (And.intro e1 (And.intro e2 (And.intro e3 (And.intro e4 e5))))
    clear e1 e2 e3 e4 e5
    have hr1 : ((r0 : Int) == 0) = false := by simp; omega
    have h0 : ((m : Int) == 0) = decide (m = 0) := by by_cases h0 : m = 0 <;> simp [h0]
    go_enter Try.func6, Try.ntmps6
    go_wp2
    go_quiet (fail)
    go_wp2
    all_goals
      go_ret2
      refine ⟨congrArg (fun z : Int => Ending.returned (.tuple #[.int .i64 z, .bool true])) ?_, below_drewN ((Below.refl _ _).alloc (Nat.le_refl _) _) _⟩
      rw [stepTo2, HE.out.1, HE.out.2.1, HE.out.2.2.1]
      split <;> omega

set_option maxHeartbeats 2000000 in
set_option maxRecDepth 100000 in
theorem plan_down (r0 n at_ : Nat) (w : World) (hr : 0 < r0) (hr2 : r0 ≤ 9223372036854775807) (h : at_ < n) (hn : n ≤ 65536) :
    Calls Try.prog 6 #[.agg #[.int .i64 r0, .slice none 0 0], .int .i64 n, .int .i64 at_, .int .i64 3] w (TellsP (stepTo r0 n at_ 3) w) := by
  rw [← stepTo_min hr h]
  by_cases hc : n < r0
  · rw [Nat.min_eq_right (by omega)]
    obtain ⟨q, m, x, e1, e2, e3, e4, e5⟩ := at_parts (r := n) (at_ := at_) (by omega)
    have hq : q ≤ 65536 := by rw [← e2]; have := Nat.div_le_self at_ n; omega
    have b1 : decide ((r0 : Int) < 1) = false := decide_eq_false (by omega)
    have b2 : decide ((n : Int) < 1) = false := decide_eq_false (by omega)
    have b3 : decide ((65536 : Int) < (n : Int)) = false := decide_eq_false (by omega)
    have b4 : decide ((at_ : Int) < 0) = false := decide_eq_false (by omega)
    have b5 : decide (n ≤ at_) = false := decide_eq_false (by omega)
    have hm : Int.tmod (at_ : Int) (n : Int) = (m : Int) := by rw [Int.tmod_eq_emod_of_nonneg (by omega), ← e1]; rfl
    have hd : Int.tdiv (at_ : Int) (n : Int) = (q : Int) := by rw [Int.tdiv_eq_ediv_of_nonneg (by omega), ← e2]; rfl
    have hm' : (at_ : Int) % (n : Int) = (m : Int) := by rw [← e1]; rfl
    have hd' : (at_ : Int) / (n : Int) = (q : Int) := by rw [← e2]; rfl
    have hx : (q : Int) * (n : Int) = (x : Int) := by rw [← e3]; simp
    have hx1 : x ≤ at_ := by omega
    have hx2 : at_ < x + n := by omega
    have hm3 : m ≤ at_ := by omega
    have HE := Lib.hid (And.intro e1 (And.intro e2 (And.intro e3 (And.intro e4 e5))))
    clear e1 e2 e3 e4 e5
    have hr1 : ((n : Int) == 0) = false := by simp; omega
    go_enter Try.func6, Try.ntmps6
    go_wp2
    go_quiet (fail)
    go_wp2
    all_goals
      go_ret2
      refine ⟨congrArg (fun z : Int => Ending.returned (.tuple #[.int .i64 z, .bool true])) ?_, below_drewN ((Below.refl _ _).alloc (Nat.le_refl _) _) _⟩
      rw [stepTo3, HE.out.2.1, HE.out.2.2.1]
      rename_i hbe
      simp at hbe
      split at hbe <;> split <;> omega
  · rw [Nat.min_eq_left (by omega)]
    obtain ⟨q, m, x, e1, e2, e3, e4, e5⟩ := at_parts (r := r0) (at_ := at_) hr
    have hq : q ≤ 65536 := by rw [← e2]; have := Nat.div_le_self at_ r0; omega
    have b1 : decide ((r0 : Int) < 1) = false := decide_eq_false (by omega)
    have b2 : decide ((n : Int) < 1) = false := decide_eq_false (by omega)
    have b3 : decide ((65536 : Int) < (n : Int)) = false := decide_eq_false (by omega)
    have b4 : decide ((at_ : Int) < 0) = false := decide_eq_false (by omega)
    have b5 : decide (n ≤ at_) = false := decide_eq_false (by omega)
    have hm : Int.tmod (at_ : Int) (r0 : Int) = (m : Int) := by rw [Int.tmod_eq_emod_of_nonneg (by omega), ← e1]; rfl
    have hd : Int.tdiv (at_ : Int) (r0 : Int) = (q : Int) := by rw [Int.tdiv_eq_ediv_of_nonneg (by omega), ← e2]; rfl
    have hm' : (at_ : Int) % (r0 : Int) = (m : Int) := by rw [← e1]; rfl
    have hd' : (at_ : Int) / (r0 : Int) = (q : Int) := by rw [← e2]; rfl
    have hx : (q : Int) * (r0 : Int) = (x : Int) := by rw [← e3]; simp
    have hx1 : x ≤ at_ := by omega
    have hx2 : at_ < x + r0 := by omega
    have hm3 : m ≤ at_ := by omega
    have HE := Lib.hid (And.intro e1 (And.intro e2 (And.intro e3 (And.intro e4 e5))))
    clear e1 e2 e3 e4 e5
    have hr1 : ((r0 : Int) == 0) = false := by simp; omega
    go_enter Try.func6, Try.ntmps6
    go_wp2
    go_quiet (fail)
    go_wp2
    all_goals
      go_ret2
      refine ⟨congrArg (fun z : Int => Ending.returned (.tuple #[.int .i64 z, .bool true])) ?_, below_drewN ((Below.refl _ _).alloc (Nat.le_refl _) _) _⟩
      rw [stepTo3, HE.out.2.1, HE.out.2.2.1]
      rename_i hbe
      simp at hbe
      split at hbe <;> split <;> omega
end Go.Proofs.Ytpelmbiogamcpaa
