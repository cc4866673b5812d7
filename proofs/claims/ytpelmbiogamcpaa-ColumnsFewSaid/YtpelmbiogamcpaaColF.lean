/- columns: one step, in the program's reckoning: it stays among the words, and the other way leads back. -/
import Derived.Test.YtpelmbiogamcpaaColE
namespace Go.Proofs.Ytpelmbiogamcpaa
open Go.RowKit
set_option linter.unusedVariables false
set_option linter.unusedSimpArgs false

/-- One step, in the program's reckoning. -/
def stepTo (r n at_ way : Nat) : Nat :=
  if way = 0 then (if at_ < r then at_ % r + (n - 1 - at_ % r) / r * r else at_ - r)
  else if way = 1 then (if n ≤ at_ + r then at_ % r else at_ + r)
  else if way = 2 then (if at_ % r = 0 then min (at_ / r * r + r) n - 1 else at_ - 1)
  else (if at_ = min (at_ / r * r + r) n - 1 then at_ / r * r else at_ + 1)

theorem stepTo0 (r n at_ : Nat) : stepTo r n at_ 0 = if at_ < r then at_ % r + (n - 1 - at_ % r) / r * r else at_ - r := rfl
theorem stepTo1 (r n at_ : Nat) : stepTo r n at_ 1 = if n ≤ at_ + r then at_ % r else at_ + r := rfl
theorem stepTo2 (r n at_ : Nat) : stepTo r n at_ 2 = if at_ % r = 0 then min (at_ / r * r + r) n - 1 else at_ - 1 := rfl
theorem stepTo3 (r n at_ : Nat) : stepTo r n at_ 3 = if at_ = min (at_ / r * r + r) n - 1 then at_ / r * r else at_ + 1 := rfl

theorem stepTo_min {r n at_ way : Nat} (hr : 0 < r) (h : at_ < n) : stepTo (min r n) n at_ way = stepTo r n at_ way := by
  rcases Nat.lt_or_ge r n with hlt | hge
  · rw [Nat.min_eq_left (by omega)]
  · rw [Nat.min_eq_right hge]
    have e1 : at_ % n = at_ := Nat.mod_eq_of_lt h
    have e2 : at_ % r = at_ := Nat.mod_eq_of_lt (by omega)
    have e3 : at_ / n = 0 := Nat.div_eq_of_lt h
    have e4 : at_ / r = 0 := Nat.div_eq_of_lt (by omega)
    have e5 : (n - 1 - at_) / n = 0 := Nat.div_eq_of_lt (by omega)
    have e6 : (n - 1 - at_) / r = 0 := Nat.div_eq_of_lt (by omega)
    unfold stepTo
    rw [e1, e2, e3, e4, e5, e6, if_pos h, if_pos (show at_ < r by omega), if_pos (show n ≤ at_ + n by omega), if_pos (show n ≤ at_ + r by omega)]
    simp only [Nat.zero_mul, Nat.zero_add]
    rw [Nat.min_self, Nat.min_eq_right hge]

def backOf (way : Nat) : Nat := if way = 0 then 1 else if way = 1 then 0 else if way = 2 then 3 else 2

/-- A place, as its row and its column. -/
theorem at_parts {r at_ : Nat} (hr : 0 < r) : ∃ q m x, at_ % r = m ∧ at_ / r = q ∧ q * r = x ∧ at_ = x + m ∧ m < r := by
  refine ⟨at_ / r, at_ % r, at_ / r * r, rfl, rfl, rfl, ?_, Nat.mod_lt _ hr⟩
  have e := Nat.div_add_mod at_ r
  rw [Nat.mul_comm] at e
  exact e.symm

theorem parts_of {r q m x at_ : Nat} (hr : 0 < r) (hx : q * r = x) (ha : at_ = x + m) (hm : m < r) : at_ % r = m ∧ at_ / r = q := by
  subst ha
  subst hx
  rw [Nat.mul_comm]
  exact ⟨by rw [Nat.mul_add_mod, Nat.mod_eq_of_lt hm], div_at hm⟩

theorem step_in {r n at_ way : Nat} (hr : 0 < r) (h : at_ < n) : stepTo r n at_ way < n := by
  obtain ⟨q, m, x, e1, e2, e3, e4, e5⟩ := at_parts (r := r) (at_ := at_) hr
  unfold stepTo
  rw [e1, e2, e3]
  by_cases h0 : way = 0
  · rw [if_pos h0]
    by_cases h1 : at_ < r
    · rw [if_pos h1]
      have := Nat.div_mul_le_self (n - 1 - m) r
      omega
    · rw [if_neg h1]; omega
  · rw [if_neg h0]
    by_cases h1 : way = 1
    · rw [if_pos h1]
      by_cases h2 : n ≤ at_ + r
      · rw [if_pos h2]; omega
      · rw [if_neg h2]; omega
    · rw [if_neg h1]
      by_cases h2 : way = 2
      · rw [if_pos h2]
        by_cases h3 : m = 0
        · rw [if_pos h3]; omega
        · rw [if_neg h3]; omega
      · rw [if_neg h2]
        by_cases h3 : at_ = min (x + r) n - 1
        · rw [if_pos h3]; omega
        · rw [if_neg h3]; omega

theorem step_back {r n at_ way : Nat} (hr : 0 < r) (h : at_ < n) (hw : way < 4) : stepTo r n (stepTo r n at_ way) (backOf way) = at_ := by
  obtain ⟨q, m, x, e1, e2, e3, e4, e5⟩ := at_parts (r := r) (at_ := at_) hr
  obtain rfl | rfl | rfl | rfl : way = 0 ∨ way = 1 ∨ way = 2 ∨ way = 3 := by omega
  · rw [show backOf 0 = 1 from rfl, stepTo0, stepTo1, e1]
    by_cases h1 : at_ < r
    · rw [if_pos h1]
      obtain ⟨Q, hQ⟩ : ∃ Q, (n - 1 - m) / r = Q := ⟨_, rfl⟩
      obtain ⟨X, hX⟩ : ∃ X, Q * r = X := ⟨_, rfl⟩
      have hd := Nat.div_add_mod (n - 1 - m) r
      have hl := Nat.mod_lt (n - 1 - m) hr
      rw [hQ, Nat.mul_comm, hX] at hd
      rw [hQ, hX]
      have hp := parts_of (at_ := m + X) hr hX (Nat.add_comm _ _) e5
      have hx0 : x = 0 := by
        rcases Nat.eq_zero_or_pos q with hz | hz
        · rw [← e3, hz, Nat.zero_mul]
        · have := Nat.le_mul_of_pos_left r hz; omega
      rw [if_pos (by omega), hp.1]
      omega
    · rw [if_neg h1, if_neg (by omega)]
      omega
  · rw [show backOf 1 = 0 from rfl, stepTo1, stepTo0, e1]
    by_cases h1 : n ≤ at_ + r
    · rw [if_pos h1, if_pos e5, Nat.mod_eq_of_lt e5]
      have : (n - 1 - m) / r = q := by
        have : n - 1 - m = r * q + (n - 1 - m - x) := by rw [Nat.mul_comm]; omega
        rw [this]
        exact div_at (by omega)
      rw [this, e3]
      omega
    · rw [if_neg h1, if_neg (by omega)]
      omega
  · rw [show backOf 2 = 3 from rfl, stepTo2, stepTo3, e1, e2, e3]
    by_cases h1 : m = 0
    · rw [if_pos h1]
      have hp := parts_of (at_ := min (x + r) n - 1) (m := min (x + r) n - 1 - x) hr e3 (by omega) (by omega)
      rw [hp.2, e3, if_pos rfl]
      omega
    · rw [if_neg h1]
      have hp := parts_of (at_ := at_ - 1) (m := m - 1) hr e3 (by omega) (by omega)
      rw [hp.2, e3, if_neg (by omega)]
      omega
  · rw [show backOf 3 = 2 from rfl, stepTo3, stepTo2, e2, e3]
    by_cases h1 : at_ = min (x + r) n - 1
    · rw [if_pos h1]
      have hp := parts_of (at_ := x) (m := 0) hr e3 rfl hr
      rw [hp.1, hp.2, e3, if_pos rfl]
      exact h1.symm
    · rw [if_neg h1]
      have hp := parts_of (at_ := at_ + 1) (m := m + 1) hr e3 (by omega) (by omega)
      rw [hp.1, if_neg (by omega)]
      omega

/-- What one step asks for. -/
def Good (r n at_ way : Int) : Prop := ¬ (r < 1 ∨ n < 1 ∨ 65536 < n ∨ at_ < 0 ∨ n ≤ at_ ∨ way < 0 ∨ 3 < way)

theorem ref_good (r n at_ way : Nat) (w : World) (hr : 0 < r) (hr2 : r ≤ 9223372036854775807) (h : at_ < n) (hn : n ≤ 65536) (hw : way < 4) :
    Calls Try.prog 7 #[.int .i64 r, .int .i64 n, .int .i64 at_, .int .i64 way] w (TellsP (stepTo r n at_ way) w) := by
  obtain rfl | rfl | rfl | rfl : way = 0 ∨ way = 1 ∨ way = 2 ∨ way = 3 := by omega
  · rw [stepTo0, ← row_left hr h]; exact ref_left r n at_ w hr hr2 h hn
  · rw [stepTo1, ← row_right hr h]; exact ref_right r n at_ w hr hr2 h hn
  · rw [stepTo2, ← col_up hr h]; exact ref_up r n at_ w hr hr2 h hn
  · rw [stepTo3, ← col_down hr h]; exact ref_down r n at_ w hr hr2 h hn

/-- No place. -/
def TellsNo (w : World) (e : Ending) (w' : World) : Prop := e = .returned (.tuple #[.int .i64 0, .bool false]) ∧ Below w.heap.size w w'

set_option maxHeartbeats 2000000 in
set_option maxRecDepth 100000 in
theorem ref_bad (r n at_ way : Int) (w : World) (h : ¬ Good r n at_ way) :
    Calls Try.prog 7 #[.int .i64 r, .int .i64 n, .int .i64 at_, .int .i64 way] w (TellsNo w) := by
  unfold Good at h
  have h := Classical.not_not.1 h
  go_enter Try.func7, Try.ntmps7
  by_cases h1 : r < 1
  · have b1 : decide (r < 1) = true := decide_eq_true h1
    clear h h1
    go_wp2
    go_ret2
    exact ⟨rfl, Below.refl _ _⟩
  have b1 : decide (r < 1) = false := decide_eq_false h1
  by_cases h2 : n < 1
  · have b2 : decide (n < 1) = true := decide_eq_true h2
    clear h h1 h2
    go_wp2
    go_ret2
    exact ⟨rfl, Below.refl _ _⟩
  have b2 : decide (n < 1) = false := decide_eq_false h2
  by_cases h3 : 65536 < n
  · have b3 : decide (65536 < n) = true := decide_eq_true h3
    clear h h1 h2 h3
    go_wp2
    go_ret2
    exact ⟨rfl, Below.refl _ _⟩
  have b3 : decide (65536 < n) = false := decide_eq_false h3
  by_cases h4 : at_ < 0
  · have b4 : decide (at_ < 0) = true := decide_eq_true h4
    clear h h1 h2 h3 h4
    go_wp2
    go_ret2
    exact ⟨rfl, Below.refl _ _⟩
  have b4 : decide (at_ < 0) = false := decide_eq_false h4
  by_cases h5 : n ≤ at_
  · have b5 : decide (n ≤ at_) = true := decide_eq_true h5
    clear h h1 h2 h3 h4 h5
    go_wp2
    go_ret2
    exact ⟨rfl, Below.refl _ _⟩
  have b5 : decide (n ≤ at_) = false := decide_eq_false h5
  by_cases h6 : way < 0
  · have b6 : decide (way < 0) = true := decide_eq_true h6
    clear h h1 h2 h3 h4 h5 h6
    go_wp2
    go_ret2
    exact ⟨rfl, Below.refl _ _⟩
  have b6 : decide (way < 0) = false := decide_eq_false h6
  have b7 : decide (3 < way) = true := decide_eq_true (by omega)
  clear h h1 h2 h3 h4 h5 h6
  go_wp2
  go_ret2
  exact ⟨rfl, Below.refl _ _⟩
end Go.Proofs.Ytpelmbiogamcpaa
