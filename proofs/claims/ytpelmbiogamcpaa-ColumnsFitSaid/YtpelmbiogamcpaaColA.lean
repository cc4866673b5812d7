/- columns: the arithmetic of one step: how many of a row, or of a column, stand ahead of a place. -/
import Derived.Test.YtpelmbiogamcpaaKit
namespace Go.Proofs.Ytpelmbiogamcpaa
set_option linter.unusedVariables false
set_option linter.unusedSimpArgs false

/-- How many of 0 .. i-1 are row modulo r. -/
def cntR (r row i : Nat) : Nat := (i + r - 1 - row) / r
/-- How many of 0 .. i-1 lie in the c-th stretch of r. -/
def cntC (r c i : Nat) : Nat := min (i - c * r) r

theorem div_at {r q m : Nat} (hm : m < r) : (r * q + m) / r = q := by
  rw [Nat.mul_add_div (by omega), Nat.div_eq_of_lt hm, Nat.add_zero]

theorem cntR_zero {r row : Nat} (h : row < r) : cntR r row 0 = 0 := by
  unfold cntR
  exact Nat.div_eq_of_lt (by omega)

theorem cntR_hit {r row i : Nat} (h : row < r) (hi : i % r = row) : cntR r row (i + 1) = cntR r row i + 1 ∧ i = row + cntR r row i * r := by
  have e := Nat.div_add_mod i r
  rw [hi] at e
  obtain ⟨q, hq⟩ : ∃ q, i / r = q := ⟨_, rfl⟩
  rw [hq] at e
  have h1 : cntR r row i = q := by
    unfold cntR
    rw [show i + r - 1 - row = r * q + (r - 1) by omega]
    exact div_at (by omega)
  have h2 : cntR r row (i + 1) = q + 1 := by
    unfold cntR
    rw [show i + 1 + r - 1 - row = r * (q + 1) + 0 by rw [Nat.mul_add]; omega]
    exact div_at (by omega)
  rw [h1, h2]
  exact ⟨rfl, by rw [Nat.mul_comm]; omega⟩

theorem cntR_miss {r row i : Nat} (h : row < r) (hi : i % r ≠ row) : cntR r row (i + 1) = cntR r row i := by
  have e := Nat.div_add_mod i r
  have hm : i % r < r := Nat.mod_lt _ (by omega)
  obtain ⟨q, hq⟩ : ∃ q, i / r = q := ⟨_, rfl⟩
  obtain ⟨m, hmm⟩ : ∃ m, i % r = m := ⟨_, rfl⟩
  rw [hq, hmm] at e
  rw [hmm] at hm hi
  unfold cntR
  rcases Nat.lt_or_gt_of_ne hi with hlt | hgt
  · rw [show i + 1 + r - 1 - row = r * q + (m + r - row) by omega, show i + r - 1 - row = r * q + (m + r - 1 - row) by omega, div_at (by omega), div_at (by omega)]
  · rw [show i + 1 + r - 1 - row = r * (q + 1) + (m - row) by rw [Nat.mul_add]; omega, show i + r - 1 - row = r * (q + 1) + (m - 1 - row) by rw [Nat.mul_add]; omega, div_at (by omega), div_at (by omega)]

theorem cntR_all {r row n : Nat} (h : row < r) (hn : row < n) : cntR r row n = (n - 1 - row) / r + 1 := by
  unfold cntR
  rw [show n + r - 1 - row = (n - 1 - row) + r by omega, Nat.add_div_right _ (by omega)]

theorem cntR_col {r at_ : Nat} (h : 0 < r) : cntR r (at_ % r) at_ = at_ / r := by
  have h1 := (cntR_hit (Nat.mod_lt at_ h) rfl).2
  have e := Nat.div_add_mod at_ r
  have : r * cntR r (at_ % r) at_ = r * (at_ / r) := by rw [Nat.mul_comm r (cntR r (at_ % r) at_)]; omega
  exact Nat.eq_of_mul_eq_mul_left h this

theorem cntR_mono {r row i j : Nat} (hij : i ≤ j) : cntR r row i ≤ cntR r row j := Nat.div_le_div_right (by omega)

theorem cntC_zero {r c : Nat} : cntC r c 0 = 0 := by unfold cntC; omega

theorem cntC_hit {r c i : Nat} (h : 0 < r) (hi : i / r = c) : cntC r c (i + 1) = cntC r c i + 1 ∧ i = c * r + cntC r c i := by
  have e := Nat.div_add_mod i r
  have hm : i % r < r := Nat.mod_lt _ h
  rw [hi, Nat.mul_comm] at e
  unfold cntC
  omega

theorem cntC_miss {r c i : Nat} (h : 0 < r) (hi : i / r ≠ c) : cntC r c (i + 1) = cntC r c i := by
  have h1 : i < c * r ∨ c * r + r ≤ i := by
    rcases Nat.lt_or_ge i (c * r) with hlt | hge
    · exact .inl hlt
    · refine .inr ?_
      rcases Nat.lt_or_ge i (c * r + r) with hlt | hge2
      · exfalso
        apply hi
        have : i = r * c + (i - c * r) := by rw [Nat.mul_comm]; omega
        rw [this]
        exact div_at (by omega)
      · exact hge2
  unfold cntC
  omega

/-- The list of a row's places, or a column's, grows by one. -/
theorem map_grow (f : Nat → Nat) (k i : Nat) (h : i = f k) : ((List.range k).map f) ++ [i] = (List.range (k + 1)).map f := by
  rw [List.range_succ, List.map_append, h]; rfl

/-- What the document's step in a row tells, by the program's reckoning. -/
theorem row_left {r n at_ : Nat} (hr : 0 < r) (h : at_ < n) :
    (at_ % r) + ((at_ / r + cntR r (at_ % r) n - 1) % cntR r (at_ % r) n) * r = if at_ < r then (at_ % r) + (n - 1 - at_ % r) / r * r else at_ - r := by
  have hm := Nat.mod_lt at_ hr
  have hle := Nat.mod_le at_ r
  have hK := cntR_all hm (show at_ % r < n by omega)
  have e := Nat.div_add_mod at_ r
  have hcol : at_ / r < cntR r (at_ % r) n := by
    have h1 := (cntR_hit hm rfl).1
    rw [cntR_col hr] at h1
    have := cntR_mono (r := r) (row := at_ % r) (show at_ + 1 ≤ n by omega)
    omega
  by_cases hlt : at_ < r
  · rw [if_pos hlt, Nat.div_eq_of_lt hlt, hK]
    obtain ⟨Q, hQ⟩ : ∃ Q, (n - 1 - at_ % r) / r = Q := ⟨_, rfl⟩
    rw [hQ, show 0 + (Q + 1) - 1 = Q by omega, Nat.mod_eq_of_lt (show Q < Q + 1 from Nat.lt_succ_self _)]
  · rw [if_neg hlt]
    have hc : 0 < at_ / r := Nat.div_pos (by omega) hr
    rw [show at_ / r + cntR r (at_ % r) n - 1 = (at_ / r - 1) + cntR r (at_ % r) n by omega, Nat.add_mod_right, Nat.mod_eq_of_lt (show at_ / r - 1 < cntR r (at_ % r) n by omega), Nat.sub_mul, Nat.one_mul, Nat.mul_comm]
    have : r ≤ r * (at_ / r) := Nat.le_mul_of_pos_right _ hc
    omega

theorem row_right {r n at_ : Nat} (hr : 0 < r) (h : at_ < n) :
    (at_ % r) + ((at_ / r + 1) % cntR r (at_ % r) n) * r = if n ≤ at_ + r then at_ % r else at_ + r := by
  have hm := Nat.mod_lt at_ hr
  have hle := Nat.mod_le at_ r
  have e := Nat.div_add_mod at_ r
  have h1 := (cntR_hit hm rfl).1
  rw [cntR_col hr] at h1
  by_cases hlt : n ≤ at_ + r
  · rw [if_pos hlt]
    have hle2 := cntR_mono (r := r) (row := at_ % r) hlt
    have hge := cntR_mono (r := r) (row := at_ % r) (show at_ + 1 ≤ n by omega)
    have h3 : cntR r (at_ % r) (at_ + r) = at_ / r + 1 := by
      have h4 := cntR_col (r := r) (at_ := at_ + r) hr
      rw [Nat.add_mod_right, Nat.add_div_right _ hr] at h4
      exact h4
    rw [show cntR r (at_ % r) n = at_ / r + 1 by omega, Nat.mod_self, Nat.zero_mul, Nat.add_zero]
  · rw [if_neg hlt]
    have h3 : cntR r (at_ % r) (at_ + r) = at_ / r + 1 := by
      have h4 := cntR_col (r := r) (at_ := at_ + r) hr
      rw [Nat.add_mod_right, Nat.add_div_right _ hr] at h4
      exact h4
    have h5 := (cntR_hit hm (show (at_ + r) % r = at_ % r by rw [Nat.add_mod_right])).1
    have h6 := cntR_mono (r := r) (row := at_ % r) (show at_ + r + 1 ≤ n by omega)
    rw [Nat.mod_eq_of_lt (show at_ / r + 1 < cntR r (at_ % r) n by omega), Nat.add_mul, Nat.one_mul, Nat.mul_comm]
    omega

/-- The column's last place, and its number of places. -/
theorem col_len {r n at_ : Nat} (hr : 0 < r) (h : at_ < n) : cntC r (at_ / r) n = min (at_ / r * r + r) n - at_ / r * r ∧ cntC r (at_ / r) at_ = at_ % r ∧ at_ % r < cntC r (at_ / r) n := by
  have hm := Nat.mod_lt at_ hr
  have e := Nat.div_add_mod at_ r
  rw [Nat.mul_comm] at e
  unfold cntC
  omega

theorem col_up {r n at_ : Nat} (hr : 0 < r) (h : at_ < n) :
    at_ / r * r + ((at_ % r + cntC r (at_ / r) n - 1) % cntC r (at_ / r) n) = if at_ % r = 0 then min (at_ / r * r + r) n - 1 else at_ - 1 := by
  have hm := Nat.mod_lt at_ hr
  have e := Nat.div_add_mod at_ r
  rw [Nat.mul_comm] at e
  obtain ⟨h1, h2, h3⟩ := col_len hr h
  by_cases h0 : at_ % r = 0
  · rw [if_pos h0, h0, Nat.zero_add, Nat.mod_eq_of_lt (show cntC r (at_ / r) n - 1 < cntC r (at_ / r) n by omega)]
    omega
  · rw [if_neg h0, show at_ % r + cntC r (at_ / r) n - 1 = (at_ % r - 1) + cntC r (at_ / r) n by omega, Nat.add_mod_right, Nat.mod_eq_of_lt (show at_ % r - 1 < cntC r (at_ / r) n by omega)]
    omega

theorem col_down {r n at_ : Nat} (hr : 0 < r) (h : at_ < n) :
    at_ / r * r + ((at_ % r + 1) % cntC r (at_ / r) n) = if at_ = min (at_ / r * r + r) n - 1 then at_ / r * r else at_ + 1 := by
  have hm := Nat.mod_lt at_ hr
  have e := Nat.div_add_mod at_ r
  rw [Nat.mul_comm] at e
  obtain ⟨h1, h2, h3⟩ := col_len hr h
  by_cases h0 : at_ = min (at_ / r * r + r) n - 1
  · rw [if_pos h0, show at_ % r + 1 = cntC r (at_ / r) n by omega, Nat.mod_self, Nat.add_zero]
  · rw [if_neg h0, Nat.mod_eq_of_lt (show at_ % r + 1 < cntC r (at_ / r) n by omega)]
    omega
end Go.Proofs.Ytpelmbiogamcpaa
