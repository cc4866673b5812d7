/- columns: the plan's step, refused; ColumnsGo's walk. -/
import Derived.Test.YtpelmbiogamcpaaColP
import Derived.Test.YtpelmbiogamcpaaArg
namespace Go.Proofs.Ytpelmbiogamcpaa
open Go.RowKit
set_option linter.unusedVariables false
set_option linter.unusedSimpArgs false

set_option maxHeartbeats 2000000 in
set_option maxRecDepth 100000 in
theorem plan_noway (r0 n at_ : Nat) (way : Int) (w : World) (hr : 0 < r0) (hr2 : r0 ≤ 9223372036854775807) (h : at_ < n) (hn : n ≤ 65536) (hw : way < 0 ∨ 3 < way) :
    Calls Try.prog 6 #[.agg #[.int .i64 r0, .slice none 0 0], .int .i64 n, .int .i64 at_, .int .i64 way] w (TellsNo w) := by
  have w0 : (way == 0) = false := by simp; omega
  have w1 : (way == 1) = false := by simp; omega
  have w2 : (way == 2) = false := by simp; omega
  have w3 : (way == 3) = false := by simp; omega
  clear hw
  by_cases hc : n < r0
  · obtain ⟨q, m, x, e1, e2, e3, e4, e5⟩ := at_parts (r := n) (at_ := at_) (by omega)
    have hq : q ≤ 65536 := by rw [← e2]; have := Nat.div_le_self at_ n; omega
    have b1 : decide ((r0 : Int) < 1) = false := decide_eq_false (by omega)
    have b2 : decide ((n : Int) < 1) = false := decide_eq_false (by omega)
    have b3 : decide ((65536 : Int) < (n : Int)) = false := decide_eq_false (by omega)
    have b4 : decide ((at_ : Int) < 0) = false := decide_eq_false (by omega)
    have b5 : decide (n ≤ at_) = false := decide_eq_false (by omega)
    have hm : Int.tmod (at_ : Int) (n : Int) = (m : Int) := by rw [Int.tmod_eq_emod_of_nonneg (by omega), ← e1]; rfl
    have hd : Int.tdiv (at_ : Int) (n : Int) = (q : Int) := by rw [Int.tdiv_eq_ediv_of_nonneg (by omega), ← e2]; rfl
    have hm' : (at_ : Int) % (n : Int) = (m : Int) := by rw [← e1]; rfl
    have hd' : (at_ : Int) / (n : Int) = (q : Int) := by rw [← e2]; rfl
    have hx : (q : Int) * (n : Int) = (x : Int) := by rw [← e3]; simp
    have hx1 : x ≤ at_ := by omega
    have hx2 : at_ < x + n := by omega
    have hm3 : m ≤ at_ := by omega
    clear e1 e2 e3 e4 e5
    have hr1 : ((n : Int) == 0) = false := by simp; omega
    go_enter Try.func6, Try.ntmps6
    go_wp2
    go_quiet (fail)
    go_wp2
    all_goals
      go_ret2
      exact ⟨rfl, below_drewN ((Below.refl _ _).alloc (Nat.le_refl _) _) _⟩
  · obtain ⟨q, m, x, e1, e2, e3, e4, e5⟩ := at_parts (r := r0) (at_ := at_) hr
    have hq : q ≤ 65536 := by rw [← e2]; have := Nat.div_le_self at_ r0; omega
    have b1 : decide ((r0 : Int) < 1) = false := decide_eq_false (by omega)
    have b2 : decide ((n : Int) < 1) = false := decide_eq_false (by omega)
    have b3 : decide ((65536 : Int) < (n : Int)) = false := decide_eq_false (by omega)
    have b4 : decide ((at_ : Int) < 0) = false := decide_eq_false (by omega)
    have b5 : decide (n ≤ at_) = false := decide_eq_false (by omega)
    have hm : Int.tmod (at_ : Int) (r0 : Int) = (m : Int) := by rw [Int.tmod_eq_emod_of_nonneg (by omega), ← e1]; rfl
    have hd : Int.tdiv (at_ : Int) (r0 : Int) = (q : Int) := by rw [Int.tdiv_eq_ediv_of_nonneg (by omega), ← e2]; rfl
    have hm' : (at_ : Int) % (r0 : Int) = (m : Int) := by rw [← e1]; rfl
    have hd' : (at_ : Int) / (r0 : Int) = (q : Int) := by rw [← e2]; rfl
    have hx : (q : Int) * (r0 : Int) = (x : Int) := by rw [← e3]; simp
    have hx1 : x ≤ at_ := by omega
    have hx2 : at_ < x + r0 := by omega
    have hm3 : m ≤ at_ := by omega
    clear e1 e2 e3 e4 e5
    have hr1 : ((r0 : Int) == 0) = false := by simp; omega
    go_enter Try.func6, Try.ntmps6
    go_wp2
    go_quiet (fail)
    go_wp2
    all_goals
      go_ret2
      exact ⟨rfl, below_drewN ((Below.refl _ _).alloc (Nat.le_refl _) _) _⟩

set_option maxHeartbeats 2000000 in
set_option maxRecDepth 100000 in
theorem plan_bad (r n at_ way : Int) (w : World) (wr : (Lit.int .i64 r).wf = true) (h : ¬ Good r n at_ way) :
    Calls Try.prog 6 #[.agg #[.int .i64 r, .slice none 0 0], .int .i64 n, .int .i64 at_, .int .i64 way] w (TellsNo w) := by
  unfold Good at h
  have h := Classical.not_not.1 h
  by_cases h1 : r < 1
  · have b1 : decide (r < 1) = true := decide_eq_true h1
    clear h h1
    go_enter Try.func6, Try.ntmps6
    go_wp2
    go_ret2
    exact ⟨rfl, (Below.refl _ _).alloc (Nat.le_refl _) _⟩
  have b1 : decide (r < 1) = false := decide_eq_false h1
  by_cases h2 : n < 1
  · have b2 : decide (n < 1) = true := decide_eq_true h2
    clear h h1 h2
    go_enter Try.func6, Try.ntmps6
    go_wp2
    go_ret2
    exact ⟨rfl, (Below.refl _ _).alloc (Nat.le_refl _) _⟩
  have b2 : decide (n < 1) = false := decide_eq_false h2
  by_cases h3 : 65536 < n
  · have b3 : decide (65536 < n) = true := decide_eq_true h3
    clear h h1 h2 h3
    go_enter Try.func6, Try.ntmps6
    go_wp2
    go_ret2
    exact ⟨rfl, (Below.refl _ _).alloc (Nat.le_refl _) _⟩
  have b3 : decide (65536 < n) = false := decide_eq_false h3
  by_cases h4 : at_ < 0
  · have b4 : decide (at_ < 0) = true := decide_eq_true h4
    clear h h1 h2 h3 h4
    go_enter Try.func6, Try.ntmps6
    go_wp2
    go_ret2
    exact ⟨rfl, (Below.refl _ _).alloc (Nat.le_refl _) _⟩
  have b4 : decide (at_ < 0) = false := decide_eq_false h4
  by_cases h5 : n ≤ at_
  · have b5 : decide (n ≤ at_) = true := decide_eq_true h5
    clear h h1 h2 h3 h4 h5
    go_enter Try.func6, Try.ntmps6
    go_wp2
    go_ret2
    exact ⟨rfl, (Below.refl _ _).alloc (Nat.le_refl _) _⟩
  have b5 : decide (n ≤ at_) = false := decide_eq_false h5
  have hw := wf_i64 wr
  obtain ⟨r', rfl⟩ : ∃ x : Nat, r = (x : Int) := ⟨r.toNat, by omega⟩
  obtain ⟨n', rfl⟩ : ∃ x : Nat, n = (x : Int) := ⟨n.toNat, by omega⟩
  obtain ⟨a', rfl⟩ : ∃ x : Nat, at_ = (x : Int) := ⟨at_.toNat, by omega⟩
  exact plan_noway r' n' a' way w (by omega) (by omega) (by omega) (by omega) (by omega)

theorem plan_good (r n at_ way : Nat) (w : World) (hr : 0 < r) (hr2 : r ≤ 9223372036854775807) (h : at_ < n) (hn : n ≤ 65536) (hw : way < 4) :
    Calls Try.prog 6 #[.agg #[.int .i64 r, .slice none 0 0], .int .i64 n, .int .i64 at_, .int .i64 way] w (TellsP (stepTo r n at_ way) w) := by
  obtain rfl | rfl | rfl | rfl : way = 0 ∨ way = 1 ∨ way = 2 ∨ way = 3 := by omega
  · exact plan_left r n at_ w hr hr2 h hn
  · exact plan_right r n at_ w hr hr2 h hn
  · exact plan_up r n at_ w hr hr2 h hn
  · exact plan_down r n at_ w hr hr2 h hn

theorem backOf_lt {y : Nat} (h : y < 4) : backOf y < 4 := by
  obtain rfl | rfl | rfl | rfl : y = 0 ∨ y = 1 ∨ y = 2 ∨ y = 3 := by omega
  all_goals decide

/-- The law's plan, in a cell of its own. -/
theorem var_one (w : World) (a b : Value) (t : TypeId) : Blk (w.alloc (.cells #[a, b] t)) w.heap.size #[a, b] ∧ Below w.heap.size w (w.alloc (.cells #[a, b] t)) :=
  ⟨blk_new w _ t, (Below.refl _ _).alloc (Nat.le_refl _) _⟩

set_option maxHeartbeats 4000000 in
set_option maxRecDepth 100000 in
theorem walk_many (r p y : Nat) (a1 : Int) (w : World) (hr0 : 0 < r) (hr2 : r ≤ 9223372036854775807) (hpn : p < 300) (hc : 300 < a1) (hy4 : y < 4) :
    Calls Try.prog 3 #[.int .i64 r, .int .i64 a1, .int .i64 p, .int .i64 y] w (Yes w) := by
  have V := Lib.hid (var_one w (.int .i64 r) (.slice none 0 0) 24)
  have c1 : decide ((300 : Int) < a1) = true := decide_eq_true hc
  obtain ⟨z, hz⟩ : ∃ z, stepTo r 300 p y = z := ⟨_, rfl⟩
  have hzn : z < 300 := hz ▸ step_in hr0 hpn
  have HB := Lib.hid (show stepTo r 300 z (backOf y) = p from hz ▸ step_back hr0 hpn hy4)
  have C1 : Calls Try.prog 6 #[.agg #[.int .i64 r, .slice none 0 0], .int .i64 300, .int .i64 p, .int .i64 y] (w.alloc (.cells #[.int .i64 r, .slice none 0 0] 24)) (TellsP (stepTo r 300 p y) _) := plan_good r 300 p y (w.alloc (.cells #[.int .i64 r, .slice none 0 0] 24)) hr0 hr2 hpn (by omega) hy4
  rw [hz] at C1
  have C1 := Lib.hid C1
  have HZ := Lib.hid hz
  clear hz
  go_enter Try.func3, Try.ntmps3
  go_wp2_with fail
  (with_reducible refine C1.out.mono ?_)
  rintro e w5 ⟨rfl, hb5⟩
  have B5 := Lib.hid (And.intro (V.out.1.later hb5 V.out.1.1) (V.out.2.trans (hb5.mono V.out.2.size)))
  have C2 : Calls Try.prog 7 #[.int .i64 r, .int .i64 300, .int .i64 p, .int .i64 y] w5 (TellsP (stepTo r 300 p y) _) := ref_good r 300 p y w5 hr0 hr2 hpn (by omega) hy4
  rw [HZ.out] at C2
  have C2 := Lib.hid C2
  clear hb5
  go_wp2_with fail
  (with_reducible refine C2.out.mono ?_)
  rintro e w6 ⟨rfl, hb6⟩
  have B6 := Lib.hid (And.intro (B5.out.1.later hb6 B5.out.1.1) (B5.out.2.trans (hb6.mono B5.out.2.size)))
  obtain ⟨z0, m0, n0⟩ := (show Blk _ _ _ from B6.out.1)
  clear hb6
  have dz : ((z : Int) != (z : Int)) = false := by simp
  have dp : ((p : Int) == (p : Int)) = true := by simp
  obtain ⟨b, hb4, hbb⟩ : ∃ b : Nat, b < 4 ∧ backOf y = b := ⟨backOf y, backOf_lt hy4, rfl⟩
  have hld : ∀ h : y < ([Value.int .i64 1, .int .i64 0, .int .i64 3, .int .i64 2] : List Value).length, ([Value.int .i64 1, .int .i64 0, .int .i64 3, .int .i64 2] : List Value)[y] = .int .i64 (b : Nat) := by
    obtain rfl | rfl | rfl | rfl : y = 0 ∨ y = 1 ∨ y = 2 ∨ y = 3 := by omega
    all_goals (intro h; rw [← hbb]; rfl)
  have HLD := Lib.hid hld
  have C3 : Calls Try.prog 6 #[.agg #[.int .i64 r, .slice none 0 0], .int .i64 300, .int .i64 z, .int .i64 b] (w6.alloc (.cells #[.int .i64 1, .int .i64 0, .int .i64 3, .int .i64 2] 3)) (TellsP (stepTo r 300 z b) _) := plan_good r 300 z b _ hr0 hr2 hzn (by omega) hb4
  rw [← hbb, HB.out, hbb] at C3
  have C3 := Lib.hid C3
  have hyI : (y : Int) < 4 := by omega
  clear hbb hld
  go_wp2_with fail
  rw [HLD.out]
  (with_reducible refine C3.out.mono ?_)
  rintro e w7 ⟨rfl, hb7⟩
  have B7 := Lib.hid (B6.out.2.trans ((one_more hb7).2.mono B6.out.2.size))
  have C4 := Lib.hid (awake w7)
  clear hb7
  go_wp2_with fail
  (with_reducible refine C4.out.mono ?_)
  rintro e w8 ⟨rfl, hb8⟩
  have B8 := Lib.hid (B7.out.trans (hb8.mono B7.out.size))
  clear hb8
  go_wp2
  go_ret
  exact ⟨rfl, B8.out⟩

set_option maxHeartbeats 4000000 in
set_option maxRecDepth 100000 in
theorem walk_few (r p y : Nat) (n : Nat) (w : World) (hr0 : 0 < r) (hr2 : r ≤ 9223372036854775807) (hpn : p < n) (hn2 : n ≤ 300) (hy4 : y < 4) :
    Calls Try.prog 3 #[.int .i64 r, .int .i64 n, .int .i64 p, .int .i64 y] w (Yes w) := by
  have V := Lib.hid (var_one w (.int .i64 r) (.slice none 0 0) 24)
  have c1 : decide ((300 : Int) < (n : Int)) = false := decide_eq_false (by omega)
  obtain ⟨z, hz⟩ : ∃ z, stepTo r n p y = z := ⟨_, rfl⟩
  have hzn : z < n := hz ▸ step_in hr0 hpn
  have HB := Lib.hid (show stepTo r n z (backOf y) = p from hz ▸ step_back hr0 hpn hy4)
  have C1 : Calls Try.prog 6 #[.agg #[.int .i64 r, .slice none 0 0], .int .i64 n, .int .i64 p, .int .i64 y] (w.alloc (.cells #[.int .i64 r, .slice none 0 0] 24)) (TellsP (stepTo r n p y) _) := plan_good r n p y (w.alloc (.cells #[.int .i64 r, .slice none 0 0] 24)) hr0 hr2 hpn (by omega) hy4
  rw [hz] at C1
  have C1 := Lib.hid C1
  have HZ := Lib.hid hz
  clear hz
  go_enter Try.func3, Try.ntmps3
  go_wp2_with fail
  (with_reducible refine C1.out.mono ?_)
  rintro e w5 ⟨rfl, hb5⟩
  have B5 := Lib.hid (And.intro (V.out.1.later hb5 V.out.1.1) (V.out.2.trans (hb5.mono V.out.2.size)))
  have C2 : Calls Try.prog 7 #[.int .i64 r, .int .i64 n, .int .i64 p, .int .i64 y] w5 (TellsP (stepTo r n p y) _) := ref_good r n p y w5 hr0 hr2 hpn (by omega) hy4
  rw [HZ.out] at C2
  have C2 := Lib.hid C2
  clear hb5
  go_wp2_with fail
  (with_reducible refine C2.out.mono ?_)
  rintro e w6 ⟨rfl, hb6⟩
  have B6 := Lib.hid (And.intro (B5.out.1.later hb6 B5.out.1.1) (B5.out.2.trans (hb6.mono B5.out.2.size)))
  obtain ⟨z0, m0, n0⟩ := (show Blk _ _ _ from B6.out.1)
  clear hb6
  have dz : ((z : Int) != (z : Int)) = false := by simp
  have dp : ((p : Int) == (p : Int)) = true := by simp
  obtain ⟨b, hb4, hbb⟩ : ∃ b : Nat, b < 4 ∧ backOf y = b := ⟨backOf y, backOf_lt hy4, rfl⟩
  have hld : ∀ h : y < ([Value.int .i64 1, .int .i64 0, .int .i64 3, .int .i64 2] : List Value).length, ([Value.int .i64 1, .int .i64 0, .int .i64 3, .int .i64 2] : List Value)[y] = .int .i64 (b : Nat) := by
    obtain rfl | rfl | rfl | rfl : y = 0 ∨ y = 1 ∨ y = 2 ∨ y = 3 := by omega
    all_goals (intro h; rw [← hbb]; rfl)
  have HLD := Lib.hid hld
  have C3 : Calls Try.prog 6 #[.agg #[.int .i64 r, .slice none 0 0], .int .i64 n, .int .i64 z, .int .i64 b] (w6.alloc (.cells #[.int .i64 1, .int .i64 0, .int .i64 3, .int .i64 2] 3)) (TellsP (stepTo r n z b) _) := plan_good r n z b _ hr0 hr2 hzn (by omega) hb4
  rw [← hbb, HB.out, hbb] at C3
  have C3 := Lib.hid C3
  have hyI : (y : Int) < 4 := by omega
  clear hbb hld
  go_wp2_with fail
  rw [HLD.out]
  (with_reducible refine C3.out.mono ?_)
  rintro e w7 ⟨rfl, hb7⟩
  have B7 := Lib.hid (B6.out.2.trans ((one_more hb7).2.mono B6.out.2.size))
  have C4 := Lib.hid (awake w7)
  clear hb7
  go_wp2_with fail
  (with_reducible refine C4.out.mono ?_)
  rintro e w8 ⟨rfl, hb8⟩
  have B8 := Lib.hid (B7.out.trans (hb8.mono B7.out.size))
  clear hb8
  go_wp2
  go_ret
  exact ⟨rfl, B8.out⟩

set_option maxHeartbeats 4000000 in
set_option maxRecDepth 100000 in
theorem walk_manybad (a0 a1 a2 a3 : Int) (w : World) (w0 : (Lit.int .i64 a0).wf = true) (hc : 300 < a1) (hG : ¬ Good a0 300 a2 a3) :
    Calls Try.prog 3 #[.int .i64 a0, .int .i64 a1, .int .i64 a2, .int .i64 a3] w (Yes w) := by
  have V := Lib.hid (var_one w (.int .i64 a0) (.slice none 0 0) 24)
  have c1 : decide (300 < a1) = true := decide_eq_true hc
  have C1 := Lib.hid (plan_bad a0 300 a2 a3 (w.alloc (.cells #[.int .i64 a0, .slice none 0 0] 24)) w0 hG)
  have HG := Lib.hid hG
  clear hG w0
  go_enter Try.func3, Try.ntmps3
  go_wp2_with fail
  (with_reducible refine C1.out.mono ?_)
  rintro e w5 ⟨rfl, hb5⟩
  have B5 := Lib.hid (V.out.2.trans (hb5.mono V.out.2.size))
  have C2 := Lib.hid (ref_bad a0 300 a2 a3 w5 HG.out)
  clear hb5
  go_wp2_with fail
  (with_reducible refine C2.out.mono ?_)
  rintro e w6 ⟨rfl, hb6⟩
  have B6 := Lib.hid (B5.out.trans (hb6.mono B5.out.size))
  have C3 := Lib.hid (awake w6)
  clear hb6
  go_wp2_with fail
  (with_reducible refine C3.out.mono ?_)
  rintro e w7 ⟨rfl, hb7⟩
  have B7 := Lib.hid (B6.out.trans (hb7.mono B6.out.size))
  clear hb7
  go_wp2
  go_ret
  exact ⟨rfl, B7.out⟩

set_option maxHeartbeats 4000000 in
set_option maxRecDepth 100000 in
theorem walk_fewbad (a0 a1 a2 a3 : Int) (w : World) (w0 : (Lit.int .i64 a0).wf = true) (hc : ¬ 300 < a1) (hG : ¬ Good a0 a1 a2 a3) :
    Calls Try.prog 3 #[.int .i64 a0, .int .i64 a1, .int .i64 a2, .int .i64 a3] w (Yes w) := by
  have V := Lib.hid (var_one w (.int .i64 a0) (.slice none 0 0) 24)
  have c1 : decide (300 < a1) = false := decide_eq_false hc
  have C1 := Lib.hid (plan_bad a0 a1 a2 a3 (w.alloc (.cells #[.int .i64 a0, .slice none 0 0] 24)) w0 hG)
  have HG := Lib.hid hG
  clear hG w0
  go_enter Try.func3, Try.ntmps3
  go_wp2_with fail
  (with_reducible refine C1.out.mono ?_)
  rintro e w5 ⟨rfl, hb5⟩
  have B5 := Lib.hid (V.out.2.trans (hb5.mono V.out.2.size))
  have C2 := Lib.hid (ref_bad a0 a1 a2 a3 w5 HG.out)
  clear hb5
  go_wp2_with fail
  (with_reducible refine C2.out.mono ?_)
  rintro e w6 ⟨rfl, hb6⟩
  have B6 := Lib.hid (B5.out.trans (hb6.mono B5.out.size))
  have C3 := Lib.hid (awake w6)
  clear hb6
  go_wp2_with fail
  (with_reducible refine C3.out.mono ?_)
  rintro e w7 ⟨rfl, hb7⟩
  have B7 := Lib.hid (B6.out.trans (hb7.mono B6.out.size))
  clear hb7
  go_wp2
  go_ret
  exact ⟨rfl, B7.out⟩

theorem walk_ColumnsGo (a0 : Int) (w0 : (Lit.int .i64 a0).wf = true) (a1 : Int) (w1 : (Lit.int .i64 a1).wf = true) (a2 : Int) (w2 : (Lit.int .i64 a2).wf = true) (a3 : Int) (w3 : (Lit.int .i64 a3).wf = true) (w : World) :
    Calls Try.prog 3 #[.int .i64 a0, .int .i64 a1, .int .i64 a2, .int .i64 a3] w (Yes w) := by
  have W0 := wf_i64 w0
  by_cases hc : 300 < a1
  · by_cases hG : Good a0 300 a2 a3
    · unfold Good at hG
      obtain ⟨r, rfl⟩ : ∃ x : Nat, a0 = (x : Int) := ⟨a0.toNat, by omega⟩
      obtain ⟨p, rfl⟩ : ∃ x : Nat, a2 = (x : Int) := ⟨a2.toNat, by omega⟩
      obtain ⟨y, rfl⟩ : ∃ x : Nat, a3 = (x : Int) := ⟨a3.toNat, by omega⟩
      exact walk_many r p y a1 w (by omega) (by omega) (by omega) hc (by omega)
    · exact walk_manybad a0 a1 a2 a3 w w0 hc hG
  · by_cases hG : Good a0 a1 a2 a3
    · unfold Good at hG
      obtain ⟨r, rfl⟩ : ∃ x : Nat, a0 = (x : Int) := ⟨a0.toNat, by omega⟩
      obtain ⟨n, rfl⟩ : ∃ x : Nat, a1 = (x : Int) := ⟨a1.toNat, by omega⟩
      obtain ⟨p, rfl⟩ : ∃ x : Nat, a2 = (x : Int) := ⟨a2.toNat, by omega⟩
      obtain ⟨y, rfl⟩ : ∃ x : Nat, a3 = (x : Int) := ⟨a3.toNat, by omega⟩
      exact walk_few r p y n w (by omega) (by omega) (by omega) (by omega) (by omega)
    · exact walk_fewbad a0 a1 a2 a3 w w0 hc hG
end Go.Proofs.Ytpelmbiogamcpaa
