/- Korean syllables: Join. -/
import Derived.Test.YteflpcdhlaeanaaHanB
namespace Go.Proofs.Yteflpcdhlaeanaa
open Go.RowKit
set_option linter.unusedVariables false

/-- A scalar and whether it is one; nothing that was there has turned. -/
def Joined (v : Int) (o : Bool) (w : World) (e : Ending) (w' : World) : Prop := e = .returned (.tuple #[.int .i32 v, .bool o]) ∧ Below w.heap.size w w'

/-- Both Joins tell v and o of a and b. -/
def Both (a b v : Int) (o : Bool) : Prop :=
  (∀ w, Calls Try.prog 13 #[.int .i32 a, .int .i32 b] w fun e w' => e = .returned (.tuple #[.int .i32 v, .bool o]) ∧ w = w') ∧ ∀ w, Calls Try.prog 14 #[.int .i32 a, .int .i32 b] w (Joined v o w)

set_option maxHeartbeats 1000000 in
theorem join_lv (a b : Int) (a0 : 4352 ≤ a) (a1 : a < 4371) (b0 : 4449 ≤ b) (b1 : b < 4470) : Both a b (44032 + ((a - 4352) * 21 + b - 4449) * 28) true := by
  have e1 : decide (4352 ≤ a) = true := decide_eq_true a0
  have e2 : decide (a < 4371) = true := decide_eq_true a1
  have e3 : decide (4449 ≤ b) = true := decide_eq_true b0
  have e4 : decide (b < 4470) = true := decide_eq_true b1
  have e5 : decide (a ≤ 4370) = true := decide_eq_true (by omega)
  have e6 : decide (b ≤ 4469) = true := decide_eq_true (by omega)
  have e7 : 44032 + (a - 4352) * 588 + (b - 4449) * 28 = 44032 + ((a - 4352) * 21 + b - 4449) * 28 := by omega
  have E7 := Lib.hid e7
  clear e7
  constructor
  · intro w
    go_enter Try.func13, Try.ntmps13
    go_wp2
    go_ret2
    exact ⟨rfl, rfl⟩
  · intro w
    go_enter Try.func14, Try.ntmps14
    go_wp2
    go_ret2
    refine ⟨?_, Below.refl _ _⟩
    rw [← E7.out]
    rfl

set_option maxHeartbeats 1000000 in
theorem join_st (a b : Int) (a0 : 44032 ≤ a) (a1 : a < 55204) (a2 : (a - 44032) % 28 = 0) (b0 : 4520 ≤ b) (b1 : b < 4547) : Both a b (a + b - 4519) true := by
  have e1 : decide (4352 ≤ a) = true := decide_eq_true (by omega)
  have e2 : decide (a < 4371) = false := decide_eq_false (by omega)
  have e5 : decide (a ≤ 4370) = false := decide_eq_false (by omega)
  have e8 : decide (44032 ≤ a) = true := decide_eq_true a0
  have e9 : decide (a < 55204) = true := decide_eq_true a1
  have e10 : ((a - 44032) % 28 == 0) = true := by simp; omega
  have e3 : decide (4520 ≤ b) = true := decide_eq_true b0
  have e4 : decide (b < 4547) = true := decide_eq_true b1
  have e6 : decide (b ≤ 4546) = true := decide_eq_true (by omega)
  have e7 : a + (b - 4519) = a + b - 4519 := by omega
  have E7 := Lib.hid e7
  have A2 := Lib.hid a2
  clear e7 a2
  constructor
  · intro w
    go_enter Try.func13, Try.ntmps13
    go_wp2
    go_ret2
    exact ⟨rfl, rfl⟩
  · intro w
    go_enter Try.func14, Try.ntmps14
    go_wp2_with (first
      | (go_at_call 9; refine (rsplit_two a _ a0 a1 A2.out).mono ?_; rintro e w1 ⟨A, c, rfl, hA, hb⟩)
      | go_in)
    go_ret2
    refine ⟨?_, hb⟩
    rw [← E7.out]
    rfl

set_option maxHeartbeats 1000000 in
theorem join_lb (a b : Int) (h0 : 4352 ≤ a) (h1 : a < 4371) (h2 : b < 4449) : Both a b 0 false := by
  have e1 : decide (4352 ≤ a) = true := decide_eq_true (by omega)
  have e2 : decide (a < 4371) = true := decide_eq_true (by omega)
  have f2 : decide (a ≤ 4370) = true := decide_eq_true (by omega)
  have e3 : decide (4449 ≤ b) = false := decide_eq_false (by omega)
  have e5 : decide (44032 ≤ a) = false := decide_eq_false (by omega)
  constructor
  · intro w
    go_enter Try.func13, Try.ntmps13
    go_wp2
    go_ret2
    exact ⟨rfl, rfl⟩
  · intro w
    go_enter Try.func14, Try.ntmps14
    go_wp2_with (first
      | (go_at_call 9; refine (rsplit_no a _ (by omega)).mono ?_; rintro e w1 ⟨A, c, rfl, hA, hb⟩)
      | go_in)
    go_ret2
    exact ⟨rfl, hb⟩

set_option maxHeartbeats 1000000 in
theorem join_la (a b : Int) (h0 : 4352 ≤ a) (h1 : a < 4371) (h2 : 4470 ≤ b) : Both a b 0 false := by
  have e1 : decide (4352 ≤ a) = true := decide_eq_true (by omega)
  have e2 : decide (a < 4371) = true := decide_eq_true (by omega)
  have f2 : decide (a ≤ 4370) = true := decide_eq_true (by omega)
  have e3 : decide (4449 ≤ b) = true := decide_eq_true (by omega)
  have e4 : decide (b < 4470) = false := decide_eq_false (by omega)
  have f4 : decide (b ≤ 4469) = false := decide_eq_false (by omega)
  have e5 : decide (44032 ≤ a) = false := decide_eq_false (by omega)
  constructor
  · intro w
    go_enter Try.func13, Try.ntmps13
    go_wp2
    go_ret2
    exact ⟨rfl, rfl⟩
  · intro w
    go_enter Try.func14, Try.ntmps14
    go_wp2_with (first
      | (go_at_call 9; refine (rsplit_no a _ (by omega)).mono ?_; rintro e w1 ⟨A, c, rfl, hA, hb⟩)
      | go_in)
    go_ret2
    exact ⟨rfl, hb⟩

set_option maxHeartbeats 1000000 in
theorem join_lo (a b : Int) (h0 : a < 4352) (h1 : -2147483648 ≤ a) : Both a b 0 false := by
  have e1 : decide (4352 ≤ a) = false := decide_eq_false (by omega)
  have e5 : decide (44032 ≤ a) = false := decide_eq_false (by omega)
  constructor
  · intro w
    go_enter Try.func13, Try.ntmps13
    go_wp2
    go_ret2
    exact ⟨rfl, rfl⟩
  · intro w
    go_enter Try.func14, Try.ntmps14
    go_wp2_with (first
      | (go_at_call 9; refine (rsplit_no a _ (by omega)).mono ?_; rintro e w1 ⟨A, c, rfl, hA, hb⟩)
      | go_in)
    go_ret2
    exact ⟨rfl, hb⟩

set_option maxHeartbeats 1000000 in
theorem join_mid (a b : Int) (h0 : 4371 ≤ a) (h1 : a < 44032) : Both a b 0 false := by
  have e1 : decide (4352 ≤ a) = true := decide_eq_true (by omega)
  have e2 : decide (a < 4371) = false := decide_eq_false (by omega)
  have f2 : decide (a ≤ 4370) = false := decide_eq_false (by omega)
  have e5 : decide (44032 ≤ a) = false := decide_eq_false (by omega)
  constructor
  · intro w
    go_enter Try.func13, Try.ntmps13
    go_wp2
    go_ret2
    exact ⟨rfl, rfl⟩
  · intro w
    go_enter Try.func14, Try.ntmps14
    go_wp2_with (first
      | (go_at_call 9; refine (rsplit_no a _ (by omega)).mono ?_; rintro e w1 ⟨A, c, rfl, hA, hb⟩)
      | go_in)
    go_ret2
    exact ⟨rfl, hb⟩

set_option maxHeartbeats 1000000 in
theorem join_hi (a b : Int) (h0 : 55204 ≤ a) (h1 : a ≤ 2147483647) : Both a b 0 false := by
  have e1 : decide (4352 ≤ a) = true := decide_eq_true (by omega)
  have e5 : decide (44032 ≤ a) = true := decide_eq_true (by omega)
  have e2 : decide (a < 4371) = false := decide_eq_false (by omega)
  have f2 : decide (a ≤ 4370) = false := decide_eq_false (by omega)
  have e6 : decide (a < 55204) = false := decide_eq_false (by omega)
  have f6 : decide (a ≤ 55203) = false := decide_eq_false (by omega)
  constructor
  · intro w
    go_enter Try.func13, Try.ntmps13
    go_wp2
    go_ret2
    exact ⟨rfl, rfl⟩
  · intro w
    go_enter Try.func14, Try.ntmps14
    go_wp2_with (first
      | (go_at_call 9; refine (rsplit_no a _ (by omega)).mono ?_; rintro e w1 ⟨A, c, rfl, hA, hb⟩)
      | go_in)
    go_ret2
    exact ⟨rfl, hb⟩

set_option maxHeartbeats 1000000 in
theorem join_three (a b : Int) (h0 : 44032 ≤ a) (h1 : a < 55204) (h2 : 0 < (a - 44032) % 28) : Both a b 0 false := by
  have e1 : decide (4352 ≤ a) = true := decide_eq_true (by omega)
  have e5 : decide (44032 ≤ a) = true := decide_eq_true (by omega)
  have e6 : decide (a < 55204) = true := decide_eq_true (by omega)
  have f6 : decide (a ≤ 55203) = true := decide_eq_true (by omega)
  have e2 : decide (a < 4371) = false := decide_eq_false (by omega)
  have f2 : decide (a ≤ 4370) = false := decide_eq_false (by omega)
  have e7 : ((a - 44032) % 28 == 0) = false := by simp; omega
  constructor
  · intro w
    go_enter Try.func13, Try.ntmps13
    go_wp2
    go_ret2
    exact ⟨rfl, rfl⟩
  · intro w
    go_enter Try.func14, Try.ntmps14
    go_wp2_with (first
      | (go_at_call 9; refine (rsplit_three a _ h0 h1 h2).mono ?_; rintro e w1 ⟨A, c, rfl, hA, hb⟩)
      | go_in)
    go_ret2
    exact ⟨rfl, hb⟩

set_option maxHeartbeats 1000000 in
theorem join_twob (a b : Int) (h0 : 44032 ≤ a) (h1 : a < 55204) (h2 : (a - 44032) % 28 = 0) (h3 : b < 4520) : Both a b 0 false := by
  have e1 : decide (4352 ≤ a) = true := decide_eq_true (by omega)
  have e5 : decide (44032 ≤ a) = true := decide_eq_true (by omega)
  have e6 : decide (a < 55204) = true := decide_eq_true (by omega)
  have f6 : decide (a ≤ 55203) = true := decide_eq_true (by omega)
  have e7 : ((a - 44032) % 28 == 0) = true := by simp; omega
  have e2 : decide (a < 4371) = false := decide_eq_false (by omega)
  have f2 : decide (a ≤ 4370) = false := decide_eq_false (by omega)
  have e8 : decide (4520 ≤ b) = false := decide_eq_false (by omega)
  have H2 := Lib.hid h2
  clear h2
  constructor
  · intro w
    go_enter Try.func13, Try.ntmps13
    go_wp2
    go_ret2
    exact ⟨rfl, rfl⟩
  · intro w
    go_enter Try.func14, Try.ntmps14
    go_wp2_with (first
      | (go_at_call 9; refine (rsplit_two a _ h0 h1 H2.out).mono ?_; rintro e w1 ⟨A, c, rfl, hA, hb⟩)
      | go_in)
    go_ret2
    exact ⟨rfl, hb⟩

set_option maxHeartbeats 1000000 in
theorem join_twoa (a b : Int) (h0 : 44032 ≤ a) (h1 : a < 55204) (h2 : (a - 44032) % 28 = 0) (h3 : 4547 ≤ b) : Both a b 0 false := by
  have e1 : decide (4352 ≤ a) = true := decide_eq_true (by omega)
  have e5 : decide (44032 ≤ a) = true := decide_eq_true (by omega)
  have e6 : decide (a < 55204) = true := decide_eq_true (by omega)
  have f6 : decide (a ≤ 55203) = true := decide_eq_true (by omega)
  have e7 : ((a - 44032) % 28 == 0) = true := by simp; omega
  have e8 : decide (4520 ≤ b) = true := decide_eq_true (by omega)
  have e2 : decide (a < 4371) = false := decide_eq_false (by omega)
  have f2 : decide (a ≤ 4370) = false := decide_eq_false (by omega)
  have e9 : decide (b < 4547) = false := decide_eq_false (by omega)
  have f9 : decide (b ≤ 4546) = false := decide_eq_false (by omega)
  have H2 := Lib.hid h2
  clear h2
  constructor
  · intro w
    go_enter Try.func13, Try.ntmps13
    go_wp2
    go_ret2
    exact ⟨rfl, rfl⟩
  · intro w
    go_enter Try.func14, Try.ntmps14
    go_wp2_with (first
      | (go_at_call 9; refine (rsplit_two a _ h0 h1 H2.out).mono ?_; rintro e w1 ⟨A, c, rfl, hA, hb⟩)
      | go_in)
    go_ret2
    exact ⟨rfl, hb⟩

/-! ### Second -/
def sec (b : Int) : Bool := decide ((4449 ≤ b ∧ b < 4470) ∨ (4520 ≤ b ∧ b < 4547))

set_option maxHeartbeats 1000000 in
theorem sec_one (b : Int) (o x1 x2 x3 x4 : Bool) (e1 : decide (4449 ≤ b) = x1) (e2 : decide (b < 4470) = x2) (f2 : decide (b ≤ 4469) = x2) (e3 : decide (4520 ≤ b) = x3) (e4 : decide (b < 4547) = x4) (f4 : decide (b ≤ 4546) = x4)
    (ho : o = (x1 && x2 || x3 && x4)) : (∀ w, Calls Try.prog 15 #[.int .i32 b] w fun e w' => e = .returned (.bool o) ∧ w = w') ∧ ∀ w, Calls Try.prog 16 #[.int .i32 b] w fun e w' => e = .returned (.bool o) ∧ w = w' := by
  subst ho
  cases x1 <;> cases x2 <;> cases x3 <;> cases x4
  all_goals
    constructor
    · intro w
      go_enter Try.func15, Try.ntmps15
      go_wp2
      go_ret
      exact ⟨rfl, rfl⟩
    · intro w
      go_enter Try.func16, Try.ntmps16
      go_wp2
      go_ret
      exact ⟨rfl, rfl⟩

theorem sec_any (b : Int) : (∀ w, Calls Try.prog 15 #[.int .i32 b] w fun e w' => e = .returned (.bool (sec b)) ∧ w = w') ∧ ∀ w, Calls Try.prog 16 #[.int .i32 b] w fun e w' => e = .returned (.bool (sec b)) ∧ w = w' :=
  sec_one b _ _ _ _ _ rfl rfl (by congr 1; apply propext; omega) rfl rfl (by congr 1; apply propext; omega) (by unfold sec; rw [Bool.eq_iff_iff]; simp)

/-! ### The law -/
theorem both_any (a b : Int) (ha : -2147483648 ≤ a) (ha' : a ≤ 2147483647) : ∃ v o, Both a b v o ∧ (o = true → sec b = true) := by
  by_cases hL : 4352 ≤ a ∧ a < 4371
  · by_cases hV : 4449 ≤ b ∧ b < 4470
    · exact ⟨_, _, join_lv a b hL.1 hL.2 hV.1 hV.2, fun _ => by simp [sec, hV]⟩
    · by_cases h : b < 4449
      · exact ⟨_, _, join_lb a b hL.1 hL.2 h, fun h => by cases h⟩
      · exact ⟨_, _, join_la a b hL.1 hL.2 (by omega), fun h => by cases h⟩
  · by_cases h1 : a < 4352
    · exact ⟨_, _, join_lo a b h1 ha, fun h => by cases h⟩
    · by_cases h2 : a < 44032
      · exact ⟨_, _, join_mid a b (by omega) h2, fun h => by cases h⟩
      · by_cases h3 : 55204 ≤ a
        · exact ⟨_, _, join_hi a b h3 ha', fun h => by cases h⟩
        · by_cases h4 : (a - 44032) % 28 = 0
          · by_cases h5 : b < 4520
            · exact ⟨_, _, join_twob a b (by omega) (by omega) h4 h5, fun h => by cases h⟩
            · by_cases h6 : 4547 ≤ b
              · exact ⟨_, _, join_twoa a b (by omega) (by omega) h4 h6, fun h => by cases h⟩
              · exact ⟨_, _, join_st a b (by omega) (by omega) h4 (by omega) (by omega), fun _ => by simp [sec]; omega⟩
          · exact ⟨_, _, join_three a b (by omega) (by omega) (by omega), fun h => by cases h⟩

set_option maxHeartbeats 1000000 in
theorem joins_walk (a b v : Int) (o s : Bool) (hb : Both a b v o) (hs : (∀ w, Calls Try.prog 15 #[.int .i32 b] w fun e w' => e = .returned (.bool s) ∧ w = w') ∧ ∀ w, Calls Try.prog 16 #[.int .i32 b] w fun e w' => e = .returned (.bool s) ∧ w = w')
    (h : o = true → s = true) (w : World) : Calls Try.prog 4 #[.int .i32 a, .int .i32 b] w (Yes w) := by
  have Hb := Lib.hid hb
  have Hs := Lib.hid hs
  have E : (v == v) = true := by simp
  clear hb hs
  cases o <;> cases s
  case true.false => exact absurd (h rfl) (by simp)
  all_goals
    clear h
    go_enter Try.func4, Try.ntmps4
    go_wp2_with (first
      | (go_at_call 13; refine (Hb.out.1 _).mono ?_; rintro e w' ⟨rfl, rfl⟩)
      | (go_at_call 14; refine (Hb.out.2 _).mono ?_; rintro e w2 ⟨rfl, hb2⟩)
      | (go_at_call 15; refine (Hs.out.1 _).mono ?_; rintro e w' ⟨rfl, rfl⟩)
      | (go_at_call 16; refine (Hs.out.2 _).mono ?_; rintro e w' ⟨rfl, rfl⟩)
      | (go_at_call 12; refine (awake_yes _).mono ?_; rintro e w4 ⟨rfl, hb4⟩))
    go_ret
    exact ⟨rfl, hb2.trans (hb4.mono hb2.size)⟩

theorem walk_HangulJoins (a : Int) (wa : (Lit.int .i32 a).wf = true) (b : Int) (_wb : (Lit.int .i32 b).wf = true) (w : World) : Calls Try.prog 4 #[.int .i32 a, .int .i32 b] w (Yes w) := by
  obtain ⟨v, o, hb, h⟩ := both_any a b (wf32 wa).1 (wf32 wa).2
  exact joins_walk a b v o _ hb (sec_any b) h w

end Go.Proofs.Yteflpcdhlaeanaa
