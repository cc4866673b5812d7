/- loop: LoopNone's walk. -/
import Derived.Test.YtcoffbgpdbhjfaaLoopH
namespace Go.Proofs.Ytcoffbgpdbhjfaa
open Go.Conc Go.RowKit
set_option linter.unusedVariables false
set_option linter.unusedSimpArgs false

theorem eq_lens (a b c a' b' c' : Int) (w : World) : (Op.equalIn 10000 28 (.agg #[.int .i64 a, .int .i64 b, .int .i64 c]) (.agg #[.int .i64 a', .int .i64 b', .int .i64 c'])).run Try.prog w = .ok (decide (a = a' ∧ b = b' ∧ c = c')) w := by
  have ua := Try.underlying28
  have u3 := Try.underlying3
  have a3 := Try.isAgg3
  have z3 := Try.sizeOf3
  rw [show (10000 : Nat) = 9999 + 1 from rfl, Op.equalIn]
  simp only [Sem.run_bind, run_underlying ua, Result.andThen_ok]
  simp only [Std.Legacy.Range.forIn_eq_forIn_range', Std.Legacy.Range.size, Nat.sub_zero, Nat.add_sub_cancel, Nat.div_one, List.range'_succ, List.range'_zero, List.forIn_cons, List.forIn_nil]
  go_simp
  by_cases h1 : a = a' <;> by_cases h2 : b = b' <;> by_cases h3 : c = c' <;> simp [h1, h2, h3]

theorem neq_lens (a b c a' b' c' : Int) (w : World) : (Go.binOp .neq 28 (.agg #[.int .i64 a, .int .i64 b, .int .i64 c]) (.agg #[.int .i64 a', .int .i64 b', .int .i64 c'])).run Try.prog w = .ok (.bool (!decide (a = a' ∧ b = b' ∧ c = c'))) w := by
  rw [run_neq_struct, eq_lens]
  rfl
theorem eql_lens (a b c a' b' c' : Int) (w : World) : (Go.binOp .eql 28 (.agg #[.int .i64 a, .int .i64 b, .int .i64 c]) (.agg #[.int .i64 a', .int .i64 b', .int .i64 c'])).run Try.prog w = .ok (.bool (decide (a = a' ∧ b = b' ∧ c = c'))) w := by
  rw [run_eql_struct, eq_lens]
  rfl

set_option maxHeartbeats 4000000 in
set_option maxRecDepth 100000 in
theorem none_mid (room : Int) (h1 : 100 < room) (h2 : room ≤ 65536) (x : Evt) (w : World) : Calls Try.prog 3 #[.int .i64 room, ev x] w (YesW w) := by
  have q1 := neq_evt zeroE zeroE
  have q2 := neq_lens 0 0 0 0 0 0
  simp only [decide_true, Bool.not_true, and_self] at q1 q2
  obtain ⟨k, b, r, c⟩ := x
  have d0 : decide ((100 : Int) < room) = true := by simp; omega
  have d1 : decide (room ≤ 65536) = true := by simp; omega
  have hb0 := Lib.hid ((Below.refl w.heap.size w).alloc (Nat.le_refl _) (.cells #[.int .i64 k, .int .u8 b, .int .i64 r, .int .i64 c] 23))
  go_enter Try.func3, Try.ntmps3
  go_wp2_with fail
  have C1 := Lib.hid (next_nil (w.alloc (.cells #[.int .i64 k, .int .u8 b, .int .i64 r, .int .i64 c] 23)))
  (with_reducible refine C1.out.mono ?_)
  rintro e w1 ⟨rfl, hb⟩
  have B1 := Lib.hid (And.intro ((blk_new w #[.int .i64 k, .int .u8 b, .int .i64 r, .int .i64 c] 23).later hb (by simp)) (hb0.out.trans (hb.mono hb0.out.size)))
  clear hb C1
  obtain ⟨y1, k1, j1⟩ := (show Blk _ _ _ from B1.out.1)
  go_wp2_with fail
  have B2 := Lib.hid (And.intro (blk_new w1 #[.int .i64 0, .int .u8 0, .int .i64 0, .int .i64 0] 23) (B1.out.2.alloc B1.out.2.size (.cells #[.int .i64 0, .int .u8 0, .int .i64 0, .int .i64 0] 23)))
  have C2 := Lib.hid (put_nil ⟨k, b, r, c⟩ (w1.alloc (.cells #[.int .i64 0, .int .u8 0, .int .i64 0, .int .i64 0] 23)))
  (with_reducible refine C2.out.mono ?_)
  rintro e w2 ⟨rfl, hb⟩
  have B3 := Lib.hid (And.intro (B2.out.1.later hb B2.out.1.1) (B2.out.2.trans (hb.mono B2.out.2.size)))
  clear hb C2 y1 k1 j1
  obtain ⟨y2, k2, j2⟩ := (show Blk _ _ _ from B3.out.1)
  go_wp2_with fail
  have C3 : Hid (Calls Try.prog 8 #[.pointer none] w2 fun e w' => e = .returned (.agg #[.int .i64 0, .int .i64 0, .int .i64 0]) ∧ Below w2.heap.size w2 w') := Lib.hid (len_nil w2)
  (with_reducible refine C3.out.mono ?_)
  rintro e w3 ⟨rfl, hb⟩
  have B4 := Lib.hid (B3.out.2.trans (hb.mono B3.out.2.size))
  clear hb C3 y2 k2 j2
  go_wp2_with fail
  have C4 := Lib.hid (all_nil 5 (by decide) w3)
  (with_reducible refine C4.out.mono ?_)
  rintro e w4 ⟨rfl, hb⟩
  have B5 := Lib.hid (B4.out.trans (hb.mono B4.out.size))
  clear hb C4
  go_wp2_with fail
  have C5 := Lib.hid (new_is 100 w4 (by omega) (by omega))
  simp only [show ((100 : Nat) : Int) = 100 from rfl] at C5
  (with_reducible refine C5.out.mono ?_)
  rintro e w5 ⟨bb, cb, ct, cs, rfl, _, hb, _⟩
  have B6 := Lib.hid (B5.out.trans (hb.mono B5.out.size))
  clear hb
  clear C5
  go_wp2_with (go_at_call 11; refine (awake_yes _).mono ?_; rintro e w6 ⟨rfl, hb6⟩)
  go_ret
  exact ⟨rfl, B6.out.trans (hb6.mono B6.out.size)⟩

set_option maxHeartbeats 4000000 in
set_option maxRecDepth 100000 in
theorem none_small (room : Int) (h1 : room < 1) (x : Evt) (w : World) : Calls Try.prog 3 #[.int .i64 room, ev x] w (YesW w) := by
  have q1 := neq_evt zeroE zeroE
  have q2 := neq_lens 0 0 0 0 0 0
  simp only [decide_true, Bool.not_true, and_self] at q1 q2
  obtain ⟨k, b, r, c⟩ := x
  have d0 : decide ((100 : Int) < room) = false := by simp; omega
  have d1 : decide (room < 1) = true := by simp; omega
  have hb0 := Lib.hid ((Below.refl w.heap.size w).alloc (Nat.le_refl _) (.cells #[.int .i64 k, .int .u8 b, .int .i64 r, .int .i64 c] 23))
  go_enter Try.func3, Try.ntmps3
  go_wp2_with fail
  have C1 := Lib.hid (next_nil (w.alloc (.cells #[.int .i64 k, .int .u8 b, .int .i64 r, .int .i64 c] 23)))
  (with_reducible refine C1.out.mono ?_)
  rintro e w1 ⟨rfl, hb⟩
  have B1 := Lib.hid (And.intro ((blk_new w #[.int .i64 k, .int .u8 b, .int .i64 r, .int .i64 c] 23).later hb (by simp)) (hb0.out.trans (hb.mono hb0.out.size)))
  clear hb C1
  obtain ⟨y1, k1, j1⟩ := (show Blk _ _ _ from B1.out.1)
  go_wp2_with fail
  have B2 := Lib.hid (And.intro (blk_new w1 #[.int .i64 0, .int .u8 0, .int .i64 0, .int .i64 0] 23) (B1.out.2.alloc B1.out.2.size (.cells #[.int .i64 0, .int .u8 0, .int .i64 0, .int .i64 0] 23)))
  have C2 := Lib.hid (put_nil ⟨k, b, r, c⟩ (w1.alloc (.cells #[.int .i64 0, .int .u8 0, .int .i64 0, .int .i64 0] 23)))
  (with_reducible refine C2.out.mono ?_)
  rintro e w2 ⟨rfl, hb⟩
  have B3 := Lib.hid (And.intro (B2.out.1.later hb B2.out.1.1) (B2.out.2.trans (hb.mono B2.out.2.size)))
  clear hb C2 y1 k1 j1
  obtain ⟨y2, k2, j2⟩ := (show Blk _ _ _ from B3.out.1)
  go_wp2_with fail
  have C3 : Hid (Calls Try.prog 8 #[.pointer none] w2 fun e w' => e = .returned (.agg #[.int .i64 0, .int .i64 0, .int .i64 0]) ∧ Below w2.heap.size w2 w') := Lib.hid (len_nil w2)
  (with_reducible refine C3.out.mono ?_)
  rintro e w3 ⟨rfl, hb⟩
  have B4 := Lib.hid (B3.out.2.trans (hb.mono B3.out.2.size))
  clear hb C3 y2 k2 j2
  go_wp2_with fail
  have C4 := Lib.hid (all_nil 5 (by decide) w3)
  (with_reducible refine C4.out.mono ?_)
  rintro e w4 ⟨rfl, hb⟩
  have B5 := Lib.hid (B4.out.trans (hb.mono B4.out.size))
  clear hb C4
  go_wp2_with fail
  have C5 := Lib.hid (new_not room w4 (by omega))
  (with_reducible refine C5.out.mono ?_)
  rintro e w5 ⟨rfl, rfl⟩
  have B6 := Lib.hid B5.out
  clear C5
  go_wp2_with (go_at_call 11; refine (awake_yes _).mono ?_; rintro e w6 ⟨rfl, hb6⟩)
  go_ret
  exact ⟨rfl, B6.out.trans (hb6.mono B6.out.size)⟩

set_option maxHeartbeats 4000000 in
set_option maxRecDepth 100000 in
theorem none_fit (room : Nat) (h1 : 0 < room) (h2 : room ≤ 100) (x : Evt) (w : World) : Calls Try.prog 3 #[.int .i64 room, ev x] w (YesW w) := by
  have q1 := neq_evt zeroE zeroE
  have q2 := neq_lens 0 0 0 0 0 0
  simp only [decide_true, Bool.not_true, and_self] at q1 q2
  obtain ⟨k, b, r, c⟩ := x
  have d0 : decide ((100 : Int) < (room : Int)) = false := by simp; omega
  have d1 : decide ((room : Int) < 1) = false := by simp; omega
  have d2 : decide ((65536 : Int) < (room : Int)) = false := by simp; omega
  have hb0 := Lib.hid ((Below.refl w.heap.size w).alloc (Nat.le_refl _) (.cells #[.int .i64 k, .int .u8 b, .int .i64 r, .int .i64 c] 23))
  go_enter Try.func3, Try.ntmps3
  go_wp2_with fail
  have C1 := Lib.hid (next_nil (w.alloc (.cells #[.int .i64 k, .int .u8 b, .int .i64 r, .int .i64 c] 23)))
  (with_reducible refine C1.out.mono ?_)
  rintro e w1 ⟨rfl, hb⟩
  have B1 := Lib.hid (And.intro ((blk_new w #[.int .i64 k, .int .u8 b, .int .i64 r, .int .i64 c] 23).later hb (by simp)) (hb0.out.trans (hb.mono hb0.out.size)))
  clear hb C1
  obtain ⟨y1, k1, j1⟩ := (show Blk _ _ _ from B1.out.1)
  go_wp2_with fail
  have B2 := Lib.hid (And.intro (blk_new w1 #[.int .i64 0, .int .u8 0, .int .i64 0, .int .i64 0] 23) (B1.out.2.alloc B1.out.2.size (.cells #[.int .i64 0, .int .u8 0, .int .i64 0, .int .i64 0] 23)))
  have C2 := Lib.hid (put_nil ⟨k, b, r, c⟩ (w1.alloc (.cells #[.int .i64 0, .int .u8 0, .int .i64 0, .int .i64 0] 23)))
  (with_reducible refine C2.out.mono ?_)
  rintro e w2 ⟨rfl, hb⟩
  have B3 := Lib.hid (And.intro (B2.out.1.later hb B2.out.1.1) (B2.out.2.trans (hb.mono B2.out.2.size)))
  clear hb C2 y1 k1 j1
  obtain ⟨y2, k2, j2⟩ := (show Blk _ _ _ from B3.out.1)
  go_wp2_with fail
  have C3 : Hid (Calls Try.prog 8 #[.pointer none] w2 fun e w' => e = .returned (.agg #[.int .i64 0, .int .i64 0, .int .i64 0]) ∧ Below w2.heap.size w2 w') := Lib.hid (len_nil w2)
  (with_reducible refine C3.out.mono ?_)
  rintro e w3 ⟨rfl, hb⟩
  have B4 := Lib.hid (B3.out.2.trans (hb.mono B3.out.2.size))
  clear hb C3 y2 k2 j2
  go_wp2_with fail
  have C4 := Lib.hid (all_nil 5 (by decide) w3)
  (with_reducible refine C4.out.mono ?_)
  rintro e w4 ⟨rfl, hb⟩
  have B5 := Lib.hid (B4.out.trans (hb.mono B4.out.size))
  clear hb C4
  go_wp2_with fail
  have C5 := Lib.hid (new_is room w4 (by omega) (by omega))
  (with_reducible refine C5.out.mono ?_)
  rintro e w5 ⟨bb, cb, ct, cs, rfl, _, hb, _⟩
  have B6 := Lib.hid (B5.out.trans (hb.mono B5.out.size))
  clear hb
  clear C5
  go_wp2_with (go_at_call 11; refine (awake_yes _).mono ?_; rintro e w6 ⟨rfl, hb6⟩)
  go_ret
  exact ⟨rfl, B6.out.trans (hb6.mono B6.out.size)⟩

set_option maxHeartbeats 4000000 in
set_option maxRecDepth 100000 in
theorem none_great (room : Int) (h1 : 65536 < room) (x : Evt) (w : World) : Calls Try.prog 3 #[.int .i64 room, ev x] w (YesW w) := by
  have q1 := neq_evt zeroE zeroE
  have q2 := neq_lens 0 0 0 0 0 0
  simp only [decide_true, Bool.not_true, and_self] at q1 q2
  obtain ⟨k, b, r, c⟩ := x
  have d0 : decide ((100 : Int) < room) = true := by simp; omega
  have d1 : decide (room ≤ 65536) = false := by simp; omega
  have d2 : decide (room < 1) = false := by simp; omega
  have d3 : decide (65536 < room) = true := by simp; omega
  have hb0 := Lib.hid ((Below.refl w.heap.size w).alloc (Nat.le_refl _) (.cells #[.int .i64 k, .int .u8 b, .int .i64 r, .int .i64 c] 23))
  go_enter Try.func3, Try.ntmps3
  go_wp2_with fail
  have C1 := Lib.hid (next_nil (w.alloc (.cells #[.int .i64 k, .int .u8 b, .int .i64 r, .int .i64 c] 23)))
  (with_reducible refine C1.out.mono ?_)
  rintro e w1 ⟨rfl, hb⟩
  have B1 := Lib.hid (And.intro ((blk_new w #[.int .i64 k, .int .u8 b, .int .i64 r, .int .i64 c] 23).later hb (by simp)) (hb0.out.trans (hb.mono hb0.out.size)))
  clear hb C1
  obtain ⟨y1, k1, j1⟩ := (show Blk _ _ _ from B1.out.1)
  go_wp2_with fail
  have B2 := Lib.hid (And.intro (blk_new w1 #[.int .i64 0, .int .u8 0, .int .i64 0, .int .i64 0] 23) (B1.out.2.alloc B1.out.2.size (.cells #[.int .i64 0, .int .u8 0, .int .i64 0, .int .i64 0] 23)))
  have C2 := Lib.hid (put_nil ⟨k, b, r, c⟩ (w1.alloc (.cells #[.int .i64 0, .int .u8 0, .int .i64 0, .int .i64 0] 23)))
  (with_reducible refine C2.out.mono ?_)
  rintro e w2 ⟨rfl, hb⟩
  have B3 := Lib.hid (And.intro (B2.out.1.later hb B2.out.1.1) (B2.out.2.trans (hb.mono B2.out.2.size)))
  clear hb C2 y1 k1 j1
  obtain ⟨y2, k2, j2⟩ := (show Blk _ _ _ from B3.out.1)
  go_wp2_with fail
  have C3 : Hid (Calls Try.prog 8 #[.pointer none] w2 fun e w' => e = .returned (.agg #[.int .i64 0, .int .i64 0, .int .i64 0]) ∧ Below w2.heap.size w2 w') := Lib.hid (len_nil w2)
  (with_reducible refine C3.out.mono ?_)
  rintro e w3 ⟨rfl, hb⟩
  have B4 := Lib.hid (B3.out.2.trans (hb.mono B3.out.2.size))
  clear hb C3 y2 k2 j2
  go_wp2_with fail
  have C4 := Lib.hid (all_nil 5 (by decide) w3)
  (with_reducible refine C4.out.mono ?_)
  rintro e w4 ⟨rfl, hb⟩
  have B5 := Lib.hid (B4.out.trans (hb.mono B4.out.size))
  clear hb C4
  go_wp2_with fail
  have C5 := Lib.hid (new_not room w4 (by omega))
  (with_reducible refine C5.out.mono ?_)
  rintro e w5 ⟨rfl, rfl⟩
  have B6 := Lib.hid B5.out
  clear C5
  go_wp2_with (go_at_call 11; refine (awake_yes _).mono ?_; rintro e w6 ⟨rfl, hb6⟩)
  go_ret
  exact ⟨rfl, B6.out.trans (hb6.mono B6.out.size)⟩

theorem walk_LoopNone (room : Int) (x : Evt) (w : World) : Calls Try.prog 3 #[.int .i64 room, ev x] w (YesW w) := by
  by_cases h1 : room < 1
  · exact none_small room h1 x w
  by_cases h2 : room ≤ 100
  · obtain ⟨n, rfl⟩ := Int.eq_ofNat_of_zero_le (show 0 ≤ room by omega)
    exact none_fit n (by omega) (by omega) x w
  by_cases h3 : room ≤ 65536
  · exact none_mid room (by omega) h3 x w
  · exact none_great room (by omega) x w
end Go.Proofs.Ytcoffbgpdbhjfaa
