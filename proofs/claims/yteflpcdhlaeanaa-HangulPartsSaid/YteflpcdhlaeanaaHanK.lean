/- Korean syllables: there and back. -/
import Derived.Test.YteflpcdhlaeanaaHanJ
namespace Go.Proofs.Yteflpcdhlaeanaa
open Go.RowKit
set_option linter.unusedVariables false

set_option maxHeartbeats 1000000 in
theorem back_two (n : Int) (r x y : Int) (hr : 44032 + n.tmod 11172 % 11172 = r) (h0 : -11172 < n.tmod 11172) (h1 : n.tmod 11172 < 11172) (hx : hpart r 0 = x) (hy : hpart r 1 = y)
    (hs : ∀ w, Calls Try.prog 8 #[.int .i32 r] w (Tells 2 (hpart r) w))
    (hj : ∀ w, Calls Try.prog 13 #[.int .i32 x, .int .i32 y] w fun e w' => e = .returned (.tuple #[.int .i32 r, .bool true]) ∧ w = w') (w : World) :
    Calls Try.prog 5 #[.int .i64 n] w (Yes w) := by
  have HR := Lib.hid hr
  have HX := Lib.hid hx
  have HY := Lib.hid hy
  have Hs := Lib.hid hs
  have Hj := Lib.hid hj
  clear hr hx hy hs hj
  have E : (r == r) = true := by simp
  go_enter Try.func5, Try.ntmps5
  go_wp2_with fail
  rw [HR.out]
  refine (Hs.out _).mono ?_
  rintro e w1 ⟨A, c, rfl, hA, hb⟩
  obtain ⟨b, o, rfl, hl, hc⟩ := hA.all (by omega)
  have c0 := hc 0 (by omega)
  have c1 := hc 1 (by omega)
  rw [Nat.add_zero] at c0
  unfold iv at c0 c1
  rw [HX.out] at c0
  rw [HY.out] at c1
  clear hA hc h0 h1
  go_wp2_with fail
  go_quiet ((go_at_call 13; exact quiet_here (Hj.out _)))
  go_wp2_with (first
    | (go_at_call 12; refine (awake_yes _).mono ?_; rintro e w4 ⟨rfl, hb4⟩))
  go_ret
  exact ⟨rfl, hb.trans ((below_drewN (Below.refl _ _) _).trans hb4 |>.mono hb.size)⟩

set_option maxHeartbeats 1000000 in
theorem back_three (n : Int) (r x y z s : Int) (hr : 44032 + n.tmod 11172 % 11172 = r) (h0 : -11172 < n.tmod 11172) (h1 : n.tmod 11172 < 11172) (hx : hpart r 0 = x) (hy : hpart r 1 = y) (hz : hpart r 2 = z)
    (hs : ∀ w, Calls Try.prog 8 #[.int .i32 r] w (Tells 3 (hpart r) w))
    (hj : ∀ w, Calls Try.prog 13 #[.int .i32 x, .int .i32 y] w fun e w' => e = .returned (.tuple #[.int .i32 s, .bool true]) ∧ w = w')
    (hk : ∀ w, Calls Try.prog 13 #[.int .i32 s, .int .i32 z] w fun e w' => e = .returned (.tuple #[.int .i32 r, .bool true]) ∧ w = w') (w : World) :
    Calls Try.prog 5 #[.int .i64 n] w (Yes w) := by
  have HR := Lib.hid hr
  have HX := Lib.hid hx
  have HY := Lib.hid hy
  have HZ := Lib.hid hz
  have Hs := Lib.hid hs
  have Hj := Lib.hid hj
  have Hk := Lib.hid hk
  clear hr hx hy hz hs hj hk
  have E : (r == r) = true := by simp
  go_enter Try.func5, Try.ntmps5
  go_wp2_with fail
  rw [HR.out]
  refine (Hs.out _).mono ?_
  rintro e w1 ⟨A, c, rfl, hA, hb⟩
  obtain ⟨b, o, rfl, hl, hc⟩ := hA.all (by omega)
  have c0 := hc 0 (by omega)
  have c1 := hc 1 (by omega)
  have c2 := hc 2 (by omega)
  rw [Nat.add_zero] at c0
  unfold iv at c0 c1 c2
  rw [HX.out] at c0
  rw [HY.out] at c1
  rw [HZ.out] at c2
  clear hA hc h0 h1
  go_wp2_with fail
  go_quiet ((go_at_call 13; exact quiet_here (Hj.out _)))
  go_wp2_with (first
    | (go_at_call 13; refine (Hk.out _).mono ?_; rintro e w' ⟨rfl, rfl⟩)
    | (go_at_call 12; refine (awake_yes _).mono ?_; rintro e w4 ⟨rfl, hb4⟩))
  go_ret
  exact ⟨rfl, hb.trans ((below_drewN (Below.refl _ _) _).trans hb4 |>.mono hb.size)⟩

theorem tmod_in (n m : Int) (hm : 0 < m) : -m < n.tmod m ∧ n.tmod m < m := by
  have h1 := Int.tmod_lt_of_pos n hm
  have h2 := Int.tmod_lt_of_pos (-n) hm
  rw [Int.neg_tmod] at h2
  omega

theorem lv_is (x y v : Int) (x0 : 4352 ≤ x) (x1 : x < 4371) (y0 : 4449 ≤ y) (y1 : y < 4470) (hv : 44032 + ((x - 4352) * 21 + y - 4449) * 28 = v) :
    ∀ w, Calls Try.prog 13 #[.int .i32 x, .int .i32 y] w fun e w' => e = .returned (.tuple #[.int .i32 v, .bool true]) ∧ w = w' := by
  subst hv
  exact (join_lv x y x0 x1 y0 y1).1

theorem st_is (s z v : Int) (s0 : 44032 ≤ s) (s1 : s < 55204) (s2 : (s - 44032) % 28 = 0) (z0 : 4520 ≤ z) (z1 : z < 4547) (hv : s + z - 4519 = v) :
    ∀ w, Calls Try.prog 13 #[.int .i32 s, .int .i32 z] w fun e w' => e = .returned (.tuple #[.int .i32 v, .bool true]) ∧ w = w' := by
  subst hv
  exact (join_st s z s0 s1 s2 z0 z1).1

theorem walk_HangulBack (n : Int) (_wn : (Lit.int .i64 n).wf = true) (w : World) : Calls Try.prog 5 #[.int .i64 n] w (Yes w) := by
  obtain ⟨h0, h1⟩ := tmod_in n 11172 (by omega)
  obtain ⟨r, hr⟩ : ∃ r, 44032 + n.tmod 11172 % 11172 = r := ⟨_, rfl⟩
  have a0 : 44032 ≤ r := by omega
  have a1 : r < 55204 := by omega
  by_cases h2 : (r - 44032) % 28 = 0
  · exact back_two n r _ _ hr h0 h1 rfl rfl (fun w => split_two r w a0 a1 h2)
      (lv_is _ _ _ (by simp [hpart]; omega) (by simp [hpart]; omega) (by simp [hpart]; omega) (by simp [hpart]; omega) (by simp only [hpart, if_pos, reduceIte, Nat.one_ne_zero]; omega)) w
  · refine back_three n r _ _ _ (r - (r - 44032) % 28) hr h0 h1 rfl rfl rfl (fun w => split_three r w a0 a1 (by omega))
      (lv_is _ _ _ (by simp [hpart]; omega) (by simp [hpart]; omega) (by simp [hpart]; omega) (by simp [hpart]; omega) (by simp only [hpart, if_pos, reduceIte, Nat.one_ne_zero]; omega))
      (st_is _ _ _ (by omega) (by omega) (by omega) (by simp [hpart]; omega) (by simp [hpart]; omega) (by simp [hpart]; omega)) w

end Go.Proofs.Yteflpcdhlaeanaa
