/- grid: the chapter's example. -/
import Derived.Test.YtcofhjipackldaaGrM
namespace Go.Proofs.Ytcofhjipackldaa
open Go.RowKit
set_option linter.unusedVariables false
set_option linter.unusedSimpArgs false

theorem chg_iv_below {w v : World} {lo hi B : Nat} (h : Chg (Iv lo hi) w v) (hB : B ≤ w.heap.size) (hl : B ≤ lo) : Below B w v := h.below hB fun k hk hs => by unfold Iv at hs; omega

theorem awake_yes (w : World) : Calls Try.prog 16 #[] w fun e w' => e = .returned (.bool true) ∧ Below w.heap.size w w' := by
  have q1 : ∀ w, (Go.binOp .eql 28 (.agg #[.string ⟨#[32]⟩, .int .i64 1]) (.agg #[.string ⟨#[32]⟩, .int .i64 1])).run Try.prog w = .ok (.bool true) w := fun w => eql_cl blank blank w
  have q2 : ∀ w, (Go.binOp .eql 28 (.agg #[.string ⟨#[120]⟩, .int .i64 1]) (.agg #[.string ⟨#[120]⟩, .int .i64 1])).run Try.prog w = .ok (.bool true) w := fun w => by
    have := eql_cl (⟨#[120]⟩, 1) (⟨#[120]⟩, 1) w
    simpa using this
  go_enter Try.func16, Try.ntmps16
  go_wp2_with fail
  refine (new_in (R := 1) (n := 4) w (by omega) (by omega) (by omega) (by omega)).mono ?_
  rintro e w1 ⟨g, cb, C, rfl, P1, b1⟩
  have H1 := Lib.hid (And.intro P1 b1)
  clear P1 b1
  go_wp2_with fail
  refine (put_all H1.out.1 0 1 ⟨#[119]⟩ 2).mono ?_
  rw [show okB 1 4 0 1 2 = true from by decide]
  rintro e w2 ⟨rfl, p2⟩
  have H2 := Lib.hid p2
  clear p2
  go_wp2_with fail
  refine (put_all H2.out.1 0 2 ⟨#[120]⟩ 1).mono ?_
  rw [show okB 1 4 0 2 1 = true from by decide]
  rintro e w3 ⟨rfl, p3⟩
  have H3 := Lib.hid p3
  have b3 := Lib.hid (H1.out.2.trans (chg_iv_below (H2.out.2.trans p3.2) H1.out.2.size (Nat.le_refl _)))
  clear p3
  go_wp2_with fail
  refine (at_in (r := 0) (c := 1) H3.out.1 (by omega) (by omega)).mono ?_
  rintro e w4 ⟨rfl, b4⟩
  have H4 := Lib.hid b4
  have P4 := Lib.hid (H3.out.1.later b4)
  clear b4
  rw [show putF 1 4 (putF 1 4 (fun _ _ => blank) 0 1 ⟨#[119]⟩ 2) 0 2 ⟨#[120]⟩ 1 0 1 = blank from by rfl]
  simp only [blank]
  go_wp2_with fail
  refine (blank_any w4).mono ?_
  rintro e w5 ⟨rfl, b5⟩
  have P5 := Lib.hid (P4.out.later b5)
  have H5 := Lib.hid b5
  clear b5
  go_wp2_with fail
  refine (at_in (r := 0) (c := 2) P5.out (by omega) (by omega)).mono ?_
  rintro e w6 ⟨rfl, b6⟩
  have P6 := Lib.hid (P5.out.later b6)
  have H6 := Lib.hid b6
  clear b6
  rw [show putF 1 4 (putF 1 4 (fun _ _ => blank) 0 1 ⟨#[119]⟩ 2) 0 2 ⟨#[120]⟩ 1 0 2 = (⟨#[120]⟩, 1) from by rfl]
  simp only
  go_wp2_with fail
  refine (at_in (r := 0) (c := 3) P6.out (by omega) (by omega)).mono ?_
  rintro e w7 ⟨rfl, b7⟩
  have H7 := Lib.hid b7
  clear b7
  rw [show putF 1 4 (putF 1 4 (fun _ _ => blank) 0 1 ⟨#[119]⟩ 2) 0 2 ⟨#[120]⟩ 1 0 3 = blank from by rfl]
  simp only [blank]
  go_wp2_with fail
  go_ret
  exact ⟨rfl, belowStep b3.out (belowStep H4.out (belowStep H5.out (belowStep H6.out H7.out)))⟩
end Go.Proofs.Ytcofhjipackldaa
