/- keys: a scalar's bytes fed one behind the other: pure. -/
import Derived.Test.YtkkenabckhmkoaaKyX
namespace Go.Proofs.Ytkkenabckhmkoaa
open Go.RowKit
set_option linter.unusedVariables false
set_option linter.unusedSimpArgs false
set_option maxRecDepth 100000

theorem stepF {c : Int} (h : 2 ≤ rowN c) : stepD DS.zero c = (⟨c, 0, 0, 1⟩, []) := by
  rw [stepD_zero]
  unfold beginD
  rw [if_neg (by omega), if_neg (by omega)]
theorem step2 {c b : Int} (hg : goes c 1 b = true) (hr : ¬ rowN c = 2) : stepD ⟨c, 0, 0, 1⟩ b = (⟨c, b, 0, 2⟩, []) := by
  have hr' : ¬ rowN c = 1 + 1 := hr
  simp only [stepD, if_neg (show ¬ (1 : Int) = 0 by omega), if_pos hg, if_neg hr', if_pos]
theorem step3 {c a b : Int} (hg : goes c 2 b = true) (hr : ¬ rowN c = 3) : stepD ⟨c, a, 0, 2⟩ b = (⟨c, a, b, 3⟩, []) := by
  have hr' : ¬ rowN c = 2 + 1 := hr
  simp only [stepD, if_neg (show ¬ (2 : Int) = 0 by omega), if_pos hg, if_neg hr', if_neg (show ¬ (2 : Int) = 1 by omega)]
theorem stepW {s : DS} {b : Int} (h : ¬ s.n = 0) (hg : goes s.h0 s.n b = true) (hr : rowN s.h0 = s.n + 1) : stepD s b = (DS.zero, [wholeD s b]) := by
  simp only [stepD, if_neg h, if_pos hg, if_pos hr]
theorem put1 {n : Int} (h0 : 0 ≤ n) (h1 : n < 128) : stepD DS.zero n = (DS.zero, [n]) := by
  have hc : rowN n = 1 := by unfold rowN; rw [if_pos (by omega)]
  rw [stepD_zero]
  unfold beginD
  rw [if_neg (by omega), if_pos hc]
theorem put2 {n : Int} (h0 : 128 ≤ n) (h1 : n < 2048) : stepD DS.zero (192 + n / 64) = (⟨192 + n / 64, 0, 0, 1⟩, []) ∧ stepD ⟨192 + n / 64, 0, 0, 1⟩ (128 + n % 64) = (DS.zero, [n]) := by
  have hc : rowN (192 + n / 64) = 2 := by
    unfold rowN; rw [if_neg (by omega), if_neg (by omega), if_pos (by omega)]
  have g1 : goes (192 + n / 64) 1 (128 + n % 64) = true := (may_one (by omega)).1 (by
    simp only [MayI]
    rw [if_neg (by omega), if_neg (by omega), if_neg (by omega), if_neg (by omega), if_neg (by omega)]
    omega)
  refine ⟨stepF (by omega), ?_⟩
  rw [stepW (by simp) g1 (by simpa using hc)]
  simp [wholeD, hc, leadOf]
  omega
theorem put3 {n : Int} (h0 : 2048 ≤ n) (h1 : n < 65536) (h : n < 55296 ∨ 57343 < n) : stepD DS.zero (224 + n / 4096) = (⟨224 + n / 4096, 0, 0, 1⟩, []) ∧ stepD ⟨224 + n / 4096, 0, 0, 1⟩ (128 + n / 64 % 64) = (⟨224 + n / 4096, 128 + n / 64 % 64, 0, 2⟩, []) ∧ stepD ⟨224 + n / 4096, 128 + n / 64 % 64, 0, 2⟩ (128 + n % 64) = (DS.zero, [n]) := by
  have hc : rowN (224 + n / 4096) = 3 := by
    unfold rowN; rw [if_neg (by omega), if_neg (by omega), if_neg (by omega), if_pos (by omega)]
  have g1 : goes (224 + n / 4096) 1 (128 + n / 64 % 64) = true := (may_one (by omega)).1 (by
    simp only [MayI]
    rw [if_neg (by omega)]
    split
    · omega
    · split
      · omega
      · rw [if_neg (by omega), if_neg (by omega)]
        omega)
  have g2 : goes (224 + n / 4096) 2 (128 + n % 64) = true := (may_more (i := 2) (by omega) 2 rfl).1 (by
    simp only [MayI]
    rw [if_neg (by omega), if_neg (by omega), if_neg (by omega), if_neg (by omega), if_neg (by omega)]
    omega)
  refine ⟨stepF (by omega), step2 g1 (by omega), ?_⟩
  rw [stepW (by simp) g2 (by simpa using hc)]
  simp [wholeD, hc, leadOf]
  omega
theorem put4 {n : Int} (h0 : 65536 ≤ n) (h1 : n ≤ 1114111) : stepD DS.zero (240 + n / 262144) = (⟨240 + n / 262144, 0, 0, 1⟩, []) ∧ stepD ⟨240 + n / 262144, 0, 0, 1⟩ (128 + n / 4096 % 64) = (⟨240 + n / 262144, 128 + n / 4096 % 64, 0, 2⟩, []) ∧ stepD ⟨240 + n / 262144, 128 + n / 4096 % 64, 0, 2⟩ (128 + n / 64 % 64) = (⟨240 + n / 262144, 128 + n / 4096 % 64, 128 + n / 64 % 64, 3⟩, []) ∧ stepD ⟨240 + n / 262144, 128 + n / 4096 % 64, 128 + n / 64 % 64, 3⟩ (128 + n % 64) = (DS.zero, [n]) := by
  have hc : rowN (240 + n / 262144) = 4 := by
    unfold rowN; rw [if_neg (by omega), if_neg (by omega), if_neg (by omega), if_neg (by omega)]
  have g1 : goes (240 + n / 262144) 1 (128 + n / 4096 % 64) = true := (may_one (by omega)).1 (by
    simp only [MayI]
    rw [if_neg (by omega), if_neg (by omega), if_neg (by omega)]
    split
    · omega
    · split
      · omega
      · omega)
  have g2 : goes (240 + n / 262144) 2 (128 + n / 64 % 64) = true := (may_more (i := 2) (by omega) 2 rfl).1 (by
    simp only [MayI]
    rw [if_neg (by omega), if_neg (by omega), if_neg (by omega), if_neg (by omega), if_neg (by omega)]
    omega)
  have g3 : goes (240 + n / 262144) 3 (128 + n % 64) = true := (may_more (i := 3) (by omega) 3 rfl).1 (by
    simp only [MayI]
    rw [if_neg (by omega), if_neg (by omega), if_neg (by omega), if_neg (by omega), if_neg (by omega)]
    omega)
  refine ⟨stepF (by omega), step2 g1 (by omega), step3 g2 (by omega), ?_⟩
  rw [stepW (by simp) g3 (by simpa using hc)]
  simp [wholeD, hc, leadOf]
  omega
end Go.Proofs.Ytkkenabckhmkoaa
