/- utf: a step that goes on; a step, whatever comes. -/
import Derived.Test.YtfnieoffgnnldaaDoorUtfC
namespace Go.Proofs.YtfnieoffgnnldaaDoor
open Go.RowKit
set_option linter.unusedVariables false
set_option linter.unusedSimpArgs false

set_option maxHeartbeats 2000000 in
theorem step_more_one (h0 b : Int)  (w : World) (g0 : 0 ≤ h0) (g1 : h0 ≤ 255) (b0 : 0 ≤ b) (b1 : b ≤ 255) (hg : goes h0 1 b = true) (hn : rowN h0 ≠ 2) :
    Calls Tryd.prog 69 #[dcd h0 0 0 1, .int .u8 b] w (Stepped (dcd h0 b 0 2) 0 0 0 w) := by
  have HR := Lib.hid (row_any h0 g0 g1)
  have E : (rowN h0 == 2) = false := by simp [hn]
  clear hn
  go_enter Tryd.func69, Tryd.ntmps69
  go_wp2_with (first
    | (go_at_call 78; refine (goes_any h0 0 0 1 b _ g0 g1 (by omega) (by omega)).mono ?_; rintro e w1 ⟨rfl, hg1⟩; obtain ⟨⟨z0, z1, z2⟩, B0, B1, B2⟩ := three_later hg1; obtain ⟨_, k0, j0⟩ := (show _ from B0); obtain ⟨_, k1, j1⟩ := (show _ from B1); obtain ⟨_, k2, j2⟩ := (show _ from B2))
    | (go_at_call 79; refine (HR.out _).mono ?_; rintro e w' ⟨rfl, rfl⟩))
  refine at_world (Done w (.int .u8 h0) (.int .u8 b) (.int .u8 0) (.int .i64 2) (.int .i32 0) (.int .i32 0)) ?_ ?_
  · exact done_of (((below_three hg1).setCell (Nat.le_refl _) _).setCell (Nat.le_refl _) _) ((B1.far (by simp) _).far (by simp) _) ((B2.far (by show w.heap.size ≠ w.heap.size + 1 + 1; omega) _).far (by show w.heap.size ≠ w.heap.size + 1 + 1; omega) _)
  rintro X ⟨c1, c2, hX⟩
  exact bodyPost_ret (v := .tuple #[dcd h0 b 0 2, .agg #[.int .i32 0, .int .i32 0], .int .i64 0]) (by simp [results, Tryd.results69, go_sem, c1, c2]) rfl ⟨rfl, hX⟩

set_option maxHeartbeats 2000000 in
theorem step_more_two (h0 b : Int) (h1 : Int) (w : World) (g0 : 0 ≤ h0) (g1 : h0 ≤ 255) (b0 : 0 ≤ b) (b1 : b ≤ 255) (hg : goes h0 2 b = true) (hn : rowN h0 ≠ 3) :
    Calls Tryd.prog 69 #[dcd h0 h1 0 2, .int .u8 b] w (Stepped (dcd h0 h1 b 3) 0 0 0 w) := by
  have HR := Lib.hid (row_any h0 g0 g1)
  have E : (rowN h0 == 3) = false := by simp [hn]
  clear hn
  go_enter Tryd.func69, Tryd.ntmps69
  go_wp2_with (first
    | (go_at_call 78; refine (goes_any h0 h1 0 2 b _ g0 g1 (by omega) (by omega)).mono ?_; rintro e w1 ⟨rfl, hg1⟩; obtain ⟨⟨z0, z1, z2⟩, B0, B1, B2⟩ := three_later hg1; obtain ⟨_, k0, j0⟩ := (show _ from B0); obtain ⟨_, k1, j1⟩ := (show _ from B1); obtain ⟨_, k2, j2⟩ := (show _ from B2))
    | (go_at_call 79; refine (HR.out _).mono ?_; rintro e w' ⟨rfl, rfl⟩))
  refine at_world (Done w (.int .u8 h0) (.int .u8 h1) (.int .u8 b) (.int .i64 3) (.int .i32 0) (.int .i32 0)) ?_ ?_
  · exact done_of (((below_three hg1).setCell (Nat.le_refl _) _).setCell (Nat.le_refl _) _) ((B1.far (by simp) _).far (by simp) _) ((B2.far (by show w.heap.size ≠ w.heap.size + 1 + 1; omega) _).far (by show w.heap.size ≠ w.heap.size + 1 + 1; omega) _)
  rintro X ⟨c1, c2, hX⟩
  exact bodyPost_ret (v := .tuple #[dcd h0 h1 b 3, .agg #[.int .i32 0, .int .i32 0], .int .i64 0]) (by simp [results, Tryd.results69, go_sem, c1, c2]) rfl ⟨rfl, hX⟩

/-! ### A decoder's state, and what a byte makes of it -/
structure DS where
  h0 : Int
  h1 : Int
  h2 : Int
  n : Int

def DS.zero : DS := ⟨0, 0, 0, 0⟩
def DS.val (s : DS) : Value := dcd s.h0 s.h1 s.h2 s.n

/-- The states that can be. -/
def DS.Ok (s : DS) : Prop := (0 ≤ s.h0 ∧ s.h0 ≤ 255 ∧ 0 ≤ s.h1 ∧ s.h1 ≤ 255 ∧ 0 ≤ s.h2 ∧ s.h2 ≤ 255) ∧
  ((s.n = 0 ∧ s.h0 = 0 ∧ s.h1 = 0 ∧ s.h2 = 0) ∨ (s.n = 1 ∧ s.h1 = 0 ∧ s.h2 = 0 ∧ 2 ≤ rowN s.h0) ∨ (s.n = 2 ∧ s.h2 = 0 ∧ 3 ≤ rowN s.h0) ∨ (s.n = 3 ∧ 4 ≤ rowN s.h0))

def beginD (b : Int) : DS × List Int := if rowN b = 0 then (DS.zero, [65533]) else if rowN b = 1 then (DS.zero, [b]) else (⟨b, 0, 0, 1⟩, [])

def wholeD (s : DS) (b : Int) : Int :=
  if s.n = 1 then (s.h0 - leadOf (rowN s.h0)) * 64 + b % 64
  else if s.n = 2 then ((s.h0 - leadOf (rowN s.h0)) * 64 + s.h1 % 64) * 64 + b % 64
  else (((s.h0 - leadOf (rowN s.h0)) * 64 + s.h1 % 64) * 64 + s.h2 % 64) * 64 + b % 64

def stepD (s : DS) (b : Int) : DS × List Int :=
  if s.n = 0 then beginD b
  else if goes s.h0 s.n b = true then
    if rowN s.h0 = s.n + 1 then (DS.zero, [wholeD s b])
    else if s.n = 1 then (⟨s.h0, b, 0, 2⟩, []) else (⟨s.h0, s.h1, b, 3⟩, [])
  else ((beginD b).1, 65533 :: (beginD b).2)

theorem rowN_le (b : Int) : 0 ≤ rowN b ∧ rowN b ≤ 4 := by
  unfold rowN
  split
  · omega
  · split
    · omega
    · split
      · omega
      · split <;> omega

theorem beginD_ok (b : Int) (b0 : 0 ≤ b) (b1 : b ≤ 255) : (beginD b).1.Ok := by
  have := rowN_le b
  unfold beginD
  split
  · exact ⟨by simp [DS.zero], .inl ⟨rfl, rfl, rfl, rfl⟩⟩
  · split
    · exact ⟨by simp [DS.zero], .inl ⟨rfl, rfl, rfl, rfl⟩⟩
    · exact ⟨⟨b0, b1, by simp⟩, .inr (.inl ⟨rfl, rfl, rfl, by show 2 ≤ rowN b; omega⟩)⟩

theorem stepD_ok (s : DS) (b : Int) (hs : s.Ok) (b0 : 0 ≤ b) (b1 : b ≤ 255) : (stepD s b).1.Ok := by
  have hr := rowN_le s.h0
  obtain ⟨⟨g0, g1, g2, g3, g4, g5⟩, hs⟩ := hs
  unfold stepD
  split
  · exact beginD_ok b b0 b1
  · split
    · split
      · exact ⟨by simp [DS.zero], .inl ⟨rfl, rfl, rfl, rfl⟩⟩
      · split
        · exact ⟨⟨g0, g1, b0, b1, by simp⟩, .inr (.inr (.inl ⟨rfl, rfl, by show 3 ≤ rowN s.h0; omega⟩))⟩
        · exact ⟨⟨g0, g1, g2, g3, b0, b1⟩, .inr (.inr (.inr ⟨rfl, by show 4 ≤ rowN s.h0; omega⟩))⟩
    · exact beginD_ok b b0 b1

/-- What step tells, of a state and a byte. -/
def StepTo (s : DS) (b : Int) (w : World) (e : Ending) (w' : World) : Prop :=
  ∃ (x y : Int) (k : Nat), k ≤ 2 ∧ e = .returned (.tuple #[(stepD s b).1.val, .agg #[.int .i32 x, .int .i32 y], .int .i64 k]) ∧ [x, y].take k = (stepD s b).2 ∧ Below w.heap.size w w'

theorem begin_any (b : Int) (b0 : 0 ≤ b) (b1 : b ≤ 255) : ∃ x y z n r t, (∀ w, Calls Tryd.prog 81 #[.int .u8 b] w (Begun (dcd x y z n) r t w)) ∧ (beginD b).1 = ⟨x, y, z, n⟩ ∧ (beginD b).2 = if t then [r] else [] := by
  have := rowN_le b
  by_cases h0 : rowN b = 0
  · exact ⟨_, _, _, _, _, _, fun w => begin_none b w b0 b1 h0, by simp [beginD, h0, DS.zero], by simp [beginD, h0]⟩
  · by_cases h1 : rowN b = 1
    · exact ⟨_, _, _, _, _, _, fun w => begin_one b w b0 b1 h1, by simp [beginD, h1, DS.zero], by simp [beginD, h1]⟩
    · exact ⟨_, _, _, _, _, _, fun w => begin_more b w b0 b1 (by omega), by simp [beginD, h0, h1], by simp [beginD, h0, h1]⟩

theorem step_any (s : DS) (b : Int) (hs : s.Ok) (b0 : 0 ≤ b) (b1 : b ≤ 255) (w : World) : Calls Tryd.prog 69 #[s.val, .int .u8 b] w (StepTo s b w) := by
  obtain ⟨x, y, z, n, r, t, hb, he, hl⟩ := begin_any b b0 b1
  have hok := hs
  obtain ⟨⟨g0, g1, g2, g3, g4, g5⟩, hs⟩ := hs
  obtain ⟨h0, h1, h2, m⟩ := s
  simp only at g0 g1 g2 g3 g4 g5 hs
  by_cases hm : m = 0
  · obtain ⟨rfl, rfl, rfl, rfl⟩ : m = 0 ∧ h0 = 0 ∧ h1 = 0 ∧ h2 = 0 := by omega
    refine (step_zero b r x y z n t w b0 b1 hb).mono fun e w' hh => ?_
    obtain ⟨rfl, hbw⟩ := hh
    have e1 : stepD ⟨0, 0, 0, 0⟩ b = beginD b := by simp [stepD]
    unfold StepTo
    rw [e1, he, hl]
    cases t
    · exact ⟨_, _, 0, by omega, rfl, rfl, hbw⟩
    · exact ⟨_, _, 1, by omega, rfl, rfl, hbw⟩
  · by_cases hg : goes h0 m b = true
    · have hlo := row_bits h0 (by omega)
      have hx := lead_off h0 g0 g1 (by omega)
      have hr := rowN_le h0
      by_cases hn : rowN h0 = m + 1
      · have e1 : stepD ⟨h0, h1, h2, m⟩ b = (DS.zero, [wholeD ⟨h0, h1, h2, m⟩ b]) := by simp [stepD, hm, hg, hn]
        unfold StepTo
        rw [e1]
        have hc : (m = 1 ∧ h1 = 0 ∧ h2 = 0) ∨ (m = 2 ∧ h2 = 0) ∨ m = 3 := by omega
        rcases hc with ⟨rfl, rfl, rfl⟩ | ⟨rfl, rfl⟩ | rfl
        · exact (step_whole_one h0 _ b _ w g0 g1 b0 b1 hg hn hx hlo.1 hlo.2.1 rfl).mono fun e w' ⟨he, hbw⟩ => ⟨_, _, 1, by omega, he, by simp [wholeD], hbw⟩
        · exact (step_whole_two h0 _ b _ h1 g2 g3 w g0 g1 b0 b1 hg hn hx hlo.1 hlo.2.1 rfl).mono fun e w' ⟨he, hbw⟩ => ⟨_, _, 1, by omega, he, by simp [wholeD], hbw⟩
        · exact (step_whole_three h0 _ b _ h1 h2 g2 g3 g4 g5 w g0 g1 b0 b1 hg hn hx hlo.1 hlo.2.1 rfl).mono fun e w' ⟨he, hbw⟩ => ⟨_, _, 1, by omega, he, by simp [wholeD], hbw⟩
      · have hc : (m = 1 ∧ h1 = 0 ∧ h2 = 0) ∨ (m = 2 ∧ h2 = 0) := by omega
        unfold StepTo
        rcases hc with ⟨rfl, rfl, rfl⟩ | ⟨rfl, rfl⟩
        · have e1 : stepD ⟨h0, 0, 0, 1⟩ b = (⟨h0, b, 0, 2⟩, []) := by simp [stepD, hg]; omega
          rw [e1]
          exact (step_more_one h0 b w g0 g1 b0 b1 hg (by omega)).mono fun e w' ⟨he, hbw⟩ => ⟨_, _, 0, by omega, he, rfl, hbw⟩
        · have e1 : stepD ⟨h0, h1, 0, 2⟩ b = (⟨h0, h1, b, 3⟩, []) := by simp [stepD, hg]; omega
          rw [e1]
          exact (step_more_two h0 b h1 w g0 g1 b0 b1 hg (by omega)).mono fun e w' ⟨he, hbw⟩ => ⟨_, _, 0, by omega, he, rfl, hbw⟩
    · have e1 : stepD ⟨h0, h1, h2, m⟩ b = ((beginD b).1, 65533 :: (beginD b).2) := by simp [stepD, hm, hg]
      unfold StepTo
      rw [e1]
      simp only
      rw [he, hl]
      refine (step_off h0 h1 h2 m b r x y z n t w g0 g1 (by omega) (by omega) b0 b1 (by simpa using hg) hb).mono fun e w' hh => ?_
      obtain ⟨rfl, hbw⟩ := hh
      cases t
      · exact ⟨_, _, 1, by omega, rfl, rfl, hbw⟩
      · exact ⟨_, _, 2, by omega, rfl, rfl, hbw⟩

end Go.Proofs.YtfnieoffgnnldaaDoor
