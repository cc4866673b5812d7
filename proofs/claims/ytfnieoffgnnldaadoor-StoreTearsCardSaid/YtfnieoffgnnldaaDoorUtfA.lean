/- utf: which rows bytes begin; what a decoder does with a byte. -/
import Derived.Test.YtfnieoffgnnldaaDoorSame
namespace Go.Proofs.YtfnieoffgnnldaaDoor
open Go.RowKit
set_option linter.unusedVariables false
set_option linter.unusedSimpArgs false

def rowN (b : Int) : Int := if b < 128 then 1 else if b < 194 ∨ 244 < b then 0 else if b < 224 then 2 else if b < 240 then 3 else 4
def rowLo (b : Int) : Int := if b < 194 ∨ 244 < b then 0 else if b = 224 then 160 else if b = 240 then 144 else 128
def rowHi (b : Int) : Int := if b < 194 ∨ 244 < b then 0 else if b = 237 then 159 else if b = 244 then 143 else 191

/-- The region of a byte as tests tell it. -/
theorem row_case (b : Int) (h0 : 0 ≤ b) (h1 : b ≤ 255) : b < 128 ∨ (128 ≤ b ∧ b < 194) ∨ (244 < b) ∨ (194 ≤ b ∧ b < 224) ∨ b = 224 ∨ b = 237 ∨ (225 ≤ b ∧ b < 237) ∨ (238 ≤ b ∧ b < 240) ∨ b = 240 ∨ b = 244 ∨ (241 ≤ b ∧ b < 244) := by omega

def RowIs (b : Int) : Prop := ∀ w, Calls Tryd.prog 79 #[.int .u8 b] w fun e w' => e = .returned (.tuple #[.int .i64 (rowN b), .int .u8 (rowLo b), .int .u8 (rowHi b)]) ∧ w = w'

theorem row_low (b : Int) (h0 : 0 ≤ b) (h1 : b < 128) : RowIs b := by
  intro w
  have E := Lib.hid (show rowN b = 1 ∧ rowLo b = 0 ∧ rowHi b = 0 by simp [rowN, rowLo, rowHi]; omega)
  go_enter Tryd.func79, Tryd.ntmps79
  go_wp2
  go_ret3
  rw [E.out.1, E.out.2.1, E.out.2.2]
  exact ⟨rfl, rfl⟩

theorem row_none (b : Int) (x1 x2 : Bool) (d0 : decide (b < 128) = false) (d1 : decide (b < 194) = x1) (d2 : decide (244 < b) = x2) (hx : (x1 || x2) = true) : RowIs b := by
  intro w
  have E := Lib.hid (show rowN b = 0 ∧ rowLo b = 0 ∧ rowHi b = 0 by
    have : b < 194 ∨ 244 < b := by
      rcases x1 with _ | _
      · right; simpa [← d2] using hx
      · left; simpa using d1
    have : ¬ b < 128 := by simpa using d0
    simp [rowN, rowLo, rowHi]; omega)
  cases x1 <;> cases x2
  case false.false => cases hx
  all_goals
    clear hx
    go_enter Tryd.func79, Tryd.ntmps79
    go_wp2
    go_ret3
    rw [E.out.1, E.out.2.1, E.out.2.2]
    exact ⟨rfl, rfl⟩

theorem row_some (b n lo hi : Int) (h0 : 194 ≤ b) (h1 : b ≤ 244) (x1 x2 x3 x4 x5 x6 : Bool) (e0 : decide (b < 128) = false) (e1 : decide (b < 194) = false) (e2 : decide (244 < b) = false)
    (d1 : decide (b < 224) = x1) (d2 : (b == 224) = x2) (d3 : (b == 237) = x3) (d4 : decide (b < 240) = x4) (d5 : (b == 240) = x5) (d6 : (b == 244) = x6)
    (hn : n = bif x1 then 2 else bif x4 then 3 else 4) (hlo : lo = bif x1 then 128 else bif x2 then 160 else bif x5 then 144 else 128) (hhi : hi = bif x1 then 191 else bif x3 then 159 else bif x6 then 143 else 191)
    (hr : rowN b = n ∧ rowLo b = lo ∧ rowHi b = hi) (hc : (x1 && (x2 || x3 || x5 || x6)) = false ∧ (x2 && !x4) = false ∧ (x3 && !x4) = false ∧ (x1 && !x4) = false ∧ (x2 && (x3 || x5 || x6)) = false ∧ (x3 && (x5 || x6)) = false ∧ (x5 && (x6 || x4)) = false ∧ (x6 && x4) = false) : RowIs b := by
  intro w
  have E := Lib.hid hr
  clear hr
  cases x1 <;> cases x2 <;> cases x3 <;> cases x4 <;> cases x5 <;> cases x6 <;> simp at hc <;> simp at hn hlo hhi <;> subst hn <;> subst hlo <;> subst hhi
  all_goals
    go_enter Tryd.func79, Tryd.ntmps79
    go_wp2
    go_ret3
    rw [E.out.1, E.out.2.1, E.out.2.2]
    exact ⟨rfl, rfl⟩

theorem row_any (b : Int) (h0 : 0 ≤ b) (h1 : b ≤ 255) : RowIs b := by
  by_cases h2 : b < 128
  · exact row_low b h0 h2
  · by_cases h3 : b < 194 ∨ 244 < b
    · exact row_none b _ _ (decide_eq_false h2) rfl rfl (by simpa using h3)
    · have h4 : 194 ≤ b ∧ b ≤ 244 := by omega
      refine row_some b _ _ _ h4.1 h4.2 _ _ _ _ _ _ (decide_eq_false h2) (decide_eq_false (by omega)) (decide_eq_false (by omega)) rfl rfl rfl rfl rfl rfl rfl rfl rfl ?_ ?_
      · refine ⟨?_, ?_, ?_⟩
        · simp only [rowN, if_neg h2, if_neg h3, Bool.cond_decide]
        · simp only [rowLo, if_neg h3]
          by_cases a : b = 224
          · simp [a]
          · by_cases c : b = 240
            · simp [c]
            · simp [beq_eq_false_iff_ne.2 a, beq_eq_false_iff_ne.2 c, a, c]
        · simp only [rowHi, if_neg h3]
          by_cases a : b = 237
          · simp [a]
          · by_cases c : b = 244
            · simp [c]
            · simp [beq_eq_false_iff_ne.2 a, beq_eq_false_iff_ne.2 c, a, c]
      · refine ⟨?_, ?_, ?_, ?_, ?_, ?_, ?_, ?_⟩ <;> rw [Bool.eq_false_iff] <;> simp <;> omega

/-- A decoder as a value: what it holds, and how many bytes of it count. -/
abbrev dcd (h0 h1 h2 n : Int) : Value := .agg #[.int .u8 h0, .int .u8 h1, .int .u8 h2, .int .i64 n]

/-- What begin tells. -/
def Begun (d : Value) (r : Int) (t : Bool) (w : World) (e : Ending) (w' : World) : Prop := e = .returned (.tuple #[d, .int .i32 r, .bool t]) ∧ Below w.heap.size w w'

set_option maxHeartbeats 400000 in
theorem begin_none (b : Int) (w : World) (h0 : 0 ≤ b) (h1 : b ≤ 255) (hn : rowN b = 0) : Calls Tryd.prog 81 #[.int .u8 b] w (Begun (dcd 0 0 0 0) 65533 true w) := by
  have H := Lib.hid (row_any b h0 h1)
  have E1 : (rowN b == 0) = true := by simp [hn]
  clear hn
  go_enter Tryd.func81, Tryd.ntmps81
  go_wp2_with (go_at_call 79; refine (H.out _).mono ?_; rintro e w' ⟨rfl, rfl⟩)
  exact bodyPost_ret (v := .tuple #[dcd 0 0 0 0, .int .i32 65533, .bool true]) (by simp [results, Tryd.results81, go_sem]) rfl ⟨rfl, (Below.refl _ _).alloc (Nat.le_refl _) _⟩

set_option maxHeartbeats 400000 in
theorem begin_one (b : Int) (w : World) (h0 : 0 ≤ b) (h1 : b ≤ 255) (hn : rowN b = 1) : Calls Tryd.prog 81 #[.int .u8 b] w (Begun (dcd 0 0 0 0) b true w) := by
  have H := Lib.hid (row_any b h0 h1)
  have E1 : (rowN b == 0) = false := by simp [hn]
  have E2 : (rowN b == 1) = true := by simp [hn]
  clear hn
  go_enter Tryd.func81, Tryd.ntmps81
  go_wp2_with (go_at_call 79; refine (H.out _).mono ?_; rintro e w' ⟨rfl, rfl⟩)
  exact bodyPost_ret (v := .tuple #[dcd 0 0 0 0, .int .i32 b, .bool true]) (by simp [results, Tryd.results81, go_sem]) rfl ⟨rfl, (Below.refl _ _).alloc (Nat.le_refl _) _⟩

set_option maxHeartbeats 400000 in
theorem begin_more (b : Int) (w : World) (h0 : 0 ≤ b) (h1 : b ≤ 255) (hn : 1 < rowN b) : Calls Tryd.prog 81 #[.int .u8 b] w (Begun (dcd b 0 0 1) 0 false w) := by
  have H := Lib.hid (row_any b h0 h1)
  have E1 : (rowN b == 0) = false := by simp; omega
  have E2 : (rowN b == 1) = false := by simp; omega
  clear hn
  go_enter Tryd.func81, Tryd.ntmps81
  go_wp2_with (go_at_call 79; refine (H.out _).mono ?_; rintro e w' ⟨rfl, rfl⟩)
  exact bodyPost_ret (v := .tuple #[dcd b 0 0 1, .int .i32 0, .bool false]) (by simp [results, Tryd.results81, go_sem]) rfl ⟨rfl, ((Below.refl _ _).alloc (Nat.le_refl _) _)⟩

def leadOf (n : Int) : Int := if n = 2 then 192 else if n = 3 then 224 else 240
theorem lead_any (n : Int) (w : World) (h0 : 0 ≤ n) (h1 : n ≤ 4) : Calls Tryd.prog 68 #[.int .i64 n] w fun e w' => e = .returned (.int .u8 (leadOf n)) ∧ w = w' := by
  by_cases h2 : n = 2
  · subst h2
    go_enter Tryd.func68, Tryd.ntmps68
    go_wp2
    go_ret
    exact ⟨rfl, rfl⟩
  · by_cases h3 : n = 3
    · subst h3
      go_enter Tryd.func68, Tryd.ntmps68
      go_wp2
      go_ret
      exact ⟨rfl, rfl⟩
    · have E := Lib.hid (show leadOf n = 240 by simp [leadOf, h2, h3])
      have d2 : (n == 2) = false := by simp [h2]
      have d3 : (n == 3) = false := by simp [h3]
      clear h2 h3
      go_enter Tryd.func68, Tryd.ntmps68
      go_wp2
      go_ret
      rw [E.out]
      exact ⟨rfl, rfl⟩

/-- May b stand behind n bytes that h begins? -/
def goes (h n b : Int) : Bool := if 1 < n then decide (128 ≤ b) && decide (b ≤ 191) else decide (rowLo h ≤ b) && decide (b ≤ rowHi h)

set_option maxHeartbeats 400000 in
theorem goes_any (h0 h1 h2 n b : Int) (w : World) (g0 : 0 ≤ h0) (g1 : h0 ≤ 255) (n0 : 0 ≤ n) (n1 : n ≤ 3) : Calls Tryd.prog 78 #[dcd h0 h1 h2 n, .int .u8 b] w fun e w' => e = .returned (.bool (goes h0 n b)) ∧ Below w.heap.size w w' := by
  have H := Lib.hid (row_any h0 g0 g1)
  have one (x y : Bool) (d : decide (1 < n) = true) (e1 : decide (128 ≤ b) = x) (e2 : decide (b ≤ 191) = y) : Calls Tryd.prog 78 #[dcd h0 h1 h2 n, .int .u8 b] w fun e w' => e = .returned (.bool (x && y)) ∧ Below w.heap.size w w' := by
    cases x <;> cases y
    all_goals
      go_enter Tryd.func78, Tryd.ntmps78
      go_wp2_with (go_at_call 79; refine (H.out _).mono ?_; rintro e w' ⟨rfl, rfl⟩)
      go_ret
      exact ⟨rfl, (Below.refl _ _).alloc (Nat.le_refl _) _⟩
  have two (x y : Bool) (d : decide (1 < n) = false) (e1 : decide (rowLo h0 ≤ b) = x) (e2 : decide (b ≤ rowHi h0) = y) : Calls Tryd.prog 78 #[dcd h0 h1 h2 n, .int .u8 b] w fun e w' => e = .returned (.bool (x && y)) ∧ Below w.heap.size w w' := by
    cases x <;> cases y
    all_goals
      go_enter Tryd.func78, Tryd.ntmps78
      go_wp2_with (go_at_call 79; refine (H.out _).mono ?_; rintro e w' ⟨rfl, rfl⟩)
      go_ret
      exact ⟨rfl, (Below.refl _ _).alloc (Nat.le_refl _) _⟩
  unfold goes
  by_cases hn : 1 < n
  · rw [if_pos hn]
    exact one _ _ (decide_eq_true hn) rfl rfl
  · rw [if_neg hn]
    exact two _ _ (decide_eq_false hn) rfl rfl

end Go.Proofs.YtfnieoffgnnldaaDoor
