/- utf: the scalar of a whole row. -/
import Derived.Test.YtfnieoffgnnldaaDoorUtfA
import Derived.Handy
namespace Go.Proofs.YtfnieoffgnnldaaDoor
open Go.RowKit
set_option linter.unusedVariables false
set_option linter.unusedSimpArgs false

/-! ### Bits -/
theorem ofInt_i32 (a : Nat) (h : a < 2147483648) : BitVec.ofInt 32 (a : Int) = BitVec.ofNat 32 a := by
  apply BitVec.eq_of_toNat_eq
  simp [BitVec.toNat_ofInt]

theorem or_i32 (x y : Nat) (hy : y < 64) (hx : 64 * x + y < 2147483648) : bits .or .i32 ((x : Int) * 64) (y : Int) = (x : Int) * 64 + y := by
  have h1 : (64 * x) ||| y = 64 * x + y := by
    have := Nat.two_pow_add_eq_or_of_lt (i := 6) (b := y) (by simpa using hy) x
    simpa using this.symm
  have e : (x : Int) * 64 = ((64 * x : Nat) : Int) := by omega
  rw [e]
  show IntKind.i32.wrap ((BitVec.ofInt 32 ((64 * x : Nat) : Int) ||| BitVec.ofInt 32 (y : Int)).toNat : Int) = _
  rw [ofInt_i32 _ (by omega), ofInt_i32 _ (by omega), BitVec.toNat_or, BitVec.toNat_ofNat, BitVec.toNat_ofNat, Nat.mod_eq_of_lt (by omega), Nat.mod_eq_of_lt (by omega), h1, IntKind.wrap_i32]
  omega

theorem or_at (x y : Int) (x0 : 0 ≤ x) (y0 : 0 ≤ y) (y1 : y < 64) (h : 64 * x + y < 2147483648) : bits .or .i32 (x * 64) y = x * 64 + y := by
  obtain ⟨a, rfl⟩ := Int.eq_ofNat_of_zero_le x0
  obtain ⟨b, rfl⟩ := Int.eq_ofNat_of_zero_le y0
  exact or_i32 a b (by omega) (by omega)

theorem lead_tab : (List.range 256).all (fun k => decide (rowN (k : Int) < 2) || (bits .andNot .u8 (k : Int) (leadOf (rowN (k : Int))) == (k : Int) - leadOf (rowN (k : Int)))) = true := by kernel_rfl

theorem lead_off (h : Int) (h0 : 0 ≤ h) (h1 : h ≤ 255) (hn : 2 ≤ rowN h) : bits .andNot .u8 h (leadOf (rowN h)) = h - leadOf (rowN h) := by
  obtain ⟨a, rfl⟩ := Int.eq_ofNat_of_zero_le h0
  have := List.all_eq_true.1 lead_tab a (List.mem_range.2 (by omega))
  simp only [Bool.or_eq_true, decide_eq_true_eq, beq_iff_eq] at this
  rcases this with h | h
  · omega
  · exact h

theorem row_bits (h : Int) (hn : 2 ≤ rowN h) : 0 ≤ h - leadOf (rowN h) ∧ h - leadOf (rowN h) < 32 ∧ rowN h ≤ 4 := by
  unfold rowN at *
  unfold leadOf
  split at hn
  · omega
  · split at hn
    · omega
    · split at hn
      · simp_all; omega
      · split at hn
        · simp_all; omega
        · simp_all; omega

/-! ### whole -/
section
variable (h0 x b : Int) (w : World) (g0 : 0 ≤ h0) (g1 : h0 ≤ 255) (b0 : 0 ≤ b) (b1 : b ≤ 255) (n0 : 0 ≤ rowN h0) (n1 : rowN h0 ≤ 4) (hx : bits .andNot .u8 h0 (leadOf (rowN h0)) = x) (x0 : 0 ≤ x) (x1 : x < 32)
include g0 g1 b0 b1 n0 n1 hx x0 x1

set_option maxHeartbeats 1000000 in
theorem whole_one (h1 h2 : Int) : Calls Tryd.prog 80 #[dcd h0 h1 h2 1, .int .u8 b] w fun e w' => e = .returned (.int .i32 (x * 64 + b % 64)) ∧ Below w.heap.size w w' := by
  have H := Lib.hid (row_any h0 g0 g1)
  have e1 := or_at x (b % 64) x0 (by omega) (by omega) (by omega)
  go_enter Tryd.func80, Tryd.ntmps80
  go_wp2_with (go_at_call 79; refine (H.out _).mono ?_; rintro e w' ⟨rfl, rfl⟩)
  go_quiet ((go_at_call 68; exact quiet_here (lead_any _ _ n0 n1)))
  go_wp2
  go_rounds 1
  go_wp2
  go_ret
  exact ⟨rfl, below_drewN ((Below.refl _ _).alloc (Nat.le_refl _) _) _⟩

set_option maxHeartbeats 1000000 in
theorem whole_two (h1 h2 : Int) (c0 : 0 ≤ h1) (c1 : h1 ≤ 255) : Calls Tryd.prog 80 #[dcd h0 h1 h2 2, .int .u8 b] w fun e w' => e = .returned (.int .i32 ((x * 64 + h1 % 64) * 64 + b % 64)) ∧ Below w.heap.size w w' := by
  have H := Lib.hid (row_any h0 g0 g1)
  have e1 := or_at x (h1 % 64) x0 (by omega) (by omega) (by omega)
  have e2 := or_at (x * 64 + h1 % 64) (b % 64) (by omega) (by omega) (by omega) (by omega)
  go_enter Tryd.func80, Tryd.ntmps80
  go_wp2_with (go_at_call 79; refine (H.out _).mono ?_; rintro e w' ⟨rfl, rfl⟩)
  go_quiet ((go_at_call 68; exact quiet_here (lead_any _ _ n0 n1)))
  go_wp2
  go_rounds 2
  go_wp2
  go_ret
  exact ⟨rfl, below_drewN ((Below.refl _ _).alloc (Nat.le_refl _) _) _⟩

set_option maxHeartbeats 1000000 in
theorem whole_three (h1 h2 : Int) (c0 : 0 ≤ h1) (c1 : h1 ≤ 255) (d0 : 0 ≤ h2) (d1 : h2 ≤ 255) : Calls Tryd.prog 80 #[dcd h0 h1 h2 3, .int .u8 b] w fun e w' => e = .returned (.int .i32 (((x * 64 + h1 % 64) * 64 + h2 % 64) * 64 + b % 64)) ∧ Below w.heap.size w w' := by
  have H := Lib.hid (row_any h0 g0 g1)
  have e1 := or_at x (h1 % 64) x0 (by omega) (by omega) (by omega)
  have e2 := or_at (x * 64 + h1 % 64) (h2 % 64) (by omega) (by omega) (by omega) (by omega)
  have e3 := or_at ((x * 64 + h1 % 64) * 64 + h2 % 64) (b % 64) (by omega) (by omega) (by omega) (by omega)
  go_enter Tryd.func80, Tryd.ntmps80
  go_wp2_with (go_at_call 79; refine (H.out _).mono ?_; rintro e w' ⟨rfl, rfl⟩)
  go_quiet ((go_at_call 68; exact quiet_here (lead_any _ _ n0 n1)))
  go_wp2
  go_rounds 3
  go_wp2
  go_ret
  exact ⟨rfl, below_drewN ((Below.refl _ _).alloc (Nat.le_refl _) _) _⟩
end

end Go.Proofs.YtfnieoffgnnldaaDoor
