/- utf: Valid, Size; the document's Put. -/
import Derived.Test.YtfnieoffgnnldaaDoorSuPa
namespace Go.Proofs.YtfnieoffgnnldaaDoor
open Go.RowKit
set_option linter.unusedVariables false
set_option linter.unusedSimpArgs false

theorem valid_any (r : Int) (w : World) : Calls Tryd.prog 66 #[.int .i32 r] w fun e w' => e = .returned (.bool (okS r)) ∧ w = w' := by
  have H (x y z t : Bool) (d1 : decide (0 ≤ r) = x) (d2 : decide (r < 55296) = y) (d3 : decide (57343 < r) = z) (d4 : decide (r ≤ 1114111) = t) :
      Calls Tryd.prog 66 #[.int .i32 r] w fun e w' => e = .returned (.bool ((x && y) || (z && t))) ∧ w = w' := by
    cases x <;> cases y <;> cases z <;> cases t
    all_goals
      go_enter Tryd.func66, Tryd.ntmps66
      go_wp2
      go_ret
      exact ⟨rfl, rfl⟩
  exact H _ _ _ _ rfl rfl rfl rfl

theorem rvalid_any (r : Int) (w : World) : Calls Tryd.prog 38 #[.int .i32 r] w fun e w' => e = .returned (.bool (okS r)) ∧ w = w' := by
  have H (x y z t : Bool) (d1 : decide (0 ≤ r) = x) (d2 : decide (r < 55296) = y) (d3 : decide (57343 < r) = z) (d4 : decide (r ≤ 1114111) = t) :
      Calls Tryd.prog 38 #[.int .i32 r] w fun e w' => e = .returned (.bool ((x && y) || (z && t))) ∧ w = w' := by
    cases x <;> cases y <;> cases z <;> cases t
    all_goals
      go_enter Tryd.func38, Tryd.ntmps38
      go_wp2
      go_ret
      exact ⟨rfl, rfl⟩
  exact H _ _ _ _ rfl rfl rfl rfl

/-- The region of a number as tests tell it: how many bytes it has. -/
theorem size_no (r : Int) (w : World) (h : okS r = false) : Calls Tryd.prog 67 #[.int .i32 r] w fun e w' => e = .returned (.int .i64 3) ∧ w = w' := by
  have H := Lib.hid (fun w => valid_any r w)
  rw [h] at H
  clear h
  go_enter Tryd.func67, Tryd.ntmps67
  go_wp2_with (go_at_call 66; refine (H.out _).mono ?_; rintro e w' ⟨rfl, rfl⟩)
  go_ret
  exact ⟨rfl, rfl⟩

theorem size_yes (r n : Int) (w : World) (h : okS r = true) (x y z : Bool) (d1 : decide (r < 128) = x) (d2 : decide (r < 2048) = y) (d3 : decide (r < 65536) = z) (hn : n = bif x then 1 else bif y then 2 else bif z then 3 else 4) (hc : (x && !y) = false ∧ (y && !z) = false) :
    Calls Tryd.prog 67 #[.int .i32 r] w fun e w' => e = .returned (.int .i64 n) ∧ w = w' := by
  have H := Lib.hid (fun w => valid_any r w)
  rw [h] at H
  clear h
  cases x <;> cases y <;> cases z <;> simp at hc <;> simp at hn <;> subst hn
  all_goals
    go_enter Tryd.func67, Tryd.ntmps67
    go_wp2_with (go_at_call 66; refine (H.out _).mono ?_; rintro e w' ⟨rfl, rfl⟩)
    go_ret
    exact ⟨rfl, rfl⟩

theorem size_any (r : Int) (w : World) : Calls Tryd.prog 67 #[.int .i32 r] w fun e w' => e = .returned (.int .i64 (putS r).length) ∧ w = w' := by
  by_cases h : okS r = true
  · refine size_yes r _ w h _ _ _ rfl rfl rfl ?_ ?_
    · unfold putS scal putI
      rw [if_pos h]
      by_cases h1 : r < 128
      · simp [h1]
      · by_cases h2 : r < 2048
        · simp [h1, h2]
        · by_cases h3 : r < 65536
          · simp [h1, h2, h3]
          · simp [h1, h2, h3]
    · refine ⟨?_, ?_⟩ <;> rw [Bool.eq_false_iff] <;> simp <;> omega
  · rw [Bool.not_eq_true] at h
    have e : ((putS r).length : Int) = 3 := by unfold putS scal; rw [if_neg (by simp [h])]; rfl
    rw [e]
    exact size_no r w h

/-! ### The document's Put -/
theorem conv_new (w : World) (cs : List Int) (n : Nat) (hn : cs.length = n) (C : Array Value) (hC : C = (cs.map (Value.int .u8)).toArray) :
    (convert 47 9 (.slice (some ⟨w.heap.size, 0, none⟩) n n)).run Tryd.prog (w.alloc (.cells C 5)) = .ok (.string (strOfNums cs)) (w.alloc (.cells C 5)) := by
  subst hC
  refine run_convert_bytes_arg (P := Tryd.prog) _ 47 5 Tryd.underlying47 Tryd.underlying5 w.heap.size 0 n n cs hn (fun i hi => ?_) 9 Tryd.underlying9
  rw [Nat.zero_add, World.cell?_alloc_new]
  simp [List.getD, hn, hi]

section
variable (r : Int) (w : World)
set_option maxHeartbeats 1000000 in
theorem rput_no (h : okS r = false) (h0 : -2147483648 ≤ r) (h1 : r ≤ 2147483647) : Calls Tryd.prog 45 #[.int .i32 r] w fun e w' => e = .returned (.string (strOfNums [239, 191, 189])) ∧ Below w.heap.size w w' := by
  have H := Lib.hid (fun w => rvalid_any r w)
  rw [h] at H
  clear h
  have K := conv_new w [239, 191, 189] 3 rfl #[.int .u8 239, .int .u8 191, .int .u8 189] rfl
  go_enter Tryd.func45, Tryd.ntmps45
  go_wp2_with (go_at_call 38; refine (H.out _).mono ?_; rintro e w' ⟨rfl, rfl⟩)
  go_ret
  exact ⟨rfl, (Below.refl _ _).alloc (Nat.le_refl _) _⟩

set_option maxHeartbeats 1000000 in
theorem rput_one (h : okS r = true) (h0 : 0 ≤ r) (h1 : r < 128) : Calls Tryd.prog 45 #[.int .i32 r] w fun e w' => e = .returned (.string (strOfNums [r])) ∧ Below w.heap.size w w' := by
  have H := Lib.hid (fun w => rvalid_any r w)
  rw [h] at H
  clear h
  have K := conv_new w [r] 1 rfl #[.int .u8 r] rfl
  go_enter Tryd.func45, Tryd.ntmps45
  go_wp2_with (go_at_call 38; refine (H.out _).mono ?_; rintro e w' ⟨rfl, rfl⟩)
  go_ret
  exact ⟨rfl, (Below.refl _ _).alloc (Nat.le_refl _) _⟩

set_option maxHeartbeats 1000000 in
theorem rput_two (h : okS r = true) (h0 : 128 ≤ r) (h1 : r < 2048) : Calls Tryd.prog 45 #[.int .i32 r] w fun e w' => e = .returned (.string (strOfNums [192 + r / 64, 128 + r % 64])) ∧ Below w.heap.size w w' := by
  have H := Lib.hid (fun w => rvalid_any r w)
  rw [h] at H
  clear h
  have K := conv_new w [192 + r / 64, 128 + r % 64] 2 rfl #[.int .u8 (192 + r / 64), .int .u8 (128 + r % 64)] rfl
  have d1 : decide (r < 128) = false := by simp; omega
  go_enter Tryd.func45, Tryd.ntmps45
  go_wp2_with (go_at_call 38; refine (H.out _).mono ?_; rintro e w' ⟨rfl, rfl⟩)
  go_ret
  exact ⟨rfl, (Below.refl _ _).alloc (Nat.le_refl _) _⟩

set_option maxHeartbeats 1000000 in
theorem rput_three (h : okS r = true) (h0 : 2048 ≤ r) (h1 : r < 65536) : Calls Tryd.prog 45 #[.int .i32 r] w fun e w' => e = .returned (.string (strOfNums [224 + r / 4096, 128 + r / 64 % 64, 128 + r % 64])) ∧ Below w.heap.size w w' := by
  have H := Lib.hid (fun w => rvalid_any r w)
  rw [h] at H
  clear h
  have K := conv_new w [224 + r / 4096, 128 + r / 64 % 64, 128 + r % 64] 3 rfl #[.int .u8 (224 + r / 4096), .int .u8 (128 + r / 64 % 64), .int .u8 (128 + r % 64)] rfl
  have d1 : decide (r < 128) = false := by simp; omega
  have d2 : decide (r < 2048) = false := by simp; omega
  go_enter Tryd.func45, Tryd.ntmps45
  go_wp2_with (go_at_call 38; refine (H.out _).mono ?_; rintro e w' ⟨rfl, rfl⟩)
  go_ret
  exact ⟨rfl, (Below.refl _ _).alloc (Nat.le_refl _) _⟩

set_option maxHeartbeats 1000000 in
theorem rput_four (h : okS r = true) (h0 : 65536 ≤ r) (h1 : r ≤ 1114111) : Calls Tryd.prog 45 #[.int .i32 r] w fun e w' => e = .returned (.string (strOfNums [240 + r / 262144, 128 + r / 4096 % 64, 128 + r / 64 % 64, 128 + r % 64])) ∧ Below w.heap.size w w' := by
  have H := Lib.hid (fun w => rvalid_any r w)
  rw [h] at H
  clear h
  have K := conv_new w [240 + r / 262144, 128 + r / 4096 % 64, 128 + r / 64 % 64, 128 + r % 64] 4 rfl #[.int .u8 (240 + r / 262144), .int .u8 (128 + r / 4096 % 64), .int .u8 (128 + r / 64 % 64), .int .u8 (128 + r % 64)] rfl
  have d1 : decide (r < 128) = false := by simp; omega
  have d2 : decide (r < 2048) = false := by simp; omega
  have d3 : decide (r < 65536) = false := by simp; omega
  go_enter Tryd.func45, Tryd.ntmps45
  go_wp2_with (go_at_call 38; refine (H.out _).mono ?_; rintro e w' ⟨rfl, rfl⟩)
  go_ret
  exact ⟨rfl, (Below.refl _ _).alloc (Nat.le_refl _) _⟩

theorem rput_any (h0 : -2147483648 ≤ r) (h1 : r ≤ 2147483647) : Calls Tryd.prog 45 #[.int .i32 r] w fun e w' => e = .returned (.string (strOfNums (putS r))) ∧ Below w.heap.size w w' := by
  by_cases h : okS r = true
  · have hr := (okS_iff r).1 h
    unfold putS scal putI
    rw [if_pos h]
    by_cases c1 : r < 128
    · rw [if_pos c1]; exact rput_one r w h (by omega) c1
    · rw [if_neg c1]
      by_cases c2 : r < 2048
      · rw [if_pos c2]; exact rput_two r w h (by omega) c2
      · rw [if_neg c2]
        by_cases c3 : r < 65536
        · rw [if_pos c3]; exact rput_three r w h (by omega) c3
        · rw [if_neg c3]; exact rput_four r w h (by omega) (by omega)
  · rw [Bool.not_eq_true] at h
    have e : putS r = [239, 191, 189] := by unfold putS scal; rw [if_neg (by simp [h])]; rfl
    rw [e]
    exact rput_no r w h h0 h1
end

end Go.Proofs.YtfnieoffgnnldaaDoor
