/- utf: Put. -/
import Derived.Test.YtfnieoffgnnldaaDoorSuPb
namespace Go.Proofs.YtfnieoffgnnldaaDoor
open Go.RowKit
set_option linter.unusedVariables false
set_option linter.unusedSimpArgs false

theorem or_tab_i32 : (List.range 64).all (fun k => bits .or .i32 128 (k : Int) == 128 + (k : Int)) = true := by kernel_rfl
theorem or128 (x : Int) (h0 : 0 ≤ x) (h1 : x < 64) : bits .or .i32 128 x = 128 + x := by
  obtain ⟨a, rfl⟩ := Int.eq_ofNat_of_zero_le h0
  exact beq_iff_eq.1 (List.all_eq_true.1 or_tab_i32 a (List.mem_range.2 (by omega)))
theorem or_tab_192 : (List.range 32).all (fun k => bits .or .u8 192 (k : Int) == 192 + (k : Int)) = true := by kernel_rfl
theorem or_tab_224 : (List.range 16).all (fun k => bits .or .u8 224 (k : Int) == 224 + (k : Int)) = true := by kernel_rfl
theorem or_tab_240 : (List.range 8).all (fun k => bits .or .u8 240 (k : Int) == 240 + (k : Int)) = true := by kernel_rfl
theorem or192 (x : Int) (h0 : 0 ≤ x) (h1 : x < 32) : bits .or .u8 192 x = 192 + x := by
  obtain ⟨a, rfl⟩ := Int.eq_ofNat_of_zero_le h0
  exact beq_iff_eq.1 (List.all_eq_true.1 or_tab_192 a (List.mem_range.2 (by omega)))
theorem or224 (x : Int) (h0 : 0 ≤ x) (h1 : x < 16) : bits .or .u8 224 x = 224 + x := by
  obtain ⟨a, rfl⟩ := Int.eq_ofNat_of_zero_le h0
  exact beq_iff_eq.1 (List.all_eq_true.1 or_tab_224 a (List.mem_range.2 (by omega)))
theorem or240 (x : Int) (h0 : 0 ≤ x) (h1 : x < 8) : bits .or .u8 240 x = 240 + x := by
  obtain ⟨a, rfl⟩ := Int.eq_ofNat_of_zero_le h0
  exact beq_iff_eq.1 (List.all_eq_true.1 or_tab_240 a (List.mem_range.2 (by omega)))

theorem and63 (x : Int) (h0 : 0 ≤ x) (h1 : x < 2147483648) : bits .and .i32 x 63 = x % 64 := by
  obtain ⟨a, rfl⟩ := Int.eq_ofNat_of_zero_le h0
  show IntKind.i32.wrap ((BitVec.ofInt 32 (a : Int) &&& BitVec.ofInt 32 ((63 : Nat) : Int)).toNat : Int) = _
  rw [ofInt_i32 _ (by omega), ofInt_i32 _ (by omega), BitVec.toNat_and, BitVec.toNat_ofNat, BitVec.toNat_ofNat, Nat.mod_eq_of_lt (by omega), Nat.mod_eq_of_lt (by omega), show (63 : Nat) = 2 ^ 6 - 1 from rfl, Nat.and_two_pow_sub_one_eq_mod, IntKind.wrap_i32]
  omega

theorem size_is (r n : Int) (h : ((putS r).length : Int) = n) (w : World) : Calls Tryd.prog 67 #[.int .i32 r] w fun e w' => e = .returned (.int .i64 n) ∧ w = w' := by
  subst h
  exact size_any r w

theorem lead_is (n v : Int) (hv : leadOf n = v) (h0 : 0 ≤ n) (h1 : n ≤ 4) (w : World) : Calls Tryd.prog 68 #[.int .i64 n] w fun e w' => e = .returned (.int .u8 v) ∧ w = w' := by
  subst hv
  exact lead_any n w h0 h1

theorem conv_in (w : World) (cs : List Int) (n c : Nat) (T : TypeId) (hn : cs.length = n) (hc : n ≤ c) (C : Array Value) (hC : ∀ i, i < n → C[i]? = some (.int .u8 (cs.getD i 0))) :
    (convert 47 9 (.slice (some ⟨w.heap.size, 0, none⟩) n c)).run Tryd.prog (w.alloc (.cells C T)) = .ok (.string (strOfNums cs)) (w.alloc (.cells C T)) := by
  refine run_convert_bytes_arg (P := Tryd.prog) _ 47 5 Tryd.underlying47 Tryd.underlying5 w.heap.size 0 n c cs hn (fun i hi => ?_) 9 Tryd.underlying9
  rw [Nat.zero_add, World.cell?_alloc_new]
  exact hC i hi

section
variable (r : Int) (w : World)
set_option maxHeartbeats 2000000 in
theorem put_two (h : okS r = true) (h0 : 128 ≤ r) (h1 : r < 2048) : Calls Tryd.prog 56 #[.int .i32 r] w fun e w' => e = .returned (.string (strOfNums [192 + r / 64, 128 + r % 64])) ∧ Below w.heap.size w w' := by
  have H := Lib.hid (fun w => valid_any r w)
  rw [h] at H
  have HS := Lib.hid (size_is r 2 (by unfold putS scal putI; rw [if_pos h, if_neg (by omega), if_pos (by omega)]; rfl))
  clear h
  have a1 := and63 r (by omega) (by omega)
  have b1 := or128 (r % 64) (by omega) (by omega)
  have b2 := or192 (r / 64) (by omega) (by omega)
  have K := conv_in w [192 + r / 64, 128 + r % 64] 2 4 94 rfl (by decide) #[.int .u8 (192 + r / 64), .int .u8 (128 + r % 64), .int .u8 0, .int .u8 0] (by intro i hi; match i, hi with | 0, _ => rfl | 1, _ => rfl)
  go_enter Tryd.func56, Tryd.ntmps56
  go_wp2_with (first | (go_at_call 66; refine (H.out _).mono ?_; rintro e w' ⟨rfl, rfl⟩) | (go_at_call 67; refine (HS.out _).mono ?_; rintro e w' ⟨rfl, rfl⟩))
  refine wp_loop_rounds 2 ?_
  rw [rounds_succ]
  go_wp2
  rw [rounds_succ]
  go_wp2_with (go_at_call 68; refine (lead_is 2 192 rfl (by omega) (by omega) _).mono ?_; rintro e w' ⟨rfl, rfl⟩)
  go_ret
  exact ⟨rfl, (Below.refl _ _).alloc (Nat.le_refl _) _⟩

set_option maxHeartbeats 2000000 in
theorem put_three (h : okS r = true) (h0 : 2048 ≤ r) (h1 : r < 65536) : Calls Tryd.prog 56 #[.int .i32 r] w fun e w' => e = .returned (.string (strOfNums [224 + r / 4096, 128 + r / 64 % 64, 128 + r % 64])) ∧ Below w.heap.size w w' := by
  have H := Lib.hid (fun w => valid_any r w)
  rw [h] at H
  have HS := Lib.hid (size_is r 3 (by unfold putS scal putI; rw [if_pos h, if_neg (by omega), if_neg (by omega), if_pos (by omega)]; rfl))
  clear h
  have a1 := and63 r (by omega) (by omega)
  have b1 := or128 (r % 64) (by omega) (by omega)
  have a2 := and63 (r / 64) (by omega) (by omega)
  have b2 := or128 (r / 64 % 64) (by omega) (by omega)
  have d3 : r / 64 / 64 = r / 4096 := by omega
  have b3 := or224 (r / 4096) (by omega) (by omega)
  have K := conv_in w [224 + r / 4096, 128 + r / 64 % 64, 128 + r % 64] 3 4 94 rfl (by decide) #[.int .u8 (224 + r / 4096), .int .u8 (128 + r / 64 % 64), .int .u8 (128 + r % 64), .int .u8 0] (by intro i hi; match i, hi with | 0, _ => rfl | 1, _ => rfl | 2, _ => rfl)
  go_enter Tryd.func56, Tryd.ntmps56
  go_wp2_with (first | (go_at_call 66; refine (H.out _).mono ?_; rintro e w' ⟨rfl, rfl⟩) | (go_at_call 67; refine (HS.out _).mono ?_; rintro e w' ⟨rfl, rfl⟩))
  refine wp_loop_rounds 3 ?_
  rw [rounds_succ]
  go_wp2
  rw [rounds_succ]
  go_wp2
  rw [rounds_succ]
  go_wp2_with (go_at_call 68; refine (lead_is 3 224 rfl (by omega) (by omega) _).mono ?_; rintro e w' ⟨rfl, rfl⟩)
  go_ret
  exact ⟨rfl, (Below.refl _ _).alloc (Nat.le_refl _) _⟩

set_option maxHeartbeats 2000000 in
theorem put_four (h : okS r = true) (h0 : 65536 ≤ r) (h1 : r ≤ 1114111) : Calls Tryd.prog 56 #[.int .i32 r] w fun e w' => e = .returned (.string (strOfNums [240 + r / 262144, 128 + r / 4096 % 64, 128 + r / 64 % 64, 128 + r % 64])) ∧ Below w.heap.size w w' := by
  have H := Lib.hid (fun w => valid_any r w)
  rw [h] at H
  have HS := Lib.hid (size_is r 4 (by unfold putS scal putI; rw [if_pos h, if_neg (by omega), if_neg (by omega), if_neg (by omega)]; rfl))
  clear h
  have a1 := and63 r (by omega) (by omega)
  have b1 := or128 (r % 64) (by omega) (by omega)
  have a2 := and63 (r / 64) (by omega) (by omega)
  have b2 := or128 (r / 64 % 64) (by omega) (by omega)
  have d3 : r / 64 / 64 = r / 4096 := by omega
  have a3 := and63 (r / 4096) (by omega) (by omega)
  have b3 := or128 (r / 4096 % 64) (by omega) (by omega)
  have d4 : r / 4096 / 64 = r / 262144 := by omega
  have b4 := or240 (r / 262144) (by omega) (by omega)
  have K := conv_in w [240 + r / 262144, 128 + r / 4096 % 64, 128 + r / 64 % 64, 128 + r % 64] 4 4 94 rfl (by decide) #[.int .u8 (240 + r / 262144), .int .u8 (128 + r / 4096 % 64), .int .u8 (128 + r / 64 % 64), .int .u8 (128 + r % 64)] (by intro i hi; match i, hi with | 0, _ => rfl | 1, _ => rfl | 2, _ => rfl | 3, _ => rfl)
  go_enter Tryd.func56, Tryd.ntmps56
  go_wp2_with (first | (go_at_call 66; refine (H.out _).mono ?_; rintro e w' ⟨rfl, rfl⟩) | (go_at_call 67; refine (HS.out _).mono ?_; rintro e w' ⟨rfl, rfl⟩))
  refine wp_loop_rounds 4 ?_
  rw [rounds_succ]
  go_wp2
  rw [rounds_succ]
  go_wp2
  rw [rounds_succ]
  go_wp2
  rw [rounds_succ]
  go_wp2_with (go_at_call 68; refine (lead_is 4 240 rfl (by omega) (by omega) _).mono ?_; rintro e w' ⟨rfl, rfl⟩)
  go_ret
  exact ⟨rfl, (Below.refl _ _).alloc (Nat.le_refl _) _⟩

set_option maxHeartbeats 2000000 in
theorem put_no (h : okS r = false) : Calls Tryd.prog 56 #[.int .i32 r] w fun e w' => e = .returned (.string (strOfNums [239, 191, 189])) ∧ Below w.heap.size w w' := by
  have H := Lib.hid (fun w => valid_any r w)
  rw [h] at H
  have HS := Lib.hid (size_is 65533 3 (by decide))
  clear h
  have a1 : bits .and .i32 65533 63 = 61 := by kernel_rfl
  have b1 : bits .or .i32 128 61 = 189 := by kernel_rfl
  have a2 : bits .and .i32 1023 63 = 63 := by kernel_rfl
  have b2 : bits .or .i32 128 63 = 191 := by kernel_rfl
  have b3 : bits .or .u8 224 15 = 239 := by kernel_rfl
  have K := conv_in w [239, 191, 189] 3 4 94 rfl (by decide) #[.int .u8 239, .int .u8 191, .int .u8 189, .int .u8 0] (by intro i hi; match i, hi with | 0, _ => rfl | 1, _ => rfl | 2, _ => rfl)
  go_enter Tryd.func56, Tryd.ntmps56
  go_wp2_with (first | (go_at_call 66; refine (H.out _).mono ?_; rintro e w' ⟨rfl, rfl⟩) | (go_at_call 67; refine (HS.out _).mono ?_; rintro e w' ⟨rfl, rfl⟩))
  refine wp_loop_rounds 3 ?_
  rw [rounds_succ]
  go_wp2
  rw [rounds_succ]
  go_wp2
  rw [rounds_succ]
  go_wp2_with (go_at_call 68; refine (lead_is 3 224 rfl (by omega) (by omega) _).mono ?_; rintro e w' ⟨rfl, rfl⟩)
  go_ret
  exact ⟨rfl, (Below.refl _ _).alloc (Nat.le_refl _) _⟩

set_option maxHeartbeats 2000000 in
theorem put_one (h : okS r = true) (h0 : 0 ≤ r) (h1 : r < 128) : Calls Tryd.prog 56 #[.int .i32 r] w fun e w' => e = .returned (.string (strOfNums [r])) ∧ Below w.heap.size w w' := by
  have H := Lib.hid (fun w => valid_any r w)
  rw [h] at H
  have HS := Lib.hid (size_is r 1 (by unfold putS scal putI; rw [if_pos h, if_pos (by omega)]; rfl))
  clear h
  have K := run_convert_bytes_arg (P := Tryd.prog) ((w.alloc (.cells #[.int .u8 r, .int .u8 0, .int .u8 0, .int .u8 0] 94)).alloc (.cells #[.int .u8 r] 5)) 47 5 Tryd.underlying47 Tryd.underlying5 w.heap.size 0 1 4 [r] rfl (fun i hi => by
    obtain rfl : i = 0 := by omega
    simp) 9 Tryd.underlying9
  go_enter Tryd.func56, Tryd.ntmps56
  go_wp2_with (first | (go_at_call 66; refine (H.out _).mono ?_; rintro e w' ⟨rfl, rfl⟩) | (go_at_call 67; refine (HS.out _).mono ?_; rintro e w' ⟨rfl, rfl⟩))
  go_ret
  exact ⟨rfl, ((Below.refl _ _).alloc (Nat.le_refl _) _).alloc (by simp [World.size_alloc]) _⟩

theorem put_any (h0 : -2147483648 ≤ r) (h1 : r ≤ 2147483647) : Calls Tryd.prog 56 #[.int .i32 r] w fun e w' => e = .returned (.string (strOfNums (putS r))) ∧ Below w.heap.size w w' := by
  by_cases h : okS r = true
  · have hr := (okS_iff r).1 h
    unfold putS scal putI
    rw [if_pos h]
    by_cases c1 : r < 128
    · rw [if_pos c1]; exact put_one r w h (by omega) c1
    · rw [if_neg c1]
      by_cases c2 : r < 2048
      · rw [if_pos c2]; exact put_two r w h (by omega) c2
      · rw [if_neg c2]
        by_cases c3 : r < 65536
        · rw [if_pos c3]; exact put_three r w h (by omega) c3
        · rw [if_neg c3]; exact put_four r w h (by omega) (by omega)
  · rw [Bool.not_eq_true] at h
    have e : putS r = [239, 191, 189] := by unfold putS scal; rw [if_neg (by simp [h])]; rfl
    rw [e]
    exact put_no r w h
end
end Go.Proofs.YtfnieoffgnnldaaDoor
