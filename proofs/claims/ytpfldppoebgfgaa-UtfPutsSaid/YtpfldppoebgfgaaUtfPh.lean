/- utf: UtfPuts' walk. -/
import Derived.Test.YtpfldppoebgfgaaUtfPe
import Derived.Test.YtpfldppoebgfgaaUtfY
import Derived.Test.YtpfldppoebgfgaaArg
import Derived.Deep.DrawnRows
namespace Go.Proofs.Ytpfldppoebgfgaa
open Go.RowKit
set_option linter.unusedVariables false
set_option linter.unusedSimpArgs false
attribute [local go_sem ↓] Go.wp_at_zero Go.wp_at_succ

/-- Block b is there; nothing older than w0's end has turned. -/
def Kept (b : Nat) (w0 w' : World) : Prop := b < w'.heap.size ∧ Below w0.heap.size w0 w'
theorem Kept.drew {b : Nat} {w0 w' : World} (h : Kept b w0 w') : Kept b w0 w'.drew := ⟨h.1, h.2.drew⟩

/-- What is kept behind calls that make memory: a cell, and that nothing older has turned. -/
theorem calls_keep {P : Program} {f : FuncId} {args : Array Value} {W w0 : World} {b o : Nat} {v val : Value} (h : Calls P f args W fun e w' => e = .returned val ∧ Below W.heap.size W w') 
    (S : W.cell? ⟨b, o, none⟩ = some v ∧ Kept b w0 W) : Calls P f args W fun e w' => e = .returned val ∧ w'.cell? ⟨b, o, none⟩ = some v ∧ Kept b w0 w' :=
  h.mono fun e w' hh => ⟨hh.1, (hh.2.cell (p := ⟨b, o, none⟩) S.2.1).trans S.1, ⟨Nat.lt_of_lt_of_le S.2.1 hh.2.size, S.2.2.trans (hh.2.mono S.2.2.size)⟩⟩

set_option maxHeartbeats 4000000 in
set_option maxRecDepth 100000 in
theorem walk_UtfPuts (w : World) (A : Option Addr) (n c : Nat) (p : Nat → Int) (hA : Rd w A n (iv p)) (hle : n ≤ c) (hmax : c ≤ maxLen) (hp : ∀ j, j < n → (Lit.int .i32 (p j)).wf = true) :
    Calls Try.prog 5 #[.slice A n c] w (Yes w) := by
  obtain ⟨m, hm, hm0, hm1⟩ : ∃ m : Nat, m = min n 2000 ∧ m ≤ n ∧ m ≤ 2000 := ⟨_, rfl, by omega, by omega⟩
  unfold maxLen at hmax
  have HA := Lib.hid (show Rd w A m (iv p) from fun j hj => hA j (by omega))
  have HP := Lib.hid (fun j (hj : j < m) => wf_i32 (hp j (by omega)))
  clear hA hp
  have HW := Lib.hid (awake_yes)
  have hm2 : m ≤ 9223372036854775807 := by omega
  by_cases hbig : 2000 < n
  · obtain rfl : m = 2000 := by omega
    have d0 : decide ((2000 : Int) < (n : Int)) = true := by simp; omega
    clear hm
    go_enter Try.func5, Try.ntmps5
    go_wp2
    go_loopw [3] (fun i wr => ∃ k : Nat, k ≤ 2000 ∧ i = .int .i64 k ∧ Hid (Below w.heap.size w wr)) (fun i _ => 2000 - (intOf i).toNat)
    case atStart => exact ⟨0, Nat.zero_le _, rfl, Lib.hid (Below.refl _ _)⟩
    case round =>
      obtain ⟨k, hk, rfl, HB⟩ := hrel
      by_cases hlt : k < 2000
      · obtain ⟨b, o, rfl, hbl, hc1⟩ := (HA.out.later HB.out) k hlt
        unfold iv at hc1
        have hr := HP.out k hlt
        obtain ⟨x, hx⟩ : ∃ x, x = p k := ⟨_, rfl⟩
        rw [← hx] at hc1 hr
        obtain ⟨X, hX⟩ : ∃ X, X = strOfNums (putS x) := ⟨_, rfl⟩
        have h2 : (okS x != okS x) = false := by simp
        have h3 : ((X.size : Int) != (X.size : Int)) = false := by simp
        have HPut := Lib.hid (fun w => put_any x w hr.1 hr.2)
        have HRef := Lib.hid (fun w => rput_any x w hr.1 hr.2)
        have HSize := Lib.hid (fun w => size_is x X.size (by rw [hX, strOfNums_size]) w)
        have HV := Lib.hid (fun w => valid_any x w)
        have HRV := Lib.hid (fun w => rvalid_any x w)
        rw [← hX] at HPut HRef
        obtain ⟨vb, hvb⟩ : ∃ vb, vb = okS x := ⟨_, rfl⟩
        rw [← hvb] at h2 HV HRV
        have HBB : Kept b w wr := ⟨hbl, HB.out⟩
        have i0 : (0 : Int) ≤ (k : Int) := by omega
        have i1 : (k : Int) < (2000 : Int) := by omega
        clear hX hx hr hvb HB hbl
        go_wp2
        go_region_held3 (fun w' => w'.cell? ⟨b, o + k, none⟩ = some (.int .i32 x) ∧ Kept b w w') (first | assumption | (refine ⟨?_, ?_⟩ <;> first | assumption | exact Kept.drew (by assumption) | go_keep))
          (first
            | (go_at_call 17; refine (calls_keep (HPut.out _) (by assumption)).mono ?_; rintro e w3 ⟨rfl, hS3⟩)
            | (go_at_call 18; refine (calls_keep (HRef.out _) (by assumption)).mono ?_; rintro e w3 ⟨rfl, hS3⟩)
            | (go_at_call 19; refine (HV.out _).mono ?_; rintro e w3 ⟨rfl, rfl⟩)
            | (go_at_call 20; refine (HRV.out _).mono ?_; rintro e w3 ⟨rfl, rfl⟩)
            | (go_at_call 21; refine (HSize.out _).mono ?_; rintro e w3 ⟨rfl, rfl⟩))
        all_goals go_wp2
        all_goals
          go_roundw
          case rel => first | exact ⟨k + 1, by omega, by go_num, Lib.hid hS3.2.2⟩ | ((repeat apply Exists.intro); exact ⟨⟨k + 1, by omega, by go_num, Lib.hid hS3.2.2⟩, rfl⟩)
          case measure => simp [intOf]; omega
      · obtain rfl : k = 2000 := by omega
        go_wp2_with (first
          | (go_at_call 22; refine (enc_any A _ _ p _ (by omega) (HA.out.later HB.out) (fun j hj => HP.out j hj)).mono ?_; rintro e w1 ⟨rfl, hb1⟩; have HB1 := Lib.hid (HB.out.trans (hb1.mono HB.out.size)); clear hb1)
          | (go_at_call 23; refine (renc_any A _ _ p _ (by omega) (HA.out.later HB1.out) (fun j hj => HP.out j hj)).mono ?_; rintro e w2 ⟨rfl, hb2⟩; have HB2 := Lib.hid (HB1.out.trans (hb2.mono HB1.out.size)); clear hb2)
          | (go_at_call 12; refine (HW.out _).mono ?_; rintro e w4 ⟨rfl, hb4⟩))
        go_ret
        exact ⟨rfl, HB2.out.trans (hb4.mono HB2.out.size)⟩
  · obtain rfl : m = n := by omega
    have d0 : decide ((2000 : Int) < (m : Int)) = false := by simp; omega
    clear hm
    go_enter Try.func5, Try.ntmps5
    go_wp2
    go_loopw [3] (fun i wr => ∃ k : Nat, k ≤ m ∧ i = .int .i64 k ∧ Hid (Below w.heap.size w wr)) (fun i _ => m - (intOf i).toNat)
    case atStart => exact ⟨0, Nat.zero_le _, rfl, Lib.hid (Below.refl _ _)⟩
    case round =>
      obtain ⟨k, hk, rfl, HB⟩ := hrel
      by_cases hlt : k < m
      · obtain ⟨b, o, rfl, hbl, hc1⟩ := (HA.out.later HB.out) k hlt
        unfold iv at hc1
        have hr := HP.out k hlt
        obtain ⟨x, hx⟩ : ∃ x, x = p k := ⟨_, rfl⟩
        rw [← hx] at hc1 hr
        obtain ⟨X, hX⟩ : ∃ X, X = strOfNums (putS x) := ⟨_, rfl⟩
        have h2 : (okS x != okS x) = false := by simp
        have h3 : ((X.size : Int) != (X.size : Int)) = false := by simp
        have HPut := Lib.hid (fun w => put_any x w hr.1 hr.2)
        have HRef := Lib.hid (fun w => rput_any x w hr.1 hr.2)
        have HSize := Lib.hid (fun w => size_is x X.size (by rw [hX, strOfNums_size]) w)
        have HV := Lib.hid (fun w => valid_any x w)
        have HRV := Lib.hid (fun w => rvalid_any x w)
        rw [← hX] at HPut HRef
        obtain ⟨vb, hvb⟩ : ∃ vb, vb = okS x := ⟨_, rfl⟩
        rw [← hvb] at h2 HV HRV
        have HBB : Kept b w wr := ⟨hbl, HB.out⟩
        have i0 : (0 : Int) ≤ (k : Int) := by omega
        have i1 : (k : Int) < (m : Int) := by omega
        clear hX hx hr hvb HB hbl
        go_wp2
        go_region_held3 (fun w' => w'.cell? ⟨b, o + k, none⟩ = some (.int .i32 x) ∧ Kept b w w') (first | assumption | (refine ⟨?_, ?_⟩ <;> first | assumption | exact Kept.drew (by assumption) | go_keep))
          (first
            | (go_at_call 17; refine (calls_keep (HPut.out _) (by assumption)).mono ?_; rintro e w3 ⟨rfl, hS3⟩)
            | (go_at_call 18; refine (calls_keep (HRef.out _) (by assumption)).mono ?_; rintro e w3 ⟨rfl, hS3⟩)
            | (go_at_call 19; refine (HV.out _).mono ?_; rintro e w3 ⟨rfl, rfl⟩)
            | (go_at_call 20; refine (HRV.out _).mono ?_; rintro e w3 ⟨rfl, rfl⟩)
            | (go_at_call 21; refine (HSize.out _).mono ?_; rintro e w3 ⟨rfl, rfl⟩))
        all_goals go_wp2
        all_goals
          go_roundw
          case rel => first | exact ⟨k + 1, by omega, by go_num, Lib.hid hS3.2.2⟩ | ((repeat apply Exists.intro); exact ⟨⟨k + 1, by omega, by go_num, Lib.hid hS3.2.2⟩, rfl⟩)
          case measure => simp [intOf]; omega
      · obtain rfl : k = m := by omega
        go_wp2_with (first
          | (go_at_call 22; refine (enc_any A _ _ p _ (by omega) (HA.out.later HB.out) (fun j hj => HP.out j hj)).mono ?_; rintro e w1 ⟨rfl, hb1⟩; have HB1 := Lib.hid (HB.out.trans (hb1.mono HB.out.size)); clear hb1)
          | (go_at_call 23; refine (renc_any A _ _ p _ (by omega) (HA.out.later HB1.out) (fun j hj => HP.out j hj)).mono ?_; rintro e w2 ⟨rfl, hb2⟩; have HB2 := Lib.hid (HB1.out.trans (hb2.mono HB1.out.size)); clear hb2)
          | (go_at_call 12; refine (HW.out _).mono ?_; rintro e w4 ⟨rfl, hb4⟩))
        go_ret
        exact ⟨rfl, HB2.out.trans (hb4.mono HB2.out.size)⟩

end Go.Proofs.Ytpfldppoebgfgaa
