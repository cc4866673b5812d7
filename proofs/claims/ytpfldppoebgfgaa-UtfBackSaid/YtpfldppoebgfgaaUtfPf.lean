/- utf: UtfBack's walk. -/
import Derived.Test.YtpfldppoebgfgaaUtfPe
import Derived.Test.YtpfldppoebgfgaaUtfY
import Derived.Test.YtpfldppoebgfgaaArg
namespace Go.Proofs.Ytpfldppoebgfgaa
open Go.RowKit
set_option linter.unusedVariables false
set_option linter.unusedSimpArgs false

theorem map_upTo (p : Nat → Int) (g : Int → Int) (n j : Nat) (h : j < n) : ((upTo p n).map g).getD j 0 = g (p j) := by
  simp [upTo, List.getD, h]

/-- Encode, then Decode. -/
theorem round_trip (p : Nat → Int) (n : Nat) (w : World) (hn : n ≤ 1000000) : Calls Try.prog 10 #[.string (strOfNums (encI (upTo p n)))] w (TellsI n (fun j => scal (p j)) w) := by
  have hd : decD (bts (strOfNums (encI (upTo p n)))) = (upTo p n).map scal := by
    rw [bts_str _ (encI_range _), dec_enc]
  refine decode_is _ n _ w ?_ ?_ ?_
  · have := encI_len (upTo p n)
    rw [upTo_len] at this
    rw [strOfNums_size]
    omega
  · rw [hd, List.length_map, upTo_len]
  · intro j hj
    rw [hd]
    exact map_upTo p scal n j hj

set_option maxHeartbeats 1000000 in
set_option maxRecDepth 100000 in
theorem walk_UtfBack (w : World) (A : Option Addr) (n c : Nat) (p : Nat → Int) (hA : Rd w A n (iv p)) (hle : n ≤ c) (hmax : c ≤ maxLen) (hp : ∀ j, j < n → (Lit.int .i32 (p j)).wf = true) :
    Calls Try.prog 6 #[.slice A n c] w (Yes w) := by
  obtain ⟨m, hm, hm0, hm1⟩ : ∃ m : Nat, m = min n 2000 ∧ m ≤ n ∧ m ≤ 2000 := ⟨_, rfl, by omega, by omega⟩
  unfold maxLen at hmax
  have HA := Lib.hid (show Rd w A m (iv p) from fun j hj => hA j (by omega))
  have HP := Lib.hid (fun j (hj : j < m) => wf_i32 (hp j (by omega)))
  clear hA hp
  have HW := Lib.hid (awake_yes)
  have hm2 : m ≤ 9223372036854775807 := by omega
  by_cases hbig : 2000 < n
  · obtain rfl : m = 2000 := by omega
    clear hm
    go_enter Try.func6, Try.ntmps6
    go_wp2_with (first
      | (go_at_call 22; refine (enc_any A _ _ p _ (by omega) HA.out (fun j hj => HP.out j hj)).mono ?_; rintro e w1 ⟨rfl, hb1⟩; have HB := Lib.hid hb1; clear hb1)
      | (go_at_call 10; refine (round_trip p _ _ (by omega)).mono ?_; rintro e w2 ⟨A2, c2, rfl, hr2, hb2⟩; have HC := Lib.hid (And.intro hr2 (HB.out.trans (hb2.mono HB.out.size))); clear hr2 hb2))
    go_loop [4, 5] (fun i _ => ∃ k : Nat, k ≤ 2000 ∧ i = .int .i64 k) (fun i _ => 2000 - (intOf i).toNat)
    case atStart => exact ⟨0, Nat.zero_le _, rfl⟩
    case round =>
      obtain ⟨k, hk, rfl⟩ := hrel
      by_cases hlt : k < 2000
      · obtain ⟨b, o, rfl, hbl, hc1⟩ := (HA.out.later HC.out.2) k hlt
        obtain ⟨b2, o2, rfl, hbl2, hc2⟩ := HC.out.1 k hlt
        have HV := Lib.hid (fun w => rvalid_any (p k) w)
        have h3 : (p k == p k) = true := by simp
        have h4 : (p k != p k) = false := by simp
        unfold iv at hc1 hc2
        dsimp only at hc2
        by_cases hok : okS (p k) = true
        · have e : scal (p k) = p k := by unfold scal; rw [if_pos hok]
          rw [e] at hc2
          rw [hok] at HV
          clear e hok
          go_wp2_with (go_at_call 20; refine (HV.out _).mono ?_; rintro e w3 ⟨rfl, rfl⟩)
          go_round
          case rel => exact ⟨k + 1, by omega, by go_num⟩
          case measure => simp [intOf]; omega
        · have e : scal (p k) = 65533 := by unfold scal; rw [if_neg hok]
          rw [Bool.not_eq_true] at hok
          rw [e] at hc2
          rw [hok] at HV
          clear e hok
          go_wp2_with (go_at_call 20; refine (HV.out _).mono ?_; rintro e w3 ⟨rfl, rfl⟩)
          go_round
          case rel => exact ⟨k + 1, by omega, by go_num⟩
          case measure => simp [intOf]; omega
      · obtain rfl : k = 2000 := by omega
        go_wp2_with (go_at_call 12; refine (HW.out _).mono ?_; rintro e w4 ⟨rfl, hb4⟩)
        go_ret
        exact ⟨rfl, HC.out.2.trans (hb4.mono HC.out.2.size)⟩
  · obtain rfl : m = n := by omega
    clear hm
    go_enter Try.func6, Try.ntmps6
    go_wp2_with (first
      | (go_at_call 22; refine (enc_any A _ _ p _ (by omega) HA.out (fun j hj => HP.out j hj)).mono ?_; rintro e w1 ⟨rfl, hb1⟩; have HB := Lib.hid hb1; clear hb1)
      | (go_at_call 10; refine (round_trip p _ _ (by omega)).mono ?_; rintro e w2 ⟨A2, c2, rfl, hr2, hb2⟩; have HC := Lib.hid (And.intro hr2 (HB.out.trans (hb2.mono HB.out.size))); clear hr2 hb2))
    go_loop [4, 5] (fun i _ => ∃ k : Nat, k ≤ m ∧ i = .int .i64 k) (fun i _ => m - (intOf i).toNat)
    case atStart => exact ⟨0, Nat.zero_le _, rfl⟩
    case round =>
      obtain ⟨k, hk, rfl⟩ := hrel
      by_cases hlt : k < m
      · obtain ⟨b, o, rfl, hbl, hc1⟩ := (HA.out.later HC.out.2) k hlt
        obtain ⟨b2, o2, rfl, hbl2, hc2⟩ := HC.out.1 k hlt
        have HV := Lib.hid (fun w => rvalid_any (p k) w)
        have h3 : (p k == p k) = true := by simp
        have h4 : (p k != p k) = false := by simp
        unfold iv at hc1 hc2
        dsimp only at hc2
        by_cases hok : okS (p k) = true
        · have e : scal (p k) = p k := by unfold scal; rw [if_pos hok]
          rw [e] at hc2
          rw [hok] at HV
          clear e hok
          go_wp2_with (go_at_call 20; refine (HV.out _).mono ?_; rintro e w3 ⟨rfl, rfl⟩)
          go_round
          case rel => exact ⟨k + 1, by omega, by go_num⟩
          case measure => simp [intOf]; omega
        · have e : scal (p k) = 65533 := by unfold scal; rw [if_neg hok]
          rw [Bool.not_eq_true] at hok
          rw [e] at hc2
          rw [hok] at HV
          clear e hok
          go_wp2_with (go_at_call 20; refine (HV.out _).mono ?_; rintro e w3 ⟨rfl, rfl⟩)
          go_round
          case rel => exact ⟨k + 1, by omega, by go_num⟩
          case measure => simp [intOf]; omega
      · obtain rfl : k = m := by omega
        go_wp2_with (go_at_call 12; refine (HW.out _).mono ?_; rintro e w4 ⟨rfl, hb4⟩)
        go_ret
        exact ⟨rfl, HC.out.2.trans (hb4.mono HC.out.2.size)⟩
end Go.Proofs.Ytpfldppoebgfgaa
