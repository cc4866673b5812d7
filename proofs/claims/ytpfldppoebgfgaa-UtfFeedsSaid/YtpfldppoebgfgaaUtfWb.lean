/- utf: the document's count of the bytes that wait. -/
import Derived.Test.YtpfldppoebgfgaaUtfWa
namespace Go.Proofs.Ytpfldppoebgfgaa
open Go.RowKit
set_option linter.unusedVariables false
set_option linter.unusedSimpArgs false

set_option maxHeartbeats 4000000 in
theorem waits_any (s : ByteArray) (w : World) (hsz : s.size ≤ 1000000000) :
    Calls Try.prog 14 #[.string s] w (Told (.int .i64 (stF DS.zero (bts s)).n) w) := by
  go_enter Try.func14, Try.ntmps14
  go_wp2
  go_loopw [3] (fun i wr => ∃ k : Nat, k ≤ s.size ∧ i = .int .i64 k ∧ stF DS.zero (bts s) = stF DS.zero ((bts s).drop k) ∧ ∃ q, wr = w.drewN q) (fun i _ => s.size - (intOf i).toNat)
  case atStart => exact ⟨0, Nat.zero_le _, rfl, rfl, 0, rfl⟩
  case round =>
    obtain ⟨k, hk, rfl, hst, q, rfl⟩ := hrel
    by_cases hlt : k < s.size
    · obtain ⟨c, t, eL⟩ : ∃ c t, (bts s).drop k = c :: t := by
        match e : (bts s).drop k with
        | [] =>
          have := congrArg List.length e
          rw [List.length_drop, bts_length] at this
          simp at this; omega
        | a :: l => exact ⟨a, l, rfl⟩
      have htl : t.length + 1 = s.size - k := by
        have := congrArg List.length eL
        rw [List.length_drop, bts_length] at this
        simpa using this.symm
      have HO := Lib.hid hst
      clear hst
      go_wp2_with fail
      refine (row_said _ _ (by rw [ByteArray.size_extract]; omega)).mono ?_
      rintro e w1 ⟨n, wh, rfl, hri, kq, rfl⟩
      rw [bts_tail, eL] at hri
      have hnl : n ≤ s.size - k := by
        have h1 := hri.1
        simp only [List.length_cons] at h1
        omega
      have hss := st_step c t n wh hri
      have hw0 : wh = true → 0 < n := fun e => (hri.2.2.2.1 e).1
      clear hri
      rcases hss with ⟨rfl, hn, hne, hv⟩ | ⟨hno, hv⟩
      · have hle : k + n = s.size := by omega
        have HV := Lib.hid hv
        clear hv hw0 htl hne
        go_wp2_with fail
        go_ret
        exact ⟨by rw [HO.out, eL, HV.out]; rfl, _, rfl⟩
      · have HV := Lib.hid hv
        clear hv
        cases wh
        · by_cases hn : n = 0
          · subst hn
            clear hno hw0
            go_wp2_with fail
            go_roundw
            case rel =>
              refine ⟨k + 1, by omega, by go_num, ?_, _, rfl⟩
              rw [HO.out, eL, HV.out, ← List.drop_drop, eL]
              simp
            case measure => simp [intOf]; omega
          · have hle : ¬ (k + n = s.size) := fun h => hno ⟨rfl, by omega, by omega⟩
            have hz2 : ((n : Int) == 0) = false := by simp [hn]
            have hz3 : (((k : Int) + (n : Int)) == (s.size : Int)) = false := by simp; omega
            clear hno hw0
            go_wp2_with fail
            go_roundw
            case rel =>
              refine ⟨k + n, by omega, by go_num, ?_, _, rfl⟩
              rw [HO.out, eL, HV.out, show decide (n = 0) = false by simp [hn], ← List.drop_drop, eL]
              simp
            case measure => simp [intOf]; omega
        · have hn : 0 < n := hw0 rfl
          have hz2 : ((n : Int) == 0) = false := by simp; omega
          clear hno hw0
          go_wp2_with fail
          go_roundw
          case rel =>
            refine ⟨k + n, by omega, by go_num, ?_, _, rfl⟩
            rw [HO.out, eL, HV.out, show decide (n = 0) = false by simp; omega, ← List.drop_drop, eL]
            simp
          case measure => simp [intOf]; omega
    · obtain rfl : k = s.size := by omega
      have hv : (stF DS.zero (bts s)).n = 0 := by
        rw [hst, List.drop_of_length_le (by rw [bts_length]; exact Nat.le_refl _)]
        rfl
      have HV := Lib.hid hv
      clear hst hv
      go_wp2_with fail
      go_ret
      exact ⟨by rw [HV.out]; rfl, _, rfl⟩
end Go.Proofs.Ytpfldppoebgfgaa
