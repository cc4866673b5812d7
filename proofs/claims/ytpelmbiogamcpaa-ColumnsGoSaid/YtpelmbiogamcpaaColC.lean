/- columns: the document's step to the right (way 1). -/
import Derived.Test.YtpelmbiogamcpaaColB
namespace Go.Proofs.Ytpelmbiogamcpaa
open Go.RowKit
set_option linter.unusedVariables false
set_option linter.unusedSimpArgs false

set_option maxHeartbeats 2000000 in
set_option maxRecDepth 100000 in
theorem ref_right (r n at_ : Nat) (w : World) (hr : 0 < r) (hr2 : r ≤ 9223372036854775807) (h : at_ < n) (hn : n ≤ 65536) :
    Calls Try.prog 7 #[.int .i64 r, .int .i64 n, .int .i64 at_, .int .i64 1] w (TellsP ((at_ % r) + ((at_ / r + 1) % cntR r (at_ % r) n) * r) w) := by
  obtain ⟨row, hrow⟩ : ∃ row, at_ % r = row := ⟨_, rfl⟩
  have hlt : row < r := hrow ▸ Nat.mod_lt _ hr
  have b1 : decide ((r : Int) < 1) = false := decide_eq_false (by omega)
  have b2 : decide ((n : Int) < 1) = false := decide_eq_false (by omega)
  have b3 : decide ((65536 : Int) < (n : Int)) = false := decide_eq_false (by omega)
  have b4 : decide ((at_ : Int) < 0) = false := decide_eq_false (by omega)
  have b5 : decide (n ≤ at_) = false := decide_eq_false (by omega)
  have hm : Int.tmod (at_ : Int) (r : Int) = (row : Int) := by rw [Int.tmod_eq_emod_of_nonneg (by omega), ← hrow]; rfl
  have hr0 : (r : Int) ≠ 0 := by omega
  have hr1 : ((r : Int) == 0) = false := by simp; omega
  have HR := Lib.hid (And.intro hlt (And.intro hrow hr))
  clear hlt hrow
  go_enter Try.func7, Try.ntmps7
  go_wp2
  go_loopw [10, 11, 12] (fun v hh i wr => ∃ k : Nat, k ≤ n ∧ i = .int .i64 k ∧ Hid (RowAt w v hh r row at_ k wr)) (fun _ _ i _ => n - (intOf i).toNat)
  case atStart => exact ⟨0, Nat.zero_le _, rfl, none, 0, 0, 0, rfl, rfl, (cntR_zero HR.out.1).symm, by unfold rowL; rw [cntR_zero HR.out.1]; exact World.ownsRow_nil _ _ _ _, by simp, Below.refl _ _⟩
  case round =>
    obtain ⟨k, hk, rfl, HB⟩ := hrel
    obtain ⟨A, c, q, N, rfl, rfl, HO⟩ := HB
    have hN : N ≤ n := by
      rw [HO.out.1]
      have h1 := cntR_mono (r := r) (row := row) hk
      have h2 : cntR r row n ≤ n := by
        rw [cntR_all HR.out.1 (by have := Nat.mod_le at_ r; have := HR.out.2.1; omega)]
        have := Nat.div_le_self (n - 1 - row) r
        have := Nat.mod_le at_ r; have := HR.out.2.1
        omega
      omega
    have hz := HO.out.2.2.2.size
    by_cases hkn : k < n
    · obtain ⟨m, hmk⟩ : ∃ m, k % r = m := ⟨_, rfl⟩
      have hm2 : Int.tmod (k : Int) (r : Int) = (m : Int) := by rw [Int.tmod_eq_emod_of_nonneg (by omega), ← hmk]; rfl
      by_cases he : m = row
      · subst he
        have he2 : ((m : Int) == (m : Int)) = true := by simp
        have HM := Lib.hid (cntR_hit HR.out.1 hmk)
        by_cases hka : k = at_
        · subst hka
          have ha : ((k : Int) == (k : Int)) = true := by simp
          clear hmk
          go_wp2
          go_quiet (fail)
          go_wp2_with (at_builtin; refine wpList_push colI_elt (own_drewN HO.out.2.1 _) (by simpa using hz) rfl rfl rfl rfl (by simp) rfl rfl (by unfold maxLen; omega) (by omega) ?_; intro A3 c3 w3 hp; have HP := Lib.hid hp; clear hp)
          go_roundw
          case rel => exact ⟨k + 1, by omega, by go_num, A3, c3, N, N + 1, rfl, rfl, by rw [HO.out.1, HM.out.1], by rw [← rowL_push HM.out]; exact HP.out.own, (by rw [if_neg (by omega), HO.out.1, ← HR.out.2.1]; exact cntR_col HR.out.2.2), HP.out.below (below_drewN HO.out.2.2.2 _) (own_drewN HO.out.2.1 _) (Nat.le_refl _)⟩
          case measure => simp [intOf]; omega
        · have ha : ((k : Int) == (at_ : Int)) = false := by simp; omega
          clear hmk
          go_wp2
          go_quiet (fail)
          go_wp2_with (at_builtin; refine wpList_push colI_elt (own_drewN HO.out.2.1 _) (by simpa using hz) rfl rfl rfl rfl (by simp) rfl rfl (by unfold maxLen; omega) (by omega) ?_; intro A3 c3 w3 hp; have HP := Lib.hid hp; clear hp)
          go_roundw
          case rel => exact ⟨k + 1, by omega, by go_num, A3, c3, q, N + 1, rfl, rfl, by rw [HO.out.1, HM.out.1], by rw [← rowL_push HM.out]; exact HP.out.own, (by have h1 := HO.out.2.2.1; rw [h1]; by_cases h3 : k ≤ at_; (· rw [if_pos h3, if_pos (by omega)]); (· rw [if_neg h3, if_neg (by omega)])), HP.out.below (below_drewN HO.out.2.2.2 _) (own_drewN HO.out.2.1 _) (Nat.le_refl _)⟩
          case measure => simp [intOf]; omega
      · have he2 : ((m : Int) == (row : Int)) = false := by simp; omega
        have HM := Lib.hid (cntR_miss HR.out.1 (by rw [hmk]; exact he))
        have HK := Lib.hid (show k ≠ at_ from fun e => he (by rw [← hmk, e]; exact HR.out.2.1))
        clear hmk he
        go_wp2
        go_quiet (fail)
        go_wp2
        go_roundw
        case rel => exact ⟨k + 1, by omega, by go_num, A, c, q, N, rfl, rfl, by rw [HO.out.1, HM.out], by unfold rowL; rw [HM.out]; exact own_drewN HO.out.2.1 _, (by have h1 := HO.out.2.2.1; have h2 := HK.out; rw [h1]; by_cases h3 : k ≤ at_; (· rw [if_pos h3, if_pos (by omega)]); (· rw [if_neg h3, if_neg (by omega)])), below_drewN HO.out.2.2.2 _⟩
        case measure => simp [intOf]; omega
    · obtain rfl : k = n := by omega
      have hq : q = at_ / r := by rw [HO.out.2.2.1, if_neg (by omega)]
      have hN0 : 0 < N := by rw [HO.out.1, cntR_all HR.out.1 (by have := Nat.mod_le at_ r; have := HR.out.2.1; omega)]; exact Nat.succ_pos _
      obtain ⟨x, hx⟩ : ∃ x, (q + 1) % N = x := ⟨_, rfl⟩
      have hxN : x < N := hx ▸ Nat.mod_lt _ hN0
      have hq2 : q ≤ 65536 := by rw [hq]; have := Nat.div_le_self at_ r; omega
      have ht : Int.tmod ((q : Int) + 1) (N : Int) = (x : Int) := by
        rw [show (q : Int) + 1 = ((q + 1 : Nat) : Int) by omega, Int.tmod_eq_emod_of_nonneg (by omega), ← hx]; rfl
      obtain ⟨b, o, rfl, _, hcell⟩ := rd_own (f := fun j => .int .i64 ((row + j * r : Nat) : Int)) HO.out.2.1 (fun j hj => by rw [HO.out.1] at hj; simp [rowL, hj]) x hxN
      have HF := Lib.hid (show row + x * r = at_ % r + (at_ / r + 1) % cntR r (at_ % r) k * r by rw [HR.out.2.1, ← hq, ← HO.out.1, hx])
      obtain ⟨y, hy⟩ : ∃ y, row + x * r = y := ⟨_, rfl⟩
      have hcell2 : wr.cell? ⟨b, o + x, none⟩ = some (.int .i64 ((row + x * r : Nat) : Int)) := hcell
      rw [hy] at hcell2 HF
      clear hcell
      have hn0 : ((N : Int) == 0) = false := by simp; omega
      have hx0 : (x : Int) < (N : Int) := by omega
      clear hx hq hy
      go_wp2
      go_ret2
      exact ⟨congrArg (fun z : Nat => Ending.returned (.tuple #[.int .i64 (z : Int), .bool true])) HF.out, HO.out.2.2.2⟩
end Go.Proofs.Ytpelmbiogamcpaa
