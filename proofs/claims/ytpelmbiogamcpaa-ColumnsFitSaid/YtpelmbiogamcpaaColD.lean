/- columns: the document's step in a column (way 2). -/
import Derived.Test.YtpelmbiogamcpaaColC
namespace Go.Proofs.Ytpelmbiogamcpaa
open Go.RowKit
set_option linter.unusedVariables false
set_option linter.unusedSimpArgs false

/-- The column's places among the first i. -/
def colL (r c i : Nat) : List Nat := (List.range (cntC r c i)).map fun k => c * r + k

/-- What the loop holds at place i. -/
def ColAt (w : World) (v h : Value) (r col at_ i : Nat) (wr : World) : Prop :=
  ∃ (A : Option Addr) (c q N : Nat), v = .slice A N c ∧ h = .int .i64 q ∧ Hid (N = cntC r col i ∧ wr.ownsRow w.heap.size 3 1 (.slice A N c) N ((colL r col i).map fun x => Value.int .i64 (x : Nat)) ∧ q = (if i ≤ at_ then 0 else at_ % r) ∧ Below w.heap.size w wr)

theorem colL_push {r c k : Nat} (h : cntC r c (k + 1) = cntC r c k + 1 ∧ k = c * r + cntC r c k) : (colL r c k).map (fun x => Value.int .i64 (x : Nat)) ++ [Value.int .i64 (k : Nat)] = (colL r c (k + 1)).map (fun x => Value.int .i64 (x : Nat)) := by
  have e := map_grow (fun j => c * r + j) (cntC r c k) k h.2
  unfold colL
  rw [h.1, ← e, List.map_append]
  rfl

set_option maxHeartbeats 2000000 in
set_option maxRecDepth 100000 in
theorem ref_up (r n at_ : Nat) (w : World) (hr : 0 < r) (hr2 : r ≤ 9223372036854775807) (h : at_ < n) (hn : n ≤ 65536) :
    Calls Try.prog 7 #[.int .i64 r, .int .i64 n, .int .i64 at_, .int .i64 2] w (TellsP (at_ / r * r + ((at_ % r + cntC r (at_ / r) n - 1) % cntC r (at_ / r) n)) w) := by
  obtain ⟨row, hrow⟩ : ∃ row, at_ / r = row := ⟨_, rfl⟩
  have hl2 := hrow ▸ col_len hr h
  have b1 : decide ((r : Int) < 1) = false := decide_eq_false (by omega)
  have b2 : decide ((n : Int) < 1) = false := decide_eq_false (by omega)
  have b3 : decide ((65536 : Int) < (n : Int)) = false := decide_eq_false (by omega)
  have b4 : decide ((at_ : Int) < 0) = false := decide_eq_false (by omega)
  have b5 : decide (n ≤ at_) = false := decide_eq_false (by omega)
  have hm : Int.tdiv (at_ : Int) (r : Int) = (row : Int) := by rw [Int.tdiv_eq_ediv_of_nonneg (by omega), ← hrow]; rfl
  have hr0 : (r : Int) ≠ 0 := by omega
  have hr1 : ((r : Int) == 0) = false := by simp; omega
  have HR := Lib.hid (And.intro hr (And.intro hrow hl2))
  clear hl2 hrow
  go_enter Try.func7, Try.ntmps7
  go_wp2
  go_loopw [10, 11, 12] (fun v hh i wr => ∃ k : Nat, k ≤ n ∧ i = .int .i64 k ∧ Hid (ColAt w v hh r row at_ k wr)) (fun _ _ i _ => n - (intOf i).toNat)
  case atStart => exact ⟨0, Nat.zero_le _, rfl, none, 0, 0, 0, rfl, rfl, cntC_zero.symm, by unfold colL; rw [cntC_zero]; exact World.ownsRow_nil _ _ _ _, by simp, Below.refl _ _⟩
  case round =>
    obtain ⟨k, hk, rfl, HB⟩ := hrel
    obtain ⟨A, c, q, N, rfl, rfl, HO⟩ := HB
    have hN : N ≤ n := by rw [HO.out.1]; unfold cntC; omega
    have hz := HO.out.2.2.2.size
    have hA1 : N + 1 ≤ maxLen := by unfold maxLen; omega
    have hA2 : (N + 1) * 8 ≤ 140737488355328 := by omega
    by_cases hkn : k < n
    · obtain ⟨m, hmk⟩ : ∃ m, k / r = m := ⟨_, rfl⟩
      have hm2 : Int.tdiv (k : Int) (r : Int) = (m : Int) := by rw [Int.tdiv_eq_ediv_of_nonneg (by omega), ← hmk]; rfl
      have HW := Lib.hid (And.intro (show wrap64 (m : Int) = m from IntWalk.wrap64_in _ (by have := Nat.div_le_self k r; omega)) (show wrap64 (row : Int) = row from IntWalk.wrap64_in _ (by have := Nat.div_le_self at_ r; have := HR.out.2.1; omega)))
      by_cases he : m = row
      · subst he
        have he2 : ((m : Int) == (m : Int)) = true := by simp
        have HM := Lib.hid (cntC_hit HR.out.1 hmk)
        by_cases hka : k = at_
        · subst hka
          have ha : ((k : Int) == (k : Int)) = true := by simp
          clear hmk
          have hwm := HW.out.1
          go_wp2
          go_quiet (fail)
          clear hwm
          go_wp2_with (at_builtin; refine wpList_push colI_elt (own_drewN HO.out.2.1 _) (by simpa using hz) rfl rfl rfl rfl (by simp) rfl rfl hA1 hA2 ?_; intro A3 c3 w3 hp; have HP := Lib.hid hp; clear hp)
          go_roundw
          case rel => exact ⟨k + 1, by omega, by go_num, A3, c3, N, N + 1, rfl, rfl, by rw [HO.out.1, HM.out.1], by rw [← colL_push HM.out]; exact HP.out.own, (by rw [if_neg (by omega), HO.out.1]; exact HR.out.2.2.2.1), HP.out.below (below_drewN HO.out.2.2.2 _) (own_drewN HO.out.2.1 _) (Nat.le_refl _)⟩
          case measure => simp [intOf]; omega
        · have ha : ((k : Int) == (at_ : Int)) = false := by simp; omega
          clear hmk
          have hwm := HW.out.1
          go_wp2
          go_quiet (fail)
          clear hwm
          go_wp2_with (at_builtin; refine wpList_push colI_elt (own_drewN HO.out.2.1 _) (by simpa using hz) rfl rfl rfl rfl (by simp) rfl rfl hA1 hA2 ?_; intro A3 c3 w3 hp; have HP := Lib.hid hp; clear hp)
          go_roundw
          case rel => exact ⟨k + 1, by omega, by go_num, A3, c3, q, N + 1, rfl, rfl, by rw [HO.out.1, HM.out.1], by rw [← colL_push HM.out]; exact HP.out.own, (by have h1 := HO.out.2.2.1; rw [h1]; by_cases h3 : k ≤ at_; (· rw [if_pos h3, if_pos (by omega)]); (· rw [if_neg h3, if_neg (by omega)])), HP.out.below (below_drewN HO.out.2.2.2 _) (own_drewN HO.out.2.1 _) (Nat.le_refl _)⟩
          case measure => simp [intOf]; omega
      · have he2 : ((m : Int) == (row : Int)) = false := by simp; omega
        have HM := Lib.hid (cntC_miss HR.out.1 (by rw [hmk]; exact he))
        have HK := Lib.hid (show k ≠ at_ from fun e => he (by rw [← hmk, e]; exact HR.out.2.1))
        clear hmk he
        have hwm := HW.out.1
        have hwr := HW.out.2
        go_wp2
        go_quiet (fail)
        clear hwm hwr
        go_wp2
        go_roundw
        case rel => exact ⟨k + 1, by omega, by go_num, A, c, q, N, rfl, rfl, by rw [HO.out.1, HM.out], by unfold colL; rw [HM.out]; exact own_drewN HO.out.2.1 _, (by have h1 := HO.out.2.2.1; have h2 := HK.out; rw [h1]; by_cases h3 : k ≤ at_; (· rw [if_pos h3, if_pos (by omega)]); (· rw [if_neg h3, if_neg (by omega)])), below_drewN HO.out.2.2.2 _⟩
        case measure => simp [intOf]; omega
    · obtain rfl : k = n := by omega
      have hq : q = at_ % r := by rw [HO.out.2.2.1, if_neg (by omega)]
      have hN0 : 0 < N := by rw [HO.out.1]; exact Nat.lt_of_le_of_lt (Nat.zero_le _) HR.out.2.2.2.2
      obtain ⟨x, hx⟩ : ∃ x, (q + N - 1) % N = x := ⟨_, rfl⟩
      have hxN : x < N := hx ▸ Nat.mod_lt _ hN0
      have hq2 : q ≤ 65536 := by rw [hq]; have := Nat.mod_le at_ r; omega
      have ht : Int.tmod ((q : Int) + (N : Int) - 1) (N : Int) = (x : Int) := by
        rw [show (q : Int) + (N : Int) - 1 = ((q + N - 1 : Nat) : Int) by omega, Int.tmod_eq_emod_of_nonneg (by omega), ← hx]; rfl
      obtain ⟨b, o, rfl, _, hcell⟩ := rd_own (f := fun j => .int .i64 ((row * r + j : Nat) : Int)) HO.out.2.1 (fun j hj => by rw [HO.out.1] at hj; simp [colL, hj]) x hxN
      have HF := Lib.hid (show row * r + x = at_ / r * r + (at_ % r + cntC r (at_ / r) k - 1) % cntC r (at_ / r) k by rw [HR.out.2.1, ← hq, ← HO.out.1, hx])
      obtain ⟨y, hy⟩ : ∃ y, row * r + x = y := ⟨_, rfl⟩
      have hcell2 : wr.cell? ⟨b, o + x, none⟩ = some (.int .i64 ((row * r + x : Nat) : Int)) := hcell
      rw [hy] at hcell2 HF
      clear hcell
      have hn0 : ((N : Int) == 0) = false := by simp; omega
      have hx0 : (x : Int) < (N : Int) := by omega
      clear hx hq hy
      go_wp2
      go_ret2
      exact ⟨congrArg (fun z : Nat => Ending.returned (.tuple #[.int .i64 (z : Int), .bool true])) HF.out, HO.out.2.2.2⟩
end Go.Proofs.Ytpelmbiogamcpaa
