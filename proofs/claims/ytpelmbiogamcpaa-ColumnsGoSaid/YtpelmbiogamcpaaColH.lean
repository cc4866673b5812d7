/- columns: sums of widths: the document's Total and the plan's. -/
import Derived.Test.YtpelmbiogamcpaaColG
namespace Go.Proofs.Ytpelmbiogamcpaa
open Go.RowKit
set_option linter.unusedVariables false
set_option linter.unusedSimpArgs false

/-- A slice's ints are f 0, f 1, .. -/
def nv (f : Nat → Nat) (j : Nat) : Value := .int .i64 ((f j : Nat) : Int)

def sumN (f : Nat → Nat) : Nat → Nat
  | 0 => 0
  | k + 1 => sumN f k + f k
/-- What columns of widths f 0 .. f (k-1) take. -/
def totN (f : Nat → Nat) (k : Nat) : Nat := sumN f k + 2 * (k - 1)

theorem sumN_le {f : Nat → Nat} {n b : Nat} (h : ∀ j, j < n → f j ≤ b) : ∀ k, k ≤ n → sumN f k ≤ k * b
  | 0, _ => Nat.zero_le _
  | k + 1, hk => by
    have h1 := sumN_le h k (by omega)
    have h2 := h k (by omega)
    unfold sumN
    rw [Nat.add_mul, Nat.one_mul]
    omega

theorem sumN_small {f : Nat → Nat} {n : Nat} (h : ∀ j, j < n → f j ≤ 1023) (hn : n ≤ 60) {k : Nat} (hk : k ≤ n) : sumN f k ≤ 61380 := by
  have := sumN_le h k hk
  omega

theorem sumN_mono {f : Nat → Nat} : ∀ {i k : Nat}, i ≤ k → sumN f i ≤ sumN f k
  | i, 0, h => by rw [Nat.le_zero.1 h]; exact Nat.le_refl _
  | i, k + 1, h => by
    rcases Nat.lt_or_ge i (k + 1) with h1 | h1
    · exact Nat.le_trans (sumN_mono (Nat.le_of_lt_succ h1)) (Nat.le_add_right _ _)
    · rw [Nat.le_antisymm h h1]; exact Nat.le_refl _

theorem sumN_congr {f g : Nat → Nat} : ∀ {n : Nat}, (∀ j, j < n → f j = g j) → sumN f n = sumN g n
  | 0, _ => rfl
  | n + 1, h => by unfold sumN; rw [sumN_congr (fun j hj => h j (by omega)), h n (by omega)]

set_option maxHeartbeats 400000 in
theorem ref_total (A : Option Addr) (n c : Nat) (f : Nat → Nat) (w : World) (hA : Rd w A n (nv f)) (hf : ∀ j, j < n → f j ≤ 1023) (hn : n ≤ 60) :
    Calls Try.prog 12 #[.slice A n c] w fun e w' => e = .returned (.int .i64 (totN f n : Nat)) ∧ w = w' := by
  have HS := Lib.hid (fun k (hk : k ≤ n) => sumN_small hf hn hk)
  have HF := Lib.hid hf
  have HA := Lib.hid hA
  clear hf hA
  go_enter Try.func12, Try.ntmps12
  go_wp2
  go_loopw [3, 4] (fun a i wr => ∃ k t : Nat, k ≤ n ∧ i = .int .i64 k ∧ a = .int .i64 t ∧ Hid (t = totN f k) ∧ wr = w) (fun _ i _ => n - (intOf i).toNat)
  case atStart => exact ⟨0, 0, Nat.zero_le _, rfl, rfl, rfl, rfl⟩
  case round =>
    obtain ⟨k, t, hk, rfl, rfl, ht, rfl⟩ := hrel
    have hb := HS.out k hk
    have htb : t ≤ 61500 := by rw [ht.out]; unfold totN; omega
    by_cases hlt : k < n
    · obtain ⟨b, o, rfl, _, hc⟩ := HA.out k hlt
      obtain ⟨x, hx⟩ : ∃ x, f k = x := ⟨_, rfl⟩
      have hxb : x ≤ 1023 := by rw [← hx]; exact HF.out k hlt
      unfold nv at hc
      rw [hx] at hc
      have HX := Lib.hid hx
      clear hx hb
      by_cases h0 : 0 < k
      · have d0 : decide ((0 : Int) < (k : Int)) = true := decide_eq_true (by omega)
        go_wp2
        go_roundw
        case rel => exact ⟨k + 1, t + x + 2, by omega, by go_num, by go_num, (show t + x + 2 = totN f (k + 1) by rw [ht.out, ← HX.out]; unfold totN; rw [show sumN f (k + 1) = sumN f k + f k from rfl]; omega), trivial⟩
        case measure => simp [intOf]; omega
      · have d0 : decide ((0 : Int) < (k : Int)) = false := decide_eq_false (by omega)
        go_wp2
        go_roundw
        case rel => exact ⟨k + 1, t + x, by omega, by go_num, by go_num, (show t + x = totN f (k + 1) by rw [ht.out, ← HX.out]; unfold totN; rw [show sumN f (k + 1) = sumN f k + f k from rfl]; omega), trivial⟩
        case measure => simp [intOf]; omega
    · obtain rfl : k = n := by omega
      clear hb
      go_wp2
      go_ret
      exact ⟨congrArg (fun z : Nat => Ending.returned (.int .i64 (z : Int))) ht.out, rfl⟩

set_option maxHeartbeats 400000 in
theorem plan_total (r : Int) (A : Option Addr) (n c : Nat) (f : Nat → Nat) (w : World) (hA : Rd w A n (nv f)) (hf : ∀ j, j < n → f j ≤ 1023) (hn : n ≤ 60) :
    Calls Try.prog 11 #[.agg #[.int .i64 r, .slice A n c]] w fun e w' => e = .returned (.int .i64 (totN f n : Nat)) ∧ Below w.heap.size w w' := by
  have HS := Lib.hid (fun k (hk : k ≤ n) => sumN_small hf hn hk)
  have HF := Lib.hid hf
  have HA := Lib.hid (hA.later ((Below.refl _ _).alloc (Nat.le_refl _) (.cells #[.int .i64 r, .slice A n c] 24)))
  clear hf hA
  obtain ⟨m, hm⟩ : ∃ m, n - 1 = m := ⟨_, rfl⟩
  have hm2 : m ≤ n := by omega
  go_enter Try.func11, Try.ntmps11
  go_wp2
  all_goals
    refine at_world (fun X => X = w.alloc (.cells #[.int .i64 r, .slice A n c] 24)) rfl ?_
    intro W1 hW1
    have HW := Lib.hid hW1
    rw [← hW1] at HA
    clear hW1
    go_loopw [3, 15] (fun a i wr => ∃ k t : Nat, k ≤ n ∧ i = .int .i64 k ∧ a = .int .i64 t ∧ Hid (t = sumN f k + 2 * (n - 1)) ∧ wr = W1) (fun _ i _ => n - (intOf i).toNat)
    case atStart => exact ⟨0, 2 * (n - 1), Nat.zero_le _, rfl, (by congr 1; omega), (show 2 * (n - 1) = sumN f 0 + 2 * (n - 1) by rw [show sumN f 0 = 0 from rfl]; omega), rfl⟩
    case round =>
      obtain ⟨k, t, hk, rfl, rfl, ht, rfl⟩ := hrel
      have hb := HS.out k hk
      have htb : t ≤ 61500 := by rw [ht.out]; omega
      by_cases hlt : k < n
      · obtain ⟨b, o, rfl, _, hc⟩ := HA.out k hlt
        obtain ⟨x, hx⟩ : ∃ x, f k = x := ⟨_, rfl⟩
        have hxb : x ≤ 1023 := by rw [← hx]; exact HF.out k hlt
        unfold nv at hc
        rw [hx] at hc
        have HX := Lib.hid hx
        clear hx hb
        go_wp2
        go_roundw
        case rel => exact ⟨k + 1, t + x, by omega, by go_num, by go_num, (show t + x = sumN f (k + 1) + 2 * (n - 1) by rw [ht.out, ← HX.out, show sumN f (k + 1) = sumN f k + f k from rfl]; omega), trivial⟩
        case measure => simp [intOf]; omega
      · obtain rfl : k = n := by omega
        clear hb
        go_wp2
        go_ret
        exact ⟨congrArg (fun z : Nat => Ending.returned (.int .i64 (z : Int))) ht.out, by rw [HW.out]; exact (Below.refl _ _).alloc (Nat.le_refl _) _⟩
end Go.Proofs.Ytpelmbiogamcpaa
