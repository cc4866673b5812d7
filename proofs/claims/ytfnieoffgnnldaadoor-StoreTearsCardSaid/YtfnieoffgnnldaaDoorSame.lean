/- typebarref01.Same: two slices of scalars are held against each other. -/
import Derived.Test.YtfnieoffgnnldaaDoorKit
namespace Go.Proofs.YtfnieoffgnnldaaDoor
open Go.RowKit
set_option linter.unusedVariables false
set_option linter.unusedSimpArgs false

/-- The ints are a's. -/
def iv (p : Nat → Int) (j : Nat) : Value := .int .i32 (p j)

set_option maxHeartbeats 400000 in
theorem same_no (A B : Option Addr) (n m c d : Nat) (w : World) (hn : n ≤ 9223372036854775807) (hm : m ≤ 9223372036854775807) (hne : n ≠ m) :
    Calls Tryd.prog 34 #[.slice A n c, .slice B m d] w fun e w' => e = .returned (.bool false) ∧ w = w' := by
  have h1 : (((n : Int) == (m : Int))) = false := by simp; omega
  have h2 : (((n : Int) != (m : Int))) = true := by simp; omega
  go_enter Tryd.func34, Tryd.ntmps34
  go_wp2
  go_ret
  exact ⟨rfl, rfl⟩

set_option maxHeartbeats 400000 in
theorem same_yes (A B : Option Addr) (n c d : Nat) (p : Nat → Int) (w : World) (hn : n ≤ 9223372036854775807) (hA : Rd w A n (iv p)) (hB : Rd w B n (iv p)) :
    Calls Tryd.prog 34 #[.slice A n c, .slice B n d] w fun e w' => e = .returned (.bool true) ∧ ∃ k, w' = w.drewN k := by
  have h1 : (((n : Int) == (n : Int))) = true := by simp
  have h2 : (((n : Int) != (n : Int))) = false := by simp
  go_enter Tryd.func34, Tryd.ntmps34
  go_wp2
  go_loopw [5] (fun i wr => ∃ k : Nat, k ≤ n ∧ i = .int .i64 k ∧ ∃ q, wr = w.drewN q) (fun i _ => n - (intOf i).toNat)
  case atStart => exact ⟨0, Nat.zero_le _, rfl, 0, rfl⟩
  case round =>
    obtain ⟨k, hk, rfl, q, rfl⟩ := hrel
    by_cases hlt : k < n
    · obtain ⟨a, i, rfl, _, ha⟩ := hA k hlt
      obtain ⟨b, j, rfl, _, hb⟩ := hB k hlt
      have h3 : ((p k == p k)) = true := by simp
      have h4 : ((p k != p k)) = false := by simp
      unfold iv at ha hb
      clear hA hB
      go_wp2
      go_quiet (fail)
      go_wp2
      go_roundw
      case rel => exact ⟨k + 1, by omega, by go_num, _, rfl⟩
      case measure => simp [intOf]; omega
    · go_wp2
      go_ret
      exact ⟨rfl, _, rfl⟩

end Go.Proofs.YtfnieoffgnnldaaDoor
