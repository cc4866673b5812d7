/- slices.* at []rune,rune. -/
import Derived.Test.YtfnieoffgnnldaaDoorSame
import Derived.Test.YtfnieoffgnnldaaDoorSlC
import Derived.Handy
import Derived.Lib.AppendZerosOnto
namespace Go.Proofs.YtfnieoffgnnldaaDoor
open Go.RowKit
set_option linter.unusedVariables false
set_option linter.unusedSimpArgs false

theorem slE_elt : Elt Tryd.prog 22 21 1 4 := elt_of Tryd.underlying22 (z := .int .i32 0) (by kernel_rfl) rfl (by decide)

/-! ### Equal -/
set_option maxHeartbeats 1000000 in
theorem slE_equal_len (A B : Option Addr) (n m c d : Nat) (w : World) (hn : n ≤ 9223372036854775807) (hm : m ≤ 9223372036854775807) (hne : n ≠ m) :
    Calls Tryd.prog 49 #[.slice A n c, .slice B m d] w fun e w' => e = .returned (.bool false) ∧ ∃ q, w' = w.drewN q := by
  have h1 : (((n : Int) == (m : Int))) = false := by simp; omega
  have h2 : (((n : Int) != (m : Int))) = true := by simp; omega
  go_enter Tryd.func49, Tryd.ntmps49
  go_wp2
  go_ret
  exact ⟨rfl, 0, rfl⟩

set_option maxHeartbeats 1000000 in
theorem slE_equal_at (A B : Option Addr) (n c d : Nat) (p q : Nat → Int) (w : World) (hn : n ≤ 9223372036854775807) (hA : Rd w A n (iv p)) (hB : Rd w B n (iv q)) :
    Calls Tryd.prog 49 #[.slice A n c, .slice B n d] w fun e w' => e = .returned (.bool (agree p q n)) ∧ ∃ r, w' = w.drewN r := by
  have h1 : (((n : Int) == (n : Int))) = true := by simp
  have h2 : (((n : Int) != (n : Int))) = false := by simp
  go_enter Tryd.func49, Tryd.ntmps49
  go_wp2
  go_loopw [5, 13] (fun u i wr => ∃ k : Nat, k ≤ n ∧ i = .int .i64 k ∧ Hid (∀ j, j < k → p j = q j) ∧ ∃ r, wr = w.drewN r) (fun _ i _ => n - (intOf i).toNat)
  case atStart => exact ⟨0, Nat.zero_le _, rfl, fun j h => absurd h (by omega), 0, rfl⟩
  case round =>
    obtain ⟨k, hk, rfl, HE, r, rfl⟩ := hrel
    by_cases hlt : k < n
    · obtain ⟨a, i, rfl, _, ha⟩ := hA k hlt
      obtain ⟨b, j, rfl, _, hb⟩ := hB k hlt
      unfold iv at ha hb
      by_cases he : p k = q k
      · have h3 : ((p k == q k)) = true := by simp [he]
        have h4 : ((p k != q k)) = false := by simp [he]
        have H4 := Lib.hid he
        clear hA hB he
        go_wp2
        go_quiet (fail)
        go_wp2
        go_roundw
        case rel => exact ⟨k + 1, by omega, by go_num, fun j hj => (by by_cases e : j = k; (· subst e; exact H4.out); (· exact HE.out j (by omega))), _, rfl⟩
        case measure => simp [intOf]; omega
      · have h3 : ((p k == q k)) = false := by simp [he]
        have h4 : ((p k != q k)) = true := by simp [he]
        have hf : agree p q n = false := by
          rw [Bool.eq_false_iff]
          intro h
          exact he (by simpa using List.all_eq_true.1 h k (List.mem_range.2 hlt))
        have HF := Lib.hid hf
        clear hA hB hf
        go_wp2
        go_quiet (fail)
        go_wp2
        go_ret
        rw [HF.out]
        exact ⟨rfl, _, World.drewN_drewN _ _ _⟩
    · have ht : agree p q n = true := List.all_eq_true.2 fun j hj => by simpa using HE.out j (by have := List.mem_range.1 hj; omega)
      have HT := Lib.hid ht
      clear ht
      go_wp2
      go_ret
      rw [HT.out]
      exact ⟨rfl, _, rfl⟩

end Go.Proofs.YtfnieoffgnnldaaDoor
