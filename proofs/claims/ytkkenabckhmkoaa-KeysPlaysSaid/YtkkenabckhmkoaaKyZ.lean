/- keys: a scalar's bytes fed to a parser: pure. -/
import Derived.Test.YtkkenabckhmkoaaKyV
import Derived.Test.YtkkenabckhmkoaaKyW
import Derived.Test.YtkkenabckhmkoaaKyY
namespace Go.Proofs.Ytkkenabckhmkoaa
open Go.RowKit
set_option linter.unusedVariables false
set_option linter.unusedSimpArgs false
set_option maxRecDepth 100000

/-- The parser within a scalar. -/
def ksD (d : DS) : KS := ⟨0, d, false, ⟨#[]⟩, [], 0⟩
theorem feed_dec (d e : DS) (b : Int) (l : List Int) (hc : ctlB b = false) (h : stepD d b = (e, l)) : feedK (ksD d) b = (ksD e, charsK false l) := by
  unfold feedK ksD
  dsimp only
  rw [if_neg (by decide), if_neg (by decide), if_neg (by decide), if_neg (by decide)]
  unfold aloneK
  rw [if_neg (by rw [hc]; decide)]
  unfold decodeK
  rw [h]
  rfl
theorem ctl_no {b : Int} (h : 32 ≤ b) (h1 : b ≠ 127) : ctlB b = false := by
  unfold ctlB
  rw [decide_eq_false (by omega), Bool.false_or]
  simpa using h1
/-- Only the last byte of a scalar tells its key. -/
theorem feed_put (n : Int) (h0 : 32 ≤ n) (h1 : n ≠ 127) (hv : n < 55296 ∨ (57343 < n ∧ n ≤ 1114111)) :
    ∃ ss : Nat → DS, ss 0 = DS.zero ∧ ss (putI n).length = DS.zero ∧ ∀ (i : Nat) (b : Int), (putI n)[i]? = some b → feedK (ksD (ss i)) b = (ksD (ss (i + 1)), if i + 1 = (putI n).length then [⟨1, n, false, []⟩] else []) := by
  unfold putI
  by_cases c1 : n < 128
  · rw [if_pos c1]
    refine ⟨fun _ => DS.zero, rfl, rfl, fun i b hb => ?_⟩
    obtain rfl : i = 0 := by have := (List.getElem?_eq_some_iff.1 hb).1; simp at this; omega
    obtain rfl : n = b := by simpa using hb
    exact feed_dec _ _ _ _ (ctl_no h0 h1) (put1 (by omega) c1)
  rw [if_neg c1]
  by_cases c2 : n < 2048
  · rw [if_pos c2]
    obtain ⟨a1, a2⟩ := put2 (n := n) (by omega) c2
    refine ⟨fun i => if i = 1 then ⟨192 + n / 64, 0, 0, 1⟩ else DS.zero, rfl, rfl, fun i b hb => ?_⟩
    have hi := (List.getElem?_eq_some_iff.1 hb).1
    simp only [List.length_cons, List.length_nil] at hi
    obtain rfl | rfl : i = 0 ∨ i = 1 := by omega
    · obtain rfl : 192 + n / 64 = b := by simpa using hb
      exact feed_dec _ _ _ _ (ctl_no (by omega) (by omega)) a1
    · obtain rfl : 128 + n % 64 = b := by simpa using hb
      exact feed_dec _ _ _ _ (ctl_no (by omega) (by omega)) a2
  rw [if_neg c2]
  by_cases c3 : n < 65536
  · rw [if_pos c3]
    obtain ⟨a1, a2, a3⟩ := put3 (n := n) (by omega) c3 (by omega)
    refine ⟨fun i => if i = 1 then ⟨224 + n / 4096, 0, 0, 1⟩ else if i = 2 then ⟨224 + n / 4096, 128 + n / 64 % 64, 0, 2⟩ else DS.zero, rfl, rfl, fun i b hb => ?_⟩
    have hi := (List.getElem?_eq_some_iff.1 hb).1
    simp only [List.length_cons, List.length_nil] at hi
    obtain rfl | rfl | rfl : i = 0 ∨ i = 1 ∨ i = 2 := by omega
    · obtain rfl : 224 + n / 4096 = b := by simpa using hb
      exact feed_dec _ _ _ _ (ctl_no (by omega) (by omega)) a1
    · obtain rfl : 128 + n / 64 % 64 = b := by simpa using hb
      exact feed_dec _ _ _ _ (ctl_no (by omega) (by omega)) a2
    · obtain rfl : 128 + n % 64 = b := by simpa using hb
      exact feed_dec _ _ _ _ (ctl_no (by omega) (by omega)) a3
  rw [if_neg c3]
  obtain ⟨a1, a2, a3, a4⟩ := put4 (n := n) (by omega) (by omega)
  refine ⟨fun i => if i = 1 then ⟨240 + n / 262144, 0, 0, 1⟩ else if i = 2 then ⟨240 + n / 262144, 128 + n / 4096 % 64, 0, 2⟩ else if i = 3 then ⟨240 + n / 262144, 128 + n / 4096 % 64, 128 + n / 64 % 64, 3⟩ else DS.zero, rfl, rfl, fun i b hb => ?_⟩
  have hi := (List.getElem?_eq_some_iff.1 hb).1
  simp only [List.length_cons, List.length_nil] at hi
  obtain rfl | rfl | rfl | rfl : i = 0 ∨ i = 1 ∨ i = 2 ∨ i = 3 := by omega
  · obtain rfl : 240 + n / 262144 = b := by simpa using hb
    exact feed_dec _ _ _ _ (ctl_no (by omega) (by omega)) a1
  · obtain rfl : 128 + n / 4096 % 64 = b := by simpa using hb
    exact feed_dec _ _ _ _ (ctl_no (by omega) (by omega)) a2
  · obtain rfl : 128 + n / 64 % 64 = b := by simpa using hb
    exact feed_dec _ _ _ _ (ctl_no (by omega) (by omega)) a3
  · obtain rfl : 128 + n % 64 = b := by simpa using hb
    exact feed_dec _ _ _ _ (ctl_no (by omega) (by omega)) a4
end Go.Proofs.Ytkkenabckhmkoaa
