/- diff: texts that are small; rows that are small. -/
import Derived.Test.YtednedklkbjihaaDoorDeI
import Derived.Test.YtednedklkbjihaaDoorDoD
import Derived.Test.YtednedklkbjihaaDoorDeF
namespace Go.Proofs.YtednedklkbjihaaDoor
open Go.RowKit
set_option linter.unusedVariables false
set_option linter.unusedSimpArgs false
set_option maxRecDepth 100000

/-- All texts are of at most B bytes. -/
def Tx (B : Nat) (F : Nat → Nat → Cl) : Prop := ∀ r c, (F r c).1.size ≤ B
theorem textL_len {B : Nat} {G : Nat → Cl} (h : ∀ c, (G c).1.size ≤ B) (a : Nat) : ∀ k, (textL G a k).length ≤ k * B
  | 0 => by simp [textL]
  | k + 1 => by
    have h1 := textL_len h a k
    have h2 := h (a + k)
    have e : ((G (a + k)).1.data.toList).length = (G (a + k)).1.size := by rw [Array.length_toList]; rfl
    simp only [textL, List.length_append]
    rw [e, Nat.succ_mul]
    omega
theorem short_of {B : Nat} {F F' : Nat → Nat → Cl} {n R : Nat} (h : Tx B F') (hn : n ≤ 9) (hB : B ≤ 1048576) : Short F F' n R := by
  intro r hr _ j hj
  have h1 := textL_len (h r) (diffN (F r) (F' r) n 0) j
  have h2 : j * B ≤ 9 * 1048576 := Nat.mul_le_mul (by omega) hB
  omega
theorem rowsD_small (F F' : Nat → Nat → Cl) (n : Nat) : ∀ k, ∀ d ∈ rowsD F F' n k, d.r ≤ k ∧ d.f ≤ n ∧ d.t ≤ n
  | 0, d, h => by simp [rowsD] at h
  | k + 1, d, h => by
    unfold rowsD at h
    rcases List.mem_append.1 h with h | h
    · have := rowsD_small F F' n k d h
      omega
    · split at h
      · rename_i hlt
        obtain rfl : d = _ := by simpa using h
        have := filledN_le (F' k) n
        exact ⟨by show k ≤ k + 1; omega, by show diffN _ _ _ _ ≤ n; omega, by show max _ _ ≤ n; omega⟩
      · simp at h
theorem opsS_sm (cols : Int) : ∀ (D : List Dr) (s : Os) (k : Nat), (∀ d ∈ D, Sm d) → SmO s k → SmO (opsS cols s D) (k + D.length)
  | [], s, k, _, h => h
  | d :: D, s, k, hd, h => by
    have h1 := opsS_sm cols D (opsNext cols s d) (k + 1) (fun x hx => hd x (List.mem_cons_of_mem _ hx)) (h.next (hd d (by simp)))
    have e : k + 1 + D.length = k + (d :: D).length := by simp only [List.length_cons]; omega
    rw [e] at h1
    exact h1
end Go.Proofs.YtednedklkbjihaaDoor
