/- slices: sums of lengths, lists one behind the other. -/
import Derived.Test.YtfnieoffgnnldaaDoorKit
namespace Go.Proofs.YtfnieoffgnnldaaDoor
open Go.RowKit
set_option linter.unusedVariables false
set_option linter.unusedSimpArgs false

def sumTo (n : Nat → Nat) : Nat → Nat
  | 0 => 0
  | k + 1 => sumTo n k + n k
def catTo (n : Nat → Nat) (f : Nat → Nat → Value) : Nat → List Value
  | 0 => []
  | k + 1 => catTo n f k ++ (List.range (n k)).map (f k)
theorem catTo_length (n : Nat → Nat) (f : Nat → Nat → Value) : ∀ k, (catTo n f k).length = sumTo n k
  | 0 => rfl
  | k + 1 => by simp [catTo, sumTo, catTo_length n f k]
theorem sumTo_le (n : Nat → Nat) (k : Nat) : ∀ d, sumTo n k ≤ sumTo n (k + d)
  | 0 => Nat.le_refl _
  | d + 1 => Nat.le_trans (sumTo_le n k d) (by show _ ≤ sumTo n (k + d) + n (k + d); omega)
theorem sumTo_mono (n : Nat → Nat) {k m : Nat} (h : k ≤ m) : sumTo n k ≤ sumTo n m := by
  obtain ⟨d, rfl⟩ := Nat.le.dest h
  exact sumTo_le n k d

/-- The first place at which two lists differ, from k on. -/
def agree (p q : Nat → Int) (n : Nat) : Bool := (List.range n).all fun j => p j == q j


end Go.Proofs.YtfnieoffgnnldaaDoor
