/- grid: '==' on cells; Same. -/
import Derived.Test.YtednedklkbjihaaDoorGeD

namespace Go.Proofs.YtednedklkbjihaaDoor

open Go.RowKit

set_option linter.unusedVariables false

set_option linter.unusedSimpArgs false
set_option maxRecDepth 100000

theorem eq_cl (a b : Cl) (w : World) : (Op.equalIn 10000 102 (clV a) (clV b)).run Tryd.prog w = .ok (decide (a = b)) w := by
  rw [show (10000 : Nat) = 9999 + 1 from rfl, run_equalIn_agg w 9999 102 _ _ (by kernel_rfl) (by kernel_rfl)]
  simp only [Program.fieldsOf, Tryd.underlying102]
  have u3 := Tryd.underlying3
  have u4 := Tryd.underlying9
  have a3 := Tryd.isAgg3
  have a4 := Tryd.isAgg9
  have z3 := Tryd.sizeOf3
  have z4 := Tryd.sizeOf9
  obtain ⟨s, n⟩ := a
  obtain ⟨s', n'⟩ := b
  go_simp
  have ht : s.toList = s'.toList ↔ s = s' := by rw [ByteArray.toList_eq, ByteArray.toList_eq]; exact ⟨WideShapes.bytes_inj, fun e => e ▸ rfl⟩
  by_cases h1 : s = s' <;> by_cases h2 : n = n' <;> simp [ht, h1, h2]
theorem eql_cl (a b : Cl) (w : World) : (Go.binOp .eql 102 (clV a) (clV b)).run Tryd.prog w = .ok (.bool (decide (a = b))) w := by
  rw [run_eql_struct, eq_cl]
  rfl
theorem neq_cl (a b : Cl) (w : World) : (Go.binOp .neq 102 (clV a) (clV b)).run Tryd.prog w = .ok (.bool (!decide (a = b))) w := by
  rw [run_neq_struct, eq_cl]
  rfl
theorem eq_clR (a b : Cl) (w : World) : (Op.equalIn 10000 97 (clV a) (clV b)).run Tryd.prog w = .ok (decide (a = b)) w := by
  rw [show (10000 : Nat) = 9999 + 1 from rfl, run_equalIn_agg w 9999 97 _ _ (by kernel_rfl) (by kernel_rfl)]
  simp only [Program.fieldsOf, Tryd.underlying97]
  have u3 := Tryd.underlying3
  have u4 := Tryd.underlying9
  have a3 := Tryd.isAgg3
  have a4 := Tryd.isAgg9
  have z3 := Tryd.sizeOf3
  have z4 := Tryd.sizeOf9
  obtain ⟨s, n⟩ := a
  obtain ⟨s', n'⟩ := b
  go_simp
  have ht : s.toList = s'.toList ↔ s = s' := by rw [ByteArray.toList_eq, ByteArray.toList_eq]; exact ⟨WideShapes.bytes_inj, fun e => e ▸ rfl⟩
  by_cases h1 : s = s' <;> by_cases h2 : n = n' <;> simp [ht, h1, h2]
theorem neq_clR (a b : Cl) (w : World) : (Go.binOp .neq 97 (clV a) (clV b)).run Tryd.prog w = .ok (.bool (!decide (a = b))) w := by
  rw [run_neq_struct, eq_clR]
  rfl

/-- Two rows, two grids, the same? -/
def agreeR (G H : Nat → Cl) (n : Nat) : Bool := (List.range n).all fun c => decide (G c = H c)
def agreeG (F H : Nat → Nat → Cl) (R n : Nat) : Bool := (List.range R).all fun r => agreeR (F r) (H r) n
theorem agreeR_yes {G H : Nat → Cl} {n : Nat} : agreeR G H n = true ↔ ∀ c, c < n → G c = H c := by simp [agreeR]
theorem agreeG_yes {F H : Nat → Nat → Cl} {R n : Nat} : agreeG F H R n = true ↔ ∀ r, r < R → agreeR (F r) (H r) n = true := by simp [agreeG]
theorem agreeR_no {G H : Nat → Cl} {n c : Nat} (hc : c < n) (h : G c ≠ H c) : agreeR G H n = false := by
  rw [Bool.eq_false_iff]; intro e; exact h (agreeR_yes.1 e c hc)
theorem agreeG_no {F H : Nat → Nat → Cl} {R n r : Nat} (hr : r < R) (h : agreeR (F r) (H r) n = false) : agreeG F H R n = false := by
  rw [Bool.eq_false_iff]; intro e; rw [agreeG_yes.1 e r hr] at h; cases h

end Go.Proofs.YtednedklkbjihaaDoor
