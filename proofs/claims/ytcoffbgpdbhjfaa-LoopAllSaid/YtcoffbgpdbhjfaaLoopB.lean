/- loop: '==' on events. -/
import Derived.Test.YtcoffbgpdbhjfaaLoopA
namespace Go.Proofs.Ytcoffbgpdbhjfaa
open Go.RowKit
set_option linter.unusedVariables false
set_option linter.unusedSimpArgs false

theorem eq_evt (a b : Evt) (w : World) : (Op.equalIn 10000 23 (ev a) (ev b)).run Try.prog w = .ok (decide (a = b)) w := by
  rw [show (10000 : Nat) = 9999 + 1 from rfl, run_equalIn_agg w 9999 23 _ _ (by kernel_rfl) (by kernel_rfl)]
  simp only [Program.fieldsOf, Try.underlying23]
  have u3 := Try.underlying3
  have u4 := Try.underlying5
  have a3 := Try.isAgg3
  have a4 := Try.isAgg5
  have z3 := Try.sizeOf3
  have z4 := Try.sizeOf5
  obtain ⟨k, x, r, c⟩ := a
  obtain ⟨k', x', r', c'⟩ := b
  go_simp
  by_cases h1 : k = k' <;> by_cases h2 : x = x' <;> by_cases h3 : r = r' <;> by_cases h4 : c = c' <;> simp [h1, h2, h3, h4]

theorem eql_evt (a b : Evt) (w : World) : (Go.binOp .eql 23 (ev a) (ev b)).run Try.prog w = .ok (.bool (decide (a = b))) w := by
  rw [run_eql_struct, eq_evt]
  rfl
theorem neq_evt (a b : Evt) (w : World) : (Go.binOp .neq 23 (ev a) (ev b)).run Try.prog w = .ok (.bool (!decide (a = b))) w := by
  rw [run_neq_struct, eq_evt]
  rfl
end Go.Proofs.Ytcoffbgpdbhjfaa
