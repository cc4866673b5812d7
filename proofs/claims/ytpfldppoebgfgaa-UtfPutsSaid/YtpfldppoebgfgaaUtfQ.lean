/- utf: '==' on two decoder's states. -/
import Derived.Test.YtpfldppoebgfgaaUtfF
namespace Go.Proofs.Ytpfldppoebgfgaa
open Go.RowKit
set_option linter.unusedVariables false
set_option linter.unusedSimpArgs false

theorem eq_dec (a b c n : Int) (w : World) : (Op.equalIn 10000 29 (.agg #[.int .u8 a, .int .u8 b, .int .u8 c, .int .i64 n]) (.agg #[.int .u8 a, .int .u8 b, .int .u8 c, .int .i64 n])).run Try.prog w = .ok true w := by
  rw [show (10000 : Nat) = 9999 + 1 from rfl, run_equalIn_agg w 9999 29 _ _ (by kernel_rfl) (by kernel_rfl)]
  simp only [Program.fieldsOf, Try.underlying29]
  have u3 := Try.underlying3
  have u4 := Try.underlying5
  have a3 := Try.isAgg3
  have a4 := Try.isAgg5
  have z3 := Try.sizeOf3
  have z4 := Try.sizeOf5
  have ua := Try.underlying27
  have aa := Try.isAgg27
  have za := Try.sizeOf27
  go_simp
  have h : ∀ w, (Op.equalIn 9999 27 (.agg #[.int .u8 a, .int .u8 b, .int .u8 c]) (.agg #[.int .u8 a, .int .u8 b, .int .u8 c])).run Try.prog w = .ok true w := by
    intro w
    rw [show (9999 : Nat) = 9998 + 1 from rfl, Op.equalIn]
    simp only [Sem.run_bind, run_underlying ua, Result.andThen_ok]
    simp only [Std.Legacy.Range.forIn_eq_forIn_range', Std.Legacy.Range.size, Nat.sub_zero, Nat.add_sub_cancel, Nat.div_one, List.range'_succ, List.range'_zero, List.forIn_cons, List.forIn_nil]
    go_simp
  simp [h]

theorem eql_dec (a b c n : Int) (w : World) : (Go.binOp .eql 29 (.agg #[.int .u8 a, .int .u8 b, .int .u8 c, .int .i64 n]) (.agg #[.int .u8 a, .int .u8 b, .int .u8 c, .int .i64 n])).run Try.prog w = .ok (.bool true) w := by
  rw [run_eql_struct, eq_dec]
  rfl
end Go.Proofs.Ytpfldppoebgfgaa
