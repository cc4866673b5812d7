/- slices.* at []rune,rune. -/
import Derived.Test.YtgdfcojgifgjcaaKit
import Derived.Test.YtgdfcojgifgjcaaSlC
import Derived.Handy
import Derived.Lib.AppendZerosOnto
namespace Go.Proofs.Ytgdfcojgifgjcaa
open Go.RowKit
set_option linter.unusedVariables false
set_option linter.unusedSimpArgs false

theorem slR_elt : Elt Try.prog 28 21 1 4 := elt_of Try.underlying28 (z := .int .i32 0) (by kernel_rfl) rfl (by decide)

end Go.Proofs.Ytgdfcojgifgjcaa
