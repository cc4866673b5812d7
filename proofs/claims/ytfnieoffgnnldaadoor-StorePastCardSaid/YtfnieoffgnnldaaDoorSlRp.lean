/- slices.* at []rune,rune. -/
import Derived.Test.YtfnieoffgnnldaaDoorKit
import Derived.Test.YtfnieoffgnnldaaDoorSlC
import Derived.Handy
import Derived.Lib.AppendZerosOnto
namespace Go.Proofs.YtfnieoffgnnldaaDoor
open Go.RowKit
set_option linter.unusedVariables false
set_option linter.unusedSimpArgs false

theorem slR_elt : Elt Tryd.prog 22 21 1 4 := elt_of Tryd.underlying22 (z := .int .i32 0) (by kernel_rfl) rfl (by decide)

end Go.Proofs.YtfnieoffgnnldaaDoor
