/- slices.* at []rune,rune. -/
import Derived.Test.YtmhjhndnbgabjaaKit
import Derived.Test.YtmhjhndnbgabjaaSlC
import Derived.Handy
import Derived.Lib.AppendZerosOnto
namespace Go.Proofs.Ytmhjhndnbgabjaa
open Go.RowKit
set_option linter.unusedVariables false
set_option linter.unusedSimpArgs false

theorem slR_elt : Elt Try.prog 24 21 1 4 := elt_of Try.underlying24 (z := .int .i32 0) (by kernel_rfl) rfl (by decide)

end Go.Proofs.Ytmhjhndnbgabjaa
