/- utf: fed byte by byte, all scalars are told that can be. -/
import Derived.Test.YtpfldppoebgfgaaUtfWd
import Derived.Test.YtpfldppoebgfgaaUtfWl
namespace Go.Proofs.Ytpfldppoebgfgaa
open Go.RowKit
set_option linter.unusedVariables false
set_option linter.unusedSimpArgs false

theorem walk_UtfFeeds (s : ByteArray) (ws : s.size ≤ maxLen) (w : World) : Calls Try.prog 4 #[.string s] w (Yes w) := by
  by_cases h : s.size ≤ 300
  · exact feeds_walk s w awake_yes h (by simp; omega)
  · exact feeds_long s w awake_yes (by omega) (by simp; omega)

end Go.Proofs.Ytpfldppoebgfgaa
