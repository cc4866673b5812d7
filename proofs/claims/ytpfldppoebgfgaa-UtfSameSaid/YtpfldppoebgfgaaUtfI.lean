/- utf: two decoders that were fed the same are the same. -/
import Derived.Test.YtpfldppoebgfgaaUtfY
import Derived.Test.YtpfldppoebgfgaaUtfL
namespace Go.Proofs.Ytpfldppoebgfgaa
open Go.RowKit
set_option linter.unusedVariables false
set_option linter.unusedSimpArgs false

theorem walk_UtfSame (s : ByteArray) (ws : s.size ≤ maxLen) (b : Int) (wb : (Lit.int .u8 b).wf = true) (w : World) :
    Calls Try.prog 8 #[.string s, .int .u8 b] w (Yes w) := by
  have b0 : 0 ≤ b := by have h := wb; simp [Lit.wf, IntKind.min, IntKind.max, IntKind.bits, IntKind.signed] at h; omega
  have b1 : b ≤ 255 := by have h := wb; simp [Lit.wf, IntKind.min, IntKind.max, IntKind.bits, IntKind.signed] at h; omega
  by_cases h : s.size ≤ 300
  · exact same_walk s b w awake_yes b0 b1 h (by simp; omega)
  · exact same_long s b w awake_yes b0 b1 (by omega) (by simp; omega)

end Go.Proofs.Ytpfldppoebgfgaa
