/- script: the tables that are laid. -/
import Derived.Test.YtjkhkohlejkdlaaDoorScU
import Derived.Test.YtjkhkohlejkdlaaDoorRows
import Derived.Test.YtjkhkohlejkdlaaDoorArgS
import Derived.LaidMore
import Derived.Lib.LaidTab
import Derived.Stop.LaidErr
namespace Go.Proofs.YtjkhkohlejkdlaaDoor
open Go.ChangeShapes Go.WideShapes Go.ChangeAt Go.RowKit Go.Deep
set_option linter.unusedVariables false
set_option linter.unusedSimpArgs false
abbrev laidL : List (String × DataW Unit) := [("math/bits.deBruijn32tab", Rows.laid_math_bits_deBruijn32tab), ("math/bits.deBruijn64tab", Rows.laid_math_bits_deBruijn64tab), ("internal/strconv.uint64pow10", Rows.laid_internal_strconv_uint64pow10)]
theorem door_met (os : Os) (args : Array Value) : laidMetH Tryd.prog laidL ((World.doorLaid Tryd.prog 24 os).forCall (fun _ _ => 0) ⟨#[], args, []⟩).memory :=
  laidMetH_of_parts3 (fuel := 8) (laidMet_of_run' 8 (by kernel_rfl) (by kernel_rfl)) (by kernel_rfl) (by kernel_rfl)
theorem tab_laid {W : World} (h : laidMetH Tryd.prog laidL W) : TabW W.heap.size W := by
  rw [MakeChecks.laidMetH_plain _ _ _ (by kernel_rfl)] at h
  have h2 := h.tail.tail
  have hg : ∃ g, Tryd.prog.globalNamed "internal/strconv.uint64pow10" = some g ∧ (Tryd.prog.globals[g]?).map (·.type) = some 86 := by
    have e : ((Tryd.prog.globalNamed "internal/strconv.uint64pow10").bind fun g => (Tryd.prog.globals[g]?).map (·.type)) = some 86 := by kernel_rfl
    obtain ⟨g, h1, h2⟩ := Option.bind_eq_some_iff.1 e
    exact ⟨g, h1, h2⟩
  obtain ⟨g, hg1, hg2⟩ := hg
  have hT : Lib.TabIs Tryd.prog W "internal/strconv.uint64pow10" .u64 Lib.pow10Tab := Lib.tabIs_of_head (g := g) (t := 86) (e := 79) (n := 20) (rest := []) hg1 hg2 Tryd.underlying86 Tryd.underlying79 (by kernel_rfl) (by kernel_rfl) h2
  exact Lib.tabBelow_of_tabIs hT
end Go.Proofs.YtjkhkohlejkdlaaDoor
