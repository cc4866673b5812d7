/- grid: the document's Same; the law's Same. -/
import Derived.Test.YtednedklkbjihaaGdH

namespace Go.Proofs.Ytednedklkbjihaa

open Go.RowKit

set_option linter.unusedVariables false

set_option linter.unusedSimpArgs false

theorem RG.drewN {w : World} {lo hi ob Co R n : Nat} {rb Cr : Nat → Nat} {F : Nat → Nat → Cl} (h : RG w lo hi ob Co R n rb Cr F) (q : Nat) : RG (w.drewN q) lo hi ob Co R n rb Cr F :=
  ⟨h.out, h.rows, h.wf, h.o0, h.o1, h.o2, h.b1, h.inj, h.r1, h.r2, h.n1, h.n2, h.cap, h.caps⟩

end Go.Proofs.Ytednedklkbjihaa
