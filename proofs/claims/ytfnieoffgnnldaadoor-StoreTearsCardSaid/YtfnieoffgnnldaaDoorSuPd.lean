/- utf: the document's Encode. -/
import Derived.Test.YtfnieoffgnnldaaDoorSuPc
namespace Go.Proofs.YtfnieoffgnnldaaDoor
open Go.RowKit
set_option linter.unusedVariables false
set_option linter.unusedSimpArgs false

/-- The first k. -/
def upTo (p : Nat → Int) (k : Nat) : List Int := (List.range k).map p
theorem upTo_succ (p : Nat → Int) (k : Nat) : upTo p (k + 1) = upTo p k ++ [p k] := by simp [upTo, List.range_succ]
theorem enc_succ (p : Nat → Int) (k : Nat) : encI (upTo p (k + 1)) = encI (upTo p k) ++ putS (p k) := by
  rw [upTo_succ, encI_append]; simp [encI]
theorem upTo_len (p : Nat → Int) (k : Nat) : (upTo p k).length = k := by simp [upTo]
theorem str_append (a b : List Int) : strOfNums a ++ strOfNums b = strOfNums (a ++ b) := by
  apply ByteArray.ext
  simp [strOfNums]

/-- The text that is told, and what it is told in. -/
def TellsS (l : List Int) (w : World) (e : Ending) (w' : World) : Prop := e = .returned (.string (strOfNums l)) ∧ Below w.heap.size w w'

end Go.Proofs.YtfnieoffgnnldaaDoor
