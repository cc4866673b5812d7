/-
  No cell of these rows narrows 'for every input' (looked for: loops, veiled, ifaces, maps, wideKeys, modest, calm, conditions, laid).
  DERIVED. THE GIVEN ROWS OF THIS SEAT. 3 by the template 'for every input the law returns true; each argument reads behind the call as it read before'; 0 by the template 'total and deterministic' (their statements: YtpelmbiogamcpaaTotals.lean).
  GIVEN WITH THE SEED: the statements are not yours to turn. If you find one false, say at which input.
  Laid BY PROGRAM, IN A SANDBOX (cutbox-rows.mjs): the forced cells as the released guide's own fill.sh prints them over the translation a875a2ab793bca9d… (all of the seat's roots in one cut). By AI agents, Wed Nov 11 2026. No macro, syntax, notation, axiom, sorry.
-/
import Derived.Test.YtpelmbiogamcpaaChecked
import GoSem.Claim
import GoSem.ClaimJoined
import GoSem.ClaimMapViews
import Derived.JoinedTies
import Derived.KernelRfl
namespace Go.Proofs.Ytpelmbiogamcpaa
/- THE CELL 'sum', in the pinned program and in every row, IS THE sha256 OF THE DUMP (.gsa) THAT YtpelmbiogamcpaaProg.lean LOADS. Nothing in Lean hashes anything: it is a label: what it is worth is what the hold of that sum in a sandbox is worth. -/
noncomputable def Try.pinned : Pinned := { name := "ytpelmbiogamcpaa", sum := "a875a2ab793bca9d032065a093e4d037264e3496540c04a26dfbfe32288b2df8", checked := Try.checked }
namespace Rows
def none {H : Type} : Left H := { results := [], args := [] }

/-- 'typebarlaw45.ColumnsGo': WHATEVER THE INPUT: true; the input reads as it did. -/
def columnsGoSpec : ChangeSpec := { name := "columnsGo", fn := fun _ => fun
  | [d1, d2, d3, d4] => { results := [.lit (.bool true)], args := [d1, d2, d3, d4] }
  | _ => none }
def columnsGoRow : OpenClaim := { program := "ytpelmbiogamcpaa", sum := "a875a2ab793bca9d032065a093e4d037264e3496540c04a26dfbfe32288b2df8", func := "typebar/typebarlaw45.ColumnsGo", spec := "columnsGo", apart := false }
def ColumnsGoSaid : Prop := columnsGoRow.holds Try.pinned (OpenSpec.ofChange columnsGoSpec)

/-- ITS FALSE NEIGHBOUR: 'it returns false'. Refute it at one input. -/
def columnsGoWrong : ChangeSpec := { name := "columnsGo", fn := fun _ => fun
  | [d1, d2, d3, d4] => { results := [.lit (.bool false)], args := [d1, d2, d3, d4] }
  | _ => none }
def ColumnsGoWrongFalsely : Prop := columnsGoRow.holds Try.pinned (OpenSpec.ofChange columnsGoWrong)

/-- 'typebarlaw45.ColumnsFew': WHATEVER THE INPUT: true; the input reads as it did. -/
def columnsFewSpec : ChangeSpec := { name := "columnsFew", fn := fun _ => fun
  | [d1, d2] => { results := [.lit (.bool true)], args := [d1, d2] }
  | _ => none }
def columnsFewRow : OpenClaim := { program := "ytpelmbiogamcpaa", sum := "a875a2ab793bca9d032065a093e4d037264e3496540c04a26dfbfe32288b2df8", func := "typebar/typebarlaw45.ColumnsFew", spec := "columnsFew", apart := false }
def ColumnsFewSaid : Prop := columnsFewRow.holds Try.pinned (OpenSpec.ofChange columnsFewSpec)

/-- ITS FALSE NEIGHBOUR: 'it returns false'. Refute it at one input. -/
def columnsFewWrong : ChangeSpec := { name := "columnsFew", fn := fun _ => fun
  | [d1, d2] => { results := [.lit (.bool false)], args := [d1, d2] }
  | _ => none }
def ColumnsFewWrongFalsely : Prop := columnsFewRow.holds Try.pinned (OpenSpec.ofChange columnsFewWrong)

/-- 'typebarlaw45.ColumnsFit': WHATEVER THE INPUT: true; the input reads as it did. -/
def columnsFitSpec : ChangeSpec := { name := "columnsFit", fn := fun _ => fun
  | [d1, d2] => { results := [.lit (.bool true)], args := [d1, d2] }
  | _ => none }
def columnsFitRow : OpenClaim := { program := "ytpelmbiogamcpaa", sum := "a875a2ab793bca9d032065a093e4d037264e3496540c04a26dfbfe32288b2df8", func := "typebar/typebarlaw45.ColumnsFit", spec := "columnsFit", apart := false }
def ColumnsFitSaid : Prop := columnsFitRow.holds Try.pinned (OpenSpec.ofChange columnsFitSpec)

/-- ITS FALSE NEIGHBOUR: 'it returns false'. Refute it at one input. -/
def columnsFitWrong : ChangeSpec := { name := "columnsFit", fn := fun _ => fun
  | [d1, d2] => { results := [.lit (.bool false)], args := [d1, d2] }
  | _ => none }
def ColumnsFitWrongFalsely : Prop := columnsFitRow.holds Try.pinned (OpenSpec.ofChange columnsFitWrong)

/- THE SECOND FORM. 'bulk': how many values and letters a reading holds, each counted each time it is reached (what is shared counts as often as it is met; a slice's spare places count too). A statement '..UptoSaid' is the law's where the arguments, and the package variables that the reading takes, are together of bulk at most 1048576: NARROWER than '..Said'. Prove '..Said' where nothing that the law and all that it calls make is longer than what came in: it says more and counts as full. Else prove '..UptoSaid'. A law counts once. -/
mutual
def uptoBulk {H : Type} : DataW H → Nat
  | .lit (.string bytes) => bytes.length + 1
  | .lit _ => 1
  | .nil => 1
  | .ptr d => uptoBulk d + 1
  | .slice elems spare => uptoBulkAll elems + uptoBulkAll spare + 1
  | .agg parts => uptoBulkAll parts + 1
  | .iface _ d => uptoBulk d + 1
  | .map entries => uptoBulkEntries entries + 1
  | .held _ => 1
def uptoBulkAll {H : Type} : List (DataW H) → Nat
  | [] => 0
  | d :: r => uptoBulk d + uptoBulkAll r
def uptoBulkEntries {H : Type} : List (Lit × DataW H) → Nat
  | [] => 0
  | x :: r => uptoBulkEntry x + uptoBulkEntries r
def uptoBulkEntry {H : Type} : Lit × DataW H → Nat
  | (.string bytes, d) => bytes.length + uptoBulk d + 1
  | (_, d) => uptoBulk d + 1
 end
def uptoSmall : (H : Type) → List (DataW H) → Bool := fun _ ds => decide (uptoBulkAll ds ≤ 1048576)
def OpenSpec.upto (s : _root_.Go.ChangeSpec) : _root_.Go.OpenSpec := { _root_.Go.OpenSpec.ofChange s with cond := some uptoSmall }

/-- 'typebarlaw45.ColumnsGo', WHERE WHAT IT READS IS OF BULK AT MOST 1048576: true; the input reads as it did. -/
def columnsGoUptoRow : OpenClaim := { program := "ytpelmbiogamcpaa", sum := "a875a2ab793bca9d032065a093e4d037264e3496540c04a26dfbfe32288b2df8", func := "typebar/typebarlaw45.ColumnsGo", spec := "columnsGo", apart := false, narrowed := true }
def ColumnsGoUptoSaid : Prop := columnsGoUptoRow.holds Try.pinned (OpenSpec.upto columnsGoSpec)

/-- 'typebarlaw45.ColumnsFew', WHERE WHAT IT READS IS OF BULK AT MOST 1048576: true; the input reads as it did. -/
def columnsFewUptoRow : OpenClaim := { program := "ytpelmbiogamcpaa", sum := "a875a2ab793bca9d032065a093e4d037264e3496540c04a26dfbfe32288b2df8", func := "typebar/typebarlaw45.ColumnsFew", spec := "columnsFew", apart := false, narrowed := true }
def ColumnsFewUptoSaid : Prop := columnsFewUptoRow.holds Try.pinned (OpenSpec.upto columnsFewSpec)

/-- 'typebarlaw45.ColumnsFit', WHERE WHAT IT READS IS OF BULK AT MOST 1048576: true; the input reads as it did. -/
def columnsFitUptoRow : OpenClaim := { program := "ytpelmbiogamcpaa", sum := "a875a2ab793bca9d032065a093e4d037264e3496540c04a26dfbfe32288b2df8", func := "typebar/typebarlaw45.ColumnsFit", spec := "columnsFit", apart := false, narrowed := true }
def ColumnsFitUptoSaid : Prop := columnsFitUptoRow.holds Try.pinned (OpenSpec.upto columnsFitSpec)

end Rows
end Go.Proofs.Ytpelmbiogamcpaa
