/-
  No cell of these rows narrows 'for every input' (looked for: loops, veiled, ifaces, maps, wideKeys, modest, calm, conditions, laid).
  DERIVED. THE GIVEN ROWS OF THIS SEAT. 4 by the template 'for every input the law returns true; each argument reads behind the call as it read before'; 0 by the template 'total and deterministic' (their statements: YteflpcdhlaeanaaTotals.lean).
  GIVEN WITH THE SEED: the statements are not yours to turn. If you find one false, say at which input.
  Laid BY PROGRAM, IN A SANDBOX (cutbox-rows.mjs): the forced cells as the released guide's own fill.sh prints them over the translation 88b243e4a9c803e7… (all of the seat's roots in one cut). By AI agents, Wed Nov 11 2026. No macro, syntax, notation, axiom, sorry.
-/
import Derived.Test.YteflpcdhlaeanaaChecked
import GoSem.Claim
import GoSem.ClaimJoined
import GoSem.ClaimMapViews
import Derived.JoinedTies
import Derived.KernelRfl
namespace Go.Proofs.Yteflpcdhlaeanaa
/- THE CELL 'sum', in the pinned program and in every row, IS THE sha256 OF THE DUMP (.gsa) THAT YteflpcdhlaeanaaProg.lean LOADS. Nothing in Lean hashes anything: it is a label: what it is worth is what the hold of that sum in a sandbox is worth. -/
noncomputable def Try.pinned : Pinned := { name := "yteflpcdhlaeanaa", sum := "88b243e4a9c803e73fbc1267eaa3ad6e8d2a58bd15eab9eb7afa750420e0a817", checked := Try.checked }
namespace Rows
def none {H : Type} : Left H := { results := [], args := [] }

/-- 'typebarlaw05.HangulSplits': WHATEVER THE INPUT: true; the input reads as it did. -/
def hangulSplitsSpec : ChangeSpec := { name := "hangulSplits", fn := fun _ => fun
  | [d] => { results := [.lit (.bool true)], args := [d] }
  | _ => none }
def hangulSplitsRow : OpenClaim := { program := "yteflpcdhlaeanaa", sum := "88b243e4a9c803e73fbc1267eaa3ad6e8d2a58bd15eab9eb7afa750420e0a817", func := "typebar/typebarlaw05.HangulSplits", spec := "hangulSplits", apart := false }
def HangulSplitsSaid : Prop := hangulSplitsRow.holds Try.pinned (OpenSpec.ofChange hangulSplitsSpec)

/-- ITS FALSE NEIGHBOUR: 'it returns false'. Refute it at one input. -/
def hangulSplitsWrong : ChangeSpec := { name := "hangulSplits", fn := fun _ => fun
  | [d] => { results := [.lit (.bool false)], args := [d] }
  | _ => none }
def HangulSplitsWrongFalsely : Prop := hangulSplitsRow.holds Try.pinned (OpenSpec.ofChange hangulSplitsWrong)

/-- 'typebarlaw05.HangulJoins': WHATEVER THE INPUT: true; the input reads as it did. -/
def hangulJoinsSpec : ChangeSpec := { name := "hangulJoins", fn := fun _ => fun
  | [d1, d2] => { results := [.lit (.bool true)], args := [d1, d2] }
  | _ => none }
def hangulJoinsRow : OpenClaim := { program := "yteflpcdhlaeanaa", sum := "88b243e4a9c803e73fbc1267eaa3ad6e8d2a58bd15eab9eb7afa750420e0a817", func := "typebar/typebarlaw05.HangulJoins", spec := "hangulJoins", apart := false }
def HangulJoinsSaid : Prop := hangulJoinsRow.holds Try.pinned (OpenSpec.ofChange hangulJoinsSpec)

/-- ITS FALSE NEIGHBOUR: 'it returns false'. Refute it at one input. -/
def hangulJoinsWrong : ChangeSpec := { name := "hangulJoins", fn := fun _ => fun
  | [d1, d2] => { results := [.lit (.bool false)], args := [d1, d2] }
  | _ => none }
def HangulJoinsWrongFalsely : Prop := hangulJoinsRow.holds Try.pinned (OpenSpec.ofChange hangulJoinsWrong)

/-- 'typebarlaw05.HangulBack': WHATEVER THE INPUT: true; the input reads as it did. -/
def hangulBackSpec : ChangeSpec := { name := "hangulBack", fn := fun _ => fun
  | [d] => { results := [.lit (.bool true)], args := [d] }
  | _ => none }
def hangulBackRow : OpenClaim := { program := "yteflpcdhlaeanaa", sum := "88b243e4a9c803e73fbc1267eaa3ad6e8d2a58bd15eab9eb7afa750420e0a817", func := "typebar/typebarlaw05.HangulBack", spec := "hangulBack", apart := false }
def HangulBackSaid : Prop := hangulBackRow.holds Try.pinned (OpenSpec.ofChange hangulBackSpec)

/-- ITS FALSE NEIGHBOUR: 'it returns false'. Refute it at one input. -/
def hangulBackWrong : ChangeSpec := { name := "hangulBack", fn := fun _ => fun
  | [d] => { results := [.lit (.bool false)], args := [d] }
  | _ => none }
def HangulBackWrongFalsely : Prop := hangulBackRow.holds Try.pinned (OpenSpec.ofChange hangulBackWrong)

/-- 'typebarlaw05.HangulParts': WHATEVER THE INPUT: true; the input reads as it did. -/
def hangulPartsSpec : ChangeSpec := { name := "hangulParts", fn := fun _ => fun
  | [d1, d2, d3] => { results := [.lit (.bool true)], args := [d1, d2, d3] }
  | _ => none }
def hangulPartsRow : OpenClaim := { program := "yteflpcdhlaeanaa", sum := "88b243e4a9c803e73fbc1267eaa3ad6e8d2a58bd15eab9eb7afa750420e0a817", func := "typebar/typebarlaw05.HangulParts", spec := "hangulParts", apart := false }
def HangulPartsSaid : Prop := hangulPartsRow.holds Try.pinned (OpenSpec.ofChange hangulPartsSpec)

/-- ITS FALSE NEIGHBOUR: 'it returns false'. Refute it at one input. -/
def hangulPartsWrong : ChangeSpec := { name := "hangulParts", fn := fun _ => fun
  | [d1, d2, d3] => { results := [.lit (.bool false)], args := [d1, d2, d3] }
  | _ => none }
def HangulPartsWrongFalsely : Prop := hangulPartsRow.holds Try.pinned (OpenSpec.ofChange hangulPartsWrong)

/- THE SECOND FORM. 'bulk': how many values and letters a reading holds, each counted each time it is reached (what is shared counts as often as it is met; a slice's spare places count too). A statement '..UptoSaid' is the law's where the arguments, and the package variables that the reading takes, are together of bulk at most 1048576: NARROWER than '..Said'. Prove '..Said' where nothing that the law and all that it calls make is longer than what came in: it says more and counts as full. Else prove '..UptoSaid'. A law counts once. -/
mutual
def uptoBulk {H : Type} : DataW H → Nat
  | .lit (.string bytes) => bytes.length + 1
  | .lit _ => 1
  | .nil => 1
  | .ptr d => uptoBulk d + 1
  | .slice elems spare => uptoBulkAll elems + uptoBulkAll spare + 1
  | .agg parts => uptoBulkAll parts + 1
  | .iface _ d => uptoBulk d + 1
  | .map entries => uptoBulkEntries entries + 1
  | .held _ => 1
def uptoBulkAll {H : Type} : List (DataW H) → Nat
  | [] => 0
  | d :: r => uptoBulk d + uptoBulkAll r
def uptoBulkEntries {H : Type} : List (Lit × DataW H) → Nat
  | [] => 0
  | x :: r => uptoBulkEntry x + uptoBulkEntries r
def uptoBulkEntry {H : Type} : Lit × DataW H → Nat
  | (.string bytes, d) => bytes.length + uptoBulk d + 1
  | (_, d) => uptoBulk d + 1
 end
def uptoSmall : (H : Type) → List (DataW H) → Bool := fun _ ds => decide (uptoBulkAll ds ≤ 1048576)
def OpenSpec.upto (s : _root_.Go.ChangeSpec) : _root_.Go.OpenSpec := { _root_.Go.OpenSpec.ofChange s with cond := some uptoSmall }

/-- 'typebarlaw05.HangulSplits', WHERE WHAT IT READS IS OF BULK AT MOST 1048576: true; the input reads as it did. -/
def hangulSplitsUptoRow : OpenClaim := { program := "yteflpcdhlaeanaa", sum := "88b243e4a9c803e73fbc1267eaa3ad6e8d2a58bd15eab9eb7afa750420e0a817", func := "typebar/typebarlaw05.HangulSplits", spec := "hangulSplits", apart := false, narrowed := true }
def HangulSplitsUptoSaid : Prop := hangulSplitsUptoRow.holds Try.pinned (OpenSpec.upto hangulSplitsSpec)

/-- 'typebarlaw05.HangulJoins', WHERE WHAT IT READS IS OF BULK AT MOST 1048576: true; the input reads as it did. -/
def hangulJoinsUptoRow : OpenClaim := { program := "yteflpcdhlaeanaa", sum := "88b243e4a9c803e73fbc1267eaa3ad6e8d2a58bd15eab9eb7afa750420e0a817", func := "typebar/typebarlaw05.HangulJoins", spec := "hangulJoins", apart := false, narrowed := true }
def HangulJoinsUptoSaid : Prop := hangulJoinsUptoRow.holds Try.pinned (OpenSpec.upto hangulJoinsSpec)

/-- 'typebarlaw05.HangulBack', WHERE WHAT IT READS IS OF BULK AT MOST 1048576: true; the input reads as it did. -/
def hangulBackUptoRow : OpenClaim := { program := "yteflpcdhlaeanaa", sum := "88b243e4a9c803e73fbc1267eaa3ad6e8d2a58bd15eab9eb7afa750420e0a817", func := "typebar/typebarlaw05.HangulBack", spec := "hangulBack", apart := false, narrowed := true }
def HangulBackUptoSaid : Prop := hangulBackUptoRow.holds Try.pinned (OpenSpec.upto hangulBackSpec)

/-- 'typebarlaw05.HangulParts', WHERE WHAT IT READS IS OF BULK AT MOST 1048576: true; the input reads as it did. -/
def hangulPartsUptoRow : OpenClaim := { program := "yteflpcdhlaeanaa", sum := "88b243e4a9c803e73fbc1267eaa3ad6e8d2a58bd15eab9eb7afa750420e0a817", func := "typebar/typebarlaw05.HangulParts", spec := "hangulParts", apart := false, narrowed := true }
def HangulPartsUptoSaid : Prop := hangulPartsUptoRow.holds Try.pinned (OpenSpec.upto hangulPartsSpec)

end Rows
end Go.Proofs.Yteflpcdhlaeanaa
