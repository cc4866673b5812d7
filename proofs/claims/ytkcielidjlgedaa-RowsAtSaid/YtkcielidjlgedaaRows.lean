/-
  No cell of these rows narrows 'for every input' (looked for: loops, veiled, ifaces, maps, wideKeys, modest, calm, conditions, laid).
  DERIVED. THE GIVEN ROWS OF THIS SEAT. 4 by the template 'for every input the law returns true; each argument reads behind the call as it read before'; 0 by the template 'total and deterministic' (their statements: YtkcielidjlgedaaTotals.lean).
  GIVEN WITH THE SEED: the statements are not yours to turn. If you find one false, say at which input.
  Laid BY PROGRAM, IN A SANDBOX (cutbox-rows.mjs): the forced cells as the released guide's own fill.sh prints them over the translation 06671315ea42e8d6… (all of the seat's roots in one cut). By AI agents, Wed Nov 11 2026. No macro, syntax, notation, axiom, sorry.
-/
import Derived.Test.YtkcielidjlgedaaChecked
import GoSem.Claim
import GoSem.ClaimJoined
import GoSem.ClaimMapViews
import Derived.JoinedTies
import Derived.KernelRfl
namespace Go.Proofs.Ytkcielidjlgedaa
/- THE CELL 'sum', in the pinned program and in every row, IS THE sha256 OF THE DUMP (.gsa) THAT YtkcielidjlgedaaProg.lean LOADS. Nothing in Lean hashes anything: it is a label: what it is worth is what the hold of that sum in a sandbox is worth. -/
noncomputable def Try.pinned : Pinned := { name := "ytkcielidjlgedaa", sum := "06671315ea42e8d652c713de7d89881b08b88c2c93f21920ead0117cf0f985f0", checked := Try.checked }
namespace Rows
def none {H : Type} : Left H := { results := [], args := [] }

/-- 'typebarlaw02.RowsSpans': WHATEVER THE INPUT: true; the input reads as it did. -/
def rowsSpansSpec : ChangeSpec := { name := "rowsSpans", fn := fun _ => fun
  | [d1, d2] => { results := [.lit (.bool true)], args := [d1, d2] }
  | _ => none }
def rowsSpansRow : OpenClaim := { program := "ytkcielidjlgedaa", sum := "06671315ea42e8d652c713de7d89881b08b88c2c93f21920ead0117cf0f985f0", func := "typebar/typebarlaw02.RowsSpans", spec := "rowsSpans", unfollowed := true, recurses := true, apart := false }
def RowsSpansSaid : Prop := rowsSpansRow.holds Try.pinned (OpenSpec.ofChange rowsSpansSpec)

/-- ITS FALSE NEIGHBOUR: 'it returns false'. Refute it at one input. -/
def rowsSpansWrong : ChangeSpec := { name := "rowsSpans", fn := fun _ => fun
  | [d1, d2] => { results := [.lit (.bool false)], args := [d1, d2] }
  | _ => none }
def RowsSpansWrongFalsely : Prop := rowsSpansRow.holds Try.pinned (OpenSpec.ofChange rowsSpansWrong)

/-- 'typebarlaw02.RowsOrder': WHATEVER THE INPUT: true; the input reads as it did. -/
def rowsOrderSpec : ChangeSpec := { name := "rowsOrder", fn := fun _ => fun
  | [d1, d2] => { results := [.lit (.bool true)], args := [d1, d2] }
  | _ => none }
def rowsOrderRow : OpenClaim := { program := "ytkcielidjlgedaa", sum := "06671315ea42e8d652c713de7d89881b08b88c2c93f21920ead0117cf0f985f0", func := "typebar/typebarlaw02.RowsOrder", spec := "rowsOrder", unfollowed := true, recurses := true, apart := false }
def RowsOrderSaid : Prop := rowsOrderRow.holds Try.pinned (OpenSpec.ofChange rowsOrderSpec)

/-- ITS FALSE NEIGHBOUR: 'it returns false'. Refute it at one input. -/
def rowsOrderWrong : ChangeSpec := { name := "rowsOrder", fn := fun _ => fun
  | [d1, d2] => { results := [.lit (.bool false)], args := [d1, d2] }
  | _ => none }
def RowsOrderWrongFalsely : Prop := rowsOrderRow.holds Try.pinned (OpenSpec.ofChange rowsOrderWrong)

/-- 'typebarlaw02.RowsAt': WHATEVER THE INPUT: true; the input reads as it did. -/
def rowsAtSpec : ChangeSpec := { name := "rowsAt", fn := fun _ => fun
  | [d1, d2] => { results := [.lit (.bool true)], args := [d1, d2] }
  | _ => none }
def rowsAtRow : OpenClaim := { program := "ytkcielidjlgedaa", sum := "06671315ea42e8d652c713de7d89881b08b88c2c93f21920ead0117cf0f985f0", func := "typebar/typebarlaw02.RowsAt", spec := "rowsAt", unfollowed := true, recurses := true, apart := false }
def RowsAtSaid : Prop := rowsAtRow.holds Try.pinned (OpenSpec.ofChange rowsAtSpec)

/-- ITS FALSE NEIGHBOUR: 'it returns false'. Refute it at one input. -/
def rowsAtWrong : ChangeSpec := { name := "rowsAt", fn := fun _ => fun
  | [d1, d2] => { results := [.lit (.bool false)], args := [d1, d2] }
  | _ => none }
def RowsAtWrongFalsely : Prop := rowsAtRow.holds Try.pinned (OpenSpec.ofChange rowsAtWrong)

/-- 'typebarlaw02.RowsKinds': WHATEVER THE INPUT: true; the input reads as it did. -/
def rowsKindsSpec : ChangeSpec := { name := "rowsKinds", fn := fun _ => fun
  | [d] => { results := [.lit (.bool true)], args := [d] }
  | _ => none }
def rowsKindsRow : OpenClaim := { program := "ytkcielidjlgedaa", sum := "06671315ea42e8d652c713de7d89881b08b88c2c93f21920ead0117cf0f985f0", func := "typebar/typebarlaw02.RowsKinds", spec := "rowsKinds", unfollowed := true, recurses := true, apart := false }
def RowsKindsSaid : Prop := rowsKindsRow.holds Try.pinned (OpenSpec.ofChange rowsKindsSpec)

/-- ITS FALSE NEIGHBOUR: 'it returns false'. Refute it at one input. -/
def rowsKindsWrong : ChangeSpec := { name := "rowsKinds", fn := fun _ => fun
  | [d] => { results := [.lit (.bool false)], args := [d] }
  | _ => none }
def RowsKindsWrongFalsely : Prop := rowsKindsRow.holds Try.pinned (OpenSpec.ofChange rowsKindsWrong)

/- THE SECOND FORM. 'bulk': how many values and letters a reading holds, each counted each time it is reached (what is shared counts as often as it is met; a slice's spare places count too). A statement '..UptoSaid' is the law's where the arguments, and the package variables that the reading takes, are together of bulk at most 1048576: NARROWER than '..Said'. Prove '..Said' where nothing that the law and all that it calls make is longer than what came in: it says more and counts as full. Else prove '..UptoSaid'. A law counts once. -/
mutual
def uptoBulk {H : Type} : DataW H → Nat
  | .lit (.string bytes) => bytes.length + 1
  | .lit _ => 1
  | .nil => 1
  | .ptr d => uptoBulk d + 1
  | .slice elems spare => uptoBulkAll elems + uptoBulkAll spare + 1
  | .agg parts => uptoBulkAll parts + 1
  | .iface _ d => uptoBulk d + 1
  | .map entries => uptoBulkEntries entries + 1
  | .held _ => 1
def uptoBulkAll {H : Type} : List (DataW H) → Nat
  | [] => 0
  | d :: r => uptoBulk d + uptoBulkAll r
def uptoBulkEntries {H : Type} : List (Lit × DataW H) → Nat
  | [] => 0
  | x :: r => uptoBulkEntry x + uptoBulkEntries r
def uptoBulkEntry {H : Type} : Lit × DataW H → Nat
  | (.string bytes, d) => bytes.length + uptoBulk d + 1
  | (_, d) => uptoBulk d + 1
 end
def uptoSmall : (H : Type) → List (DataW H) → Bool := fun _ ds => decide (uptoBulkAll ds ≤ 1048576)
def OpenSpec.upto (s : _root_.Go.ChangeSpec) : _root_.Go.OpenSpec := { _root_.Go.OpenSpec.ofChange s with cond := some uptoSmall }

/-- 'typebarlaw02.RowsSpans', WHERE WHAT IT READS IS OF BULK AT MOST 1048576: true; the input reads as it did. -/
def rowsSpansUptoRow : OpenClaim := { program := "ytkcielidjlgedaa", sum := "06671315ea42e8d652c713de7d89881b08b88c2c93f21920ead0117cf0f985f0", func := "typebar/typebarlaw02.RowsSpans", spec := "rowsSpans", unfollowed := true, recurses := true, apart := false, narrowed := true }
def RowsSpansUptoSaid : Prop := rowsSpansUptoRow.holds Try.pinned (OpenSpec.upto rowsSpansSpec)

/-- 'typebarlaw02.RowsOrder', WHERE WHAT IT READS IS OF BULK AT MOST 1048576: true; the input reads as it did. -/
def rowsOrderUptoRow : OpenClaim := { program := "ytkcielidjlgedaa", sum := "06671315ea42e8d652c713de7d89881b08b88c2c93f21920ead0117cf0f985f0", func := "typebar/typebarlaw02.RowsOrder", spec := "rowsOrder", unfollowed := true, recurses := true, apart := false, narrowed := true }
def RowsOrderUptoSaid : Prop := rowsOrderUptoRow.holds Try.pinned (OpenSpec.upto rowsOrderSpec)

/-- 'typebarlaw02.RowsAt', WHERE WHAT IT READS IS OF BULK AT MOST 1048576: true; the input reads as it did. -/
def rowsAtUptoRow : OpenClaim := { program := "ytkcielidjlgedaa", sum := "06671315ea42e8d652c713de7d89881b08b88c2c93f21920ead0117cf0f985f0", func := "typebar/typebarlaw02.RowsAt", spec := "rowsAt", unfollowed := true, recurses := true, apart := false, narrowed := true }
def RowsAtUptoSaid : Prop := rowsAtUptoRow.holds Try.pinned (OpenSpec.upto rowsAtSpec)

/-- 'typebarlaw02.RowsKinds', WHERE WHAT IT READS IS OF BULK AT MOST 1048576: true; the input reads as it did. -/
def rowsKindsUptoRow : OpenClaim := { program := "ytkcielidjlgedaa", sum := "06671315ea42e8d652c713de7d89881b08b88c2c93f21920ead0117cf0f985f0", func := "typebar/typebarlaw02.RowsKinds", spec := "rowsKinds", unfollowed := true, recurses := true, apart := false, narrowed := true }
def RowsKindsUptoSaid : Prop := rowsKindsUptoRow.holds Try.pinned (OpenSpec.upto rowsKindsSpec)

end Rows
end Go.Proofs.Ytkcielidjlgedaa
