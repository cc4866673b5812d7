/-
  NARROWER THAN 'FOR EVERY INPUT', by the rows' own cells (each row's printed sentence says how): BindOf: laid · BindLooks: laid · BindValue: laid.
  DERIVED. THE GIVEN ROWS OF THIS SEAT. 3 by the template 'for every input the law returns true; each argument reads behind the call as it read before'; 0 by the template 'total and deterministic' (their statements: YtpdjkphjpjbhgaaDoorTotals.lean).
  GIVEN WITH THE SEED: the statements are not yours to turn. If you find one false, say at which input.
  Laid BY PROGRAM, IN A SANDBOX (cutbox-rows.mjs): the forced cells as the released guide's own fill.sh prints them over the translation 5689704b3977236d… (all of the seat's roots in one cut). By AI agents, Wed Nov 11 2026. No macro, syntax, notation, axiom, sorry.
-/
import Derived.Test.YtpdjkphjpjbhgaaDoorChecked
import GoSem.Claim
import GoSem.ClaimJoined
import GoSem.ClaimMapViews
import Derived.JoinedTies
import Derived.KernelRfl
namespace Go.Proofs.YtpdjkphjpjbhgaaDoor
/- THE CELL 'sum', in the pinned program and in every row, IS THE sha256 OF THE DUMP (.gsa) THAT YtpdjkphjpjbhgaaDoorProg.lean LOADS. Nothing in Lean hashes anything: it is a label: what it is worth is what the hold of that sum in a sandbox is worth. -/
noncomputable def Tryd.pinned : Pinned := { name := "ytpdjkphjpjbhgaadoor", sum := "5689704b3977236de195e8459511e3683fcb0e216fa4731ae38a40000bee7983", checked := Tryd.checked }
namespace Rows
def none {H : Type} : Left H := { results := [], args := [] }

/- WHAT THE LISTED PACKAGE-LEVEL VARIABLES READ AS WHEN THE CALL BEGINS. Each datum BY PROGRAM (the guide's laid-datum.mjs) off the statement by which the dump's own 'gosem.cut.vars' lays the variable. In a bare row this is a premise. The card (YtpdjkphjpjbhgaaDoorCards.lean) ties it to the program's text. -/
def laid_typebar_bind_controls {H : Type} : DataW H := .agg [.lit (.int .i64 17), .lit (.int .i64 7), .lit (.int .i64 4), .lit (.int .i64 0), .lit (.int .i64 9), .lit (.int .i64 8), .lit (.int .i64 3), .lit (.int .i64 26), .lit (.int .i64 10), .lit (.int .i64 0), .lit (.int .i64 2), .lit (.int .i64 13), .lit (.int .i64 27), .lit (.int .i64 2), .lit (.int .i64 23), .lit (.int .i64 0), .lit (.int .i64 22), .lit (.int .i64 28), .lit (.int .i64 24), .lit (.int .i64 25), .lit (.int .i64 31), .lit (.int .i64 14), .lit (.int .i64 0), .lit (.int .i64 15), .lit (.int .i64 33), .lit (.int .i64 19), .lit (.int .i64 0), .lit (.int .i64 0), .lit (.int .i64 0), .lit (.int .i64 0), .lit (.int .i64 0), .lit (.int .i64 21)]

/-- 'typebarlaw23.BindOf': WHATEVER THE INPUT: true; the input reads as it did. -/
def bindOfSpec : ChangeSpec := { name := "bindOf", fn := fun _ => fun
  | [d1, d2] => { results := [.lit (.bool true)], args := [d1, d2] }
  | _ => none }
def bindOfRow : OpenClaim := { program := "ytpdjkphjpjbhgaadoor", sum := "5689704b3977236de195e8459511e3683fcb0e216fa4731ae38a40000bee7983", func := "typebar/typebarlaw23.BindOf", spec := "bindOf", named := ["typebar/bind.controls"], plainKeys := false, apart := false, laid := [("typebar/bind.controls", laid_typebar_bind_controls)] }
def BindOfSaid : Prop := bindOfRow.holds Tryd.pinned (OpenSpec.ofChange bindOfSpec)

/-- ITS FALSE NEIGHBOUR: 'it returns false'. Refute it at one input. -/
def bindOfWrong : ChangeSpec := { name := "bindOf", fn := fun _ => fun
  | [d1, d2] => { results := [.lit (.bool false)], args := [d1, d2] }
  | _ => none }
def BindOfWrongFalsely : Prop := bindOfRow.holds Tryd.pinned (OpenSpec.ofChange bindOfWrong)

/-- 'typebarlaw23.BindLooks': WHATEVER THE INPUT: true; the input reads as it did. -/
def bindLooksSpec : ChangeSpec := { name := "bindLooks", fn := fun _ => fun
  | [d1, d2] => { results := [.lit (.bool true)], args := [d1, d2] }
  | _ => none }
def bindLooksRow : OpenClaim := { program := "ytpdjkphjpjbhgaadoor", sum := "5689704b3977236de195e8459511e3683fcb0e216fa4731ae38a40000bee7983", func := "typebar/typebarlaw23.BindLooks", spec := "bindLooks", inPlace := ["maps.clone"], named := ["typebar/bind.controls"], plainKeys := false, apart := false, laid := [("typebar/bind.controls", laid_typebar_bind_controls)] }
def BindLooksSaid : Prop := bindLooksRow.holds Tryd.pinned (OpenSpec.ofChange bindLooksSpec)

/-- ITS FALSE NEIGHBOUR: 'it returns false'. Refute it at one input. -/
def bindLooksWrong : ChangeSpec := { name := "bindLooks", fn := fun _ => fun
  | [d1, d2] => { results := [.lit (.bool false)], args := [d1, d2] }
  | _ => none }
def BindLooksWrongFalsely : Prop := bindLooksRow.holds Tryd.pinned (OpenSpec.ofChange bindLooksWrong)

/-- 'typebarlaw23.BindValue': WHATEVER THE INPUT: true; the input reads as it did. -/
def bindValueSpec : ChangeSpec := { name := "bindValue", fn := fun _ => fun
  | [d1, d2] => { results := [.lit (.bool true)], args := [d1, d2] }
  | _ => none }
def bindValueRow : OpenClaim := { program := "ytpdjkphjpjbhgaadoor", sum := "5689704b3977236de195e8459511e3683fcb0e216fa4731ae38a40000bee7983", func := "typebar/typebarlaw23.BindValue", spec := "bindValue", inPlace := ["maps.clone"], named := ["typebar/bind.controls"], plainKeys := false, apart := false, laid := [("typebar/bind.controls", laid_typebar_bind_controls)] }
def BindValueSaid : Prop := bindValueRow.holds Tryd.pinned (OpenSpec.ofChange bindValueSpec)

/-- ITS FALSE NEIGHBOUR: 'it returns false'. Refute it at one input. -/
def bindValueWrong : ChangeSpec := { name := "bindValue", fn := fun _ => fun
  | [d1, d2] => { results := [.lit (.bool false)], args := [d1, d2] }
  | _ => none }
def BindValueWrongFalsely : Prop := bindValueRow.holds Tryd.pinned (OpenSpec.ofChange bindValueWrong)

/- THE SECOND FORM. 'bulk': how many values and letters a reading holds, each counted each time it is reached (what is shared counts as often as it is met; a slice's spare places count too). A statement '..UptoSaid' is the law's where the arguments, and the package variables that the reading takes, are together of bulk at most 1048576: NARROWER than '..Said'. Prove '..Said' where nothing that the law and all that it calls make is longer than what came in: it says more and counts as full. Else prove '..UptoSaid'. A law counts once. -/
mutual
def uptoBulk {H : Type} : DataW H → Nat
  | .lit (.string bytes) => bytes.length + 1
  | .lit _ => 1
  | .nil => 1
  | .ptr d => uptoBulk d + 1
  | .slice elems spare => uptoBulkAll elems + uptoBulkAll spare + 1
  | .agg parts => uptoBulkAll parts + 1
  | .iface _ d => uptoBulk d + 1
  | .map entries => uptoBulkEntries entries + 1
  | .held _ => 1
def uptoBulkAll {H : Type} : List (DataW H) → Nat
  | [] => 0
  | d :: r => uptoBulk d + uptoBulkAll r
def uptoBulkEntries {H : Type} : List (Lit × DataW H) → Nat
  | [] => 0
  | x :: r => uptoBulkEntry x + uptoBulkEntries r
def uptoBulkEntry {H : Type} : Lit × DataW H → Nat
  | (.string bytes, d) => bytes.length + uptoBulk d + 1
  | (_, d) => uptoBulk d + 1
 end
def uptoSmall : (H : Type) → List (DataW H) → Bool := fun _ ds => decide (uptoBulkAll ds ≤ 1048576)
def OpenSpec.upto (s : _root_.Go.ChangeSpec) : _root_.Go.OpenSpec := { _root_.Go.OpenSpec.ofChange s with cond := some uptoSmall }

/-- 'typebarlaw23.BindOf', WHERE WHAT IT READS IS OF BULK AT MOST 1048576: true; the input reads as it did. -/
def bindOfUptoRow : OpenClaim := { program := "ytpdjkphjpjbhgaadoor", sum := "5689704b3977236de195e8459511e3683fcb0e216fa4731ae38a40000bee7983", func := "typebar/typebarlaw23.BindOf", spec := "bindOf", named := ["typebar/bind.controls"], plainKeys := false, apart := false, laid := [("typebar/bind.controls", laid_typebar_bind_controls)], narrowed := true }
def BindOfUptoSaid : Prop := bindOfUptoRow.holds Tryd.pinned (OpenSpec.upto bindOfSpec)

/-- 'typebarlaw23.BindLooks', WHERE WHAT IT READS IS OF BULK AT MOST 1048576: true; the input reads as it did. -/
def bindLooksUptoRow : OpenClaim := { program := "ytpdjkphjpjbhgaadoor", sum := "5689704b3977236de195e8459511e3683fcb0e216fa4731ae38a40000bee7983", func := "typebar/typebarlaw23.BindLooks", spec := "bindLooks", inPlace := ["maps.clone"], named := ["typebar/bind.controls"], plainKeys := false, apart := false, laid := [("typebar/bind.controls", laid_typebar_bind_controls)], narrowed := true }
def BindLooksUptoSaid : Prop := bindLooksUptoRow.holds Tryd.pinned (OpenSpec.upto bindLooksSpec)

/-- 'typebarlaw23.BindValue', WHERE WHAT IT READS IS OF BULK AT MOST 1048576: true; the input reads as it did. -/
def bindValueUptoRow : OpenClaim := { program := "ytpdjkphjpjbhgaadoor", sum := "5689704b3977236de195e8459511e3683fcb0e216fa4731ae38a40000bee7983", func := "typebar/typebarlaw23.BindValue", spec := "bindValue", inPlace := ["maps.clone"], named := ["typebar/bind.controls"], plainKeys := false, apart := false, laid := [("typebar/bind.controls", laid_typebar_bind_controls)], narrowed := true }
def BindValueUptoSaid : Prop := bindValueUptoRow.holds Tryd.pinned (OpenSpec.upto bindValueSpec)

end Rows
end Go.Proofs.YtpdjkphjpjbhgaaDoor
