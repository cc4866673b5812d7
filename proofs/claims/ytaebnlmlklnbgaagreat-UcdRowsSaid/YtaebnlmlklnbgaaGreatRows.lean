/-
  No cell of these rows narrows 'for every input' (looked for: loops, veiled, ifaces, maps, wideKeys, modest, calm, conditions, laid).
  DERIVED. THE GIVEN ROWS OF THIS SEAT. 3 by the template 'for every input the law returns true; each argument reads behind the call as it read before'; 0 by the template 'total and deterministic' (their statements: YtaebnlmlklnbgaaGreatTotals.lean).
  GIVEN WITH THE SEED: the statements are not yours to turn. If you find one false, say at which input.
  Laid BY PROGRAM, IN A SANDBOX (cutbox-rows.mjs): the forced cells as the released guide's own fill.sh prints them over the translation 500832f831f4b87e… (all of the seat's roots in one cut). By AI agents, Wed Nov 11 2026. No macro, syntax, notation, axiom, sorry.
-/
import Derived.Test.YtaebnlmlklnbgaaGreatChecked
import GoSem.Claim
import GoSem.ClaimJoined
import GoSem.ClaimMapViews
import Derived.JoinedTies
import Derived.KernelRfl
namespace Go.Proofs.YtaebnlmlklnbgaaGreat
/- THE CELL 'sum', in the pinned program and in every row, IS THE sha256 OF THE DUMP (.gsa) THAT YtaebnlmlklnbgaaGreatProg.lean LOADS. Nothing in Lean hashes anything: it is a label: what it is worth is what the hold of that sum in a sandbox is worth. -/
noncomputable def Tryz.pinned : Pinned := { name := "ytaebnlmlklnbgaagreat", sum := "500832f831f4b87e3c9e83088f1de59744920a52e2ff6dc6a331e8633cd2d630", checked := Tryz.checked }
namespace Rows
def none {H : Type} : Left H := { results := [], args := [] }

/-- 'typebarlaw04.UcdTells': WHATEVER THE INPUT: true; the input reads as it did. -/
def ucdTellsSpec : ChangeSpec := { name := "ucdTells", fn := fun _ => fun
  | [d] => { results := [.lit (.bool true)], args := [d] }
  | _ => none }
def ucdTellsRow : OpenClaim := { program := "ytaebnlmlklnbgaagreat", sum := "500832f831f4b87e3c9e83088f1de59744920a52e2ff6dc6a331e8633cd2d630", func := "typebar/typebarlaw04.UcdTells", spec := "ucdTells", unfollowed := true, recurses := true, plainKeys := false, apart := false }
def UcdTellsSaid : Prop := ucdTellsRow.holds Tryz.pinned (OpenSpec.ofChange ucdTellsSpec)

/-- ITS FALSE NEIGHBOUR: 'it returns false'. Refute it at one input. -/
def ucdTellsWrong : ChangeSpec := { name := "ucdTells", fn := fun _ => fun
  | [d] => { results := [.lit (.bool false)], args := [d] }
  | _ => none }
def UcdTellsWrongFalsely : Prop := ucdTellsRow.holds Tryz.pinned (OpenSpec.ofChange ucdTellsWrong)

/-- 'typebarlaw04.UcdRows': WHATEVER THE INPUT: true; the input reads as it did. -/
def ucdRowsSpec : ChangeSpec := { name := "ucdRows", fn := fun _ => fun
  | [d1, d2] => { results := [.lit (.bool true)], args := [d1, d2] }
  | _ => none }
def ucdRowsRow : OpenClaim := { program := "ytaebnlmlklnbgaagreat", sum := "500832f831f4b87e3c9e83088f1de59744920a52e2ff6dc6a331e8633cd2d630", func := "typebar/typebarlaw04.UcdRows", spec := "ucdRows", unfollowed := true, recurses := true, plainKeys := false, apart := false }
def UcdRowsSaid : Prop := ucdRowsRow.holds Tryz.pinned (OpenSpec.ofChange ucdRowsSpec)

/-- ITS FALSE NEIGHBOUR: 'it returns false'. Refute it at one input. -/
def ucdRowsWrong : ChangeSpec := { name := "ucdRows", fn := fun _ => fun
  | [d1, d2] => { results := [.lit (.bool false)], args := [d1, d2] }
  | _ => none }
def UcdRowsWrongFalsely : Prop := ucdRowsRow.holds Tryz.pinned (OpenSpec.ofChange ucdRowsWrong)

/-- 'typebarlaw04.UcdNone': WHATEVER THE INPUT: true; the input reads as it did. -/
def ucdNoneSpec : ChangeSpec := { name := "ucdNone", fn := fun _ => fun
  | [d1, d2] => { results := [.lit (.bool true)], args := [d1, d2] }
  | _ => none }
def ucdNoneRow : OpenClaim := { program := "ytaebnlmlklnbgaagreat", sum := "500832f831f4b87e3c9e83088f1de59744920a52e2ff6dc6a331e8633cd2d630", func := "typebar/typebarlaw04.UcdNone", spec := "ucdNone", unfollowed := true, recurses := true, plainKeys := false, apart := false }
def UcdNoneSaid : Prop := ucdNoneRow.holds Tryz.pinned (OpenSpec.ofChange ucdNoneSpec)

/-- ITS FALSE NEIGHBOUR: 'it returns false'. Refute it at one input. -/
def ucdNoneWrong : ChangeSpec := { name := "ucdNone", fn := fun _ => fun
  | [d1, d2] => { results := [.lit (.bool false)], args := [d1, d2] }
  | _ => none }
def UcdNoneWrongFalsely : Prop := ucdNoneRow.holds Tryz.pinned (OpenSpec.ofChange ucdNoneWrong)

/- THE SECOND FORM. 'bulk': how many values and letters a reading holds, each counted each time it is reached (what is shared counts as often as it is met; a slice's spare places count too). A statement '..UptoSaid' is the law's where the arguments, and the package variables that the reading takes, are together of bulk at most 1048576: NARROWER than '..Said'. Prove '..Said' where nothing that the law and all that it calls make is longer than what came in: it says more and counts as full. Else prove '..UptoSaid'. A law counts once. -/
mutual
def uptoBulk {H : Type} : DataW H → Nat
  | .lit (.string bytes) => bytes.length + 1
  | .lit _ => 1
  | .nil => 1
  | .ptr d => uptoBulk d + 1
  | .slice elems spare => uptoBulkAll elems + uptoBulkAll spare + 1
  | .agg parts => uptoBulkAll parts + 1
  | .iface _ d => uptoBulk d + 1
  | .map entries => uptoBulkEntries entries + 1
  | .held _ => 1
def uptoBulkAll {H : Type} : List (DataW H) → Nat
  | [] => 0
  | d :: r => uptoBulk d + uptoBulkAll r
def uptoBulkEntries {H : Type} : List (Lit × DataW H) → Nat
  | [] => 0
  | x :: r => uptoBulkEntry x + uptoBulkEntries r
def uptoBulkEntry {H : Type} : Lit × DataW H → Nat
  | (.string bytes, d) => bytes.length + uptoBulk d + 1
  | (_, d) => uptoBulk d + 1
 end
def uptoSmall : (H : Type) → List (DataW H) → Bool := fun _ ds => decide (uptoBulkAll ds ≤ 1048576)
def OpenSpec.upto (s : _root_.Go.ChangeSpec) : _root_.Go.OpenSpec := { _root_.Go.OpenSpec.ofChange s with cond := some uptoSmall }

/-- 'typebarlaw04.UcdTells', WHERE WHAT IT READS IS OF BULK AT MOST 1048576: true; the input reads as it did. -/
def ucdTellsUptoRow : OpenClaim := { program := "ytaebnlmlklnbgaagreat", sum := "500832f831f4b87e3c9e83088f1de59744920a52e2ff6dc6a331e8633cd2d630", func := "typebar/typebarlaw04.UcdTells", spec := "ucdTells", unfollowed := true, recurses := true, plainKeys := false, apart := false, narrowed := true }
def UcdTellsUptoSaid : Prop := ucdTellsUptoRow.holds Tryz.pinned (OpenSpec.upto ucdTellsSpec)

/-- 'typebarlaw04.UcdRows', WHERE WHAT IT READS IS OF BULK AT MOST 1048576: true; the input reads as it did. -/
def ucdRowsUptoRow : OpenClaim := { program := "ytaebnlmlklnbgaagreat", sum := "500832f831f4b87e3c9e83088f1de59744920a52e2ff6dc6a331e8633cd2d630", func := "typebar/typebarlaw04.UcdRows", spec := "ucdRows", unfollowed := true, recurses := true, plainKeys := false, apart := false, narrowed := true }
def UcdRowsUptoSaid : Prop := ucdRowsUptoRow.holds Tryz.pinned (OpenSpec.upto ucdRowsSpec)

/-- 'typebarlaw04.UcdNone', WHERE WHAT IT READS IS OF BULK AT MOST 1048576: true; the input reads as it did. -/
def ucdNoneUptoRow : OpenClaim := { program := "ytaebnlmlklnbgaagreat", sum := "500832f831f4b87e3c9e83088f1de59744920a52e2ff6dc6a331e8633cd2d630", func := "typebar/typebarlaw04.UcdNone", spec := "ucdNone", unfollowed := true, recurses := true, plainKeys := false, apart := false, narrowed := true }
def UcdNoneUptoSaid : Prop := ucdNoneUptoRow.holds Tryz.pinned (OpenSpec.upto ucdNoneSpec)

end Rows
end Go.Proofs.YtaebnlmlklnbgaaGreat
