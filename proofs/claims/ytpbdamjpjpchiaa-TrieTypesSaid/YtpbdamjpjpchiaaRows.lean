/-
  No cell of these rows narrows 'for every input' (looked for: loops, veiled, ifaces, maps, wideKeys, modest, calm, conditions, laid).
  DERIVED. THE GIVEN ROWS OF THIS SEAT. 5 by the template 'for every input the law returns true; each argument reads behind the call as it read before'; 0 by the template 'total and deterministic' (their statements: YtpbdamjpjpchiaaTotals.lean).
  GIVEN WITH THE SEED: the statements are not yours to turn. If you find one false, say at which input.
  Laid BY PROGRAM, IN A SANDBOX (cutbox-rows.mjs): the forced cells as the released guide's own fill.sh prints them over the translation bca9299622526e8b… (all of the seat's roots in one cut). By AI agents, Wed Nov 11 2026. No macro, syntax, notation, axiom, sorry.
-/
import Derived.Test.YtpbdamjpjpchiaaChecked
import GoSem.Claim
import GoSem.ClaimJoined
import GoSem.ClaimMapViews
import Derived.JoinedTies
import Derived.KernelRfl
namespace Go.Proofs.Ytpbdamjpjpchiaa
/- THE CELL 'sum', in the pinned program and in every row, IS THE sha256 OF THE DUMP (.gsa) THAT YtpbdamjpjpchiaaProg.lean LOADS. Nothing in Lean hashes anything: it is a label: what it is worth is what the hold of that sum in a sandbox is worth. -/
noncomputable def Try.pinned : Pinned := { name := "ytpbdamjpjpchiaa", sum := "bca9299622526e8b57216c03fe31a31eee94fee1b48bcac8c9aa88b4d961ecb8", checked := Try.checked }
namespace Rows
def none {H : Type} : Left H := { results := [], args := [] }

/-- 'typebarlaw03.TrieGets': WHATEVER THE INPUT: true; the input reads as it did. -/
def trieGetsSpec : ChangeSpec := { name := "trieGets", fn := fun _ => fun
  | [d1, d2, d3] => { results := [.lit (.bool true)], args := [d1, d2, d3] }
  | _ => none }
def trieGetsRow : OpenClaim := { program := "ytpbdamjpjpchiaa", sum := "bca9299622526e8b57216c03fe31a31eee94fee1b48bcac8c9aa88b4d961ecb8", func := "typebar/typebarlaw03.TrieGets", spec := "trieGets", unfollowed := true, recurses := true, plainKeys := false, apart := false }
def TrieGetsSaid : Prop := trieGetsRow.holds Try.pinned (OpenSpec.ofChange trieGetsSpec)

/-- ITS FALSE NEIGHBOUR: 'it returns false'. Refute it at one input. -/
def trieGetsWrong : ChangeSpec := { name := "trieGets", fn := fun _ => fun
  | [d1, d2, d3] => { results := [.lit (.bool false)], args := [d1, d2, d3] }
  | _ => none }
def TrieGetsWrongFalsely : Prop := trieGetsRow.holds Try.pinned (OpenSpec.ofChange trieGetsWrong)

/-- 'typebarlaw03.TriePieces': WHATEVER THE INPUT: true; the input reads as it did. -/
def triePiecesSpec : ChangeSpec := { name := "triePieces", fn := fun _ => fun
  | [d1, d2, d3, d4] => { results := [.lit (.bool true)], args := [d1, d2, d3, d4] }
  | _ => none }
def triePiecesRow : OpenClaim := { program := "ytpbdamjpjpchiaa", sum := "bca9299622526e8b57216c03fe31a31eee94fee1b48bcac8c9aa88b4d961ecb8", func := "typebar/typebarlaw03.TriePieces", spec := "triePieces", unfollowed := true, recurses := true, plainKeys := false, apart := false }
def TriePiecesSaid : Prop := triePiecesRow.holds Try.pinned (OpenSpec.ofChange triePiecesSpec)

/-- ITS FALSE NEIGHBOUR: 'it returns false'. Refute it at one input. -/
def triePiecesWrong : ChangeSpec := { name := "triePieces", fn := fun _ => fun
  | [d1, d2, d3, d4] => { results := [.lit (.bool false)], args := [d1, d2, d3, d4] }
  | _ => none }
def TriePiecesWrongFalsely : Prop := triePiecesRow.holds Try.pinned (OpenSpec.ofChange triePiecesWrong)

/-- 'typebarlaw03.TrieBlocks': WHATEVER THE INPUT: true; the input reads as it did. -/
def trieBlocksSpec : ChangeSpec := { name := "trieBlocks", fn := fun _ => fun
  | [d1, d2, d3] => { results := [.lit (.bool true)], args := [d1, d2, d3] }
  | _ => none }
def trieBlocksRow : OpenClaim := { program := "ytpbdamjpjpchiaa", sum := "bca9299622526e8b57216c03fe31a31eee94fee1b48bcac8c9aa88b4d961ecb8", func := "typebar/typebarlaw03.TrieBlocks", spec := "trieBlocks", unfollowed := true, recurses := true, plainKeys := false, apart := false }
def TrieBlocksSaid : Prop := trieBlocksRow.holds Try.pinned (OpenSpec.ofChange trieBlocksSpec)

/-- ITS FALSE NEIGHBOUR: 'it returns false'. Refute it at one input. -/
def trieBlocksWrong : ChangeSpec := { name := "trieBlocks", fn := fun _ => fun
  | [d1, d2, d3] => { results := [.lit (.bool false)], args := [d1, d2, d3] }
  | _ => none }
def TrieBlocksWrongFalsely : Prop := trieBlocksRow.holds Try.pinned (OpenSpec.ofChange trieBlocksWrong)

/-- 'typebarlaw03.TrieTypes': WHATEVER THE INPUT: true; the input reads as it did. -/
def trieTypesSpec : ChangeSpec := { name := "trieTypes", fn := fun _ => fun
  | [d1, d2, d3, d4] => { results := [.lit (.bool true)], args := [d1, d2, d3, d4] }
  | _ => none }
def trieTypesRow : OpenClaim := { program := "ytpbdamjpjpchiaa", sum := "bca9299622526e8b57216c03fe31a31eee94fee1b48bcac8c9aa88b4d961ecb8", func := "typebar/typebarlaw03.TrieTypes", spec := "trieTypes", unfollowed := true, recurses := true, plainKeys := false, apart := false }
def TrieTypesSaid : Prop := trieTypesRow.holds Try.pinned (OpenSpec.ofChange trieTypesSpec)

/-- ITS FALSE NEIGHBOUR: 'it returns false'. Refute it at one input. -/
def trieTypesWrong : ChangeSpec := { name := "trieTypes", fn := fun _ => fun
  | [d1, d2, d3, d4] => { results := [.lit (.bool false)], args := [d1, d2, d3, d4] }
  | _ => none }
def TrieTypesWrongFalsely : Prop := trieTypesRow.holds Try.pinned (OpenSpec.ofChange trieTypesWrong)

/-- 'typebarlaw03.TrieNone': WHATEVER THE INPUT: true; the input reads as it did. -/
def trieNoneSpec : ChangeSpec := { name := "trieNone", fn := fun _ => fun
  | [d1, d2] => { results := [.lit (.bool true)], args := [d1, d2] }
  | _ => none }
def trieNoneRow : OpenClaim := { program := "ytpbdamjpjpchiaa", sum := "bca9299622526e8b57216c03fe31a31eee94fee1b48bcac8c9aa88b4d961ecb8", func := "typebar/typebarlaw03.TrieNone", spec := "trieNone", unfollowed := true, recurses := true, plainKeys := false, apart := false }
def TrieNoneSaid : Prop := trieNoneRow.holds Try.pinned (OpenSpec.ofChange trieNoneSpec)

/-- ITS FALSE NEIGHBOUR: 'it returns false'. Refute it at one input. -/
def trieNoneWrong : ChangeSpec := { name := "trieNone", fn := fun _ => fun
  | [d1, d2] => { results := [.lit (.bool false)], args := [d1, d2] }
  | _ => none }
def TrieNoneWrongFalsely : Prop := trieNoneRow.holds Try.pinned (OpenSpec.ofChange trieNoneWrong)

/- THE SECOND FORM. 'bulk': how many values and letters a reading holds, each counted each time it is reached (what is shared counts as often as it is met; a slice's spare places count too). A statement '..UptoSaid' is the law's where the arguments, and the package variables that the reading takes, are together of bulk at most 1048576: NARROWER than '..Said'. Prove '..Said' where nothing that the law and all that it calls make is longer than what came in: it says more and counts as full. Else prove '..UptoSaid'. A law counts once. -/
mutual
def uptoBulk {H : Type} : DataW H → Nat
  | .lit (.string bytes) => bytes.length + 1
  | .lit _ => 1
  | .nil => 1
  | .ptr d => uptoBulk d + 1
  | .slice elems spare => uptoBulkAll elems + uptoBulkAll spare + 1
  | .agg parts => uptoBulkAll parts + 1
  | .iface _ d => uptoBulk d + 1
  | .map entries => uptoBulkEntries entries + 1
  | .held _ => 1
def uptoBulkAll {H : Type} : List (DataW H) → Nat
  | [] => 0
  | d :: r => uptoBulk d + uptoBulkAll r
def uptoBulkEntries {H : Type} : List (Lit × DataW H) → Nat
  | [] => 0
  | x :: r => uptoBulkEntry x + uptoBulkEntries r
def uptoBulkEntry {H : Type} : Lit × DataW H → Nat
  | (.string bytes, d) => bytes.length + uptoBulk d + 1
  | (_, d) => uptoBulk d + 1
 end
def uptoSmall : (H : Type) → List (DataW H) → Bool := fun _ ds => decide (uptoBulkAll ds ≤ 1048576)
def OpenSpec.upto (s : _root_.Go.ChangeSpec) : _root_.Go.OpenSpec := { _root_.Go.OpenSpec.ofChange s with cond := some uptoSmall }

/-- 'typebarlaw03.TrieGets', WHERE WHAT IT READS IS OF BULK AT MOST 1048576: true; the input reads as it did. -/
def trieGetsUptoRow : OpenClaim := { program := "ytpbdamjpjpchiaa", sum := "bca9299622526e8b57216c03fe31a31eee94fee1b48bcac8c9aa88b4d961ecb8", func := "typebar/typebarlaw03.TrieGets", spec := "trieGets", unfollowed := true, recurses := true, plainKeys := false, apart := false, narrowed := true }
def TrieGetsUptoSaid : Prop := trieGetsUptoRow.holds Try.pinned (OpenSpec.upto trieGetsSpec)

/-- 'typebarlaw03.TriePieces', WHERE WHAT IT READS IS OF BULK AT MOST 1048576: true; the input reads as it did. -/
def triePiecesUptoRow : OpenClaim := { program := "ytpbdamjpjpchiaa", sum := "bca9299622526e8b57216c03fe31a31eee94fee1b48bcac8c9aa88b4d961ecb8", func := "typebar/typebarlaw03.TriePieces", spec := "triePieces", unfollowed := true, recurses := true, plainKeys := false, apart := false, narrowed := true }
def TriePiecesUptoSaid : Prop := triePiecesUptoRow.holds Try.pinned (OpenSpec.upto triePiecesSpec)

/-- 'typebarlaw03.TrieBlocks', WHERE WHAT IT READS IS OF BULK AT MOST 1048576: true; the input reads as it did. -/
def trieBlocksUptoRow : OpenClaim := { program := "ytpbdamjpjpchiaa", sum := "bca9299622526e8b57216c03fe31a31eee94fee1b48bcac8c9aa88b4d961ecb8", func := "typebar/typebarlaw03.TrieBlocks", spec := "trieBlocks", unfollowed := true, recurses := true, plainKeys := false, apart := false, narrowed := true }
def TrieBlocksUptoSaid : Prop := trieBlocksUptoRow.holds Try.pinned (OpenSpec.upto trieBlocksSpec)

/-- 'typebarlaw03.TrieTypes', WHERE WHAT IT READS IS OF BULK AT MOST 1048576: true; the input reads as it did. -/
def trieTypesUptoRow : OpenClaim := { program := "ytpbdamjpjpchiaa", sum := "bca9299622526e8b57216c03fe31a31eee94fee1b48bcac8c9aa88b4d961ecb8", func := "typebar/typebarlaw03.TrieTypes", spec := "trieTypes", unfollowed := true, recurses := true, plainKeys := false, apart := false, narrowed := true }
def TrieTypesUptoSaid : Prop := trieTypesUptoRow.holds Try.pinned (OpenSpec.upto trieTypesSpec)

/-- 'typebarlaw03.TrieNone', WHERE WHAT IT READS IS OF BULK AT MOST 1048576: true; the input reads as it did. -/
def trieNoneUptoRow : OpenClaim := { program := "ytpbdamjpjpchiaa", sum := "bca9299622526e8b57216c03fe31a31eee94fee1b48bcac8c9aa88b4d961ecb8", func := "typebar/typebarlaw03.TrieNone", spec := "trieNone", unfollowed := true, recurses := true, plainKeys := false, apart := false, narrowed := true }
def TrieNoneUptoSaid : Prop := trieNoneUptoRow.holds Try.pinned (OpenSpec.upto trieNoneSpec)

end Rows
end Go.Proofs.Ytpbdamjpjpchiaa
