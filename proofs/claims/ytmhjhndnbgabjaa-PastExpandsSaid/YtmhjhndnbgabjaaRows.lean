/-
  No cell of these rows narrows 'for every input' (looked for: loops, veiled, ifaces, maps, wideKeys, modest, calm, conditions, laid).
  DERIVED. THE GIVEN ROWS OF THIS SEAT. 5 by the template 'for every input the law returns true; each argument reads behind the call as it read before'; 0 by the template 'total and deterministic' (their statements: YtmhjhndnbgabjaaTotals.lean).
  GIVEN WITH THE SEED: the statements are not yours to turn. If you find one false, say at which input.
  Laid BY PROGRAM, IN A SANDBOX (cutbox-rows.mjs): the forced cells as the released guide's own fill.sh prints them over the translation e76b85594968ccc8… (all of the seat's roots in one cut). By AI agents, Wed Nov 11 2026. No macro, syntax, notation, axiom, sorry.
-/
import Derived.Test.YtmhjhndnbgabjaaChecked
import GoSem.Claim
import GoSem.ClaimJoined
import GoSem.ClaimMapViews
import Derived.JoinedTies
import Derived.KernelRfl
namespace Go.Proofs.Ytmhjhndnbgabjaa
/- THE CELL 'sum', in the pinned program and in every row, IS THE sha256 OF THE DUMP (.gsa) THAT YtmhjhndnbgabjaaProg.lean LOADS. Nothing in Lean hashes anything: it is a label: what it is worth is what the hold of that sum in a sandbox is worth. -/
noncomputable def Try.pinned : Pinned := { name := "ytmhjhndnbgabjaa", sum := "e76b85594968ccc8d3752f0a947142dcf1b1f8f7ae7679585f17445faf4c4682", checked := Try.checked }
namespace Rows
def none {H : Type} : Left H := { results := [], args := [] }

/-- 'typebarlaw20.PastPlays': WHATEVER THE INPUT: true; the input reads as it did. -/
def pastPlaysSpec : ChangeSpec := { name := "pastPlays", fn := fun _ => fun
  | [d] => { results := [.lit (.bool true)], args := [d] }
  | _ => none }
def pastPlaysRow : OpenClaim := { program := "ytmhjhndnbgabjaa", sum := "e76b85594968ccc8d3752f0a947142dcf1b1f8f7ae7679585f17445faf4c4682", func := "typebar/typebarlaw20.PastPlays", spec := "pastPlays", unfollowed := true, recurses := true, apart := false }
def PastPlaysSaid : Prop := pastPlaysRow.holds Try.pinned (OpenSpec.ofChange pastPlaysSpec)

/-- ITS FALSE NEIGHBOUR: 'it returns false'. Refute it at one input. -/
def pastPlaysWrong : ChangeSpec := { name := "pastPlays", fn := fun _ => fun
  | [d] => { results := [.lit (.bool false)], args := [d] }
  | _ => none }
def PastPlaysWrongFalsely : Prop := pastPlaysRow.holds Try.pinned (OpenSpec.ofChange pastPlaysWrong)

/-- 'typebarlaw20.PastBack': WHATEVER THE INPUT: true; the input reads as it did. -/
def pastBackSpec : ChangeSpec := { name := "pastBack", fn := fun _ => fun
  | [d1, d2, d3] => { results := [.lit (.bool true)], args := [d1, d2, d3] }
  | _ => none }
def pastBackRow : OpenClaim := { program := "ytmhjhndnbgabjaa", sum := "e76b85594968ccc8d3752f0a947142dcf1b1f8f7ae7679585f17445faf4c4682", func := "typebar/typebarlaw20.PastBack", spec := "pastBack", apart := false }
def PastBackSaid : Prop := pastBackRow.holds Try.pinned (OpenSpec.ofChange pastBackSpec)

/-- ITS FALSE NEIGHBOUR: 'it returns false'. Refute it at one input. -/
def pastBackWrong : ChangeSpec := { name := "pastBack", fn := fun _ => fun
  | [d1, d2, d3] => { results := [.lit (.bool false)], args := [d1, d2, d3] }
  | _ => none }
def PastBackWrongFalsely : Prop := pastBackRow.holds Try.pinned (OpenSpec.ofChange pastBackWrong)

/-- 'typebarlaw20.PastMost': WHATEVER THE INPUT: true; the input reads as it did. -/
def pastMostSpec : ChangeSpec := { name := "pastMost", fn := fun _ => fun
  | [d1, d2] => { results := [.lit (.bool true)], args := [d1, d2] }
  | _ => none }
def pastMostRow : OpenClaim := { program := "ytmhjhndnbgabjaa", sum := "e76b85594968ccc8d3752f0a947142dcf1b1f8f7ae7679585f17445faf4c4682", func := "typebar/typebarlaw20.PastMost", spec := "pastMost", unfollowed := true, recurses := true, apart := false }
def PastMostSaid : Prop := pastMostRow.holds Try.pinned (OpenSpec.ofChange pastMostSpec)

/-- ITS FALSE NEIGHBOUR: 'it returns false'. Refute it at one input. -/
def pastMostWrong : ChangeSpec := { name := "pastMost", fn := fun _ => fun
  | [d1, d2] => { results := [.lit (.bool false)], args := [d1, d2] }
  | _ => none }
def PastMostWrongFalsely : Prop := pastMostRow.holds Try.pinned (OpenSpec.ofChange pastMostWrong)

/-- 'typebarlaw20.PastExpands': WHATEVER THE INPUT: true; the input reads as it did. -/
def pastExpandsSpec : ChangeSpec := { name := "pastExpands", fn := fun _ => fun
  | [d1, d2] => { results := [.lit (.bool true)], args := [d1, d2] }
  | _ => none }
def pastExpandsRow : OpenClaim := { program := "ytmhjhndnbgabjaa", sum := "e76b85594968ccc8d3752f0a947142dcf1b1f8f7ae7679585f17445faf4c4682", func := "typebar/typebarlaw20.PastExpands", spec := "pastExpands", unfollowed := true, recurses := true, apart := false }
def PastExpandsSaid : Prop := pastExpandsRow.holds Try.pinned (OpenSpec.ofChange pastExpandsSpec)

/-- ITS FALSE NEIGHBOUR: 'it returns false'. Refute it at one input. -/
def pastExpandsWrong : ChangeSpec := { name := "pastExpands", fn := fun _ => fun
  | [d1, d2] => { results := [.lit (.bool false)], args := [d1, d2] }
  | _ => none }
def PastExpandsWrongFalsely : Prop := pastExpandsRow.holds Try.pinned (OpenSpec.ofChange pastExpandsWrong)

/-- 'typebarlaw20.PastPlain': WHATEVER THE INPUT: true; the input reads as it did. -/
def pastPlainSpec : ChangeSpec := { name := "pastPlain", fn := fun _ => fun
  | [d1, d2] => { results := [.lit (.bool true)], args := [d1, d2] }
  | _ => none }
def pastPlainRow : OpenClaim := { program := "ytmhjhndnbgabjaa", sum := "e76b85594968ccc8d3752f0a947142dcf1b1f8f7ae7679585f17445faf4c4682", func := "typebar/typebarlaw20.PastPlain", spec := "pastPlain", unfollowed := true, recurses := true, apart := false }
def PastPlainSaid : Prop := pastPlainRow.holds Try.pinned (OpenSpec.ofChange pastPlainSpec)

/-- ITS FALSE NEIGHBOUR: 'it returns false'. Refute it at one input. -/
def pastPlainWrong : ChangeSpec := { name := "pastPlain", fn := fun _ => fun
  | [d1, d2] => { results := [.lit (.bool false)], args := [d1, d2] }
  | _ => none }
def PastPlainWrongFalsely : Prop := pastPlainRow.holds Try.pinned (OpenSpec.ofChange pastPlainWrong)

/- THE SECOND FORM. 'bulk': how many values and letters a reading holds, each counted each time it is reached (what is shared counts as often as it is met; a slice's spare places count too). A statement '..UptoSaid' is the law's where the arguments, and the package variables that the reading takes, are together of bulk at most 1048576: NARROWER than '..Said'. Prove '..Said' where nothing that the law and all that it calls make is longer than what came in: it says more and counts as full. Else prove '..UptoSaid'. A law counts once. -/
mutual
def uptoBulk {H : Type} : DataW H → Nat
  | .lit (.string bytes) => bytes.length + 1
  | .lit _ => 1
  | .nil => 1
  | .ptr d => uptoBulk d + 1
  | .slice elems spare => uptoBulkAll elems + uptoBulkAll spare + 1
  | .agg parts => uptoBulkAll parts + 1
  | .iface _ d => uptoBulk d + 1
  | .map entries => uptoBulkEntries entries + 1
  | .held _ => 1
def uptoBulkAll {H : Type} : List (DataW H) → Nat
  | [] => 0
  | d :: r => uptoBulk d + uptoBulkAll r
def uptoBulkEntries {H : Type} : List (Lit × DataW H) → Nat
  | [] => 0
  | x :: r => uptoBulkEntry x + uptoBulkEntries r
def uptoBulkEntry {H : Type} : Lit × DataW H → Nat
  | (.string bytes, d) => bytes.length + uptoBulk d + 1
  | (_, d) => uptoBulk d + 1
 end
def uptoSmall : (H : Type) → List (DataW H) → Bool := fun _ ds => decide (uptoBulkAll ds ≤ 1048576)
def OpenSpec.upto (s : _root_.Go.ChangeSpec) : _root_.Go.OpenSpec := { _root_.Go.OpenSpec.ofChange s with cond := some uptoSmall }

/-- 'typebarlaw20.PastPlays', WHERE WHAT IT READS IS OF BULK AT MOST 1048576: true; the input reads as it did. -/
def pastPlaysUptoRow : OpenClaim := { program := "ytmhjhndnbgabjaa", sum := "e76b85594968ccc8d3752f0a947142dcf1b1f8f7ae7679585f17445faf4c4682", func := "typebar/typebarlaw20.PastPlays", spec := "pastPlays", unfollowed := true, recurses := true, apart := false, narrowed := true }
def PastPlaysUptoSaid : Prop := pastPlaysUptoRow.holds Try.pinned (OpenSpec.upto pastPlaysSpec)

/-- 'typebarlaw20.PastBack', WHERE WHAT IT READS IS OF BULK AT MOST 1048576: true; the input reads as it did. -/
def pastBackUptoRow : OpenClaim := { program := "ytmhjhndnbgabjaa", sum := "e76b85594968ccc8d3752f0a947142dcf1b1f8f7ae7679585f17445faf4c4682", func := "typebar/typebarlaw20.PastBack", spec := "pastBack", apart := false, narrowed := true }
def PastBackUptoSaid : Prop := pastBackUptoRow.holds Try.pinned (OpenSpec.upto pastBackSpec)

/-- 'typebarlaw20.PastMost', WHERE WHAT IT READS IS OF BULK AT MOST 1048576: true; the input reads as it did. -/
def pastMostUptoRow : OpenClaim := { program := "ytmhjhndnbgabjaa", sum := "e76b85594968ccc8d3752f0a947142dcf1b1f8f7ae7679585f17445faf4c4682", func := "typebar/typebarlaw20.PastMost", spec := "pastMost", unfollowed := true, recurses := true, apart := false, narrowed := true }
def PastMostUptoSaid : Prop := pastMostUptoRow.holds Try.pinned (OpenSpec.upto pastMostSpec)

/-- 'typebarlaw20.PastExpands', WHERE WHAT IT READS IS OF BULK AT MOST 1048576: true; the input reads as it did. -/
def pastExpandsUptoRow : OpenClaim := { program := "ytmhjhndnbgabjaa", sum := "e76b85594968ccc8d3752f0a947142dcf1b1f8f7ae7679585f17445faf4c4682", func := "typebar/typebarlaw20.PastExpands", spec := "pastExpands", unfollowed := true, recurses := true, apart := false, narrowed := true }
def PastExpandsUptoSaid : Prop := pastExpandsUptoRow.holds Try.pinned (OpenSpec.upto pastExpandsSpec)

/-- 'typebarlaw20.PastPlain', WHERE WHAT IT READS IS OF BULK AT MOST 1048576: true; the input reads as it did. -/
def pastPlainUptoRow : OpenClaim := { program := "ytmhjhndnbgabjaa", sum := "e76b85594968ccc8d3752f0a947142dcf1b1f8f7ae7679585f17445faf4c4682", func := "typebar/typebarlaw20.PastPlain", spec := "pastPlain", unfollowed := true, recurses := true, apart := false, narrowed := true }
def PastPlainUptoSaid : Prop := pastPlainUptoRow.holds Try.pinned (OpenSpec.upto pastPlainSpec)

end Rows
end Go.Proofs.Ytmhjhndnbgabjaa
