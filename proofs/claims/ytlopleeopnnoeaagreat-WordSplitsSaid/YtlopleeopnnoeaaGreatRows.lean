/-
  No cell of these rows narrows 'for every input' (looked for: loops, veiled, ifaces, maps, wideKeys, modest, calm, conditions, laid).
  DERIVED. THE GIVEN ROWS OF THIS SEAT. 12 by the template 'for every input the law returns true; each argument reads behind the call as it read before'; 0 by the template 'total and deterministic' (their statements: YtlopleeopnnoeaaGreatTotals.lean).
  GIVEN WITH THE SEED: the statements are not yours to turn. If you find one false, say at which input.
  Laid BY PROGRAM, IN A SANDBOX (cutbox-rows.mjs): the forced cells as the released guide's own fill.sh prints them over the translation 0a07cf283963dbcc… (all of the seat's roots in one cut). By AI agents, Wed Nov 11 2026. No macro, syntax, notation, axiom, sorry.
-/
import Derived.Test.YtlopleeopnnoeaaGreatChecked
import GoSem.Claim
import GoSem.ClaimJoined
import GoSem.ClaimMapViews
import Derived.JoinedTies
import Derived.KernelRfl
namespace Go.Proofs.YtlopleeopnnoeaaGreat
/- THE CELL 'sum', in the pinned program and in every row, IS THE sha256 OF THE DUMP (.gsa) THAT YtlopleeopnnoeaaGreatProg.lean LOADS. Nothing in Lean hashes anything: it is a label: what it is worth is what the hold of that sum in a sandbox is worth. -/
noncomputable def Tryz.pinned : Pinned := { name := "ytlopleeopnnoeaagreat", sum := "0a07cf283963dbccbee17da95643bdcd052172efbdba79495473b66e0b37af66", checked := Tryz.checked }
namespace Rows
def none {H : Type} : Left H := { results := [], args := [] }

/-- 'typebarlaw13.GlyphShows': WHATEVER THE INPUT: true; the input reads as it did. -/
def glyphShowsSpec : ChangeSpec := { name := "glyphShows", fn := fun _ => fun
  | [d] => { results := [.lit (.bool true)], args := [d] }
  | _ => none }
def glyphShowsRow : OpenClaim := { program := "ytlopleeopnnoeaagreat", sum := "0a07cf283963dbccbee17da95643bdcd052172efbdba79495473b66e0b37af66", func := "typebar/typebarlaw13.GlyphShows", spec := "glyphShows", inPlace := ["internal/abi.NoEscape", "internal/bytealg.MakeNoZero"], unfollowed := true, recurses := true, plainKeys := false, apart := false }
def GlyphShowsSaid : Prop := glyphShowsRow.holds Tryz.pinned (OpenSpec.ofChange glyphShowsSpec)

/-- ITS FALSE NEIGHBOUR: 'it returns false'. Refute it at one input. -/
def glyphShowsWrong : ChangeSpec := { name := "glyphShows", fn := fun _ => fun
  | [d] => { results := [.lit (.bool false)], args := [d] }
  | _ => none }
def GlyphShowsWrongFalsely : Prop := glyphShowsRow.holds Tryz.pinned (OpenSpec.ofChange glyphShowsWrong)

/-- 'typebarlaw13.GlyphWide': WHATEVER THE INPUT: true; the input reads as it did. -/
def glyphWideSpec : ChangeSpec := { name := "glyphWide", fn := fun _ => fun
  | [d] => { results := [.lit (.bool true)], args := [d] }
  | _ => none }
def glyphWideRow : OpenClaim := { program := "ytlopleeopnnoeaagreat", sum := "0a07cf283963dbccbee17da95643bdcd052172efbdba79495473b66e0b37af66", func := "typebar/typebarlaw13.GlyphWide", spec := "glyphWide", inPlace := ["internal/abi.NoEscape", "internal/bytealg.MakeNoZero"], unfollowed := true, recurses := true, plainKeys := false, apart := false }
def GlyphWideSaid : Prop := glyphWideRow.holds Tryz.pinned (OpenSpec.ofChange glyphWideSpec)

/-- ITS FALSE NEIGHBOUR: 'it returns false'. Refute it at one input. -/
def glyphWideWrong : ChangeSpec := { name := "glyphWide", fn := fun _ => fun
  | [d] => { results := [.lit (.bool false)], args := [d] }
  | _ => none }
def GlyphWideWrongFalsely : Prop := glyphWideRow.holds Tryz.pinned (OpenSpec.ofChange glyphWideWrong)

/-- 'typebarlaw13.GlyphLines': WHATEVER THE INPUT: true; the input reads as it did. -/
def glyphLinesSpec : ChangeSpec := { name := "glyphLines", fn := fun _ => fun
  | [d1, d2] => { results := [.lit (.bool true)], args := [d1, d2] }
  | _ => none }
def glyphLinesRow : OpenClaim := { program := "ytlopleeopnnoeaagreat", sum := "0a07cf283963dbccbee17da95643bdcd052172efbdba79495473b66e0b37af66", func := "typebar/typebarlaw13.GlyphLines", spec := "glyphLines", inPlace := ["internal/abi.NoEscape", "internal/bytealg.MakeNoZero"], unfollowed := true, recurses := true, plainKeys := false, apart := false }
def GlyphLinesSaid : Prop := glyphLinesRow.holds Tryz.pinned (OpenSpec.ofChange glyphLinesSpec)

/-- ITS FALSE NEIGHBOUR: 'it returns false'. Refute it at one input. -/
def glyphLinesWrong : ChangeSpec := { name := "glyphLines", fn := fun _ => fun
  | [d1, d2] => { results := [.lit (.bool false)], args := [d1, d2] }
  | _ => none }
def GlyphLinesWrongFalsely : Prop := glyphLinesRow.holds Tryz.pinned (OpenSpec.ofChange glyphLinesWrong)

/-- 'typebarlaw13.GlyphReads': WHATEVER THE INPUT: true; the input reads as it did. -/
def glyphReadsSpec : ChangeSpec := { name := "glyphReads", fn := fun _ => fun
  | [d1, d2, d3] => { results := [.lit (.bool true)], args := [d1, d2, d3] }
  | _ => none }
def glyphReadsRow : OpenClaim := { program := "ytlopleeopnnoeaagreat", sum := "0a07cf283963dbccbee17da95643bdcd052172efbdba79495473b66e0b37af66", func := "typebar/typebarlaw13.GlyphReads", spec := "glyphReads", inPlace := ["internal/abi.NoEscape", "internal/bytealg.MakeNoZero"], unfollowed := true, recurses := true, plainKeys := false, apart := false }
def GlyphReadsSaid : Prop := glyphReadsRow.holds Tryz.pinned (OpenSpec.ofChange glyphReadsSpec)

/-- ITS FALSE NEIGHBOUR: 'it returns false'. Refute it at one input. -/
def glyphReadsWrong : ChangeSpec := { name := "glyphReads", fn := fun _ => fun
  | [d1, d2, d3] => { results := [.lit (.bool false)], args := [d1, d2, d3] }
  | _ => none }
def GlyphReadsWrongFalsely : Prop := glyphReadsRow.holds Tryz.pinned (OpenSpec.ofChange glyphReadsWrong)

/-- 'typebarlaw13.GlyphBetween': WHATEVER THE INPUT: true; the input reads as it did. -/
def glyphBetweenSpec : ChangeSpec := { name := "glyphBetween", fn := fun _ => fun
  | [d] => { results := [.lit (.bool true)], args := [d] }
  | _ => none }
def glyphBetweenRow : OpenClaim := { program := "ytlopleeopnnoeaagreat", sum := "0a07cf283963dbccbee17da95643bdcd052172efbdba79495473b66e0b37af66", func := "typebar/typebarlaw13.GlyphBetween", spec := "glyphBetween", inPlace := ["internal/abi.NoEscape", "internal/bytealg.MakeNoZero"], unfollowed := true, recurses := true, plainKeys := false, apart := false }
def GlyphBetweenSaid : Prop := glyphBetweenRow.holds Tryz.pinned (OpenSpec.ofChange glyphBetweenSpec)

/-- ITS FALSE NEIGHBOUR: 'it returns false'. Refute it at one input. -/
def glyphBetweenWrong : ChangeSpec := { name := "glyphBetween", fn := fun _ => fun
  | [d] => { results := [.lit (.bool false)], args := [d] }
  | _ => none }
def GlyphBetweenWrongFalsely : Prop := glyphBetweenRow.holds Tryz.pinned (OpenSpec.ofChange glyphBetweenWrong)

/-- 'typebarlaw12.WordWords': WHATEVER THE INPUT: true; the input reads as it did. -/
def wordWordsSpec : ChangeSpec := { name := "wordWords", fn := fun _ => fun
  | [d] => { results := [.lit (.bool true)], args := [d] }
  | _ => none }
def wordWordsRow : OpenClaim := { program := "ytlopleeopnnoeaagreat", sum := "0a07cf283963dbccbee17da95643bdcd052172efbdba79495473b66e0b37af66", func := "typebar/typebarlaw12.WordWords", spec := "wordWords", unfollowed := true, recurses := true, plainKeys := false, apart := false }
def WordWordsSaid : Prop := wordWordsRow.holds Tryz.pinned (OpenSpec.ofChange wordWordsSpec)

/-- ITS FALSE NEIGHBOUR: 'it returns false'. Refute it at one input. -/
def wordWordsWrong : ChangeSpec := { name := "wordWords", fn := fun _ => fun
  | [d] => { results := [.lit (.bool false)], args := [d] }
  | _ => none }
def WordWordsWrongFalsely : Prop := wordWordsRow.holds Tryz.pinned (OpenSpec.ofChange wordWordsWrong)

/-- 'typebarlaw12.WordGoes': WHATEVER THE INPUT: true; the input reads as it did. -/
def wordGoesSpec : ChangeSpec := { name := "wordGoes", fn := fun _ => fun
  | [d1, d2] => { results := [.lit (.bool true)], args := [d1, d2] }
  | _ => none }
def wordGoesRow : OpenClaim := { program := "ytlopleeopnnoeaagreat", sum := "0a07cf283963dbccbee17da95643bdcd052172efbdba79495473b66e0b37af66", func := "typebar/typebarlaw12.WordGoes", spec := "wordGoes", unfollowed := true, recurses := true, plainKeys := false, apart := false }
def WordGoesSaid : Prop := wordGoesRow.holds Tryz.pinned (OpenSpec.ofChange wordGoesSpec)

/-- ITS FALSE NEIGHBOUR: 'it returns false'. Refute it at one input. -/
def wordGoesWrong : ChangeSpec := { name := "wordGoes", fn := fun _ => fun
  | [d1, d2] => { results := [.lit (.bool false)], args := [d1, d2] }
  | _ => none }
def WordGoesWrongFalsely : Prop := wordGoesRow.holds Tryz.pinned (OpenSpec.ofChange wordGoesWrong)

/-- 'typebarlaw12.WordWalks': WHATEVER THE INPUT: true; the input reads as it did. -/
def wordWalksSpec : ChangeSpec := { name := "wordWalks", fn := fun _ => fun
  | [d] => { results := [.lit (.bool true)], args := [d] }
  | _ => none }
def wordWalksRow : OpenClaim := { program := "ytlopleeopnnoeaagreat", sum := "0a07cf283963dbccbee17da95643bdcd052172efbdba79495473b66e0b37af66", func := "typebar/typebarlaw12.WordWalks", spec := "wordWalks", unfollowed := true, recurses := true, plainKeys := false, apart := false }
def WordWalksSaid : Prop := wordWalksRow.holds Tryz.pinned (OpenSpec.ofChange wordWalksSpec)

/-- ITS FALSE NEIGHBOUR: 'it returns false'. Refute it at one input. -/
def wordWalksWrong : ChangeSpec := { name := "wordWalks", fn := fun _ => fun
  | [d] => { results := [.lit (.bool false)], args := [d] }
  | _ => none }
def WordWalksWrongFalsely : Prop := wordWalksRow.holds Tryz.pinned (OpenSpec.ofChange wordWalksWrong)

/-- 'typebarlaw12.WordSplits': WHATEVER THE INPUT: true; the input reads as it did. -/
def wordSplitsSpec : ChangeSpec := { name := "wordSplits", fn := fun _ => fun
  | [d] => { results := [.lit (.bool true)], args := [d] }
  | _ => none }
def wordSplitsRow : OpenClaim := { program := "ytlopleeopnnoeaagreat", sum := "0a07cf283963dbccbee17da95643bdcd052172efbdba79495473b66e0b37af66", func := "typebar/typebarlaw12.WordSplits", spec := "wordSplits", unfollowed := true, recurses := true, plainKeys := false, apart := false }
def WordSplitsSaid : Prop := wordSplitsRow.holds Tryz.pinned (OpenSpec.ofChange wordSplitsSpec)

/-- ITS FALSE NEIGHBOUR: 'it returns false'. Refute it at one input. -/
def wordSplitsWrong : ChangeSpec := { name := "wordSplits", fn := fun _ => fun
  | [d] => { results := [.lit (.bool false)], args := [d] }
  | _ => none }
def WordSplitsWrongFalsely : Prop := wordSplitsRow.holds Tryz.pinned (OpenSpec.ofChange wordSplitsWrong)

/-- 'typebarlaw12.WordQuotes': WHATEVER THE INPUT: true; the input reads as it did. -/
def wordQuotesSpec : ChangeSpec := { name := "wordQuotes", fn := fun _ => fun
  | [d1, d2] => { results := [.lit (.bool true)], args := [d1, d2] }
  | _ => none }
def wordQuotesRow : OpenClaim := { program := "ytlopleeopnnoeaagreat", sum := "0a07cf283963dbccbee17da95643bdcd052172efbdba79495473b66e0b37af66", func := "typebar/typebarlaw12.WordQuotes", spec := "wordQuotes", unfollowed := true, recurses := true, plainKeys := false, apart := false }
def WordQuotesSaid : Prop := wordQuotesRow.holds Tryz.pinned (OpenSpec.ofChange wordQuotesSpec)

/-- ITS FALSE NEIGHBOUR: 'it returns false'. Refute it at one input. -/
def wordQuotesWrong : ChangeSpec := { name := "wordQuotes", fn := fun _ => fun
  | [d1, d2] => { results := [.lit (.bool false)], args := [d1, d2] }
  | _ => none }
def WordQuotesWrongFalsely : Prop := wordQuotesRow.holds Tryz.pinned (OpenSpec.ofChange wordQuotesWrong)

/-- 'typebarlaw45.ColumnsWidth': WHATEVER THE INPUT: true; the input reads as it did. -/
def columnsWidthSpec : ChangeSpec := { name := "columnsWidth", fn := fun _ => fun
  | [d] => { results := [.lit (.bool true)], args := [d] }
  | _ => none }
def columnsWidthRow : OpenClaim := { program := "ytlopleeopnnoeaagreat", sum := "0a07cf283963dbccbee17da95643bdcd052172efbdba79495473b66e0b37af66", func := "typebar/typebarlaw45.ColumnsWidth", spec := "columnsWidth", inPlace := ["internal/abi.NoEscape", "internal/bytealg.MakeNoZero"], unfollowed := true, recurses := true, plainKeys := false, apart := false }
def ColumnsWidthSaid : Prop := columnsWidthRow.holds Tryz.pinned (OpenSpec.ofChange columnsWidthSpec)

/-- ITS FALSE NEIGHBOUR: 'it returns false'. Refute it at one input. -/
def columnsWidthWrong : ChangeSpec := { name := "columnsWidth", fn := fun _ => fun
  | [d] => { results := [.lit (.bool false)], args := [d] }
  | _ => none }
def ColumnsWidthWrongFalsely : Prop := columnsWidthRow.holds Tryz.pinned (OpenSpec.ofChange columnsWidthWrong)

/-- 'typebarlaw41.UnitsNone': WHATEVER THE INPUT: true; the input reads as it did. -/
def unitsNoneSpec : ChangeSpec := { name := "unitsNone", fn := fun _ => fun
  | [d1, d2, d3] => { results := [.lit (.bool true)], args := [d1, d2, d3] }
  | _ => none }
def unitsNoneRow : OpenClaim := { program := "ytlopleeopnnoeaagreat", sum := "0a07cf283963dbccbee17da95643bdcd052172efbdba79495473b66e0b37af66", func := "typebar/typebarlaw41.UnitsNone", spec := "unitsNone", inPlace := ["internal/abi.NoEscape", "internal/bytealg.MakeNoZero"], unfollowed := true, recurses := true, plainKeys := false, apart := false }
def UnitsNoneSaid : Prop := unitsNoneRow.holds Tryz.pinned (OpenSpec.ofChange unitsNoneSpec)

/-- ITS FALSE NEIGHBOUR: 'it returns false'. Refute it at one input. -/
def unitsNoneWrong : ChangeSpec := { name := "unitsNone", fn := fun _ => fun
  | [d1, d2, d3] => { results := [.lit (.bool false)], args := [d1, d2, d3] }
  | _ => none }
def UnitsNoneWrongFalsely : Prop := unitsNoneRow.holds Tryz.pinned (OpenSpec.ofChange unitsNoneWrong)

/- THE SECOND FORM. 'bulk': how many values and letters a reading holds, each counted each time it is reached (what is shared counts as often as it is met; a slice's spare places count too). A statement '..UptoSaid' is the law's where the arguments, and the package variables that the reading takes, are together of bulk at most 1048576: NARROWER than '..Said'. Prove '..Said' where nothing that the law and all that it calls make is longer than what came in: it says more and counts as full. Else prove '..UptoSaid'. A law counts once. -/
mutual
def uptoBulk {H : Type} : DataW H → Nat
  | .lit (.string bytes) => bytes.length + 1
  | .lit _ => 1
  | .nil => 1
  | .ptr d => uptoBulk d + 1
  | .slice elems spare => uptoBulkAll elems + uptoBulkAll spare + 1
  | .agg parts => uptoBulkAll parts + 1
  | .iface _ d => uptoBulk d + 1
  | .map entries => uptoBulkEntries entries + 1
  | .held _ => 1
def uptoBulkAll {H : Type} : List (DataW H) → Nat
  | [] => 0
  | d :: r => uptoBulk d + uptoBulkAll r
def uptoBulkEntries {H : Type} : List (Lit × DataW H) → Nat
  | [] => 0
  | x :: r => uptoBulkEntry x + uptoBulkEntries r
def uptoBulkEntry {H : Type} : Lit × DataW H → Nat
  | (.string bytes, d) => bytes.length + uptoBulk d + 1
  | (_, d) => uptoBulk d + 1
 end
def uptoSmall : (H : Type) → List (DataW H) → Bool := fun _ ds => decide (uptoBulkAll ds ≤ 1048576)
def OpenSpec.upto (s : _root_.Go.ChangeSpec) : _root_.Go.OpenSpec := { _root_.Go.OpenSpec.ofChange s with cond := some uptoSmall }

/-- 'typebarlaw13.GlyphShows', WHERE WHAT IT READS IS OF BULK AT MOST 1048576: true; the input reads as it did. -/
def glyphShowsUptoRow : OpenClaim := { program := "ytlopleeopnnoeaagreat", sum := "0a07cf283963dbccbee17da95643bdcd052172efbdba79495473b66e0b37af66", func := "typebar/typebarlaw13.GlyphShows", spec := "glyphShows", inPlace := ["internal/abi.NoEscape", "internal/bytealg.MakeNoZero"], unfollowed := true, recurses := true, plainKeys := false, apart := false, narrowed := true }
def GlyphShowsUptoSaid : Prop := glyphShowsUptoRow.holds Tryz.pinned (OpenSpec.upto glyphShowsSpec)

/-- 'typebarlaw13.GlyphWide', WHERE WHAT IT READS IS OF BULK AT MOST 1048576: true; the input reads as it did. -/
def glyphWideUptoRow : OpenClaim := { program := "ytlopleeopnnoeaagreat", sum := "0a07cf283963dbccbee17da95643bdcd052172efbdba79495473b66e0b37af66", func := "typebar/typebarlaw13.GlyphWide", spec := "glyphWide", inPlace := ["internal/abi.NoEscape", "internal/bytealg.MakeNoZero"], unfollowed := true, recurses := true, plainKeys := false, apart := false, narrowed := true }
def GlyphWideUptoSaid : Prop := glyphWideUptoRow.holds Tryz.pinned (OpenSpec.upto glyphWideSpec)

/-- 'typebarlaw13.GlyphLines', WHERE WHAT IT READS IS OF BULK AT MOST 1048576: true; the input reads as it did. -/
def glyphLinesUptoRow : OpenClaim := { program := "ytlopleeopnnoeaagreat", sum := "0a07cf283963dbccbee17da95643bdcd052172efbdba79495473b66e0b37af66", func := "typebar/typebarlaw13.GlyphLines", spec := "glyphLines", inPlace := ["internal/abi.NoEscape", "internal/bytealg.MakeNoZero"], unfollowed := true, recurses := true, plainKeys := false, apart := false, narrowed := true }
def GlyphLinesUptoSaid : Prop := glyphLinesUptoRow.holds Tryz.pinned (OpenSpec.upto glyphLinesSpec)

/-- 'typebarlaw13.GlyphReads', WHERE WHAT IT READS IS OF BULK AT MOST 1048576: true; the input reads as it did. -/
def glyphReadsUptoRow : OpenClaim := { program := "ytlopleeopnnoeaagreat", sum := "0a07cf283963dbccbee17da95643bdcd052172efbdba79495473b66e0b37af66", func := "typebar/typebarlaw13.GlyphReads", spec := "glyphReads", inPlace := ["internal/abi.NoEscape", "internal/bytealg.MakeNoZero"], unfollowed := true, recurses := true, plainKeys := false, apart := false, narrowed := true }
def GlyphReadsUptoSaid : Prop := glyphReadsUptoRow.holds Tryz.pinned (OpenSpec.upto glyphReadsSpec)

/-- 'typebarlaw13.GlyphBetween', WHERE WHAT IT READS IS OF BULK AT MOST 1048576: true; the input reads as it did. -/
def glyphBetweenUptoRow : OpenClaim := { program := "ytlopleeopnnoeaagreat", sum := "0a07cf283963dbccbee17da95643bdcd052172efbdba79495473b66e0b37af66", func := "typebar/typebarlaw13.GlyphBetween", spec := "glyphBetween", inPlace := ["internal/abi.NoEscape", "internal/bytealg.MakeNoZero"], unfollowed := true, recurses := true, plainKeys := false, apart := false, narrowed := true }
def GlyphBetweenUptoSaid : Prop := glyphBetweenUptoRow.holds Tryz.pinned (OpenSpec.upto glyphBetweenSpec)

/-- 'typebarlaw12.WordWords', WHERE WHAT IT READS IS OF BULK AT MOST 1048576: true; the input reads as it did. -/
def wordWordsUptoRow : OpenClaim := { program := "ytlopleeopnnoeaagreat", sum := "0a07cf283963dbccbee17da95643bdcd052172efbdba79495473b66e0b37af66", func := "typebar/typebarlaw12.WordWords", spec := "wordWords", unfollowed := true, recurses := true, plainKeys := false, apart := false, narrowed := true }
def WordWordsUptoSaid : Prop := wordWordsUptoRow.holds Tryz.pinned (OpenSpec.upto wordWordsSpec)

/-- 'typebarlaw12.WordGoes', WHERE WHAT IT READS IS OF BULK AT MOST 1048576: true; the input reads as it did. -/
def wordGoesUptoRow : OpenClaim := { program := "ytlopleeopnnoeaagreat", sum := "0a07cf283963dbccbee17da95643bdcd052172efbdba79495473b66e0b37af66", func := "typebar/typebarlaw12.WordGoes", spec := "wordGoes", unfollowed := true, recurses := true, plainKeys := false, apart := false, narrowed := true }
def WordGoesUptoSaid : Prop := wordGoesUptoRow.holds Tryz.pinned (OpenSpec.upto wordGoesSpec)

/-- 'typebarlaw12.WordWalks', WHERE WHAT IT READS IS OF BULK AT MOST 1048576: true; the input reads as it did. -/
def wordWalksUptoRow : OpenClaim := { program := "ytlopleeopnnoeaagreat", sum := "0a07cf283963dbccbee17da95643bdcd052172efbdba79495473b66e0b37af66", func := "typebar/typebarlaw12.WordWalks", spec := "wordWalks", unfollowed := true, recurses := true, plainKeys := false, apart := false, narrowed := true }
def WordWalksUptoSaid : Prop := wordWalksUptoRow.holds Tryz.pinned (OpenSpec.upto wordWalksSpec)

/-- 'typebarlaw12.WordSplits', WHERE WHAT IT READS IS OF BULK AT MOST 1048576: true; the input reads as it did. -/
def wordSplitsUptoRow : OpenClaim := { program := "ytlopleeopnnoeaagreat", sum := "0a07cf283963dbccbee17da95643bdcd052172efbdba79495473b66e0b37af66", func := "typebar/typebarlaw12.WordSplits", spec := "wordSplits", unfollowed := true, recurses := true, plainKeys := false, apart := false, narrowed := true }
def WordSplitsUptoSaid : Prop := wordSplitsUptoRow.holds Tryz.pinned (OpenSpec.upto wordSplitsSpec)

/-- 'typebarlaw12.WordQuotes', WHERE WHAT IT READS IS OF BULK AT MOST 1048576: true; the input reads as it did. -/
def wordQuotesUptoRow : OpenClaim := { program := "ytlopleeopnnoeaagreat", sum := "0a07cf283963dbccbee17da95643bdcd052172efbdba79495473b66e0b37af66", func := "typebar/typebarlaw12.WordQuotes", spec := "wordQuotes", unfollowed := true, recurses := true, plainKeys := false, apart := false, narrowed := true }
def WordQuotesUptoSaid : Prop := wordQuotesUptoRow.holds Tryz.pinned (OpenSpec.upto wordQuotesSpec)

/-- 'typebarlaw45.ColumnsWidth', WHERE WHAT IT READS IS OF BULK AT MOST 1048576: true; the input reads as it did. -/
def columnsWidthUptoRow : OpenClaim := { program := "ytlopleeopnnoeaagreat", sum := "0a07cf283963dbccbee17da95643bdcd052172efbdba79495473b66e0b37af66", func := "typebar/typebarlaw45.ColumnsWidth", spec := "columnsWidth", inPlace := ["internal/abi.NoEscape", "internal/bytealg.MakeNoZero"], unfollowed := true, recurses := true, plainKeys := false, apart := false, narrowed := true }
def ColumnsWidthUptoSaid : Prop := columnsWidthUptoRow.holds Tryz.pinned (OpenSpec.upto columnsWidthSpec)

/-- 'typebarlaw41.UnitsNone', WHERE WHAT IT READS IS OF BULK AT MOST 1048576: true; the input reads as it did. -/
def unitsNoneUptoRow : OpenClaim := { program := "ytlopleeopnnoeaagreat", sum := "0a07cf283963dbccbee17da95643bdcd052172efbdba79495473b66e0b37af66", func := "typebar/typebarlaw41.UnitsNone", spec := "unitsNone", inPlace := ["internal/abi.NoEscape", "internal/bytealg.MakeNoZero"], unfollowed := true, recurses := true, plainKeys := false, apart := false, narrowed := true }
def UnitsNoneUptoSaid : Prop := unitsNoneUptoRow.holds Tryz.pinned (OpenSpec.upto unitsNoneSpec)

end Rows
end Go.Proofs.YtlopleeopnnoeaaGreat
