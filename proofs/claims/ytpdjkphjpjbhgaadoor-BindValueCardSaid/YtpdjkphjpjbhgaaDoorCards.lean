/-
  DERIVED. GIVEN WITH THE SEED: THE CARDS: each row of YtpdjkphjpjbhgaaDoorRows.lean that lists a variable, with what it lists TIED to the program's text (the seventh form; the later family's looks); each row that meets fmt, with fmt's text TOLD by the authors' own Lean function (tested against real Go, not proved from fmt's source: count such statements apart). THE CARD IS WHAT COUNTS. Prove the row's statement (the work); the ties are given (YtpdjkphjpjbhgaaDoorTie.lean); close each card by the builder's one call (the guide's Derived/Test/ToyasCard.lean, 'card_holds'). Laid BY PROGRAM, IN A SANDBOX (cutbox-door.mjs). By AI agents, Wed Nov 11 2026. No macro, syntax, notation, axiom, sorry.
-/
import Derived.Test.YtpdjkphjpjbhgaaDoorRows
import GoSem.ClaimSeven
namespace Go.Proofs.YtpdjkphjpjbhgaaDoor
namespace Rows

/-- THE TIED CARD OF 'typebarlaw23.BindOf'. -/
def bindOfCard : Claim7 := { stood := { row := bindOfRow, standIns := [], harness := (true, "16cbc2dfc2d3d1f5ed8d21b59e8141c117fe8c056bb552338706c5312c6e365d"), looks := true }, kinds := [], alts := [], laidByText := true, laidKinds := [.data], laidTests := true, laidLooks := .later }
def BindOfCardSaid : Prop := Claim7.holds Tryd.pinned (.plain (OpenSpec.ofChange bindOfSpec)) bindOfCard

/-- THE TIED CARD OF 'typebarlaw23.BindLooks'. -/
def bindLooksCard : Claim7 := { stood := { row := bindLooksRow, standIns := [], harness := (true, "16cbc2dfc2d3d1f5ed8d21b59e8141c117fe8c056bb552338706c5312c6e365d"), looks := true }, kinds := [], alts := [], laidByText := true, laidKinds := [.data], laidTests := true, laidLooks := .later }
def BindLooksCardSaid : Prop := Claim7.holds Tryd.pinned (.plain (OpenSpec.ofChange bindLooksSpec)) bindLooksCard

/-- THE TIED CARD OF 'typebarlaw23.BindValue'. -/
def bindValueCard : Claim7 := { stood := { row := bindValueRow, standIns := [], harness := (true, "16cbc2dfc2d3d1f5ed8d21b59e8141c117fe8c056bb552338706c5312c6e365d"), looks := true }, kinds := [], alts := [], laidByText := true, laidKinds := [.data], laidTests := true, laidLooks := .later }
def BindValueCardSaid : Prop := Claim7.holds Tryd.pinned (.plain (OpenSpec.ofChange bindValueSpec)) bindValueCard

/-- THE SECOND FORM's CARD OF 'typebarlaw23.BindOf'. -/
def bindOfUptoCard : Claim7 := { stood := { row := bindOfUptoRow, standIns := [], harness := (true, "16cbc2dfc2d3d1f5ed8d21b59e8141c117fe8c056bb552338706c5312c6e365d"), looks := true }, kinds := [], alts := [], laidByText := true, laidKinds := [.data], laidTests := true, laidLooks := .later }
def BindOfUptoCardSaid : Prop := Claim7.holds Tryd.pinned (.plain (OpenSpec.upto bindOfSpec)) bindOfUptoCard

/-- THE SECOND FORM's CARD OF 'typebarlaw23.BindLooks'. -/
def bindLooksUptoCard : Claim7 := { stood := { row := bindLooksUptoRow, standIns := [], harness := (true, "16cbc2dfc2d3d1f5ed8d21b59e8141c117fe8c056bb552338706c5312c6e365d"), looks := true }, kinds := [], alts := [], laidByText := true, laidKinds := [.data], laidTests := true, laidLooks := .later }
def BindLooksUptoCardSaid : Prop := Claim7.holds Tryd.pinned (.plain (OpenSpec.upto bindLooksSpec)) bindLooksUptoCard

/-- THE SECOND FORM's CARD OF 'typebarlaw23.BindValue'. -/
def bindValueUptoCard : Claim7 := { stood := { row := bindValueUptoRow, standIns := [], harness := (true, "16cbc2dfc2d3d1f5ed8d21b59e8141c117fe8c056bb552338706c5312c6e365d"), looks := true }, kinds := [], alts := [], laidByText := true, laidKinds := [.data], laidTests := true, laidLooks := .later }
def BindValueUptoCardSaid : Prop := Claim7.holds Tryd.pinned (.plain (OpenSpec.upto bindValueSpec)) bindValueUptoCard
end Rows
end Go.Proofs.YtpdjkphjpjbhgaaDoor
