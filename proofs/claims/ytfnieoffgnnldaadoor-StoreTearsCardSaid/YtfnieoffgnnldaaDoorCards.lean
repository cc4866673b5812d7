/-
  DERIVED. GIVEN WITH THE SEED: THE CARDS: each row of YtfnieoffgnnldaaDoorRows.lean that lists a variable, with what it lists TIED to the program's text (the seventh form; the later family's looks); each row that meets fmt, with fmt's text TOLD by the authors' own Lean function (tested against real Go, not proved from fmt's source: count such statements apart). THE CARD IS WHAT COUNTS. Prove the row's statement (the work); the ties are given (YtfnieoffgnnldaaDoorTie.lean); close each card by the builder's one call (the guide's Derived/Test/ToyasCard.lean, 'card_holds'). Laid BY PROGRAM, IN A SANDBOX (cutbox-door.mjs). By AI agents, Wed Nov 11 2026. No macro, syntax, notation, axiom, sorry.
-/
import Derived.Test.YtfnieoffgnnldaaDoorRows
import GoSem.ClaimSeven
namespace Go.Proofs.YtfnieoffgnnldaaDoor
namespace Rows

/-- THE TIED CARD OF 'typebarlaw47.StoreEntries'. -/
def storeEntriesCard : Claim7 := { stood := { row := storeEntriesRow, standIns := [], harness := (true, "dac7e73f4b7783300b28390b5d6c3c100b69146a91f717eeaf69514086de61ba"), looks := false }, kinds := [], alts := [], laidByText := true, laidKinds := [.data, .pinned], laidTests := true, laidLooks := .later }
def StoreEntriesCardSaid : Prop := Claim7.holds Tryd.pinned (.plain (OpenSpec.ofChange storeEntriesSpec)) storeEntriesCard

/-- THE TIED CARD OF 'typebarlaw47.StoreReads'. -/
def storeReadsCard : Claim7 := { stood := { row := storeReadsRow, standIns := [], harness := (true, "dac7e73f4b7783300b28390b5d6c3c100b69146a91f717eeaf69514086de61ba"), looks := false }, kinds := [], alts := [], laidByText := true, laidKinds := [.data, .pinned], laidTests := true, laidLooks := .later }
def StoreReadsCardSaid : Prop := Claim7.holds Tryd.pinned (.plain (OpenSpec.ofChange storeReadsSpec)) storeReadsCard

/-- THE TIED CARD OF 'typebarlaw47.StoreTears'. -/
def storeTearsCard : Claim7 := { stood := { row := storeTearsRow, standIns := [], harness := (true, "dac7e73f4b7783300b28390b5d6c3c100b69146a91f717eeaf69514086de61ba"), looks := false }, kinds := [], alts := [], laidByText := true, laidKinds := [.data, .pinned], laidTests := true, laidLooks := .later }
def StoreTearsCardSaid : Prop := Claim7.holds Tryd.pinned (.plain (OpenSpec.ofChange storeTearsSpec)) storeTearsCard

/-- THE TIED CARD OF 'typebarlaw47.StorePast'. -/
def storePastCard : Claim7 := { stood := { row := storePastRow, standIns := [], harness := (true, "dac7e73f4b7783300b28390b5d6c3c100b69146a91f717eeaf69514086de61ba"), looks := false }, kinds := [], alts := [], laidByText := true, laidKinds := [.data, .pinned], laidTests := true, laidLooks := .later }
def StorePastCardSaid : Prop := Claim7.holds Tryd.pinned (.plain (OpenSpec.ofChange storePastSpec)) storePastCard

/-- THE TIED CARD OF 'typebarlaw47.StoreFull'. -/
def storeFullCard : Claim7 := { stood := { row := storeFullRow, standIns := [], harness := (true, "dac7e73f4b7783300b28390b5d6c3c100b69146a91f717eeaf69514086de61ba"), looks := false }, kinds := [], alts := [], laidByText := true, laidKinds := [.data, .pinned], laidTests := true, laidLooks := .later }
def StoreFullCardSaid : Prop := Claim7.holds Tryd.pinned (.plain (OpenSpec.ofChange storeFullSpec)) storeFullCard

/-- THE TIED CARD OF 'typebarlaw47.StoreTrims'. -/
def storeTrimsCard : Claim7 := { stood := { row := storeTrimsRow, standIns := [], harness := (true, "dac7e73f4b7783300b28390b5d6c3c100b69146a91f717eeaf69514086de61ba"), looks := false }, kinds := [], alts := [], laidByText := true, laidKinds := [.data, .pinned], laidTests := true, laidLooks := .later }
def StoreTrimsCardSaid : Prop := Claim7.holds Tryd.pinned (.plain (OpenSpec.ofChange storeTrimsSpec)) storeTrimsCard

/-- THE SECOND FORM's CARD OF 'typebarlaw47.StoreEntries'. -/
def storeEntriesUptoCard : Claim7 := { stood := { row := storeEntriesUptoRow, standIns := [], harness := (true, "dac7e73f4b7783300b28390b5d6c3c100b69146a91f717eeaf69514086de61ba"), looks := false }, kinds := [], alts := [], laidByText := true, laidKinds := [.data, .pinned], laidTests := true, laidLooks := .later }
def StoreEntriesUptoCardSaid : Prop := Claim7.holds Tryd.pinned (.plain (OpenSpec.upto storeEntriesSpec)) storeEntriesUptoCard

/-- THE SECOND FORM's CARD OF 'typebarlaw47.StoreReads'. -/
def storeReadsUptoCard : Claim7 := { stood := { row := storeReadsUptoRow, standIns := [], harness := (true, "dac7e73f4b7783300b28390b5d6c3c100b69146a91f717eeaf69514086de61ba"), looks := false }, kinds := [], alts := [], laidByText := true, laidKinds := [.data, .pinned], laidTests := true, laidLooks := .later }
def StoreReadsUptoCardSaid : Prop := Claim7.holds Tryd.pinned (.plain (OpenSpec.upto storeReadsSpec)) storeReadsUptoCard

/-- THE SECOND FORM's CARD OF 'typebarlaw47.StoreTears'. -/
def storeTearsUptoCard : Claim7 := { stood := { row := storeTearsUptoRow, standIns := [], harness := (true, "dac7e73f4b7783300b28390b5d6c3c100b69146a91f717eeaf69514086de61ba"), looks := false }, kinds := [], alts := [], laidByText := true, laidKinds := [.data, .pinned], laidTests := true, laidLooks := .later }
def StoreTearsUptoCardSaid : Prop := Claim7.holds Tryd.pinned (.plain (OpenSpec.upto storeTearsSpec)) storeTearsUptoCard

/-- THE SECOND FORM's CARD OF 'typebarlaw47.StorePast'. -/
def storePastUptoCard : Claim7 := { stood := { row := storePastUptoRow, standIns := [], harness := (true, "dac7e73f4b7783300b28390b5d6c3c100b69146a91f717eeaf69514086de61ba"), looks := false }, kinds := [], alts := [], laidByText := true, laidKinds := [.data, .pinned], laidTests := true, laidLooks := .later }
def StorePastUptoCardSaid : Prop := Claim7.holds Tryd.pinned (.plain (OpenSpec.upto storePastSpec)) storePastUptoCard

/-- THE SECOND FORM's CARD OF 'typebarlaw47.StoreFull'. -/
def storeFullUptoCard : Claim7 := { stood := { row := storeFullUptoRow, standIns := [], harness := (true, "dac7e73f4b7783300b28390b5d6c3c100b69146a91f717eeaf69514086de61ba"), looks := false }, kinds := [], alts := [], laidByText := true, laidKinds := [.data, .pinned], laidTests := true, laidLooks := .later }
def StoreFullUptoCardSaid : Prop := Claim7.holds Tryd.pinned (.plain (OpenSpec.upto storeFullSpec)) storeFullUptoCard

/-- THE SECOND FORM's CARD OF 'typebarlaw47.StoreTrims'. -/
def storeTrimsUptoCard : Claim7 := { stood := { row := storeTrimsUptoRow, standIns := [], harness := (true, "dac7e73f4b7783300b28390b5d6c3c100b69146a91f717eeaf69514086de61ba"), looks := false }, kinds := [], alts := [], laidByText := true, laidKinds := [.data, .pinned], laidTests := true, laidLooks := .later }
def StoreTrimsUptoCardSaid : Prop := Claim7.holds Tryd.pinned (.plain (OpenSpec.upto storeTrimsSpec)) storeTrimsUptoCard
end Rows
end Go.Proofs.YtfnieoffgnnldaaDoor
