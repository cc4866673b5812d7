/- keys: what a parser does: pure. -/
import Derived.Test.YtkkenabckhmkoaaUtfF
namespace Go.Proofs.Ytkkenabckhmkoaa
open Go.RowKit
set_option linter.unusedVariables false
set_option linter.unusedSimpArgs false

/-- A key as it is read. -/
structure Ky where
  k : Int
  r : Int
  m : Bool
  t : List Int
/-- A parser: what it is within, its decoder, Meta, a row's bytes, what was pasted (the last byte first), how much of the end. -/
structure KS where
  w : Int
  d : DS
  m : Bool
  row : ByteArray
  tx : List Int
  cl : Nat
def KS.zero : KS := ⟨0, DS.zero, false, ⟨#[]⟩, [], 0⟩
def KS.at (w : Int) : KS := ⟨w, DS.zero, false, ⟨#[]⟩, [], 0⟩
def ctlB (b : Int) : Bool := decide (b < 32) || b == 127
def charsK (m : Bool) : List Int → List Ky
  | [] => []
  | r :: l => ⟨1, r, m, []⟩ :: l.map fun r => ⟨1, r, false, []⟩
def decodeK (d : DS) (m : Bool) (b : Int) : KS × List Ky := (⟨0, (stepD d b).1, m && decide ((stepD d b).2.length = 0), ⟨#[]⟩, [], 0⟩, charsK m (stepD d b).2)
def aloneK (d : DS) (m : Bool) (b : Int) : KS × List Ky :=
  if ctlB b then (if b = 27 then (KS.at 1, charsK m (endD d)) else (KS.zero, charsK m (endD d) ++ [⟨2, b, false, []⟩])) else decodeK d m b
def escapedK (b : Int) : KS × List Ky :=
  if b = 91 then (KS.at 2, []) else if b = 79 then (KS.at 3, []) else if b = 27 then (KS.at 1, [⟨2, 27, false, []⟩]) else if ctlB b then (KS.zero, [⟨2, b, true, []⟩]) else decodeK DS.zero true b
def oddK (b : Int) : KS × List Ky := ((aloneK DS.zero false b).1, ⟨5, 0, false, []⟩ :: (aloneK DS.zero false b).2)
def letteredK (b : Int) : Int := if b = 65 then 1 else if b = 66 then 2 else if b = 67 then 3 else if b = 68 then 4 else if b = 72 then 5 else if b = 70 then 6 else 0
def namedK (n : Int) : Ky := if n = 0 then ⟨5, 0, false, []⟩ else ⟨3, n, false, []⟩
def numberedK (s : ByteArray) : Int := if s = ⟨#[49]⟩ ∨ s = ⟨#[55]⟩ then 5 else if s = ⟨#[52]⟩ ∨ s = ⟨#[56]⟩ then 6 else if s = ⟨#[50]⟩ then 7 else if s = ⟨#[51]⟩ then 8 else if s = ⟨#[53]⟩ then 9 else if s = ⟨#[54]⟩ then 10 else 0
def inRowK (row : ByteArray) (b : Int) : KS × List Ky :=
  if ctlB b || decide (127 < b) then oddK b
  else if b < 64 ∧ row.size < 16 then (⟨2, DS.zero, false, row.push (UInt8.ofNat b.toNat), [], 0⟩, [])
  else if b = 126 ∧ row = ⟨#[50, 48, 48]⟩ then (KS.at 4, [])
  else if b = 126 then (KS.zero, [namedK (numberedK row)])
  else if row = ⟨#[]⟩ then (KS.zero, [namedK (letteredK b)])
  else (KS.zero, [⟨5, 0, false, []⟩])
def asLetterK (b : Int) : KS × List Ky := if ctlB b || decide (127 < b) then oddK b else (KS.zero, [namedK (letteredK b)])
/-- What ends a paste. -/
def pasteEnd : List Int := [27, 91, 50, 48, 49, 126]
def closesK (cl : Nat) (b : Int) : Nat := if b = pasteEnd.getD cl 0 then cl + 1 else if b = 27 then 1 else 0
def inPasteK (tx : List Int) (cl : Nat) (b : Int) : KS × List Ky :=
  if closesK cl b < 6 then (⟨4, DS.zero, false, ⟨#[]⟩, b :: tx, closesK cl b⟩, [])
  else (KS.zero, [⟨4, 0, false, decD ((b :: tx).reverse.take ((b :: tx).length - 6))⟩])
def feedK (s : KS) (b : Int) : KS × List Ky :=
  if s.w = 1 then escapedK b else if s.w = 2 then inRowK s.row b else if s.w = 3 then asLetterK b else if s.w = 4 then inPasteK s.tx s.cl b else aloneK s.d s.m b
def tickK (s : KS) : KS × List Ky :=
  if s.w = 4 then (s, []) else if s.w = 1 then (KS.zero, [⟨2, 27, false, []⟩]) else if s.w = 2 ∨ s.w = 3 then (KS.zero, [⟨5, 0, false, []⟩]) else (KS.zero, charsK s.m (endD s.d))
/-- The parsers that there are. -/
def KS.Ok (s : KS) : Prop := s.d.Ok ∧ ((s.w = 0 ∧ s.row = ⟨#[]⟩ ∧ s.tx = [] ∧ s.cl = 0) ∨ s = KS.at 1 ∨ (∃ r, s = ⟨2, DS.zero, false, r, [], 0⟩ ∧ r.size ≤ 16) ∨ s = KS.at 3 ∨ (∃ tx cl, s = ⟨4, DS.zero, false, ⟨#[]⟩, tx, cl⟩ ∧ cl < 6 ∧ (∀ b ∈ tx, 0 ≤ b ∧ b ≤ 255) ∧ cl ≤ tx.length ∧ tx.length ≤ 100000))
end Go.Proofs.Ytkkenabckhmkoaa
