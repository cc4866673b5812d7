/- script: lines, texts, what is printed: pure. -/
import Derived.Test.YtjkhkohlejkdlaaDoorScH
namespace Go.Proofs.YtjkhkohlejkdlaaDoor
open Go.RowKit
set_option linter.unusedVariables false
set_option linter.unusedSimpArgs false

def tickT : List UInt8 := [116, 105, 99, 107]
def bytesT : List UInt8 := [98, 121, 116, 101, 115, 32]
def sizeT : List UInt8 := [115, 105, 122, 101, 32]
/-- Bytes that are written as two digits each. -/
def hexE : List UInt8 → Option (List Evt)
  | a :: b :: t => if digP a.toNat < 0 ∨ digP b.toNat < 0 then none else (hexE t).map ([⟨1, 16 * digP a.toNat + digP b.toNat, 0, 0⟩] ++ ·)
  | _ => some []
/-- Where a text's first space stands. -/
def spc (l : List UInt8) : Nat := (l.takeWhile (fun c => decide (c.toNat ≠ 32))).length
def bothE : Option Nat → Option Nat → Option (List Evt)
  | some n, some m => some [⟨3, 0, (n : Nat), (m : Nat)⟩]
  | _, _ => none
def sizeE (r : List UInt8) : Option (List Evt) := if spc r < r.length then bothE (numO (r.take (spc r))) (numO (r.drop (spc r + 1))) else none
def hexsE (r : List UInt8) : Option (List Evt) := if r.length = 0 ∨ 64 < r.length ∨ r.length % 2 ≠ 0 then none else hexE r
/-- A line's events; none: it is none. -/
def lineE (l : List UInt8) : Option (List Evt) :=
  if l = [] ∨ (l.getD 0 0).toNat = 35 then some []
  else if l = tickT then some [⟨2, 0, 0, 0⟩]
  else if preB l sizeT then sizeE (l.drop 5)
  else if preB l bytesT then hexsE (l.drop 6)
  else none
def parseL : List Evt → Nat → List (List UInt8) → List Evt × Nat × Int
  | out, i, [] => (out, 0, 0)
  | out, i, l :: t => match lineE l with
    | none => ([], i + 1, 4)
    | some x => if 65536 < out.length + x.length then ([], i + 1, 7) else parseL (out ++ x) (i + 1) t
def parseP (l : List UInt8) : List Evt × Nat × Int := if 262144 < l.length then ([], 0, 3) else parseL [] 0 (linesL [] l)

/-! ### what is printed -/
def hexC (n : Nat) : UInt8 := hexT.data.toList.getD n 0
/-- Is the line that is not ended ended ahead of an event? -/
def brk (o : Nat) (x : Evt) : Bool := decide (0 < o ∧ (x.kind ≠ 1 ∨ o = 32))
def evS (o : Nat) (x : Evt) : List UInt8 :=
  if x.kind = 1 then (if o = 0 then bytesT else []) ++ [hexC (x.byte.toNat / 16), hexC (x.byte.toNat % 16)]
  else if x.kind = 2 then tickT ++ [10]
  else sizeT ++ Lib.decDigits x.rows.toNat ++ [32] ++ Lib.decDigits x.cols.toNat ++ [10]
def lefto (o : Nat) (x : Evt) : Nat := if brk o x then 0 else o
def nxt (o : Nat) (x : Evt) : Nat := if x.kind = 1 then lefto o x + 1 else lefto o x
def outS (o : Nat) (x : Evt) : List UInt8 := (if brk o x then [10] else []) ++ evS (lefto o x) x
def printL : Nat → List Evt → Option (List UInt8)
  | o, [] => some (if 0 < o then [10] else [])
  | o, x :: t => if knownP x then (printL (nxt o x) t).map (outS o x ++ ·) else none
/-- An event with nothing but what its kind has. -/
def bareE (x : Evt) : Evt := ⟨x.kind, if x.kind = 1 then x.byte else 0, if x.kind = 3 then x.rows else 0, if x.kind = 3 then x.cols else 0⟩
def Byt (x : Evt) : Prop := 0 ≤ x.byte ∧ x.byte < 256

theorem hexE_step {l : List UInt8} {j : Nat} {a b : UInt8} (h1 : l[j]? = some a) (h2 : l[j + 1]? = some b) (done : List Evt) : (hexE (l.drop j)).map (done ++ ·) = if digP a.toNat < 0 ∨ digP b.toNat < 0 then none else (hexE (l.drop (j + 2))).map ((done ++ [⟨1, 16 * digP a.toNat + digP b.toNat, 0, 0⟩]) ++ ·) := by
  obtain ⟨hj, e⟩ := List.getElem?_eq_some_iff.1 h1
  obtain ⟨hj2, e2⟩ := List.getElem?_eq_some_iff.1 h2
  rw [List.drop_eq_getElem_cons hj, List.drop_eq_getElem_cons hj2, e, e2]
  show Option.map _ (if _ then _ else _) = _
  split
  · rfl
  · rw [Option.map_map]
    congr 1
    funext x
    simp
theorem hexE_end {l : List UInt8} {j : Nat} (h : l.length ≤ j) (done : List Evt) : (hexE (l.drop j)).map (done ++ ·) = some done := by
  rw [List.drop_eq_nil_of_le h]
  show some (done ++ []) = _
  rw [List.append_nil]
theorem dig_lo (c : Nat) : -1 ≤ digP c := by unfold digP; split <;> (try split) <;> omega
theorem dig_hi (c : Nat) : digP c ≤ 15 := by unfold digP; split <;> (try split) <;> omega
theorem spc_le (l : List UInt8) : spc l ≤ l.length := by
  unfold spc
  exact (List.takeWhile_prefix _).length_le
theorem spc_yes {l : List UInt8} {j : Nat} {c : UInt8} (h : l[j]? = some c) (hc : c.toNat = 32) : spc (l.drop j) = 0 := by
  obtain ⟨hj, e⟩ := List.getElem?_eq_some_iff.1 h
  rw [List.drop_eq_getElem_cons hj, e]
  unfold spc
  rw [List.takeWhile_cons_of_neg (by simp [hc])]
  rfl
theorem spc_no {l : List UInt8} {j : Nat} {c : UInt8} (h : l[j]? = some c) (hc : c.toNat ≠ 32) : spc (l.drop j) = spc (l.drop (j + 1)) + 1 := by
  obtain ⟨hj, e⟩ := List.getElem?_eq_some_iff.1 h
  rw [List.drop_eq_getElem_cons hj, e]
  unfold spc
  rw [List.takeWhile_cons_of_pos (by simp [hc])]
  rfl
end Go.Proofs.YtjkhkohlejkdlaaDoor
