/- utf: feeding byte by byte. -/
import Derived.Test.YtpfldppoebgfgaaUtfWc
namespace Go.Proofs.Ytpfldppoebgfgaa
open Go.RowKit
set_option linter.unusedVariables false
set_option linter.unusedSimpArgs false

/-- What holds behind a call of Feed: where the new state lies, what is told. -/
def StpF (wr : World) (x y z n : Int) (l : List Int) (v6 v7 : Value) (wx : World) : Prop :=
  ∃ (g : Nat) (A : Option Addr) (c : Nat), v6 = .pointer (some ⟨g, 0, none⟩) ∧ v7 = .slice A l.length c ∧ (wx.cell? ⟨g, 0, none⟩ = some (.int .u8 x) ∧ wx.cell? ⟨g, 1, none⟩ = some (.int .u8 y) ∧ wx.cell? ⟨g, 2, none⟩ = some (.int .u8 z) ∧ wx.cell? ⟨g, 3, none⟩ = some (.int .i64 n)) ∧
    (wr.heap.size ≤ g ∧ g < wx.heap.size) ∧ Below wr.heap.size wr wx ∧ Rd wx A l.length (li l) ∧ (∀ p, A = some p → wr.heap.size ≤ p.block) ∧ (A = none → l.length = 0 ∧ c = 0)

/-- A slice that reads as a list of scalars, of a length that is told apart. -/
def TellsL (L : List Int) (n : Nat) (w : World) (e : Ending) (w' : World) : Prop :=
  ∃ A c, e = .returned (.slice A n c) ∧ Rd w' A n (li L) ∧ Below w.heap.size w w'
theorem refdec_is (s : ByteArray) (L : List Int) (n : Nat) (hs : s.size ≤ 1000000000) (h : decD (bts s) = L) (hn : L.length = n) (w : World) : Calls Try.prog 11 #[.string s] w (TellsL L n w) := by
  have hh := refdec_any s w hs
  rw [h, hn] at hh
  exact hh
theorem own_none {w : World} {base : Nat} {e : TypeId} {A : Option Addr} {c n : Nat} {xs : List Value} (h : w.ownsRow base e 1 (.slice A n c) n xs) : A = none → n = 0 ∧ c = 0 := by
  intro hA
  rcases h.2 with ⟨hv, hx⟩ | ⟨g, cap, cur, hv, _⟩
  · injection hv with _ h1 h2
    exact ⟨h1, h2⟩
  · injection hv with h1 _ _
    rw [hA] at h1
    cases h1
theorem li_range (l : List Int) : (List.range l.length).map (li l) = l.map (Value.int .i32) := by
  apply List.ext_getElem
  · simp
  · intro i h1 h2
    simp at h1
    simp [li, List.getD, h1]
theorem rd_ints {w : World} {base : Nat} {A : Option Addr} {c n : Nat} {L : List Int} (h : w.ownsRow base 21 1 (.slice A n c) n (L.map (Value.int .i32))) (hn : L.length = n) : Rd w A n (li L) := rd_own h (fun j hj => by
  have hj' : j < L.length := by omega
  rw [List.getElem?_map, List.getElem?_eq_getElem hj']
  simp [li, List.getD, List.getElem?_eq_getElem hj'])

end Go.Proofs.Ytpfldppoebgfgaa
