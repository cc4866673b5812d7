/- trie: Pieces, what it says. -/
import Derived.Test.YtpbdamjpjpchiaaTrIn
namespace Go.Proofs.Ytpbdamjpjpchiaa
open Go.RowKit Go.Maps
set_option linter.unusedVariables false
set_option linter.unusedSimpArgs false

/-- What stands in a block at a place, below the size. -/
theorem bk_get (g : Int → Int) {m n i : Nat} (hi : i < 128) (h : n * 128 + i < m) : (bk g m n)[i]? = some (g ((n * 128 + i : Nat) : Int)) := by
  have := bk_at g h
  rw [show (n * 128 + i) / 128 = n by omega, show (n * 128 + i) % 128 = i by omega] at this
  exact this
/-- A block that is the one ahead of it, which has one value. -/
theorem bk_const (g : Int → Int) {m n : Nat} {v : Int} (hn : 1 ≤ n) (hm : n * 128 < m) (he : bk g m n = bk g m (n - 1)) (hv : ∀ r : Int, ((n * 128 : Nat) : Int) - 128 ≤ r → r ≤ ((n * 128 : Nat) : Int) - 1 → g r = v) :
    ∀ r : Int, ((n * 128 : Nat) : Int) ≤ r → r ≤ ((min (n * 128 + 128) m : Nat) : Int) - 1 → g r = v := by
  intro r h1 h2
  obtain ⟨i, rfl⟩ : ∃ i : Nat, r = ((n * 128 + i : Nat) : Int) := ⟨(r - ((n * 128 : Nat) : Int)).toNat, by omega⟩
  have hi : i < 128 := by omega
  have a := bk_get g hi (show n * 128 + i < m by omega)
  have b := bk_get g (n := n - 1) hi (show (n - 1) * 128 + i < m by omega)
  rw [he, b] at a
  have := Option.some.inj a
  rw [← this]
  exact hv _ (by omega) (by omega)
/-- The last piece goes on over a block that is the one ahead of it. -/
theorem ji_run {g : Int → Int} {m n : Nat} {D : List (Pc Int)} {y : Pc Int} (h : JI g 0 ((n * 128 : Nat) : Int) (D ++ [y])) (hn : 1 ≤ n) (hm : n * 128 < m) (he : bk g m n = bk g m (n - 1)) (hy : y.f ≤ ((n * 128 : Nat) : Int) - 128) :
    JI g 0 ((min (n * 128 + 128) m : Nat) : Int) (D ++ [⟨y.f, ((min (n * 128 + 128) m : Nat) : Int) - 1, y.v⟩]) := by
  have ht := (tile_snoc.1 h.tile).2.2
  have hv := h.vals y (by simp)
  have hc := bk_const g (v := y.v) hn hm he fun r h1 h2 => hv r (by omega) (by omega)
  have := JI.step (x := ⟨((n * 128 : Nat) : Int), ((min (n * 128 + 128) m : Nat) : Int) - 1, y.v⟩) h (by show ((n * 128 : Nat) : Int) ≤ _; dsimp only; omega) hc
  rw [jstep_yes (y := y) (x := ⟨((n * 128 : Nat) : Int), ((min (n * 128 + 128) m : Nat) : Int) - 1, y.v⟩) rfl] at this
  simpa using this
end Go.Proofs.Ytpbdamjpjpchiaa
