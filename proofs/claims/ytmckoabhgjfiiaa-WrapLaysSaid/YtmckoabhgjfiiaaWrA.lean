/- wrap: where glyphs stand: the mathematics; glyphs and spots in memory. -/
import Derived.Test.YtmckoabhgjfiiaaBoxR
import Derived.Test.YtmckoabhgjfiiaaLi
namespace Go.Proofs.Ytmckoabhgjfiiaa
open Go.RowKit
set_option linter.unusedVariables false
set_option linter.unusedSimpArgs false

structure Gl where
  t : ByteArray
  w : Int
structure Sp where
  r : Int
  c : Int
deriving DecidableEq
def encG (g : Gl) : List Value := [.string g.t, .int .i64 g.w]
def encP (p : Sp) : List Value := [.int .i64 p.r, .int .i64 p.c]
theorem encG_len (g : Gl) : (encG g).length = 2 := rfl
theorem encP_len (p : Sp) : (encP p).length = 2 := rfl
theorem spot_elt : Elt Try.prog 26 31 2 16 := elt_of Try.underlying26 (z := .agg #[.int .i64 0, .int .i64 0]) (by kernel_rfl) rfl (by decide)

/-- Where a glyph of a width stands, if the next free place is s. -/
def adv (cols : Int) (s : Sp) (w : Int) : Sp := if cols - s.c < w then ⟨s.r + 1, 0⟩ else s
def stp (cols : Int) (s : Sp) (g : Gl) : Sp := ⟨(adv cols s g.w).r, (adv cols s g.w).c + g.w⟩
def fin (cols : Int) (s : Sp) : Sp := if cols ≤ s.c then ⟨s.r + 1, 0⟩ else s
/-- The next free place behind glyphs. -/
def stAt (cols : Int) (L : List Gl) (k : Nat) : Sp := (L.take k).foldl (stp cols) ⟨0, 0⟩
/-- Where the glyph of a number stands; behind the last: where what comes behind would. -/
def spAt (cols : Int) (L : List Gl) (k : Nat) : Sp :=
  match L[k]? with
  | some g => adv cols (stAt cols L k) g.w
  | none => fin cols (stAt cols L L.length)
def spots (cols : Int) (L : List Gl) : List Sp := (List.range (L.length + 1)).map (spAt cols L)

theorem stAt_succ {cols : Int} {L : List Gl} {k : Nat} {g : Gl} (h : L[k]? = some g) : stAt cols L (k + 1) = stp cols (stAt cols L k) g := by
  unfold stAt
  obtain ⟨hk, e⟩ := List.getElem?_eq_some_iff.1 h
  rw [List.take_succ_eq_append_getElem hk, List.foldl_append, e]
  rfl
theorem spAt_some {cols : Int} {L : List Gl} {k : Nat} {g : Gl} (h : L[k]? = some g) : spAt cols L k = adv cols (stAt cols L k) g.w := by
  unfold spAt
  rw [h]
theorem spAt_end (cols : Int) (L : List Gl) : spAt cols L L.length = fin cols (stAt cols L L.length) := by
  unfold spAt
  rw [List.getElem?_eq_none (Nat.le_refl _)]
/-- Glyphs of one column or two. -/
def Thin (L : List Gl) : Prop := ∀ g ∈ L, 1 ≤ g.w ∧ g.w ≤ 2
theorem stAt_bd {cols : Int} (hc : 2 ≤ cols) {L : List Gl} (hL : Thin L) : ∀ k, k ≤ L.length → 0 ≤ (stAt cols L k).r ∧ (stAt cols L k).r ≤ k ∧ 0 ≤ (stAt cols L k).c ∧ (stAt cols L k).c ≤ 2 * k ∧ (stAt cols L k).c ≤ cols ∧ (0 < k → 1 ≤ (stAt cols L k).c)
  | 0, _ => by simp [stAt]; omega
  | k + 1, h => by
    have hx := List.getElem?_eq_getElem (l := L) (i := k) (by omega)
    obtain ⟨i1, i2, i3, i4, i5, i6⟩ := stAt_bd hc hL k (by omega)
    have hw := hL _ (List.getElem_mem (l := L) (n := k) (by omega))
    rw [stAt_succ hx]
    unfold stp adv
    split <;> (try dsimp only) <;> omega
theorem spAt_bd {cols : Int} (hc : 2 ≤ cols) {L : List Gl} (hL : Thin L) (k : Nat) (hk : k ≤ L.length) : 0 ≤ (spAt cols L k).r ∧ (spAt cols L k).r ≤ k + 1 ∧ 0 ≤ (spAt cols L k).c ∧ (spAt cols L k).c ≤ 2 * k ∧ (spAt cols L k).c < cols := by
  rcases Nat.lt_or_eq_of_le hk with h | h
  · have hx := List.getElem?_eq_getElem (l := L) (i := k) h
    obtain ⟨i1, i2, i3, i4, i5, i6⟩ := stAt_bd hc hL k hk
    have hw := hL _ (List.getElem_mem (l := L) (n := k) h)
    rw [spAt_some hx]
    unfold adv
    split <;> (try dsimp only) <;> omega
  · subst h
    obtain ⟨i1, i2, i3, i4, i5, i6⟩ := stAt_bd hc hL L.length (Nat.le_refl _)
    rw [spAt_end]
    unfold fin
    split <;> (try dsimp only) <;> omega
theorem adv_first {cols : Int} (hc : 2 ≤ cols) {L : List Gl} (hL : Thin L) {g : Gl} (hg : g ∈ L) : adv cols (stAt cols L 0) g.w = stAt cols L 0 := by
  have := hL g hg
  unfold adv
  rw [if_neg (by simp [stAt]; omega)]
theorem Li.glyph {w : World} {S : Nat → Prop} {A : Option Addr} {L : List Gl} (h : Li 2 encG w S A L) {j : Nat} (hj : j < L.length) : ∃ g b o, L[j]? = some g ∧ A = some ⟨b, o, none⟩ ∧ b < w.heap.size ∧ S b ∧
    w.cell? ⟨b, o + j * 2, none⟩ = some (.string g.t) ∧ w.cell? ⟨b, o + j * 2 + 1, none⟩ = some (.int .i64 g.w) := by
  obtain ⟨b, o, e, hb, hs, hc⟩ := h.at hj
  exact ⟨L[j], b, o, List.getElem?_eq_getElem hj, e, hb, hs, hc 0 _ rfl, hc 1 _ rfl⟩
theorem Li.spot {w : World} {S : Nat → Prop} {A : Option Addr} {L : List Sp} (h : Li 2 encP w S A L) {j : Nat} (hj : j < L.length) : ∃ p b o, L[j]? = some p ∧ A = some ⟨b, o, none⟩ ∧ b < w.heap.size ∧ S b ∧
    w.cell? ⟨b, o + j * 2, none⟩ = some (.int .i64 p.r) ∧ w.cell? ⟨b, o + j * 2 + 1, none⟩ = some (.int .i64 p.c) := by
  obtain ⟨b, o, e, hb, hs, hc⟩ := h.at hj
  exact ⟨L[j], b, o, List.getElem?_eq_getElem hj, e, hb, hs, hc 0 _ rfl, hc 1 _ rfl⟩
end Go.Proofs.Ytmckoabhgjfiiaa
