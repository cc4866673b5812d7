/- trie: pieces in memory. -/
import Derived.Test.YtpbdamjpjpchiaaTel
import Derived.Test.YtpbdamjpjpchiaaTrP
namespace Go.Proofs.Ytpbdamjpjpchiaa
open Go.RowKit
set_option linter.unusedVariables false
set_option linter.unusedSimpArgs false

def encP (p : Pc Int) : List Value := [.int .i64 p.f, .int .i64 p.t, .int .i64 p.v]
theorem encP_len (p : Pc Int) : (encP p).length = 3 := rfl
theorem encP_one (p : Pc Int) : ∀ u ∈ encP p, u.oneCell' = true := by
  intro u hu
  simp only [encP, List.mem_cons, List.mem_nil_iff, or_false] at hu
  rcases hu with rfl | rfl | rfl <;> rfl
theorem piece_elt : Elt Try.prog 31 34 3 24 := elt_of Try.underlying31 (z := .agg #[.int .i64 0, .int .i64 0, .int .i64 0]) (by kernel_rfl) rfl (by decide)
theorem int_elt : Elt Try.prog 81 3 1 8 := elt_of Try.underlying81 (z := .int .i64 0) (by kernel_rfl) rfl (by decide)

theorem belAlloc (w : World) (o : Obj) : Below w.heap.size w (w.alloc o) := (Below.refl _ _).alloc (Nat.le_refl _) _
theorem belPush {w v : World} (h : Below w.heap.size w v) (o : Obj) : Below w.heap.size w (v.alloc o) := h.alloc h.size _
theorem belowStep {W w w' : World} (h : Below W.heap.size W w) (h' : Below w.heap.size w w') : Below W.heap.size W w' := h.trans (h'.mono h.size)
theorem Li.piece {w : World} {S : Nat → Prop} {A : Option Addr} {L : List (Pc Int)} (h : Li 3 encP w S A L) {j : Nat} (hj : j < L.length) : ∃ x b o, L[j]? = some x ∧ A = some ⟨b, o, none⟩ ∧ b < w.heap.size ∧ S b ∧
    w.cell? ⟨b, o + j * 3, none⟩ = some (.int .i64 x.f) ∧ w.cell? ⟨b, o + j * 3 + 1, none⟩ = some (.int .i64 x.t) ∧ w.cell? ⟨b, o + j * 3 + 2, none⟩ = some (.int .i64 x.v) := by
  obtain ⟨b, o, e, hl, hs, hc⟩ := h.at hj
  exact ⟨L[j], b, o, List.getElem?_eq_getElem hj, e, hl, hs, hc 0 _ rfl, by have := hc 1 _ rfl; rwa [← Nat.add_assoc] at this, by have := hc 2 _ rfl; rwa [← Nat.add_assoc] at this⟩
end Go.Proofs.Ytpbdamjpjpchiaa
