/- bind: what BindValue wants. -/
import Derived.Test.YtpdjkphjpjbhgaaDoorBindN
namespace Go.Proofs.YtpdjkphjpjbhgaaDoor
open Go.RowKit Go.Maps
set_option linter.unusedVariables false
set_option linter.unusedSimpArgs false
theorem bAlloc {A X : World} (h : Below A.heap.size A X) (o : Obj) : Below A.heap.size A (X.alloc o) := h.alloc h.size o
theorem bSet {A X : World} {g : Nat} (h : Below A.heap.size A X) (hg : A.heap.size ≤ g) (u : Value) : Below A.heap.size A (X.setCell ⟨g, 0, none⟩ u) := h.setCell (p := ⟨g, 0, none⟩) hg u
theorem cell_new7 {X Y : World} {u : Value} {t : TypeId} (hb : Below (X.alloc (.cells #[u] t)).heap.size (X.alloc (.cells #[u] t)) Y) : Y.cell? ⟨X.heap.size, 0, none⟩ = some u ∧ Y.frozen? ⟨X.heap.size, 0, none⟩ = false := by
  have h := (blk_new X #[u] t).later hb (blk_new X #[u] t).1
  exact ⟨by have := h.2.1 0; simpa using this, h.2.2 0⟩
theorem cell_newD {X Y : World} {u : Value} {t : TypeId} (hb : Below ((X.alloc (.cells #[u] t)).drew).heap.size ((X.alloc (.cells #[u] t)).drew) Y) : Y.cell? ⟨X.heap.size, 0, none⟩ = some u ∧ Y.frozen? ⟨X.heap.size, 0, none⟩ = false :=
  cell_new7 (t := t) ⟨hb.os, hb.tape, hb.output, hb.size, hb.block⟩
theorem cell_keep8 {X Y : World} {g : Nat} {u : Value} (hb : Below X.heap.size X Y) (h : X.cell? ⟨g, 0, none⟩ = some u) (hf : X.frozen? ⟨g, 0, none⟩ = false) : Y.cell? ⟨g, 0, none⟩ = some u ∧ Y.frozen? ⟨g, 0, none⟩ = false :=
  ⟨(hb.cell (World.block_lt_of_cell? _ _ h)).trans h, (hb.frozen (World.block_lt_of_cell? _ _ h)).trans hf⟩
theorem MapOf.set {X : World} {v : Value} {L : List (Stk × Int)} {g : Nat} {u : Value} (hm : MapOf X v L) (hc : X.cell? ⟨g, 0, none⟩ = some u) (u' : Value) : MapOf (X.setCell ⟨g, 0, none⟩ u') v L := by
  rcases hm with h' | ⟨b, D, h1, h2, h3⟩
  · exact .inl h'
  · refine .inr ⟨b, D, h1, h2.setCell (a := ⟨g, 0, none⟩) ?_ _, h3⟩
    intro e
    obtain ⟨es, clock, hh, _⟩ := h2
    have e : b = g := e
    rw [e] at hh
    simp [World.cell?, hh] at hc
theorem look_two {w : World} {v u : Value} {L M : List (Stk × Int)} (h : MapOf w v L) (h' : MapOf w u M) (hT : TabW w) (s : Stk) (hs : Wf s) (x : Value) (z : Int) (hx : (x = v ∧ saidS L s = z) ∨ (x = u ∧ saidS M s = z)) :
    Calls Tryd.prog 10 #[.agg #[x], sv s] w (Tells w z) := by
  rcases hx with ⟨rfl, rfl⟩ | ⟨rfl, rfl⟩
  · exact look_any h hT s hs
  · exact look_any h' hT s hs
end Go.Proofs.YtpdjkphjpjbhgaaDoor
