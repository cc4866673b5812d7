/- loop: both boxes. -/
import Derived.Test.YtcoffbgpdbhjfaaLoopV
namespace Go.Proofs.Ytcoffbgpdbhjfaa
open Go.Conc Go.RowKit
set_option linter.unusedVariables false
set_option linter.unusedSimpArgs false

/-- The program's box and the document's, which tell the same. -/
structure Both (w0 : World) (bb cb ct cs rb room : Nat) (A : Option Addr) (n c : Nat) (L : List Evt) (w : World) : Prop where
  own : Own w0 bb cb ct cs room (kinds L) w
  rb_ : Rb w w0.heap.size rb room A n c L
  nrb : w0.heap.size ≤ rb
  apart : ∀ g, Rt rb A n c g → g ≠ bb ∧ g ≠ cb ∧ g ≠ ct ∧ g ≠ cs

theorem Both.later {w0 w w' : World} {bb cb ct cs rb room n c : Nat} {A : Option Addr} {L : List Evt} (h : Both w0 bb cb ct cs rb room A n c L w) (hb : Below w.heap.size w w') : Both w0 bb cb ct cs rb room A n c L w' :=
  ⟨h.own.later hb, h.rb_.later hb, h.nrb, h.apart⟩
theorem Both.size {w0 w : World} {bb cb ct cs rb room n c : Nat} {A : Option Addr} {L : List Evt} (h : Both w0 bb cb ct cs rb room A n c L w) : w0.heap.size ≤ w.heap.size := h.own.below.size

/-- Half a step: the program's box has gone on. -/
structure Half (w0 : World) (bb cb ct cs rb room : Nat) (A : Option Addr) (n c : Nat) (L : List Evt) (q : Que) (w : World) : Prop where
  own : Own w0 bb cb ct cs room q w
  rb_ : Rb w w0.heap.size rb room A n c L
  nrb : w0.heap.size ≤ rb
  apart : ∀ g, Rt rb A n c g → g ≠ bb ∧ g ≠ cb ∧ g ≠ ct ∧ g ≠ cs

theorem Half.later {w0 w w' : World} {bb cb ct cs rb room n c : Nat} {A : Option Addr} {L : List Evt} {q : Que} (h : Half w0 bb cb ct cs rb room A n c L q w) (hb : Below w.heap.size w w') : Half w0 bb cb ct cs rb room A n c L q w' :=
  ⟨h.own.later hb, h.rb_.later hb, h.nrb, h.apart⟩
theorem Half.size {w0 w : World} {bb cb ct cs rb room n c : Nat} {A : Option Addr} {L : List Evt} {q : Que} (h : Half w0 bb cb ct cs rb room A n c L q w) : w0.heap.size ≤ w.heap.size := h.own.below.size

theorem Rb.chg {T : Nat → Prop} {X Y : World} {B0 rb room n c : Nat} {A : Option Addr} {L : List Evt} (h : Rb X B0 rb room A n c L) (k : Chg T X Y) (hT : ∀ g, Rt rb A n c g → ¬ T g) : Rb Y B0 rb room A n c L :=
  ⟨h.blk.chg k (hT rb (.inl rfl)), own_chg' h.own k (fun g hg => hT g (.inr hg)), h.len, h.ne⟩

theorem Both.half {w0 w w' : World} {bb cb ct cs rb room n c : Nat} {A : Option Addr} {L : List Evt} {q : Que} (h : Both w0 bb cb ct cs rb room A n c L w) (hb : Bx w' bb cb ct cs room q.1 q.2.1 q.2.2) (hc : Chg (Cs cb ct cs) w w') : Half w0 bb cb ct cs rb room A n c L q w' :=
  ⟨h.own.chg hb hc, h.rb_.chg hc (fun g hg hC => by
    obtain ⟨_, h1, h2, h3⟩ := h.apart g hg
    rcases hC with e | e | e
    · exact h1 e
    · exact h2 e
    · exact h3 e), h.nrb, h.apart⟩

theorem Half.both {w0 w w' : World} {bb cb ct cs rb room n c : Nat} {A : Option Addr} {L : List Evt} {q : Que} (h : Half w0 bb cb ct cs rb room A n c L q w) (hr : RefDone w w0.heap.size rb room A n c L q w') :
    ∃ A' n' c' L', Both w0 bb cb ct cs rb room A' n' c' L' w' ∧ L'.length ≤ L.length + 1 := by
  obtain ⟨L', ⟨A', n', c', hrb, hk, hf⟩, hq, hl⟩ := hr
  have hlt := h.own.bx.lt
  refine ⟨A', n', c', L', ⟨?_, hrb, h.nrb, fun g hg => ?_⟩, hl⟩
  · rw [hq]
    refine ⟨h.own.bx.chg hk (fun e => (h.apart _ e).1 rfl) (fun e => (h.apart _ e).2.1 rfl) (fun e => (h.apart _ e).2.2.1 rfl) (fun e => (h.apart _ e).2.2.2 rfl), h.own.below.trans (hk.below h.own.below.size fun k hk hR => ?_), h.own.nb, h.own.ncb, h.own.nct, h.own.ncs⟩
    rcases hR with rfl | hR
    · have := h.nrb; omega
    · have := (h.rb_.own.lt k hR).1; omega
  · rcases hg with rfl | hg
    · exact h.apart g (.inl rfl)
    · rcases hf g hg with hg | hg
      · exact h.apart g (.inr hg)
      · omega

theorem Both.len {w0 w : World} {bb cb ct cs rb room n c : Nat} {A : Option Addr} {L : List Evt} (h : Both w0 bb cb ct cs rb room A n c L w) : n = L.length := h.rb_.len.symm

theorem both_new {w0 w1 : World} {bb cb ct cs : Nat} {room : Nat} (h : Own w0 bb cb ct cs room ([], [], []) w1) (R : Nat) (e : R = room := by rfl) : Both w0 bb cb ct cs w1.heap.size room none 0 0 [] (w1.alloc (.cells #[.int .i64 R, .slice none 0 0] 38)) := by
  subst e
  have hlt := h.bx.lt
  refine ⟨h.later ((Below.refl _ _).alloc (Nat.le_refl _) _), ⟨blk_new _ _ _, World.ownsRow_nil _ _ _ _, rfl, by intro e; cases e⟩, h.below.size, fun g hg => ?_⟩
  rcases hg with rfl | hg
  · omega
  · cases hg
end Go.Proofs.Ytcoffbgpdbhjfaa
