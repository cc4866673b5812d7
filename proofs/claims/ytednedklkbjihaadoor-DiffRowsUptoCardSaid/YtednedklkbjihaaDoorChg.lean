/- What has changed between two worlds. -/
import Derived.Test.YtednedklkbjihaaDoorKit
namespace Go.Proofs.YtednedklkbjihaaDoor
open Go.RowKit
set_option linter.unusedVariables false
set_option linter.unusedSimpArgs false

/-- Behind a world: all blocks but those of S are as they were. -/
structure Chg (S : Nat → Prop) (w w' : World) : Prop where
  os : w'.os = w.os
  tape : w'.tape = w.tape
  output : w'.output = w.output
  size : w.heap.size ≤ w'.heap.size
  block : ∀ k, k < w.heap.size → ¬ S k → w'.heap[k]? = w.heap[k]?

theorem Chg.refl (S : Nat → Prop) (w : World) : Chg S w w := ⟨rfl, rfl, rfl, Nat.le_refl _, fun _ _ _ => rfl⟩
theorem Chg.trans {S : Nat → Prop} {w v x : World} (h : Chg S w v) (k : Chg S v x) : Chg S w x :=
  ⟨k.os.trans h.os, k.tape.trans h.tape, k.output.trans h.output, Nat.le_trans h.size k.size, fun j hj hs => (k.block j (Nat.lt_of_lt_of_le hj h.size) hs).trans (h.block j hj hs)⟩
theorem Chg.mono {S T : Nat → Prop} {w v : World} (h : Chg S w v) (hST : ∀ k, k < w.heap.size → S k → T k) : Chg T w v :=
  ⟨h.os, h.tape, h.output, h.size, fun j hj hs => h.block j hj (fun e => hs (hST j hj e))⟩
theorem Chg.of_grown {w v : World} {row : Option Nat} (h : w.grownBy v row) : Chg (fun k => some k = row) w v :=
  ⟨h.os, h.tape, h.output, h.size, fun j hj hs => h.block j hj hs⟩
theorem Chg.of_below {w v : World} {B : Nat} (h : Below B w v) : Chg (fun k => B ≤ k) w v :=
  ⟨h.os, h.tape, h.output, h.size, fun j hj hs => h.block j (by simp only [Nat.not_le] at hs; exact hs)⟩
theorem Chg.setCell {S : Nat → Prop} {w v : World} (h : Chg S w v) (g i : Nat) (hg : S g) (u : Value) : Chg S w (v.setCell ⟨g, i, none⟩ u) := by
  refine ⟨h.os, h.tape, h.output, by rw [World.size_setCell]; exact h.size, fun j hj hs => ?_⟩
  rw [← h.block j hj hs]
  exact Below.heap_setCell v ⟨g, i, none⟩ u j (fun e => hs (e ▸ hg))
theorem Chg.drewN {S : Nat → Prop} {w v : World} (h : Chg S w v) (q : Nat) : Chg S w (v.drewN q) := ⟨h.os, h.tape, h.output, h.size, h.block⟩
theorem Chg.below {S : Nat → Prop} {w v : World} {B : Nat} (h : Chg S w v) (hB : B ≤ w.heap.size) (hS : ∀ k, k < B → ¬ S k) : Below B w v :=
  ⟨h.os, h.tape, h.output, h.size, fun j hj => h.block j (by omega) (hS j hj)⟩

theorem Blk.chg {S : Nat → Prop} {w v : World} {g : Nat} {cs : Array Value} (h : Blk w g cs) (k : Chg S w v) (hs : ¬ S g) : Blk v g cs :=
  ⟨Nat.lt_of_lt_of_le h.1 k.size, fun j => (World.cell?_of_block (a := ⟨g, j, none⟩) (k.block g h.1 hs)).trans (h.2.1 j), fun j => (World.frozen?_of_block (a := ⟨g, j, none⟩) (k.block g h.1 hs)).trans (h.2.2 j)⟩

theorem Rd.chg {S : Nat → Prop} {w v : World} {A : Option Addr} {n : Nat} {f : Nat → Value} (h : Rd w A n f) (k : Chg S w v) (hs : ∀ b o, A = some ⟨b, o, none⟩ → ¬ S b) : Rd v A n f := by
  intro j hj
  obtain ⟨b, o, e, hl, hc⟩ := h j hj
  exact ⟨b, o, e, Nat.lt_of_lt_of_le hl k.size, (World.cell?_of_block (a := ⟨b, o + j, none⟩) (k.block b hl (hs b o e))).trans hc⟩

theorem Chg.next {S T : Nat → Prop} {w v x : World} (h : Chg S w v) (k : Chg T v x) (hT : ∀ j, j < w.heap.size → T j → S j) : Chg S w x :=
  ⟨k.os.trans h.os, k.tape.trans h.tape, k.output.trans h.output, Nat.le_trans h.size k.size, fun j hj hs => (k.block j (Nat.lt_of_lt_of_le hj h.size) (fun e => hs (hT j hj e))).trans (h.block j hj hs)⟩


theorem Chg.base {S : Nat → Prop} {w v : World} {q : Nat} (h : Chg S (w.drewN q) v) : Chg S w v := ⟨h.os, h.tape, h.output, h.size, h.block⟩
theorem chg_below {w v : World} (h : Below w.heap.size w v) : Chg (fun _ => False) w v := ⟨h.os, h.tape, h.output, h.size, fun k hk _ => h.block k hk⟩
end Go.Proofs.YtednedklkbjihaaDoor
