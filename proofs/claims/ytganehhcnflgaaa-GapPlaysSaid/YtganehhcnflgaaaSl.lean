/- Slices that can be read. -/
import Derived.Test.YtganehhcnflgaaaKit
namespace Go.Proofs.Ytganehhcnflgaaa
open Go.RowKit
set_option linter.unusedVariables false
set_option linter.unusedSimpArgs false

/-- v is a slice of n places that reads as f, lying in a block of S. -/
def Sl (w : World) (S : Nat → Prop) (v : Value) (n : Nat) (f : Nat → Value) : Prop :=
  ∃ A c, v = .slice A n c ∧ Rd w A n f ∧ (A = none → n = 0 ∧ c = 0) ∧ n ≤ c ∧ c ≤ maxLen ∧ ∀ a, A = some a → 0 < n → S a.block

theorem Sl.later {w w' : World} {S : Nat → Prop} {v : Value} {n : Nat} {f : Nat → Value} (h : Sl w S v n f) (hb : Below w.heap.size w w') : Sl w' S v n f := by
  obtain ⟨A, c, e, hr, hx⟩ := h
  exact ⟨A, c, e, hr.later hb, hx⟩

theorem Sl.mono {w : World} {S S' : Nat → Prop} {v : Value} {n : Nat} {f : Nat → Value} (h : Sl w S v n f) (hs : ∀ b, S b → S' b) : Sl w S' v n f := by
  obtain ⟨A, c, e, hr, h0, h1, h2, h3⟩ := h
  exact ⟨A, c, e, hr, h0, h1, h2, fun a ha hn => hs _ (h3 a ha hn)⟩

/-- What there is lies below the heap's size. -/
theorem Sl.old {w : World} {S : Nat → Prop} {v : Value} {n : Nat} {f : Nat → Value} (h : Sl w S v n f) : Sl w (fun b => b < w.heap.size ∧ S b) v n f := by
  obtain ⟨A, c, e, hr, h0, h1, h2, h3⟩ := h
  refine ⟨A, c, e, hr, h0, h1, h2, fun a ha hn => ?_⟩
  obtain ⟨b, o, e1, hl, _⟩ := hr 0 hn
  rw [ha] at e1
  injection e1 with e1
  exact ⟨by rw [e1]; exact hl, h3 a ha hn⟩

/-- A store into a block that is none of S's. -/
theorem Sl.far {w : World} {S : Nat → Prop} {v : Value} {n : Nat} {f : Nat → Value} (h : Sl w S v n f) {p : Addr} (hp : ¬ S p.block) (u : Value) : Sl (w.setCell p u) S v n f := by
  obtain ⟨A, c, e, hr, h0, h1, h2, h3⟩ := h
  refine ⟨A, c, e, fun j hj => ?_, h0, h1, h2, h3⟩
  obtain ⟨b, o, e1, hl, hc⟩ := hr j hj
  refine ⟨b, o, e1, by rw [World.size_setCell]; exact hl, ?_⟩
  have hS : S b := by have := h3 _ e1 (by omega); exact this
  have hne : p.block ≠ b := fun e => hp (e ▸ hS)
  have e : (w.setCell p u).heap[b]? = w.heap[b]? := Below.heap_setCell w p u b (fun k => hne k.symm)
  exact (World.cell?_of_block (a := ⟨b, o + j, none⟩) e).trans hc

theorem Sl.drew {w : World} {S : Nat → Prop} {v : Value} {n : Nat} {f : Nat → Value} (h : Sl w S v n f) : Sl w.drew S v n f := h
theorem Sl.one {w : World} {S : Nat → Prop} {v : Value} {n : Nat} {f : Nat → Value} (h : Sl w S v n f) : v.oneCell' = true := by
  obtain ⟨A, c, rfl, _⟩ := h
  rfl
theorem Sl.nil (w : World) (S : Nat → Prop) (f : Nat → Value) : Sl w S (.slice none 0 0) 0 f := ⟨none, 0, rfl, Rd.empty _ _ _, fun _ => ⟨rfl, rfl⟩, Nat.le_refl _, Nat.zero_le _, fun a ha => by cases ha⟩
theorem Sl.congr {w : World} {S : Nat → Prop} {v : Value} {n : Nat} {f g : Nat → Value} (h : Sl w S v n f) (e : ∀ j, j < n → f j = g j) : Sl w S v n g := by
  obtain ⟨A, c, e1, hr, hx⟩ := h
  exact ⟨A, c, e1, hr.congr e, hx⟩
theorem Sl.is {w : World} {S : Nat → Prop} {v : Value} {n : Nat} {f : Nat → Value} (h : Sl w S v n f) : ∃ A c, v = .slice A n c ∧ n ≤ c ∧ c ≤ 9223372036854775807 := by
  obtain ⟨A, c, e, _, _, h1, h2, _⟩ := h
  exact ⟨A, c, e, h1, h2⟩
theorem Sl.parts {w : World} {S : Nat → Prop} {A : Option Addr} {m n c : Nat} {f : Nat → Value} (h : Sl w S (.slice A m c) n f) : m = n ∧ Rd w A n f ∧ (A = none → n = 0 ∧ c = 0) ∧ n ≤ c ∧ c ≤ 9223372036854775807 := by
  obtain ⟨A', c', e, hr, h0, h1, h2, _⟩ := h
  injection e with e1 e2 e3
  subst e1; subst e2; subst e3
  exact ⟨rfl, hr, h0, h1, h2⟩
theorem Sl.take {w : World} {S : Nat → Prop} {A : Option Addr} {n k c : Nat} {f : Nat → Value} (h : Sl w S (.slice A k c) n f) (m : Nat) (hm : m ≤ n) : Sl w S (.slice A m c) m f := by
  obtain ⟨A', c', e, hr, h0, h1, h2, h3⟩ := h
  injection e with e1 e2 e3
  subst e1; subst e2; subst e3
  exact ⟨A, c, rfl, fun j hj => hr j (by omega), fun e => ⟨by have := (h0 e).1; omega, (h0 e).2⟩, by omega, h2, fun a ha hn => h3 a ha (by omega)⟩
theorem Sl.tail {w : World} {S : Nat → Prop} {b o k n c : Nat} {f : Nat → Value} (h : Sl w S (.slice (some ⟨b, o, none⟩) k c) n f) (m : Nat) (hm : m ≤ n) : Sl w S (.slice (some ⟨b, o + m, none⟩) (n - m) (c - m)) (n - m) (fun j => f (m + j)) := by
  obtain ⟨A', c', e, hr, h0, h1, h2, h3⟩ := h
  injection e with e1 e2 e3
  subst e1; subst e2; subst e3
  unfold maxLen at *
  refine ⟨_, _, rfl, fun j hj => ?_, fun e => (by cases e), by omega, by unfold maxLen; omega, fun a ha hn => ?_⟩
  · obtain ⟨b', o', e1, hl, hc⟩ := hr (m + j) (by omega)
    injection e1 with e1
    injection e1 with e1 e2
    subst e1; subst e2
    exact ⟨_, _, rfl, hl, by rw [Nat.add_assoc]; exact hc⟩
  · have := h3 ⟨b, o, none⟩ rfl (by omega)
    injection ha with ha
    subst ha
    exact this

/-- A row of the call's own, as a slice that can be read. -/
theorem sl_own {w : World} {base : Nat} {e : TypeId} {A : Option Addr} {n c : Nat} {xs : List Value} {f : Nat → Value} (h : w.ownsRow base e 1 (.slice A n c) n xs) (hf : ∀ j, j < n → xs[j]? = some (f j)) : Sl w (fun b => base ≤ b) (.slice A n c) n f := by
  have hr := rd_own h hf
  rcases h.2 with ⟨hv, hx⟩ | ⟨g, cap, cur, hv, hb, hh, h1, h2, _⟩
  · injection hv with e1 e2 e3
    subst e1; subst e2; subst e3
    exact ⟨_, _, rfl, hr, fun _ => ⟨rfl, rfl⟩, Nat.le_refl _, Nat.zero_le _, fun a ha => by cases ha⟩
  · injection hv with e1 e2 e3
    subst e1; subst e3
    exact ⟨_, _, rfl, hr, (fun h => by cases h), h1, h2, fun a ha hn => by injection ha with ha; subst ha; exact hb⟩

theorem Sl.grown {w w' : World} {S : Nat → Prop} {v : Value} {n : Nat} {f : Nat → Value} {row : Option Nat} (h : Sl w S v n f) (hg : w.grownBy w' row) (hS : ∀ b, S b → some b ≠ row) : Sl w' S v n f := by
  obtain ⟨A, c, e, hr, h0, h1, h2, h3⟩ := h
  refine ⟨A, c, e, fun j hj => ?_, h0, h1, h2, h3⟩
  obtain ⟨b, o, e1, hl, hc⟩ := hr j hj
  exact ⟨b, o, e1, Nat.lt_of_lt_of_le hl hg.size, (World.cell?_of_block (a := ⟨b, o + j, none⟩) (hg.block b hl (hS b (h3 _ e1 (by omega))))).trans hc⟩

end Go.Proofs.Ytganehhcnflgaaa
