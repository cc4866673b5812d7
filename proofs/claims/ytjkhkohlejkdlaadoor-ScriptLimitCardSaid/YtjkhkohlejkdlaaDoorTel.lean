/- Lists that are told: in memory of the call's own. -/
import Derived.Test.YtjkhkohlejkdlaaDoorLi
namespace Go.Proofs.YtjkhkohlejkdlaaDoor
open Go.RowKit
set_option linter.unusedVariables false
set_option linter.unusedSimpArgs false

/-- A list that is told, in new memory. -/
def TellsL {α : Type} (k : Nat) (enc : α → List Value) (L : List α) (w : World) (e : Ending) (w' : World) : Prop := ∃ A n c, e = .returned (.slice A n c) ∧ LiV k enc w' (fun b => w.heap.size ≤ b) (.slice A n c) L ∧ Below w.heap.size w w'

/-- A list that is told, and owned. -/
def TellsO {α : Type} (E : TypeId) (k : Nat) (enc : α → List Value) (L : List α) (w : World) (e : Ending) (w' : World) : Prop := ∃ A n c, e = .returned (.slice A n c) ∧ w'.ownsRow w.heap.size E k (.slice A n c) n (flatL enc L) ∧ Below w.heap.size w w'

/-- A row of the call's own that grows in a loop. -/
structure Grows {α : Type} (w : World) (E : TypeId) (k : Nat) (enc : α → List Value) (A : Option Addr) (n c : Nat) (D : List α) (X : World) : Prop where
  own : X.ownsRow w.heap.size E k (.slice A n c) n (flatL enc D)
  below : Below w.heap.size w X
theorem Grows.start {α : Type} {enc : α → List Value} (w : World) (E : TypeId) (k : Nat) : Grows w E k enc none 0 0 ([] : List α) w := ⟨World.ownsRow_nil _ _ _ _, Below.refl _ _⟩
theorem Grows.push {α : Type} {enc : α → List Value} {w X Y Z : World} {E : TypeId} {k n c c' : Nat} {A A' : Option Addr} {D : List α} {x : α} (h : Grows w E k enc A n c D X) (hb : Below X.heap.size X Y) (hp : Pushed Y Z w.heap.size E k (.slice A n c) (n + 1) (flatL enc D ++ enc x) A' c') : Grows w E k enc A' (n + 1) c' (D ++ [x]) Z :=
  ⟨by rw [flatL_snoc]; exact hp.own, hp.below (h.below.trans (hb.mono h.below.size)) (own_later h.own hb) (Nat.le_refl _)⟩
theorem Grows.pushM {α : Type} {enc : α → List Value} {w X Y Z : World} {E : TypeId} {k n m c c' : Nat} {A A' : Option Addr} {D M : List α} {ys : List Value} (h : Grows w E k enc A n c D X) (hb : Below X.heap.size X Y) (hy : ys = flatL enc M) (hp : Pushed Y Z w.heap.size E k (.slice A n c) (n + m) (flatL enc D ++ ys) A' c') : Grows w E k enc A' (n + m) c' (D ++ M) Z :=
  ⟨by rw [flatL_append, ← hy]; exact hp.own, hp.below (h.below.trans (hb.mono h.below.size)) (own_later h.own hb) (Nat.le_refl _)⟩
theorem Grows.later {α : Type} {enc : α → List Value} {w X Y : World} {E : TypeId} {k n c : Nat} {A : Option Addr} {D : List α} (h : Grows w E k enc A n c D X) (hb : Below X.heap.size X Y) : Grows w E k enc A n c D Y :=
  ⟨own_later h.own hb, h.below.trans (hb.mono h.below.size)⟩
theorem Grows.tells {α : Type} {enc : α → List Value} {w X : World} {E : TypeId} {k n c : Nat} {A : Option Addr} {D : List α} (h : Grows w E k enc A n c D X) : TellsO E k enc D w (.returned (.slice A n c)) X := ⟨A, n, c, rfl, h.own, h.below⟩
theorem TellsO.li {α : Type} {enc : α → List Value} {E : TypeId} {k : Nat} {L : List α} {w w' : World} {e : Ending} (hk : ∀ x, (enc x).length = k) (hk0 : 0 < k) (h : TellsO E k enc L w e w') : TellsL k enc L w e w' := by
  obtain ⟨A, n, c, e1, ho, hb⟩ := h
  exact ⟨A, n, c, e1, LiV.own hk hk0 ho, hb⟩

theorem take_snoc' {α : Type} {L : List α} {j : Nat} {x : α} (h : L[j]? = some x) : L.take (j + 1) = L.take j ++ [x] := by
  obtain ⟨hj, e⟩ := List.getElem?_eq_some_iff.1 h
  rw [List.take_succ_eq_append_getElem hj, e]
end Go.Proofs.YtjkhkohlejkdlaaDoor
