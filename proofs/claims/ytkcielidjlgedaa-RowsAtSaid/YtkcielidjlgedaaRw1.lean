/- rows: what comes in and out; ofKind. -/
import Derived.Test.YtkcielidjlgedaaLi
import Derived.Test.YtkcielidjlgedaaRwP
namespace Go.Proofs.Ytkcielidjlgedaa
open Go.RowKit
set_option linter.unusedVariables false
set_option linter.unusedSimpArgs false

def encS (s : Span) : List Value := [.int .i64 s.f, .int .i64 s.t, .int .i64 s.a, .int .i64 s.b]
def encR (x : Row) : List Value := [.int .i64 x.k, .int .i64 x.f, .int .i64 x.t, .int .i64 x.a, .int .i64 x.b]
theorem encS_len (s : Span) : (encS s).length = 4 := rfl
theorem encR_len (x : Row) : (encR x).length = 5 := rfl
theorem span_elt : Elt Try.prog 24 30 4 32 := elt_of Try.underlying24 (z := .agg #[.int .i64 0, .int .i64 0, .int .i64 0, .int .i64 0]) (by kernel_rfl) rfl (by decide)
theorem int_elt : Elt Try.prog 26 3 1 8 := elt_of Try.underlying26 (z := .int .i64 0) (by kernel_rfl) rfl (by decide)

theorem Li.row {w : World} {S : Nat → Prop} {A : Option Addr} {L : List Row} (h : Li 5 encR w S A L) {j : Nat} (hj : j < L.length) : ∃ x b o, L[j]? = some x ∧ A = some ⟨b, o, none⟩ ∧ b < w.heap.size ∧ S b ∧
    w.cell? ⟨b, o + j * 5, none⟩ = some (.int .i64 x.k) ∧ w.cell? ⟨b, o + j * 5 + 1, none⟩ = some (.int .i64 x.f) ∧ w.cell? ⟨b, o + j * 5 + 2, none⟩ = some (.int .i64 x.t) ∧ w.cell? ⟨b, o + j * 5 + 3, none⟩ = some (.int .i64 x.a) ∧ w.cell? ⟨b, o + j * 5 + 4, none⟩ = some (.int .i64 x.b) := by
  obtain ⟨b, o, e, hl, hs, hc⟩ := h.at hj
  exact ⟨L[j], b, o, List.getElem?_eq_getElem hj, e, hl, hs, hc 0 _ rfl, by have := hc 1 _ rfl; rwa [← Nat.add_assoc] at this, by have := hc 2 _ rfl; rwa [← Nat.add_assoc] at this, by have := hc 3 _ rfl; rwa [← Nat.add_assoc] at this, by have := hc 4 _ rfl; rwa [← Nat.add_assoc] at this⟩
theorem Li.span {w : World} {S : Nat → Prop} {A : Option Addr} {L : List Span} (h : Li 4 encS w S A L) {j : Nat} (hj : j < L.length) : ∃ x b o, L[j]? = some x ∧ A = some ⟨b, o, none⟩ ∧ b < w.heap.size ∧ S b ∧
    w.cell? ⟨b, o + j * 4, none⟩ = some (.int .i64 x.f) ∧ w.cell? ⟨b, o + j * 4 + 1, none⟩ = some (.int .i64 x.t) ∧ w.cell? ⟨b, o + j * 4 + 2, none⟩ = some (.int .i64 x.a) ∧ w.cell? ⟨b, o + j * 4 + 3, none⟩ = some (.int .i64 x.b) := by
  obtain ⟨b, o, e, hl, hs, hc⟩ := h.at hj
  exact ⟨L[j], b, o, List.getElem?_eq_getElem hj, e, hl, hs, hc 0 _ rfl, by have := hc 1 _ rfl; rwa [← Nat.add_assoc] at this, by have := hc 2 _ rfl; rwa [← Nat.add_assoc] at this, by have := hc 3 _ rfl; rwa [← Nat.add_assoc] at this⟩

/-- A list that is told, in new memory. -/
def TellsL {α : Type} (k : Nat) (enc : α → List Value) (L : List α) (w : World) (e : Ending) (w' : World) : Prop := ∃ A n c, e = .returned (.slice A n c) ∧ LiV k enc w' (fun b => w.heap.size ≤ b) (.slice A n c) L ∧ Below w.heap.size w w'

/-- A list that is told, and owned. -/
def TellsO {α : Type} (E : TypeId) (k : Nat) (enc : α → List Value) (L : List α) (w : World) (e : Ending) (w' : World) : Prop := ∃ A n c, e = .returned (.slice A n c) ∧ w'.ownsRow w.heap.size E k (.slice A n c) n (flatL enc L) ∧ Below w.heap.size w w'

/-- A row of the call's own that grows in a loop. -/
structure Grows {α : Type} (w : World) (E : TypeId) (k : Nat) (enc : α → List Value) (A : Option Addr) (n c : Nat) (D : List α) (X : World) : Prop where
  own : X.ownsRow w.heap.size E k (.slice A n c) n (flatL enc D)
  below : Below w.heap.size w X
theorem Grows.start {α : Type} {enc : α → List Value} (w : World) (E : TypeId) (k : Nat) : Grows w E k enc none 0 0 ([] : List α) w := ⟨World.ownsRow_nil _ _ _ _, Below.refl _ _⟩
theorem Grows.push {α : Type} {enc : α → List Value} {w X Y Z : World} {E : TypeId} {k n c c' : Nat} {A A' : Option Addr} {D : List α} {x : α} (h : Grows w E k enc A n c D X) (hb : Below X.heap.size X Y) (hp : Pushed Y Z w.heap.size E k (.slice A n c) (n + 1) (flatL enc D ++ enc x) A' c') : Grows w E k enc A' (n + 1) c' (D ++ [x]) Z :=
  ⟨by rw [flatL_snoc]; exact hp.own, hp.below (h.below.trans (hb.mono h.below.size)) (own_later h.own hb) (Nat.le_refl _)⟩
theorem Grows.pushM {α : Type} {enc : α → List Value} {w X Y Z : World} {E : TypeId} {k n m c c' : Nat} {A A' : Option Addr} {D M : List α} {ys : List Value} (h : Grows w E k enc A n c D X) (hb : Below X.heap.size X Y) (hy : ys = flatL enc M) (hp : Pushed Y Z w.heap.size E k (.slice A n c) (n + m) (flatL enc D ++ ys) A' c') : Grows w E k enc A' (n + m) c' (D ++ M) Z :=
  ⟨by rw [flatL_append, ← hy]; exact hp.own, hp.below (h.below.trans (hb.mono h.below.size)) (own_later h.own hb) (Nat.le_refl _)⟩
theorem Grows.later {α : Type} {enc : α → List Value} {w X Y : World} {E : TypeId} {k n c : Nat} {A : Option Addr} {D : List α} (h : Grows w E k enc A n c D X) (hb : Below X.heap.size X Y) : Grows w E k enc A n c D Y :=
  ⟨own_later h.own hb, h.below.trans (hb.mono h.below.size)⟩
theorem Grows.tells {α : Type} {enc : α → List Value} {w X : World} {E : TypeId} {k n c : Nat} {A : Option Addr} {D : List α} (h : Grows w E k enc A n c D X) : TellsO E k enc D w (.returned (.slice A n c)) X := ⟨A, n, c, rfl, h.own, h.below⟩
theorem TellsO.li {α : Type} {enc : α → List Value} {E : TypeId} {k : Nat} {L : List α} {w w' : World} {e : Ending} (hk : ∀ x, (enc x).length = k) (hk0 : 0 < k) (h : TellsO E k enc L w e w') : TellsL k enc L w e w' := by
  obtain ⟨A, n, c, e1, ho, hb⟩ := h
  exact ⟨A, n, c, e1, LiV.own hk hk0 ho, hb⟩

theorem ofK_snoc (kind : Int) (l : List Row) (x : Row) : ofK kind (l ++ [x]) = ofK kind l ++ (cut1 kind x).toList := by
  simp only [ofK, List.filterMap_append]
  cases h : cut1 kind x <;> simp [h]
theorem take_snoc' {α : Type} {L : List α} {j : Nat} {x : α} (h : L[j]? = some x) : L.take (j + 1) = L.take j ++ [x] := by
  obtain ⟨hj, e⟩ := List.getElem?_eq_some_iff.1 h
  rw [List.take_succ_eq_append_getElem hj, e]
end Go.Proofs.Ytkcielidjlgedaa
