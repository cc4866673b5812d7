/- macro: books: maps of steps. -/
import Derived.Test.YtgdfcojgifgjcaaMcC
import Derived.Maps.Views
import Derived.Maps.OwnSet
import Derived.Maps.Own
import Derived.DeepKeys4
namespace Go.Proofs.Ytgdfcojgifgjcaa
open Go.RowKit Go.Maps
set_option linter.unusedVariables false
set_option linter.unusedSimpArgs false
set_option maxRecDepth 100000

/-- A slice's value. -/
abbrev Sv := Option (Nat × Nat) × Nat × Nat
def svV (x : Sv) : Value := .slice (x.1.map fun p => ⟨p.1, p.2, none⟩) x.2.1 x.2.2
def natD (n : Nat) : DataW Unit := .lit (.int .i64 n)
def svD (x : Sv) : DataW Unit := match x.1 with
  | none => .agg [natD x.2.1, natD x.2.2]
  | some p => .agg [natD p.1, natD p.2, natD x.2.1, natD x.2.2]
/-- A map's element is told by its own value. -/
def elS : Value → Option (DataW Unit × List MemPlace)
  | .slice none n c => some (svD (none, n, c), [])
  | .slice (some ⟨b, o, none⟩) n c => some (svD (some (b, o), n, c), [])
  | _ => none
theorem elS_sv (x : Sv) : elS (svV x) = some (svD x, []) := by
  obtain ⟨_ | ⟨b, o⟩, n, c⟩ := x <;> rfl
theorem natD_inj {a b : Nat} (h : natD a = natD b) : a = b := by
  unfold natD at h
  simp only [DataW.lit.injEq, Lit.int.injEq, true_and] at h
  omega
theorem svD_inj {x y : Sv} (h : svD x = svD y) : x = y := by
  obtain ⟨_ | ⟨b, o⟩, n, c⟩ := x <;> obtain ⟨_ | ⟨b', o'⟩, n', c'⟩ := y <;> simp only [svD, DataW.agg.injEq, List.cons.injEq, and_true, reduceCtorEq, and_false] at h
  · obtain ⟨h1, h2⟩ := h
    rw [natD_inj h1, natD_inj h2]
  · obtain ⟨h1, h2, h3, h4⟩ := h
    rw [natD_inj h1, natD_inj h2, natD_inj h3, natD_inj h4]
theorem elS_inv {v : Value} {x : Sv} {ps : List MemPlace} (h : elS v = some (svD x, ps)) : v = svV x := by
  have key : ∃ y, v = svV y := by
    match v, h with
    | .slice none n c, _ => exact ⟨(none, n, c), rfl⟩
    | .slice (some ⟨b, o, none⟩) n c, _ => exact ⟨(some (b, o), n, c), rfl⟩
  obtain ⟨y, rfl⟩ := key
  rw [elS_sv] at h
  have := Option.some.inj h
  rw [svD_inj (Prod.mk.inj this).1]
end Go.Proofs.Ytgdfcojgifgjcaa
