/- bind: maps of strokes. -/
import Derived.Test.YtpdjkphjpjbhgaaDoorBindF
import Derived.Maps.Views
import Derived.Maps.OwnSet
import Derived.DeepKeys4
namespace Go.Proofs.YtpdjkphjpjbhgaaDoor
open Go.RowKit Go.Maps
set_option linter.unusedVariables false
set_option linter.unusedSimpArgs false

abbrev Stk := Bool × Int × Int × Bool
abbrev sv (s : Stk) : Value := stk s.1 s.2.1 s.2.2.1 s.2.2.2
def Wf (s : Stk) : Prop := (Lit.int .i64 s.2.1).wf = true ∧ (Lit.int .i32 s.2.2.1).wf = true
theorem sv_inj {s t : Stk} (h : sv s = sv t) : s = t := by
  obtain ⟨p, k, r, m⟩ := s
  obtain ⟨p', k', r', m'⟩ := t
  simp only [sv, Value.agg.injEq, Array.mk.injEq, List.cons.injEq, Value.bool.injEq, Value.int.injEq, true_and, and_true] at h
  obtain ⟨rfl, rfl, rfl, rfl⟩ := h
  rfl

theorem laidOutP : laidOutB Tryd.prog = true := by kernel_rfl
theorem law : Keyed Tryd.prog 26 := Keyed.of_law (deep_law_laid laidOutP (m := 2) (by omega) (of_decide_eq_true (by kernel_rfl)) (by kernel_rfl) (by rw [Tryd.underlying26]))

theorem key_of (s : Stk) (h : Wf s) : ∃ kl, keyOf Tryd.prog 26 (sv s) = some kl := by
  obtain ⟨h1, h2⟩ := h
  have hpos : 0 < Tryd.prog.types.size := of_decide_eq_true (by kernel_rfl)
  obtain ⟨d, hd⟩ : ∃ d, Tryd.prog.types.size + 1 = d + 1 + 1 := ⟨Tryd.prog.types.size - 1, by omega⟩
  have kt : Tryd.prog.keyType 26 = true := by kernel_rfl
  have c1 : Tryd.prog.cellsOf 3 = 1 := by kernel_rfl
  have c2 : Tryd.prog.cellsOf 21 = 1 := by kernel_rfl
  have c3 : Tryd.prog.cellsOf 4 = 1 := by kernel_rfl
  have c4 : Tryd.prog.cellsOf 26 = 4 := by kernel_rfl
  unfold keyOf
  rw [Tryd.underlying26, hd]
  simp [kt, Value.formed, Tryd.underlying26, Tryd.underlying3, Tryd.underlying21, Tryd.underlying4, c1, c2, c3, c4, Program.keyLits, Value.cells, h1, h2]

/-- What was said last of a stroke. -/
def lastOf : List (Stk × Int) → Stk → Option Int
  | [], _ => none
  | x :: l, s => match lastOf l s with
    | some c => some c
    | none => if x.1 = s then some x.2 else none
theorem lastOf_snoc (L : List (Stk × Int)) (x : Stk × Int) (s : Stk) : lastOf (L ++ [x]) s = if x.1 = s then some x.2 else lastOf L s := by
  induction L with
  | nil => simp [lastOf]
  | cons y L ih =>
    simp only [List.cons_append, lastOf, ih]
    by_cases h : x.1 = s
    · simp [h]
    · simp [h]

noncomputable abbrev el : Value → Option (DataW Unit × List MemPlace) := plainElem Tryd.prog 3
/-- A map that tells what was said. -/
def MapOf (w : World) (v : Value) (L : List (Stk × Int)) : Prop :=
  (v = .map none ∧ L = []) ∨ ∃ b D, v = .map (some b) ∧ w.ownsMap Tryd.prog 26 el b L.length D ∧
    ∀ s kl, keyOf Tryd.prog 26 (sv s) = some kl → D.atKey kl (.lit (.int .i64 0)) = .lit (.int .i64 ((lastOf L s).getD 0)) ∧ Maps.has D kl = (lastOf L s).isSome

theorem ownsMap_below {w w' : World} {b n : Nat} {D : DataW Unit} (h : w.ownsMap Tryd.prog 26 el b n D) (hb : Below w.heap.size w w') : w'.ownsMap Tryd.prog 26 el b n D := by
  have hlt := h.lt
  obtain ⟨es, clock, hh, F, hs, hD⟩ := h
  exact ⟨es, clock, (hb.block _ hlt).trans hh, F, hs, hD⟩
theorem MapOf.later {w w' : World} {v : Value} {L : List (Stk × Int)} (h : MapOf w v L) (hb : Below w.heap.size w w') : MapOf w' v L := by
  rcases h with h | ⟨b, D, h1, h2, h3⟩
  · exact .inl h
  · exact .inr ⟨b, D, h1, ownsMap_below h2 hb, h3⟩

theorem zeroI (w : World) : (zeroValue 3).run Tryd.prog w = .ok (.int .i64 0) w := by kernel_rfl

theorem look_at {w : World} {v : Value} {L : List (Stk × Int)} (h : MapOf w v L) {s : Stk} (hs : Wf s) :
    (Instr.lookup 32 v (sv s) true).run Tryd.prog w = .ok (.tuple #[.int .i64 ((lastOf L s).getD 0), .bool (lastOf L s).isSome]) w := by
  rcases h with ⟨rfl, rfl⟩ | ⟨b, D, rfl, h2, h3⟩
  · exact said_none _ _ _ _ _
  · obtain ⟨kl, hk⟩ := key_of s hs
    obtain ⟨ha, hh⟩ := h3 s kl hk
    obtain ⟨u, ps, hrun, hv⟩ := h2.look_ok law Tryd.underlying32 (zeroI _) (plainElem_int Tryd.underlying3 (by decide)) hk
    rw [ha] at hv
    obtain ⟨c, rfl, hc, _⟩ := plainElem_int_inv Tryd.underlying3 hv
    simp only [Prod.mk.injEq, DataW.lit.injEq, Lit.int.injEq, true_and] at hc
    rw [hrun, hh, ← hc.1]
end Go.Proofs.YtpdjkphjpjbhgaaDoor
