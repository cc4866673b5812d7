/- past: deeds that came in. -/
import Derived.Test.YtmhjhndnbgabjaaPastQ
import Derived.Test.YtmhjhndnbgabjaaTxtA
namespace Go.Proofs.Ytmhjhndnbgabjaa
open Go.ChangeShapes Go.WideShapes Go.ChangeAt Go.RowKit Go.Deep
set_option linter.unusedVariables false
set_option linter.unusedSimpArgs false
section
variable {H : Type} {enc : TypeId × Value → H} {W : World} {base : Nat} {spare : Nat → Bool} {held : Bool}
theorem arg_deeds3 {r : Reach} {b0 : Nat} {v : Value} {d : DataW H} {p : List MemPlace} (hv : Value.okWide Try.prog W r b0 22 v) (h : DataW.Trod enc Try.prog W base spare held 22 v d p) :
    ∃ A n c K I sv ls, v = .slice A n c ∧ Deeds3 W A n K I sv ls ∧ n ≤ c ∧ c ≤ maxLen := by
  obtain ⟨A, n, c, V, rfl, h0, h1, h2, hR⟩ := reads_structs Try.underlying22 Try.underlying30 (by kernel_rfl) (by kernel_rfl) (reads_arg Try.underlying22 hv h)
  obtain ⟨f, hf⟩ := choose_lt (p := fun i (x : Int × Int × List Int) => V i 0 = .int .i64 x.1 ∧ V i 1 = .int .i64 x.2.1 ∧ Txt W (V i 2) x.2.2) fun i hi => by
    obtain ⟨_, r0⟩ := hR i hi 0 _ rfl
    obtain ⟨_, r1⟩ := hR i hi 1 _ rfl
    obtain ⟨_, r2⟩ := hR i hi 2 _ rfl
    obtain ⟨x, hx, _⟩ := reads_int Try.underlying3 r0
    obtain ⟨y, hy, _⟩ := reads_int Try.underlying3 r1
    obtain ⟨l, hl, _⟩ := reads_txt r2
    exact ⟨(x, y, l), hx, hy, hl⟩
  refine ⟨A, n, c, fun i => (f i).1, fun i => (f i).2.1, fun i => V i 2, fun i => (f i).2.2, rfl, fun i hi => ?_, h1, h2⟩
  obtain ⟨⟨b, o, e, hl, c0⟩, _⟩ := hR i hi 0 _ rfl
  obtain ⟨⟨b', o', e', _, c1⟩, _⟩ := hR i hi 1 _ rfl
  obtain ⟨⟨b2, o2, e2, _, c2⟩, _⟩ := hR i hi 2 _ rfl
  rw [e] at e' e2
  injection e' with e'
  injection e' with x1 x2
  subst x1; subst x2
  injection e2 with e2
  injection e2 with x1 x2
  subst x1; subst x2
  obtain ⟨g1, g2, g3⟩ := hf i hi
  rw [g1] at c0
  rw [g2] at c1
  exact ⟨b, o, e, hl, by simpa using c0, by simpa [Nat.add_assoc] using c1, by simpa [Nat.add_assoc] using c2, g3⟩
end
end Go.Proofs.Ytmhjhndnbgabjaa
