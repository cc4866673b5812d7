/- ring: deeds that came in. -/
import Derived.Test.YtnninkbkndddhaaRing9
import Derived.Test.YtnninkbkndddhaaTxtA
namespace Go.Proofs.Ytnninkbkndddhaa
open Go.ChangeShapes Go.WideShapes Go.ChangeAt Go.RowKit Go.Deep
set_option linter.unusedVariables false
set_option linter.unusedSimpArgs false
section
variable {H : Type} {enc : TypeId × Value → H} {W : World} {base : Nat} {spare : Nat → Bool} {held : Bool}
theorem arg_deeds {r : Reach} {b0 : Nat} {v : Value} {d : DataW H} {p : List MemPlace} (hv : Value.okWide Try.prog W r b0 32 v) (h : DataW.Trod enc Try.prog W base spare held 32 v d p) :
    ∃ A n c K sv ls, v = .slice A n c ∧ Deeds W A n K sv ls ∧ n ≤ c ∧ c ≤ maxLen := by
  obtain ⟨A, n, c, V, rfl, h0, h1, h2, hR⟩ := reads_structs Try.underlying32 Try.underlying34 (by kernel_rfl) (by kernel_rfl) (reads_arg Try.underlying32 hv h)
  obtain ⟨f, hf⟩ := choose_lt (p := fun i (x : Int × List Int) => V i 0 = .int .i64 x.1 ∧ Txt W (V i 1) x.2) fun i hi => by
    obtain ⟨_, r0⟩ := hR i hi 0 _ rfl
    obtain ⟨_, r1⟩ := hR i hi 1 _ rfl
    obtain ⟨x, hx, _⟩ := reads_int Try.underlying3 r0
    obtain ⟨l, hl, _⟩ := reads_txt r1
    exact ⟨(x, l), hx, hl⟩
  refine ⟨A, n, c, fun i => (f i).1, fun i => V i 1, fun i => (f i).2, rfl, fun i hi => ?_, h1, h2⟩
  obtain ⟨⟨b, o, e, hl, c0⟩, _⟩ := hR i hi 0 _ rfl
  obtain ⟨⟨b', o', e', _, c1⟩, _⟩ := hR i hi 1 _ rfl
  rw [e] at e'
  injection e' with e'
  injection e' with e1 e2
  subst e1; subst e2
  obtain ⟨g1, g2⟩ := hf i hi
  rw [g1] at c0
  exact ⟨b, o, e, hl, by simpa using c0, by simpa [Nat.add_assoc] using c1, g2⟩
end
end Go.Proofs.Ytnninkbkndddhaa
