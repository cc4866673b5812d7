/- gap: what comes in. -/
import Derived.Test.YtganehhcnflgaaaGapU
import Derived.Test.YtganehhcnflgaaaArgS
namespace Go.Proofs.Ytganehhcnflgaaa
open Go.ChangeShapes Go.WideShapes Go.ChangeAt Go.RowKit Go.Deep
set_option linter.unusedVariables false
set_option linter.unusedSimpArgs false
section
variable {H : Type} {enc : TypeId × Value → H} {W : World} {base : Nat} {spare : Nat → Bool} {held : Bool}
theorem reads_ints {v : Value} (h : Reads enc Try.prog W base spare held 22 v) : ∃ l, IntS W Any v l := by
  obtain ⟨A, n, c, V, rfl, hr, h0, h1, h2, hR⟩ := reads_slice Try.underlying22 (by kernel_rfl) h
  obtain ⟨f, hf⟩ := choose_lt (p := fun j (x : Int) => V j = .int .i64 x ∧ (Lit.int .i64 x).wf = true) fun j hj => reads_int Try.underlying3 (hR j hj)
  have hl : ((List.range n).map f).length = n := by simp
  refine ⟨(List.range n).map f, ?_⟩
  have hrd : Rd W A n (liI ((List.range n).map f)) := hr.congr fun j hj => by
    rw [(hf j hj).1]
    simp [liI, vI, List.getD, hj]
  exact ⟨A, c, by rw [hl], by rw [hl]; exact hrd, by rw [hl]; exact h0, by rw [hl]; exact h1, h2, fun _ _ _ => trivial⟩
theorem arg_list {r : Reach} {b0 : Nat} {v : Value} {d : DataW H} {p : List MemPlace} (hv : Value.okWide Try.prog W r b0 22 v) (h : DataW.Trod enc Try.prog W base spare held 22 v d p) : ∃ l, IntS W Any v l :=
  reads_ints (reads_arg Try.underlying22 hv h)
theorem arg_deeds {r : Reach} {b0 : Nat} {v : Value} {d : DataW H} {p : List MemPlace} (hv : Value.okWide Try.prog W r b0 23 v) (h : DataW.Trod enc Try.prog W base spare held 23 v d p) :
    ∃ A n c F T sv ls, v = .slice A n c ∧ Deeds W A n F T sv ls ∧ n ≤ c ∧ c ≤ maxLen := by
  obtain ⟨A, n, c, V, rfl, h0, h1, h2, hR⟩ := reads_structs Try.underlying23 Try.underlying27 (by kernel_rfl) (by kernel_rfl) (reads_arg Try.underlying23 hv h)
  obtain ⟨f, hf⟩ := choose_lt (p := fun i (x : Int × Int × List Int) => V i 0 = .int .i64 x.1 ∧ V i 1 = .int .i64 x.2.1 ∧ IntS W Any (V i 2) x.2.2) fun i hi => by
    obtain ⟨_, r0⟩ := hR i hi 0 _ rfl
    obtain ⟨_, r1⟩ := hR i hi 1 _ rfl
    obtain ⟨_, r2⟩ := hR i hi 2 _ rfl
    obtain ⟨x, hx, _⟩ := reads_int Try.underlying3 r0
    obtain ⟨y, hy, _⟩ := reads_int Try.underlying3 r1
    obtain ⟨l, hl⟩ := reads_ints r2
    exact ⟨(x, y, l), hx, hy, hl⟩
  refine ⟨A, n, c, fun i => (f i).1, fun i => (f i).2.1, fun i => V i 2, fun i => (f i).2.2, rfl, fun i hi => ?_, h1, h2⟩
  obtain ⟨⟨b, o, e, hl, c0⟩, _⟩ := hR i hi 0 _ rfl
  obtain ⟨⟨b', o', e', _, c1⟩, _⟩ := hR i hi 1 _ rfl
  obtain ⟨⟨b'', o'', e'', _, c2⟩, _⟩ := hR i hi 2 _ rfl
  rw [e] at e' e''
  injection e' with e'
  injection e' with e1 e2
  injection e'' with e''
  injection e'' with e3 e4
  subst e1; subst e2; subst e3; subst e4
  obtain ⟨g1, g2, g3⟩ := hf i hi
  rw [g1] at c0
  rw [g2] at c1
  exact ⟨b, o, e, hl, by simpa using c0, by simpa [Nat.add_assoc] using c1, by simpa [Nat.add_assoc] using c2, g3⟩
end
end Go.Proofs.Ytganehhcnflgaaa
