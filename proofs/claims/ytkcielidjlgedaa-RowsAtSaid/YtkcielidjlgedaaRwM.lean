/- rows: rows that come in; RowsSpans' walk. -/
import Derived.Test.YtkcielidjlgedaaRwL
import Derived.Test.YtkcielidjlgedaaArgS
namespace Go.Proofs.Ytkcielidjlgedaa
open Go.ChangeShapes Go.WideShapes Go.ChangeAt Go.RowKit Go.Deep
set_option linter.unusedVariables false
set_option linter.unusedSimpArgs false

/-- It returns true; what was there is as it was. -/
def YesL (w : World) (e : Ending) (w' : World) : Prop := e = .returned (.bool true) ∧ Below w.heap.size w w'

def i64ok (x : Int) : Prop := -9223372036854775808 ≤ x ∧ x ≤ 9223372036854775807
def rowOk (x : Row) : Prop := i64ok x.k ∧ i64ok x.f ∧ i64ok x.t ∧ i64ok x.a ∧ i64ok x.b
/-- Rows that came in. -/
structure RowsIn (W : World) (A : Option Addr) (c : Nat) (L : List Row) : Prop where
  li : Li 5 encR W (fun _ => True) A L
  le : L.length ≤ c
  mx : c ≤ maxLen
  ok : ∀ x ∈ L, rowOk x
section
variable {H : Type} {enc : TypeId × Value → H} {W : World} {base : Nat} {spare : Nat → Bool} {held : Bool}
theorem arg_rows {v : Value} {r : Reach} {b0 : Nat} {d : DataW H} {p : List MemPlace} (hv : Value.okWide Try.prog W r b0 22 v) (h : DataW.Trod enc Try.prog W base spare held 22 v d p) :
    ∃ A L c, v = .slice A (L : List Row).length c ∧ RowsIn W A c L := by
  obtain ⟨A, n, c, V, rfl, h0, h1, h2, hV⟩ := reads_structs Try.underlying22 Try.underlying34 (by kernel_rfl) (by kernel_rfl) (reads_arg Try.underlying22 hv h)
  have key : ∀ i, i < n → ∃ x : Row, rowOk x ∧ ∃ b o, A = some ⟨b, o, none⟩ ∧ b < W.heap.size ∧ ∀ (j : Nat) (u : Value), (encR x)[j]? = some u → W.cell? ⟨b, o + (i * 5 + j), none⟩ = some u := by
    intro i hi
    have f := hV i hi
    obtain ⟨⟨b, o, e, hb, k0⟩, r0⟩ := f 0 _ rfl
    obtain ⟨⟨_, _, e1, _, k1⟩, r1⟩ := f 1 _ rfl
    obtain ⟨⟨_, _, e2, _, k2⟩, r2⟩ := f 2 _ rfl
    obtain ⟨⟨_, _, e3, _, k3⟩, r3⟩ := f 3 _ rfl
    obtain ⟨⟨_, _, e4, _, k4⟩, r4⟩ := f 4 _ rfl
    rw [e] at e1 e2 e3 e4
    simp only [Option.some.injEq, Addr.mk.injEq, and_true] at e1 e2 e3 e4
    obtain ⟨rfl, rfl⟩ := e1
    obtain ⟨rfl, rfl⟩ := e2
    obtain ⟨rfl, rfl⟩ := e3
    obtain ⟨rfl, rfl⟩ := e4
    obtain ⟨x0, y0, z0⟩ := reads_int Try.underlying3 r0
    obtain ⟨x1, y1, z1⟩ := reads_int Try.underlying3 r1
    obtain ⟨x2, y2, z2⟩ := reads_int Try.underlying3 r2
    obtain ⟨x3, y3, z3⟩ := reads_int Try.underlying3 r3
    obtain ⟨x4, y4, z4⟩ := reads_int Try.underlying3 r4
    rw [y0] at k0
    rw [y1] at k1
    rw [y2] at k2
    rw [y3] at k3
    rw [y4] at k4
    refine ⟨⟨x0, x1, x2, x3, x4⟩, ⟨wf_i64 z0, wf_i64 z1, wf_i64 z2, wf_i64 z3, wf_i64 z4⟩, b, o, e, hb, fun j u hu => ?_⟩
    match j, hu with
    | 0, hu => injection hu with hu; subst hu; exact k0
    | 1, hu => injection hu with hu; subst hu; exact k1
    | 2, hu => injection hu with hu; subst hu; exact k2
    | 3, hu => injection hu with hu; subst hu; exact k3
    | 4, hu => injection hu with hu; subst hu; exact k4
    | j + 5, hu => simp [encR] at hu
  haveI : Nonempty Row := ⟨⟨0, 0, 0, 0, 0⟩⟩
  let F : Nat → Row := fun i => Classical.epsilon fun x => rowOk x ∧ ∃ b o, A = some ⟨b, o, none⟩ ∧ b < W.heap.size ∧ ∀ (j : Nat) (u : Value), (encR x)[j]? = some u → W.cell? ⟨b, o + (i * 5 + j), none⟩ = some u
  have hF : ∀ i, i < n → rowOk (F i) ∧ ∃ b o, A = some ⟨b, o, none⟩ ∧ b < W.heap.size ∧ ∀ (j : Nat) (u : Value), (encR (F i))[j]? = some u → W.cell? ⟨b, o + (i * 5 + j), none⟩ = some u := fun i hi => Classical.epsilon_spec (key i hi)
  refine ⟨A, (List.range n).map F, c, by simp, ⟨?_, by simpa using h1, h2, ?_⟩⟩
  · intro j x hj
    have hjn : j < n := by have := (List.getElem?_eq_some_iff.1 hj).1; simpa using this
    simp [hjn] at hj
    subst hj
    obtain ⟨_, b, o, e, hb, hc⟩ := hF j hjn
    exact ⟨b, o, e, hb, trivial, hc⟩
  · intro x hx
    obtain ⟨i, hi, rfl⟩ := List.mem_map.1 hx
    exact (hF i (List.mem_range.1 hi)).1
end
end Go.Proofs.Ytkcielidjlgedaa
