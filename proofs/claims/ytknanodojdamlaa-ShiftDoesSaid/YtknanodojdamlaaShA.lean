/- shift: an edit that came in. -/
import Derived.Test.YtknanodojdamlaaSh4
import Derived.Test.YtknanodojdamlaaTxtA
namespace Go.Proofs.Ytknanodojdamlaa
open Go.ChangeShapes Go.WideShapes Go.ChangeAt Go.RowKit Go.Deep
set_option linter.unusedVariables false
set_option linter.unusedSimpArgs false
section
variable {H : Type} {enc : TypeId × Value → H} {W : World} {base : Nat} {spare : Nat → Bool} {held : Bool}
/-- The fields of a struct that came in by value. -/
theorem reads_agg {P : Program} {T : TypeId} {fs : Array Field} {cs : List Value} (hT : P.underlying T = some (.struct fs)) (hone : oneCellFields P fs = true) (hC : P.cellsOf T = fs.size) {fuel : Nat} {y : DataW H × List MemPlace} (ht : DataW.trod enc P W base spare held fuel T cs = some y)
    (j : Nat) (f : Field) (hj : fs[j]? = some f) : ∃ u, cs[j]? = some u ∧ Reads enc P W base spare held f.type u := by
  obtain ⟨ys, n', _, _, hlen, hyl, hff⟩ := DataW.trod_struct hT ht
  obtain ⟨ho, hk⟩ := hone_of hone j f hj
  have hjl : j < fs.size := (Array.getElem?_eq_some_iff.1 hj).1
  have h1 := hff j f hj
  have e1 : (cs.drop f.offset).take (P.cellsOf f.type) = [cs[j]'(by omega)] := by
    rw [ho, hk, List.drop_eq_getElem_cons (by omega)]
    rfl
  rw [e1] at h1
  exact ⟨cs[j]'(by omega), List.getElem?_eq_getElem (by omega), n', _, h1.trans (List.getElem?_eq_getElem (by omega))⟩

theorem arg_edit {r : Reach} {b0 : Nat} {v : Value} {d : DataW H} {p : List MemPlace} (hv : Value.okWide Try.prog W r b0 24 v) (h : DataW.Trod enc Try.prog W base spare held 24 v d p) :
    ∃ (at_ : Int) (o n : Value) (lo ln : List Int), v = .agg #[.int .i64 at_, o, n] ∧ Txt W o lo ∧ Txt W n ln := by
  obtain ⟨cs, rfl, hs⟩ := okWide_struct Try.underlying24 hv
  obtain ⟨fuel, hf⟩ := h
  have hf2 : DataW.trod enc Try.prog W base spare held fuel 24 cs.toList = some (d, p) := by simpa [Value.cells] using hf
  have hC : Try.prog.cellsOf 24 = 3 := by kernel_rfl
  have R := fun j f hj => reads_agg Try.underlying24 (by kernel_rfl) (by kernel_rfl) hf2 j f hj
  obtain ⟨u0, g0, r0⟩ := R 0 _ rfl
  obtain ⟨u1, g1, r1⟩ := R 1 _ rfl
  obtain ⟨u2, g2, r2⟩ := R 2 _ rfl
  obtain ⟨x, rfl, _⟩ := reads_int Try.underlying3 r0
  obtain ⟨lo, hlo, _⟩ := reads_txt r1
  obtain ⟨ln, hln, _⟩ := reads_txt r2
  refine ⟨x, u1, u2, lo, ln, ?_, hlo, hln⟩
  rw [hC] at hs
  congr 1
  apply Array.ext'
  apply List.ext_getElem?
  intro i
  have hl : cs.toList.length = 3 := by simpa using hs
  match i with
  | 0 => exact g0
  | 1 => exact g1
  | 2 => exact g2
  | i + 3 => rw [List.getElem?_eq_none (by omega), List.getElem?_eq_none (by simp)]

theorem arg_txt {r : Reach} {b0 : Nat} {v : Value} {d : DataW H} {p : List MemPlace} (hv : Value.okWide Try.prog W r b0 22 v) (h : DataW.Trod enc Try.prog W base spare held 22 v d p) : ∃ l : List Int, Txt W v l := by
  obtain ⟨l, hl, _⟩ := reads_txt (reads_arg Try.underlying22 hv h)
  exact ⟨l, hl⟩

/-- The walk, as what came in gives it. -/
theorem walk_arg (w : World) {v x : Value} (h1 : ∃ l : List Int, Txt w v l) (h2 : ∃ (at_ : Int) (o n : Value) (lo ln : List Int), x = .agg #[.int .i64 at_, o, n] ∧ Txt w o lo ∧ Txt w n ln) : Calls Try.prog 3 #[v, x] w (YesW w) := by
  obtain ⟨l, hl⟩ := h1
  obtain ⟨at_, o, n, lo, ln, rfl, ho, hn⟩ := h2
  exact walk_ShiftDoes w v o n at_ l lo ln hl ho hn
end
end Go.Proofs.Ytknanodojdamlaa
