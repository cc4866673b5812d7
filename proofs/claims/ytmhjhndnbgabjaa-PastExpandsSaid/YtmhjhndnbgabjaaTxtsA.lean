/- Slices of texts that came in. -/
import Derived.Test.YtmhjhndnbgabjaaTxtA
namespace Go.Proofs.Ytmhjhndnbgabjaa
open Go.ChangeShapes Go.WideShapes Go.ChangeAt Go.RowKit Go.Deep
set_option linter.unusedVariables false
set_option linter.unusedSimpArgs false
section
variable {H : Type} {enc : TypeId × Value → H} {W : World} {base : Nat} {spare : Nat → Bool} {held : Bool}
theorem arg_text {r : Reach} {b0 : Nat} {v : Value} {d : DataW H} {p : List MemPlace} (hv : Value.okWide Try.prog W r b0 24 v) (h : DataW.Trod enc Try.prog W base spare held 24 v d p) : ∃ l : List Int, Txt W v l := by
  obtain ⟨l, hl, _⟩ := reads_txt (reads_arg Try.underlying24 hv h)
  exact ⟨l, hl⟩

theorem arg_texts {r : Reach} {b0 : Nat} {v : Value} {d : DataW H} {p : List MemPlace} (hv : Value.okWide Try.prog W r b0 23 v) (h : DataW.Trod enc Try.prog W base spare held 23 v d p) : ∃ L : List (List Int), Txts W v L := by
  obtain ⟨A, n, c, V, rfl, hr, h0, h1, h2, hR⟩ := reads_slice Try.underlying23 (by kernel_rfl) (reads_arg Try.underlying23 hv h)
  obtain ⟨f, hf⟩ := choose_lt (p := fun i (l : List Int) => Txt W (V i) l) fun i hi => by
    obtain ⟨l, hl, _⟩ := reads_txt (hR i hi)
    exact ⟨l, hl⟩
  have hl : ((List.range n).map f).length = n := by simp
  refine ⟨(List.range n).map f, V, ?_, fun j hj => ?_⟩
  · rw [hl]
    exact ⟨A, c, rfl, hr, h0, h1, h2, fun _ _ _ => trivial⟩
  · rw [hl] at hj
    have : ((List.range n).map f).getD j [] = f j := by simp [List.getD, hj]
    rw [this]
    exact hf j hj

theorem arg_nums {r : Reach} {b0 : Nat} {v : Value} {d : DataW H} {p : List MemPlace} (hv : Value.okWide Try.prog W r b0 42 v) (h : DataW.Trod enc Try.prog W base spare held 42 v d p) :
    ∃ A n c, ∃ f : Nat → Int, v = .slice A n c ∧ Rd W A n (fun j => Value.int .i64 (f j)) ∧ n ≤ c ∧ c ≤ maxLen ∧ ∀ j, j < n → (Lit.int .i64 (f j)).wf = true := by
  obtain ⟨A, n, c, V, rfl, hr, h0, h1, h2, hR⟩ := reads_slice Try.underlying42 (by kernel_rfl) (reads_arg Try.underlying42 hv h)
  obtain ⟨f, hf⟩ := choose_lt (p := fun i (x : Int) => V i = .int .i64 x ∧ (Lit.int .i64 x).wf = true) fun i hi => reads_int Try.underlying3 (hR i hi)
  exact ⟨A, n, c, f, rfl, hr.congr fun j hj => (hf j hj).1, h1, h2, fun j hj => (hf j hj).2⟩
end
end Go.Proofs.Ytmhjhndnbgabjaa
