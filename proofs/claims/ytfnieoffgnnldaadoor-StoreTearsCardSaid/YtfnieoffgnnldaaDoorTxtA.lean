/- A text that came in. -/
import Derived.Test.YtfnieoffgnnldaaDoorTxt
import Derived.Test.YtfnieoffgnnldaaDoorArgS
namespace Go.Proofs.YtfnieoffgnnldaaDoor
open Go.ChangeShapes Go.WideShapes Go.ChangeAt Go.RowKit Go.Deep
set_option linter.unusedVariables false
set_option linter.unusedSimpArgs false
section
variable {H : Type} {enc : TypeId × Value → H} {W : World} {base : Nat} {spare : Nat → Bool} {held : Bool}
theorem reads_txt {v : Value} (h : Reads enc Tryd.prog W base spare held 22 v) : ∃ l, Txt W v l ∧ ∀ x ∈ l, -2147483648 ≤ x ∧ x ≤ 2147483647 := by
  obtain ⟨A, n, c, V, rfl, hr, h0, h1, h2, hR⟩ := reads_slice Tryd.underlying22 (by kernel_rfl) h
  obtain ⟨f, hf⟩ := choose_lt (p := fun j (x : Int) => V j = .int .i32 x ∧ (Lit.int .i32 x).wf = true) fun j hj => reads_int Tryd.underlying21 (hR j hj)
  have hl : ((List.range n).map f).length = n := by simp
  refine ⟨(List.range n).map f, ?_, fun x hx => ?_⟩
  · have hrd : Rd W A n (liR ((List.range n).map f)) := hr.congr fun j hj => by
      rw [(hf j hj).1]
      simp [liR, List.getD, hj]
    exact ⟨A, c, by rw [hl], by rw [hl]; exact hrd, by rw [hl]; exact h0, by rw [hl]; exact h1, h2, fun _ _ _ => trivial⟩
  · obtain ⟨j, hj, rfl⟩ := List.mem_map.1 hx
    exact wf_i32 (hf j (List.mem_range.1 hj)).2
end
end Go.Proofs.YtfnieoffgnnldaaDoor
