/- loop: deeds and events that come in. -/
import Derived.Test.YtcoffbgpdbhjfaaLoopW
namespace Go.Proofs.Ytcoffbgpdbhjfaa
open Go.ChangeShapes Go.WideShapes Go.ChangeAt Go.RowKit Go.Deep
set_option linter.unusedVariables false
set_option linter.unusedSimpArgs false
section
variable {H : Type} {enc : TypeId × Value → H} {W : World} {base : Nat} {spare : Nat → Bool} {held : Bool}
theorem trod_deed {fuel : Nat} {cs : List Value} {y : DataW H × List MemPlace} (ht : DataW.trod enc Try.prog W base spare held fuel 40 cs = some y) : ∃ x : Evt, cs[0]? = some (.int .i64 x.kind) ∧ cs[1]? = some (.int .u8 x.byte) ∧ cs[2]? = some (.int .i64 x.rows) ∧ cs[3]? = some (.int .i64 x.cols) := by
  obtain ⟨ys, n', _, _, hlen, hyl, hff⟩ := DataW.trod_struct Try.underlying40 ht
  have h1 : DataW.trod enc Try.prog W base spare held n' 23 ((cs.drop 0).take (Try.prog.cellsOf 23)) = ys[0]? := hff 0 _ rfl
  have hC : Try.prog.cellsOf 23 = 4 := by kernel_rfl
  rw [hC, List.drop_zero] at h1
  obtain ⟨v, hv⟩ : ∃ v, ys[0]? = some v := by
    have : 0 < ys.length := by rw [hyl]; decide
    exact ⟨ys[0], List.getElem?_eq_getElem this⟩
  rw [hv] at h1
  obtain ⟨x, g0, g1, g2, g3⟩ := trod_event h1
  refine ⟨x, ?_, ?_, ?_, ?_⟩
  · simpa [List.getElem?_take] using g0
  · simpa [List.getElem?_take] using g1
  · simpa [List.getElem?_take] using g2
  · simpa [List.getElem?_take] using g3

theorem arg_deeds {r : Reach} {b0 : Nat} {v : Value} {d : DataW H} {p : List MemPlace} (hv : Value.okWide Try.prog W r b0 35 v) (h : DataW.Trod enc Try.prog W base spare held 35 v d p) :
    ∃ A n c L, v = .slice A n c ∧ L.length = n ∧ EvRd W A L ∧ n ≤ c ∧ c ≤ maxLen ∧ (A = none → n = 0 ∧ c = 0) :=
  arg_four Try.underlying35 (by kernel_rfl) (fun _ _ _ ht => trod_deed ht) hv h
theorem arg_events {r : Reach} {b0 : Nat} {v : Value} {d : DataW H} {p : List MemPlace} (hv : Value.okWide Try.prog W r b0 30 v) (h : DataW.Trod enc Try.prog W base spare held 30 v d p) :
    ∃ A n c L, v = .slice A n c ∧ L.length = n ∧ EvRd W A L ∧ n ≤ c ∧ c ≤ maxLen ∧ (A = none → n = 0 ∧ c = 0) :=
  arg_four Try.underlying30 (by kernel_rfl) (fun _ _ _ ht => trod_event ht) hv h
end
end Go.Proofs.Ytcoffbgpdbhjfaa
