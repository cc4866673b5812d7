/- The given table of characters, as it is told. -/
import Derived.Test.YtkcielidjlgedaaRw1
import Derived.Test.YtkcielidjlgedaaTab
import Derived.Test.YtkcielidjlgedaaRun
namespace Go.Proofs.Ytkcielidjlgedaa
open Go.RowKit
set_option linter.unusedVariables false
set_option linter.unusedSimpArgs false
set_option maxRecDepth 100000

def rowV (x : Row) : Value := .agg (encR x).toArray
theorem rows_flat (L : List Row) : ((L.map rowV).flatMap fun v => v.cells.toList) = flatL encR L := by
  induction L with
  | nil => rfl
  | cons x L ih => simp only [List.map_cons, List.flatMap_cons, flatL] at ih ⊢; rw [ih]; rfl
theorem rows_size : ∀ L : List Row, (L.map rowV).all (fun v => v.cells.size == 5) = true
  | [] => rfl
  | x :: L => by simp only [List.map_cons, List.all_cons, rows_size L, Bool.and_true]; rfl
theorem rows_sizeOf : ∀ w, (sizeOf 34).run Try.prog w = .ok 5 w := fun w => by kernel_rfl
theorem rows_zero : ∀ w, (zeroValue 34).run Try.prog w = .ok (.agg #[.int .i64 0, .int .i64 0, .int .i64 0, .int .i64 0, .int .i64 0]) w := fun w => by kernel_rfl
theorem rows_tells (L : List Row) (N : Nat) (hN : L.length = N) (hm : N ≤ 1000) (w : World) : TellsO 34 5 encR L w (.returned (.slice (some ⟨w.heap.size, 0, none⟩) N N)) (w.alloc (.cells ((L.map rowV).flatMap fun v => v.cells.toList).toArray 34)) := by
  rw [rows_flat]
  refine ⟨_, _, _, rfl, ?_, (Below.refl _ _).alloc (Nat.le_refl _) _⟩
  have := own_newN w (flatL encR L).toArray 34 5 N (by simp [flatL_len encR_len, hN]) (by unfold maxLen; omega)
  simpa using this

theorem classes_any (w : World) : Calls Try.prog 28 #[] w (TellsO 34 5 encR classesT w) := by
  refine calls_of_wp Try.func28 rfl ?_
  exact calls_table_at 22 34 5 82 _ (classesT.map rowV) Try.underlying22 rows_sizeOf rows_zero rfl (by decide) (by as_aux_lemma => kernel_rfl) (by decide) (by decide) (rows_size _) rfl (by as_aux_lemma => kernel_rfl) rfl (by as_aux_lemma => kernel_rfl) (fun a w => by as_aux_lemma => kernel_rfl) (by as_aux_lemma => kernel_rfl) (rows_tells _ _ (by as_aux_lemma => kernel_rfl) (by decide) w)

theorem pairs_any (w : World) : Calls Try.prog 29 #[] w (TellsO 34 5 encR pairsT w) := by
  refine calls_of_wp Try.func29 rfl ?_
  exact calls_table_at 22 34 5 178 _ (pairsT.map rowV) Try.underlying22 rows_sizeOf rows_zero rfl (by decide) (by as_aux_lemma => kernel_rfl) (by decide) (by decide) (rows_size _) rfl (by as_aux_lemma => kernel_rfl) rfl (by as_aux_lemma => kernel_rfl) (fun a w => by as_aux_lemma => kernel_rfl) (by as_aux_lemma => kernel_rfl) (rows_tells _ _ (by as_aux_lemma => kernel_rfl) (by decide) w)

theorem outs_any (w : World) : Calls Try.prog 30 #[] w (TellsO 34 5 encR outsT w) := by
  refine calls_of_wp Try.func30 rfl ?_
  exact calls_table_at 22 34 5 8 _ (outsT.map rowV) Try.underlying22 rows_sizeOf rows_zero rfl (by decide) (by as_aux_lemma => kernel_rfl) (by decide) (by decide) (rows_size _) rfl (by as_aux_lemma => kernel_rfl) rfl (by as_aux_lemma => kernel_rfl) (fun a w => by as_aux_lemma => kernel_rfl) (by as_aux_lemma => kernel_rfl) (rows_tells _ _ (by as_aux_lemma => kernel_rfl) (by decide) w)

theorem breaks_any (w : World) : Calls Try.prog 31 #[] w (TellsO 34 5 encR breaksT w) := by
  refine calls_of_wp Try.func31 rfl ?_
  exact calls_table_at 22 34 5 69 _ (breaksT.map rowV) Try.underlying22 rows_sizeOf rows_zero rfl (by decide) (by as_aux_lemma => kernel_rfl) (by decide) (by decide) (rows_size _) rfl (by as_aux_lemma => kernel_rfl) rfl (by as_aux_lemma => kernel_rfl) (fun a w => by as_aux_lemma => kernel_rfl) (by as_aux_lemma => kernel_rfl) (rows_tells _ _ (by as_aux_lemma => kernel_rfl) (by decide) w)

theorem picts_any (w : World) : Calls Try.prog 32 #[] w (TellsO 34 5 encR pictsT w) := by
  refine calls_of_wp Try.func32 rfl ?_
  exact calls_table_at 22 34 5 22 _ (pictsT.map rowV) Try.underlying22 rows_sizeOf rows_zero rfl (by decide) (by as_aux_lemma => kernel_rfl) (by decide) (by decide) (rows_size _) rfl (by as_aux_lemma => kernel_rfl) rfl (by as_aux_lemma => kernel_rfl) (fun a w => by as_aux_lemma => kernel_rfl) (by as_aux_lemma => kernel_rfl) (rows_tells _ _ (by as_aux_lemma => kernel_rfl) (by decide) w)

theorem conjs_any (w : World) : Calls Try.prog 33 #[] w (TellsO 34 5 encR conjsT w) := by
  refine calls_of_wp Try.func33 rfl ?_
  exact calls_table_at 22 34 5 5 _ (conjsT.map rowV) Try.underlying22 rows_sizeOf rows_zero rfl (by decide) (by as_aux_lemma => kernel_rfl) (by decide) (by decide) (rows_size _) rfl (by as_aux_lemma => kernel_rfl) rfl (by as_aux_lemma => kernel_rfl) (fun a w => by as_aux_lemma => kernel_rfl) (by as_aux_lemma => kernel_rfl) (rows_tells _ _ (by as_aux_lemma => kernel_rfl) (by decide) w)

theorem wides_any (w : World) : Calls Try.prog 34 #[] w (TellsO 34 5 encR widesT w) := by
  refine calls_of_wp Try.func34 rfl ?_
  exact calls_table_at 22 34 5 21 _ (widesT.map rowV) Try.underlying22 rows_sizeOf rows_zero rfl (by decide) (by as_aux_lemma => kernel_rfl) (by decide) (by decide) (rows_size _) rfl (by as_aux_lemma => kernel_rfl) rfl (by as_aux_lemma => kernel_rfl) (fun a w => by as_aux_lemma => kernel_rfl) (by as_aux_lemma => kernel_rfl) (rows_tells _ _ (by as_aux_lemma => kernel_rfl) (by decide) w)

theorem letters_any (w : World) : Calls Try.prog 35 #[] w (TellsO 34 5 encR lettersT w) := by
  refine calls_of_wp Try.func35 rfl ?_
  exact calls_table_at 22 34 5 34 _ (lettersT.map rowV) Try.underlying22 rows_sizeOf rows_zero rfl (by decide) (by as_aux_lemma => kernel_rfl) (by decide) (by decide) (rows_size _) rfl (by as_aux_lemma => kernel_rfl) rfl (by as_aux_lemma => kernel_rfl) (fun a w => by as_aux_lemma => kernel_rfl) (by as_aux_lemma => kernel_rfl) (rows_tells _ _ (by as_aux_lemma => kernel_rfl) (by decide) w)

end Go.Proofs.Ytkcielidjlgedaa
