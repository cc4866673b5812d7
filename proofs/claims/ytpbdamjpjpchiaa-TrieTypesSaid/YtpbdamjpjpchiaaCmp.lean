/- What slices.Compact keeps of a sorted list. -/
import Derived.Lib.SlicesCompact
namespace Go.Proofs.Ytpbdamjpjpchiaa
set_option linter.unusedVariables false
set_option linter.unusedSimpArgs false

theorem compact_mem {zs : List Int} {x : Int} : x ∈ Go.Lib.compact zs ↔ x ∈ zs := by
  unfold Go.Lib.compact Go.Lib.compactUpTo
  constructor
  · intro h
    obtain ⟨j, hj, rfl⟩ := List.mem_map.1 h
    have hlt := List.mem_range.1 (List.mem_filter.1 hj).1
    simp only [List.getElem!_toArray]
    rw [List.getElem!_eq_getElem?_getD, List.getElem?_eq_getElem hlt]
    exact List.getElem_mem hlt
  · intro h
    obtain ⟨j, hj, hx⟩ := List.getElem_of_mem h
    -- the first place that holds it
    have key : ∀ j, (hj : j < zs.length) → zs[j] = x → ∃ i, i < zs.length ∧ zs.toArray[i]! = x ∧ Go.Lib.keeps zs.toArray i = true := by
      intro j
      induction j with
      | zero =>
        intro hj hx
        exact ⟨0, hj, by simp [hj, hx], by simp [Go.Lib.keeps]⟩
      | succ j ih =>
        intro hj hx
        by_cases e : zs[j] = x
        · exact ih (by omega) e
        · refine ⟨j + 1, hj, by simp [hj, hx], ?_⟩
          simp only [Go.Lib.keeps, Nat.add_sub_cancel, decide_eq_true_eq]
          right
          simp [hj, show j < zs.length by omega, hx, Ne.symm e]
    obtain ⟨i, hi, e, hk⟩ := key j hj hx
    exact List.mem_map.2 ⟨i, List.mem_filter.2 ⟨List.mem_range.2 hi, hk⟩, e⟩

theorem compact_lt {zs : List Int} (h : zs.Pairwise (· ≤ ·)) : (Go.Lib.compact zs).Pairwise (· < ·) := by
  unfold Go.Lib.compact Go.Lib.compactUpTo
  rw [List.pairwise_map]
  have hr : (List.range zs.length).Pairwise (· < ·) := List.pairwise_lt_range
  refine List.Pairwise.imp_of_mem ?_ (hr.filter _)
  intro a b ha hb hab
  have hb1 := List.mem_range.1 (List.mem_filter.1 hb).1
  have hb2 := (List.mem_filter.1 hb).2
  simp only [Go.Lib.keeps, decide_eq_true_eq] at hb2
  have hp := List.pairwise_iff_getElem.1 h
  have e (i : Nat) (hi : i < zs.length) : zs.toArray[i]! = zs[i] := by simp [hi]
  rw [e a (by omega), e b hb1] at *
  rcases hb2 with h0 | hne
  · omega
  · rw [e (b - 1) (by omega)] at hne
    have h1 : zs[b - 1] ≤ zs[b] := hp (b - 1) b (by omega) hb1 (by omega)
    have h2 : zs[a] ≤ zs[b - 1] := by
      rcases Nat.lt_or_eq_of_le (show a ≤ b - 1 by omega) with h | h
      · exact hp a (b - 1) (by omega) (by omega) h
      · subst h; exact Int.le_refl _
    omega
theorem compact_len (zs : List Int) : (Go.Lib.compact zs).length ≤ zs.length := by
  unfold Go.Lib.compact Go.Lib.compactUpTo
  rw [List.length_map]
  have := List.length_filter_le (Go.Lib.keeps zs.toArray) (List.range zs.length)
  simpa using this
theorem sorted_ints (zs : List Int) : (zs.mergeSort fun x y => decide (x ≤ y)).Pairwise (· ≤ ·) := by
  have h := List.pairwise_mergeSort (le := fun x y : Int => decide (x ≤ y)) (fun a b c h1 h2 => by simp at *; omega) (fun a b => by simp; omega) zs
  exact h.imp fun h => by simpa using h
/-- Sorted, each once. -/
def sortedOnce (zs : List Int) : List Int := Go.Lib.compact (zs.mergeSort fun x y => decide (x ≤ y))
theorem sortedOnce_lt (zs : List Int) : (sortedOnce zs).Pairwise (· < ·) := compact_lt (sorted_ints zs)
theorem sortedOnce_mem {zs : List Int} {x : Int} : x ∈ sortedOnce zs ↔ x ∈ zs := by
  unfold sortedOnce
  rw [compact_mem]
  exact (List.mergeSort_perm zs _).mem_iff
theorem sortedOnce_len (zs : List Int) : (sortedOnce zs).length ≤ zs.length := by
  have := compact_len (zs.mergeSort fun x y => decide (x ≤ y))
  rwa [List.length_mergeSort] at this
end Go.Proofs.Ytpbdamjpjpchiaa
