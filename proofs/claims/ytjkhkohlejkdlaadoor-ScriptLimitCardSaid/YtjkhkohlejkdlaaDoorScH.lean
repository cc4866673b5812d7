/- script: what can be written. -/
import Derived.Test.YtjkhkohlejkdlaaDoorScG
namespace Go.Proofs.YtjkhkohlejkdlaaDoor
open Go.RowKit
set_option linter.unusedVariables false
set_option linter.unusedSimpArgs false

/-- An event that can be written. -/
def knownP (x : Evt) : Bool := decide (x.kind = 1) || decide (x.kind = 2) || (decide (x.kind = 3) && decide (0 ≤ x.rows ∧ x.rows ≤ 9999 ∧ 0 ≤ x.cols ∧ x.cols ≤ 9999))
set_option maxHeartbeats 2000000 in
theorem known_any (x : Evt) (w : World) : Calls Tryd.prog 21 #[ev x] w fun e w' => e = .returned (.bool (knownP x)) ∧ Below w.heap.size w w' := by
  obtain ⟨k, y, r, c⟩ := x
  have HW := Lib.hid (show ∀ o, Below w.heap.size w (w.alloc o) from fun o => (Below.refl _ _).alloc (Nat.le_refl _) o)
  by_cases h1 : k = 1
  · subst h1
    have hR : knownP ⟨1, y, r, c⟩ = true := by simp [knownP]
    rw [hR]
    clear hR
    go_enter Tryd.func21, Tryd.ntmps21
    go_wp2
    go_ret
    exact ⟨rfl, HW.out _⟩
  · by_cases h2 : k = 2
    · subst h2
      have hR : knownP ⟨2, y, r, c⟩ = true := by simp [knownP]
      rw [hR]
      clear hR h1
      go_enter Tryd.func21, Tryd.ntmps21
      go_wp2
      go_ret
      exact ⟨rfl, HW.out _⟩
    · by_cases h3 : k = 3
      · subst h3
        have hR : knownP ⟨3, y, r, c⟩ = decide (0 ≤ r ∧ r ≤ 9999 ∧ 0 ≤ c ∧ c ≤ 9999) := by simp [knownP]
        rw [hR]
        clear hR h1 h2
        obtain ⟨m, hm⟩ : ∃ m, (if c < r then c else r) = m := ⟨_, rfl⟩
        obtain ⟨M, hM⟩ : ∃ M, (if c > r then c else r) = M := ⟨_, rfl⟩
        have hmin : ∀ X : World, (Builtin.min_ #[3, 3] 3 #[.int .i64 r, .int .i64 c]).run Tryd.prog X = .ok (.int .i64 m) X := fun X => by rw [run_min_int2, hm]
        have hmax : ∀ X : World, (Builtin.max_ #[3, 3] 3 #[.int .i64 r, .int .i64 c]).run Tryd.prog X = .ok (.int .i64 M) X := fun X => by rw [run_max_int2, hM]
        have hV : decide (0 ≤ r ∧ r ≤ 9999 ∧ 0 ≤ c ∧ c ≤ 9999) = (decide (0 ≤ m) && decide (M ≤ 9999)) := by
          rw [← Bool.decide_and]
          apply decide_eq_decide.2
          rw [← hm, ← hM]
          split <;> split <;> omega
        rw [hV]
        clear hV hm hM
        by_cases g1 : 0 ≤ m
        · have d1 : decide ((0 : Int) ≤ m) = true := by simpa using g1
          rw [d1, Bool.true_and]
          obtain ⟨q, hq⟩ : ∃ q, decide (M ≤ 9999) = q := ⟨_, rfl⟩
          rw [hq]
          clear d1
          go_enter Tryd.func21, Tryd.ntmps21
          go_wp2
          go_ret
          exact ⟨rfl, HW.out _⟩
        · have d1 : decide ((0 : Int) ≤ m) = false := by simpa using g1
          rw [d1, Bool.false_and]
          clear d1
          go_enter Tryd.func21, Tryd.ntmps21
          go_wp2
          go_ret
          exact ⟨rfl, HW.out _⟩
      · have hR : knownP ⟨k, y, r, c⟩ = false := by simp [knownP, h1, h2, h3]
        rw [hR]
        have e1 : (k == 1) = false := by simpa using h1
        have e2 : (k == 2) = false := by simpa using h2
        have e3 : (k == 3) = false := by simpa using h3
        clear hR h1 h2 h3
        go_enter Tryd.func21, Tryd.ntmps21
        go_wp2
        go_ret
        exact ⟨rfl, HW.out _⟩
end Go.Proofs.YtjkhkohlejkdlaaDoor
