/- bind: what is usual of names, of scalars with Meta, of controls. -/
import Derived.Test.YtpdjkphjpjbhgaaDoorBindE
namespace Go.Proofs.YtpdjkphjpjbhgaaDoor
open Go.RowKit
set_option linter.unusedVariables false
set_option linter.unusedSimpArgs false

set_option maxHeartbeats 8000000 in
theorem named_any (r : Int) (w : World) : Calls Tryd.prog 14 #[.int .i32 r] w (Tells w (rowL nam r)) := by
  by_cases c1 : r = 1
  · subst c1
    go_enter Tryd.func14, Tryd.ntmps14
    go_wp2
    go_ret
    exact ⟨rfl, by first | exact Below.refl _ _ | exact (Below.refl _ _).alloc (Nat.le_refl _) _⟩
  by_cases c2 : r = 2
  · subst c2
    go_enter Tryd.func14, Tryd.ntmps14
    go_wp2
    go_ret
    exact ⟨rfl, by first | exact Below.refl _ _ | exact (Below.refl _ _).alloc (Nat.le_refl _) _⟩
  by_cases c3 : r = 3
  · subst c3
    go_enter Tryd.func14, Tryd.ntmps14
    go_wp2
    go_ret
    exact ⟨rfl, by first | exact Below.refl _ _ | exact (Below.refl _ _).alloc (Nat.le_refl _) _⟩
  by_cases c4 : r = 4
  · subst c4
    go_enter Tryd.func14, Tryd.ntmps14
    go_wp2
    go_ret
    exact ⟨rfl, by first | exact Below.refl _ _ | exact (Below.refl _ _).alloc (Nat.le_refl _) _⟩
  by_cases c5 : r = 5
  · subst c5
    go_enter Tryd.func14, Tryd.ntmps14
    go_wp2
    go_ret
    exact ⟨rfl, by first | exact Below.refl _ _ | exact (Below.refl _ _).alloc (Nat.le_refl _) _⟩
  by_cases c6 : r = 6
  · subst c6
    go_enter Tryd.func14, Tryd.ntmps14
    go_wp2
    go_ret
    exact ⟨rfl, by first | exact Below.refl _ _ | exact (Below.refl _ _).alloc (Nat.le_refl _) _⟩
  by_cases c8 : r = 8
  · subst c8
    go_enter Tryd.func14, Tryd.ntmps14
    go_wp2
    go_ret
    exact ⟨rfl, by first | exact Below.refl _ _ | exact (Below.refl _ _).alloc (Nat.le_refl _) _⟩
  have q1 : (r == 1) = false := by simpa using c1
  have q2 : (r == 2) = false := by simpa using c2
  have q3 : (r == 3) = false := by simpa using c3
  have q4 : (r == 4) = false := by simpa using c4
  have q5 : (r == 5) = false := by simpa using c5
  have q6 : (r == 6) = false := by simpa using c6
  have q8 : (r == 8) = false := by simpa using c8
  have hu : rowL nam r = 0 := by
    simp only [rowL]
    simp [Ne.symm c1, Ne.symm c2, Ne.symm c3, Ne.symm c4, Ne.symm c5, Ne.symm c6, Ne.symm c8]
  rw [hu]
  clear hu c1 c2 c3 c4 c5 c6 c8
  go_enter Tryd.func14, Tryd.ntmps14
  go_wp2
  go_ret
  exact ⟨rfl, by first | exact Below.refl _ _ | exact (Below.refl _ _).alloc (Nat.le_refl _) _⟩

set_option maxHeartbeats 8000000 in
theorem meta_any (r : Int) (w : World) : Calls Tryd.prog 16 #[.int .i32 r] w (Tells w (if 48 ≤ r ∧ r ≤ 57 then 29 else rowL met r)) := by
  by_cases c45 : r = 45
  · subst c45
    go_enter Tryd.func16, Tryd.ntmps16
    go_wp2
    go_ret
    exact ⟨rfl, by first | exact Below.refl _ _ | exact (Below.refl _ _).alloc (Nat.le_refl _) _⟩
  by_cases c98 : r = 98
  · subst c98
    go_enter Tryd.func16, Tryd.ntmps16
    go_wp2
    go_ret
    exact ⟨rfl, by first | exact Below.refl _ _ | exact (Below.refl _ _).alloc (Nat.le_refl _) _⟩
  by_cases c102 : r = 102
  · subst c102
    go_enter Tryd.func16, Tryd.ntmps16
    go_wp2
    go_ret
    exact ⟨rfl, by first | exact Below.refl _ _ | exact (Below.refl _ _).alloc (Nat.le_refl _) _⟩
  by_cases c100 : r = 100
  · subst c100
    go_enter Tryd.func16, Tryd.ntmps16
    go_wp2
    go_ret
    exact ⟨rfl, by first | exact Below.refl _ _ | exact (Below.refl _ _).alloc (Nat.le_refl _) _⟩
  by_cases c119 : r = 119
  · subst c119
    go_enter Tryd.func16, Tryd.ntmps16
    go_wp2
    go_ret
    exact ⟨rfl, by first | exact Below.refl _ _ | exact (Below.refl _ _).alloc (Nat.le_refl _) _⟩
  by_cases c121 : r = 121
  · subst c121
    go_enter Tryd.func16, Tryd.ntmps16
    go_wp2
    go_ret
    exact ⟨rfl, by first | exact Below.refl _ _ | exact (Below.refl _ _).alloc (Nat.le_refl _) _⟩
  have q45 : (r == 45) = false := by simpa using c45
  have q98 : (r == 98) = false := by simpa using c98
  have q102 : (r == 102) = false := by simpa using c102
  have q100 : (r == 100) = false := by simpa using c100
  have q119 : (r == 119) = false := by simpa using c119
  have q121 : (r == 121) = false := by simpa using c121
  have hu : rowL met r = 0 := by
    simp only [rowL]
    simp [Ne.symm c45, Ne.symm c98, Ne.symm c102, Ne.symm c100, Ne.symm c119, Ne.symm c121]
  rw [hu]
  clear hu c45 c98 c102 c100 c119 c121
  by_cases h1 : 48 ≤ r
  · have d1 : decide ((48 : Int) ≤ r) = true := decide_eq_true h1
    by_cases h2 : r ≤ 57
    · have d2 : decide (r ≤ (57 : Int)) = true := decide_eq_true h2
      rw [if_pos ⟨h1, h2⟩]
      clear h1 h2
      go_enter Tryd.func16, Tryd.ntmps16
      go_wp2
      go_ret
      exact ⟨rfl, by first | exact Below.refl _ _ | exact (Below.refl _ _).alloc (Nat.le_refl _) _⟩
    · have d2 : decide (r ≤ (57 : Int)) = false := decide_eq_false h2
      rw [if_neg (fun h => h2 h.2)]
      clear h1 h2
      go_enter Tryd.func16, Tryd.ntmps16
      go_wp2
      go_ret
      exact ⟨rfl, by first | exact Below.refl _ _ | exact (Below.refl _ _).alloc (Nat.le_refl _) _⟩
  · have d1 : decide ((48 : Int) ≤ r) = false := decide_eq_false h1
    rw [if_neg (fun h => h1 h.1)]
    clear h1
    go_enter Tryd.func16, Tryd.ntmps16
    go_wp2
    go_ret
    exact ⟨rfl, by first | exact Below.refl _ _ | exact (Below.refl _ _).alloc (Nat.le_refl _) _⟩

set_option maxHeartbeats 8000000 in
theorem control_meta (r : Int) (w : World) : Calls Tryd.prog 15 #[stk false 2 r true] w (Tells w (rowL ctm r)) := by
  by_cases c127 : r = 127
  · subst c127
    go_enter Tryd.func15, Tryd.ntmps15
    go_wp2
    go_ret
    exact ⟨rfl, by first | exact Below.refl _ _ | exact (Below.refl _ _).alloc (Nat.le_refl _) _⟩
  by_cases c8 : r = 8
  · subst c8
    go_enter Tryd.func15, Tryd.ntmps15
    go_wp2
    go_ret
    exact ⟨rfl, by first | exact Below.refl _ _ | exact (Below.refl _ _).alloc (Nat.le_refl _) _⟩
  have q127 : (r == 127) = false := by simpa using c127
  have q8 : (r == 8) = false := by simpa using c8
  have hu : rowL ctm r = 0 := by
    simp only [rowL]
    simp [Ne.symm c127, Ne.symm c8]
  rw [hu]
  clear hu c127 c8
  go_enter Tryd.func15, Tryd.ntmps15
  go_wp2
  go_ret
  exact ⟨rfl, by first | exact Below.refl _ _ | exact (Below.refl _ _).alloc (Nat.le_refl _) _⟩

set_option maxHeartbeats 8000000 in
theorem control_any (r : Int) (w : World) (hT : TabW w) : Calls Tryd.prog 15 #[stk false 2 r false] w (Tells w (rowL ctl r)) := by
  by_cases c127 : r = 127
  · subst c127
    go_enter Tryd.func15, Tryd.ntmps15
    go_wp2
    go_ret
    exact ⟨rfl, by first | exact Below.refl _ _ | exact (Below.refl _ _).alloc (Nat.le_refl _) _⟩
  by_cases c8 : r = 8
  · subst c8
    go_enter Tryd.func15, Tryd.ntmps15
    go_wp2
    go_ret
    exact ⟨rfl, by first | exact Below.refl _ _ | exact (Below.refl _ _).alloc (Nat.le_refl _) _⟩
  have q127 : (r == 127) = false := by simpa using c127
  have q8 : (r == 8) = false := by simpa using c8
  by_cases h0 : r < 0
  · have d0 : decide (r < 0) = true := decide_eq_true h0
    have hu : rowL ctl r = 0 := by
      simp only [rowL]
      repeat rw [if_neg (by omega)]
    rw [hu]
    clear hu c127 c8 h0 hT
    go_enter Tryd.func15, Tryd.ntmps15
    go_wp2
    go_ret
    exact ⟨rfl, by first | exact Below.refl _ _ | exact (Below.refl _ _).alloc (Nat.le_refl _) _⟩
  · have d0 : decide (r < 0) = false := decide_eq_false h0
    by_cases h32 : r < 32
    · have d32 : decide (r < 32) = true := decide_eq_true h32
      obtain ⟨n, rfl⟩ := Int.eq_ofNat_of_zero_le (show 0 ≤ r by omega)
      have hn : n < 32 := by omega
      rw [ctl_tab n hn]
      obtain ⟨z, hz⟩ : ∃ z, tab.getD n 0 = z := ⟨_, rfl⟩
      have t1 := hT n hn
      rw [hz] at t1 ⊢
      have t2 : (w.alloc (.cells #[.bool false, .int .i64 2, .int .i32 (n : Int), .bool false] 26)).cell? ⟨0, n, none⟩ = some (.int .i64 z) := (((Below.refl w.heap.size w).alloc (Nat.le_refl _) _).cell (World.block_lt_of_cell? _ _ t1)).trans t1
      have i0 : (0 : Int) ≤ (n : Int) := by omega
      clear hz c127 c8 h0 h32 hT
      go_enter Tryd.func15, Tryd.ntmps15
      go_wp2
      go_ret
      exact ⟨rfl, by first | exact Below.refl _ _ | exact (Below.refl _ _).alloc (Nat.le_refl _) _⟩
    · have d32 : decide (r < 32) = false := decide_eq_false h32
      have hu : rowL ctl r = 0 := by
        simp only [rowL]
        repeat rw [if_neg (by omega)]
      rw [hu]
      clear hu c127 c8 h0 h32 hT
      go_enter Tryd.func15, Tryd.ntmps15
      go_wp2
      go_ret
      exact ⟨rfl, by first | exact Below.refl _ _ | exact (Below.refl _ _).alloc (Nat.le_refl _) _⟩
end Go.Proofs.YtpdjkphjpjbhgaaDoor
