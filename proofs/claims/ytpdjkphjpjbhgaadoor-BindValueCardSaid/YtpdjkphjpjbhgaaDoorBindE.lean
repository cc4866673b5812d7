/- bind: what is usual, by the program. -/
import Derived.Test.YtpdjkphjpjbhgaaDoorBindC
namespace Go.Proofs.YtpdjkphjpjbhgaaDoor
open Go.RowKit
set_option linter.unusedVariables false
set_option linter.unusedSimpArgs false

/-- Of pairs the one of a number. -/
def rowL : List (Int × Int) → Int → Int
  | [], _ => 0
  | x :: l, n => if x.1 = n then x.2 else rowL l n
abbrev pre2 : List (Int × Int) := [(24, 18), (21, 21), (7, 26)]
abbrev pre1 : List (Int × Int) := [(117, 21)]
abbrev nam : List (Int × Int) := [(1, 22), (2, 23), (3, 3), (4, 4), (5, 7), (6, 8), (8, 9)]
abbrev ctm : List (Int × Int) := [(127, 12), (8, 12)]
abbrev ctl : List (Int × Int) := [(0, 17), (1, 7), (2, 4), (4, 9), (5, 8), (6, 3), (7, 26), (8, 10), (127, 10), (10, 2), (13, 2), (11, 13), (12, 27), (14, 23), (16, 22), (17, 28), (18, 24), (19, 25), (20, 31), (21, 14), (23, 15), (24, 33), (25, 19), (31, 21)]
abbrev met : List (Int × Int) := [(45, 30), (98, 6), (102, 5), (100, 11), (119, 16), (121, 20)]
def usual (p : Bool) (k r : Int) (m : Bool) : Int :=
  if k = 4 then 32
  else if p = true then (if m = true then 0 else if k = 2 then rowL pre2 r else if k = 1 then rowL pre1 r else 0)
  else if k = 3 ∧ m = false then rowL nam r
  else if k = 2 ∧ m = true then rowL ctm r
  else if k = 2 then rowL ctl r
  else if k = 1 ∧ m = true then (if 48 ≤ r ∧ r ≤ 57 then 29 else rowL met r)
  else if k = 1 then 1 else 0

/-- The table of the controls. -/
abbrev tab : List Int := [17, 7, 4, 0, 9, 8, 3, 26, 10, 0, 2, 13, 27, 2, 23, 0, 22, 28, 24, 25, 31, 14, 0, 15, 33, 19, 0, 0, 0, 0, 0, 21]
def TabW (w : World) : Prop := ∀ n, n < 32 → w.cell? ⟨0, n, none⟩ = some (.int .i64 (tab.getD n 0))
theorem TabW.later {w w' : World} (h : TabW w) (hb : Below w.heap.size w w') : TabW w' := fun n hn => (hb.cell (World.block_lt_of_cell? _ _ (h n hn))).trans (h n hn)
theorem ctl_tab : ∀ n : Nat, n < 32 → rowL ctl (n : Int) = tab.getD n 0 := by decide

theorem eq_stk2 (p : Bool) (k r : Int) (m : Bool) (p' : Bool) (k' r' : Int) (m' : Bool) (w : World) : (Op.equalIn 10000 26 (stk p k r m) (stk p' k' r' m')).run Tryd.prog w = .ok (decide (p = p' ∧ k = k' ∧ r = r' ∧ m = m')) w := by
  rw [show (10000 : Nat) = 9999 + 1 from rfl, run_equalIn_agg w 9999 26 _ _ (by kernel_rfl) (by kernel_rfl)]
  simp only [Program.fieldsOf, Tryd.underlying26]
  have u3 := Tryd.underlying3
  have u4 := Tryd.underlying4
  have u5 := Tryd.underlying21
  have a3 := Tryd.isAgg3
  have a4 := Tryd.isAgg4
  have a5 := Tryd.isAgg21
  have z3 := Tryd.sizeOf3
  have z4 := Tryd.sizeOf4
  have z5 := Tryd.sizeOf21
  go_simp
  by_cases h1 : p = p' <;> by_cases h2 : k = k' <;> by_cases h3 : r = r' <;> by_cases h4 : m = m' <;> simp [h1, h2, h3, h4]
theorem eql_stk2 (p : Bool) (k r : Int) (m : Bool) (p' : Bool) (k' r' : Int) (m' : Bool) (w : World) : (Go.binOp .eql 26 (stk p k r m) (stk p' k' r' m')).run Tryd.prog w = .ok (.bool (decide (p = p' ∧ k = k' ∧ r = r' ∧ m = m'))) w := by
  rw [run_eql_struct, eq_stk2]
  rfl

def Tells (w : World) (z : Int) (e : Ending) (w' : World) : Prop := e = .returned (.int .i64 z) ∧ Below w.heap.size w w'

set_option maxHeartbeats 8000000 in
theorem pre_any (k r : Int) (m : Bool) (hk : k ≠ 4) (w : World) : Calls Tryd.prog 13 #[stk true k r m] w (Tells w (usual true k r m)) := by
  have e1 := eql_stk2 true k r m true 2 24 false
  have e2 := eql_stk2 true k r m true 2 21 false
  have e3 := eql_stk2 true k r m true 1 117 false
  have e4 := eql_stk2 true k r m true 2 7 false
  obtain ⟨b1, h1⟩ : ∃ b, decide (true = true ∧ k = 2 ∧ r = 24 ∧ m = false) = b := ⟨_, rfl⟩
  obtain ⟨b2, h2⟩ : ∃ b, decide (true = true ∧ k = 2 ∧ r = 21 ∧ m = false) = b := ⟨_, rfl⟩
  obtain ⟨b3, h3⟩ : ∃ b, decide (true = true ∧ k = 1 ∧ r = 117 ∧ m = false) = b := ⟨_, rfl⟩
  obtain ⟨b4, h4⟩ : ∃ b, decide (true = true ∧ k = 2 ∧ r = 7 ∧ m = false) = b := ⟨_, rfl⟩
  rw [h1] at e1
  rw [h2] at e2
  rw [h3] at e3
  rw [h4] at e4
  have hu : usual true k r m = (if b1 then 18 else if b2 then 21 else if b3 then 21 else if b4 then 26 else 0) := by
    rw [← h1, ← h2, ← h3, ← h4]
    unfold usual
    rw [if_neg hk, if_pos rfl]
    cases m
    · by_cases ha : k = 2
      · subst ha
        simp only [rowL]
        by_cases c1 : r = 24
        · subst c1; rfl
        · by_cases c2 : r = 21
          · subst c2; rfl
          · by_cases c3 : r = 7
            · subst c3; rfl
            · simp [c1, c2, c3, Ne.symm c1, Ne.symm c2, Ne.symm c3]
      · by_cases hb : k = 1
        · subst hb
          simp only [rowL]
          by_cases c1 : r = 117
          · subst c1; rfl
          · simp [c1, Ne.symm c1]
        · simp [ha, hb]
    · simp
  rw [hu]
  clear h1 h2 h3 h4 hu hk
  cases b1
  · cases b2
    · cases b3
      · cases b4
        · go_enter Tryd.func13, Tryd.ntmps13
          go_wp2
          go_ret
          exact ⟨rfl, by first | exact Below.refl _ _ | exact (Below.refl _ _).alloc (Nat.le_refl _) _⟩
        · go_enter Tryd.func13, Tryd.ntmps13
          go_wp2
          go_ret
          exact ⟨rfl, by first | exact Below.refl _ _ | exact (Below.refl _ _).alloc (Nat.le_refl _) _⟩
      · go_enter Tryd.func13, Tryd.ntmps13
        go_wp2
        go_ret
        exact ⟨rfl, by first | exact Below.refl _ _ | exact (Below.refl _ _).alloc (Nat.le_refl _) _⟩
    · go_enter Tryd.func13, Tryd.ntmps13
      go_wp2
      go_ret
      exact ⟨rfl, by first | exact Below.refl _ _ | exact (Below.refl _ _).alloc (Nat.le_refl _) _⟩
  · go_enter Tryd.func13, Tryd.ntmps13
    go_wp2
    go_ret
    exact ⟨rfl, by first | exact Below.refl _ _ | exact (Below.refl _ _).alloc (Nat.le_refl _) _⟩
end Go.Proofs.YtpdjkphjpjbhgaaDoor
