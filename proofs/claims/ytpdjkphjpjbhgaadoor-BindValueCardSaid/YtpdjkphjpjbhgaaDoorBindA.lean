/- bind: a key as a stroke; what is usual, at the examples' strokes. -/
import Derived.Test.YtpdjkphjpjbhgaaDoorKit
import Derived.Laws.Rows
namespace Go.Proofs.YtpdjkphjpjbhgaaDoor
open Go.RowKit
set_option linter.unusedVariables false
set_option linter.unusedSimpArgs false

/-- A stroke. -/
abbrev stk (p : Bool) (k r : Int) (m : Bool) : Value := .agg #[.bool p, .int .i64 k, .int .i32 r, .bool m]
def YesW (w : World) (e : Ending) (w' : World) : Prop := e = .returned (.bool true) ∧ Below w.heap.size w w'
abbrev key (k r : Int) (m : Bool) (t : Value) : Value := .agg #[.int .i64 k, .int .i32 r, .bool m, t]

set_option maxHeartbeats 2000000 in
theorem of_paste (p : Bool) (r : Int) (m : Bool) (t : Value) (w : World) : Calls Tryd.prog 6 #[.bool p, key 4 r m t] w fun e w' => e = .returned (stk false 4 0 false) ∧ Below w.heap.size w w' := by
  go_enter Tryd.func6, Tryd.ntmps6
  go_wp2
  refine bodyPost_ret (results_cell_row rfl _ _ _ _ _ _ _ rfl (heap_alloc2_new _ _ _) Tryd.underlying26 rfl (by kernel_rfl)) rfl ⟨rfl, (((Below.refl _ _).alloc (Nat.le_refl _) _).alloc (by simp) _)⟩

set_option maxHeartbeats 2000000 in
theorem of_else (p : Bool) (k r : Int) (m : Bool) (t : Value) (hk : k ≠ 4) (w : World) : Calls Tryd.prog 6 #[.bool p, key k r m t] w fun e w' => e = .returned (stk p k r m) ∧ Below w.heap.size w w' := by
  have h0 : (k == 4) = false := by simpa using hk
  go_enter Tryd.func6, Tryd.ntmps6
  go_wp2
  refine bodyPost_ret (results_cell_row rfl _ _ _ _ _ _ _ rfl (heap_alloc2_new _ _ _) Tryd.underlying26 rfl (by kernel_rfl)) rfl ⟨rfl, (((Below.refl _ _).alloc (Nat.le_refl _) _).alloc (by simp) _)⟩

abbrev nilMap : Value := .agg #[.map none]
theorem said_none (p : Bool) (k r : Int) (m : Bool) (w : World) : (Instr.lookup 32 (.map none) (stk p k r m) true).run Tryd.prog w = .ok (.tuple #[.int .i64 0, .bool false]) w := by kernel_rfl
set_option maxHeartbeats 4000000 in
theorem control_1 (w : World) (t1 : w.cell? ⟨0, 1, none⟩ = some (.int .i64 7)) : Calls Tryd.prog 15 #[stk false 2 1 false] w fun e w' => e = .returned (.int .i64 7) ∧ Below w.heap.size w w' := by
  have t2 : (w.alloc (.cells #[.bool false, .int .i64 2, .int .i32 1, .bool false] 26)).cell? ⟨0, 1, none⟩ = some (.int .i64 7) := (((Below.refl w.heap.size w).alloc (Nat.le_refl _) _).cell (World.block_lt_of_cell? _ _ t1)).trans t1
  have hn := World.new_ne _ _ t1
  simp only at hn
  have hn2 : ¬ (0 = w.heap.size) := fun e => hn e.symm
  go_enter Tryd.func15, Tryd.ntmps15
  go_wp2
  go_ret
  exact ⟨rfl, (by first | exact Below.refl _ _ | exact (Below.refl _ _).alloc (Nat.le_refl _) _)⟩
set_option maxHeartbeats 4000000 in
theorem meta_97 (w : World) : Calls Tryd.prog 16 #[.int .i32 97] w fun e w' => e = .returned (.int .i64 0) ∧ Below w.heap.size w w' := by
  go_enter Tryd.func16, Tryd.ntmps16
  go_wp2
  go_ret
  exact ⟨rfl, (by first | exact Below.refl _ _ | exact (Below.refl _ _).alloc (Nat.le_refl _) _)⟩
set_option maxHeartbeats 4000000 in
theorem pre_24 (w : World) : Calls Tryd.prog 13 #[stk true 2 24 false] w fun e w' => e = .returned (.int .i64 18) ∧ Below w.heap.size w w' := by
  go_enter Tryd.func13, Tryd.ntmps13
  go_wp2
  go_ret
  exact ⟨rfl, (by first | exact Below.refl _ _ | exact (Below.refl _ _).alloc (Nat.le_refl _) _)⟩
set_option maxHeartbeats 4000000 in
theorem look_begin (w : World) (t1 : w.cell? ⟨0, 1, none⟩ = some (.int .i64 7)) : Calls Tryd.prog 10 #[nilMap, stk false 2 1 false] w fun e w' => e = .returned (.int .i64 7) ∧ Below w.heap.size w w' := by
  have L := said_none false 2 1 false
  have hb0 : Below w.heap.size w ((w.alloc (.cells #[.map none] 34)).alloc (.cells #[.bool false, .int .i64 2, .int .i32 1, .bool false] 26)) := ((Below.refl _ _).alloc (Nat.le_refl _) _).alloc (by simp) _
  have hb0 := Lib.hid hb0
  go_enter Tryd.func10, Tryd.ntmps10
  go_wp2_with (go_at_call 15; refine (control_1 _ ((hb0.out.cell (World.block_lt_of_cell? _ _ t1)).trans t1)).mono ?_; rintro e w2 ⟨rfl, hb2⟩)
  go_ret
  exact ⟨rfl, hb0.out.trans (hb2.mono hb0.out.size)⟩
set_option maxHeartbeats 4000000 in
theorem look_put (w : World) : Calls Tryd.prog 10 #[nilMap, stk false 1 97 false] w fun e w' => e = .returned (.int .i64 1) ∧ Below w.heap.size w w' := by
  have L := said_none false 1 97 false
  have hb0 : Below w.heap.size w ((w.alloc (.cells #[.map none] 34)).alloc (.cells #[.bool false, .int .i64 1, .int .i32 97, .bool false] 26)) := ((Below.refl _ _).alloc (Nat.le_refl _) _).alloc (by simp) _
  have hb0 := Lib.hid hb0
  go_enter Tryd.func10, Tryd.ntmps10
  go_wp2
  go_ret
  exact ⟨rfl, hb0.out⟩
set_option maxHeartbeats 4000000 in
theorem look_none (w : World) : Calls Tryd.prog 10 #[nilMap, stk false 1 97 true] w fun e w' => e = .returned (.int .i64 0) ∧ Below w.heap.size w w' := by
  have L := said_none false 1 97 true
  have hb0 : Below w.heap.size w ((w.alloc (.cells #[.map none] 34)).alloc (.cells #[.bool false, .int .i64 1, .int .i32 97, .bool true] 26)) := ((Below.refl _ _).alloc (Nat.le_refl _) _).alloc (by simp) _
  have hb0 := Lib.hid hb0
  go_enter Tryd.func10, Tryd.ntmps10
  go_wp2_with (go_at_call 16; refine (meta_97 _).mono ?_; rintro e w2 ⟨rfl, hb2⟩)
  go_ret
  exact ⟨rfl, hb0.out.trans (hb2.mono hb0.out.size)⟩
set_option maxHeartbeats 4000000 in
theorem look_exchange (w : World) : Calls Tryd.prog 10 #[nilMap, stk true 2 24 false] w fun e w' => e = .returned (.int .i64 18) ∧ Below w.heap.size w w' := by
  have L := said_none true 2 24 false
  have hb0 : Below w.heap.size w ((w.alloc (.cells #[.map none] 34)).alloc (.cells #[.bool true, .int .i64 2, .int .i32 24, .bool false] 26)) := ((Below.refl _ _).alloc (Nat.le_refl _) _).alloc (by simp) _
  have hb0 := Lib.hid hb0
  go_enter Tryd.func10, Tryd.ntmps10
  go_wp2_with (go_at_call 13; refine (pre_24 _).mono ?_; rintro e w2 ⟨rfl, hb2⟩)
  go_ret
  exact ⟨rfl, hb0.out.trans (hb2.mono hb0.out.size)⟩
end Go.Proofs.YtpdjkphjpjbhgaaDoor
