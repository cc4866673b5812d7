/- bind: BindOf's walk. -/
import Derived.Test.YtpdjkphjpjbhgaaDoorBindB
namespace Go.Proofs.YtpdjkphjpjbhgaaDoor
open Go.RowKit
set_option linter.unusedVariables false
set_option linter.unusedSimpArgs false

theorem eq_stk (p : Bool) (k r : Int) (m : Bool) (w : World) : (Op.equalIn 10000 26 (stk p k r m) (stk p k r m)).run Tryd.prog w = .ok true w := by
  rw [show (10000 : Nat) = 9999 + 1 from rfl, run_equalIn_agg w 9999 26 _ _ (by kernel_rfl) (by kernel_rfl)]
  simp only [Program.fieldsOf, Tryd.underlying26]
  have u3 := Tryd.underlying3
  have u4 := Tryd.underlying4
  have u5 := Tryd.underlying21
  have a3 := Tryd.isAgg3
  have a4 := Tryd.isAgg4
  have a5 := Tryd.isAgg21
  have z3 := Tryd.sizeOf3
  have z4 := Tryd.sizeOf4
  have z5 := Tryd.sizeOf21
  go_simp
theorem eql_stk (p : Bool) (k r : Int) (m : Bool) (w : World) : (Go.binOp .eql 26 (stk p k r m) (stk p k r m)).run Tryd.prog w = .ok (.bool true) w := by
  rw [run_eql_struct, eq_stk]
  rfl

/-- A key's cells behind what lies below. -/
theorem key_later {w w2 : World} {k r : Int} {m : Bool} {t : Value} {T : TypeId} (hb : Below (w.alloc (.cells #[.int .i64 k, .int .i32 r, .bool m, t] T)).heap.size (w.alloc (.cells #[.int .i64 k, .int .i32 r, .bool m, t] T)) w2) :
    w2.cell? ⟨w.heap.size, 0, none⟩ = some (.int .i64 k) ∧ w2.cell? ⟨w.heap.size, 1, none⟩ = some (.int .i32 r) ∧ w2.cell? ⟨w.heap.size, 2, none⟩ = some (.bool m) := by
  refine ⟨(hb.cell (by simp)).trans (by simp), (hb.cell (by simp)).trans (by simp), (hb.cell (by simp)).trans (by simp)⟩

theorem key_alloc {w2 : World} {g : Nat} {a b c : Value} (h : w2.cell? ⟨g, 0, none⟩ = some a ∧ w2.cell? ⟨g, 1, none⟩ = some b ∧ w2.cell? ⟨g, 2, none⟩ = some c) (o : Obj) :
    (w2.alloc o).cell? ⟨g, 0, none⟩ = some a ∧ (w2.alloc o).cell? ⟨g, 1, none⟩ = some b ∧ (w2.alloc o).cell? ⟨g, 2, none⟩ = some c := by
  have hb := (Below.refl w2.heap.size w2).alloc (Nat.le_refl _) o
  exact ⟨(hb.cell (World.block_lt_of_cell? _ _ h.1)).trans h.1, (hb.cell (World.block_lt_of_cell? _ _ h.2.1)).trans h.2.1, (hb.cell (World.block_lt_of_cell? _ _ h.2.2)).trans h.2.2⟩

set_option maxHeartbeats 8000000 in
set_option maxRecDepth 100000 in
theorem walk_BindOf (w : World) (t1 : w.cell? ⟨0, 1, none⟩ = some (.int .i64 7)) (p : Bool) (k r : Int) (m : Bool) (t : Value) : Calls Tryd.prog 3 #[.bool p, key k r m t] w (YesW w) := by
  have hb0 := Lib.hid ((Below.refl w.heap.size w).alloc (Nat.le_refl _) (.cells #[.int .i64 k, .int .i32 r, .bool m, t] 24))
  by_cases hk : k = 4
  · subst hk
    have C1 := Lib.hid (of_paste p r m t (w.alloc (.cells #[.int .i64 4, .int .i32 r, .bool m, t] 24)))
    have qe := eql_stk false 4 0 false
    go_enter Tryd.func3, Tryd.ntmps3
    go_wp2_with fail
    (with_reducible refine C1.out.mono ?_)
    rintro e w2 ⟨rfl, hb2⟩
    obtain ⟨d0, d1, d2⟩ := key_alloc (key_later hb2) (.cells #[.bool false, .int .i64 4, .int .i32 0, .bool false] 26)
    have HB := Lib.hid ((hb0.out.trans (hb2.mono hb0.out.size)).alloc (hb0.out.trans (hb2.mono hb0.out.size)).size (.cells #[.bool false, .int .i64 4, .int .i32 0, .bool false] 26))
    clear hb2 C1
    go_wp2_with (go_at_call 7; refine (awake_yes _ ((HB.out.cell (World.block_lt_of_cell? _ _ t1)).trans t1)).mono ?_; rintro e w3 ⟨rfl, hb3⟩)
    go_ret
    exact ⟨rfl, HB.out.trans (hb3.mono HB.out.size)⟩
  · have q0 : (k == 4) = false := by simpa using hk
    have C1 := Lib.hid (of_else p k r m t hk (w.alloc (.cells #[.int .i64 k, .int .i32 r, .bool m, t] 24)))
    have qe := eql_stk p k r m
    clear hk
    go_enter Tryd.func3, Tryd.ntmps3
    go_wp2_with fail
    (with_reducible refine C1.out.mono ?_)
    rintro e w2 ⟨rfl, hb2⟩
    obtain ⟨d0, d1, d2⟩ := key_alloc (key_later hb2) (.cells #[.bool p, .int .i64 k, .int .i32 r, .bool m] 26)
    have HB := Lib.hid ((hb0.out.trans (hb2.mono hb0.out.size)).alloc (hb0.out.trans (hb2.mono hb0.out.size)).size (.cells #[.bool p, .int .i64 k, .int .i32 r, .bool m] 26))
    clear hb2 C1
    go_wp2_with (go_at_call 7; refine (awake_yes _ ((HB.out.cell (World.block_lt_of_cell? _ _ t1)).trans t1)).mono ?_; rintro e w3 ⟨rfl, hb3⟩)
    go_ret
    exact ⟨rfl, HB.out.trans (hb3.mono HB.out.size)⟩
end Go.Proofs.YtpdjkphjpjbhgaaDoor
