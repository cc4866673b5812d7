/- bind: the examples. -/
import Derived.Test.YtpdjkphjpjbhgaaDoorBindA
namespace Go.Proofs.YtpdjkphjpjbhgaaDoor
open Go.RowKit
set_option linter.unusedVariables false
set_option linter.unusedSimpArgs false

theorem keepS {w X Y : World} (hb : Below X.heap.size X Y) (h : X.cell? ⟨w.heap.size, 0, none⟩ = some (.map none) ∧ X.cell? ⟨0, 1, none⟩ = some (.int .i64 7) ∧ Below w.heap.size w X) : Y.cell? ⟨w.heap.size, 0, none⟩ = some (.map none) ∧ Y.cell? ⟨0, 1, none⟩ = some (.int .i64 7) ∧ Below w.heap.size w Y :=
  ⟨(hb.cell (World.block_lt_of_cell? _ _ h.1)).trans h.1, (hb.cell (World.block_lt_of_cell? _ _ h.2.1)).trans h.2.1, h.2.2.trans (hb.mono h.2.2.size)⟩

theorem of_S {w X : World} (h : X.cell? ⟨w.heap.size, 0, none⟩ = some (.map none) ∧ X.cell? ⟨0, 1, none⟩ = some (.int .i64 7) ∧ Below w.heap.size w X) (p : Bool) (k r : Int) (m : Bool) (t : Value) (hk : k ≠ 4) : Calls Tryd.prog 6 #[.bool p, key k r m t] X fun e Y => e = .returned (stk p k r m) ∧ Y.cell? ⟨w.heap.size, 0, none⟩ = some (.map none) ∧ Y.cell? ⟨0, 1, none⟩ = some (.int .i64 7) ∧ Below w.heap.size w Y :=
  (of_else p k r m t hk X).mono fun e Y h1 => ⟨h1.1, keepS h1.2 h⟩

theorem look_S {w X : World} (h : X.cell? ⟨w.heap.size, 0, none⟩ = some (.map none) ∧ X.cell? ⟨0, 1, none⟩ = some (.int .i64 7) ∧ Below w.heap.size w X) (x : Value) (res : Int) (hx : (x = stk false 2 1 false ∧ res = 7) ∨ (x = stk false 1 97 false ∧ res = 1) ∨ (x = stk false 1 97 true ∧ res = 0) ∨ (x = stk true 2 24 false ∧ res = 18)) :
    Calls Tryd.prog 10 #[nilMap, x] X fun e Y => e = .returned (.int .i64 res) ∧ Y.cell? ⟨w.heap.size, 0, none⟩ = some (.map none) ∧ Y.cell? ⟨0, 1, none⟩ = some (.int .i64 7) ∧ Below w.heap.size w Y := by
  rcases hx with ⟨rfl, rfl⟩ | ⟨rfl, rfl⟩ | ⟨rfl, rfl⟩ | ⟨rfl, rfl⟩
  · exact (look_begin X h.2.1).mono fun e Y h1 => ⟨h1.1, keepS h1.2 h⟩
  · exact (look_put X).mono fun e Y h1 => ⟨h1.1, keepS h1.2 h⟩
  · exact (look_none X).mono fun e Y h1 => ⟨h1.1, keepS h1.2 h⟩
  · exact (look_exchange X).mono fun e Y h1 => ⟨h1.1, keepS h1.2 h⟩

set_option maxHeartbeats 8000000 in
set_option maxRecDepth 100000 in
theorem awake_yes (w : World) (t1 : w.cell? ⟨0, 1, none⟩ = some (.int .i64 7)) : Calls Tryd.prog 7 #[] w (YesW w) := by
  have S0 : (w.alloc (.cells #[.map none] 34)).cell? ⟨w.heap.size, 0, none⟩ = some (.map none) ∧ (w.alloc (.cells #[.map none] 34)).cell? ⟨0, 1, none⟩ = some (.int .i64 7) ∧ Below w.heap.size w (w.alloc (.cells #[.map none] 34)) := by
    have hb := (Below.refl w.heap.size w).alloc (Nat.le_refl _) (.cells #[.map none] 34)
    exact ⟨by simp, (hb.cell (World.block_lt_of_cell? _ _ t1)).trans t1, hb⟩
  go_enter Tryd.func7, Tryd.ntmps7
  go_wp2_with fail
  go_region_held3 (fun X => X.cell? ⟨w.heap.size, 0, none⟩ = some (.map none) ∧ X.cell? ⟨0, 1, none⟩ = some (.int .i64 7) ∧ Below w.heap.size w X)
    (first | assumption | exact S0 | exact keepS ((Below.refl _ _).drew) (by assumption) | go_keep)
    (first
    | (go_at_call 6; refine (of_S (w := w) (by assumption) _ _ _ _ _ (by decide)).mono ?_; rintro e wn ⟨rfl, hSn⟩)
    | (go_at_call 10; refine (look_S (w := w) (by assumption) _ _ (by first | exact .inl ⟨rfl, rfl⟩ | exact .inr (.inl ⟨rfl, rfl⟩) | exact .inr (.inr (.inl ⟨rfl, rfl⟩)) | exact .inr (.inr (.inr ⟨rfl, rfl⟩)))).mono ?_; rintro e wn ⟨rfl, hSn⟩))
  all_goals
    (have HF := Lib.hid hSn.2.2
     clear hSn
     go_wp2
     go_ret
     exact ⟨rfl, HF.out⟩)
end Go.Proofs.YtpdjkphjpjbhgaaDoor
