/- Korean syllables: the chapter's example; Join. -/
import Derived.Test.YteflpcdhlaeanaaHan
namespace Go.Proofs.Yteflpcdhlaeanaa
open Go.RowKit
set_option linter.unusedVariables false

/-- True is handed back; nothing that was there has turned. -/
def Yes (w : World) (e : Ending) (w' : World) : Prop := e = .returned (.bool true) ∧ Below w.heap.size w w'

theorem cells_ac01 : ∀ j, j < 3 → #[Value.int .i32 4352, Value.int .i32 4449, Value.int .i32 4520][j]? = some (iv (hpart 44033) j) := by
  intro j hj
  match j, hj with
  | 0, _ => rfl
  | 1, _ => rfl
  | 2, _ => rfl

set_option maxHeartbeats 1000000 in
theorem awake_yes (w : World) : Calls Try.prog 12 #[] w (Yes w) := by
  go_enter Try.func12, Try.ntmps12
  go_wp2_with (first
    | (go_at_call 8; refine (split_three _ _ (by omega) (by omega) (by omega)).mono ?_; rintro e w1 ⟨A, c, rfl, hrd, hb⟩)
    | (go_at_call 7; refine (same_yes A _ 3 c _ (hpart 44033) _ (by omega) (hrd.later ((Below.refl _ _).alloc (Nat.le_refl _) _)) (rd_new _ _ _ _ _ cells_ac01)).mono ?_; rintro e w2 ⟨rfl, k, rfl⟩)
    | go_in)
  go_ret
  exact ⟨rfl, below_drewN ((hb.trans ((Below.refl _ _).alloc hb.size _)).mono (Nat.le_refl _)) _⟩

end Go.Proofs.Yteflpcdhlaeanaa
