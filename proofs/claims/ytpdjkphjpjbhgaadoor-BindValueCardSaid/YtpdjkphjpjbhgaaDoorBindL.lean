/- bind: the document's Look; strokes. -/
import Derived.Test.YtpdjkphjpjbhgaaDoorBindJ
namespace Go.Proofs.YtpdjkphjpjbhgaaDoor
open Go.RowKit Go.Maps
set_option linter.unusedVariables false
set_option linter.unusedSimpArgs false

set_option maxHeartbeats 2000000 in
theorem stroke_any (p : Bool) (k r : Int) (m : Bool) (w : World) : Calls Tryd.prog 9 #[stk p k r m] w fun e w' => e = .returned (stk p k r m) ∧ Below w.heap.size w w' := by
  go_enter Tryd.func9, Tryd.ntmps9
  go_wp2
  refine bodyPost_ret (results_cell_row rfl _ _ _ _ _ _ _ rfl (heap_alloc2_new _ _ _) Tryd.underlying26 rfl (by kernel_rfl)) rfl ⟨rfl, (((Below.refl _ _).alloc (Nat.le_refl _) _).alloc (by simp) _)⟩

/-- Own's in memory: five cells each. -/
def OwnRd (w : World) (A : Option Addr) (L : List (Stk × Int)) : Prop :=
  ∀ j, j < L.length → ∃ b o s c, A = some ⟨b, o, none⟩ ∧ L[j]? = some (s, c) ∧ Wf s ∧ (Lit.int .i64 c).wf = true ∧
    w.cell? ⟨b, o + j * 5, none⟩ = some (.bool s.1) ∧ w.cell? ⟨b, o + j * 5 + 1, none⟩ = some (.int .i64 s.2.1) ∧ w.cell? ⟨b, o + j * 5 + 2, none⟩ = some (.int .i32 s.2.2.1) ∧ w.cell? ⟨b, o + j * 5 + 3, none⟩ = some (.bool s.2.2.2) ∧ w.cell? ⟨b, o + j * 5 + 4, none⟩ = some (.int .i64 c)
theorem OwnRd.later {w w' : World} {A : Option Addr} {L : List (Stk × Int)} (h : OwnRd w A L) (hb : Below w.heap.size w w') : OwnRd w' A L := by
  have st {a : Addr} {v : Value} (h : w.cell? a = some v) : w'.cell? a = some v := (hb.cell (World.block_lt_of_cell? _ _ h)).trans h
  intro j hj
  obtain ⟨b, o, s, c, e, h1, h2, h3, a0, a1, a2, a3, a4⟩ := h j hj
  exact ⟨b, o, s, c, e, h1, h2, h3, st a0, st a1, st a2, st a3, st a4⟩

theorem eql_ref (p : Bool) (k r : Int) (m : Bool) (p' : Bool) (k' r' : Int) (m' : Bool) (w : World) : (Go.binOp .eql 31 (stk p k r m) (stk p' k' r' m')).run Tryd.prog w = .ok (.bool (decide (p = p' ∧ k = k' ∧ r = r' ∧ m = m'))) w := by
  have e : (Op.equalIn 10000 31 (stk p k r m) (stk p' k' r' m')).run Tryd.prog w = .ok (decide (p = p' ∧ k = k' ∧ r = r' ∧ m = m')) w := by
    rw [show (10000 : Nat) = 9999 + 1 from rfl, run_equalIn_agg w 9999 31 _ _ (by kernel_rfl) (by kernel_rfl)]
    simp only [Program.fieldsOf, Tryd.underlying31]
    have u3 := Tryd.underlying3
    have u4 := Tryd.underlying4
    have u5 := Tryd.underlying21
    have a3 := Tryd.isAgg3
    have a4 := Tryd.isAgg4
    have a5 := Tryd.isAgg21
    have z3 := Tryd.sizeOf3
    have z4 := Tryd.sizeOf4
    have z5 := Tryd.sizeOf21
    go_simp
    by_cases h1 : p = p' <;> by_cases h2 : k = k' <;> by_cases h3 : r = r' <;> by_cases h4 : m = m' <;> simp [h1, h2, h3, h4]
  rw [run_eql_struct, e]
  rfl

theorem lastOf_take {L : List (Stk × Int)} {i : Nat} {x : Stk × Int} (h : L[i]? = some x) (s : Stk) : lastOf (L.take (i + 1)) s = if x.1 = s then some x.2 else lastOf (L.take i) s := by
  rw [List.take_add_one, h]
  exact lastOf_snoc _ _ _
end Go.Proofs.YtpdjkphjpjbhgaaDoor
