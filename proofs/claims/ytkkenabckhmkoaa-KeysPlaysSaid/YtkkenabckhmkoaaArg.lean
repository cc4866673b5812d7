/- What comes in: a slice of ints reads as a function of the place. -/
import Derived.Test.YtkkenabckhmkoaaKit
namespace Go.Proofs.Ytkkenabckhmkoaa
open Go.ChangeShapes Go.WideShapes Go.ChangeAt Go.RowKit
set_option linter.unusedVariables false
set_option linter.unusedSimpArgs false

theorem wf_i32 {a : Int} (h : (Lit.int .i32 a).wf = true) : -2147483648 ≤ a ∧ a ≤ 2147483647 := by
  simp [Lit.wf, IntKind.min, IntKind.max, IntKind.bits, IntKind.signed] at h; omega
theorem wf_i64 {a : Int} (h : (Lit.int .i64 a).wf = true) : -9223372036854775808 ≤ a ∧ a ≤ 9223372036854775807 := by
  simp [Lit.wf, IntKind.min, IntKind.max, IntKind.bits, IntKind.signed] at h; omega
theorem wf_u8 {a : Int} (h : (Lit.int .u8 a).wf = true) : 0 ≤ a ∧ a ≤ 255 := by
  simp [Lit.wf, IntKind.min, IntKind.max, IntKind.bits, IntKind.signed] at h; omega

/-- What is known of a slice that came in: n places of one cell each. -/
structure Came (W : World) (v : Value) (A : Option Addr) (n c : Nat) (f : Nat → Value) : Prop where
  eq : v = .slice A n c
  rd : Rd W A n f
  le : n ≤ c
  max : c ≤ maxLen
  nil : A = none → n = 0 ∧ c = 0
  plain : ∀ a, A = some a → 0 < n → a.spot = none

theorem arg_ints {H : Type} {enc : TypeId × Value → H} {P : Program} {W : World} {base : Nat} {T E : TypeId} {k : IntKind} {r : Reach} {b0 : Nat} {v : Value} {d : DataW H} {p : List MemPlace} {spare : Nat → Bool} {held : Bool}
    (hT : P.underlying T = some (.slice E)) (hE : P.underlying E = some (.int k)) (hc : P.cellsOf E = 1) (hv : Value.okWide P W r b0 T v) (h : DataW.Trod enc P W base spare held T v d p) :
    ∃ A n c, ∃ f : Nat → Int, Came W v A n c (fun j => .int k (f j)) ∧ ∀ j, j < n → (Lit.int k (f j)).wf = true := by
  obtain ⟨a0, n, c, rfl⟩ := okWide_slice hT hv
  obtain ⟨fuel, hf⟩ := h
  rcases open_ints hT hE hc hf with ⟨hcs, _⟩ | ⟨a, len, cap, zs, hcs, _, hle, hmax, hlen, _, hcell, hwf⟩
  · simp [Value.cells] at hcs
    obtain ⟨rfl, rfl, rfl⟩ := hcs
    exact ⟨none, 0, 0, fun _ => 0, ⟨rfl, Rd.empty _ _ _, Nat.le_refl _, Nat.zero_le _, fun _ => ⟨rfl, rfl⟩, (fun a ha => by cases ha)⟩, fun j hj => absurd hj (by omega)⟩
  · simp [Value.cells] at hcs
    obtain ⟨rfl, rfl, rfl⟩ := hcs
    have hn : n ≤ zs.length := by rw [hlen]; split <;> omega
    refine ⟨some a, n, c, fun j => zs.getD j 0, ⟨rfl, ?_, hle, hmax, (fun e => by cases e), ?_⟩, fun j hj => ?_⟩
    · intro j hj
      obtain ⟨b, off, rfl, hc'⟩ := ints_at hcell (by omega)
      have := hc' j (by omega)
      exact ⟨b, off, rfl, World.block_lt_of_cell? _ _ this, this⟩
    · intro a' ha hp
      injection ha with ha
      subst ha
      obtain ⟨b, off, rfl, _⟩ := ints_at hcell (by omega)
      rfl
    · have hj' : j < zs.length := by omega
      show (Lit.int k (zs.getD j 0)).wf = true
      rw [show zs.getD j 0 = zs[j] by simp [List.getD, List.getElem?_eq_getElem hj']]
      exact hwf _ (List.getElem_mem hj')

end Go.Proofs.Ytkkenabckhmkoaa
