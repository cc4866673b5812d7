/- gap: Splice. -/
import Derived.Test.YtganehhcnflgaaaGapE
namespace Go.Proofs.Ytganehhcnflgaaa
open Go.RowKit
set_option linter.unusedVariables false
set_option linter.unusedSimpArgs false

/-- A list of numbers as a slice holds it, in a block of S. -/
def liI (l : List Int) (j : Nat) : Value := vI (l.getD j 0)
theorem liI_map (l : List Int) : (List.range l.length).map (liI l) = l.map vI := by
  apply List.ext_getElem
  · simp
  · intro i h1 h2
    simp at h2
    simp [liI, List.getD, h2]

/-- The list L with a gap, in the block gb; its memory is that of A. -/
def Lst (X : World) (gb B0 : Nat) (A : Option Addr) (L : List Int) : Prop := ∃ N C fr te cur, Gp X gb B0 A N C fr te cur ∧ held fr te cur = L

theorem drop_list {w : World} {gb B0 : Nat} {A : Option Addr} {N C fr te n : Nat} {cur L : List Int} (G : Gp w gb B0 A N C fr te cur) (hL : held fr te cur = L) (hn : te + n ≤ N) :
    Calls Try.prog 16 #[ptr gb, .int .i64 n] w (Moved w gb B0 A N C fr (te + n) (L.take fr ++ L.drop (fr + n))) := by
  refine (drop_any G hn).mono fun e w' ⟨h1, h2, h3⟩ => ⟨h1, ⟨_, h2, ?_⟩, h3⟩
  rw [← hL, ← held_drop (by have := G.ft; omega) (by rw [G.len]; exact hn)]
  unfold held
  have hl : (splice cur te (List.replicate n 0)).length = cur.length := length_splice _ _ _ (by rw [List.length_replicate, G.len]; exact hn)
  have h0 := held_clear (cur := cur) (fr := fr) (te := te + n) (off := te) (n := n) G.ft (by omega) (by rw [G.len]; exact hn)
  exact h0

/-- The gap is n wide at least. -/
def Wide (w : World) (gb B0 : Nat) (A : Option Addr) (fr n : Nat) (L : List Int) (e : Ending) (w' : World) : Prop :=
  (∃ v, e = .returned v) ∧ (∃ A' N' C' te' cur', Gp w' gb B0 A' N' C' fr te' cur' ∧ fr + n ≤ te' ∧ held fr te' cur' = L ∧ (A' = A ∨ ∃ b, A' = some ⟨b, 0, none⟩ ∧ w.heap.size ≤ b)) ∧ Chg (Mine gb A) w w'

theorem widen_any {w : World} {gb B0 : Nat} {A : Option Addr} {N C fr te n : Nat} {cur L : List Int} (G : Gp w gb B0 A N C fr te cur) (hL : held fr te cur = L) (hB : B0 ≤ w.heap.size) (hM : L.length + n + L.length / 2 ≤ 100000) :
    Calls Try.prog 17 #[ptr gb, .int .i64 n] w (Wide w gb B0 A fr n L) := by
  subst hL
  by_cases h : te - fr < n
  · refine (widen_yes G h hB hM).mono fun e w' ⟨h1, ⟨N', te', b, cur', g, h2, h3, h4⟩, h5⟩ => ⟨h1, ⟨_, _, _, _, _, g, h2, h3, .inr ⟨b, rfl, h4⟩⟩, h5⟩
  · refine (widen_not G (by omega)).mono fun e w' ⟨h1, q, h2⟩ => ?_
    subst h2
    exact ⟨h1, ⟨_, _, _, _, _, G.drewN q, by have := G.ft; omega, rfl, .inl rfl⟩, (Chg.refl _ _).drewN q⟩

set_option maxHeartbeats 1000000 in
theorem splice_no {w : World} {gb B0 : Nat} {A : Option Addr} {N C fr te : Nat} {cur L : List Int} (G : Gp w gb B0 A N C fr te cur) (hL : held fr te cur = L) (x y : Int) (v : Value) (hno : x < 0 ∨ y < x ∨ (L.length : Int) < y) :
    Calls Try.prog 7 #[ptr gb, .int .i64 x, .int .i64 y, v] w fun e w' => e = .returned (.bool false) ∧ ∃ q, w' = w.drewN q := by
  have C := Lib.hid (len_any G)
  rw [hL] at C
  clear G
  go_enter Try.func7, Try.ntmps7
  by_cases h1 : x < 0
  · have d1 : decide (x < 0) = true := by simp; omega
    go_wp2
    go_ret
    exact ⟨rfl, 0, rfl⟩
  by_cases h2 : y < x
  · have d1 : decide (x < 0) = false := by simp; omega
    have d2 : decide (y < x) = true := by simp; omega
    go_wp2
    go_ret
    exact ⟨rfl, 0, rfl⟩
  · have d1 : decide (x < 0) = false := by simp; omega
    have d2 : decide (y < x) = false := by simp; omega
    have d3 : decide ((L.length : Int) < y) = true := by simp; omega
    go_wp2_with fail
    (with_reducible refine C.out.mono ?_)
    rintro e w1 ⟨rfl, q, rfl⟩
    go_wp2
    go_ret
    exact ⟨rfl, q, rfl⟩
end Go.Proofs.Ytganehhcnflgaaa
