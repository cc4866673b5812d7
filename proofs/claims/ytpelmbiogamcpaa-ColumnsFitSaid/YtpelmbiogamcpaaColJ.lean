/- columns: the greatest width of some, by the rows of 1, 2, 4 .. widths. -/
import Derived.Test.YtpelmbiogamcpaaColI
namespace Go.Proofs.Ytpelmbiogamcpaa
open Go.RowKit
set_option linter.unusedVariables false
set_option linter.unusedSimpArgs false

theorem mx_cut {f : Nat → Nat} {a p m : Nat} (h1 : p ≤ m) (h2 : m ≤ 2 * p) : max (mx f a p) (mx f (a + m - p) p) = mx f a m := by
  apply Nat.le_antisymm
  · refine Nat.max_le.2 ⟨mx_le.2 fun j hj => mx_le.1 (Nat.le_refl _) j (by omega), mx_le.2 fun j hj => ?_⟩
    have := (mx_le (f := f) (a := a) (k := m)).1 (Nat.le_refl _) (m - p + j) (by omega)
    rw [show a + (m - p + j) = a + m - p + j by omega] at this
    exact this
  · refine mx_le.2 fun j hj => ?_
    rcases Nat.lt_or_ge j p with h | h
    · exact Nat.le_trans ((mx_le (f := f) (a := a) (k := p)).1 (Nat.le_refl _) j h) (Nat.le_max_left _ _)
    · have := (mx_le (f := f) (a := a + m - p) (k := p)).1 (Nat.le_refl _) (j - (m - p)) (by omega)
      rw [show a + m - p + (j - (m - p)) = a + j by omega] at this
      exact Nat.le_trans this (Nat.le_max_right _ _)

/-- The rows of 1, 2, 4 .. widths, Lv of them. -/
def TabAt (w : World) (A : Option Addr) (Lv n : Nat) (f : Nat → Nat) : Prop :=
  ∀ k, k < Lv → ∃ b o B C, A = some ⟨b, o, none⟩ ∧ b < w.heap.size ∧ w.cell? ⟨b, o + k, none⟩ = some (.slice B (n + 1 - 2 ^ k) C) ∧ Rd w B (n + 1 - 2 ^ k) (nv fun j => mx f j (2 ^ k))

theorem TabAt.later {w w' : World} {A : Option Addr} {Lv n : Nat} {f : Nat → Nat} (h : TabAt w A Lv n f) (hb : Below w.heap.size w w') : TabAt w' A Lv n f := by
  intro k hk
  obtain ⟨b, o, B, C, hA, hl, hc, hr⟩ := h k hk
  exact ⟨b, o, B, C, hA, Nat.lt_of_lt_of_le hl hb.size, (hb.cell (p := ⟨b, o + k, none⟩) hl).trans hc, hr.later hb⟩

/-- So many rows as there are powers of two up to n. -/
def Levels (Lv n : Nat) : Prop := ∀ k, k < Lv ↔ 2 ^ k ≤ n

/-- One row's one place. -/
theorem TabAt.cells {w : World} {A : Option Addr} {Lv n k p : Nat} {f : Nat → Nat} (h : TabAt w A Lv n f) (hk : k < Lv) (hp : 2 ^ k = p) (hn : p ≤ n) :
    ∃ b o b2 o2 C, A = some ⟨b, o, none⟩ ∧ w.cell? ⟨b, o + k, none⟩ = some (.slice (some ⟨b2, o2, none⟩) (n + 1 - p) C) ∧ ∀ j, j < n + 1 - p → w.cell? ⟨b2, o2 + j, none⟩ = some (.int .i64 (mx f j p : Nat)) := by
  obtain ⟨b, o, B, C, hA, _, hc, hr⟩ := h k hk
  obtain ⟨b2, o2, hB, _, hr⟩ := hr.all (by rw [hp]; omega)
  refine ⟨b, o, b2, o2, C, hA, ?_, fun j hj => ?_⟩
  · rw [hc, hB, hp]
  · have := hr j (by rw [hp]; exact hj)
    unfold nv at this
    rw [hp] at this
    exact this

set_option maxHeartbeats 1000000 in
set_option maxRecDepth 100000 in
theorem of_any (A : Option Addr) (Lv c n fr m : Nat) (f : Nat → Nat) (w : World) (hT : TabAt w A Lv n f) (hL : Levels Lv n) (hm : 0 < m) (hm2 : fr + m ≤ n) (hn : n ≤ 60) (hf : ∀ j, j < n → f j ≤ 1023) :
    Calls Try.prog 19 #[.slice A Lv c, .int .i64 fr, .int .i64 ((fr + m : Nat) : Int)] w fun e w' => e = .returned (.int .i64 (mx f fr m : Nat)) ∧ ∃ q, w' = w.drewN q := by
  have HT := Lib.hid (And.intro hT (And.intro hL hf))
  clear hT hL hf
  go_enter Try.func19, Try.ntmps19
  go_wp2
  go_loopw [7, 8] (fun l i wr => ∃ k p : Nat, l = .int .i64 k ∧ i = .int .i64 p ∧ 0 < p ∧ p ≤ m ∧ k ≤ p ∧ Hid (2 ^ k = p) ∧ Hid (wr = w)) (fun _ i _ => m - (intOf i).toNat)
  case atStart => exact ⟨0, 1, rfl, rfl, by omega, hm, by omega, rfl, rfl⟩
  case round =>
    obtain ⟨k, p, rfl, rfl, hp0, hpm, hkp, HP, HW⟩ := hrel
    obtain rfl := HW.out
    by_cases h2 : 2 * p ≤ m
    · have d1 : decide (2 * p ≤ m) = true := decide_eq_true h2
      go_wp2
      go_roundw
      case rel => exact ⟨k + 1, 2 * p, by go_num, by go_num, by omega, h2, by omega, (show 2 ^ (k + 1) = 2 * p by rw [Nat.pow_succ, HP.out, Nat.mul_comm]), Lib.hid trivial⟩
      case measure => simp [intOf]; omega
    · have hkL : k < Lv := (HT.out.2.1 k).2 (by rw [HP.out]; omega)
      obtain ⟨b, o, b2, o2, C, rfl, hc, hr⟩ := TabAt.cells HT.out.1 hkL HP.out (by omega)
      have c1 := hr fr (by omega)
      have c2 := hr (fr + m - p) (by omega)
      obtain ⟨u, hu⟩ : ∃ u, mx f fr p = u := ⟨_, rfl⟩
      obtain ⟨v, hv⟩ : ∃ v, mx f (fr + m - p) p = v := ⟨_, rfl⟩
      have HU := Lib.hid (show max u v = mx f fr m by rw [← hu, ← hv]; exact mx_cut hpm (by omega))
      rw [hu] at c1
      rw [hv] at c2
      clear hr hu hv
      obtain ⟨y, hy⟩ : ∃ y, fr + m - p = y := ⟨_, rfl⟩
      rw [hy] at c2
      obtain ⟨R, hR⟩ : ∃ R, n + 1 - p = R := ⟨_, rfl⟩
      rw [hR] at hc
      have hy1 : ((fr : Int) + (m : Int) - (p : Int)) = (y : Int) := by omega
      have hfR : fr < R := by omega
      have hyR : y < R := by omega
      clear hy hR
      go_wp2
      go_region
      simp only [Exit.then]
      go_wp2
      all_goals
        go_ret
        refine ⟨congrArg (fun z : Int => Ending.returned (.int .i64 z)) ?_, _, rfl⟩
        rw [← HU.out]
        omega
end Go.Proofs.Ytpelmbiogamcpaa
