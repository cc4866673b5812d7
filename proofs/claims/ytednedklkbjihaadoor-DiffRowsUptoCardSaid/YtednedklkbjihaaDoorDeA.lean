/- diff: filled, differs. -/
import Derived.Test.YtednedklkbjihaaDoorGeK
namespace Go.Proofs.YtednedklkbjihaaDoor
open Go.RowKit
set_option linter.unusedVariables false
set_option linter.unusedSimpArgs false
set_option maxRecDepth 100000

/-- How many cells there are without the blank ones at the end. -/
def filledN (G : Nat → Cl) : Nat → Nat
  | 0 => 0
  | k + 1 => if G k = blank then filledN G k else k + 1
theorem filledN_le (G : Nat → Cl) : ∀ k, filledN G k ≤ k
  | 0 => Nat.le_refl _
  | k + 1 => by
    unfold filledN
    split
    · exact Nat.le_trans (filledN_le G k) (Nat.le_succ k)
    · exact Nat.le_refl _
/-- The first column whose cells differ. -/
def diffN (G H : Nat → Cl) : Nat → Nat → Nat
  | 0, c => c
  | k + 1, c => if G c = H c then diffN G H k (c + 1) else c
theorem diffN_self (G : Nat → Cl) : ∀ k c, diffN G G k c = c + k
  | 0, c => rfl
  | k + 1, c => by unfold diffN; rw [if_pos rfl, diffN_self G k (c + 1)]; omega
theorem diffN_le (G H : Nat → Cl) : ∀ k c, c ≤ diffN G H k c ∧ diffN G H k c ≤ c + k
  | 0, c => ⟨Nat.le_refl _, Nat.le_refl _⟩
  | k + 1, c => by
    unfold diffN
    split
    · have := diffN_le G H k (c + 1); omega
    · omega

set_option maxHeartbeats 2000000 in
set_option maxRecDepth 100000 in
theorem filled_any {b n C : Nat} {cs : Array Value} {G : Nat → Cl} {w : World} (hB : Blk w b cs) (hI : Is cs 0 n G) (hn : n ≤ 1000000) :
    Calls Tryd.prog 53 #[.slice (some ⟨b, 0, none⟩) n C] w fun e w' => e = .returned (.int .i64 (filledN G n)) ∧ Below w.heap.size w w' := by
  have HC := Lib.hid (fun X (hX : Below w.heap.size w X) c (hc : c < n) => And.intro (((hB.later hX hB.1).2.1 _).trans (hI c hc).1) (((hB.later hX hB.1).2.1 _).trans (hI c hc).2))
  obtain ⟨N, hN⟩ : ∃ N, filledN G n = N := ⟨_, rfl⟩
  have HN := Lib.hid hN
  rw [hN]
  clear hB hI hN
  go_enter Tryd.func53, Tryd.ntmps53
  go_wp2_with fail
  go_loopw [3] (fun v wr => ∃ m : Nat, m ≤ n ∧ v = .int .i64 m ∧ Hid (filledN G m = N ∧ Below w.heap.size w wr)) (fun v _ => (intOf v).toNat)
  case atStart => exact ⟨n, Nat.le_refl _, rfl, HN.out, Below.refl _ _⟩
  case round =>
    obtain ⟨m, hm, rfl, HM⟩ := hrel
    rcases Nat.eq_zero_or_pos m with h0 | hpos
    · subst h0
      obtain rfl : N = 0 := HM.out.1.symm
      go_wp2_with fail
      go_quiet (fail)
      go_wp2_with fail
      go_ret
      exact ⟨rfl, below_drewN HM.out.2 _⟩
    · obtain ⟨k, rfl⟩ : ∃ k, m = k + 1 := ⟨m - 1, by omega⟩
      obtain ⟨c0, c1⟩ := HC.out wr HM.out.2 k (by omega)
      obtain ⟨u, hu⟩ : ∃ u, G k = u := ⟨_, rfl⟩
      rw [hu] at c0 c1
      have HU := Lib.hid hu
      obtain ⟨bl, hbl⟩ : ∃ bl, decide (u = blank) = bl := ⟨_, rfl⟩
      have q1 : ∀ w, (Go.binOp .eql 102 (.agg #[.string u.1, .int .i64 u.2]) (.agg #[.string ⟨#[32]⟩, .int .i64 1])).run Tryd.prog w = .ok (.bool bl) w := fun w => by
        have := eql_cl u blank w
        rw [hbl] at this
        exact this
      have HBL := Lib.hid hbl
      obtain ⟨E, hE⟩ : ∃ E, k + 1 = E := ⟨_, rfl⟩
      have eE : (E : Int) - 1 = (k : Int) := by omega
      have eE2 : IntKind.i64.wrap (k : Int) = (k : Int) := IntWalk.i64_in _ (by omega)
      have eE3 : ((k : Nat) : Int).toNat = k := by omega
      have g1 : decide ((0 : Int) < (E : Int)) = true := decide_eq_true (by omega)
      have g2 : decide (0 < E) = true := decide_eq_true (by omega)
      have g3 : (k : Int) < (n : Int) := by omega
      have g4 : (0 : Int) ≤ (k : Int) := by omega
      have HE := Lib.hid hE
      rw [hE] at HM ⊢
      have HS := Lib.hid (show ∀ X, Below w.heap.size w X → (fun X => X.cell? ⟨b, 0 + k * 2, none⟩ = some (.string u.1) ∧ X.cell? ⟨b, 0 + k * 2 + 1, none⟩ = some (.int .i64 u.2)) X from fun X hX => by
        obtain ⟨c0, c1⟩ := HC.out X hX k (by omega)
        rw [hu] at c0 c1
        exact ⟨c0, c1⟩)
      clear hu hbl hE hpos
      simp only [Nat.zero_add] at c0 c1 HS
      go_wp2_with fail
      go_region_held3 (fun X => X.cell? ⟨b, k * 2, none⟩ = some (.string u.1) ∧ X.cell? ⟨b, k * 2 + 1, none⟩ = some (.int .i64 u.2))
        (first | exact HS.out _ (by assumption) | go_keep)
        (first | (go_at_call 59; refine (blank_any _).mono ?_; rintro e w3 ⟨rfl, hb3⟩; have hB3 := belowStep (A := w) (by first | assumption | exact HM.out.2 | exact HM.out.2.drew) hb3; clear hb3))
      all_goals
        cases bl
        · have e0 : filledN G E = E := by
            rw [← HE.out]
            unfold filledN
            rw [if_neg (by rw [HU.out]; exact of_decide_eq_false HBL.out)]
          have e1 : N = E := by rw [← HM.out.1, e0]
          have HR := Lib.hid e1
          clear e0 e1
          go_wp2_with fail
          go_ret
          exact ⟨by rw [HR.out]; rfl, hB3⟩
        · have e0 : filledN G E = filledN G k := by
            rw [← HE.out]
            conv => lhs; unfold filledN
            rw [if_pos (by rw [HU.out]; exact of_decide_eq_true HBL.out)]
          have HR := Lib.hid (show filledN G k = N by rw [← e0]; exact HM.out.1)
          clear e0
          go_wp2_with fail
          go_roundw
          case rel => exact ⟨k, by omega, by go_num, HR.out, hB3⟩
          case measure => (simp [intOf]) <;> (have := HE.out; omega)
end Go.Proofs.YtednedklkbjihaaDoor
