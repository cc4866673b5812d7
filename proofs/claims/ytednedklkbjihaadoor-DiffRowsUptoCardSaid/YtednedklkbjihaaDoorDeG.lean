/- diff: the document's last, one. -/
import Derived.Test.YtednedklkbjihaaDoorDeD
namespace Go.Proofs.YtednedklkbjihaaDoor
open Go.RowKit
set_option linter.unusedVariables false
set_option linter.unusedSimpArgs false
set_option maxRecDepth 100000

set_option maxHeartbeats 2000000 in
set_option maxRecDepth 100000 in
theorem last_any {b n C : Nat} {cs : Array Value} {G : Nat → Cl} {w : World} (hB : Blk w b cs) (hI : Is cs 0 n G) (hn : n ≤ 1000000) :
    Calls Tryd.prog 55 #[.slice (some ⟨b, 0, none⟩) n C] w fun e w' => e = .returned (.int .i64 (filledN G n)) ∧ Below w.heap.size w w' := by
  have HC := Lib.hid (fun X (hX : Below w.heap.size w X) c (hc : c < n) => And.intro (((hB.later hX hB.1).2.1 _).trans (hI c hc).1) (((hB.later hX hB.1).2.1 _).trans (hI c hc).2))
  obtain ⟨N, hN⟩ : ∃ N, filledN G n = N := ⟨_, rfl⟩
  have HN := Lib.hid hN
  rw [hN]
  clear hB hI hN
  go_enter Tryd.func55, Tryd.ntmps55
  go_wp2_with fail
  go_loopw [3] (fun v wr => ∃ (m : Nat) (z : Int), m ≤ n ∧ v = .int .i64 z ∧ z + 1 = (m : Int) ∧ Hid (filledN G m = N ∧ Below w.heap.size w wr)) (fun v _ => (intOf v + 1).toNat)
  case atStart => exact ⟨n, _, Nat.le_refl _, rfl, by omega, HN.out, Below.refl _ _⟩
  case round =>
    obtain ⟨m, z, hm, rfl, hz, HM⟩ := hrel
    rcases Nat.eq_zero_or_pos m with h0 | hpos
    · subst h0
      obtain rfl : N = 0 := HM.out.1.symm
      obtain rfl : z = -1 := by omega
      clear hz
      go_wp2_with fail
      go_ret
      exact ⟨rfl, HM.out.2⟩
    · obtain ⟨k, rfl⟩ : ∃ k, m = k + 1 := ⟨m - 1, by omega⟩
      obtain rfl : z = (k : Int) := by omega
      clear hz
      obtain ⟨c0, c1⟩ := HC.out wr HM.out.2 k (by omega)
      obtain ⟨u, hu⟩ : ∃ u, G k = u := ⟨_, rfl⟩
      rw [hu] at c0 c1
      have HU := Lib.hid hu
      obtain ⟨bl, hbl⟩ : ∃ bl, decide (u = blank) = bl := ⟨_, rfl⟩
      have q1 : ∀ w, (Go.binOp .neq 97 (.agg #[.string u.1, .int .i64 u.2]) (.agg #[.string ⟨#[32]⟩, .int .i64 1])).run Tryd.prog w = .ok (.bool (!bl)) w := fun w => by
        have := neq_clR u blank w
        rw [hbl] at this
        exact this
      have HBL := Lib.hid hbl
      have eE2 : IntKind.i64.wrap (k : Int) = (k : Int) := IntWalk.i64_in _ (by omega)
      have eE3 : ((k : Nat) : Int).toNat = k := by omega
      have g3 : (k : Int) < (n : Int) := by omega
      have g4 : (0 : Int) ≤ (k : Int) := by omega
      have HS := Lib.hid (show ∀ X, Below w.heap.size w X → (fun X => X.cell? ⟨b, 0 + k * 2, none⟩ = some (.string u.1) ∧ X.cell? ⟨b, 0 + k * 2 + 1, none⟩ = some (.int .i64 u.2)) X from fun X hX => by
        obtain ⟨c0, c1⟩ := HC.out X hX k (by omega)
        rw [hu] at c0 c1
        exact ⟨c0, c1⟩)
      clear hu hbl hpos
      simp only [Nat.zero_add] at c0 c1 HS
      go_wp2_with fail
      go_region_held3 (fun X => X.cell? ⟨b, k * 2, none⟩ = some (.string u.1) ∧ X.cell? ⟨b, k * 2 + 1, none⟩ = some (.int .i64 u.2))
        (first | exact HS.out _ (by assumption) | go_keep)
        (first | (go_at_call 47; refine (blankR_any _).mono ?_; rintro e w3 ⟨rfl, hb3⟩; have hB3 := belowStep (A := w) (by first | assumption | exact HM.out.2 | exact HM.out.2.drew) hb3; clear hb3))
      all_goals
        cases bl
        · have HR := Lib.hid (show k + 1 = N by
            rw [← HM.out.1]
            unfold filledN
            rw [if_neg (by rw [HU.out]; exact of_decide_eq_false HBL.out)])
          go_wp2_with fail
          go_ret
          exact ⟨by rw [← HR.out]; rfl, hB3⟩
        · have HR := Lib.hid (show filledN G k = N by
            rw [← HM.out.1]
            conv => rhs; unfold filledN
            rw [if_pos (by rw [HU.out]; exact of_decide_eq_true HBL.out)])
          go_wp2_with fail
          go_roundw
          case rel => exact ⟨k, (k : Int) - 1, by omega, rfl, by omega, HR.out, hB3⟩
          case measure => simp [intOf]

theorem diffN_spec (G H : Nat → Cl) : ∀ k c, (∀ j, c ≤ j → j < diffN G H k c → G j = H j) ∧ (diffN G H k c < c + k → G (diffN G H k c) ≠ H (diffN G H k c))
  | 0, c => ⟨fun j h1 h2 => by have h2 : j < c := h2; omega, fun h => by have h : c < c + 0 := h; omega⟩
  | k + 1, c => by
    obtain ⟨h1, h2⟩ := diffN_spec G H k (c + 1)
    unfold diffN
    split
    · rename_i he
      refine ⟨fun j hj hj2 => ?_, fun h => h2 (by omega)⟩
      by_cases e : j = c
      · rw [e, he]
      · exact h1 j (by omega) hj2
    · rename_i he
      exact ⟨fun j hj hj2 => by omega, fun _ => he⟩
theorem eql_clR (a b : Cl) (w : World) : (Go.binOp .eql 97 (clV a) (clV b)).run Tryd.prog w = .ok (.bool (decide (a = b))) w := by
  rw [run_eql_struct, eq_clR]
  rfl
theorem run_cat9 (w : World) (x y : ByteArray) (h : x.size + y.size ≤ 2000000000) : (Op.stringOp .add x y).run Tryd.prog w = .ok (.string (x ++ y)) w := by
  simp [go_sem]
  omega
end Go.Proofs.YtednedklkbjihaaDoor
