/- diff: differs, change. -/
import Derived.Test.YtednedklkbjihaaDoorDeA
namespace Go.Proofs.YtednedklkbjihaaDoor
open Go.RowKit
set_option linter.unusedVariables false
set_option linter.unusedSimpArgs false
set_option maxRecDepth 100000

set_option maxHeartbeats 2000000 in
set_option maxRecDepth 100000 in
theorem differs_any {w : World} {lo hi g cb C R n lo' hi' g' cb' C' : Nat} {F F' : Nat → Nat → Cl} (h : PG w lo hi g cb C R n F) (h' : PG w lo' hi' g' cb' C' R n F') {r : Nat} (hr : r < R) :
    Calls Tryd.prog 31 #[ptr g, ptr g', .int .i64 r, .int .i64 n] w fun e w' => e = .returned (.int .i64 (diffN (F r) (F' r) n 0)) ∧ Below w.heap.size w w' := by
  have hn := h.n2
  have C1 := Lib.hid (fun X (hX : Below w.heap.size w X) c (hc : c < n) => at_in (h.later hX) hr hc)
  have C2 := Lib.hid (fun X (hX : Below w.heap.size w X) c (hc : c < n) => at_in (h'.later hX) hr hc)
  obtain ⟨N, hN⟩ : ∃ N, diffN (F r) (F' r) n 0 = N := ⟨_, rfl⟩
  have HN := Lib.hid hN
  rw [hN]
  clear hN h h'
  go_enter Tryd.func31, Tryd.ntmps31
  go_wp2_with fail
  go_loopw [11] (fun v wr => ∃ k : Nat, k ≤ n ∧ v = .int .i64 k ∧ Hid (diffN (F r) (F' r) (n - k) k = N ∧ Below w.heap.size w wr)) (fun v _ => n - (intOf v).toNat)
  case atStart => exact ⟨0, Nat.zero_le _, rfl, HN.out, Below.refl _ _⟩
  case round =>
    obtain ⟨k, hk, rfl, HM⟩ := hrel
    by_cases hlt : k < n
    · obtain ⟨u, hu⟩ : ∃ u, F r k = u := ⟨_, rfl⟩
      obtain ⟨v, hv⟩ : ∃ v, F' r k = v := ⟨_, rfl⟩
      have D1 := Lib.hid (fun X (hX : Below w.heap.size w X) => C1.out X hX k hlt)
      have D2 := Lib.hid (fun X (hX : Below w.heap.size w X) => C2.out X hX k hlt)
      rw [hu] at D1
      rw [hv] at D2
      have hstep : diffN (F r) (F' r) (n - k) k = if u = v then diffN (F r) (F' r) (n - (k + 1)) (k + 1) else k := by
        rw [show n - k = (n - (k + 1)) + 1 by omega]
        conv => lhs; unfold diffN
        rw [hu, hv]
      have HST := Lib.hid hstep
      clear hu hv hstep
      by_cases huv : u = v
      · have HK := Lib.hid (show diffN (F r) (F' r) (n - (k + 1)) (k + 1) = N by have := HST.out; rw [if_pos huv] at this; rw [← this]; exact HM.out.1)
        subst huv
        have q1 : ∀ w, (Go.binOp .neq 102 (.agg #[.string u.1, .int .i64 u.2]) (.agg #[.string u.1, .int .i64 u.2])).run Tryd.prog w = .ok (.bool false) w := fun w => by
          have := neq_cl u u w
          simpa using this
        go_wp2_with fail
        refine (D1.out _ HM.out.2).mono ?_
        rintro e w1 ⟨rfl, b1⟩
        have H1 := Lib.hid (belowStep HM.out.2 b1)
        clear b1
        go_wp2_with fail
        refine (D2.out _ H1.out).mono ?_
        rintro e w2 ⟨rfl, b2⟩
        have H2 := Lib.hid (belowStep H1.out b2)
        clear b2
        go_wp2_with fail
        go_roundw
        case rel => exact ⟨k + 1, by omega, by go_num, HK.out, H2.out⟩
        case measure => simp [intOf]; omega
      · have q1 : ∀ w, (Go.binOp .neq 102 (.agg #[.string u.1, .int .i64 u.2]) (.agg #[.string v.1, .int .i64 v.2])).run Tryd.prog w = .ok (.bool true) w := fun w => by
          have := neq_cl u v w
          rw [decide_eq_false huv] at this
          exact this
        have HE := Lib.hid (show k = N by have := HST.out; rw [if_neg huv] at this; rw [← this]; exact HM.out.1)
        clear huv
        go_wp2_with fail
        refine (D1.out _ HM.out.2).mono ?_
        rintro e w1 ⟨rfl, b1⟩
        have H1 := Lib.hid (belowStep HM.out.2 b1)
        clear b1
        go_wp2_with fail
        refine (D2.out _ H1.out).mono ?_
        rintro e w2 ⟨rfl, b2⟩
        have H2 := Lib.hid (belowStep H1.out b2)
        clear b2
        go_wp2_with fail
        go_ret
        exact ⟨by rw [HE.out]; rfl, H2.out⟩
    · obtain rfl : k = n := by omega
      have HE := Lib.hid (show k = N by have := HM.out.1; rw [Nat.sub_self] at this; exact this)
      go_wp2_with fail
      go_ret
      exact ⟨by rw [HE.out]; rfl, HM.out.2⟩
end Go.Proofs.YtednedklkbjihaaDoor
