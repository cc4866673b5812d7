/- diff: the chapter's example. -/
import Derived.Test.YtednedklkbjihaaDoorDeE
namespace Go.Proofs.YtednedklkbjihaaDoor
open Go.RowKit
set_option linter.unusedVariables false
set_option linter.unusedSimpArgs false
set_option maxRecDepth 100000

def gA : Nat → Nat → Cl := putF 1 5 (putF 1 5 (fun _ _ => blank) 0 0 ⟨#[97]⟩ 1) 0 1 ⟨#[98]⟩ 1
def gB : Nat → Nat → Cl := putF 1 5 (fun _ _ => blank) 0 0 ⟨#[97]⟩ 1
theorem gAB : rowsD gA gB 5 1 = [⟨0, 1, 1, ⟨#[]⟩, true⟩] := by kernel_rfl
theorem gAB_diff : diffN (gA 0) (gB 0) 5 0 = 1 := by kernel_rfl
theorem gB_text : ∀ j, j < 5 → (textL (gB 0) 1 j).length < 10 := by decide +kernel
theorem short_AB : Short gA gB 5 1 := by
  intro r hr _ j hj
  obtain rfl : r = 0 := by omega
  rw [gAB_diff] at hj ⊢
  have := gB_text j (by omega)
  omega
theorem short_self (F : Nat → Nat → Cl) (n R : Nat) : Short F F n R := by
  intro r _ h
  rw [diffN_self] at h
  omega
theorem eq_dr : ∀ w, (Go.binOp .eql 34 (.agg #[.int .i64 0, .int .i64 1, .int .i64 1, .string ⟨#[]⟩, .bool true]) (.agg #[.int .i64 0, .int .i64 1, .int .i64 1, .string ⟨#[]⟩, .bool true])).run Tryd.prog w = .ok (.bool true) w := fun w => by kernel_rfl
theorem chg_iv_below {w v : World} {lo hi B : Nat} (h : Chg (Iv lo hi) w v) (hB : B ≤ w.heap.size) (hl : B ≤ lo) : Below B w v := h.below hB fun k hk hs => by unfold Iv at hs; omega
theorem agreeG_self (F : Nat → Nat → Cl) (R n : Nat) : agreeG F F R n = true := agreeG_yes.2 fun _ _ => agreeR_yes.2 fun _ _ => rfl

set_option maxHeartbeats 4000000 in
set_option maxRecDepth 100000 in
theorem awakeD_yes (w : World) : Calls Tryd.prog 14 #[] w fun e w' => e = .returned (.bool true) ∧ Below w.heap.size w w' := by
  have q0 := eq_dr
  go_enter Tryd.func14, Tryd.ntmps14
  go_wp2_with fail
  refine (new_in (R := 1) (n := 5) w (by omega) (by omega) (by omega) (by omega)).mono ?_
  rintro e w1 ⟨g, cb, C, rfl, P1, b1⟩
  have H1 := Lib.hid (And.intro P1 b1)
  clear P1 b1
  go_wp2_with fail
  refine (new_in (R := 1) (n := 5) w1 (by omega) (by omega) (by omega) (by omega)).mono ?_
  rintro e w2 ⟨g', cb', C', rfl, P2, b2⟩
  have H2 := Lib.hid (And.intro (H1.out.1.later b2) (And.intro P2 (And.intro (belowStep H1.out.2 b2) (And.intro H1.out.2.size b2.size))))
  clear P2 b2 H1
  go_wp2_with fail
  refine (put_all H2.out.1 0 0 ⟨#[97]⟩ 1).mono ?_
  rintro e w3 ⟨rfl, p3, c3⟩
  have H3 := Lib.hid (And.intro p3 (And.intro (H2.out.2.1.two (.inr (Nat.le_refl _)) c3) (And.intro (H2.out.2.2.1.trans (chg_iv_below c3 H2.out.2.2.1.size (Nat.le_refl _))) (Nat.le_trans H2.out.2.2.2.2 c3.size))))
  clear p3 c3
  go_wp2_with fail
  refine (put_all H3.out.1 0 1 ⟨#[98]⟩ 1).mono ?_
  rintro e w4 ⟨rfl, p4, c4⟩
  have H4 := Lib.hid (And.intro p4 (And.intro (H3.out.2.1.two (.inr (Nat.le_refl _)) c4) (And.intro (H3.out.2.2.1.trans (chg_iv_below c4 H3.out.2.2.1.size (Nat.le_refl _))) (Nat.le_trans H3.out.2.2.2 c4.size))))
  clear p4 c4 H3
  go_wp2_with fail
  refine (put_all H4.out.2.1 0 0 ⟨#[97]⟩ 1).mono ?_
  rintro e w5 ⟨rfl, p5, c5⟩
  have H5 := Lib.hid (show PG w5 w.heap.size w1.heap.size g cb C 1 5 gA ∧ PG w5 w1.heap.size w2.heap.size g' cb' C' 1 5 gB ∧ Below w.heap.size w w5 from ⟨H4.out.1.two (.inl (Nat.le_refl _)) c5, p5, H4.out.2.2.1.trans (chg_iv_below c5 H4.out.2.2.1.size H2.out.2.2.2.1)⟩)
  clear p5 c5 H4
  go_wp2_with fail
  refine (rows_any H5.out.1 H5.out.2.1 short_AB).mono ?_
  rintro e w6 ⟨A, n, c, rfl, ho, b6⟩
  rw [gAB] at ho
  have hn := own_count encD_len (by decide) ho
  obtain rfl : n = 1 := by simpa using hn.symm
  obtain ⟨gb, cs, rfl, _, hBk, hnc, _, _, hcs⟩ := own_blk ho (by omega)
  have k0 : w6.cell? ⟨gb, 0, none⟩ = some (.int .i64 0) := (hBk.2.1 0).trans (hcs 0 _ rfl)
  have k1 : w6.cell? ⟨gb, 1, none⟩ = some (.int .i64 1) := (hBk.2.1 1).trans (hcs 1 _ rfl)
  have k2 : w6.cell? ⟨gb, 2, none⟩ = some (.int .i64 1) := (hBk.2.1 2).trans (hcs 2 _ rfl)
  have k3 : w6.cell? ⟨gb, 3, none⟩ = some (.string ⟨#[]⟩) := (hBk.2.1 3).trans (hcs 3 _ rfl)
  have k4 : w6.cell? ⟨gb, 4, none⟩ = some (.bool true) := (hBk.2.1 4).trans (hcs 4 _ rfl)
  have H6 := Lib.hid (And.intro (H5.out.1.later b6) (belowStep H5.out.2.2 b6))
  clear ho b6 hn hBk hcs H5
  go_wp2_with fail
  refine (rows_any H6.out.1 H6.out.1 (short_self gA 5 1)).mono ?_
  rintro e w7 ⟨A7, n7, c7, rfl, ho7, b7⟩
  rw [rowsD_self] at ho7
  have hn7 := own_count encD_len (by decide) ho7
  obtain rfl : n7 = 0 := by simpa using hn7.symm
  have H7 := Lib.hid (belowStep H6.out.2 b7)
  clear ho7 b7 hn7
  go_wp2_with fail
  go_ret
  exact ⟨rfl, H7.out⟩
def low3 (z : Int) : Nat := (BitVec.ofInt 64 z &&& BitVec.ofInt 64 3).toNat
theorem low3_le (z : Int) : low3 z ≤ 3 := by
  unfold low3
  rw [BitVec.toNat_and]
  exact Nat.le_trans Nat.and_le_right (by decide)
theorem low3_bits (z : Int) : bits .and .i64 z 3 = (low3 z : Int) := by
  have h := low3_le z
  show IntKind.i64.wrap ((BitVec.ofInt 64 z &&& BitVec.ofInt 64 3).toNat : Int) = _
  exact IntWalk.i64_in _ (by unfold low3 at h; omega)

def low7 (z : Int) : Nat := (BitVec.ofInt 64 z &&& BitVec.ofInt 64 7).toNat
theorem low7_le (z : Int) : low7 z ≤ 7 := by
  unfold low7
  rw [BitVec.toNat_and]
  exact Nat.le_trans Nat.and_le_right (by decide)
theorem low7_bits (z : Int) : bits .and .i64 z 7 = (low7 z : Int) := by
  have h := low7_le z
  show IntKind.i64.wrap ((BitVec.ofInt 64 z &&& BitVec.ofInt 64 7).toNat : Int) = _
  exact IntWalk.i64_in _ (by unfold low7 at h; omega)

end Go.Proofs.YtednedklkbjihaaDoor
