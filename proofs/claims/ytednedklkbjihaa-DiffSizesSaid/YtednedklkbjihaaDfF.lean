/- diff: the chapter's example; DiffSizes' walk. -/
import Derived.Test.YtednedklkbjihaaDfE
namespace Go.Proofs.Ytednedklkbjihaa
open Go.RowKit
set_option linter.unusedVariables false
set_option linter.unusedSimpArgs false

def gA : Nat → Nat → Cl := putF 1 5 (putF 1 5 (fun _ _ => blank) 0 0 ⟨#[97]⟩ 1) 0 1 ⟨#[98]⟩ 1
def gB : Nat → Nat → Cl := putF 1 5 (fun _ _ => blank) 0 0 ⟨#[97]⟩ 1
theorem gAB : rowsD gA gB 5 1 = [⟨0, 1, 1, ⟨#[]⟩, true⟩] := by kernel_rfl
theorem gAB_diff : diffN (gA 0) (gB 0) 5 0 = 1 := by kernel_rfl
theorem gB_text : ∀ j, j < 5 → (textL (gB 0) 1 j).length < 10 := by decide +kernel
theorem short_AB : Short gA gB 5 1 := by
  intro r hr _ j hj
  obtain rfl : r = 0 := by omega
  rw [gAB_diff] at hj ⊢
  have := gB_text j (by omega)
  omega
theorem short_self (F : Nat → Nat → Cl) (n R : Nat) : Short F F n R := by
  intro r _ h
  rw [diffN_self] at h
  omega
theorem eq_dr : ∀ w, (Go.binOp .eql 47 (.agg #[.int .i64 0, .int .i64 1, .int .i64 1, .string ⟨#[]⟩, .bool true]) (.agg #[.int .i64 0, .int .i64 1, .int .i64 1, .string ⟨#[]⟩, .bool true])).run Try.prog w = .ok (.bool true) w := fun w => by kernel_rfl
theorem chg_iv_below {w v : World} {lo hi B : Nat} (h : Chg (Iv lo hi) w v) (hB : B ≤ w.heap.size) (hl : B ≤ lo) : Below B w v := h.below hB fun k hk hs => by unfold Iv at hs; omega
theorem agreeG_self (F : Nat → Nat → Cl) (R n : Nat) : agreeG F F R n = true := agreeG_yes.2 fun _ _ => agreeR_yes.2 fun _ _ => rfl

set_option maxHeartbeats 4000000 in
set_option maxRecDepth 100000 in
theorem awake_yes (w : World) : Calls Try.prog 6 #[] w fun e w' => e = .returned (.bool true) ∧ Below w.heap.size w w' := by
  have q0 := eq_dr
  go_enter Try.func6, Try.ntmps6
  go_wp2_with fail
  refine (new_in (R := 1) (n := 5) w (by omega) (by omega) (by omega) (by omega)).mono ?_
  rintro e w1 ⟨g, cb, C, rfl, P1, b1⟩
  have H1 := Lib.hid (And.intro P1 b1)
  clear P1 b1
  go_wp2_with fail
  refine (new_in (R := 1) (n := 5) w1 (by omega) (by omega) (by omega) (by omega)).mono ?_
  rintro e w2 ⟨g', cb', C', rfl, P2, b2⟩
  have H2 := Lib.hid (And.intro (H1.out.1.later b2) (And.intro P2 (And.intro (belowStep H1.out.2 b2) (And.intro H1.out.2.size b2.size))))
  clear P2 b2 H1
  go_wp2_with fail
  refine (put_all H2.out.1 0 0 ⟨#[97]⟩ 1).mono ?_
  rintro e w3 ⟨rfl, p3, c3⟩
  have H3 := Lib.hid (And.intro p3 (And.intro (H2.out.2.1.two (.inr (Nat.le_refl _)) c3) (And.intro (H2.out.2.2.1.trans (chg_iv_below c3 H2.out.2.2.1.size (Nat.le_refl _))) (Nat.le_trans H2.out.2.2.2.2 c3.size))))
  clear p3 c3
  go_wp2_with fail
  refine (put_all H3.out.1 0 1 ⟨#[98]⟩ 1).mono ?_
  rintro e w4 ⟨rfl, p4, c4⟩
  have H4 := Lib.hid (And.intro p4 (And.intro (H3.out.2.1.two (.inr (Nat.le_refl _)) c4) (And.intro (H3.out.2.2.1.trans (chg_iv_below c4 H3.out.2.2.1.size (Nat.le_refl _))) (Nat.le_trans H3.out.2.2.2 c4.size))))
  clear p4 c4 H3
  go_wp2_with fail
  refine (put_all H4.out.2.1 0 0 ⟨#[97]⟩ 1).mono ?_
  rintro e w5 ⟨rfl, p5, c5⟩
  have H5 := Lib.hid (show PG w5 w.heap.size w1.heap.size g cb C 1 5 gA ∧ PG w5 w1.heap.size w2.heap.size g' cb' C' 1 5 gB ∧ Below w.heap.size w w5 from ⟨H4.out.1.two (.inl (Nat.le_refl _)) c5, p5, H4.out.2.2.1.trans (chg_iv_below c5 H4.out.2.2.1.size H2.out.2.2.2.1)⟩)
  clear p5 c5 H4
  go_wp2_with fail
  refine (rows_any H5.out.1 H5.out.2.1 short_AB).mono ?_
  rintro e w6 ⟨A, n, c, rfl, ho, b6⟩
  rw [gAB] at ho
  have hn := own_count encD_len (by decide) ho
  obtain rfl : n = 1 := by simpa using hn.symm
  obtain ⟨gb, cs, rfl, _, hBk, hnc, _, _, hcs⟩ := own_blk ho (by omega)
  have k0 : w6.cell? ⟨gb, 0, none⟩ = some (.int .i64 0) := (hBk.2.1 0).trans (hcs 0 _ rfl)
  have k1 : w6.cell? ⟨gb, 1, none⟩ = some (.int .i64 1) := (hBk.2.1 1).trans (hcs 1 _ rfl)
  have k2 : w6.cell? ⟨gb, 2, none⟩ = some (.int .i64 1) := (hBk.2.1 2).trans (hcs 2 _ rfl)
  have k3 : w6.cell? ⟨gb, 3, none⟩ = some (.string ⟨#[]⟩) := (hBk.2.1 3).trans (hcs 3 _ rfl)
  have k4 : w6.cell? ⟨gb, 4, none⟩ = some (.bool true) := (hBk.2.1 4).trans (hcs 4 _ rfl)
  have H6 := Lib.hid (And.intro (H5.out.1.later b6) (belowStep H5.out.2.2 b6))
  clear ho b6 hn hBk hcs H5
  go_wp2_with fail
  refine (rows_any H6.out.1 H6.out.1 (short_self gA 5 1)).mono ?_
  rintro e w7 ⟨A7, n7, c7, rfl, ho7, b7⟩
  rw [rowsD_self] at ho7
  have hn7 := own_count encD_len (by decide) ho7
  obtain rfl : n7 = 0 := by simpa using hn7.symm
  have H7 := Lib.hid (belowStep H6.out.2 b7)
  clear ho7 b7 hn7
  go_wp2_with fail
  go_ret
  exact ⟨rfl, H7.out⟩
def low3 (z : Int) : Nat := (BitVec.ofInt 64 z &&& BitVec.ofInt 64 3).toNat
theorem low3_le (z : Int) : low3 z ≤ 3 := by
  unfold low3
  rw [BitVec.toNat_and]
  exact Nat.le_trans Nat.and_le_right (by decide)
theorem low3_bits (z : Int) : bits .and .i64 z 3 = (low3 z : Int) := by
  have h := low3_le z
  show IntKind.i64.wrap ((BitVec.ofInt 64 z &&& BitVec.ofInt 64 3).toNat : Int) = _
  exact IntWalk.i64_in _ (by unfold low3 at h; omega)

def low7 (z : Int) : Nat := (BitVec.ofInt 64 z &&& BitVec.ofInt 64 7).toNat
theorem low7_le (z : Int) : low7 z ≤ 7 := by
  unfold low7
  rw [BitVec.toNat_and]
  exact Nat.le_trans Nat.and_le_right (by decide)
theorem low7_bits (z : Int) : bits .and .i64 z 7 = (low7 z : Int) := by
  have h := low7_le z
  show IntKind.i64.wrap ((BitVec.ofInt 64 z &&& BitVec.ofInt 64 7).toNat : Int) = _
  exact IntWalk.i64_in _ (by unfold low7 at h; omega)

def Yes (w : World) (e : Ending) (w' : World) : Prop := e = .returned (.bool true) ∧ Below w.heap.size w w'

set_option maxHeartbeats 4000000 in
set_option maxRecDepth 100000 in
theorem walk_DiffSizes (W : World) (rows : Int) (w0 : (Lit.int .i64 rows).wf = true) (cols : Int) (w1 : (Lit.int .i64 cols).wf = true) (rows' : Int) (w2 : (Lit.int .i64 rows').wf = true) (cols' : Int) (w3 : (Lit.int .i64 cols').wf = true) (A : Option Addr) (n c : Nat) (D : Nat → Dd) (hn : n ≤ c) (hc : c ≤ maxLen) (hD : ∀ i, i < n → DeedAt W A i (D i)) :
    Calls Try.prog 3 #[.int .i64 rows, .int .i64 cols, .int .i64 rows', .int .i64 cols', .slice A n c] W (Yes W) := by
  have HD := Lib.hid (And.intro hD (And.intro hn hc))
  have hb1 := low3_bits rows
  have hb2 := low7_bits cols
  have hb3 := low3_bits rows'
  have hb4 := low7_bits cols'
  have hl1 := low3_le rows
  have hl2 := low7_le cols
  have hl3 := low3_le rows'
  have hl4 := low7_le cols'
  obtain ⟨a, ha⟩ : ∃ a, low3 rows = a := ⟨_, rfl⟩
  obtain ⟨b, hb⟩ : ∃ b, low7 cols = b := ⟨_, rfl⟩
  obtain ⟨a', ha'⟩ : ∃ a, low3 rows' = a := ⟨_, rfl⟩
  obtain ⟨b', hb'⟩ : ∃ b, low7 cols' = b := ⟨_, rfl⟩
  rw [ha] at hb1 hl1
  rw [hb] at hb2 hl2
  rw [ha'] at hb3 hl3
  rw [hb'] at hb4 hl4
  clear hD hn hc ha hb ha' hb' w0 w1 w2 w3
  have M1 := Lib.hid (made_any (1 + a) (2 + b) (by omega) (by omega) (by omega) (by omega) A n c D W HD.out.2.1 HD.out.2.2 HD.out.1)
  have M2 := Lib.hid (fun X (hX : Below W.heap.size W X) => made_any (1 + a') (2 + b') (by omega) (by omega) (by omega) (by omega) A n c D X HD.out.2.1 HD.out.2.2 fun i hi => (HD.out.1 i hi).below hX)
  obtain ⟨F, hF⟩ : ∃ F, dealsF (1 + a) (2 + b) D (min n 30) = F := ⟨_, rfl⟩
  rw [hF] at M1
  have HF := Lib.hid hF
  clear hF
  have e1 : (1 : Int) + (a : Int) = ((1 + a : Nat) : Int) := by omega
  have e2 : (2 : Int) + (b : Int) = ((2 + b : Nat) : Int) := by omega
  have e3 : (1 : Int) + (a' : Int) = ((1 + a' : Nat) : Int) := by omega
  have e4 : (2 : Int) + (b' : Int) = ((2 + b' : Nat) : Int) := by omega
  obtain ⟨R, hR⟩ : ∃ R, 1 + a = R := ⟨_, rfl⟩
  obtain ⟨m, hm⟩ : ∃ m, 2 + b = m := ⟨_, rfl⟩
  obtain ⟨R', hR'⟩ : ∃ R, 1 + a' = R := ⟨_, rfl⟩
  obtain ⟨m', hm'⟩ : ∃ m, 2 + b' = m := ⟨_, rfl⟩
  rw [hR] at M1 e1 HF
  rw [hm] at M1 e2 HF
  rw [hR'] at M2 e3
  rw [hm'] at M2 e4
  have HS := Lib.hid (show (R = R' ↔ a = a') ∧ (m = m' ↔ b = b') by omega)
  clear hR hm hR' hm'
  go_enter Try.func3, Try.ntmps3
  go_wp2_with fail
  refine M1.out.mono ?_
  rintro e W1 ⟨g, cb, C, ob, Co, rb, Cr, N, N2, rfl, P1, _, _, _, _, b1⟩
  have H1 := Lib.hid (And.intro P1 b1)
  clear P1 b1 M1
  go_wp2_with fail
  refine (M2.out W1 H1.out.2).mono ?_
  rintro e W2 ⟨g', cb', C', ob', Co', rb', Cr', N', N2', rfl, P2, _, _, _, _, b2⟩
  have H2 := Lib.hid (And.intro (H1.out.1.later b2) (And.intro P2 (belowStep H1.out.2 b2)))
  clear P2 b2 M2 H1
  by_cases hs : a = a' ∧ b = b'
  · obtain ⟨rfl, rfl⟩ := hs
    obtain rfl : R = R' := HS.out.1.2 rfl
    obtain rfl : m = m' := HS.out.2.2 rfl
    have d1 : (((a : Nat) : Int) != ((a : Nat) : Int)) = false := by simp
    have d2 : (((b : Nat) : Int) != ((b : Nat) : Int)) = false := by simp
    rw [HF.out] at H2
    have C1 := Lib.hid (rows_any H2.out.1 H2.out.2.1 (short_self F m R))
    rw [rowsD_self] at C1
    go_wp2_with fail
    refine C1.out.mono ?_
    rintro e W3 ⟨A3, n3, c3, rfl, ho, b3⟩
    have hn3 := own_count encD_len (by decide) ho
    obtain rfl : n3 = 0 := by simpa using hn3.symm
    have H3 := Lib.hid (And.intro (H2.out.1.later b3) (And.intro (H2.out.2.1.later b3) (belowStep H2.out.2.2 b3)))
    clear ho b3 hn3 C1 H2
    have S1 := Lib.hid (same_any H3.out.1 H3.out.2.1)
    rw [agreeG_self] at S1
    go_wp2_with fail
    refine S1.out.mono ?_
    rintro e W4 ⟨rfl, q, rfl⟩
    have H4 := Lib.hid (below_drewN H3.out.2.2 q)
    clear S1 H3
    go_wp2_with fail
    refine (awake_yes _).mono ?_
    rintro e W5 ⟨rfl, b5⟩
    have H5 := Lib.hid (belowStep H4.out b5)
    clear b5
    go_wp2_with fail
    go_ret
    exact ⟨rfl, H5.out⟩
  · have C1 := Lib.hid (rows_other H2.out.1 H2.out.2.1 (by rw [HS.out.1, HS.out.2]; exact hs))
    by_cases hsa : a = a'
    · have hsb : ¬ b = b' := fun e => hs ⟨hsa, e⟩
      have d1 : (((a : Nat) : Int) != ((a' : Nat) : Int)) = false := by simp [hsa]
      have d2 : (((b : Nat) : Int) != ((b' : Nat) : Int)) = true := by simp; omega
      clear hs hsa hsb
      go_wp2_with fail
      refine C1.out.mono ?_
      rintro e W3 ⟨rfl, b3⟩
      have H3 := Lib.hid (belowStep H2.out.2.2 b3)
      clear b3 C1 H2
      go_wp2_with fail
      refine (awake_yes _).mono ?_
      rintro e W5 ⟨rfl, b5⟩
      have H5 := Lib.hid (belowStep H3.out b5)
      clear b5
      go_wp2_with fail
      go_ret
      exact ⟨rfl, H5.out⟩
    · have d1 : (((a : Nat) : Int) != ((a' : Nat) : Int)) = true := by simp; omega
      clear hs hsa
      go_wp2_with fail
      refine C1.out.mono ?_
      rintro e W3 ⟨rfl, b3⟩
      have H3 := Lib.hid (belowStep H2.out.2.2 b3)
      clear b3 C1 H2
      go_wp2_with fail
      refine (awake_yes _).mono ?_
      rintro e W5 ⟨rfl, b5⟩
      have H5 := Lib.hid (belowStep H3.out b5)
      clear b5
      go_wp2_with fail
      go_ret
      exact ⟨rfl, H5.out⟩
end Go.Proofs.Ytednedklkbjihaa
