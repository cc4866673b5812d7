/- grid: GridPlays' walk. -/
import Derived.Test.YtcofhjipackldaaGrQ
namespace Go.Proofs.Ytcofhjipackldaa
open Go.RowKit
set_option linter.unusedVariables false
set_option linter.unusedSimpArgs false

def low3 (z : Int) : Nat := (BitVec.ofInt 64 z &&& BitVec.ofInt 64 3).toNat
theorem low3_le (z : Int) : low3 z ≤ 3 := by
  unfold low3
  rw [BitVec.toNat_and]
  exact Nat.le_trans Nat.and_le_right (by decide)
theorem low3_bits (z : Int) : bits .and .i64 z 3 = (low3 z : Int) := by
  have h := low3_le z
  show IntKind.i64.wrap ((BitVec.ofInt 64 z &&& BitVec.ofInt 64 3).toNat : Int) = _
  exact IntWalk.i64_in _ (by unfold low3 at h; omega)

def low7 (z : Int) : Nat := (BitVec.ofInt 64 z &&& BitVec.ofInt 64 7).toNat
theorem low7_le (z : Int) : low7 z ≤ 7 := by
  unfold low7
  rw [BitVec.toNat_and]
  exact Nat.le_trans Nat.and_le_right (by decide)
theorem low7_bits (z : Int) : bits .and .i64 z 7 = (low7 z : Int) := by
  have h := low7_le z
  show IntKind.i64.wrap ((BitVec.ofInt 64 z &&& BitVec.ofInt 64 7).toNat : Int) = _
  exact IntWalk.i64_in _ (by unfold low7 at h; omega)

def low15 (z : Int) : Nat := (BitVec.ofInt 64 z &&& BitVec.ofInt 64 15).toNat
theorem low15_le (z : Int) : low15 z ≤ 15 := by
  unfold low15
  rw [BitVec.toNat_and]
  exact Nat.le_trans Nat.and_le_right (by decide)
theorem low15_bits (z : Int) : bits .and .i64 z 15 = (low15 z : Int) := by
  have h := low15_le z
  show IntKind.i64.wrap ((BitVec.ofInt 64 z &&& BitVec.ofInt 64 15).toNat : Int) = _
  exact IntWalk.i64_in _ (by unfold low15 at h; omega)

theorem chg_two_below {w v : World} {lo hi lo' hi' B : Nat} (h : Chg (Two lo hi lo' hi') w v) (hB : B ≤ w.heap.size) (hl : B ≤ lo) (hl' : B ≤ lo') : Below B w v := h.below hB fun k hk hs => by unfold Two Iv at hs; omega

set_option maxHeartbeats 2000000 in
set_option maxRecDepth 100000 in
theorem plays_nil (W : World) (rows cols : Int) (hbad : ¬ (1 ≤ low7 rows ∧ 2 ≤ low15 cols)) (A : Option Addr) (n c : Nat) (D : Nat → Dd) (hD : ∀ i, i < n → DeedAt W A i (D i)) (hn : n ≤ c) (hc : c ≤ maxLen) :
    Calls Try.prog 4 #[.int .i64 rows, .int .i64 cols, .slice A n c] W (Yes W) := by
  have HD := Lib.hid hD
  unfold maxLen at hc
  have hb1 := low7_bits rows
  have hb2 := low15_bits cols
  have hl1 := low7_le rows
  have hl2 := low15_le cols
  obtain ⟨R, hR⟩ : ∃ R, low7 rows = R := ⟨_, rfl⟩
  obtain ⟨m, hm⟩ : ∃ m, low15 cols = m := ⟨_, rfl⟩
  rw [hR] at hb1 hl1 hbad
  rw [hm] at hb2 hl2 hbad
  have hno : ¬ (1 ≤ (R : Int) ∧ (R : Int) ≤ 500 ∧ 2 ≤ (m : Int) ∧ (m : Int) ≤ 1000) := by omega
  have HN := Lib.hid hno
  clear hD hR hm hbad hno
  go_enter Try.func4, Try.ntmps4
  go_wp2_with fail
  refine (new_no W HN.out).mono ?_
  rintro e w1 ⟨rfl, rfl⟩
  go_wp2_with fail
  refine (newR_no W HN.out).mono ?_
  rintro e w1 ⟨rfl, rfl⟩
  go_wp2_with fail
  go_loopw [9] (fun i wr => ∃ k : Nat, k ≤ n ∧ k ≤ 40 ∧ i = .int .i64 k ∧ Hid (Below W.heap.size W wr)) (fun i _ => n - (intOf i).toNat)
  case atStart => exact ⟨0, Nat.zero_le _, Nat.zero_le _, rfl, Below.refl _ _⟩
  case round =>
    obtain ⟨k, hk, hk40, rfl, HW⟩ := hrel
    by_cases hlt : k < n ∧ k < 40
    · obtain ⟨hkn, hk4⟩ := hlt
      have h4 : (k : Int) < 40 := by omega
      obtain ⟨b, o, rfl, hbl, c0, c1, c2, c3, c4⟩ := (HD.out k hkn).below HW.out
      obtain ⟨d, hd⟩ : ∃ d, D k = d := ⟨_, rfl⟩
      rw [hd] at c0 c1 c2 c3 c4
      clear hd
      go_wp2_with fail
      refine (doesnil_any wr d.k d.r d.c d.t d.wd).mono ?_
      rintro e w2 ⟨rfl, b2⟩
      have H2 := Lib.hid (belowStep HW.out b2)
      clear b2 c0 c1 c2 c3 c4
      go_wp2_with fail
      refine (lawsame_nil w2).mono ?_
      rintro e w3 ⟨rfl, rfl⟩
      go_wp2_with fail
      go_roundw
      case rel => exact ⟨k + 1, by omega, by omega, by go_num, H2.out⟩
      case measure => simp [intOf]; omega
    · have hx : n ≤ k ∨ (k < n ∧ 40 ≤ k) := by omega
      clear hlt
      rcases hx with hx | ⟨hx, hx2⟩
      all_goals
        go_wp2_with fail
        refine (awake_yes wr).mono ?_
        rintro e w2 ⟨rfl, b2⟩
        have H2 := Lib.hid (belowStep HW.out b2)
        clear b2
        go_wp2_with fail
        go_ret
        exact ⟨rfl, H2.out⟩

set_option maxHeartbeats 2000000 in
set_option maxRecDepth 100000 in
theorem plays_in (W : World) (rows cols : Int) (h1 : 1 ≤ low7 rows) (h2 : 2 ≤ low15 cols) (A : Option Addr) (n c : Nat) (D : Nat → Dd) (hD : ∀ i, i < n → DeedAt W A i (D i)) (hn : n ≤ c) (hc : c ≤ maxLen) :
    Calls Try.prog 4 #[.int .i64 rows, .int .i64 cols, .slice A n c] W (Yes W) := by
  have HD := Lib.hid hD
  unfold maxLen at hc
  have hb1 := low7_bits rows
  have hb2 := low15_bits cols
  have hl1 := low7_le rows
  have hl2 := low15_le cols
  obtain ⟨R, hR⟩ : ∃ R, low7 rows = R := ⟨_, rfl⟩
  obtain ⟨m, hm⟩ : ∃ m, low15 cols = m := ⟨_, rfl⟩
  rw [hR] at hb1 hl1 h1
  rw [hm] at hb2 hl2 h2
  have hR0 : ((R : Int) == 0) = false := by simp; omega
  clear hD hR hm
  go_enter Try.func4, Try.ntmps4
  go_wp2_with fail
  refine (new_in (R := R) (n := m) W h1 (by omega) h2 (by omega)).mono ?_
  rintro e w1 ⟨g, cb, C, rfl, P1, b1⟩
  have H1 := Lib.hid (And.intro P1 b1)
  clear P1 b1
  go_wp2_with fail
  refine (newR_in (R := R) (n := m) w1 h1 (by omega) h2 (by omega)).mono ?_
  rintro e w2 ⟨ob, Co, rb, Cr, rfl, P2, b2⟩
  have H2 := Lib.hid (And.intro (H1.out.1.later b2) (And.intro P2 (And.intro (belowStep H1.out.2 b2) b2.size)))
  have hCo := P2.cap
  have z1 := Lib.hid H1.out.2.size
  clear P2 b2
  go_wp2_with fail
  go_loopw [9] (fun i wr => ∃ k : Nat, k ≤ n ∧ k ≤ 40 ∧ i = .int .i64 k ∧ Hid (∃ F, PG wr W.heap.size w1.heap.size g cb C R m F ∧ RG wr w1.heap.size w2.heap.size ob Co R m rb Cr F ∧ Below W.heap.size W wr ∧ w2.heap.size ≤ wr.heap.size)) (fun i _ => n - (intOf i).toNat)
  case atStart => exact ⟨0, Nat.zero_le _, Nat.zero_le _, rfl, ⟨_, H2.out.1, H2.out.2.1, H2.out.2.2.1, Nat.le_refl _⟩⟩
  case round =>
    obtain ⟨k, hk, hk40, rfl, HW⟩ := hrel
    obtain ⟨F, hF⟩ := HW.out
    have HF := Lib.hid hF
    clear hF
    by_cases hlt : k < n ∧ k < 40
    · obtain ⟨hkn, hk4⟩ := hlt
      have h4 : (k : Int) < 40 := by omega
      obtain ⟨b, o, rfl, hbl, c0, c1, c2, c3, c4⟩ := (HD.out k hkn).below HF.out.2.2.1
      obtain ⟨d, hd⟩ : ∃ d, D k = d := ⟨_, rfl⟩
      rw [hd] at c0 c1 c2 c3 c4
      clear hd
      have HA := Lib.hid (show Apart W.heap.size w1.heap.size w1.heap.size w2.heap.size wr.heap.size from ⟨.inl (Nat.le_refl _), Nat.le_trans H2.out.2.2.2 HF.out.2.2.2, HF.out.2.2.2⟩)
      go_wp2_with fail
      refine (does_any HF.out.1 HF.out.2.1 HA.out d.k d.r d.c d.t d.wd).mono ?_
      rintro e w3 ⟨⟨bl, rfl, hbt⟩, p3, r3, ch⟩
      obtain rfl : bl = true := hbt ⟨rfl, rfl⟩
      have H3 := Lib.hid (And.intro p3 (And.intro r3 (And.intro (HF.out.2.2.1.trans (chg_two_below ch HF.out.2.2.1.size (Nat.le_refl _) z1.out)) (Nat.le_trans HF.out.2.2.2 ch.size))))
      clear p3 r3 ch hbt c0 c1 c2 c3 c4
      go_wp2_with fail
      refine (lawsame_any H3.out.1 H3.out.2.1).mono ?_
      rintro e w4 ⟨rfl, b4⟩
      have H4 := Lib.hid (And.intro (H3.out.1.later b4) (And.intro (H3.out.2.1.later b4) (And.intro (belowStep H3.out.2.2.1 b4) (Nat.le_trans H3.out.2.2.2 b4.size))))
      clear b4
      go_wp2_with fail
      go_roundw
      case rel => exact ⟨k + 1, by omega, by omega, by go_num, ⟨_, H4.out⟩⟩
      case measure => simp [intOf]; omega
    · have hx : n ≤ k ∨ (k < n ∧ 40 ≤ k) := by omega
      clear hlt
      rcases hx with hx | ⟨hx, hx2⟩
      all_goals
        go_wp2_with fail
        refine (awake_yes wr).mono ?_
        rintro e w5 ⟨rfl, b5⟩
        have H5 := Lib.hid (belowStep HF.out.2.2.1 b5)
        clear b5
        go_wp2_with fail
        go_ret
        exact ⟨rfl, H5.out⟩

theorem walk_GridPlays (W : World) (rows : Int) (w0 : (Lit.int .i64 rows).wf = true) (cols : Int) (w1 : (Lit.int .i64 cols).wf = true) (A : Option Addr) (n c : Nat) (D : Nat → Dd) (hn : n ≤ c) (hc : c ≤ maxLen) (hD : ∀ i, i < n → DeedAt W A i (D i)) :
    Calls Try.prog 4 #[.int .i64 rows, .int .i64 cols, .slice A n c] W (Yes W) := by
  by_cases h : 1 ≤ low7 rows ∧ 2 ≤ low15 cols
  · exact plays_in W rows cols h.1 h.2 A n c D hD hn hc
  · exact plays_nil W rows cols h A n c D hD hn hc
end Go.Proofs.Ytcofhjipackldaa
