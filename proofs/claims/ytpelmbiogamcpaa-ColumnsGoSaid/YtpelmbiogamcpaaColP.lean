/- columns: ColumnsFew's walk. -/
import Derived.Test.YtpelmbiogamcpaaColO
namespace Go.Proofs.Ytpelmbiogamcpaa
open Go.RowKit
set_option linter.unusedVariables false
set_option linter.unusedSimpArgs false

/-- What Fit tells, of no words too. -/
def TellsFew (g : Nat → Nat) (m : Nat) (cols : Int) (w : World) (e : Ending) (w' : World) : Prop :=
  ∃ (R K c : Nat) (A : Option Addr) (W : Nat → Nat), e = .returned (.agg #[.int .i64 (R : Nat), .slice A K c]) ∧ K ≤ 60 ∧ R ≤ m ∧ Rd w' A K (nv W) ∧ (∀ j, j < K → W j ≤ 1023) ∧ (∀ s, 1 ≤ s → s < R → cols < (totP g m s : Int)) ∧ (cols < (totN W K : Int) → K ≤ 1) ∧ Below w.heap.size w w'

theorem fit_few (A : Option Addr) (m c : Nat) (cols : Int) (g : Nat → Nat) (w : World) (hA : Rd w A m (nv g)) (hg : ∀ j, j < m → g j ≤ 1023) (hm : m ≤ 60) :
    Calls Try.prog 10 #[.slice A m c, .int .i64 cols] w (TellsFew g m cols w) := by
  by_cases h0 : 0 < m
  · refine (fit_some A m c cols g w hA hg h0 hm).mono ?_
    rintro e w1 ⟨R, A2, c2, rfl, hF, hR, hb⟩
    refine ⟨R, colsN m R, c2, A2, colW g m R, rfl, Nat.le_trans (cols_le hF.pos) hm, hF.le, hR, colW_all hg hF.pos, hF.few, fun h => ?_, hb⟩
    rcases Nat.lt_or_ge R m with h1 | h1
    · have := hF.fits h1
      unfold totP at this
      omega
    · have e : R = m := Nat.le_antisymm hF.le h1
      subst e
      rw [cols_one h0]
      exact Nat.le_refl _
  · obtain rfl : m = 0 := by omega
    refine (fit_none A c cols w).mono ?_
    rintro e w1 ⟨rfl, hb⟩
    exact ⟨0, 0, 0, none, fun _ => 0, rfl, by omega, by omega, Rd.empty _ _ _, fun j hj => by omega, fun s h1 h2 => by omega, fun _ => by omega, hb⟩

set_option maxHeartbeats 4000000 in
set_option maxRecDepth 100000 in
theorem walk_ColumnsFew (w : World) (A : Option Addr) (n c : Nat) (f : Nat → Int) (hA : Rd w A n (fun j => .int .i64 (f j))) (hle : n ≤ c) (hmax : c ≤ maxLen) (wf : ∀ j, j < n → (Lit.int .i64 (f j)).wf = true) (cols : Int) (wc : (Lit.int .i64 cols).wf = true) :
    Calls Try.prog 4 #[.slice A n c, .int .i64 cols] w (Yes w) := by
  have C1 := Lib.hid (small_any A n c f w hA)
  obtain ⟨m, hm⟩ : ∃ m, min n 60 = m := ⟨_, rfl⟩
  have hm60 : m ≤ 60 := by omega
  rw [hm] at C1
  clear hA wf hm hle hmax
  obtain ⟨g, hg⟩ : ∃ g : Nat → Nat, (fun j => low (f j)) = g := ⟨_, rfl⟩
  have HG := Lib.hid (show ∀ j, j < m → g j ≤ 1023 from fun j _ => by rw [← hg]; exact low_le _)
  rw [hg] at C1
  clear hg
  go_enter Try.func4, Try.ntmps4
  go_wp2_with fail
  (with_reducible refine C1.out.mono ?_)
  rintro e w1 ⟨A1, c1, rfl, hR1, hb1⟩
  have H1 := Lib.hid (And.intro hR1 hb1)
  clear hR1 hb1
  have C2 := Lib.hid (fit_few A1 m c1 cols g w1 H1.out.1 HG.out hm60)
  go_wp2_with fail
  (with_reducible refine C2.out.mono ?_)
  rintro e w2 ⟨R, K, c2, A2, Wd, rfl, hK, hRm, hR2, hW, hfew, hone, hb2⟩
  have HW := Lib.hid hW
  have HF := Lib.hid (And.intro hfew hone)
  have b2 : Below w2.heap.size w2 (w2.alloc (.cells #[.int .i64 R, .slice A2 K c2] 24)) := (Below.refl _ _).alloc (Nat.le_refl _) _
  have C3 := Lib.hid (plan_total R A2 K c2 Wd (w2.alloc (.cells #[.int .i64 R, .slice A2 K c2] 24)) (hR2.later b2) hW hK)
  have H2 := Lib.hid hb2
  clear hR2 hW hfew hone hb2 b2
  go_wp2_with fail
  (with_reducible refine C3.out.mono ?_)
  rintro e w3 ⟨rfl, hb3⟩
  have B3 := Lib.hid (one_more hb3)
  clear hb3
  obtain ⟨z0, m0, n0⟩ := (show Blk _ _ _ from B3.out.1)
  obtain ⟨t, ht⟩ : ∃ t, totN Wd K = t := ⟨_, rfl⟩
  have HO := Lib.hid (show cols < (t : Int) → K ≤ 1 from ht ▸ HF.out.2)
  rw [ht]
  clear ht
  by_cases hc : cols < (t : Int)
  · have hK1 := HO.out hc
    have d1 : decide (cols < (t : Int)) = true := decide_eq_true hc
    have d2 : decide ((1 : Int) < (K : Int)) = false := decide_eq_false (by omega)
    go_wp2
    clear z0 m0 n0
    go_loopw [6] (fun i wr => ∃ r : Nat, 1 ≤ r ∧ r ≤ R + 1 ∧ i = .int .i64 r ∧ Hid (Below w3.heap.size w3 wr)) (fun i _ => R + 1 - (intOf i).toNat)
    case atStart => exact ⟨1, Nat.le_refl _, by omega, rfl, Below.refl _ _⟩
    case round =>
      obtain ⟨r, hr, hrn, rfl, HV⟩ := hrel
      obtain ⟨z0, m0, n0⟩ := (show Blk _ _ _ from B3.out.1.later HV.out B3.out.1.1)
      have HR1 := Lib.hid (((H1.out.1.later H2.out).later B3.out.2).later HV.out)
      by_cases hlt : r < R
      · have C4 := Lib.hid (ref_plan A1 m c1 r g wr HR1.out HG.out hm60 (by omega) (by omega))
        go_wp2_with fail
        (with_reducible refine C4.out.mono ?_)
        rintro e w4 ⟨A4, c4, rfl, hR4, hb4⟩
        have H4 := Lib.hid (And.intro hR4 hb4)
        have C5 := Lib.hid (ref_total A4 (colsN m r) c4 (colW g m r) w4 hR4 (colW_all HG.out (by omega)) (Nat.le_trans (cols_le (by omega)) hm60))
        clear hR4 hb4
        go_wp2_with fail
        (with_reducible refine C5.out.mono ?_)
        rintro e w5 ⟨rfl, rfl⟩
        obtain ⟨v, hv⟩ : ∃ v, totN (colW g m r) (colsN m r) = v := ⟨_, rfl⟩
        have hfv : cols < (v : Int) := by rw [← hv]; exact HF.out.1 r hr hlt
        rw [hv]
        clear hv
        have d3 : decide ((v : Int) ≤ cols) = false := decide_eq_false (by omega)
        go_wp2
        go_roundw
        case rel => exact ⟨r + 1, by omega, by omega, by go_num, HV.out.trans (H4.out.2.mono HV.out.size)⟩
        case measure => simp [intOf]; omega
      · have C6 := Lib.hid (awake wr)
        go_wp2_with fail
        (with_reducible refine C6.out.mono ?_)
        rintro e w6 ⟨rfl, hb6⟩
        have b3 := H2.out.trans (B3.out.2.mono H2.out.size)
        have b4 := b3.trans (HV.out.mono b3.size)
        have b6 := b4.trans (hb6.mono b4.size)
        have HB := Lib.hid (show Below w.heap.size w w6 from H1.out.2.trans (b6.mono H1.out.2.size))
        clear hb6 b3 b4 b6
        go_wp2
        go_ret
        exact ⟨rfl, HB.out⟩
  · have d1 : decide (cols < (t : Int)) = false := decide_eq_false hc
    go_wp2
    clear z0 m0 n0
    go_loopw [6] (fun i wr => ∃ r : Nat, 1 ≤ r ∧ r ≤ R + 1 ∧ i = .int .i64 r ∧ Hid (Below w3.heap.size w3 wr)) (fun i _ => R + 1 - (intOf i).toNat)
    case atStart => exact ⟨1, Nat.le_refl _, by omega, rfl, Below.refl _ _⟩
    case round =>
      obtain ⟨r, hr, hrn, rfl, HV⟩ := hrel
      obtain ⟨z0, m0, n0⟩ := (show Blk _ _ _ from B3.out.1.later HV.out B3.out.1.1)
      have HR1 := Lib.hid (((H1.out.1.later H2.out).later B3.out.2).later HV.out)
      by_cases hlt : r < R
      · have C4 := Lib.hid (ref_plan A1 m c1 r g wr HR1.out HG.out hm60 (by omega) (by omega))
        go_wp2_with fail
        (with_reducible refine C4.out.mono ?_)
        rintro e w4 ⟨A4, c4, rfl, hR4, hb4⟩
        have H4 := Lib.hid (And.intro hR4 hb4)
        have C5 := Lib.hid (ref_total A4 (colsN m r) c4 (colW g m r) w4 hR4 (colW_all HG.out (by omega)) (Nat.le_trans (cols_le (by omega)) hm60))
        clear hR4 hb4
        go_wp2_with fail
        (with_reducible refine C5.out.mono ?_)
        rintro e w5 ⟨rfl, rfl⟩
        obtain ⟨v, hv⟩ : ∃ v, totN (colW g m r) (colsN m r) = v := ⟨_, rfl⟩
        have hfv : cols < (v : Int) := by rw [← hv]; exact HF.out.1 r hr hlt
        rw [hv]
        clear hv
        have d3 : decide ((v : Int) ≤ cols) = false := decide_eq_false (by omega)
        go_wp2
        go_roundw
        case rel => exact ⟨r + 1, by omega, by omega, by go_num, HV.out.trans (H4.out.2.mono HV.out.size)⟩
        case measure => simp [intOf]; omega
      · have C6 := Lib.hid (awake wr)
        go_wp2_with fail
        (with_reducible refine C6.out.mono ?_)
        rintro e w6 ⟨rfl, hb6⟩
        have b3 := H2.out.trans (B3.out.2.mono H2.out.size)
        have b4 := b3.trans (HV.out.mono b3.size)
        have b6 := b4.trans (hb6.mono b4.size)
        have HB := Lib.hid (show Below w.heap.size w w6 from H1.out.2.trans (b6.mono H1.out.2.size))
        clear hb6 b3 b4 b6
        go_wp2
        go_ret
        exact ⟨rfl, HB.out⟩
end Go.Proofs.Ytpelmbiogamcpaa
