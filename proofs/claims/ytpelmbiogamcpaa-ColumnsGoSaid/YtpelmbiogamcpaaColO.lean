/- columns: ColumnsFit's walk. -/
import Derived.Test.YtpelmbiogamcpaaColN
namespace Go.Proofs.Ytpelmbiogamcpaa
open Go.RowKit
set_option linter.unusedVariables false
set_option linter.unusedSimpArgs false

/-- The law's answer: yes, and nothing that was there has turned. -/
def Yes (w : World) (e : Ending) (w' : World) : Prop := e = .returned (.bool true) ∧ Below w.heap.size w w'

theorem colW_all {g : Nat → Nat} {m r : Nat} (hg : ∀ j, j < m → g j ≤ 1023) (hr : 0 < r) : ∀ j, j < colsN m r → colW g m r j ≤ 1023 := fun j hj => colW_small hg ((lt_cols hr).1 hj)

set_option maxHeartbeats 4000000 in
set_option maxRecDepth 100000 in
theorem walk_ColumnsFit (w : World) (A : Option Addr) (n c : Nat) (f : Nat → Int) (hA : Rd w A n (fun j => .int .i64 (f j))) (hle : n ≤ c) (hmax : c ≤ maxLen) (wf : ∀ j, j < n → (Lit.int .i64 (f j)).wf = true) (cols : Int) (wc : (Lit.int .i64 cols).wf = true) :
    Calls Try.prog 5 #[.slice A n c, .int .i64 cols] w (Yes w) := by
  have C1 := Lib.hid (small_any A n c f w hA)
  obtain ⟨m, hm⟩ : ∃ m, min n 60 = m := ⟨_, rfl⟩
  have hm60 : m ≤ 60 := by omega
  rw [hm] at C1
  clear hA wf hm hle hmax
  obtain ⟨g, hg⟩ : ∃ g : Nat → Nat, (fun j => low (f j)) = g := ⟨_, rfl⟩
  have HG := Lib.hid (show ∀ j, j < m → g j ≤ 1023 from fun j _ => by rw [← hg]; exact low_le _)
  rw [hg] at C1
  clear hg
  go_enter Try.func5, Try.ntmps5
  go_wp2_with fail
  (with_reducible refine C1.out.mono ?_)
  rintro e w1 ⟨A1, c1, rfl, hR1, hb1⟩
  have H1 := Lib.hid (And.intro hR1 hb1)
  clear hR1 hb1
  by_cases h0 : 0 < m
  · have d0 : ((m : Int) == 0) = false := by simp; omega
    have C2 := Lib.hid (fit_some A1 m c1 cols g w1 H1.out.1 HG.out h0 hm60)
    go_wp2_with fail
    (with_reducible refine C2.out.mono ?_)
    rintro e w2 ⟨R, A2, c2, rfl, hF, hR2, hb2⟩
    obtain ⟨K, hK⟩ : ∃ K, colsN m R = K := ⟨_, rfl⟩
    have H2 := Lib.hid (And.intro hF (And.intro hR2 (And.intro hb2 hK)))
    have hKm : K ≤ 60 := by rw [← hK]; exact Nat.le_trans (cols_le hF.pos) hm60
    have hRm : R ≤ 60 := Nat.le_trans hF.le hm60
    rw [hK]
    clear hF hR2 hb2 hK
    have b2 : Below w2.heap.size w2 (w2.alloc (.cells #[.int .i64 R, .slice A2 K c2] 24)) := (Below.refl _ _).alloc (Nat.le_refl _) _
    have r2 : Rd (w2.alloc (.cells #[.int .i64 R, .slice A2 K c2] 24)) A1 m (nv g) := (H1.out.1.later H2.out.2.2.1).later b2
    have C3 := Lib.hid (ref_fit A1 m c1 cols g (w2.alloc (.cells #[.int .i64 R, .slice A2 K c2] 24)) r2 HG.out h0 hm60)
    have HB2 := Lib.hid (And.intro b2 r2)
    clear b2 r2
    go_wp2_with fail
    (with_reducible refine C3.out.mono ?_)
    rintro e w3 ⟨R3, rfl, hF3, hb3⟩
    obtain rfl : R3 = R := hF3.one H2.out.1
    have B3 := Lib.hid (one_more hb3)
    have C4 := Lib.hid (ref_plan A1 m c1 R3 g w3 (HB2.out.2.later hb3) HG.out hm60 hF3.pos hRm)
    clear hb3 hF3
    go_wp2_with fail
    (with_reducible refine C4.out.mono ?_)
    rintro e w4 ⟨A4, c4, rfl, hR4, hb4⟩
    rw [H2.out.2.2.2] at hR4 ⊢
    obtain ⟨Wd, hWd⟩ : ∃ Wd, colW g m R3 = Wd := ⟨_, rfl⟩
    rw [hWd] at hR4
    have HW := Lib.hid (show ∀ j, j < K → Wd j ≤ 1023 by rw [← hWd, ← H2.out.2.2.2]; exact colW_all HG.out H2.out.1.pos)
    have b34 := B3.out.2.trans (hb4.mono B3.out.2.size)
    have r4 : Rd w4 A2 K (nv Wd) := by
      have h := H2.out.2.1
      rw [H2.out.2.2.2, hWd] at h
      exact h.later b34
    have HB4 := Lib.hid (And.intro (B3.out.1.later hb4 B3.out.1.1) (And.intro r4 (And.intro hR4 (H1.out.2.trans ((H2.out.2.2.1.trans (b34.mono H2.out.2.2.1.size)).mono H1.out.2.size)))))
    have C5 := Lib.hid (sameN A2 A4 K c2 c4 Wd w4 hKm r4 hR4)
    obtain ⟨z0, m0, n0⟩ := (show Blk _ _ _ from HB4.out.1)
    clear hR4 hb4 b34 r4 hWd
    have d1 : ((R3 : Int) == (R3 : Int)) = true := by simp
    go_wp2_with fail
    (with_reducible refine C5.out.mono ?_)
    rintro e w5 ⟨rfl, q, rfl⟩
    have C6 := Lib.hid (plan_total R3 A2 K c2 Wd (w4.drewN q) (HB4.out.2.1.drewN q) HW.out hKm)
    go_wp2_with fail
    (with_reducible refine C6.out.mono ?_)
    rintro e w6 ⟨rfl, hb6⟩
    have C7 := Lib.hid (ref_total A4 K c4 Wd w6 ((HB4.out.2.2.1.drewN q).later hb6) HW.out hKm)
    have HB6 := Lib.hid (show Below w4.heap.size w4 w6 from (below_drewN (Below.refl _ _) q).trans hb6)
    clear hb6
    go_wp2_with fail
    (with_reducible refine C7.out.mono ?_)
    rintro e w7 ⟨rfl, rfl⟩
    obtain ⟨t, ht⟩ : ∃ t, totN Wd K = t := ⟨_, rfl⟩
    rw [ht]
    clear ht
    have d2 : ((t : Int) == (t : Int)) = true := by simp
    have C8 := Lib.hid (awake w6)
    go_wp2_with fail
    (with_reducible refine C8.out.mono ?_)
    rintro e w8 ⟨rfl, hb8⟩
    have HB8 := Lib.hid (show Below w.heap.size w w8 from HB4.out.2.2.2.trans ((HB6.out.trans (hb8.mono HB6.out.size)).mono HB4.out.2.2.2.size))
    clear hb8
    go_wp2
    go_ret
    exact ⟨rfl, HB8.out⟩
  · obtain rfl : m = 0 := by omega
    have C2 := Lib.hid (fit_none A1 c1 cols w1)
    go_wp2_with fail
    (with_reducible refine C2.out.mono ?_)
    rintro e w2 ⟨rfl, hb2⟩
    have H2 := Lib.hid hb2
    clear hb2
    have C6 := Lib.hid (plan_total 0 none 0 0 (fun _ => 0) (w2.alloc (.cells #[.int .i64 0, .slice none 0 0] 24)) (Rd.empty _ _ _) (fun j hj => by omega) (by omega))
    go_wp2_with fail
    (with_reducible refine C6.out.mono ?_)
    rintro e w6 ⟨rfl, hb6⟩
    have HB6 := Lib.hid (one_more hb6).2
    have ht : totN (fun _ => 0) 0 = 0 := rfl
    rw [ht]
    have C8 := Lib.hid (awake w6)
    clear hb6
    go_wp2_with fail
    (with_reducible refine C8.out.mono ?_)
    rintro e w8 ⟨rfl, hb8⟩
    have HB8 := Lib.hid (show Below w.heap.size w w8 from H1.out.2.trans ((H2.out.trans ((HB6.out.trans (hb8.mono HB6.out.size)).mono H2.out.size)).mono H1.out.2.size))
    clear hb8
    go_wp2
    go_ret
    exact ⟨rfl, HB8.out⟩
end Go.Proofs.Ytpelmbiogamcpaa
