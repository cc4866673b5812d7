/- ansi: Way, its walk. -/
import Derived.Test.YtednedklkbjihaaDoorAnH
namespace Go.Proofs.YtednedklkbjihaaDoor
open Go.RowKit
set_option linter.unusedVariables false
set_option linter.unusedSimpArgs false

theorem tryS_le {s : Int} {M : List Ob} (h : s ≤ 1000000) (hl : M.length ≤ 10) (hF : ∀ x ∈ M, Fit 0 x) : tryS s M ≤ 1000000 := by
  have := allB_len hF
  have : M.length * (0 + 50) ≤ 10 * 50 := Nat.mul_le_mul_right _ hl
  unfold tryS
  split <;> omega
theorem moveL_fit (c d : Int) (c0 : 0 ≤ c) (c1 : c ≤ 100000) (d0 : 0 ≤ d) (d1 : d ≤ 100000) : ∀ x ∈ moveL c d, Fit 0 x := by
  intro x hx
  obtain rfl : x = _ := by simpa [moveL] using hx
  exact ⟨by simp; omega, by simp; omega, by simp; omega, by simp; omega, Nat.le_refl _⟩
theorem backL_fit : ∀ x ∈ backL, Fit 0 x := by
  intro x hx
  obtain rfl : x = _ := by simpa [backL] using hx
  exact ⟨by simp, by simp, by simp, by simp, Nat.le_refl _⟩
theorem app_fit {M N : List Ob} (h : ∀ x ∈ M, Fit 0 x) (k : ∀ x ∈ N, Fit 0 x) : ∀ x ∈ M ++ N, Fit 0 x := by
  intro x hx
  rcases List.mem_append.1 hx with hx | hx
  · exact h x hx
  · exact k x hx

set_option maxRecDepth 100000 in
set_option maxHeartbeats 4000000 in
theorem way_any (a b c d : Int) (w : World) (hW : TabW w.heap.size w) (a0 : 0 ≤ a) (a1 : a ≤ 100000) (b0 : 0 ≤ b) (b1 : b ≤ 100000) (c0 : 0 ≤ c) (c1 : c ≤ 100000) (d0 : 0 ≤ d) (d1 : d ≤ 100000) :
    Calls Tryd.prog 21 #[.agg #[.int .i64 a, .int .i64 b], .agg #[.int .i64 c, .int .i64 d]] w (TellsL 4 encO (wayL a b c d) w) := by
  have HW := Lib.hid hW
  have V0 := Lib.hid (wv_start w a b c d)
  have hmf : ∀ (fn : Fn) (first cap : Array Value) (w : World), (Instr.makeFunc fn first cap).run Tryd.prog w = .ok (.func fn first cap) w := fun _ _ _ _ => rfl
  have r0 : -1000000 ≤ c - a := by omega
  have r1 : c - a ≤ 1000000 := by omega
  have q0 : -1000000 ≤ d - b := by omega
  have q1 : d - b ≤ 1000000 := by omega
  have HF1 := Lib.hid (byL_fit (c - a) 11 10 r0 r1)
  have HF2 := Lib.hid (byL_fit (d - b) 8 9 q0 q1)
  have C1 := Lib.hid (fun X => way_by (c - a) 11 10 X r0 r1)
  have C2 := Lib.hid (fun X => way_by (d - b) 8 9 X q0 q1)
  have HM := Lib.hid (moveL_fit c d c0 c1 d0 d1)
  clear hW
  go_enter Tryd.func21, Tryd.ntmps21
  go_wp2_with fail
  refine at_callsA (fun X => Wv w a b c d (-1) (.slice none 0 0) [] (.slice none 0 0) [] X ∧ X.heap.size = w.heap.size + 4) ⟨V0.out, by simp⟩ ?_
  rintro X0 ⟨hX0, hz0⟩
  have V1 := Lib.hid hX0
  clear V0 hX0
  refine (C1.out X0).mono ?_
  rintro e X1 ⟨R, rn, rc, rfl, hr1, hb1⟩
  have V2 := Lib.hid ((V1.out.later hb1).rows (hr1.mono fun q hq => by omega))
  clear V1 hr1 hb1 hz0
  obtain ⟨y1, k1, j1⟩ := (show _ from V2.out.t)
  obtain ⟨y2, k2, j2⟩ := (show _ from V2.out.f)
  go_wp2_with fail
  refine at_callsA (fun X => Wv w a b c d (-1) (.slice none 0 0) [] (.slice R rn rc) (byL (c - a) 11 10) X ∧ LiV 4 encO X (fun q => w.heap.size ≤ q ∧ q ≠ w.heap.size + 1 + 1 + 1 ∧ q ≠ w.heap.size + 1 + 1) (.slice (some ⟨X1.heap.size, 0, none⟩) 1 1) (moveL c d)) ⟨V2.out.later (belAlloc _ _), V2.out.off (Nat.le_refl _) (op_newT X1 2 c d ⟨#[]⟩ 51 _ rfl)⟩ ?_
  rintro X2 ⟨hX2, hM2⟩
  clear V2 k1 j1 y1 k2 j2 y2
  refine (way_try w X2 _ _ (-1) _ _ _ [] (moveL c d) _ _ _ hX2.tri hM2 (show 1 ≤ 10 by omega) HM.out HW.out (by omega)).mono ?_
  rintro e X3 ⟨⟨ev, rfl⟩, ⟨A3, n3, c3, ht3⟩, hk3⟩
  have V3 := Lib.hid (hX2.tried ht3 hk3)
  clear hX2 hM2 ht3 hk3
  have S3 := Lib.hid (tryS_le (s := -1) (by omega) (M := moveL c d) (show 1 ≤ 10 by omega) HM.out)
  have eS : tryS (-1) (moveL c d) = way1 c d := rfl
  have eL : tryL (-1) [] (moveL c d) = way1L c d := rfl
  rw [eS, eL] at V3
  rw [eS] at S3
  clear eS eL
  obtain ⟨s1, hs1⟩ : ∃ s, way1 c d = s := ⟨_, rfl⟩
  obtain ⟨L1, hL1⟩ : ∃ s, way1L c d = s := ⟨_, rfl⟩
  rw [hs1, hL1] at V3
  rw [hs1] at S3
  have Hs1 := Lib.hid (And.intro hs1 hL1)
  clear hs1 hL1
  obtain ⟨y1, k1, j1⟩ := (show _ from V3.out.t)
  obtain ⟨y2, k2, j2⟩ := (show _ from V3.out.f)
  go_wp2_with fail
  refine (C2.out X3).mono ?_
  rintro e X4 ⟨G, gn, gc, rfl, hg4, hb4⟩
  have V4 := Lib.hid (And.intro (V3.out.later hb4) (V3.out.off (Nat.le_refl _) hg4))
  clear V3 k1 j1 y1 k2 j2 y2 hg4 hb4
  go_wp2_with fail
  refine (catO X4 _ _ _ _ _ _ _ _ _ _ _ rfl V4.out.1.r V4.out.2 (by have := HF1.out.1; have := HF2.out.1; omega)).mono ?_
  rintro e X5 ⟨D, dn, dc, rfl, hd5, hb5⟩
  have V5 := Lib.hid (And.intro (V4.out.1.later hb5) (V4.out.1.off (Nat.le_refl _) hd5))
  clear V4 hd5 hb5
  go_wp2_with fail
  have hFg := Lib.hid (app_fit HF1.out.2 HF2.out.2)
  have hlg : (byL (c - a) 11 10 ++ byL (d - b) 8 9).length ≤ 10 := by have := HF1.out.1; have := HF2.out.1; rw [List.length_append]; omega
  refine (way_try w X5 _ _ s1 _ _ _ L1 _ _ _ _ V5.out.1.tri V5.out.2 hlg hFg.out HW.out S3.out).mono ?_
  rintro e X6 ⟨⟨ev, rfl⟩, ⟨A6, n6, c6, ht6⟩, hk6⟩
  have V6 := Lib.hid (V5.out.1.tried ht6 hk6)
  have S6 := Lib.hid (tryS_le (s := s1) S3.out hlg hFg.out)
  clear V5 ht6 hk6 hFg hlg S3
  have eS : tryS s1 (byL (c - a) 11 10 ++ byL (d - b) 8 9) = way2 a b c d := by rw [← Hs1.out.1]; rfl
  have eL : tryL s1 L1 (byL (c - a) 11 10 ++ byL (d - b) 8 9) = way2L a b c d := by rw [← Hs1.out.1, ← Hs1.out.2]; rfl
  rw [eS, eL] at V6
  rw [eS] at S6
  clear eS eL Hs1
  obtain ⟨s2, hs2⟩ : ∃ s, way2 a b c d = s := ⟨_, rfl⟩
  obtain ⟨L2, hL2⟩ : ∃ s, way2L a b c d = s := ⟨_, rfl⟩
  rw [hs2, hL2] at V6
  rw [hs2] at S6
  have Hs2 := Lib.hid (And.intro hs2 hL2)
  clear hs2 hL2
  obtain ⟨y1, k1, j1⟩ := (show _ from V6.out.t)
  obtain ⟨y2, k2, j2⟩ := (show _ from V6.out.f)
  by_cases hd : d = 0
  · have hw : wayL a b c d = way3L a b c d := if_pos hd
    have HW3 := Lib.hid hw
    have hdb : (d == 0) = true := by simpa using hd
    clear hw hd
    go_wp2_with fail
    have V7 := Lib.hid (And.intro (V6.out.later (belAlloc X6 (.cells #[.int .i64 6, .int .i64 0, .int .i64 0, .string ⟨#[]⟩] 51))) (V6.out.off (Nat.le_refl _) (op_newT X6 6 0 0 ⟨#[]⟩ 51 _ rfl)))
    clear V6 k1 j1 y1 k2 j2 y2
    refine (catO (X6.alloc (.cells #[.int .i64 6, .int .i64 0, .int .i64 0, .string ⟨#[]⟩] 51)) _ _ _ _ _ _ _ _ _ _ _ (by simp) V7.out.1.r V7.out.2 (by have := HF1.out.1; simp only [List.length_cons, List.length_nil]; omega)).mono ?_
    rintro e X8 ⟨D8, dn8, dc8, rfl, hd8, hb8⟩
    have V8 := Lib.hid (And.intro (V7.out.1.later hb8) (V7.out.1.off (Nat.le_refl _) hd8))
    clear V7 hd8 hb8
    go_wp2_with fail
    have hlg : (byL (c - a) 11 10 ++ backL).length ≤ 10 := by have := HF1.out.1; rw [List.length_append]; show _ + 1 ≤ 10; omega
    refine (way_try w X8 _ _ s2 _ _ _ L2 (byL (c - a) 11 10 ++ backL) _ _ _ V8.out.1.tri V8.out.2 hlg (app_fit HF1.out.2 backL_fit) HW.out S6.out).mono ?_
    rintro e X9 ⟨⟨ev, rfl⟩, ⟨A9, n9, c9, ht9⟩, hk9⟩
    have V9 := Lib.hid (V8.out.1.tried ht9 hk9)
    clear V8 ht9 hk9 S6 hlg
    have eL : tryL s2 L2 (byL (c - a) 11 10 ++ backL) = way3L a b c d := by rw [← Hs2.out.1, ← Hs2.out.2]; rfl
    rw [eL] at V9
    clear eL
    obtain ⟨y3, k3, j3⟩ := (show _ from V9.out.tri.b)
    go_wp2_with fail
    go_ret
    exact ⟨_, _, _, rfl, by rw [HW3.out]; exact V9.out.tri.best.mono fun q hq => hq.1, V9.out.tri.below⟩
  · have hw : wayL a b c d = L2 := by rw [← Hs2.out.2]; exact if_neg hd
    have HW3 := Lib.hid hw
    have hdb : (d == 0) = false := by simpa using hd
    clear hw hd
    obtain ⟨y3, k3, j3⟩ := (show _ from V6.out.tri.b)
    go_wp2_with fail
    go_ret
    exact ⟨_, _, _, rfl, by rw [HW3.out]; exact V6.out.tri.best.mono fun q hq => hq.1, V6.out.tri.below⟩
end Go.Proofs.YtednedklkbjihaaDoor
