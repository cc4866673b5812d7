/- keys: asLetter. -/
import Derived.Test.YtkkenabckhmkoaaKyH
namespace Go.Proofs.Ytkkenabckhmkoaa
open Go.RowKit
set_option linter.unusedVariables false
set_option linter.unusedSimpArgs false
set_option maxRecDepth 100000


set_option maxHeartbeats 4000000 in
theorem let_odd1 (b : Int) (b0 : 0 ≤ b) (b1 : b ≤ 255) (hc : ctlB b = true) (w : World) : Calls Try.prog 20 #[psV ⟨3, ⟨0, 0, 0, 0⟩, false, ⟨#[]⟩, [], 0⟩ none, .int .u8 b] w (Tells (oddK b) w) := by
  have CC := Lib.hid (fun X => control_any b X)
  rw [hc] at CC
  clear hc
  have CD := Lib.hid (fun X => odd_any b b0 b1 X)
  obtain ⟨R, hR⟩ : ∃ R, oddK b = R := ⟨_, rfl⟩
  rw [hR] at CD ⊢
  clear hR
  obtain ⟨⟨rw_, ⟨x, y, z, n⟩, rm, rrow, rtx, rcl⟩, ks⟩ := R
  have V0 := Lib.hid (fm_start w ⟨3, ⟨0, 0, 0, 0⟩, false, ⟨#[]⟩, [], 0⟩ none)
  go_enter Try.func20, Try.ntmps20
  go_upto_region 1 with fail
  refine at_world (Fm w ⟨3, ⟨0, 0, 0, 0⟩, false, ⟨#[]⟩, [], 0⟩ none) V0.out ?_
  intro X hX
  have V1 := Lib.hid hX
  clear hX V0
  obtain ⟨y1, k1, j1⟩ := (show _ from V1.out.b)
  go_wp2_with (first
    | (go_at_call 37; refine (CC.out _).mono ?_; rintro e _ ⟨rfl, rfl⟩)
    | (go_at_call 39; refine (CD.out _).mono ?_; rintro e w6 ⟨T6, A6, n6, c6, rfl, ch, hk, hn, b6⟩; have V6 := Lib.hid (And.intro (V1.out.later b6) (And.intro ch (And.intro hk hn))); clear ch hk hn b6; obtain ⟨y6, r6, j6⟩ := (show _ from V6.out.1.r); have q0 : w6.cell? ⟨w.heap.size + 1, 0, none⟩ = some (.int .i64 0) := r6 0; have q1 : w6.cell? ⟨w.heap.size + 1, 1, none⟩ = some (.int .u8 0) := r6 1; have q2 : w6.cell? ⟨w.heap.size + 1, 2, none⟩ = some (.int .u8 0) := r6 2; have q3 : w6.cell? ⟨w.heap.size + 1, 3, none⟩ = some (.int .u8 0) := r6 3; have q4 : w6.cell? ⟨w.heap.size + 1, 4, none⟩ = some (.int .i64 0) := r6 4; have q5 : w6.cell? ⟨w.heap.size + 1, 5, none⟩ = some (.bool false) := r6 5; have q6 : w6.cell? ⟨w.heap.size + 1, 6, none⟩ = some (.string ⟨#[]⟩) := r6 6; have q7 : w6.cell? ⟨w.heap.size + 1, 7, none⟩ = some (.pointer none) := r6 7; have q8 : w6.cell? ⟨w.heap.size + 1, 8, none⟩ = some (.int .i64 0) := r6 8; have f0 := j6 0; have f1 := j6 1; have f2 := j6 2; have f3 := j6 3; have f4 := j6 4; have f5 := j6 5; have f6 := j6 6; have f7 := j6 7; have f8 := j6 8; clear r6 j6))
  refine at_world (FinP w ⟨rw_, ⟨x, y, z, n⟩, rm, rrow, rtx, rcl⟩ T6 (.slice A6 n6 c6) n6 ks) (fin_put (s := ⟨rw_, ⟨x, y, z, n⟩, rm, rrow, rtx, rcl⟩) V6.out.1 V6.out.2.2.1 V6.out.2.2.2 V6.out.2.1) ?_
  rintro Z ⟨⟨y9, k9, j9⟩, hk, hn, hb, hc⟩
  have HZ := Lib.hid (And.intro hc (And.intro hk (And.intro hn hb)))
  have e0 := k9 0
  have e1 := k9 1
  have e2 := k9 2
  have e3 := k9 3
  have e4 := k9 4
  have e5 := k9 5
  have e6 := k9 6
  have e7 := k9 7
  have e8 := k9 8
  clear hc hk hn hb k9 j9 y9 q0 q1 q2 q3 q4 q5 q6 q7 q8 f0 f1 f2 f3 f4 f5 f6 f7 f8 y6 
  refine bodyPost_ret (v := .tuple #[psV ⟨rw_, ⟨x, y, z, n⟩, rm, rrow, rtx, rcl⟩ T6, .slice A6 n6 c6]) (by simp at e0 e1 e2 e3 e4 e5 e6 e7 e8; simp [results, Try.results20, go_sem, e0, e1, e2, e3, e4, e5, e6, e7, e8]) rfl ⟨T6, A6, n6, c6, rfl, HZ.out.1, HZ.out.2.1, HZ.out.2.2.1, HZ.out.2.2.2⟩

set_option maxHeartbeats 4000000 in
theorem let_odd2 (b : Int) (b0 : 0 ≤ b) (b1 : b ≤ 255) (hc : ctlB b = false) (hg : 127 < b) (w : World) : Calls Try.prog 20 #[psV ⟨3, ⟨0, 0, 0, 0⟩, false, ⟨#[]⟩, [], 0⟩ none, .int .u8 b] w (Tells (oddK b) w) := by
  have CC := Lib.hid (fun X => control_any b X)
  rw [hc] at CC
  clear hc
  have CD := Lib.hid (fun X => odd_any b b0 b1 X)
  obtain ⟨R, hR⟩ : ∃ R, oddK b = R := ⟨_, rfl⟩
  rw [hR] at CD ⊢
  clear hR
  obtain ⟨⟨rw_, ⟨x, y, z, n⟩, rm, rrow, rtx, rcl⟩, ks⟩ := R
  have V0 := Lib.hid (fm_start w ⟨3, ⟨0, 0, 0, 0⟩, false, ⟨#[]⟩, [], 0⟩ none)
  go_enter Try.func20, Try.ntmps20
  go_upto_region 1 with fail
  refine at_world (Fm w ⟨3, ⟨0, 0, 0, 0⟩, false, ⟨#[]⟩, [], 0⟩ none) V0.out ?_
  intro X hX
  have V1 := Lib.hid hX
  clear hX V0
  obtain ⟨y1, k1, j1⟩ := (show _ from V1.out.b)
  go_wp2_with (first
    | (go_at_call 37; refine (CC.out _).mono ?_; rintro e _ ⟨rfl, rfl⟩)
    | (go_at_call 39; refine (CD.out _).mono ?_; rintro e w6 ⟨T6, A6, n6, c6, rfl, ch, hk, hn, b6⟩; have V6 := Lib.hid (And.intro (V1.out.later b6) (And.intro ch (And.intro hk hn))); clear ch hk hn b6; obtain ⟨y6, r6, j6⟩ := (show _ from V6.out.1.r); have q0 : w6.cell? ⟨w.heap.size + 1, 0, none⟩ = some (.int .i64 0) := r6 0; have q1 : w6.cell? ⟨w.heap.size + 1, 1, none⟩ = some (.int .u8 0) := r6 1; have q2 : w6.cell? ⟨w.heap.size + 1, 2, none⟩ = some (.int .u8 0) := r6 2; have q3 : w6.cell? ⟨w.heap.size + 1, 3, none⟩ = some (.int .u8 0) := r6 3; have q4 : w6.cell? ⟨w.heap.size + 1, 4, none⟩ = some (.int .i64 0) := r6 4; have q5 : w6.cell? ⟨w.heap.size + 1, 5, none⟩ = some (.bool false) := r6 5; have q6 : w6.cell? ⟨w.heap.size + 1, 6, none⟩ = some (.string ⟨#[]⟩) := r6 6; have q7 : w6.cell? ⟨w.heap.size + 1, 7, none⟩ = some (.pointer none) := r6 7; have q8 : w6.cell? ⟨w.heap.size + 1, 8, none⟩ = some (.int .i64 0) := r6 8; have f0 := j6 0; have f1 := j6 1; have f2 := j6 2; have f3 := j6 3; have f4 := j6 4; have f5 := j6 5; have f6 := j6 6; have f7 := j6 7; have f8 := j6 8; clear r6 j6))
  refine at_world (FinP w ⟨rw_, ⟨x, y, z, n⟩, rm, rrow, rtx, rcl⟩ T6 (.slice A6 n6 c6) n6 ks) (fin_put (s := ⟨rw_, ⟨x, y, z, n⟩, rm, rrow, rtx, rcl⟩) V6.out.1 V6.out.2.2.1 V6.out.2.2.2 V6.out.2.1) ?_
  rintro Z ⟨⟨y9, k9, j9⟩, hk, hn, hb, hc⟩
  have HZ := Lib.hid (And.intro hc (And.intro hk (And.intro hn hb)))
  have e0 := k9 0
  have e1 := k9 1
  have e2 := k9 2
  have e3 := k9 3
  have e4 := k9 4
  have e5 := k9 5
  have e6 := k9 6
  have e7 := k9 7
  have e8 := k9 8
  clear hc hk hn hb k9 j9 y9 q0 q1 q2 q3 q4 q5 q6 q7 q8 f0 f1 f2 f3 f4 f5 f6 f7 f8 y6 
  refine bodyPost_ret (v := .tuple #[psV ⟨rw_, ⟨x, y, z, n⟩, rm, rrow, rtx, rcl⟩ T6, .slice A6 n6 c6]) (by simp at e0 e1 e2 e3 e4 e5 e6 e7 e8; simp [results, Try.results20, go_sem, e0, e1, e2, e3, e4, e5, e6, e7, e8]) rfl ⟨T6, A6, n6, c6, rfl, HZ.out.1, HZ.out.2.1, HZ.out.2.2.1, HZ.out.2.2.2⟩

set_option maxHeartbeats 4000000 in
theorem let_named (b : Int) (b0 : 0 ≤ b) (b1 : b ≤ 255) (hc : ctlB b = false) (hg : ¬ 127 < b) (w : World) : Calls Try.prog 20 #[psV ⟨3, ⟨0, 0, 0, 0⟩, false, ⟨#[]⟩, [], 0⟩ none, .int .u8 b] w (Tells (⟨0, ⟨0, 0, 0, 0⟩, false, ⟨#[]⟩, [], 0⟩, [namedK (letteredK b)]) w) := by
  have CC := Lib.hid (fun X => control_any b X)
  rw [hc] at CC
  clear hc
  have CL := Lib.hid (fun X => lettered_any b X)
  obtain ⟨nm, hnm⟩ : ∃ nm, letteredK b = nm := ⟨_, rfl⟩
  rw [hnm] at CL ⊢
  have CN := Lib.hid (fun X => named_any nm X)
  have hbare : (namedK nm).t = [] := by unfold namedK; split <;> rfl
  obtain ⟨⟨yk, yr, ym, yt⟩, hy⟩ : ∃ y, namedK nm = y := ⟨_, rfl⟩
  rw [hy] at CN hbare ⊢
  dsimp only at hbare
  subst hbare
  clear hy hnm
  have V0 := Lib.hid (fm_start w ⟨3, ⟨0, 0, 0, 0⟩, false, ⟨#[]⟩, [], 0⟩ none)
  go_enter Try.func20, Try.ntmps20
  go_upto_region 1 with fail
  refine at_world (Fm w ⟨3, ⟨0, 0, 0, 0⟩, false, ⟨#[]⟩, [], 0⟩ none) V0.out ?_
  intro X hX
  have V1 := Lib.hid hX
  clear hX V0
  obtain ⟨y1, k1, j1⟩ := (show _ from V1.out.b)
  go_wp2_with (first
    | (go_at_call 37; refine (CC.out _).mono ?_; rintro e _ ⟨rfl, rfl⟩)
    | (go_at_call 42; refine (CL.out _).mono ?_; rintro e _ ⟨rfl, rfl⟩)
    | (go_at_call 40; refine (CN.out _).mono ?_; rintro e w7 ⟨rfl, b7⟩; have V7 := Lib.hid (V1.out.later b7); clear b7; have HY := Lib.hid (V7.out.later (belAlloc w7 (.cells #[.int .i64 yk, .int .i32 yr, .bool ym, .slice none 0 0] 47))); obtain ⟨y6, r6, j6⟩ := (show _ from HY.out.r); have q0 : (w7.alloc (.cells #[.int .i64 yk, .int .i32 yr, .bool ym, .slice none 0 0] 47)).cell? ⟨w.heap.size + 1, 0, none⟩ = some (.int .i64 0) := r6 0; have q1 : (w7.alloc (.cells #[.int .i64 yk, .int .i32 yr, .bool ym, .slice none 0 0] 47)).cell? ⟨w.heap.size + 1, 1, none⟩ = some (.int .u8 0) := r6 1; have q2 : (w7.alloc (.cells #[.int .i64 yk, .int .i32 yr, .bool ym, .slice none 0 0] 47)).cell? ⟨w.heap.size + 1, 2, none⟩ = some (.int .u8 0) := r6 2; have q3 : (w7.alloc (.cells #[.int .i64 yk, .int .i32 yr, .bool ym, .slice none 0 0] 47)).cell? ⟨w.heap.size + 1, 3, none⟩ = some (.int .u8 0) := r6 3; have q4 : (w7.alloc (.cells #[.int .i64 yk, .int .i32 yr, .bool ym, .slice none 0 0] 47)).cell? ⟨w.heap.size + 1, 4, none⟩ = some (.int .i64 0) := r6 4; have q5 : (w7.alloc (.cells #[.int .i64 yk, .int .i32 yr, .bool ym, .slice none 0 0] 47)).cell? ⟨w.heap.size + 1, 5, none⟩ = some (.bool false) := r6 5; have q6 : (w7.alloc (.cells #[.int .i64 yk, .int .i32 yr, .bool ym, .slice none 0 0] 47)).cell? ⟨w.heap.size + 1, 6, none⟩ = some (.string ⟨#[]⟩) := r6 6; have q7 : (w7.alloc (.cells #[.int .i64 yk, .int .i32 yr, .bool ym, .slice none 0 0] 47)).cell? ⟨w.heap.size + 1, 7, none⟩ = some (.pointer none) := r6 7; have q8 : (w7.alloc (.cells #[.int .i64 yk, .int .i32 yr, .bool ym, .slice none 0 0] 47)).cell? ⟨w.heap.size + 1, 8, none⟩ = some (.int .i64 0) := r6 8; have f0 := j6 0; have f1 := j6 1; have f2 := j6 2; have f3 := j6 3; have f4 := j6 4; have f5 := j6 5; have f6 := j6 6; have f7 := j6 7; have f8 := j6 8; clear r6 j6))
  refine at_world (FinP w ⟨0, ⟨0, 0, 0, 0⟩, false, ⟨#[]⟩, [], 0⟩ none (.slice (some ⟨w7.heap.size, 0, none⟩) 1 1) 1 [⟨yk, yr, ym, []⟩]) (fin_put (s := ⟨0, ⟨0, 0, 0, 0⟩, false, ⟨#[]⟩, [], 0⟩) HY.out (kyW_new1 w7 _ yk yr ym) rfl rfl) ?_
  rintro Z ⟨⟨y9, k9, j9⟩, hk, hn, hb, hc⟩
  have HZ := Lib.hid (And.intro hc (And.intro hk (And.intro hn hb)))
  have e0 := k9 0
  have e1 := k9 1
  have e2 := k9 2
  have e3 := k9 3
  have e4 := k9 4
  have e5 := k9 5
  have e6 := k9 6
  have e7 := k9 7
  have e8 := k9 8
  clear hc hk hn hb k9 j9 y9 q0 q1 q2 q3 q4 q5 q6 q7 q8 f0 f1 f2 f3 f4 f5 f6 f7 f8 y6 
  refine bodyPost_ret (v := .tuple #[psV ⟨0, ⟨0, 0, 0, 0⟩, false, ⟨#[]⟩, [], 0⟩ none, .slice (some ⟨w7.heap.size, 0, none⟩) 1 1]) (by simp at e0 e1 e2 e3 e4 e5 e6 e7 e8; simp [results, Try.results20, go_sem, e0, e1, e2, e3, e4, e5, e6, e7, e8]) rfl ⟨none, (some ⟨w7.heap.size, 0, none⟩), 1, 1, rfl, HZ.out.1, HZ.out.2.1, HZ.out.2.2.1, HZ.out.2.2.2⟩

theorem asLetter_any (b : Int) (b0 : 0 ≤ b) (b1 : b ≤ 255) (w : World) : Calls Try.prog 20 #[psV (KS.at 3) none, .int .u8 b] w (Tells (asLetterK b) w) := by
  unfold asLetterK
  by_cases h1 : ctlB b = true
  · rw [h1, Bool.true_or, if_pos rfl]; exact let_odd1 b b0 b1 h1 w
  have h1' : ctlB b = false := by simpa using h1
  by_cases h2 : 127 < b
  · rw [decide_eq_true h2, Bool.or_true, if_pos rfl]; exact let_odd2 b b0 b1 h1' h2 w
  · rw [h1', decide_eq_false h2, Bool.false_or, if_neg (by decide)]; exact let_named b b0 b1 h1' h2 w
end Go.Proofs.Ytkkenabckhmkoaa
