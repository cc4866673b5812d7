/- keys: escaped. -/
import Derived.Test.YtkkenabckhmkoaaKyF
namespace Go.Proofs.Ytkkenabckhmkoaa
open Go.RowKit
set_option linter.unusedVariables false
set_option linter.unusedSimpArgs false
set_option maxRecDepth 100000


set_option maxHeartbeats 4000000 in
theorem esc_row  (w : World) : Calls Try.prog 18 #[psV ⟨1, ⟨0, 0, 0, 0⟩, false, ⟨#[]⟩, [], 0⟩ none, .int .u8 91] w (Tells (⟨2, ⟨0, 0, 0, 0⟩, false, ⟨#[]⟩, [], 0⟩, []) w) := by
  have V0 := Lib.hid (fm_start w ⟨1, ⟨0, 0, 0, 0⟩, false, ⟨#[]⟩, [], 0⟩ none)
  go_enter Try.func18, Try.ntmps18
  go_upto_region 1 with fail
  refine at_world (Fm w ⟨1, ⟨0, 0, 0, 0⟩, false, ⟨#[]⟩, [], 0⟩ none) V0.out ?_
  intro X hX
  have V1 := Lib.hid hX
  clear hX V0
  obtain ⟨y1, k1, j1⟩ := (show _ from V1.out.b)
  obtain ⟨y6, r6, j6⟩ := (show _ from V1.out.r); have q0 : X.cell? ⟨w.heap.size + 1, 0, none⟩ = some (.int .i64 0) := r6 0; have q1 : X.cell? ⟨w.heap.size + 1, 1, none⟩ = some (.int .u8 0) := r6 1; have q2 : X.cell? ⟨w.heap.size + 1, 2, none⟩ = some (.int .u8 0) := r6 2; have q3 : X.cell? ⟨w.heap.size + 1, 3, none⟩ = some (.int .u8 0) := r6 3; have q4 : X.cell? ⟨w.heap.size + 1, 4, none⟩ = some (.int .i64 0) := r6 4; have q5 : X.cell? ⟨w.heap.size + 1, 5, none⟩ = some (.bool false) := r6 5; have q6 : X.cell? ⟨w.heap.size + 1, 6, none⟩ = some (.string ⟨#[]⟩) := r6 6; have q7 : X.cell? ⟨w.heap.size + 1, 7, none⟩ = some (.pointer none) := r6 7; have q8 : X.cell? ⟨w.heap.size + 1, 8, none⟩ = some (.int .i64 0) := r6 8; have f0 := j6 0; have f1 := j6 1; have f2 := j6 2; have f3 := j6 3; have f4 := j6 4; have f5 := j6 5; have f6 := j6 6; have f7 := j6 7; have f8 := j6 8; clear r6 j6
  go_wp2_with fail
  refine at_world (FinP w ⟨2, ⟨0, 0, 0, 0⟩, false, ⟨#[]⟩, [], 0⟩ none (.slice none 0 0) 0 []) (fin_put (s := ⟨2, ⟨0, 0, 0, 0⟩, false, ⟨#[]⟩, [], 0⟩) V1.out (kyW_nil _) rfl rfl) ?_
  rintro Z ⟨⟨y9, k9, j9⟩, hk, hn, hb, hc⟩
  have HZ := Lib.hid (And.intro hc (And.intro hk (And.intro hn hb)))
  have e0 := k9 0
  have e1 := k9 1
  have e2 := k9 2
  have e3 := k9 3
  have e4 := k9 4
  have e5 := k9 5
  have e6 := k9 6
  have e7 := k9 7
  have e8 := k9 8
  clear hc hk hn hb k9 j9 y9 q0 q1 q2 q3 q4 q5 q6 q7 q8 f0 f1 f2 f3 f4 f5 f6 f7 f8 y6 
  refine bodyPost_ret (v := .tuple #[psV ⟨2, ⟨0, 0, 0, 0⟩, false, ⟨#[]⟩, [], 0⟩ none, .slice none 0 0]) (by simp at e0 e1 e2 e3 e4 e5 e6 e7 e8; simp [results, Try.results18, go_sem, e0, e1, e2, e3, e4, e5, e6, e7, e8]) rfl ⟨none, none, 0, 0, rfl, HZ.out.1, HZ.out.2.1, HZ.out.2.2.1, HZ.out.2.2.2⟩

set_option maxHeartbeats 4000000 in
theorem esc_letter  (w : World) : Calls Try.prog 18 #[psV ⟨1, ⟨0, 0, 0, 0⟩, false, ⟨#[]⟩, [], 0⟩ none, .int .u8 79] w (Tells (⟨3, ⟨0, 0, 0, 0⟩, false, ⟨#[]⟩, [], 0⟩, []) w) := by
  have V0 := Lib.hid (fm_start w ⟨1, ⟨0, 0, 0, 0⟩, false, ⟨#[]⟩, [], 0⟩ none)
  go_enter Try.func18, Try.ntmps18
  go_upto_region 1 with fail
  refine at_world (Fm w ⟨1, ⟨0, 0, 0, 0⟩, false, ⟨#[]⟩, [], 0⟩ none) V0.out ?_
  intro X hX
  have V1 := Lib.hid hX
  clear hX V0
  obtain ⟨y1, k1, j1⟩ := (show _ from V1.out.b)
  obtain ⟨y6, r6, j6⟩ := (show _ from V1.out.r); have q0 : X.cell? ⟨w.heap.size + 1, 0, none⟩ = some (.int .i64 0) := r6 0; have q1 : X.cell? ⟨w.heap.size + 1, 1, none⟩ = some (.int .u8 0) := r6 1; have q2 : X.cell? ⟨w.heap.size + 1, 2, none⟩ = some (.int .u8 0) := r6 2; have q3 : X.cell? ⟨w.heap.size + 1, 3, none⟩ = some (.int .u8 0) := r6 3; have q4 : X.cell? ⟨w.heap.size + 1, 4, none⟩ = some (.int .i64 0) := r6 4; have q5 : X.cell? ⟨w.heap.size + 1, 5, none⟩ = some (.bool false) := r6 5; have q6 : X.cell? ⟨w.heap.size + 1, 6, none⟩ = some (.string ⟨#[]⟩) := r6 6; have q7 : X.cell? ⟨w.heap.size + 1, 7, none⟩ = some (.pointer none) := r6 7; have q8 : X.cell? ⟨w.heap.size + 1, 8, none⟩ = some (.int .i64 0) := r6 8; have f0 := j6 0; have f1 := j6 1; have f2 := j6 2; have f3 := j6 3; have f4 := j6 4; have f5 := j6 5; have f6 := j6 6; have f7 := j6 7; have f8 := j6 8; clear r6 j6
  go_wp2_with fail
  refine at_world (FinP w ⟨3, ⟨0, 0, 0, 0⟩, false, ⟨#[]⟩, [], 0⟩ none (.slice none 0 0) 0 []) (fin_put (s := ⟨3, ⟨0, 0, 0, 0⟩, false, ⟨#[]⟩, [], 0⟩) V1.out (kyW_nil _) rfl rfl) ?_
  rintro Z ⟨⟨y9, k9, j9⟩, hk, hn, hb, hc⟩
  have HZ := Lib.hid (And.intro hc (And.intro hk (And.intro hn hb)))
  have e0 := k9 0
  have e1 := k9 1
  have e2 := k9 2
  have e3 := k9 3
  have e4 := k9 4
  have e5 := k9 5
  have e6 := k9 6
  have e7 := k9 7
  have e8 := k9 8
  clear hc hk hn hb k9 j9 y9 q0 q1 q2 q3 q4 q5 q6 q7 q8 f0 f1 f2 f3 f4 f5 f6 f7 f8 y6 
  refine bodyPost_ret (v := .tuple #[psV ⟨3, ⟨0, 0, 0, 0⟩, false, ⟨#[]⟩, [], 0⟩ none, .slice none 0 0]) (by simp at e0 e1 e2 e3 e4 e5 e6 e7 e8; simp [results, Try.results18, go_sem, e0, e1, e2, e3, e4, e5, e6, e7, e8]) rfl ⟨none, none, 0, 0, rfl, HZ.out.1, HZ.out.2.1, HZ.out.2.2.1, HZ.out.2.2.2⟩

set_option maxHeartbeats 4000000 in
theorem esc_esc  (w : World) : Calls Try.prog 18 #[psV ⟨1, ⟨0, 0, 0, 0⟩, false, ⟨#[]⟩, [], 0⟩ none, .int .u8 27] w (Tells (⟨1, ⟨0, 0, 0, 0⟩, false, ⟨#[]⟩, [], 0⟩, [⟨2, 27, false, []⟩]) w) := by
  have V0 := Lib.hid (fm_start w ⟨1, ⟨0, 0, 0, 0⟩, false, ⟨#[]⟩, [], 0⟩ none)
  go_enter Try.func18, Try.ntmps18
  go_upto_region 1 with fail
  refine at_world (Fm w ⟨1, ⟨0, 0, 0, 0⟩, false, ⟨#[]⟩, [], 0⟩ none) V0.out ?_
  intro X hX
  have V1 := Lib.hid hX
  clear hX V0
  obtain ⟨y1, k1, j1⟩ := (show _ from V1.out.b)
  have HY := Lib.hid (V1.out.later (belAlloc X (.cells #[.int .i64 2, .int .i32 27, .bool false, .slice none 0 0] 47)))
  obtain ⟨y6, r6, j6⟩ := (show _ from HY.out.r); have q0 : (X.alloc (.cells #[.int .i64 2, .int .i32 27, .bool false, .slice none 0 0] 47)).cell? ⟨w.heap.size + 1, 0, none⟩ = some (.int .i64 0) := r6 0; have q1 : (X.alloc (.cells #[.int .i64 2, .int .i32 27, .bool false, .slice none 0 0] 47)).cell? ⟨w.heap.size + 1, 1, none⟩ = some (.int .u8 0) := r6 1; have q2 : (X.alloc (.cells #[.int .i64 2, .int .i32 27, .bool false, .slice none 0 0] 47)).cell? ⟨w.heap.size + 1, 2, none⟩ = some (.int .u8 0) := r6 2; have q3 : (X.alloc (.cells #[.int .i64 2, .int .i32 27, .bool false, .slice none 0 0] 47)).cell? ⟨w.heap.size + 1, 3, none⟩ = some (.int .u8 0) := r6 3; have q4 : (X.alloc (.cells #[.int .i64 2, .int .i32 27, .bool false, .slice none 0 0] 47)).cell? ⟨w.heap.size + 1, 4, none⟩ = some (.int .i64 0) := r6 4; have q5 : (X.alloc (.cells #[.int .i64 2, .int .i32 27, .bool false, .slice none 0 0] 47)).cell? ⟨w.heap.size + 1, 5, none⟩ = some (.bool false) := r6 5; have q6 : (X.alloc (.cells #[.int .i64 2, .int .i32 27, .bool false, .slice none 0 0] 47)).cell? ⟨w.heap.size + 1, 6, none⟩ = some (.string ⟨#[]⟩) := r6 6; have q7 : (X.alloc (.cells #[.int .i64 2, .int .i32 27, .bool false, .slice none 0 0] 47)).cell? ⟨w.heap.size + 1, 7, none⟩ = some (.pointer none) := r6 7; have q8 : (X.alloc (.cells #[.int .i64 2, .int .i32 27, .bool false, .slice none 0 0] 47)).cell? ⟨w.heap.size + 1, 8, none⟩ = some (.int .i64 0) := r6 8; have f0 := j6 0; have f1 := j6 1; have f2 := j6 2; have f3 := j6 3; have f4 := j6 4; have f5 := j6 5; have f6 := j6 6; have f7 := j6 7; have f8 := j6 8; clear r6 j6
  go_wp2_with fail
  refine at_world (FinP w ⟨1, ⟨0, 0, 0, 0⟩, false, ⟨#[]⟩, [], 0⟩ none (.slice (some ⟨X.heap.size, 0, none⟩) 1 1) 1 [⟨2, 27, false, []⟩]) (fin_put (s := ⟨1, ⟨0, 0, 0, 0⟩, false, ⟨#[]⟩, [], 0⟩) HY.out (kyW_new1 X _ 2 27 false) rfl rfl) ?_
  rintro Z ⟨⟨y9, k9, j9⟩, hk, hn, hb, hc⟩
  have HZ := Lib.hid (And.intro hc (And.intro hk (And.intro hn hb)))
  have e0 := k9 0
  have e1 := k9 1
  have e2 := k9 2
  have e3 := k9 3
  have e4 := k9 4
  have e5 := k9 5
  have e6 := k9 6
  have e7 := k9 7
  have e8 := k9 8
  clear hc hk hn hb k9 j9 y9 q0 q1 q2 q3 q4 q5 q6 q7 q8 f0 f1 f2 f3 f4 f5 f6 f7 f8 y6 
  refine bodyPost_ret (v := .tuple #[psV ⟨1, ⟨0, 0, 0, 0⟩, false, ⟨#[]⟩, [], 0⟩ none, .slice (some ⟨X.heap.size, 0, none⟩) 1 1]) (by simp at e0 e1 e2 e3 e4 e5 e6 e7 e8; simp [results, Try.results18, go_sem, e0, e1, e2, e3, e4, e5, e6, e7, e8]) rfl ⟨none, (some ⟨X.heap.size, 0, none⟩), 1, 1, rfl, HZ.out.1, HZ.out.2.1, HZ.out.2.2.1, HZ.out.2.2.2⟩

set_option maxHeartbeats 4000000 in
theorem esc_ctl (b : Int) (b0 : 0 ≤ b) (b1 : b ≤ 255) (n1 : (b == 91) = false) (n2 : (b == 79) = false) (n3 : (b == 27) = false) (hc : ctlB b = true) (w : World) : Calls Try.prog 18 #[psV ⟨1, ⟨0, 0, 0, 0⟩, false, ⟨#[]⟩, [], 0⟩ none, .int .u8 b] w (Tells (⟨0, ⟨0, 0, 0, 0⟩, false, ⟨#[]⟩, [], 0⟩, [⟨2, b, true, []⟩]) w) := by
  have CC := Lib.hid (fun X => control_any b X)
  rw [hc] at CC
  clear hc
  have V0 := Lib.hid (fm_start w ⟨1, ⟨0, 0, 0, 0⟩, false, ⟨#[]⟩, [], 0⟩ none)
  go_enter Try.func18, Try.ntmps18
  go_upto_region 1 with fail
  refine at_world (Fm w ⟨1, ⟨0, 0, 0, 0⟩, false, ⟨#[]⟩, [], 0⟩ none) V0.out ?_
  intro X hX
  have V1 := Lib.hid hX
  clear hX V0
  obtain ⟨y1, k1, j1⟩ := (show _ from V1.out.b)
  have HY := Lib.hid (V1.out.later (belAlloc X (.cells #[.int .i64 2, .int .i32 b, .bool true, .slice none 0 0] 47)))
  obtain ⟨y6, r6, j6⟩ := (show _ from HY.out.r); have q0 : (X.alloc (.cells #[.int .i64 2, .int .i32 b, .bool true, .slice none 0 0] 47)).cell? ⟨w.heap.size + 1, 0, none⟩ = some (.int .i64 0) := r6 0; have q1 : (X.alloc (.cells #[.int .i64 2, .int .i32 b, .bool true, .slice none 0 0] 47)).cell? ⟨w.heap.size + 1, 1, none⟩ = some (.int .u8 0) := r6 1; have q2 : (X.alloc (.cells #[.int .i64 2, .int .i32 b, .bool true, .slice none 0 0] 47)).cell? ⟨w.heap.size + 1, 2, none⟩ = some (.int .u8 0) := r6 2; have q3 : (X.alloc (.cells #[.int .i64 2, .int .i32 b, .bool true, .slice none 0 0] 47)).cell? ⟨w.heap.size + 1, 3, none⟩ = some (.int .u8 0) := r6 3; have q4 : (X.alloc (.cells #[.int .i64 2, .int .i32 b, .bool true, .slice none 0 0] 47)).cell? ⟨w.heap.size + 1, 4, none⟩ = some (.int .i64 0) := r6 4; have q5 : (X.alloc (.cells #[.int .i64 2, .int .i32 b, .bool true, .slice none 0 0] 47)).cell? ⟨w.heap.size + 1, 5, none⟩ = some (.bool false) := r6 5; have q6 : (X.alloc (.cells #[.int .i64 2, .int .i32 b, .bool true, .slice none 0 0] 47)).cell? ⟨w.heap.size + 1, 6, none⟩ = some (.string ⟨#[]⟩) := r6 6; have q7 : (X.alloc (.cells #[.int .i64 2, .int .i32 b, .bool true, .slice none 0 0] 47)).cell? ⟨w.heap.size + 1, 7, none⟩ = some (.pointer none) := r6 7; have q8 : (X.alloc (.cells #[.int .i64 2, .int .i32 b, .bool true, .slice none 0 0] 47)).cell? ⟨w.heap.size + 1, 8, none⟩ = some (.int .i64 0) := r6 8; have f0 := j6 0; have f1 := j6 1; have f2 := j6 2; have f3 := j6 3; have f4 := j6 4; have f5 := j6 5; have f6 := j6 6; have f7 := j6 7; have f8 := j6 8; clear r6 j6
  go_wp2_with (go_at_call 37; refine (CC.out _).mono ?_; rintro e _ ⟨rfl, rfl⟩)
  refine at_world (FinP w ⟨0, ⟨0, 0, 0, 0⟩, false, ⟨#[]⟩, [], 0⟩ none (.slice (some ⟨X.heap.size, 0, none⟩) 1 1) 1 [⟨2, b, true, []⟩]) (fin_put (s := ⟨0, ⟨0, 0, 0, 0⟩, false, ⟨#[]⟩, [], 0⟩) HY.out (kyW_new1 X _ 2 b true) rfl rfl) ?_
  rintro Z ⟨⟨y9, k9, j9⟩, hk, hn, hb, hc⟩
  have HZ := Lib.hid (And.intro hc (And.intro hk (And.intro hn hb)))
  have e0 := k9 0
  have e1 := k9 1
  have e2 := k9 2
  have e3 := k9 3
  have e4 := k9 4
  have e5 := k9 5
  have e6 := k9 6
  have e7 := k9 7
  have e8 := k9 8
  clear hc hk hn hb k9 j9 y9 q0 q1 q2 q3 q4 q5 q6 q7 q8 f0 f1 f2 f3 f4 f5 f6 f7 f8 y6 
  refine bodyPost_ret (v := .tuple #[psV ⟨0, ⟨0, 0, 0, 0⟩, false, ⟨#[]⟩, [], 0⟩ none, .slice (some ⟨X.heap.size, 0, none⟩) 1 1]) (by simp at e0 e1 e2 e3 e4 e5 e6 e7 e8; simp [results, Try.results18, go_sem, e0, e1, e2, e3, e4, e5, e6, e7, e8]) rfl ⟨none, (some ⟨X.heap.size, 0, none⟩), 1, 1, rfl, HZ.out.1, HZ.out.2.1, HZ.out.2.2.1, HZ.out.2.2.2⟩

set_option maxHeartbeats 4000000 in
theorem esc_dec (b : Int) (b0 : 0 ≤ b) (b1 : b ≤ 255) (n1 : (b == 91) = false) (n2 : (b == 79) = false) (n3 : (b == 27) = false) (hc : ctlB b = false) (w : World) : Calls Try.prog 18 #[psV ⟨1, ⟨0, 0, 0, 0⟩, false, ⟨#[]⟩, [], 0⟩ none, .int .u8 b] w (Tells (decodeK DS.zero true b) w) := by
  have CC := Lib.hid (fun X => control_any b X)
  rw [hc] at CC
  clear hc
  have CD := Lib.hid (fun X => decode_any' ⟨0, ⟨0, 0, 0, 0⟩, true, ⟨#[]⟩, [], 0⟩ none b b0 b1 zero_ok X)
  obtain ⟨R, hR⟩ : ∃ R, decodeK ⟨0, 0, 0, 0⟩ true b = R := ⟨_, rfl⟩
  rw [show decodeK DS.zero true b = R from hR]
  dsimp only at CD
  rw [hR] at CD
  clear hR
  obtain ⟨⟨rw_, ⟨x, y, z, n⟩, rm, rrow, rtx, rcl⟩, ks⟩ := R
  have V0 := Lib.hid (fm_start w ⟨1, ⟨0, 0, 0, 0⟩, false, ⟨#[]⟩, [], 0⟩ none)
  go_enter Try.func18, Try.ntmps18
  go_upto_region 1 with fail
  refine at_world (Fm w ⟨1, ⟨0, 0, 0, 0⟩, false, ⟨#[]⟩, [], 0⟩ none) V0.out ?_
  intro X hX
  have V1 := Lib.hid hX
  clear hX V0
  obtain ⟨y1, k1, j1⟩ := (show _ from V1.out.b)
  go_wp2_with (first
    | (go_at_call 37; refine (CC.out _).mono ?_; rintro e _ ⟨rfl, rfl⟩)
    | (go_at_call 38; refine (CD.out _).mono ?_; rintro e w6 ⟨T6, A6, n6, c6, rfl, ch, hk, hn, b6⟩; have V6 := Lib.hid (And.intro (V1.out.later b6) (And.intro ch (And.intro hk hn))); clear ch hk hn b6; obtain ⟨y6, r6, j6⟩ := (show _ from V6.out.1.r); have q0 : w6.cell? ⟨w.heap.size + 1, 0, none⟩ = some (.int .i64 0) := r6 0; have q1 : w6.cell? ⟨w.heap.size + 1, 1, none⟩ = some (.int .u8 0) := r6 1; have q2 : w6.cell? ⟨w.heap.size + 1, 2, none⟩ = some (.int .u8 0) := r6 2; have q3 : w6.cell? ⟨w.heap.size + 1, 3, none⟩ = some (.int .u8 0) := r6 3; have q4 : w6.cell? ⟨w.heap.size + 1, 4, none⟩ = some (.int .i64 0) := r6 4; have q5 : w6.cell? ⟨w.heap.size + 1, 5, none⟩ = some (.bool false) := r6 5; have q6 : w6.cell? ⟨w.heap.size + 1, 6, none⟩ = some (.string ⟨#[]⟩) := r6 6; have q7 : w6.cell? ⟨w.heap.size + 1, 7, none⟩ = some (.pointer none) := r6 7; have q8 : w6.cell? ⟨w.heap.size + 1, 8, none⟩ = some (.int .i64 0) := r6 8; have f0 := j6 0; have f1 := j6 1; have f2 := j6 2; have f3 := j6 3; have f4 := j6 4; have f5 := j6 5; have f6 := j6 6; have f7 := j6 7; have f8 := j6 8; clear r6 j6))
  refine at_world (FinP w ⟨rw_, ⟨x, y, z, n⟩, rm, rrow, rtx, rcl⟩ T6 (.slice A6 n6 c6) n6 ks) (fin_put (s := ⟨rw_, ⟨x, y, z, n⟩, rm, rrow, rtx, rcl⟩) V6.out.1 V6.out.2.2.1 V6.out.2.2.2 V6.out.2.1) ?_
  rintro Z ⟨⟨y9, k9, j9⟩, hk, hn, hb, hc⟩
  have HZ := Lib.hid (And.intro hc (And.intro hk (And.intro hn hb)))
  have e0 := k9 0
  have e1 := k9 1
  have e2 := k9 2
  have e3 := k9 3
  have e4 := k9 4
  have e5 := k9 5
  have e6 := k9 6
  have e7 := k9 7
  have e8 := k9 8
  clear hc hk hn hb k9 j9 y9 q0 q1 q2 q3 q4 q5 q6 q7 q8 f0 f1 f2 f3 f4 f5 f6 f7 f8 y6 
  refine bodyPost_ret (v := .tuple #[psV ⟨rw_, ⟨x, y, z, n⟩, rm, rrow, rtx, rcl⟩ T6, .slice A6 n6 c6]) (by simp at e0 e1 e2 e3 e4 e5 e6 e7 e8; simp [results, Try.results18, go_sem, e0, e1, e2, e3, e4, e5, e6, e7, e8]) rfl ⟨T6, A6, n6, c6, rfl, HZ.out.1, HZ.out.2.1, HZ.out.2.2.1, HZ.out.2.2.2⟩

theorem escaped_any (b : Int) (b0 : 0 ≤ b) (b1 : b ≤ 255) (w : World) : Calls Try.prog 18 #[psV (KS.at 1) none, .int .u8 b] w (Tells (escapedK b) w) := by
  unfold escapedK
  by_cases h1 : b = 91
  · rw [if_pos h1]; subst h1; exact esc_row w
  rw [if_neg h1]
  by_cases h2 : b = 79
  · rw [if_pos h2]; subst h2; exact esc_letter w
  rw [if_neg h2]
  by_cases h3 : b = 27
  · rw [if_pos h3]; subst h3; exact esc_esc w
  rw [if_neg h3]
  by_cases h4 : ctlB b = true
  · rw [if_pos h4]; exact esc_ctl b b0 b1 (by simpa using h1) (by simpa using h2) (by simpa using h3) h4 w
  · rw [if_neg h4]; exact esc_dec b b0 b1 (by simpa using h1) (by simpa using h2) (by simpa using h3) (by simpa using h4) w
end Go.Proofs.Ytkkenabckhmkoaa
