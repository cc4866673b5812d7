/- keys: inRow. -/
import Derived.Test.YtkkenabckhmkoaaKyJ
namespace Go.Proofs.Ytkkenabckhmkoaa
open Go.RowKit
set_option linter.unusedVariables false
set_option linter.unusedSimpArgs false
set_option maxRecDepth 100000

theorem Fm.setRow {w X : World} {T : Option Addr} {sw : Int} {d : DS} {m : Bool} {row : ByteArray} {tx : List Int} {cl : Nat} (h : Fm w ⟨sw, d, m, row, tx, cl⟩ T X) (r : ByteArray) : Fm w ⟨sw, d, m, r, tx, cl⟩ T (X.setCell ⟨w.heap.size, 6, none⟩ (.string r)) :=
  ⟨h.below.setCell (p := ⟨w.heap.size, 6, none⟩) (Nat.le_refl _) _, by have := h.b.set_ 6 (by simp) (.string r); simpa using this, h.r.far (p := ⟨w.heap.size, 6, none⟩) (by simp) _⟩
theorem row_push (r : ByteArray) (x : UInt8) : r ++ ⟨#[x]⟩ = r.push x := by
  apply ByteArray.ext
  simp
theorem row_str (b : Int) : strOfNums [b] = ⟨#[UInt8.ofNat b.toNat]⟩ := rfl
theorem row_conv (w : World) (b : Int) :
    (convert 58 9 (.slice (some ⟨w.heap.size, 0, none⟩) 1 1)).run Try.prog (w.alloc (.cells #[.int .u8 b] 5)) = .ok (.string ⟨#[UInt8.ofNat b.toNat]⟩) (w.alloc (.cells #[.int .u8 b] 5)) := by
  rw [← row_str]
  refine run_convert_bytes_arg (P := Try.prog) _ 58 5 Try.underlying58 Try.underlying5 w.heap.size 0 1 1 [b] rfl (fun i hi => ?_) 9 Try.underlying9
  rw [Nat.zero_add, World.cell?_alloc_new]
  obtain rfl : i = 0 := by omega
  simp [List.getD]
theorem row_cat (w : World) (x y : ByteArray) (h : x.size + y.size ≤ 1000000) : (Op.stringOp .add x y).run Try.prog w = .ok (.string (x ++ y)) w := by
  simp [go_sem]
  omega

set_option maxHeartbeats 4000000 in
theorem row_odd1 (row : ByteArray) (b : Int) (b0 : 0 ≤ b) (b1 : b ≤ 255) (hc : ctlB b = true) (w : World) : Calls Try.prog 19 #[psV ⟨2, ⟨0, 0, 0, 0⟩, false, row, [], 0⟩ none, .int .u8 b] w (Tells (oddK b) w) := by
  have CC := Lib.hid (fun X => control_any b X)
  rw [hc] at CC
  clear hc
  have CD := Lib.hid (fun X => odd_any b b0 b1 X)
  obtain ⟨R, hR⟩ : ∃ R, oddK b = R := ⟨_, rfl⟩
  rw [hR] at CD ⊢
  clear hR
  obtain ⟨⟨rw_, ⟨x, y, z, n⟩, rm, rrow, rtx, rcl⟩, ks⟩ := R
  have V0 := Lib.hid (fm_start w ⟨2, ⟨0, 0, 0, 0⟩, false, row, [], 0⟩ none)
  go_enter Try.func19, Try.ntmps19
  go_upto_region 1 with fail
  refine at_world (Fm w ⟨2, ⟨0, 0, 0, 0⟩, false, row, [], 0⟩ none) V0.out ?_
  intro X hX
  have V1 := Lib.hid hX
  clear hX V0
  obtain ⟨y1, k1, j1⟩ := (show _ from V1.out.b)
  go_wp2_with (first
    | (go_at_call 37; refine (CC.out _).mono ?_; rintro e _ ⟨rfl, rfl⟩)
    | (go_at_call 39; refine (CD.out _).mono ?_; rintro e w6 ⟨T6, A6, n6, c6, rfl, ch, hk, hn, b6⟩; have V6 := Lib.hid (And.intro (V1.out.later b6) (And.intro ch (And.intro hk hn))); clear ch hk hn b6; obtain ⟨y6, r6, j6⟩ := (show _ from V6.out.1.r); have q0 : w6.cell? ⟨w.heap.size + 1, 0, none⟩ = some (.int .i64 0) := r6 0; have q1 : w6.cell? ⟨w.heap.size + 1, 1, none⟩ = some (.int .u8 0) := r6 1; have q2 : w6.cell? ⟨w.heap.size + 1, 2, none⟩ = some (.int .u8 0) := r6 2; have q3 : w6.cell? ⟨w.heap.size + 1, 3, none⟩ = some (.int .u8 0) := r6 3; have q4 : w6.cell? ⟨w.heap.size + 1, 4, none⟩ = some (.int .i64 0) := r6 4; have q5 : w6.cell? ⟨w.heap.size + 1, 5, none⟩ = some (.bool false) := r6 5; have q6 : w6.cell? ⟨w.heap.size + 1, 6, none⟩ = some (.string ⟨#[]⟩) := r6 6; have q7 : w6.cell? ⟨w.heap.size + 1, 7, none⟩ = some (.pointer none) := r6 7; have q8 : w6.cell? ⟨w.heap.size + 1, 8, none⟩ = some (.int .i64 0) := r6 8; have f0 := j6 0; have f1 := j6 1; have f2 := j6 2; have f3 := j6 3; have f4 := j6 4; have f5 := j6 5; have f6 := j6 6; have f7 := j6 7; have f8 := j6 8; clear r6 j6))
  refine at_world (FinP w ⟨rw_, ⟨x, y, z, n⟩, rm, rrow, rtx, rcl⟩ T6 (.slice A6 n6 c6) n6 ks) (fin_put (s := ⟨rw_, ⟨x, y, z, n⟩, rm, rrow, rtx, rcl⟩) V6.out.1 V6.out.2.2.1 V6.out.2.2.2 V6.out.2.1) ?_
  rintro Z ⟨⟨y9, k9, j9⟩, hk, hn, hb, hc⟩
  have HZ := Lib.hid (And.intro hc (And.intro hk (And.intro hn hb)))
  have e0 := k9 0
  have e1 := k9 1
  have e2 := k9 2
  have e3 := k9 3
  have e4 := k9 4
  have e5 := k9 5
  have e6 := k9 6
  have e7 := k9 7
  have e8 := k9 8
  clear hc hk hn hb k9 j9 y9 q0 q1 q2 q3 q4 q5 q6 q7 q8 f0 f1 f2 f3 f4 f5 f6 f7 f8 y6 
  refine bodyPost_ret (v := .tuple #[psV ⟨rw_, ⟨x, y, z, n⟩, rm, rrow, rtx, rcl⟩ T6, .slice A6 n6 c6]) (by simp at e0 e1 e2 e3 e4 e5 e6 e7 e8; simp [results, Try.results19, go_sem, e0, e1, e2, e3, e4, e5, e6, e7, e8]) rfl ⟨T6, A6, n6, c6, rfl, HZ.out.1, HZ.out.2.1, HZ.out.2.2.1, HZ.out.2.2.2⟩

set_option maxHeartbeats 4000000 in
theorem row_odd2 (row : ByteArray) (b : Int) (b0 : 0 ≤ b) (b1 : b ≤ 255) (hc : ctlB b = false) (hg : 127 < b) (w : World) : Calls Try.prog 19 #[psV ⟨2, ⟨0, 0, 0, 0⟩, false, row, [], 0⟩ none, .int .u8 b] w (Tells (oddK b) w) := by
  have CC := Lib.hid (fun X => control_any b X)
  rw [hc] at CC
  clear hc
  have CD := Lib.hid (fun X => odd_any b b0 b1 X)
  obtain ⟨R, hR⟩ : ∃ R, oddK b = R := ⟨_, rfl⟩
  rw [hR] at CD ⊢
  clear hR
  obtain ⟨⟨rw_, ⟨x, y, z, n⟩, rm, rrow, rtx, rcl⟩, ks⟩ := R
  have V0 := Lib.hid (fm_start w ⟨2, ⟨0, 0, 0, 0⟩, false, row, [], 0⟩ none)
  go_enter Try.func19, Try.ntmps19
  go_upto_region 1 with fail
  refine at_world (Fm w ⟨2, ⟨0, 0, 0, 0⟩, false, row, [], 0⟩ none) V0.out ?_
  intro X hX
  have V1 := Lib.hid hX
  clear hX V0
  obtain ⟨y1, k1, j1⟩ := (show _ from V1.out.b)
  go_wp2_with (first
    | (go_at_call 37; refine (CC.out _).mono ?_; rintro e _ ⟨rfl, rfl⟩)
    | (go_at_call 39; refine (CD.out _).mono ?_; rintro e w6 ⟨T6, A6, n6, c6, rfl, ch, hk, hn, b6⟩; have V6 := Lib.hid (And.intro (V1.out.later b6) (And.intro ch (And.intro hk hn))); clear ch hk hn b6; obtain ⟨y6, r6, j6⟩ := (show _ from V6.out.1.r); have q0 : w6.cell? ⟨w.heap.size + 1, 0, none⟩ = some (.int .i64 0) := r6 0; have q1 : w6.cell? ⟨w.heap.size + 1, 1, none⟩ = some (.int .u8 0) := r6 1; have q2 : w6.cell? ⟨w.heap.size + 1, 2, none⟩ = some (.int .u8 0) := r6 2; have q3 : w6.cell? ⟨w.heap.size + 1, 3, none⟩ = some (.int .u8 0) := r6 3; have q4 : w6.cell? ⟨w.heap.size + 1, 4, none⟩ = some (.int .i64 0) := r6 4; have q5 : w6.cell? ⟨w.heap.size + 1, 5, none⟩ = some (.bool false) := r6 5; have q6 : w6.cell? ⟨w.heap.size + 1, 6, none⟩ = some (.string ⟨#[]⟩) := r6 6; have q7 : w6.cell? ⟨w.heap.size + 1, 7, none⟩ = some (.pointer none) := r6 7; have q8 : w6.cell? ⟨w.heap.size + 1, 8, none⟩ = some (.int .i64 0) := r6 8; have f0 := j6 0; have f1 := j6 1; have f2 := j6 2; have f3 := j6 3; have f4 := j6 4; have f5 := j6 5; have f6 := j6 6; have f7 := j6 7; have f8 := j6 8; clear r6 j6))
  refine at_world (FinP w ⟨rw_, ⟨x, y, z, n⟩, rm, rrow, rtx, rcl⟩ T6 (.slice A6 n6 c6) n6 ks) (fin_put (s := ⟨rw_, ⟨x, y, z, n⟩, rm, rrow, rtx, rcl⟩) V6.out.1 V6.out.2.2.1 V6.out.2.2.2 V6.out.2.1) ?_
  rintro Z ⟨⟨y9, k9, j9⟩, hk, hn, hb, hc⟩
  have HZ := Lib.hid (And.intro hc (And.intro hk (And.intro hn hb)))
  have e0 := k9 0
  have e1 := k9 1
  have e2 := k9 2
  have e3 := k9 3
  have e4 := k9 4
  have e5 := k9 5
  have e6 := k9 6
  have e7 := k9 7
  have e8 := k9 8
  clear hc hk hn hb k9 j9 y9 q0 q1 q2 q3 q4 q5 q6 q7 q8 f0 f1 f2 f3 f4 f5 f6 f7 f8 y6 
  refine bodyPost_ret (v := .tuple #[psV ⟨rw_, ⟨x, y, z, n⟩, rm, rrow, rtx, rcl⟩ T6, .slice A6 n6 c6]) (by simp at e0 e1 e2 e3 e4 e5 e6 e7 e8; simp [results, Try.results19, go_sem, e0, e1, e2, e3, e4, e5, e6, e7, e8]) rfl ⟨T6, A6, n6, c6, rfl, HZ.out.1, HZ.out.2.1, HZ.out.2.2.1, HZ.out.2.2.2⟩

set_option maxHeartbeats 4000000 in
theorem row_paste (row : ByteArray) (b : Int) (hr : row = ⟨#[50, 48, 48]⟩) (hb : b = 126) (w : World) : Calls Try.prog 19 #[psV ⟨2, ⟨0, 0, 0, 0⟩, false, row, [], 0⟩ none, .int .u8 b] w (Tells (⟨4, ⟨0, 0, 0, 0⟩, false, ⟨#[]⟩, [], 0⟩, []) w) := by
  subst hr hb
  have CC := Lib.hid (fun X => control_any 126 X)
  rw [show ctlB 126 = false from rfl] at CC
  have V0 := Lib.hid (fm_start w ⟨2, ⟨0, 0, 0, 0⟩, false, ⟨#[50, 48, 48]⟩, [], 0⟩ none)
  go_enter Try.func19, Try.ntmps19
  go_upto_region 1 with fail
  refine at_world (Fm w ⟨2, ⟨0, 0, 0, 0⟩, false, ⟨#[50, 48, 48]⟩, [], 0⟩ none) V0.out ?_
  intro X hX
  have V1 := Lib.hid hX
  clear hX V0
  obtain ⟨y1, k1, j1⟩ := (show _ from V1.out.b)
  obtain ⟨y6, r6, j6⟩ := (show _ from V1.out.r); have q0 : X.cell? ⟨w.heap.size + 1, 0, none⟩ = some (.int .i64 0) := r6 0; have q1 : X.cell? ⟨w.heap.size + 1, 1, none⟩ = some (.int .u8 0) := r6 1; have q2 : X.cell? ⟨w.heap.size + 1, 2, none⟩ = some (.int .u8 0) := r6 2; have q3 : X.cell? ⟨w.heap.size + 1, 3, none⟩ = some (.int .u8 0) := r6 3; have q4 : X.cell? ⟨w.heap.size + 1, 4, none⟩ = some (.int .i64 0) := r6 4; have q5 : X.cell? ⟨w.heap.size + 1, 5, none⟩ = some (.bool false) := r6 5; have q6 : X.cell? ⟨w.heap.size + 1, 6, none⟩ = some (.string ⟨#[]⟩) := r6 6; have q7 : X.cell? ⟨w.heap.size + 1, 7, none⟩ = some (.pointer none) := r6 7; have q8 : X.cell? ⟨w.heap.size + 1, 8, none⟩ = some (.int .i64 0) := r6 8; have f0 := j6 0; have f1 := j6 1; have f2 := j6 2; have f3 := j6 3; have f4 := j6 4; have f5 := j6 5; have f6 := j6 6; have f7 := j6 7; have f8 := j6 8; clear r6 j6
  go_wp2_with (go_at_call 37; refine (CC.out _).mono ?_; rintro e _ ⟨rfl, rfl⟩)
  refine at_world (FinP w ⟨4, ⟨0, 0, 0, 0⟩, false, ⟨#[]⟩, [], 0⟩ none (.slice none 0 0) 0 []) (fin_put (s := ⟨4, ⟨0, 0, 0, 0⟩, false, ⟨#[]⟩, [], 0⟩) V1.out (kyW_nil _) rfl rfl) ?_
  rintro Z ⟨⟨y9, k9, j9⟩, hk, hn, hb, hc⟩
  have HZ := Lib.hid (And.intro hc (And.intro hk (And.intro hn hb)))
  have e0 := k9 0
  have e1 := k9 1
  have e2 := k9 2
  have e3 := k9 3
  have e4 := k9 4
  have e5 := k9 5
  have e6 := k9 6
  have e7 := k9 7
  have e8 := k9 8
  clear hc hk hn hb k9 j9 y9 q0 q1 q2 q3 q4 q5 q6 q7 q8 f0 f1 f2 f3 f4 f5 f6 f7 f8 y6 
  refine bodyPost_ret (v := .tuple #[psV ⟨4, ⟨0, 0, 0, 0⟩, false, ⟨#[]⟩, [], 0⟩ none, .slice none 0 0]) (by simp at e0 e1 e2 e3 e4 e5 e6 e7 e8; simp [results, Try.results19, go_sem, e0, e1, e2, e3, e4, e5, e6, e7, e8]) rfl ⟨none, none, 0, 0, rfl, HZ.out.1, HZ.out.2.1, HZ.out.2.2.1, HZ.out.2.2.2⟩

set_option maxHeartbeats 4000000 in
theorem row_num (row : ByteArray) (b : Int) (hr : ¬ row = ⟨#[50, 48, 48]⟩) (hb : b = 126) (w : World) : Calls Try.prog 19 #[psV ⟨2, ⟨0, 0, 0, 0⟩, false, row, [], 0⟩ none, .int .u8 b] w (Tells (⟨0, ⟨0, 0, 0, 0⟩, false, ⟨#[]⟩, [], 0⟩, [namedK (numberedK row)]) w) := by
  subst hb
  have CC := Lib.hid (fun X => control_any 126 X)
  rw [show ctlB 126 = false from rfl] at CC
  have d1 := ba_noL (l := [50, 48, 48]) hr
  clear hr
  have CL := Lib.hid (fun X => numbered_any row X)
  obtain ⟨nm, hnm⟩ : ∃ nm, numberedK row = nm := ⟨_, rfl⟩
  rw [hnm] at CL ⊢
  clear hnm
  have CN := Lib.hid (fun X => named_any nm X)
  have hbare : (namedK nm).t = [] := by unfold namedK; split <;> rfl
  obtain ⟨⟨yk, yr, ym, yt⟩, hy⟩ : ∃ y, namedK nm = y := ⟨_, rfl⟩
  rw [hy] at CN hbare ⊢
  dsimp only at hbare
  subst hbare
  clear hy
  have V0 := Lib.hid (fm_start w ⟨2, ⟨0, 0, 0, 0⟩, false, row, [], 0⟩ none)
  go_enter Try.func19, Try.ntmps19
  go_upto_region 1 with fail
  refine at_world (Fm w ⟨2, ⟨0, 0, 0, 0⟩, false, row, [], 0⟩ none) V0.out ?_
  intro X hX
  have V1 := Lib.hid hX
  clear hX V0
  obtain ⟨y1, k1, j1⟩ := (show _ from V1.out.b)
  go_wp2_with (first
    | (go_at_call 37; refine (CC.out _).mono ?_; rintro e _ ⟨rfl, rfl⟩)
    | (go_at_call 41; refine (CL.out _).mono ?_; rintro e _ ⟨rfl, rfl⟩)
    | (go_at_call 40; refine (CN.out _).mono ?_; rintro e w7 ⟨rfl, b7⟩; have V7 := Lib.hid (V1.out.later b7); clear b7; have HY := Lib.hid (V7.out.later (belAlloc w7 (.cells #[.int .i64 yk, .int .i32 yr, .bool ym, .slice none 0 0] 47))); obtain ⟨y6, r6, j6⟩ := (show _ from HY.out.r); have q0 : (w7.alloc (.cells #[.int .i64 yk, .int .i32 yr, .bool ym, .slice none 0 0] 47)).cell? ⟨w.heap.size + 1, 0, none⟩ = some (.int .i64 0) := r6 0; have q1 : (w7.alloc (.cells #[.int .i64 yk, .int .i32 yr, .bool ym, .slice none 0 0] 47)).cell? ⟨w.heap.size + 1, 1, none⟩ = some (.int .u8 0) := r6 1; have q2 : (w7.alloc (.cells #[.int .i64 yk, .int .i32 yr, .bool ym, .slice none 0 0] 47)).cell? ⟨w.heap.size + 1, 2, none⟩ = some (.int .u8 0) := r6 2; have q3 : (w7.alloc (.cells #[.int .i64 yk, .int .i32 yr, .bool ym, .slice none 0 0] 47)).cell? ⟨w.heap.size + 1, 3, none⟩ = some (.int .u8 0) := r6 3; have q4 : (w7.alloc (.cells #[.int .i64 yk, .int .i32 yr, .bool ym, .slice none 0 0] 47)).cell? ⟨w.heap.size + 1, 4, none⟩ = some (.int .i64 0) := r6 4; have q5 : (w7.alloc (.cells #[.int .i64 yk, .int .i32 yr, .bool ym, .slice none 0 0] 47)).cell? ⟨w.heap.size + 1, 5, none⟩ = some (.bool false) := r6 5; have q6 : (w7.alloc (.cells #[.int .i64 yk, .int .i32 yr, .bool ym, .slice none 0 0] 47)).cell? ⟨w.heap.size + 1, 6, none⟩ = some (.string ⟨#[]⟩) := r6 6; have q7 : (w7.alloc (.cells #[.int .i64 yk, .int .i32 yr, .bool ym, .slice none 0 0] 47)).cell? ⟨w.heap.size + 1, 7, none⟩ = some (.pointer none) := r6 7; have q8 : (w7.alloc (.cells #[.int .i64 yk, .int .i32 yr, .bool ym, .slice none 0 0] 47)).cell? ⟨w.heap.size + 1, 8, none⟩ = some (.int .i64 0) := r6 8; have f0 := j6 0; have f1 := j6 1; have f2 := j6 2; have f3 := j6 3; have f4 := j6 4; have f5 := j6 5; have f6 := j6 6; have f7 := j6 7; have f8 := j6 8; clear r6 j6))
  refine at_world (FinP w ⟨0, ⟨0, 0, 0, 0⟩, false, ⟨#[]⟩, [], 0⟩ none (.slice (some ⟨w7.heap.size, 0, none⟩) 1 1) 1 [⟨yk, yr, ym, []⟩]) (fin_put (s := ⟨0, ⟨0, 0, 0, 0⟩, false, ⟨#[]⟩, [], 0⟩) HY.out (kyW_new1 w7 _ yk yr ym) rfl rfl) ?_
  rintro Z ⟨⟨y9, k9, j9⟩, hk, hn, hb, hc⟩
  have HZ := Lib.hid (And.intro hc (And.intro hk (And.intro hn hb)))
  have e0 := k9 0
  have e1 := k9 1
  have e2 := k9 2
  have e3 := k9 3
  have e4 := k9 4
  have e5 := k9 5
  have e6 := k9 6
  have e7 := k9 7
  have e8 := k9 8
  clear hc hk hn hb k9 j9 y9 q0 q1 q2 q3 q4 q5 q6 q7 q8 f0 f1 f2 f3 f4 f5 f6 f7 f8 y6 
  refine bodyPost_ret (v := .tuple #[psV ⟨0, ⟨0, 0, 0, 0⟩, false, ⟨#[]⟩, [], 0⟩ none, .slice (some ⟨w7.heap.size, 0, none⟩) 1 1]) (by simp at e0 e1 e2 e3 e4 e5 e6 e7 e8; simp [results, Try.results19, go_sem, e0, e1, e2, e3, e4, e5, e6, e7, e8]) rfl ⟨none, (some ⟨w7.heap.size, 0, none⟩), 1, 1, rfl, HZ.out.1, HZ.out.2.1, HZ.out.2.2.1, HZ.out.2.2.2⟩

set_option maxHeartbeats 4000000 in
theorem row_let (row : ByteArray) (b : Int) (b0 : 0 ≤ b) (b1 : b ≤ 255) (hc : ctlB b = false) (hg : ¬ 127 < b) (hb : (b == 126) = false) (h64 : ¬ b < 64) (hr : row = ⟨#[]⟩) (w : World) : Calls Try.prog 19 #[psV ⟨2, ⟨0, 0, 0, 0⟩, false, row, [], 0⟩ none, .int .u8 b] w (Tells (⟨0, ⟨0, 0, 0, 0⟩, false, ⟨#[]⟩, [], 0⟩, [namedK (letteredK b)]) w) := by
  subst hr
  have CC := Lib.hid (fun X => control_any b X)
  rw [hc] at CC
  clear hc
  have CL := Lib.hid (fun X => lettered_any b X)
  obtain ⟨nm, hnm⟩ : ∃ nm, letteredK b = nm := ⟨_, rfl⟩
  rw [hnm] at CL ⊢
  clear hnm
  have CN := Lib.hid (fun X => named_any nm X)
  have hbare : (namedK nm).t = [] := by unfold namedK; split <;> rfl
  obtain ⟨⟨yk, yr, ym, yt⟩, hy⟩ : ∃ y, namedK nm = y := ⟨_, rfl⟩
  rw [hy] at CN hbare ⊢
  dsimp only at hbare
  subst hbare
  clear hy
  have V0 := Lib.hid (fm_start w ⟨2, ⟨0, 0, 0, 0⟩, false, ⟨#[]⟩, [], 0⟩ none)
  go_enter Try.func19, Try.ntmps19
  go_upto_region 1 with fail
  refine at_world (Fm w ⟨2, ⟨0, 0, 0, 0⟩, false, ⟨#[]⟩, [], 0⟩ none) V0.out ?_
  intro X hX
  have V1 := Lib.hid hX
  clear hX V0
  obtain ⟨y1, k1, j1⟩ := (show _ from V1.out.b)
  go_wp2_with (first
    | (go_at_call 37; refine (CC.out _).mono ?_; rintro e _ ⟨rfl, rfl⟩)
    | (go_at_call 42; refine (CL.out _).mono ?_; rintro e _ ⟨rfl, rfl⟩)
    | (go_at_call 40; refine (CN.out _).mono ?_; rintro e w7 ⟨rfl, b7⟩; have V7 := Lib.hid (V1.out.later b7); clear b7; have HY := Lib.hid (V7.out.later (belAlloc w7 (.cells #[.int .i64 yk, .int .i32 yr, .bool ym, .slice none 0 0] 47))); obtain ⟨y6, r6, j6⟩ := (show _ from HY.out.r); have q0 : (w7.alloc (.cells #[.int .i64 yk, .int .i32 yr, .bool ym, .slice none 0 0] 47)).cell? ⟨w.heap.size + 1, 0, none⟩ = some (.int .i64 0) := r6 0; have q1 : (w7.alloc (.cells #[.int .i64 yk, .int .i32 yr, .bool ym, .slice none 0 0] 47)).cell? ⟨w.heap.size + 1, 1, none⟩ = some (.int .u8 0) := r6 1; have q2 : (w7.alloc (.cells #[.int .i64 yk, .int .i32 yr, .bool ym, .slice none 0 0] 47)).cell? ⟨w.heap.size + 1, 2, none⟩ = some (.int .u8 0) := r6 2; have q3 : (w7.alloc (.cells #[.int .i64 yk, .int .i32 yr, .bool ym, .slice none 0 0] 47)).cell? ⟨w.heap.size + 1, 3, none⟩ = some (.int .u8 0) := r6 3; have q4 : (w7.alloc (.cells #[.int .i64 yk, .int .i32 yr, .bool ym, .slice none 0 0] 47)).cell? ⟨w.heap.size + 1, 4, none⟩ = some (.int .i64 0) := r6 4; have q5 : (w7.alloc (.cells #[.int .i64 yk, .int .i32 yr, .bool ym, .slice none 0 0] 47)).cell? ⟨w.heap.size + 1, 5, none⟩ = some (.bool false) := r6 5; have q6 : (w7.alloc (.cells #[.int .i64 yk, .int .i32 yr, .bool ym, .slice none 0 0] 47)).cell? ⟨w.heap.size + 1, 6, none⟩ = some (.string ⟨#[]⟩) := r6 6; have q7 : (w7.alloc (.cells #[.int .i64 yk, .int .i32 yr, .bool ym, .slice none 0 0] 47)).cell? ⟨w.heap.size + 1, 7, none⟩ = some (.pointer none) := r6 7; have q8 : (w7.alloc (.cells #[.int .i64 yk, .int .i32 yr, .bool ym, .slice none 0 0] 47)).cell? ⟨w.heap.size + 1, 8, none⟩ = some (.int .i64 0) := r6 8; have f0 := j6 0; have f1 := j6 1; have f2 := j6 2; have f3 := j6 3; have f4 := j6 4; have f5 := j6 5; have f6 := j6 6; have f7 := j6 7; have f8 := j6 8; clear r6 j6))
  refine at_world (FinP w ⟨0, ⟨0, 0, 0, 0⟩, false, ⟨#[]⟩, [], 0⟩ none (.slice (some ⟨w7.heap.size, 0, none⟩) 1 1) 1 [⟨yk, yr, ym, []⟩]) (fin_put (s := ⟨0, ⟨0, 0, 0, 0⟩, false, ⟨#[]⟩, [], 0⟩) HY.out (kyW_new1 w7 _ yk yr ym) rfl rfl) ?_
  rintro Z ⟨⟨y9, k9, j9⟩, hk, hn, hb, hc⟩
  have HZ := Lib.hid (And.intro hc (And.intro hk (And.intro hn hb)))
  have e0 := k9 0
  have e1 := k9 1
  have e2 := k9 2
  have e3 := k9 3
  have e4 := k9 4
  have e5 := k9 5
  have e6 := k9 6
  have e7 := k9 7
  have e8 := k9 8
  clear hc hk hn hb k9 j9 y9 q0 q1 q2 q3 q4 q5 q6 q7 q8 f0 f1 f2 f3 f4 f5 f6 f7 f8 y6 
  refine bodyPost_ret (v := .tuple #[psV ⟨0, ⟨0, 0, 0, 0⟩, false, ⟨#[]⟩, [], 0⟩ none, .slice (some ⟨w7.heap.size, 0, none⟩) 1 1]) (by simp at e0 e1 e2 e3 e4 e5 e6 e7 e8; simp [results, Try.results19, go_sem, e0, e1, e2, e3, e4, e5, e6, e7, e8]) rfl ⟨none, (some ⟨w7.heap.size, 0, none⟩), 1, 1, rfl, HZ.out.1, HZ.out.2.1, HZ.out.2.2.1, HZ.out.2.2.2⟩

set_option maxHeartbeats 4000000 in
theorem row_key1 (row : ByteArray) (b : Int) (b0 : 0 ≤ b) (b1 : b ≤ 255) (hc : ctlB b = false) (hg : ¬ 127 < b) (hb : (b == 126) = false) (h64 : ¬ b < 64) (hr : ¬ row = ⟨#[]⟩) (w : World) : Calls Try.prog 19 #[psV ⟨2, ⟨0, 0, 0, 0⟩, false, row, [], 0⟩ none, .int .u8 b] w (Tells (⟨0, ⟨0, 0, 0, 0⟩, false, ⟨#[]⟩, [], 0⟩, [⟨5, 0, false, []⟩]) w) := by
  have d1 := ba_noL (l := []) hr
  clear hr
  have CC := Lib.hid (fun X => control_any b X)
  rw [hc] at CC
  clear hc
  have V0 := Lib.hid (fm_start w ⟨2, ⟨0, 0, 0, 0⟩, false, row, [], 0⟩ none)
  go_enter Try.func19, Try.ntmps19
  go_upto_region 1 with fail
  refine at_world (Fm w ⟨2, ⟨0, 0, 0, 0⟩, false, row, [], 0⟩ none) V0.out ?_
  intro X hX
  have V1 := Lib.hid hX
  clear hX V0
  obtain ⟨y1, k1, j1⟩ := (show _ from V1.out.b)
  have HY := Lib.hid (V1.out.later (belAlloc X (.cells #[.int .i64 5, .int .i32 0, .bool false, .slice none 0 0] 47)))
  obtain ⟨y6, r6, j6⟩ := (show _ from HY.out.r); have q0 : (X.alloc (.cells #[.int .i64 5, .int .i32 0, .bool false, .slice none 0 0] 47)).cell? ⟨w.heap.size + 1, 0, none⟩ = some (.int .i64 0) := r6 0; have q1 : (X.alloc (.cells #[.int .i64 5, .int .i32 0, .bool false, .slice none 0 0] 47)).cell? ⟨w.heap.size + 1, 1, none⟩ = some (.int .u8 0) := r6 1; have q2 : (X.alloc (.cells #[.int .i64 5, .int .i32 0, .bool false, .slice none 0 0] 47)).cell? ⟨w.heap.size + 1, 2, none⟩ = some (.int .u8 0) := r6 2; have q3 : (X.alloc (.cells #[.int .i64 5, .int .i32 0, .bool false, .slice none 0 0] 47)).cell? ⟨w.heap.size + 1, 3, none⟩ = some (.int .u8 0) := r6 3; have q4 : (X.alloc (.cells #[.int .i64 5, .int .i32 0, .bool false, .slice none 0 0] 47)).cell? ⟨w.heap.size + 1, 4, none⟩ = some (.int .i64 0) := r6 4; have q5 : (X.alloc (.cells #[.int .i64 5, .int .i32 0, .bool false, .slice none 0 0] 47)).cell? ⟨w.heap.size + 1, 5, none⟩ = some (.bool false) := r6 5; have q6 : (X.alloc (.cells #[.int .i64 5, .int .i32 0, .bool false, .slice none 0 0] 47)).cell? ⟨w.heap.size + 1, 6, none⟩ = some (.string ⟨#[]⟩) := r6 6; have q7 : (X.alloc (.cells #[.int .i64 5, .int .i32 0, .bool false, .slice none 0 0] 47)).cell? ⟨w.heap.size + 1, 7, none⟩ = some (.pointer none) := r6 7; have q8 : (X.alloc (.cells #[.int .i64 5, .int .i32 0, .bool false, .slice none 0 0] 47)).cell? ⟨w.heap.size + 1, 8, none⟩ = some (.int .i64 0) := r6 8; have f0 := j6 0; have f1 := j6 1; have f2 := j6 2; have f3 := j6 3; have f4 := j6 4; have f5 := j6 5; have f6 := j6 6; have f7 := j6 7; have f8 := j6 8; clear r6 j6
  go_wp2_with (go_at_call 37; refine (CC.out _).mono ?_; rintro e _ ⟨rfl, rfl⟩)
  refine at_world (FinP w ⟨0, ⟨0, 0, 0, 0⟩, false, ⟨#[]⟩, [], 0⟩ none (.slice (some ⟨X.heap.size, 0, none⟩) 1 1) 1 [⟨5, 0, false, []⟩]) (fin_put (s := ⟨0, ⟨0, 0, 0, 0⟩, false, ⟨#[]⟩, [], 0⟩) HY.out (kyW_new1 X _ 5 0 false) rfl rfl) ?_
  rintro Z ⟨⟨y9, k9, j9⟩, hk, hn, hb, hc⟩
  have HZ := Lib.hid (And.intro hc (And.intro hk (And.intro hn hb)))
  have e0 := k9 0
  have e1 := k9 1
  have e2 := k9 2
  have e3 := k9 3
  have e4 := k9 4
  have e5 := k9 5
  have e6 := k9 6
  have e7 := k9 7
  have e8 := k9 8
  clear hc hk hn hb k9 j9 y9 q0 q1 q2 q3 q4 q5 q6 q7 q8 f0 f1 f2 f3 f4 f5 f6 f7 f8 y6 
  refine bodyPost_ret (v := .tuple #[psV ⟨0, ⟨0, 0, 0, 0⟩, false, ⟨#[]⟩, [], 0⟩ none, .slice (some ⟨X.heap.size, 0, none⟩) 1 1]) (by simp at e0 e1 e2 e3 e4 e5 e6 e7 e8; simp [results, Try.results19, go_sem, e0, e1, e2, e3, e4, e5, e6, e7, e8]) rfl ⟨none, (some ⟨X.heap.size, 0, none⟩), 1, 1, rfl, HZ.out.1, HZ.out.2.1, HZ.out.2.2.1, HZ.out.2.2.2⟩

set_option maxHeartbeats 4000000 in
theorem row_key2 (row : ByteArray) (b : Int) (b0 : 0 ≤ b) (b1 : b ≤ 255) (hc : ctlB b = false) (hg : ¬ 127 < b) (hb : (b == 126) = false) (h64 : b < 64) (h16 : ¬ row.size < 16) (hr : ¬ row = ⟨#[]⟩) (w : World) : Calls Try.prog 19 #[psV ⟨2, ⟨0, 0, 0, 0⟩, false, row, [], 0⟩ none, .int .u8 b] w (Tells (⟨0, ⟨0, 0, 0, 0⟩, false, ⟨#[]⟩, [], 0⟩, [⟨5, 0, false, []⟩]) w) := by
  have d1 := ba_noL (l := []) hr
  have d2 : ¬ ((row.size : Int) < 16) := by omega
  clear hr
  have CC := Lib.hid (fun X => control_any b X)
  rw [hc] at CC
  clear hc
  have V0 := Lib.hid (fm_start w ⟨2, ⟨0, 0, 0, 0⟩, false, row, [], 0⟩ none)
  go_enter Try.func19, Try.ntmps19
  go_upto_region 1 with fail
  refine at_world (Fm w ⟨2, ⟨0, 0, 0, 0⟩, false, row, [], 0⟩ none) V0.out ?_
  intro X hX
  have V1 := Lib.hid hX
  clear hX V0
  obtain ⟨y1, k1, j1⟩ := (show _ from V1.out.b)
  have HY := Lib.hid (V1.out.later (belAlloc X (.cells #[.int .i64 5, .int .i32 0, .bool false, .slice none 0 0] 47)))
  obtain ⟨y6, r6, j6⟩ := (show _ from HY.out.r); have q0 : (X.alloc (.cells #[.int .i64 5, .int .i32 0, .bool false, .slice none 0 0] 47)).cell? ⟨w.heap.size + 1, 0, none⟩ = some (.int .i64 0) := r6 0; have q1 : (X.alloc (.cells #[.int .i64 5, .int .i32 0, .bool false, .slice none 0 0] 47)).cell? ⟨w.heap.size + 1, 1, none⟩ = some (.int .u8 0) := r6 1; have q2 : (X.alloc (.cells #[.int .i64 5, .int .i32 0, .bool false, .slice none 0 0] 47)).cell? ⟨w.heap.size + 1, 2, none⟩ = some (.int .u8 0) := r6 2; have q3 : (X.alloc (.cells #[.int .i64 5, .int .i32 0, .bool false, .slice none 0 0] 47)).cell? ⟨w.heap.size + 1, 3, none⟩ = some (.int .u8 0) := r6 3; have q4 : (X.alloc (.cells #[.int .i64 5, .int .i32 0, .bool false, .slice none 0 0] 47)).cell? ⟨w.heap.size + 1, 4, none⟩ = some (.int .i64 0) := r6 4; have q5 : (X.alloc (.cells #[.int .i64 5, .int .i32 0, .bool false, .slice none 0 0] 47)).cell? ⟨w.heap.size + 1, 5, none⟩ = some (.bool false) := r6 5; have q6 : (X.alloc (.cells #[.int .i64 5, .int .i32 0, .bool false, .slice none 0 0] 47)).cell? ⟨w.heap.size + 1, 6, none⟩ = some (.string ⟨#[]⟩) := r6 6; have q7 : (X.alloc (.cells #[.int .i64 5, .int .i32 0, .bool false, .slice none 0 0] 47)).cell? ⟨w.heap.size + 1, 7, none⟩ = some (.pointer none) := r6 7; have q8 : (X.alloc (.cells #[.int .i64 5, .int .i32 0, .bool false, .slice none 0 0] 47)).cell? ⟨w.heap.size + 1, 8, none⟩ = some (.int .i64 0) := r6 8; have f0 := j6 0; have f1 := j6 1; have f2 := j6 2; have f3 := j6 3; have f4 := j6 4; have f5 := j6 5; have f6 := j6 6; have f7 := j6 7; have f8 := j6 8; clear r6 j6
  go_wp2_with (go_at_call 37; refine (CC.out _).mono ?_; rintro e _ ⟨rfl, rfl⟩)
  refine at_world (FinP w ⟨0, ⟨0, 0, 0, 0⟩, false, ⟨#[]⟩, [], 0⟩ none (.slice (some ⟨X.heap.size, 0, none⟩) 1 1) 1 [⟨5, 0, false, []⟩]) (fin_put (s := ⟨0, ⟨0, 0, 0, 0⟩, false, ⟨#[]⟩, [], 0⟩) HY.out (kyW_new1 X _ 5 0 false) rfl rfl) ?_
  rintro Z ⟨⟨y9, k9, j9⟩, hk, hn, hb, hc⟩
  have HZ := Lib.hid (And.intro hc (And.intro hk (And.intro hn hb)))
  have e0 := k9 0
  have e1 := k9 1
  have e2 := k9 2
  have e3 := k9 3
  have e4 := k9 4
  have e5 := k9 5
  have e6 := k9 6
  have e7 := k9 7
  have e8 := k9 8
  clear hc hk hn hb k9 j9 y9 q0 q1 q2 q3 q4 q5 q6 q7 q8 f0 f1 f2 f3 f4 f5 f6 f7 f8 y6 
  refine bodyPost_ret (v := .tuple #[psV ⟨0, ⟨0, 0, 0, 0⟩, false, ⟨#[]⟩, [], 0⟩ none, .slice (some ⟨X.heap.size, 0, none⟩) 1 1]) (by simp at e0 e1 e2 e3 e4 e5 e6 e7 e8; simp [results, Try.results19, go_sem, e0, e1, e2, e3, e4, e5, e6, e7, e8]) rfl ⟨none, (some ⟨X.heap.size, 0, none⟩), 1, 1, rfl, HZ.out.1, HZ.out.2.1, HZ.out.2.2.1, HZ.out.2.2.2⟩

set_option maxHeartbeats 4000000 in
theorem row_more (row : ByteArray) (b : Int) (b0 : 0 ≤ b) (b1 : b ≤ 255) (hc : ctlB b = false) (hg : ¬ 127 < b) (h64 : b < 64) (h16 : row.size < 16) (w : World) : Calls Try.prog 19 #[psV ⟨2, ⟨0, 0, 0, 0⟩, false, row, [], 0⟩ none, .int .u8 b] w (Tells (⟨2, ⟨0, 0, 0, 0⟩, false, row.push (UInt8.ofNat b.toNat), [], 0⟩, []) w) := by
  have CC := Lib.hid (fun X => control_any b X)
  rw [hc] at CC
  clear hc
  have hu0 := row_push row (UInt8.ofNat b.toNat)
  have cv0 := fun X => row_conv X b
  obtain ⟨u, hu⟩ : ∃ u, UInt8.ofNat b.toNat = u := ⟨_, rfl⟩
  rw [hu] at hu0 cv0 ⊢
  obtain ⟨rp, hrp⟩ : ∃ rp, row.push u = rp := ⟨_, rfl⟩
  rw [hrp] at hu0 ⊢
  have CV := Lib.hid cv0
  have h16i : (row.size : Int) < 16 := by omega
  have HP := Lib.hid hu0
  clear hu cv0 hu0 hrp
  have V0 := Lib.hid (fm_start w ⟨2, ⟨0, 0, 0, 0⟩, false, row, [], 0⟩ none)
  go_enter Try.func19, Try.ntmps19
  go_upto_region 1 with fail
  refine at_world (Fm w ⟨2, ⟨0, 0, 0, 0⟩, false, row, [], 0⟩ none) V0.out ?_
  intro X hX
  have V1 := Lib.hid hX
  clear hX V0
  have HY := Lib.hid (V1.out.later (belAlloc X (.cells #[.int .u8 b] 5)))
  obtain ⟨yb, rb, jb⟩ := (show _ from V1.out.b); have u0 : X.cell? ⟨w.heap.size, 0, none⟩ = some (.int .i64 2) := rb 0; have u1 : X.cell? ⟨w.heap.size, 1, none⟩ = some (.int .u8 0) := rb 1; have u2 : X.cell? ⟨w.heap.size, 2, none⟩ = some (.int .u8 0) := rb 2; have u3 : X.cell? ⟨w.heap.size, 3, none⟩ = some (.int .u8 0) := rb 3; have u4 : X.cell? ⟨w.heap.size, 4, none⟩ = some (.int .i64 0) := rb 4; have u5 : X.cell? ⟨w.heap.size, 5, none⟩ = some (.bool false) := rb 5; have u6 : X.cell? ⟨w.heap.size, 6, none⟩ = some (.string row) := rb 6; have u7 : X.cell? ⟨w.heap.size, 7, none⟩ = some (.pointer none) := rb 7; have u8 : X.cell? ⟨w.heap.size, 8, none⟩ = some (.int .i64 0) := rb 8; have v0 := jb 0; have v1 := jb 1; have v2 := jb 2; have v3 := jb 3; have v4 := jb 4; have v5 := jb 5; have v6 := jb 6; have v7 := jb 7; have v8 := jb 8; clear rb jb
  clear v0 v1 v2 v3 v4 v5 v6 v7 v8
  go_upto_region 4 with (go_at_call 37; refine (CC.out _).mono ?_; rintro e _ ⟨rfl, rfl⟩)
  clear u0 u1 u2 u3 u4 u5 u6 u7 u8 yb
  have u6' : X.cell? ⟨w.heap.size, 6, none⟩ = some (.string row) := V1.out.b.2.1 6
  obtain ⟨yb, rb, jb⟩ := (show _ from HY.out.b); have u0 : (X.alloc (.cells #[.int .u8 b] 5)).cell? ⟨w.heap.size, 0, none⟩ = some (.int .i64 2) := rb 0; have u1 : (X.alloc (.cells #[.int .u8 b] 5)).cell? ⟨w.heap.size, 1, none⟩ = some (.int .u8 0) := rb 1; have u2 : (X.alloc (.cells #[.int .u8 b] 5)).cell? ⟨w.heap.size, 2, none⟩ = some (.int .u8 0) := rb 2; have u3 : (X.alloc (.cells #[.int .u8 b] 5)).cell? ⟨w.heap.size, 3, none⟩ = some (.int .u8 0) := rb 3; have u4 : (X.alloc (.cells #[.int .u8 b] 5)).cell? ⟨w.heap.size, 4, none⟩ = some (.int .i64 0) := rb 4; have u5 : (X.alloc (.cells #[.int .u8 b] 5)).cell? ⟨w.heap.size, 5, none⟩ = some (.bool false) := rb 5; have u6 : (X.alloc (.cells #[.int .u8 b] 5)).cell? ⟨w.heap.size, 6, none⟩ = some (.string row) := rb 6; have u7 : (X.alloc (.cells #[.int .u8 b] 5)).cell? ⟨w.heap.size, 7, none⟩ = some (.pointer none) := rb 7; have u8 : (X.alloc (.cells #[.int .u8 b] 5)).cell? ⟨w.heap.size, 8, none⟩ = some (.int .i64 0) := rb 8; have v0 := jb 0; have v1 := jb 1; have v2 := jb 2; have v3 := jb 3; have v4 := jb 4; have v5 := jb 5; have v6 := jb 6; have v7 := jb 7; have v8 := jb 8; clear rb jb
  have cv := CV.out X
  have ct := row_cat (X.alloc (.cells #[.int .u8 b] 5)) row ⟨#[u]⟩ (by show row.size + 1 ≤ 1000000; omega)
  go_upto_region 5 with fail
  refine at_world (Fm w ⟨2, ⟨0, 0, 0, 0⟩, false, rp, [], 0⟩ none) (by rw [← HP.out]; exact HY.out.setRow _) ?_
  clear u0 u1 u2 u3 u4 u5 u6 u7 u8 v0 v1 v2 v3 v4 v5 v6 v7 v8 yb cv ct u6' HY V1
  intro X2 hX
  have V2 := Lib.hid hX
  clear hX
  clear HP
  obtain ⟨y1, k1, j1⟩ := (show _ from V2.out.b)
  obtain ⟨y6, r6, j6⟩ := (show _ from V2.out.r); have q0 : X2.cell? ⟨w.heap.size + 1, 0, none⟩ = some (.int .i64 0) := r6 0; have q1 : X2.cell? ⟨w.heap.size + 1, 1, none⟩ = some (.int .u8 0) := r6 1; have q2 : X2.cell? ⟨w.heap.size + 1, 2, none⟩ = some (.int .u8 0) := r6 2; have q3 : X2.cell? ⟨w.heap.size + 1, 3, none⟩ = some (.int .u8 0) := r6 3; have q4 : X2.cell? ⟨w.heap.size + 1, 4, none⟩ = some (.int .i64 0) := r6 4; have q5 : X2.cell? ⟨w.heap.size + 1, 5, none⟩ = some (.bool false) := r6 5; have q6 : X2.cell? ⟨w.heap.size + 1, 6, none⟩ = some (.string ⟨#[]⟩) := r6 6; have q7 : X2.cell? ⟨w.heap.size + 1, 7, none⟩ = some (.pointer none) := r6 7; have q8 : X2.cell? ⟨w.heap.size + 1, 8, none⟩ = some (.int .i64 0) := r6 8; have f0 := j6 0; have f1 := j6 1; have f2 := j6 2; have f3 := j6 3; have f4 := j6 4; have f5 := j6 5; have f6 := j6 6; have f7 := j6 7; have f8 := j6 8; clear r6 j6
  go_wp2_with fail
  refine at_world (FinP w ⟨2, ⟨0, 0, 0, 0⟩, false, rp, [], 0⟩ none (.slice none 0 0) 0 []) (fin_put (s := ⟨2, ⟨0, 0, 0, 0⟩, false, rp, [], 0⟩) V2.out (kyW_nil _) rfl rfl) ?_
  rintro Z ⟨⟨y9, k9, j9⟩, hk, hn, hb, hc⟩
  have HZ := Lib.hid (And.intro hc (And.intro hk (And.intro hn hb)))
  have e0 := k9 0
  have e1 := k9 1
  have e2 := k9 2
  have e3 := k9 3
  have e4 := k9 4
  have e5 := k9 5
  have e6 := k9 6
  have e7 := k9 7
  have e8 := k9 8
  clear hc hk hn hb k9 j9 y9 q0 q1 q2 q3 q4 q5 q6 q7 q8 f0 f1 f2 f3 f4 f5 f6 f7 f8 y6 
  refine bodyPost_ret (v := .tuple #[psV ⟨2, ⟨0, 0, 0, 0⟩, false, rp, [], 0⟩ none, .slice none 0 0]) (by simp at e0 e1 e2 e3 e4 e5 e6 e7 e8; simp [results, Try.results19, go_sem, e0, e1, e2, e3, e4, e5, e6, e7, e8]) rfl ⟨none, none, 0, 0, rfl, HZ.out.1, HZ.out.2.1, HZ.out.2.2.1, HZ.out.2.2.2⟩

theorem inRow_any (row : ByteArray) (b : Int) (b0 : 0 ≤ b) (b1 : b ≤ 255) (w : World) : Calls Try.prog 19 #[psV ⟨2, ⟨0, 0, 0, 0⟩, false, row, [], 0⟩ none, .int .u8 b] w (Tells (inRowK row b) w) := by
  unfold inRowK
  by_cases h1 : ctlB b = true
  · rw [h1, Bool.true_or, if_pos rfl]; exact row_odd1 row b b0 b1 h1 w
  have h1' : ctlB b = false := by simpa using h1
  by_cases h2 : 127 < b
  · rw [decide_eq_true h2, Bool.or_true, if_pos rfl]; exact row_odd2 row b b0 b1 h1' h2 w
  rw [h1', decide_eq_false h2, Bool.false_or, if_neg (by decide)]
  by_cases h3 : b < 64 ∧ row.size < 16
  · rw [if_pos h3]; exact row_more row b b0 b1 h1' h2 h3.1 h3.2 w
  rw [if_neg h3]
  by_cases h4 : b = 126
  · by_cases h5 : row = ⟨#[50, 48, 48]⟩
    · rw [if_pos ⟨h4, h5⟩]; exact row_paste row b h5 h4 w
    · rw [if_neg (fun h => h5 h.2), if_pos h4]; exact row_num row b h5 h4 w
  rw [if_neg (fun h => h4 h.1), if_neg h4]
  have h4' : (b == 126) = false := by simpa using h4
  by_cases h6 : row = ⟨#[]⟩
  · rw [if_pos h6]
    have h64 : ¬ b < 64 := fun h => h3 ⟨h, by rw [h6]; decide⟩
    exact row_let row b b0 b1 h1' h2 h4' h64 h6 w
  · rw [if_neg h6]
    by_cases h64 : b < 64
    · exact row_key2 row b b0 b1 h1' h2 h4' h64 (fun h => h3 ⟨h64, h⟩) h6 w
    · exact row_key1 row b b0 b1 h1' h2 h4' h64 h6 w
end Go.Proofs.Ytkkenabckhmkoaa
