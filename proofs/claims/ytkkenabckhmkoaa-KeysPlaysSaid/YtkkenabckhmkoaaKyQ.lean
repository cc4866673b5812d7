/- keys: Feed. -/
import Derived.Test.YtkkenabckhmkoaaKyO
namespace Go.Proofs.Ytkkenabckhmkoaa
open Go.RowKit
set_option linter.unusedVariables false
set_option linter.unusedSimpArgs false
set_option maxRecDepth 100000

theorem inPaste_any (tx : List Int) (cl : Nat) (b : Int) (T : Option Addr) (hcl : cl < 6) (hle : cl ≤ tx.length) (hlen : tx.length ≤ 100000) (hbs : ∀ b ∈ tx, 0 ≤ b ∧ b ≤ 255) (w : World) (hc : Chain w T tx) :
    Calls Try.prog 21 #[psV ⟨4, ⟨0, 0, 0, 0⟩, false, ⟨#[]⟩, tx, cl⟩ T, .int .u8 b] w (Tells (inPasteK tx cl b) w) := by
  unfold inPasteK
  by_cases h : closesK cl b < 6
  · rw [if_pos h]
    exact pasteA_any tx cl b T hcl h w hc
  · rw [if_neg h]
    have h2 : cl = 5 ∧ b = 126 := by
      unfold closesK at h
      by_cases h1 : b = pasteEnd.getD cl 0
      · rw [if_pos h1] at h
        have h3 : cl = 5 := by omega
        subst h3
        exact ⟨rfl, h1⟩
      · rw [if_neg h1] at h
        split at h <;> omega
    obtain ⟨rfl, rfl⟩ := h2
    exact paste_end tx T w hc hbs hle hlen

set_option maxHeartbeats 4000000 in
theorem feed_0 (h0 h1 h2 dn : Int) (sm : Bool) (srow : ByteArray) (stx : List Int) (scl : Nat) (T : Option Addr) (b : Int) (R : KS × List Ky) (w : World) (hD : ∀ X, Below w.heap.size w X → Calls Try.prog 22 #[psV ⟨0, ⟨h0, h1, h2, dn⟩, sm, srow, stx, scl⟩ T, .int .u8 b] X (Tells R X)) :
    Calls Try.prog 7 #[psV ⟨0, ⟨h0, h1, h2, dn⟩, sm, srow, stx, scl⟩ T, .int .u8 b] w (Tells R w) := by
  have CD := Lib.hid hD
  clear hD
  obtain ⟨⟨rw_, ⟨x, y, z, n⟩, rm, rrow, rtx, rcl⟩, ks⟩ := R
  have V0 := Lib.hid (fm_start w ⟨0, ⟨h0, h1, h2, dn⟩, sm, srow, stx, scl⟩ T)
  go_enter Try.func7, Try.ntmps7
  go_upto_region 1 with fail
  refine at_world (Fm w ⟨0, ⟨h0, h1, h2, dn⟩, sm, srow, stx, scl⟩ T) V0.out ?_
  intro X hX
  have V1 := Lib.hid hX
  clear hX V0
  obtain ⟨y1, k1, j1⟩ := (show _ from V1.out.b)
  go_wp2_with (go_at_call 22; refine (CD.out _ V1.out.below).mono ?_; rintro e w6 ⟨T6, A6, n6, c6, rfl, ch, hk, hn, b6⟩; have V6 := Lib.hid (And.intro (V1.out.later b6) (And.intro ch (And.intro hk hn))); clear ch hk hn b6; obtain ⟨y6, r6, j6⟩ := (show _ from V6.out.1.r); have q0 : w6.cell? ⟨w.heap.size + 1, 0, none⟩ = some (.int .i64 0) := r6 0; have q1 : w6.cell? ⟨w.heap.size + 1, 1, none⟩ = some (.int .u8 0) := r6 1; have q2 : w6.cell? ⟨w.heap.size + 1, 2, none⟩ = some (.int .u8 0) := r6 2; have q3 : w6.cell? ⟨w.heap.size + 1, 3, none⟩ = some (.int .u8 0) := r6 3; have q4 : w6.cell? ⟨w.heap.size + 1, 4, none⟩ = some (.int .i64 0) := r6 4; have q5 : w6.cell? ⟨w.heap.size + 1, 5, none⟩ = some (.bool false) := r6 5; have q6 : w6.cell? ⟨w.heap.size + 1, 6, none⟩ = some (.string ⟨#[]⟩) := r6 6; have q7 : w6.cell? ⟨w.heap.size + 1, 7, none⟩ = some (.pointer none) := r6 7; have q8 : w6.cell? ⟨w.heap.size + 1, 8, none⟩ = some (.int .i64 0) := r6 8; have f0 := j6 0; have f1 := j6 1; have f2 := j6 2; have f3 := j6 3; have f4 := j6 4; have f5 := j6 5; have f6 := j6 6; have f7 := j6 7; have f8 := j6 8; clear r6 j6)
  refine at_world (FinP w ⟨rw_, ⟨x, y, z, n⟩, rm, rrow, rtx, rcl⟩ T6 (.slice A6 n6 c6) n6 ks) (fin_put (s := ⟨rw_, ⟨x, y, z, n⟩, rm, rrow, rtx, rcl⟩) V6.out.1 V6.out.2.2.1 V6.out.2.2.2 V6.out.2.1) ?_
  rintro Z ⟨⟨y9, k9, j9⟩, hk, hn, hb, hc⟩
  have HZ := Lib.hid (And.intro hc (And.intro hk (And.intro hn hb)))
  have e0 := k9 0
  have e1 := k9 1
  have e2 := k9 2
  have e3 := k9 3
  have e4 := k9 4
  have e5 := k9 5
  have e6 := k9 6
  have e7 := k9 7
  have e8 := k9 8
  clear hc hk hn hb k9 j9 y9 q0 q1 q2 q3 q4 q5 q6 q7 q8 f0 f1 f2 f3 f4 f5 f6 f7 f8 y6 
  refine bodyPost_ret (v := .tuple #[psV ⟨rw_, ⟨x, y, z, n⟩, rm, rrow, rtx, rcl⟩ T6, .slice A6 n6 c6]) (by simp at e0 e1 e2 e3 e4 e5 e6 e7 e8; simp [results, Try.results7, go_sem, e0, e1, e2, e3, e4, e5, e6, e7, e8]) rfl ⟨T6, A6, n6, c6, rfl, HZ.out.1, HZ.out.2.1, HZ.out.2.2.1, HZ.out.2.2.2⟩

set_option maxHeartbeats 4000000 in
theorem feed_1 (h0 h1 h2 dn : Int) (sm : Bool) (srow : ByteArray) (stx : List Int) (scl : Nat) (T : Option Addr) (b : Int) (R : KS × List Ky) (w : World) (hD : ∀ X, Below w.heap.size w X → Calls Try.prog 18 #[psV ⟨1, ⟨h0, h1, h2, dn⟩, sm, srow, stx, scl⟩ T, .int .u8 b] X (Tells R X)) :
    Calls Try.prog 7 #[psV ⟨1, ⟨h0, h1, h2, dn⟩, sm, srow, stx, scl⟩ T, .int .u8 b] w (Tells R w) := by
  have CD := Lib.hid hD
  clear hD
  obtain ⟨⟨rw_, ⟨x, y, z, n⟩, rm, rrow, rtx, rcl⟩, ks⟩ := R
  have V0 := Lib.hid (fm_start w ⟨1, ⟨h0, h1, h2, dn⟩, sm, srow, stx, scl⟩ T)
  go_enter Try.func7, Try.ntmps7
  go_upto_region 1 with fail
  refine at_world (Fm w ⟨1, ⟨h0, h1, h2, dn⟩, sm, srow, stx, scl⟩ T) V0.out ?_
  intro X hX
  have V1 := Lib.hid hX
  clear hX V0
  obtain ⟨y1, k1, j1⟩ := (show _ from V1.out.b)
  go_wp2_with (go_at_call 18; refine (CD.out _ V1.out.below).mono ?_; rintro e w6 ⟨T6, A6, n6, c6, rfl, ch, hk, hn, b6⟩; have V6 := Lib.hid (And.intro (V1.out.later b6) (And.intro ch (And.intro hk hn))); clear ch hk hn b6; obtain ⟨y6, r6, j6⟩ := (show _ from V6.out.1.r); have q0 : w6.cell? ⟨w.heap.size + 1, 0, none⟩ = some (.int .i64 0) := r6 0; have q1 : w6.cell? ⟨w.heap.size + 1, 1, none⟩ = some (.int .u8 0) := r6 1; have q2 : w6.cell? ⟨w.heap.size + 1, 2, none⟩ = some (.int .u8 0) := r6 2; have q3 : w6.cell? ⟨w.heap.size + 1, 3, none⟩ = some (.int .u8 0) := r6 3; have q4 : w6.cell? ⟨w.heap.size + 1, 4, none⟩ = some (.int .i64 0) := r6 4; have q5 : w6.cell? ⟨w.heap.size + 1, 5, none⟩ = some (.bool false) := r6 5; have q6 : w6.cell? ⟨w.heap.size + 1, 6, none⟩ = some (.string ⟨#[]⟩) := r6 6; have q7 : w6.cell? ⟨w.heap.size + 1, 7, none⟩ = some (.pointer none) := r6 7; have q8 : w6.cell? ⟨w.heap.size + 1, 8, none⟩ = some (.int .i64 0) := r6 8; have f0 := j6 0; have f1 := j6 1; have f2 := j6 2; have f3 := j6 3; have f4 := j6 4; have f5 := j6 5; have f6 := j6 6; have f7 := j6 7; have f8 := j6 8; clear r6 j6)
  refine at_world (FinP w ⟨rw_, ⟨x, y, z, n⟩, rm, rrow, rtx, rcl⟩ T6 (.slice A6 n6 c6) n6 ks) (fin_put (s := ⟨rw_, ⟨x, y, z, n⟩, rm, rrow, rtx, rcl⟩) V6.out.1 V6.out.2.2.1 V6.out.2.2.2 V6.out.2.1) ?_
  rintro Z ⟨⟨y9, k9, j9⟩, hk, hn, hb, hc⟩
  have HZ := Lib.hid (And.intro hc (And.intro hk (And.intro hn hb)))
  have e0 := k9 0
  have e1 := k9 1
  have e2 := k9 2
  have e3 := k9 3
  have e4 := k9 4
  have e5 := k9 5
  have e6 := k9 6
  have e7 := k9 7
  have e8 := k9 8
  clear hc hk hn hb k9 j9 y9 q0 q1 q2 q3 q4 q5 q6 q7 q8 f0 f1 f2 f3 f4 f5 f6 f7 f8 y6 
  refine bodyPost_ret (v := .tuple #[psV ⟨rw_, ⟨x, y, z, n⟩, rm, rrow, rtx, rcl⟩ T6, .slice A6 n6 c6]) (by simp at e0 e1 e2 e3 e4 e5 e6 e7 e8; simp [results, Try.results7, go_sem, e0, e1, e2, e3, e4, e5, e6, e7, e8]) rfl ⟨T6, A6, n6, c6, rfl, HZ.out.1, HZ.out.2.1, HZ.out.2.2.1, HZ.out.2.2.2⟩

set_option maxHeartbeats 4000000 in
theorem feed_2 (h0 h1 h2 dn : Int) (sm : Bool) (srow : ByteArray) (stx : List Int) (scl : Nat) (T : Option Addr) (b : Int) (R : KS × List Ky) (w : World) (hD : ∀ X, Below w.heap.size w X → Calls Try.prog 19 #[psV ⟨2, ⟨h0, h1, h2, dn⟩, sm, srow, stx, scl⟩ T, .int .u8 b] X (Tells R X)) :
    Calls Try.prog 7 #[psV ⟨2, ⟨h0, h1, h2, dn⟩, sm, srow, stx, scl⟩ T, .int .u8 b] w (Tells R w) := by
  have CD := Lib.hid hD
  clear hD
  obtain ⟨⟨rw_, ⟨x, y, z, n⟩, rm, rrow, rtx, rcl⟩, ks⟩ := R
  have V0 := Lib.hid (fm_start w ⟨2, ⟨h0, h1, h2, dn⟩, sm, srow, stx, scl⟩ T)
  go_enter Try.func7, Try.ntmps7
  go_upto_region 1 with fail
  refine at_world (Fm w ⟨2, ⟨h0, h1, h2, dn⟩, sm, srow, stx, scl⟩ T) V0.out ?_
  intro X hX
  have V1 := Lib.hid hX
  clear hX V0
  obtain ⟨y1, k1, j1⟩ := (show _ from V1.out.b)
  go_wp2_with (go_at_call 19; refine (CD.out _ V1.out.below).mono ?_; rintro e w6 ⟨T6, A6, n6, c6, rfl, ch, hk, hn, b6⟩; have V6 := Lib.hid (And.intro (V1.out.later b6) (And.intro ch (And.intro hk hn))); clear ch hk hn b6; obtain ⟨y6, r6, j6⟩ := (show _ from V6.out.1.r); have q0 : w6.cell? ⟨w.heap.size + 1, 0, none⟩ = some (.int .i64 0) := r6 0; have q1 : w6.cell? ⟨w.heap.size + 1, 1, none⟩ = some (.int .u8 0) := r6 1; have q2 : w6.cell? ⟨w.heap.size + 1, 2, none⟩ = some (.int .u8 0) := r6 2; have q3 : w6.cell? ⟨w.heap.size + 1, 3, none⟩ = some (.int .u8 0) := r6 3; have q4 : w6.cell? ⟨w.heap.size + 1, 4, none⟩ = some (.int .i64 0) := r6 4; have q5 : w6.cell? ⟨w.heap.size + 1, 5, none⟩ = some (.bool false) := r6 5; have q6 : w6.cell? ⟨w.heap.size + 1, 6, none⟩ = some (.string ⟨#[]⟩) := r6 6; have q7 : w6.cell? ⟨w.heap.size + 1, 7, none⟩ = some (.pointer none) := r6 7; have q8 : w6.cell? ⟨w.heap.size + 1, 8, none⟩ = some (.int .i64 0) := r6 8; have f0 := j6 0; have f1 := j6 1; have f2 := j6 2; have f3 := j6 3; have f4 := j6 4; have f5 := j6 5; have f6 := j6 6; have f7 := j6 7; have f8 := j6 8; clear r6 j6)
  refine at_world (FinP w ⟨rw_, ⟨x, y, z, n⟩, rm, rrow, rtx, rcl⟩ T6 (.slice A6 n6 c6) n6 ks) (fin_put (s := ⟨rw_, ⟨x, y, z, n⟩, rm, rrow, rtx, rcl⟩) V6.out.1 V6.out.2.2.1 V6.out.2.2.2 V6.out.2.1) ?_
  rintro Z ⟨⟨y9, k9, j9⟩, hk, hn, hb, hc⟩
  have HZ := Lib.hid (And.intro hc (And.intro hk (And.intro hn hb)))
  have e0 := k9 0
  have e1 := k9 1
  have e2 := k9 2
  have e3 := k9 3
  have e4 := k9 4
  have e5 := k9 5
  have e6 := k9 6
  have e7 := k9 7
  have e8 := k9 8
  clear hc hk hn hb k9 j9 y9 q0 q1 q2 q3 q4 q5 q6 q7 q8 f0 f1 f2 f3 f4 f5 f6 f7 f8 y6 
  refine bodyPost_ret (v := .tuple #[psV ⟨rw_, ⟨x, y, z, n⟩, rm, rrow, rtx, rcl⟩ T6, .slice A6 n6 c6]) (by simp at e0 e1 e2 e3 e4 e5 e6 e7 e8; simp [results, Try.results7, go_sem, e0, e1, e2, e3, e4, e5, e6, e7, e8]) rfl ⟨T6, A6, n6, c6, rfl, HZ.out.1, HZ.out.2.1, HZ.out.2.2.1, HZ.out.2.2.2⟩

set_option maxHeartbeats 4000000 in
theorem feed_3 (h0 h1 h2 dn : Int) (sm : Bool) (srow : ByteArray) (stx : List Int) (scl : Nat) (T : Option Addr) (b : Int) (R : KS × List Ky) (w : World) (hD : ∀ X, Below w.heap.size w X → Calls Try.prog 20 #[psV ⟨3, ⟨h0, h1, h2, dn⟩, sm, srow, stx, scl⟩ T, .int .u8 b] X (Tells R X)) :
    Calls Try.prog 7 #[psV ⟨3, ⟨h0, h1, h2, dn⟩, sm, srow, stx, scl⟩ T, .int .u8 b] w (Tells R w) := by
  have CD := Lib.hid hD
  clear hD
  obtain ⟨⟨rw_, ⟨x, y, z, n⟩, rm, rrow, rtx, rcl⟩, ks⟩ := R
  have V0 := Lib.hid (fm_start w ⟨3, ⟨h0, h1, h2, dn⟩, sm, srow, stx, scl⟩ T)
  go_enter Try.func7, Try.ntmps7
  go_upto_region 1 with fail
  refine at_world (Fm w ⟨3, ⟨h0, h1, h2, dn⟩, sm, srow, stx, scl⟩ T) V0.out ?_
  intro X hX
  have V1 := Lib.hid hX
  clear hX V0
  obtain ⟨y1, k1, j1⟩ := (show _ from V1.out.b)
  go_wp2_with (go_at_call 20; refine (CD.out _ V1.out.below).mono ?_; rintro e w6 ⟨T6, A6, n6, c6, rfl, ch, hk, hn, b6⟩; have V6 := Lib.hid (And.intro (V1.out.later b6) (And.intro ch (And.intro hk hn))); clear ch hk hn b6; obtain ⟨y6, r6, j6⟩ := (show _ from V6.out.1.r); have q0 : w6.cell? ⟨w.heap.size + 1, 0, none⟩ = some (.int .i64 0) := r6 0; have q1 : w6.cell? ⟨w.heap.size + 1, 1, none⟩ = some (.int .u8 0) := r6 1; have q2 : w6.cell? ⟨w.heap.size + 1, 2, none⟩ = some (.int .u8 0) := r6 2; have q3 : w6.cell? ⟨w.heap.size + 1, 3, none⟩ = some (.int .u8 0) := r6 3; have q4 : w6.cell? ⟨w.heap.size + 1, 4, none⟩ = some (.int .i64 0) := r6 4; have q5 : w6.cell? ⟨w.heap.size + 1, 5, none⟩ = some (.bool false) := r6 5; have q6 : w6.cell? ⟨w.heap.size + 1, 6, none⟩ = some (.string ⟨#[]⟩) := r6 6; have q7 : w6.cell? ⟨w.heap.size + 1, 7, none⟩ = some (.pointer none) := r6 7; have q8 : w6.cell? ⟨w.heap.size + 1, 8, none⟩ = some (.int .i64 0) := r6 8; have f0 := j6 0; have f1 := j6 1; have f2 := j6 2; have f3 := j6 3; have f4 := j6 4; have f5 := j6 5; have f6 := j6 6; have f7 := j6 7; have f8 := j6 8; clear r6 j6)
  refine at_world (FinP w ⟨rw_, ⟨x, y, z, n⟩, rm, rrow, rtx, rcl⟩ T6 (.slice A6 n6 c6) n6 ks) (fin_put (s := ⟨rw_, ⟨x, y, z, n⟩, rm, rrow, rtx, rcl⟩) V6.out.1 V6.out.2.2.1 V6.out.2.2.2 V6.out.2.1) ?_
  rintro Z ⟨⟨y9, k9, j9⟩, hk, hn, hb, hc⟩
  have HZ := Lib.hid (And.intro hc (And.intro hk (And.intro hn hb)))
  have e0 := k9 0
  have e1 := k9 1
  have e2 := k9 2
  have e3 := k9 3
  have e4 := k9 4
  have e5 := k9 5
  have e6 := k9 6
  have e7 := k9 7
  have e8 := k9 8
  clear hc hk hn hb k9 j9 y9 q0 q1 q2 q3 q4 q5 q6 q7 q8 f0 f1 f2 f3 f4 f5 f6 f7 f8 y6 
  refine bodyPost_ret (v := .tuple #[psV ⟨rw_, ⟨x, y, z, n⟩, rm, rrow, rtx, rcl⟩ T6, .slice A6 n6 c6]) (by simp at e0 e1 e2 e3 e4 e5 e6 e7 e8; simp [results, Try.results7, go_sem, e0, e1, e2, e3, e4, e5, e6, e7, e8]) rfl ⟨T6, A6, n6, c6, rfl, HZ.out.1, HZ.out.2.1, HZ.out.2.2.1, HZ.out.2.2.2⟩

set_option maxHeartbeats 4000000 in
theorem feed_4 (h0 h1 h2 dn : Int) (sm : Bool) (srow : ByteArray) (stx : List Int) (scl : Nat) (T : Option Addr) (b : Int) (R : KS × List Ky) (w : World) (hD : ∀ X, Below w.heap.size w X → Calls Try.prog 21 #[psV ⟨4, ⟨h0, h1, h2, dn⟩, sm, srow, stx, scl⟩ T, .int .u8 b] X (Tells R X)) :
    Calls Try.prog 7 #[psV ⟨4, ⟨h0, h1, h2, dn⟩, sm, srow, stx, scl⟩ T, .int .u8 b] w (Tells R w) := by
  have CD := Lib.hid hD
  clear hD
  obtain ⟨⟨rw_, ⟨x, y, z, n⟩, rm, rrow, rtx, rcl⟩, ks⟩ := R
  have V0 := Lib.hid (fm_start w ⟨4, ⟨h0, h1, h2, dn⟩, sm, srow, stx, scl⟩ T)
  go_enter Try.func7, Try.ntmps7
  go_upto_region 1 with fail
  refine at_world (Fm w ⟨4, ⟨h0, h1, h2, dn⟩, sm, srow, stx, scl⟩ T) V0.out ?_
  intro X hX
  have V1 := Lib.hid hX
  clear hX V0
  obtain ⟨y1, k1, j1⟩ := (show _ from V1.out.b)
  go_wp2_with (go_at_call 21; refine (CD.out _ V1.out.below).mono ?_; rintro e w6 ⟨T6, A6, n6, c6, rfl, ch, hk, hn, b6⟩; have V6 := Lib.hid (And.intro (V1.out.later b6) (And.intro ch (And.intro hk hn))); clear ch hk hn b6; obtain ⟨y6, r6, j6⟩ := (show _ from V6.out.1.r); have q0 : w6.cell? ⟨w.heap.size + 1, 0, none⟩ = some (.int .i64 0) := r6 0; have q1 : w6.cell? ⟨w.heap.size + 1, 1, none⟩ = some (.int .u8 0) := r6 1; have q2 : w6.cell? ⟨w.heap.size + 1, 2, none⟩ = some (.int .u8 0) := r6 2; have q3 : w6.cell? ⟨w.heap.size + 1, 3, none⟩ = some (.int .u8 0) := r6 3; have q4 : w6.cell? ⟨w.heap.size + 1, 4, none⟩ = some (.int .i64 0) := r6 4; have q5 : w6.cell? ⟨w.heap.size + 1, 5, none⟩ = some (.bool false) := r6 5; have q6 : w6.cell? ⟨w.heap.size + 1, 6, none⟩ = some (.string ⟨#[]⟩) := r6 6; have q7 : w6.cell? ⟨w.heap.size + 1, 7, none⟩ = some (.pointer none) := r6 7; have q8 : w6.cell? ⟨w.heap.size + 1, 8, none⟩ = some (.int .i64 0) := r6 8; have f0 := j6 0; have f1 := j6 1; have f2 := j6 2; have f3 := j6 3; have f4 := j6 4; have f5 := j6 5; have f6 := j6 6; have f7 := j6 7; have f8 := j6 8; clear r6 j6)
  refine at_world (FinP w ⟨rw_, ⟨x, y, z, n⟩, rm, rrow, rtx, rcl⟩ T6 (.slice A6 n6 c6) n6 ks) (fin_put (s := ⟨rw_, ⟨x, y, z, n⟩, rm, rrow, rtx, rcl⟩) V6.out.1 V6.out.2.2.1 V6.out.2.2.2 V6.out.2.1) ?_
  rintro Z ⟨⟨y9, k9, j9⟩, hk, hn, hb, hc⟩
  have HZ := Lib.hid (And.intro hc (And.intro hk (And.intro hn hb)))
  have e0 := k9 0
  have e1 := k9 1
  have e2 := k9 2
  have e3 := k9 3
  have e4 := k9 4
  have e5 := k9 5
  have e6 := k9 6
  have e7 := k9 7
  have e8 := k9 8
  clear hc hk hn hb k9 j9 y9 q0 q1 q2 q3 q4 q5 q6 q7 q8 f0 f1 f2 f3 f4 f5 f6 f7 f8 y6 
  refine bodyPost_ret (v := .tuple #[psV ⟨rw_, ⟨x, y, z, n⟩, rm, rrow, rtx, rcl⟩ T6, .slice A6 n6 c6]) (by simp at e0 e1 e2 e3 e4 e5 e6 e7 e8; simp [results, Try.results7, go_sem, e0, e1, e2, e3, e4, e5, e6, e7, e8]) rfl ⟨T6, A6, n6, c6, rfl, HZ.out.1, HZ.out.2.1, HZ.out.2.2.1, HZ.out.2.2.2⟩

theorem feed_any (s : KS) (T : Option Addr) (b : Int) (b0 : 0 ≤ b) (b1 : b ≤ 255) (hok : s.Ok) (w : World) (hc : Chain w T s.tx) :
    Calls Try.prog 7 #[psV s T, .int .u8 b] w (Tells (feedK s b) w) := by
  obtain ⟨hd, h | h | h | h | h⟩ := hok
  · obtain ⟨sw, ⟨h0, h1, h2, dn⟩, sm, srow, stx, scl⟩ := s
    obtain ⟨e1, e2, e3, e4⟩ := h
    dsimp only at e1 e2 e3 e4
    subst e1 e2 e3 e4
    exact feed_0 h0 h1 h2 dn sm _ _ _ T b _ w fun X _ => alone_any ⟨0, ⟨h0, h1, h2, dn⟩, sm, ⟨#[]⟩, [], 0⟩ T b b0 b1 hd X
  · subst h
    obtain rfl : T = none := hc
    exact feed_1 0 0 0 0 false _ _ _ none b _ w fun X _ => escaped_any b b0 b1 X
  · obtain ⟨r, rfl, _⟩ := h
    obtain rfl : T = none := hc
    exact feed_2 0 0 0 0 false _ _ _ none b _ w fun X _ => inRow_any r b b0 b1 X
  · subst h
    obtain rfl : T = none := hc
    exact feed_3 0 0 0 0 false _ _ _ none b _ w fun X _ => asLetter_any b b0 b1 X
  · obtain ⟨tx, cl, rfl, h1, h2, h3, h4⟩ := h
    exact feed_4 0 0 0 0 false _ _ _ T b _ w fun X hX => inPaste_any tx cl b T h1 h3 h4 h2 X (hc.later hX)
end Go.Proofs.Ytkkenabckhmkoaa
