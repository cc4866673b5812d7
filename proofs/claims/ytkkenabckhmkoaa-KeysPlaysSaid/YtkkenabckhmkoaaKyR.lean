/- keys: Tick, Waits. -/
import Derived.Test.YtkkenabckhmkoaaKyQ
namespace Go.Proofs.Ytkkenabckhmkoaa
open Go.RowKit
set_option linter.unusedVariables false
set_option linter.unusedSimpArgs false
set_option maxRecDepth 100000


set_option maxHeartbeats 4000000 in
theorem tick_4 (h0 h1 h2 dn : Int) (sm : Bool) (srow : ByteArray) (stx : List Int) (scl : Nat) (T : Option Addr) (w : World) (hc : Chain w T stx) : Calls Try.prog 9 #[psV ⟨4, ⟨h0, h1, h2, dn⟩, sm, srow, stx, scl⟩ T] w (Tells (⟨4, ⟨h0, h1, h2, dn⟩, sm, srow, stx, scl⟩, []) w) := by
  have HC := Lib.hid hc
  clear hc
  have V0 := Lib.hid (fm_start w ⟨4, ⟨h0, h1, h2, dn⟩, sm, srow, stx, scl⟩ T)
  go_enter Try.func9, Try.ntmps9
  go_upto_region 1 with fail
  refine at_world (Fm w ⟨4, ⟨h0, h1, h2, dn⟩, sm, srow, stx, scl⟩ T) V0.out ?_
  intro X hX
  have V1 := Lib.hid hX
  clear hX V0
  obtain ⟨y1, k1, j1⟩ := (show _ from V1.out.b)
  obtain ⟨y6, r6, j6⟩ := (show _ from V1.out.r); have q0 : X.cell? ⟨w.heap.size + 1, 0, none⟩ = some (.int .i64 0) := r6 0; have q1 : X.cell? ⟨w.heap.size + 1, 1, none⟩ = some (.int .u8 0) := r6 1; have q2 : X.cell? ⟨w.heap.size + 1, 2, none⟩ = some (.int .u8 0) := r6 2; have q3 : X.cell? ⟨w.heap.size + 1, 3, none⟩ = some (.int .u8 0) := r6 3; have q4 : X.cell? ⟨w.heap.size + 1, 4, none⟩ = some (.int .i64 0) := r6 4; have q5 : X.cell? ⟨w.heap.size + 1, 5, none⟩ = some (.bool false) := r6 5; have q6 : X.cell? ⟨w.heap.size + 1, 6, none⟩ = some (.string ⟨#[]⟩) := r6 6; have q7 : X.cell? ⟨w.heap.size + 1, 7, none⟩ = some (.pointer none) := r6 7; have q8 : X.cell? ⟨w.heap.size + 1, 8, none⟩ = some (.int .i64 0) := r6 8; have f0 := j6 0; have f1 := j6 1; have f2 := j6 2; have f3 := j6 3; have f4 := j6 4; have f5 := j6 5; have f6 := j6 6; have f7 := j6 7; have f8 := j6 8; clear r6 j6
  go_wp2_with fail
  refine at_world (FinP w ⟨4, ⟨h0, h1, h2, dn⟩, sm, srow, stx, scl⟩ T (.slice none 0 0) 0 []) (fin_put (s := ⟨4, ⟨h0, h1, h2, dn⟩, sm, srow, stx, scl⟩) V1.out (kyW_nil _) rfl (HC.out.later V1.out.below)) ?_
  rintro Z ⟨⟨y9, k9, j9⟩, hk, hn, hb, hc⟩
  have HZ := Lib.hid (And.intro hc (And.intro hk (And.intro hn hb)))
  have e0 := k9 0
  have e1 := k9 1
  have e2 := k9 2
  have e3 := k9 3
  have e4 := k9 4
  have e5 := k9 5
  have e6 := k9 6
  have e7 := k9 7
  have e8 := k9 8
  clear hc hk hn hb k9 j9 y9 q0 q1 q2 q3 q4 q5 q6 q7 q8 f0 f1 f2 f3 f4 f5 f6 f7 f8 y6 
  refine bodyPost_ret (v := .tuple #[psV ⟨4, ⟨h0, h1, h2, dn⟩, sm, srow, stx, scl⟩ T, .slice none 0 0]) (by simp at e0 e1 e2 e3 e4 e5 e6 e7 e8; simp [results, Try.results9, go_sem, e0, e1, e2, e3, e4, e5, e6, e7, e8]) rfl ⟨T, none, 0, 0, rfl, HZ.out.1, HZ.out.2.1, HZ.out.2.2.1, HZ.out.2.2.2⟩

set_option maxHeartbeats 4000000 in
theorem tick_1 (h0 h1 h2 dn : Int) (sm : Bool) (srow : ByteArray) (stx : List Int) (scl : Nat) (T : Option Addr) (w : World) : Calls Try.prog 9 #[psV ⟨1, ⟨h0, h1, h2, dn⟩, sm, srow, stx, scl⟩ T] w (Tells (⟨0, ⟨0, 0, 0, 0⟩, false, ⟨#[]⟩, [], 0⟩, [⟨2, 27, false, []⟩]) w) := by
  have V0 := Lib.hid (fm_start w ⟨1, ⟨h0, h1, h2, dn⟩, sm, srow, stx, scl⟩ T)
  go_enter Try.func9, Try.ntmps9
  go_upto_region 1 with fail
  refine at_world (Fm w ⟨1, ⟨h0, h1, h2, dn⟩, sm, srow, stx, scl⟩ T) V0.out ?_
  intro X hX
  have V1 := Lib.hid hX
  clear hX V0
  obtain ⟨y1, k1, j1⟩ := (show _ from V1.out.b)
  have HY := Lib.hid (V1.out.later (belAlloc X (.cells #[.int .i64 2, .int .i32 27, .bool false, .slice none 0 0] 47)))
  obtain ⟨y6, r6, j6⟩ := (show _ from HY.out.r); have q0 : (X.alloc (.cells #[.int .i64 2, .int .i32 27, .bool false, .slice none 0 0] 47)).cell? ⟨w.heap.size + 1, 0, none⟩ = some (.int .i64 0) := r6 0; have q1 : (X.alloc (.cells #[.int .i64 2, .int .i32 27, .bool false, .slice none 0 0] 47)).cell? ⟨w.heap.size + 1, 1, none⟩ = some (.int .u8 0) := r6 1; have q2 : (X.alloc (.cells #[.int .i64 2, .int .i32 27, .bool false, .slice none 0 0] 47)).cell? ⟨w.heap.size + 1, 2, none⟩ = some (.int .u8 0) := r6 2; have q3 : (X.alloc (.cells #[.int .i64 2, .int .i32 27, .bool false, .slice none 0 0] 47)).cell? ⟨w.heap.size + 1, 3, none⟩ = some (.int .u8 0) := r6 3; have q4 : (X.alloc (.cells #[.int .i64 2, .int .i32 27, .bool false, .slice none 0 0] 47)).cell? ⟨w.heap.size + 1, 4, none⟩ = some (.int .i64 0) := r6 4; have q5 : (X.alloc (.cells #[.int .i64 2, .int .i32 27, .bool false, .slice none 0 0] 47)).cell? ⟨w.heap.size + 1, 5, none⟩ = some (.bool false) := r6 5; have q6 : (X.alloc (.cells #[.int .i64 2, .int .i32 27, .bool false, .slice none 0 0] 47)).cell? ⟨w.heap.size + 1, 6, none⟩ = some (.string ⟨#[]⟩) := r6 6; have q7 : (X.alloc (.cells #[.int .i64 2, .int .i32 27, .bool false, .slice none 0 0] 47)).cell? ⟨w.heap.size + 1, 7, none⟩ = some (.pointer none) := r6 7; have q8 : (X.alloc (.cells #[.int .i64 2, .int .i32 27, .bool false, .slice none 0 0] 47)).cell? ⟨w.heap.size + 1, 8, none⟩ = some (.int .i64 0) := r6 8; have f0 := j6 0; have f1 := j6 1; have f2 := j6 2; have f3 := j6 3; have f4 := j6 4; have f5 := j6 5; have f6 := j6 6; have f7 := j6 7; have f8 := j6 8; clear r6 j6
  go_wp2_with fail
  refine at_world (FinP w ⟨0, ⟨0, 0, 0, 0⟩, false, ⟨#[]⟩, [], 0⟩ none (.slice (some ⟨X.heap.size, 0, none⟩) 1 1) 1 [⟨2, 27, false, []⟩]) (fin_put (s := ⟨0, ⟨0, 0, 0, 0⟩, false, ⟨#[]⟩, [], 0⟩) HY.out (kyW_new1 X _ 2 27 false) rfl rfl) ?_
  rintro Z ⟨⟨y9, k9, j9⟩, hk, hn, hb, hc⟩
  have HZ := Lib.hid (And.intro hc (And.intro hk (And.intro hn hb)))
  have e0 := k9 0
  have e1 := k9 1
  have e2 := k9 2
  have e3 := k9 3
  have e4 := k9 4
  have e5 := k9 5
  have e6 := k9 6
  have e7 := k9 7
  have e8 := k9 8
  clear hc hk hn hb k9 j9 y9 q0 q1 q2 q3 q4 q5 q6 q7 q8 f0 f1 f2 f3 f4 f5 f6 f7 f8 y6 
  refine bodyPost_ret (v := .tuple #[psV ⟨0, ⟨0, 0, 0, 0⟩, false, ⟨#[]⟩, [], 0⟩ none, .slice (some ⟨X.heap.size, 0, none⟩) 1 1]) (by simp at e0 e1 e2 e3 e4 e5 e6 e7 e8; simp [results, Try.results9, go_sem, e0, e1, e2, e3, e4, e5, e6, e7, e8]) rfl ⟨none, (some ⟨X.heap.size, 0, none⟩), 1, 1, rfl, HZ.out.1, HZ.out.2.1, HZ.out.2.2.1, HZ.out.2.2.2⟩

set_option maxHeartbeats 4000000 in
theorem tick_2 (h0 h1 h2 dn : Int) (sm : Bool) (srow : ByteArray) (stx : List Int) (scl : Nat) (T : Option Addr) (w : World) : Calls Try.prog 9 #[psV ⟨2, ⟨h0, h1, h2, dn⟩, sm, srow, stx, scl⟩ T] w (Tells (⟨0, ⟨0, 0, 0, 0⟩, false, ⟨#[]⟩, [], 0⟩, [⟨5, 0, false, []⟩]) w) := by
  have V0 := Lib.hid (fm_start w ⟨2, ⟨h0, h1, h2, dn⟩, sm, srow, stx, scl⟩ T)
  go_enter Try.func9, Try.ntmps9
  go_upto_region 1 with fail
  refine at_world (Fm w ⟨2, ⟨h0, h1, h2, dn⟩, sm, srow, stx, scl⟩ T) V0.out ?_
  intro X hX
  have V1 := Lib.hid hX
  clear hX V0
  obtain ⟨y1, k1, j1⟩ := (show _ from V1.out.b)
  have HY := Lib.hid (V1.out.later (belAlloc X (.cells #[.int .i64 5, .int .i32 0, .bool false, .slice none 0 0] 47)))
  obtain ⟨y6, r6, j6⟩ := (show _ from HY.out.r); have q0 : (X.alloc (.cells #[.int .i64 5, .int .i32 0, .bool false, .slice none 0 0] 47)).cell? ⟨w.heap.size + 1, 0, none⟩ = some (.int .i64 0) := r6 0; have q1 : (X.alloc (.cells #[.int .i64 5, .int .i32 0, .bool false, .slice none 0 0] 47)).cell? ⟨w.heap.size + 1, 1, none⟩ = some (.int .u8 0) := r6 1; have q2 : (X.alloc (.cells #[.int .i64 5, .int .i32 0, .bool false, .slice none 0 0] 47)).cell? ⟨w.heap.size + 1, 2, none⟩ = some (.int .u8 0) := r6 2; have q3 : (X.alloc (.cells #[.int .i64 5, .int .i32 0, .bool false, .slice none 0 0] 47)).cell? ⟨w.heap.size + 1, 3, none⟩ = some (.int .u8 0) := r6 3; have q4 : (X.alloc (.cells #[.int .i64 5, .int .i32 0, .bool false, .slice none 0 0] 47)).cell? ⟨w.heap.size + 1, 4, none⟩ = some (.int .i64 0) := r6 4; have q5 : (X.alloc (.cells #[.int .i64 5, .int .i32 0, .bool false, .slice none 0 0] 47)).cell? ⟨w.heap.size + 1, 5, none⟩ = some (.bool false) := r6 5; have q6 : (X.alloc (.cells #[.int .i64 5, .int .i32 0, .bool false, .slice none 0 0] 47)).cell? ⟨w.heap.size + 1, 6, none⟩ = some (.string ⟨#[]⟩) := r6 6; have q7 : (X.alloc (.cells #[.int .i64 5, .int .i32 0, .bool false, .slice none 0 0] 47)).cell? ⟨w.heap.size + 1, 7, none⟩ = some (.pointer none) := r6 7; have q8 : (X.alloc (.cells #[.int .i64 5, .int .i32 0, .bool false, .slice none 0 0] 47)).cell? ⟨w.heap.size + 1, 8, none⟩ = some (.int .i64 0) := r6 8; have f0 := j6 0; have f1 := j6 1; have f2 := j6 2; have f3 := j6 3; have f4 := j6 4; have f5 := j6 5; have f6 := j6 6; have f7 := j6 7; have f8 := j6 8; clear r6 j6
  go_wp2_with fail
  refine at_world (FinP w ⟨0, ⟨0, 0, 0, 0⟩, false, ⟨#[]⟩, [], 0⟩ none (.slice (some ⟨X.heap.size, 0, none⟩) 1 1) 1 [⟨5, 0, false, []⟩]) (fin_put (s := ⟨0, ⟨0, 0, 0, 0⟩, false, ⟨#[]⟩, [], 0⟩) HY.out (kyW_new1 X _ 5 0 false) rfl rfl) ?_
  rintro Z ⟨⟨y9, k9, j9⟩, hk, hn, hb, hc⟩
  have HZ := Lib.hid (And.intro hc (And.intro hk (And.intro hn hb)))
  have e0 := k9 0
  have e1 := k9 1
  have e2 := k9 2
  have e3 := k9 3
  have e4 := k9 4
  have e5 := k9 5
  have e6 := k9 6
  have e7 := k9 7
  have e8 := k9 8
  clear hc hk hn hb k9 j9 y9 q0 q1 q2 q3 q4 q5 q6 q7 q8 f0 f1 f2 f3 f4 f5 f6 f7 f8 y6 
  refine bodyPost_ret (v := .tuple #[psV ⟨0, ⟨0, 0, 0, 0⟩, false, ⟨#[]⟩, [], 0⟩ none, .slice (some ⟨X.heap.size, 0, none⟩) 1 1]) (by simp at e0 e1 e2 e3 e4 e5 e6 e7 e8; simp [results, Try.results9, go_sem, e0, e1, e2, e3, e4, e5, e6, e7, e8]) rfl ⟨none, (some ⟨X.heap.size, 0, none⟩), 1, 1, rfl, HZ.out.1, HZ.out.2.1, HZ.out.2.2.1, HZ.out.2.2.2⟩

set_option maxHeartbeats 4000000 in
theorem tick_3 (h0 h1 h2 dn : Int) (sm : Bool) (srow : ByteArray) (stx : List Int) (scl : Nat) (T : Option Addr) (w : World) : Calls Try.prog 9 #[psV ⟨3, ⟨h0, h1, h2, dn⟩, sm, srow, stx, scl⟩ T] w (Tells (⟨0, ⟨0, 0, 0, 0⟩, false, ⟨#[]⟩, [], 0⟩, [⟨5, 0, false, []⟩]) w) := by
  have V0 := Lib.hid (fm_start w ⟨3, ⟨h0, h1, h2, dn⟩, sm, srow, stx, scl⟩ T)
  go_enter Try.func9, Try.ntmps9
  go_upto_region 1 with fail
  refine at_world (Fm w ⟨3, ⟨h0, h1, h2, dn⟩, sm, srow, stx, scl⟩ T) V0.out ?_
  intro X hX
  have V1 := Lib.hid hX
  clear hX V0
  obtain ⟨y1, k1, j1⟩ := (show _ from V1.out.b)
  have HY := Lib.hid (V1.out.later (belAlloc X (.cells #[.int .i64 5, .int .i32 0, .bool false, .slice none 0 0] 47)))
  obtain ⟨y6, r6, j6⟩ := (show _ from HY.out.r); have q0 : (X.alloc (.cells #[.int .i64 5, .int .i32 0, .bool false, .slice none 0 0] 47)).cell? ⟨w.heap.size + 1, 0, none⟩ = some (.int .i64 0) := r6 0; have q1 : (X.alloc (.cells #[.int .i64 5, .int .i32 0, .bool false, .slice none 0 0] 47)).cell? ⟨w.heap.size + 1, 1, none⟩ = some (.int .u8 0) := r6 1; have q2 : (X.alloc (.cells #[.int .i64 5, .int .i32 0, .bool false, .slice none 0 0] 47)).cell? ⟨w.heap.size + 1, 2, none⟩ = some (.int .u8 0) := r6 2; have q3 : (X.alloc (.cells #[.int .i64 5, .int .i32 0, .bool false, .slice none 0 0] 47)).cell? ⟨w.heap.size + 1, 3, none⟩ = some (.int .u8 0) := r6 3; have q4 : (X.alloc (.cells #[.int .i64 5, .int .i32 0, .bool false, .slice none 0 0] 47)).cell? ⟨w.heap.size + 1, 4, none⟩ = some (.int .i64 0) := r6 4; have q5 : (X.alloc (.cells #[.int .i64 5, .int .i32 0, .bool false, .slice none 0 0] 47)).cell? ⟨w.heap.size + 1, 5, none⟩ = some (.bool false) := r6 5; have q6 : (X.alloc (.cells #[.int .i64 5, .int .i32 0, .bool false, .slice none 0 0] 47)).cell? ⟨w.heap.size + 1, 6, none⟩ = some (.string ⟨#[]⟩) := r6 6; have q7 : (X.alloc (.cells #[.int .i64 5, .int .i32 0, .bool false, .slice none 0 0] 47)).cell? ⟨w.heap.size + 1, 7, none⟩ = some (.pointer none) := r6 7; have q8 : (X.alloc (.cells #[.int .i64 5, .int .i32 0, .bool false, .slice none 0 0] 47)).cell? ⟨w.heap.size + 1, 8, none⟩ = some (.int .i64 0) := r6 8; have f0 := j6 0; have f1 := j6 1; have f2 := j6 2; have f3 := j6 3; have f4 := j6 4; have f5 := j6 5; have f6 := j6 6; have f7 := j6 7; have f8 := j6 8; clear r6 j6
  go_wp2_with fail
  refine at_world (FinP w ⟨0, ⟨0, 0, 0, 0⟩, false, ⟨#[]⟩, [], 0⟩ none (.slice (some ⟨X.heap.size, 0, none⟩) 1 1) 1 [⟨5, 0, false, []⟩]) (fin_put (s := ⟨0, ⟨0, 0, 0, 0⟩, false, ⟨#[]⟩, [], 0⟩) HY.out (kyW_new1 X _ 5 0 false) rfl rfl) ?_
  rintro Z ⟨⟨y9, k9, j9⟩, hk, hn, hb, hc⟩
  have HZ := Lib.hid (And.intro hc (And.intro hk (And.intro hn hb)))
  have e0 := k9 0
  have e1 := k9 1
  have e2 := k9 2
  have e3 := k9 3
  have e4 := k9 4
  have e5 := k9 5
  have e6 := k9 6
  have e7 := k9 7
  have e8 := k9 8
  clear hc hk hn hb k9 j9 y9 q0 q1 q2 q3 q4 q5 q6 q7 q8 f0 f1 f2 f3 f4 f5 f6 f7 f8 y6 
  refine bodyPost_ret (v := .tuple #[psV ⟨0, ⟨0, 0, 0, 0⟩, false, ⟨#[]⟩, [], 0⟩ none, .slice (some ⟨X.heap.size, 0, none⟩) 1 1]) (by simp at e0 e1 e2 e3 e4 e5 e6 e7 e8; simp [results, Try.results9, go_sem, e0, e1, e2, e3, e4, e5, e6, e7, e8]) rfl ⟨none, (some ⟨X.heap.size, 0, none⟩), 1, 1, rfl, HZ.out.1, HZ.out.2.1, HZ.out.2.2.1, HZ.out.2.2.2⟩

set_option maxHeartbeats 4000000 in
theorem tick_0 (h0 h1 h2 dn : Int) (sm : Bool) (srow : ByteArray) (stx : List Int) (scl : Nat) (T : Option Addr) (hs : DS.Ok ⟨h0, h1, h2, dn⟩) (w : World) : Calls Try.prog 9 #[psV ⟨0, ⟨h0, h1, h2, dn⟩, sm, srow, stx, scl⟩ T] w (Tells (⟨0, ⟨0, 0, 0, 0⟩, false, ⟨#[]⟩, [], 0⟩, charsK sm (endD ⟨h0, h1, h2, dn⟩)) w) := by
  have CE := Lib.hid (fun X => end_any ⟨h0, h1, h2, dn⟩ hs X)
  obtain ⟨lE, hE⟩ : ∃ l, endD ⟨h0, h1, h2, dn⟩ = l := ⟨_, rfl⟩
  have hl1 : lE.length ≤ 1 := by rw [← hE]; unfold endD; split <;> simp
  rw [hE] at CE ⊢
  have CH := Lib.hid (fun (X : World) (A : Option Addr) (c : Nat) (h : Rd X A lE.length (li lE)) => chars_any ⟨0, ⟨h0, h1, h2, dn⟩, sm, srow, stx, scl⟩ T A lE.length c lE X h rfl (by omega))
  obtain ⟨nE, hnE⟩ : ∃ n, lE.length = n := ⟨_, rfl⟩
  rw [hnE] at CE CH hl1
  clear hE hs hnE
  have V0 := Lib.hid (fm_start w ⟨0, ⟨h0, h1, h2, dn⟩, sm, srow, stx, scl⟩ T)
  go_enter Try.func9, Try.ntmps9
  go_upto_region 1 with fail
  refine at_world (Fm w ⟨0, ⟨h0, h1, h2, dn⟩, sm, srow, stx, scl⟩ T) V0.out ?_
  intro X hX
  have V1 := Lib.hid hX
  clear hX V0
  obtain ⟨y1, k1, j1⟩ := (show _ from V1.out.b)
  have HS := Lib.hid (show ∀ Z, Below X.heap.size X Z → SO w.heap.size ⟨0, ⟨h0, h1, h2, dn⟩, sm, srow, stx, scl⟩ T Z from fun Z hZ => so_blk (V1.out.later hZ).b)
  go_upto_region 9 with fail
  refine wp_region_held (S := SO w.heap.size ⟨0, ⟨h0, h1, h2, dn⟩, sm, srow, stx, scl⟩ T) (by kernel_rfl) ?_
  change wpAnyH _ _ _ _ _ _ _ _ (World.drew _)
  refine wpAnyH_take (i := 0) (oi := { dst := some 20, op := Go.Op.build 28 #[], type := 28, pos := "keys.go:211", after := #[], guard := none }) (v := ?_) rfl (by kernel_rfl) (by kernel_rfl) (by kernel_rfl) (fun _ _ _ h => h) (Or.inl ⟨by rfl, ?_⟩) (by exact HS.out _ (Below.refl _ _).drew) ?_
  rotate_left
  · intro Z hZ; clear hZ; go_simp; try with_reducible rfl
  simp only [Act.put, List.setIfInBounds_toArray, List.set_cons_zero, List.set_cons_succ]
  refine wpAnyH_take (i := 1) (oi := { dst := some 21, op := Go.Op.load 28 (Go.Operand.tmp 1), type := 28, pos := "keys.go:211", after := #[], guard := none }) (v := ?_) rfl (by kernel_rfl) (by kernel_rfl) (by kernel_rfl) (fun _ _ _ h => h) (Or.inl ⟨by rfl, ?_⟩) (by exact HS.out _ (Below.refl _ _).drew) ?_
  rotate_left
  · intro Z hZ; obtain ⟨p0, p1, p2, p3, p4, p5, p6, p7, p8⟩ := hZ; dsimp only at p0 p1 p2 p3 p4 p5 p6 p7 p8; go_simp; try with_reducible rfl
  simp only [Act.put, List.setIfInBounds_toArray, List.set_cons_zero, List.set_cons_succ]
  refine wpAnyH_take (i := 2) (oi := { dst := some 22, op := Go.Op.fieldAddr 28 (Go.Operand.tmp 1) 1, type := 0, pos := "keys.go:211", after := #[], guard := none }) (v := ?_) rfl (by kernel_rfl) (by kernel_rfl) (by kernel_rfl) (fun _ _ _ h => h) (Or.inl ⟨by rfl, ?_⟩) (by exact HS.out _ (Below.refl _ _).drew) ?_
  rotate_left
  · intro Z hZ; clear hZ; go_simp; try with_reducible rfl
  simp only [Act.put, List.setIfInBounds_toArray, List.set_cons_zero, List.set_cons_succ]
  refine wpAnyH_take (i := 3) (oi := { dst := some 23, op := Go.Op.load 25 (Go.Operand.tmp 22), type := 25, pos := "keys.go:211", after := #[{ on := 2, ground := Go.Ground.data }], guard := none }) (v := ?_) rfl (by kernel_rfl) (by kernel_rfl) (by kernel_rfl) (fun _ _ _ h => h) (Or.inl ⟨by rfl, ?_⟩) (by exact HS.out _ (Below.refl _ _).drew) ?_
  rotate_left
  · intro Z hZ; obtain ⟨p0, p1, p2, p3, p4, p5, p6, p7, p8⟩ := hZ; dsimp only at p0 p1 p2 p3 p4 p5 p6 p7 p8; go_simp; try with_reducible rfl
  simp only [Act.put, List.setIfInBounds_toArray, List.set_cons_zero, List.set_cons_succ]
  refine wpAnyH_all (rs := [4]) (by kernel_rfl) (by simp) (List.forall_mem_cons.2 ⟨wpOp_some (o := { dst := some 24, op := Go.Op.call { callee := Go.Callee.value (Go.Operand.func 31), args := #[Go.Operand.tmp 23], argTypes := #[25] }, type := 42, pos := "keys.go:211", after := #[{ on := 3, ground := Go.Ground.data }], guard := none }) rfl (by rfl) (fun J hJ => ?_), (by simp)⟩)
  go_simp; refine (CE.out _).mono ?_; rintro e w3 ⟨A3, c3, rfl, r3, hb3⟩; have B3 := Lib.hid ((Below.refl X.heap.size X).drew.trans hb3); have R3 := Lib.hid r3; clear hb3 r3; dsimp only; refine hJ _ _ ⟨by exact HS.out _ B3.out, ?_⟩; clear hJ J
  refine wpAnyH_all (rs := [5]) (by kernel_rfl) (by simp) (List.forall_mem_cons.2 ⟨wpOp_some (o := { dst := some 25, op := Go.Op.call { callee := Go.Callee.value (Go.Operand.func 30), args := #[Go.Operand.tmp 21, Go.Operand.tmp 24], argTypes := #[28, 42] }, type := 32, pos := "keys.go:211", after := #[{ on := 1, ground := Go.Ground.data }, { on := 4, ground := Go.Ground.data }, { on := 4, ground := Go.Ground.chain }], guard := none }) rfl (by rfl) (fun J hJ => ?_), (by simp)⟩)
  go_simp; refine (CH.out _ A3 c3 R3.out).mono ?_; rintro e w4 ⟨A4, c4, rfl, k4, hb4⟩; have B4 := Lib.hid (belowStep (W := X) B3.out hb4); have V4 := Lib.hid (And.intro (V1.out.later B4.out) (kyO_low k4 (Nat.lt_of_lt_of_le V1.out.r.1 B3.out.size))); clear hb4 k4; obtain ⟨y6, r6, j6⟩ := (show _ from V4.out.1.r); have q0 : w4.cell? ⟨w.heap.size + 1, 0, none⟩ = some (.int .i64 0) := r6 0; have q1 : w4.cell? ⟨w.heap.size + 1, 1, none⟩ = some (.int .u8 0) := r6 1; have q2 : w4.cell? ⟨w.heap.size + 1, 2, none⟩ = some (.int .u8 0) := r6 2; have q3 : w4.cell? ⟨w.heap.size + 1, 3, none⟩ = some (.int .u8 0) := r6 3; have q4 : w4.cell? ⟨w.heap.size + 1, 4, none⟩ = some (.int .i64 0) := r6 4; have q5 : w4.cell? ⟨w.heap.size + 1, 5, none⟩ = some (.bool false) := r6 5; have q6 : w4.cell? ⟨w.heap.size + 1, 6, none⟩ = some (.string ⟨#[]⟩) := r6 6; have q7 : w4.cell? ⟨w.heap.size + 1, 7, none⟩ = some (.pointer none) := r6 7; have q8 : w4.cell? ⟨w.heap.size + 1, 8, none⟩ = some (.int .i64 0) := r6 8; have f0 := j6 0; have f1 := j6 1; have f2 := j6 2; have f3 := j6 3; have f4 := j6 4; have f5 := j6 5; have f6 := j6 6; have f7 := j6 7; have f8 := j6 8; clear r6 j6; dsimp only; refine hJ _ _ ⟨by exact HS.out _ B4.out, ?_⟩; clear hJ J
  refine wpAnyH_all (rs := [6]) (by kernel_rfl) (by simp) (List.forall_mem_cons.2 ⟨wpOp_some (o := { dst := none, op := Go.Op.store 28 (Go.Operand.tmp 2) (Go.Operand.tmp 20), type := 0, pos := "keys.go:211", after := #[{ on := 0, ground := Go.Ground.data }, { on := 5, ground := Go.Ground.chain }, { on := 0, ground := Go.Ground.phase }, { on := 1, ground := Go.Ground.textOnly Go.Departure.lateStores }, { on := 2, ground := Go.Ground.textOnly Go.Departure.lateStores }, { on := 3, ground := Go.Ground.textOnly Go.Departure.lateStores }, { on := 4, ground := Go.Ground.textOnly Go.Departure.lateStoresUnsure }, { on := 5, ground := Go.Ground.textOnly Go.Departure.lateStoresUnsure }], guard := none }) rfl (by rfl) (fun J hJ => ?_), (by simp)⟩)
  go_simp; refine hJ _ _ ⟨by exact so_blk (put9_far V4.out.1.b (Nat.succ_ne_self _) _ _ _ _ _ _ _ _ _), ?_⟩; clear hJ J
  refine wpAnyH_take (i := 7) (oi := { dst := some 3, op := Go.Op.assign (Go.Operand.tmp 25), type := 32, pos := "keys.go:211", after := #[{ on := 5, ground := Go.Ground.data }, { on := 6, ground := Go.Ground.chain }, { on := 0, ground := Go.Ground.phase }, { on := 1, ground := Go.Ground.phase }, { on := 2, ground := Go.Ground.phase }, { on := 3, ground := Go.Ground.phase }, { on := 4, ground := Go.Ground.phase }, { on := 5, ground := Go.Ground.phase }, { on := 6, ground := Go.Ground.phase }], guard := none }) (v := ?_) rfl (by kernel_rfl) (by kernel_rfl) (by kernel_rfl) (fun _ _ _ h => h) (Or.inl ⟨by rfl, ?_⟩) (by exact so_blk (put9_far V4.out.1.b (Nat.succ_ne_self _) _ _ _ _ _ _ _ _ _)) ?_
  rotate_left
  · intro Z hZ; clear hZ; go_simp; try with_reducible rfl
  simp only [Act.put, List.setIfInBounds_toArray, List.set_cons_zero, List.set_cons_succ]
  refine wpAnyH_done (by kernel_rfl) ?_ _
  go_wp2_with fail
  refine at_world (FinP w ⟨0, ⟨0, 0, 0, 0⟩, false, ⟨#[]⟩, [], 0⟩ none (.slice A4 nE c4) nE (charsK sm lE)) (fin_put (s := ⟨0, ⟨0, 0, 0, 0⟩, false, ⟨#[]⟩, [], 0⟩) V4.out.1 (kyW_own V4.out.2).1 (kyW_own V4.out.2).2 rfl) ?_
  rintro Z ⟨⟨y9, k9, j9⟩, hk, hn, hb, hc⟩
  have HZ := Lib.hid (And.intro hc (And.intro hk (And.intro hn hb)))
  have e0 := k9 0
  have e1 := k9 1
  have e2 := k9 2
  have e3 := k9 3
  have e4 := k9 4
  have e5 := k9 5
  have e6 := k9 6
  have e7 := k9 7
  have e8 := k9 8
  clear hc hk hn hb k9 j9 y9 q0 q1 q2 q3 q4 q5 q6 q7 q8 f0 f1 f2 f3 f4 f5 f6 f7 f8 y6 
  refine bodyPost_ret (v := .tuple #[psV ⟨0, ⟨0, 0, 0, 0⟩, false, ⟨#[]⟩, [], 0⟩ none, .slice A4 nE c4]) (by simp at e0 e1 e2 e3 e4 e5 e6 e7 e8; simp [results, Try.results9, go_sem, e0, e1, e2, e3, e4, e5, e6, e7, e8]) rfl ⟨none, A4, nE, c4, rfl, HZ.out.1, HZ.out.2.1, HZ.out.2.2.1, HZ.out.2.2.2⟩


theorem tick_any (s : KS) (T : Option Addr) (hok : s.Ok) (w : World) (hc : Chain w T s.tx) : Calls Try.prog 9 #[psV s T] w (Tells (tickK s) w) := by
  obtain ⟨hd, h | h | h | h | h⟩ := hok
  · obtain ⟨sw, ⟨h0, h1, h2, dn⟩, sm, srow, stx, scl⟩ := s
    obtain ⟨e1, e2, e3, e4⟩ := h
    dsimp only at e1 e2 e3 e4
    subst e1 e2 e3 e4
    exact tick_0 h0 h1 h2 dn sm _ _ _ T hd w
  · subst h
    exact tick_1 0 0 0 0 false _ _ _ T w
  · obtain ⟨r, rfl, _⟩ := h
    exact tick_2 0 0 0 0 false _ _ _ T w
  · subst h
    exact tick_3 0 0 0 0 false _ _ _ T w
  · obtain ⟨tx, cl, rfl, _⟩ := h
    exact tick_4 0 0 0 0 false _ _ _ T w hc
end Go.Proofs.Ytkkenabckhmkoaa
