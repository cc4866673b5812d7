/- keys: alone at a control byte. -/
import Derived.Test.YtkkenabckhmkoaaKyE
namespace Go.Proofs.Ytkkenabckhmkoaa
open Go.RowKit
set_option linter.unusedVariables false
set_option linter.unusedSimpArgs false
set_option maxRecDepth 100000


set_option maxHeartbeats 4000000 in
theorem alone_esc (s : KS) (T : Option Addr) (b : Int) (hs : s.d.Ok) (hc : ctlB b = true) (hb : b = 27) (w : World) :
    Calls Try.prog 22 #[psV s T, .int .u8 b] w (Tells (⟨1, ⟨0, 0, 0, 0⟩, false, ⟨#[]⟩, [], 0⟩, charsK s.m (endD s.d)) w) := by
  subst hb
  have CC := Lib.hid (fun X => control_any 27 X)
  rw [hc] at CC
  have CE := Lib.hid (fun X => end_any s.d hs X)
  obtain ⟨lE, hE⟩ : ∃ l, endD s.d = l := ⟨_, rfl⟩
  have hl1 : lE.length ≤ 1 := by rw [← hE]; unfold endD; split <;> simp
  rw [hE] at CE ⊢
  have CH := Lib.hid (fun (X : World) (A : Option Addr) (c : Nat) (h : Rd X A lE.length (li lE)) => chars_any s T A lE.length c lE X h rfl (by omega))
  obtain ⟨nE, hnE⟩ : ∃ n, lE.length = n := ⟨_, rfl⟩
  rw [hnE] at CE CH hl1
  clear hE hc hs hnE
  obtain ⟨sw, ⟨h0, h1, h2, dn⟩, sm, srow, stx, scl⟩ := s
  have V0 := Lib.hid (fm_start w ⟨sw, ⟨h0, h1, h2, dn⟩, sm, srow, stx, scl⟩ T)
  go_enter Try.func22, Try.ntmps22
  go_upto_region 1 with fail
  refine at_world (Fm w ⟨sw, ⟨h0, h1, h2, dn⟩, sm, srow, stx, scl⟩ T) V0.out ?_
  intro X hX
  have V1 := Lib.hid hX
  clear hX V0
  have HS := Lib.hid (show ∀ Z, Below X.heap.size X Z → (fun Z => Z.cell? ⟨w.heap.size, 0, none⟩ = some (.int .i64 sw) ∧ Z.cell? ⟨w.heap.size, 1, none⟩ = some (.int .u8 h0) ∧ Z.cell? ⟨w.heap.size, 2, none⟩ = some (.int .u8 h1) ∧ Z.cell? ⟨w.heap.size, 3, none⟩ = some (.int .u8 h2) ∧ Z.cell? ⟨w.heap.size, 4, none⟩ = some (.int .i64 dn) ∧ Z.cell? ⟨w.heap.size, 5, none⟩ = some (.bool sm) ∧ Z.cell? ⟨w.heap.size, 6, none⟩ = some (.string srow) ∧ Z.cell? ⟨w.heap.size, 7, none⟩ = some (.pointer T) ∧ Z.cell? ⟨w.heap.size, 8, none⟩ = some (.int .i64 scl)) Z from fun Z hZ => by
    have h := (V1.out.later hZ).b.2.1
    exact ⟨h 0, h 1, h 2, h 3, h 4, h 5, h 6, h 7, h 8⟩)
  have hD := (Below.refl X.heap.size X).drew
  go_upto_region 3 with ((go_at_call 37; refine (CC.out _).mono ?_; rintro e _ ⟨rfl, rfl⟩))
  go_region_held3 (fun Z => Z.cell? ⟨w.heap.size, 0, none⟩ = some (.int .i64 sw) ∧ Z.cell? ⟨w.heap.size, 1, none⟩ = some (.int .u8 h0) ∧ Z.cell? ⟨w.heap.size, 2, none⟩ = some (.int .u8 h1) ∧ Z.cell? ⟨w.heap.size, 3, none⟩ = some (.int .u8 h2) ∧ Z.cell? ⟨w.heap.size, 4, none⟩ = some (.int .i64 dn) ∧ Z.cell? ⟨w.heap.size, 5, none⟩ = some (.bool sm) ∧ Z.cell? ⟨w.heap.size, 6, none⟩ = some (.string srow) ∧ Z.cell? ⟨w.heap.size, 7, none⟩ = some (.pointer T) ∧ Z.cell? ⟨w.heap.size, 8, none⟩ = some (.int .i64 scl))
    (first | exact HS.out _ (by assumption) | go_keep)
    (first
    | (go_at_call 31; refine (CE.out _).mono ?_; rintro e w3 ⟨A3, c3, rfl, r3, hb3⟩; have hB3 := belowStep (W := X) (by assumption) hb3; have R3 := Lib.hid r3; clear hb3 r3)
    | (go_at_call 30; refine (CH.out _ A3 c3 R3.out).mono ?_; rintro e w4 ⟨A4, c4, rfl, k4, hb4⟩; have K4 := Lib.hid (kyO_low k4 (show w.heap.size + 1 < _ from Nat.lt_of_lt_of_le V1.out.r.1 (Below.size (by assumption)))); have hB4 := belowStep (W := X) (by assumption) hb4; clear hb4 k4))
  all_goals
    have V4 := Lib.hid (And.intro (V1.out.later hB4) K4.out)
    clear HS hD hB3 hB4 K4 R3 CC CE CH
    obtain ⟨y6, r6, j6⟩ := (show _ from V4.out.1.r); have q0 : w4.cell? ⟨w.heap.size + 1, 0, none⟩ = some (.int .i64 0) := r6 0; have q1 : w4.cell? ⟨w.heap.size + 1, 1, none⟩ = some (.int .u8 0) := r6 1; have q2 : w4.cell? ⟨w.heap.size + 1, 2, none⟩ = some (.int .u8 0) := r6 2; have q3 : w4.cell? ⟨w.heap.size + 1, 3, none⟩ = some (.int .u8 0) := r6 3; have q4 : w4.cell? ⟨w.heap.size + 1, 4, none⟩ = some (.int .i64 0) := r6 4; have q5 : w4.cell? ⟨w.heap.size + 1, 5, none⟩ = some (.bool false) := r6 5; have q6 : w4.cell? ⟨w.heap.size + 1, 6, none⟩ = some (.string ⟨#[]⟩) := r6 6; have q7 : w4.cell? ⟨w.heap.size + 1, 7, none⟩ = some (.pointer none) := r6 7; have q8 : w4.cell? ⟨w.heap.size + 1, 8, none⟩ = some (.int .i64 0) := r6 8; have f0 := j6 0; have f1 := j6 1; have f2 := j6 2; have f3 := j6 3; have f4 := j6 4; have f5 := j6 5; have f6 := j6 6; have f7 := j6 7; have f8 := j6 8; clear r6 j6
    go_wp2_with fail
    refine at_world (FinP w ⟨1, ⟨0, 0, 0, 0⟩, false, ⟨#[]⟩, [], 0⟩ none (.slice A4 nE c4) nE (charsK sm lE)) (fin_put (s := ⟨1, ⟨0, 0, 0, 0⟩, false, ⟨#[]⟩, [], 0⟩) V4.out.1 (kyW_own V4.out.2).1 (kyW_own V4.out.2).2 rfl) ?_
    rintro Z ⟨⟨y9, k9, j9⟩, hk, hn, hb, hc⟩
    have HZ := Lib.hid (And.intro hc (And.intro hk (And.intro hn hb)))
    have e0 := k9 0
    have e1 := k9 1
    have e2 := k9 2
    have e3 := k9 3
    have e4 := k9 4
    have e5 := k9 5
    have e6 := k9 6
    have e7 := k9 7
    have e8 := k9 8
    clear hc hk hn hb k9 j9 y9 q0 q1 q2 q3 q4 q5 q6 q7 q8 f0 f1 f2 f3 f4 f5 f6 f7 f8 y6 
    refine bodyPost_ret (v := .tuple #[psV ⟨1, ⟨0, 0, 0, 0⟩, false, ⟨#[]⟩, [], 0⟩ none, .slice A4 nE c4]) (by simp at e0 e1 e2 e3 e4 e5 e6 e7 e8; simp [results, Try.results22, go_sem, e0, e1, e2, e3, e4, e5, e6, e7, e8]) rfl ⟨none, A4, nE, c4, rfl, HZ.out.1, HZ.out.2.1, HZ.out.2.2.1, HZ.out.2.2.2⟩

set_option maxHeartbeats 4000000 in
theorem alone_ctl (s : KS) (T : Option Addr) (b : Int) (hs : s.d.Ok) (hc : ctlB b = true) (hb : b ≠ 27) (b0 : 0 ≤ b) (b1 : b ≤ 255) (w : World) :
    Calls Try.prog 22 #[psV s T, .int .u8 b] w (Tells (⟨0, ⟨0, 0, 0, 0⟩, false, ⟨#[]⟩, [], 0⟩, charsK s.m (endD s.d) ++ [⟨2, b, false, []⟩]) w) := by
  have HBB := Lib.hid (show (b == 27) = false by simpa using hb)
  clear hb
  have CC := Lib.hid (fun X => control_any b X)
  rw [hc] at CC
  have CE := Lib.hid (fun X => end_any s.d hs X)
  obtain ⟨lE, hE⟩ : ∃ l, endD s.d = l := ⟨_, rfl⟩
  have hl1 : lE.length ≤ 1 := by rw [← hE]; unfold endD; split <;> simp
  rw [hE] at CE ⊢
  have CH := Lib.hid (fun (X : World) (A : Option Addr) (c : Nat) (h : Rd X A lE.length (li lE)) => chars_any s T A lE.length c lE X h rfl (by omega))
  obtain ⟨nE, hnE⟩ : ∃ n, lE.length = n := ⟨_, rfl⟩
  rw [hnE] at CE CH hl1
  clear hE hc hs hnE
  obtain ⟨sw, ⟨h0, h1, h2, dn⟩, sm, srow, stx, scl⟩ := s
  have V0 := Lib.hid (fm_start w ⟨sw, ⟨h0, h1, h2, dn⟩, sm, srow, stx, scl⟩ T)
  go_enter Try.func22, Try.ntmps22
  go_upto_region 1 with fail
  refine at_world (Fm w ⟨sw, ⟨h0, h1, h2, dn⟩, sm, srow, stx, scl⟩ T) V0.out ?_
  intro X hX
  have V1 := Lib.hid hX
  clear hX V0
  have HS := Lib.hid (show ∀ Z, Below X.heap.size X Z → (fun Z => Z.cell? ⟨w.heap.size, 0, none⟩ = some (.int .i64 sw) ∧ Z.cell? ⟨w.heap.size, 1, none⟩ = some (.int .u8 h0) ∧ Z.cell? ⟨w.heap.size, 2, none⟩ = some (.int .u8 h1) ∧ Z.cell? ⟨w.heap.size, 3, none⟩ = some (.int .u8 h2) ∧ Z.cell? ⟨w.heap.size, 4, none⟩ = some (.int .i64 dn) ∧ Z.cell? ⟨w.heap.size, 5, none⟩ = some (.bool sm) ∧ Z.cell? ⟨w.heap.size, 6, none⟩ = some (.string srow) ∧ Z.cell? ⟨w.heap.size, 7, none⟩ = some (.pointer T) ∧ Z.cell? ⟨w.heap.size, 8, none⟩ = some (.int .i64 scl)) Z from fun Z hZ => by
    have h := (V1.out.later hZ).b.2.1
    exact ⟨h 0, h 1, h 2, h 3, h 4, h 5, h 6, h 7, h 8⟩)
  have hD := (Below.refl X.heap.size X).drew
  go_upto_region 3 with ((go_at_call 37; refine (CC.out _).mono ?_; rintro e _ ⟨rfl, rfl⟩))
  go_region_held3 (fun Z => Z.cell? ⟨w.heap.size, 0, none⟩ = some (.int .i64 sw) ∧ Z.cell? ⟨w.heap.size, 1, none⟩ = some (.int .u8 h0) ∧ Z.cell? ⟨w.heap.size, 2, none⟩ = some (.int .u8 h1) ∧ Z.cell? ⟨w.heap.size, 3, none⟩ = some (.int .u8 h2) ∧ Z.cell? ⟨w.heap.size, 4, none⟩ = some (.int .i64 dn) ∧ Z.cell? ⟨w.heap.size, 5, none⟩ = some (.bool sm) ∧ Z.cell? ⟨w.heap.size, 6, none⟩ = some (.string srow) ∧ Z.cell? ⟨w.heap.size, 7, none⟩ = some (.pointer T) ∧ Z.cell? ⟨w.heap.size, 8, none⟩ = some (.int .i64 scl))
    (first | exact HS.out _ (by assumption) | go_keep)
    (first
    | (go_at_call 31; refine (CE.out _).mono ?_; rintro e w3 ⟨A3, c3, rfl, r3, hb3⟩; have hB3 := belowStep (W := X) (by assumption) hb3; have R3 := Lib.hid r3; clear hb3 r3)
    | (go_at_call 30; refine (CH.out _ A3 c3 R3.out).mono ?_; rintro e w4 ⟨A4, c4, rfl, k4, hb4⟩; have K4 := Lib.hid (kyO_low k4 (show w.heap.size + 1 < _ from Nat.lt_of_lt_of_le V1.out.r.1 (Below.size (by assumption)))); have hB4 := belowStep (W := X) (by assumption) hb4; clear hb4 k4))
  all_goals
    have V4 := Lib.hid (And.intro (V1.out.later hB4) K4.out)
    clear HS hD hB3 hB4 K4 R3 CC CE CH
    obtain ⟨hs, o4, g4⟩ := (show _ from V4.out.2)
    have O4 := Lib.hid (And.intro o4 g4)
    have hz1 : w.heap.size + 2 ≤ w4.heap.size := V4.out.1.r.1
    have hbb := HBB.out
    clear o4 g4
    go_wp2_with (at_builtin; refine wpList_push (w0 := w4) key_elt O4.out.1 hz1 rfl rfl rfl rfl rfl rfl rfl (by unfold maxLen; omega) (by omega) ?_; intro A6 c6 w6 hp; have V6 := Lib.hid (And.intro (fm_push V4.out.1 O4.out.1 hp) (kyO_push (k := 2) (r := b) (m := false) O4.out.2 (charsK_bare sm lE) hp)); clear hp; obtain ⟨y6, r6, j6⟩ := (show _ from V6.out.1.r); have q0 : w6.cell? ⟨w.heap.size + 1, 0, none⟩ = some (.int .i64 0) := r6 0; have q1 : w6.cell? ⟨w.heap.size + 1, 1, none⟩ = some (.int .u8 0) := r6 1; have q2 : w6.cell? ⟨w.heap.size + 1, 2, none⟩ = some (.int .u8 0) := r6 2; have q3 : w6.cell? ⟨w.heap.size + 1, 3, none⟩ = some (.int .u8 0) := r6 3; have q4 : w6.cell? ⟨w.heap.size + 1, 4, none⟩ = some (.int .i64 0) := r6 4; have q5 : w6.cell? ⟨w.heap.size + 1, 5, none⟩ = some (.bool false) := r6 5; have q6 : w6.cell? ⟨w.heap.size + 1, 6, none⟩ = some (.string ⟨#[]⟩) := r6 6; have q7 : w6.cell? ⟨w.heap.size + 1, 7, none⟩ = some (.pointer none) := r6 7; have q8 : w6.cell? ⟨w.heap.size + 1, 8, none⟩ = some (.int .i64 0) := r6 8; have f0 := j6 0; have f1 := j6 1; have f2 := j6 2; have f3 := j6 3; have f4 := j6 4; have f5 := j6 5; have f6 := j6 6; have f7 := j6 7; have f8 := j6 8; clear r6 j6)
    refine at_world (FinP w ⟨0, ⟨0, 0, 0, 0⟩, false, ⟨#[]⟩, [], 0⟩ none (.slice A6 (nE + 1) c6) (nE + 1) (charsK sm lE ++ [⟨2, b, false, []⟩])) (fin_put (s := ⟨0, ⟨0, 0, 0, 0⟩, false, ⟨#[]⟩, [], 0⟩) V6.out.1 (kyW_own V6.out.2).1 (kyW_own V6.out.2).2 rfl) ?_
    rintro Z ⟨⟨y9, k9, j9⟩, hk, hn, hb, hc⟩
    have HZ := Lib.hid (And.intro hc (And.intro hk (And.intro hn hb)))
    have e0 := k9 0
    have e1 := k9 1
    have e2 := k9 2
    have e3 := k9 3
    have e4 := k9 4
    have e5 := k9 5
    have e6 := k9 6
    have e7 := k9 7
    have e8 := k9 8
    clear hc hk hn hb k9 j9 y9 q0 q1 q2 q3 q4 q5 q6 q7 q8 f0 f1 f2 f3 f4 f5 f6 f7 f8 y6 
    refine bodyPost_ret (v := .tuple #[psV ⟨0, ⟨0, 0, 0, 0⟩, false, ⟨#[]⟩, [], 0⟩ none, .slice A6 (nE + 1) c6]) (by simp at e0 e1 e2 e3 e4 e5 e6 e7 e8; simp [results, Try.results22, go_sem, e0, e1, e2, e3, e4, e5, e6, e7, e8]) rfl ⟨none, A6, (nE + 1), c6, rfl, HZ.out.1, HZ.out.2.1, HZ.out.2.2.1, HZ.out.2.2.2⟩

theorem alone_any (s : KS) (T : Option Addr) (b : Int) (b0 : 0 ≤ b) (b1 : b ≤ 255) (hs : s.d.Ok) (w : World) :
    Calls Try.prog 22 #[psV s T, .int .u8 b] w (Tells (aloneK s.d s.m b) w) := by
  unfold aloneK
  by_cases hc : ctlB b = true
  · rw [if_pos hc]
    by_cases hb : b = 27
    · rw [if_pos hb]
      exact alone_esc s T b hs hc hb w
    · rw [if_neg hb]
      exact alone_ctl s T b hs hc hb b0 b1 w
  · rw [if_neg hc]
    exact alone_dec s T b b0 b1 hs (by simpa using hc) w
end Go.Proofs.Ytkkenabckhmkoaa
